/-
  Slices of arrays of bytes that are made; the contract of the program's Words.
-/
import Derived.Test.YtadpnkecdjleiaaAwords
import Derived.Test.YtadpnkecdjleiaaAenc
namespace Go.Proofs.Ytadpnkecdjleiaa
open Go.RowKit
set_option linter.unusedVariables false
set_option linter.unusedSimpArgs false

theorem made_vals (n s : Nat) (hs : 0 < s) : madeCells (Value.agg (vals s fun _ => 0).toArray).cells (n * s) = (vals (n * s) fun _ => 0).toArray := by
  apply Array.ext
  · simp [madeCells, vals_length]
  · intro i h1 h2
    have hi : i % s < s := Nat.mod_lt _ hs
    simp only [madeCells, Value.cells, List.size_toArray, vals_length, Array.getElem_map, Array.getElem_range]
    rw [getElem!_pos _ _ (by rw [List.size_toArray, vals_length]; exact hi)]
    simp [vals]

/-- make([]T, n), T an array of bytes. -/
theorem wpList_make_arr {P : Program} (w : World) {ops : Array Oper} {rest : List Oper} {o : Oper} {a : Act} {Q : Exit → Act → World → Prop}
    (hg : o.guard = none) (l c : Operand) (t : TypeId) (hop : o.op = Op.makeSlice t l c)
    (e : TypeId) (i : TypeInfo) (s : Nat) (hs : 0 < s) (hs2 : s ≤ 16) (h1 : P.underlying t = some (.slice e)) (h2 : P.info? e = some i) (h3 : i.zero = some (.agg (vals s fun _ => 0).toArray)) (h4 : i.size = s) (h5 : i.bytes = s)
    (kl kc : IntKind) (L C : Int) (n : Nat) (hl : a.eval l = .int kl L) (hc : a.eval c = .int kc C) (hL : L = (n : Int)) (hC : C = (n : Int)) (b2 : n ≤ 1000)
    (hK : wpList P ops Q rest (a.put o.dst (.slice (some ⟨w.heap.size, 0, none⟩) n n)) (w.alloc (.cells (vals (n * s) fun _ => 0).toArray e))) :
    wpList P ops Q (o :: rest) a w := by
  refine wpList_plain hg fun K hK' => ?_
  subst hL hC
  have hns : n * s ≤ 1000 * 16 := Nat.mul_le_mul b2 hs2
  have hns2 : s * n ≤ 1000 * 16 := by rw [Nat.mul_comm]; exact hns
  have hr := run_make (P := P) w t e i _ h1 h2 h3 kl kc n n (by omega) (by omega) (by rw [h5]; omega) (by omega)
  simp only [Int.toNat_natCast, h4] at hr
  rw [made_vals n s hs] at hr
  unfold Oper.wp
  simp [execOp, hop, hl, hc, hr, Result.andThen]
  exact hK' _ _ hK

theorem Try.infoWord : (Try.prog.info? 68).map (fun i => (i.zero, i.size, i.bytes)) = some (some (.agg (vals 4 fun _ => 0).toArray), 4, 4) := by kernel_rfl
theorem Try.infoState : (Try.prog.info? 69).map (fun i => (i.zero, i.size, i.bytes)) = some (some (.agg (vals 16 fun _ => 0).toArray), 16, 16) := by kernel_rfl
end Go.Proofs.Ytadpnkecdjleiaa
