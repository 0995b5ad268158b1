/-
  The cells of arrays of noughts, one behind the other. No program.
-/
import Derived.Test.YtlbhoijjbpjmoaaKa
import Derived.Laws.MakeOwn
namespace Go.Proofs.Ytlbhoijjbpjmoaa
open Go.RowKit

theorem made_vals (n s : Nat) (hs : 0 < s) : madeCells (Value.agg (vals s fun _ => 0).toArray).cells (n * s) = (vals (n * s) fun _ => 0).toArray := by
  apply Array.ext
  · simp [madeCells, vals_length]
  · intro i h1 h2
    have hi : i % s < s := Nat.mod_lt _ hs
    simp only [madeCells, Value.cells, List.size_toArray, vals_length, Array.getElem_map, Array.getElem_range]
    rw [getElem!_pos _ _ (by rw [List.size_toArray, vals_length]; exact hi)]
    simp [vals]

variable {P : Program}
/-- make([]T, n), T an array of bytes, as a step of a region. -/
theorem step_make_arr {w : World} {ops : Array Oper} {o : Oper} {a : Act} {K : Act → World → Prop} {Q : Exit → Act → World → Prop} {E : Prop} (hgd : o.guard = none) (l c : Operand) (t : TypeId) (hop : o.op = Op.makeSlice t l c)
    (e : TypeId) (i : TypeInfo) (s : Nat) (hs : 0 < s) (hs2 : s ≤ 256) (h1 : P.underlying t = some (.slice e)) (h2 : P.info? e = some i) (h3 : i.zero = some (.agg (vals s fun _ => 0).toArray)) (h4 : i.size = s) (h5 : i.bytes = s)
    (n : Nat) (hl : a.eval l = .int .i64 n) (hc : a.eval c = .int .i64 n) (hn : n ≤ 10000)
    (hK : K (a.put o.dst (.slice (some ⟨w.heap.size, 0, none⟩) n n)) (w.alloc (.cells (vals (n * s) fun _ => 0).toArray e))) :
    if Region.wanted o (yielded ops a.tmps) = true then Oper.wp P o a w K Q else E := by
  have hw : Region.wanted o (yielded ops a.tmps) = true := by simp [Region.wanted, hgd]
  rw [if_pos hw]
  have hns : n * s ≤ 10000 * 256 := Nat.mul_le_mul hn hs2
  have hns2 : s * n ≤ 10000 * 256 := by rw [Nat.mul_comm]; exact hns
  have hr := run_make (P := P) w t e i _ h1 h2 h3 .i64 .i64 n n (by omega) (by omega) (by rw [h5]; omega) (by omega)
  simp only [Int.toNat_natCast, h4] at hr
  rw [made_vals n s hs] at hr
  unfold Oper.wp
  simp [execOp, hop, hl, hc, hr, Result.andThen]
  exact hK
end Go.Proofs.Ytlbhoijjbpjmoaa
