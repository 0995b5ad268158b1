/-
  A slice made with spare room; the contract of the document's Copy.
-/
import Derived.Test.YtadpnkecdjleiaaOwn
import Derived.Laws.CopyOwn
namespace Go.Proofs.Ytadpnkecdjleiaa
open Go.RowKit

theorem made_list (z : Value) (n : Nat) (hz : z.cells = #[z]) : madeCells z.cells (n * 1) = (List.replicate n z).toArray := by
  apply Array.ext
  · simp [madeCells]
  · intro i h1 h2
    simp [madeCells, hz, Nat.mod_one]

/-- make([]T, n, c), T of one cell: the row is known whole. -/
theorem wpList_make_cap {P : Program} (w : World) {ops : Array Oper} {rest : List Oper} {o : Oper} {a : Act} {Q : Exit → Act → World → Prop}
    (hg : o.guard = none) (l c : Operand) (t : TypeId) (hop : o.op = Op.makeSlice t l c)
    (e : TypeId) (i : TypeInfo) (z : Value) (hz : z.cells = #[z]) (h1 : P.underlying t = some (.slice e)) (h2 : P.info? e = some i) (h3 : i.zero = some z) (h4 : i.size = 1) (h5 : i.bytes = 1)
    (kl kc : IntKind) (L C : Int) (n m : Nat) (hl : a.eval l = .int kl L) (hc : a.eval c = .int kc C) (hL : L = (n : Int)) (hC : C = (m : Int)) (hnm : n ≤ m) (b2 : m ≤ 281474976710656)
    (hK : ∀ w', w'.heap[w.heap.size]? = some (.cells (List.replicate m z).toArray e (0, 0)) → w.grownBy w' none → wpList P ops Q rest (a.put o.dst (.slice (some ⟨w.heap.size, 0, none⟩) n m)) w') :
    wpList P ops Q (o :: rest) a w := by
  refine wpList_plain hg fun K hK' => ?_
  subst hL hC
  have hr := run_make (P := P) w t e i z h1 h2 h3 kl kc n m (by omega) (by omega) (by rw [h5]; omega) (by omega)
  simp only [Int.toNat_natCast, h4] at hr
  rw [made_list z m hz] at hr
  unfold Oper.wp
  simp [execOp, hop, hl, hc, hr, Result.andThen]
  exact hK' _ _ (hK _ (heap_alloc_new w _) (World.grownBy_alloc w _ none))

/-- Copy of the document: the same bytes in memory of its own. -/
theorem copy_any (p : Option Addr) (cap : Nat) (xs : List Int) (w : World) (hp : Bin w p xs) (hm : xs.length ≤ 140737488351232) :
    Calls Try.prog 8 #[.slice p xs.length cap] w fun e w' => ∃ g c, e = .returned (.slice (some ⟨g, 0, none⟩) xs.length c) ∧
      Own w.heap.size w' (.slice (some ⟨g, 0, none⟩) xs.length c) xs.length xs ∧ Below w.heap.size w w' := by
  obtain ⟨i0, hi, hz0, hz1, hz2⟩ := info_parts Try.infoU8
  have hsz : (Try.prog.info? 5).map (·.size) = some 1 := by rw [hi]; simp [hz1]
  go_enter Try.func8, Try.ntmps8
  go_wp2_with (first
    | (at_make; refine wpList_make_cap _ rfl _ _ 22 rfl 5 i0 (.int .u8 0) rfl Try.underlying22 hi hz0 hz1 hz2 .i64 .i64 _ _ xs.length (xs.length + 3) rfl rfl rfl (by omega) (by omega) (by omega) ?_; intro w1 hrow hgrow; have HR := hid hrow; have hb1 : Below w.heap.size w w1 := (Below.refl _ _).grown hgrow (Nat.le_refl _) (by simp); clear hrow hgrow)
    | (with_reducible refine wpList_copy_splice rfl (.tmp 10) (.tmp 11) 22 22 rfl 5 Try.underlying22 hsz _ _ _ _ _ _ rfl rfl w.heap.size 0 _ 5 HR.out (xs.map (Value.int .u8)) ?c1 ?c2 ?c3 ?c4 w.heap.size w hb1 (Nat.le_refl _) ?_))
  case c1 => simp
  case c2 =>
    intro h0
    obtain ⟨b, o, rfl, hlb, hc⟩ := (hp.below hb1).at (by simpa using h0)
    refine ⟨⟨b, o, none⟩, rfl, fun j v hj => ?_⟩
    have hjl : j < xs.length := (List.getElem?_eq_some_iff.1 hj).1
    rw [Addr.add_lit, hc j hjl, List.getD_eq_getElem?_getD, hj]
    rfl
  case c3 => simp
  case c4 =>
    intro v hv
    obtain ⟨x, _, rfl⟩ := List.mem_map.1 hv
    rfl
  intro w2 HG hb2
  have HO := hid (show Own w.heap.size w2 (.slice (some ⟨w.heap.size, 0, none⟩) xs.length (xs.length + 3)) xs.length xs from
    ⟨by simp, .inr ⟨w.heap.size, xs.length + 3, _, rfl, Nat.le_refl _, HG.out, by omega, by unfold maxLen; omega, by simp [splice], by simp [splice]⟩⟩)
  clear HG
  go_wp2
  go_ret
  exact ⟨_, _, rfl, HO.out, hb2⟩
end Go.Proofs.Ytadpnkecdjleiaa
