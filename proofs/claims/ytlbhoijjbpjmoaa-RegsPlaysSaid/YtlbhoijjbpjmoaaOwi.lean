/-
  A slice of ints that the call itself made.
-/
import Derived.Test.YtlbhoijjbpjmoaaKa
import Derived.Deep.AppendLies
namespace Go.Proofs.Ytlbhoijjbpjmoaa
open Go.RowKit

theorem Try.infoI64 : (Try.prog.info? 3).map (fun i => (i.zero, i.size, i.bytes)) = some (some (.int .i64 0), 1, 8) := by kernel_rfl
/-- The slice value v, of n ints, lies in a block of the call's own (from B on), or is nil, and holds the numbers ys. -/
def OwI (B : Nat) (w : World) (v : Value) (n : Nat) (ys : List Int) : Prop := w.ownsRow B 3 1 v n (ys.map (Value.int .i64))
theorem OwI.len {B : Nat} {w : World} {v : Value} {n : Nat} {xs : List Int} (h : OwI B w v n xs) : xs.length = n := by
  have := h.1
  simpa using this
theorem OwI.shape {B : Nat} {w : World} {v : Value} {n : Nat} {xs : List Int} (h : OwI B w v n xs) :
    (v = .slice none 0 0 ∧ n = 0) ∨ ∃ g cap, v = .slice (some ⟨g, 0, none⟩) n cap ∧ B ≤ g ∧ n ≤ cap := by
  rcases h.2 with ⟨hv, hn⟩ | ⟨g, cap, cur, rfl, hB, _, hc, _⟩
  · exact .inl ⟨hv, hn⟩
  · exact .inr ⟨g, cap, rfl, hB, hc⟩
theorem OwI.cellAt {B : Nat} {w : World} {g n cap : Nat} {xs : List Int} (h : OwI B w (.slice (some ⟨g, 0, none⟩) n cap) n xs) (j : Nat) (hj : j < n) :
    w.cell? ⟨g, j, none⟩ = some (.int .i64 (xs.getD j 0)) := by
  have hl := h.len
  have e := World.ownsRow.cellAt h j (by omega)
  rw [e, List.getElem?_map, List.getD_eq_getElem?_getD, List.getElem?_eq_getElem (show j < xs.length by omega)]
  rfl
theorem OwI.nil (B : Nat) (w : World) : OwI B w (.slice none 0 0) 0 [] := World.ownsRow_nil _ _ _ _
/-- One's own row, where another block is turned. -/
theorem row_aside {B n sz : Nat} {e : TypeId} {w w' : World} {v : Value} {xs : List Value} {row : Option Nat} (h : w.ownsRow B e sz v n xs) (hg : w.grownBy w' row) (hne : ∀ q, v.ownBlock = some q → some q ≠ row) : w'.ownsRow B e sz v n xs := by
  refine ⟨h.1, ?_⟩
  rcases h.2 with h2 | ⟨g, cap, cur, h1, h2, h3, h4⟩
  · exact .inl h2
  · subst h1
    exact .inr ⟨g, cap, cur, rfl, h2, (hg.block g (World.ownsRow.lt h g rfl).2 (hne g rfl)).trans h3, h4⟩
theorem row_below {B n sz : Nat} {e : TypeId} {w w' : World} {v : Value} {xs : List Value} (h : w.ownsRow B e sz v n xs) (hb : Below w.heap.size w w') : w'.ownsRow B e sz v n xs := by
  refine ⟨h.1, ?_⟩
  rcases h.2 with h2 | ⟨g, cap, cur, h1, h2, h3, h4⟩
  · exact .inl h2
  · have hlt : g < w.heap.size := (Array.getElem?_eq_some_iff.1 h3).1
    exact .inr ⟨g, cap, cur, h1, h2, (hb.block g hlt).trans h3, h4⟩
/-- One number more. -/
theorem wpList_append_int {ops : Array Oper} {rest : List Oper} {o : Oper} {a : Act} {w : World} {Q : Exit → Act → World → Prop} (hgd : o.guard = none) (s x : Operand) (t : TypeId)
    (ho : o.op = .call { callee := .builtin .append, args := #[s, x], argTypes := #[t, t] }) (ht : Try.prog.underlying t = some (.slice 3))
    (B : Nat) (v : Value) (n : Nat) (ys : List Int) (hs : a.eval s = v) (hown : OwI B w v n ys) (g y : Nat) (hx : a.eval x = .slice (some ⟨g, 0, none⟩) 1 1) (hc : w.cell? ⟨g, 0, none⟩ = some (.int .i64 (y : Nat))) (hnm : n ≤ 1000000) (hB : B ≤ w.heap.size)
    (h : ∀ g' cap' w', OwI B w' (.slice (some ⟨g', 0, none⟩) (n + 1) cap') (n + 1) (ys ++ [((y : Nat) : Int)]) → w.grownBy w' v.ownBlock → (v.ownBlock = some g' ∨ g' = w.heap.size) → wpList Try.prog ops Q rest (a.put o.dst (.slice (some ⟨g', 0, none⟩) (n + 1) cap')) w') : wpList Try.prog ops Q (o :: rest) a w := by
  obtain ⟨i, hi, hz, h1, h8⟩ := info_parts Try.infoI64
  refine wpList_append_lies w hgd s x t ho B 3 i (.int .i64 0) 1 8 ht hi hz h1 h8 rfl (by decide) v n (ys.map (Value.int .i64)) hs hown ⟨g, 0, none⟩ 1 1 [.int .i64 (y : Nat)] hx rfl (fun j u hj => ?_) (fun u hu => ?_) (by decide) (by unfold maxLen; omega) (by omega) hB _ rfl ?_
  · match j, hj with
    | 0, hj => simp at hj; subst hj; simpa [Addr.add] using hc
    | n + 1, hj => simp at hj
  · simp only [List.mem_singleton] at hu
    subst hu
    rfl
  · intro g' cap w' ho' hg hat _
    exact h g' cap w' (by unfold OwI; rw [List.map_append]; exact ho') hg hat
end Go.Proofs.Ytlbhoijjbpjmoaa
