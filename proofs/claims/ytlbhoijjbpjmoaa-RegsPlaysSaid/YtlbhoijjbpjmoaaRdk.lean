/-
  The document's device in memory, over the blocks F.
-/
import Derived.Test.YtlbhoijjbpjmoaaTb
import Derived.Test.YtlbhoijjbpjmoaaDk
namespace Go.Proofs.Ytlbhoijjbpjmoaa
open Go.RowKit
set_option linter.unusedVariables false

/-- Seven cells at the head of block g: what it tells, what is firm, what waits, and four numbers; each block a slice of its own. -/
structure RDv (e : TypeId) (B : Nat) (w : World) (g : Nat) (F : Nat → Prop) (n : Nat) (vN : Value) (VN : Nat → Value) (now : Nat → List Int) (vF : Value) (VF : Nat → Value) (firm : Nat → List Int)
    (vW : Value) (VW : Nat → Value) (ws : List (Nat × List Int)) (steps fail : Nat) (cut : Int) (down : Bool) : Prop where
  c0 : w.cell? ⟨g, 0, none⟩ = some vN
  c1 : w.cell? ⟨g, 1, none⟩ = some vF
  c2 : w.cell? ⟨g, 2, none⟩ = some vW
  c3 : w.cell? ⟨g, 3, none⟩ = some (.int .u64 (steps : Nat))
  c4 : w.cell? ⟨g, 4, none⟩ = some (.int .i64 (fail : Nat))
  c5 : w.cell? ⟨g, 5, none⟩ = some (.int .i64 cut)
  c6 : w.cell? ⟨g, 6, none⟩ = some (.bool down)
  z : ∀ j, j < 7 → w.frozen? ⟨g, j, none⟩ = false
  rN : Rowz B w vN n 256 VN now
  rF : Rowz B w vF n 256 VF firm
  rW : Wtz e B w vW ws.length 256 (fun i => ((ws.getD i (0, [])).1 : Nat)) VW (fun i => (ws.getD i (0, [])).2)
  fg : F g
  fN : ∀ q, Rowz.has vN n VN q → F q ∧ q ≠ g
  fF : ∀ q, Rowz.has vF n VF q → F q ∧ q ≠ g
  fW : ∀ q, Rowz.has vW ws.length VW q → F q ∧ q ≠ g
  dNF : ∀ q, Rowz.has vN n VN q → ¬ Rowz.has vF n VF q
  dNW : ∀ q, Rowz.has vN n VN q → ¬ Rowz.has vW ws.length VW q
  dFW : ∀ q, Rowz.has vF n VF q → ¬ Rowz.has vW ws.length VW q
  lt : ∀ q, F q → B ≤ q ∧ q < w.heap.size
/-- The device d, in block g, over the blocks F. -/
def RDk (e : TypeId) (B : Nat) (w : World) (g : Nat) (F : Nat → Prop) (n : Nat) (now firm : Nat → List Int) (ws : List (Nat × List Int)) (steps fail : Nat) (cut : Int) (down : Bool) : Prop :=
  ∃ vN VN vF VF vW VW, RDv e B w g F n vN VN now vF VF firm vW VW ws steps fail cut down
section
variable {e : TypeId} {B g n steps fail : Nat} {w w' : World} {F F' : Nat → Prop} {vN vF vW : Value} {VN VF VW : Nat → Value} {now firm : Nat → List Int} {ws : List (Nat × List Int)} {cut : Int} {down : Bool}
/-- Where other blocks are turned. -/
theorem RDv.tb (h : RDv e B w g F n vN VN now vF VF firm vW VW ws steps fail cut down) (ht : Tb F' w w') (hF : ∀ q, F q → ¬ F' q) : RDv e B w' g F n vN VN now vF VF firm vW VW ws steps fail cut down := by
  have hg := (h.lt g h.fg).2
  have hn := hF g h.fg
  have hc : ∀ j, w'.cell? ⟨g, j, none⟩ = w.cell? ⟨g, j, none⟩ := fun j => ht.cell (p := ⟨g, j, none⟩) hg hn
  exact ⟨(hc 0).trans h.c0, (hc 1).trans h.c1, (hc 2).trans h.c2, (hc 3).trans h.c3, (hc 4).trans h.c4, (hc 5).trans h.c5, (hc 6).trans h.c6, fun j hj => (ht.frozen (p := ⟨g, j, none⟩) hg hn).trans (h.z j hj),
    h.rN.tb ht fun q hq => hF q (h.fN q hq).1, h.rF.tb ht fun q hq => hF q (h.fF q hq).1, h.rW.tb ht fun q hq => hF q (h.fW q hq).1, h.fg, h.fN, h.fF, h.fW, h.dNF, h.dNW, h.dFW, fun q hq => ⟨(h.lt q hq).1, Nat.lt_of_lt_of_le (h.lt q hq).2 ht.size⟩⟩
theorem RDk.tb (h : RDk e B w g F n now firm ws steps fail cut down) (ht : Tb F' w w') (hF : ∀ q, F q → ¬ F' q) : RDk e B w' g F n now firm ws steps fail cut down := by
  obtain ⟨vN, VN, vF, VF, vW, VW, h⟩ := h
  exact ⟨vN, VN, vF, VF, vW, VW, h.tb ht hF⟩
theorem RDk.below (h : RDk e B w g F n now firm ws steps fail cut down) (hb : Below w.heap.size w w') : RDk e B w' g F n now firm ws steps fail cut down :=
  h.tb (F' := fun _ => False) (Tb.of_below hb) fun _ _ h => h
/-- One of the four numbers written. -/
theorem RDv.num (h : RDv e B w g F n vN VN now vF VF firm vW VW ws steps fail cut down) (j : Nat) (hj : 3 ≤ j) (hj7 : j < 7) (u : Value) (steps' fail' : Nat) (cut' : Int) (down' : Bool)
    (h3 : some (Value.int .u64 (steps' : Nat)) = if j = 3 then some u else some (.int .u64 (steps : Nat))) (h4 : some (Value.int .i64 (fail' : Nat)) = if j = 4 then some u else some (.int .i64 (fail : Nat)))
    (h5 : some (Value.int .i64 cut') = if j = 5 then some u else some (.int .i64 cut)) (h6 : some (Value.bool down') = if j = 6 then some u else some (.bool down)) :
    RDv e B (w.setCell ⟨g, j, none⟩ u) g F n vN VN now vF VF firm vW VW ws steps' fail' cut' down' := by
  have ht : Tb (fun q => q = g) w (w.setCell ⟨g, j, none⟩ u) := Tb.setCell (F := fun q => q = g) (b := g) (Tb.refl _ w) (.inl rfl) j u
  have hc : ∀ k x, w.cell? ⟨g, k, none⟩ = some x → (w.setCell ⟨g, j, none⟩ u).cell? ⟨g, k, none⟩ = if j = k then some u else some x := fun k x hx => by
    by_cases hk : j = k
    · subst hk
      rw [if_pos rfl]
      exact World.cell?_setCell_same w _ _ hx
    · rw [if_neg hk, World.cell?_setCell_other w _ _ _ (fun e0 => hk (Addr.mk.inj e0).2.1)]
      exact hx
  have no : ∀ k, k < 3 → ¬ j = k := fun k hk => by omega
  refine ⟨(hc 0 _ h.c0).trans (if_neg (no 0 (by decide))), (hc 1 _ h.c1).trans (if_neg (no 1 (by decide))), (hc 2 _ h.c2).trans (if_neg (no 2 (by decide))), (hc 3 _ h.c3).trans h3.symm, (hc 4 _ h.c4).trans h4.symm, (hc 5 _ h.c5).trans h5.symm, (hc 6 _ h.c6).trans h6.symm,
    fun k hk => (World.frozen?_setCell w _ _ _).trans (h.z k hk), h.rN.tb ht fun q hq => (h.fN q hq).2, h.rF.tb ht fun q hq => (h.fF q hq).2, h.rW.tb ht fun q hq => (h.fW q hq).2, h.fg, h.fN, h.fF, h.fW, h.dNF, h.dNW, h.dFW, fun q hq => ⟨(h.lt q hq).1, Nat.lt_of_lt_of_le (h.lt q hq).2 ht.size⟩⟩
end
end Go.Proofs.Ytlbhoijjbpjmoaa
