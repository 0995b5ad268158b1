/-
  An array of eight slices of bytes, in a block of its own, each slice in a block of its own.
-/
import Derived.Test.YthnakonndlebbaaTb
namespace Go.Proofs.Ythnakonndlebbaa
open Go.RowKit
set_option linter.unusedVariables false
set_option linter.unusedSimpArgs false

/-- Eight cells at the head of block b hold the slices V 0, .., V 7, which hold D 0, .., D 7; no two lie in one block. -/
structure Arz (B : Nat) (w : World) (b : Nat) (V : Nat → Value) (D : Nat → List Int) : Prop where
  lo : B ≤ b
  cell : ∀ i, i < 8 → w.cell? ⟨b, i, none⟩ = some (V i)
  free : ∀ i, i < 8 → w.frozen? ⟨b, i, none⟩ = false
  row : ∀ i, i < 8 → Own B w (V i) (D i).length (D i)
  ap0 : ∀ i, i < 8 → (V i).ownBlock ≠ some b
  ap : ∀ i j, i < 8 → j < 8 → i ≠ j → ∀ q, (V i).ownBlock = some q → (V j).ownBlock ≠ some q
/-- Is block q one of its blocks? -/
def Arz.has (b : Nat) (V : Nat → Value) (q : Nat) : Prop := q = b ∨ ∃ i, i < 8 ∧ (V i).ownBlock = some q
section
variable {B b : Nat} {w w' : World} {V : Nat → Value} {D : Nat → List Int} {F : Nat → Prop}
theorem Arz.blt (h : Arz B w b V D) : b < w.heap.size := World.block_lt_of_cell? w _ (h.cell 0 (by decide))
theorem Arz.lt (h : Arz B w b V D) (q : Nat) (hq : Arz.has b V q) : B ≤ q ∧ q < w.heap.size := by
  rcases hq with rfl | ⟨i, hi, hq⟩
  · exact ⟨h.lo, h.blt⟩
  · exact World.ownsRow.lt (h.row i hi) q hq
theorem Arz.tb (h : Arz B w b V D) (ht : Tb F w w') (hF : ∀ q, Arz.has b V q → ¬ F q) : Arz B w' b V D :=
  ⟨h.lo, fun i hi => (ht.cell (p := ⟨b, i, none⟩) h.blt (hF b (.inl rfl))).trans (h.cell i hi), fun i hi => (ht.frozen (p := ⟨b, i, none⟩) h.blt (hF b (.inl rfl))).trans (h.free i hi),
    fun i hi => (h.row i hi).tb ht fun q hq => hF q (.inr ⟨i, hi, hq⟩), h.ap0, h.ap⟩
theorem Arz.below (h : Arz B w b V D) (hb : Below w.heap.size w w') : Arz B w' b V D := h.tb (F := fun _ => False) (Tb.of_below hb) fun _ _ h => h
/-- All eight are nil. -/
theorem Arz.nils (hB : B ≤ b) (hc : ∀ i, i < 8 → w.cell? ⟨b, i, none⟩ = some (.slice none 0 0)) (hz : ∀ i, i < 8 → w.frozen? ⟨b, i, none⟩ = false) : Arz B w b (fun _ => .slice none 0 0) (fun _ => []) :=
  ⟨hB, hc, hz, fun _ _ => Own.nil _ _, fun _ _ h => (by cases h), fun _ _ _ _ _ q h => (by cases h)⟩
/-- Slice r taken for another one. -/
theorem Arz.put {r : Nat} {u : Value} {xs : List Int} (h : Arz B w b V D) (hr : r < 8) (hu : Own B w u xs.length xs) (hu0 : u.ownBlock ≠ some b) (huv : ∀ k, k < 8 → k ≠ r → ∀ q, (V k).ownBlock = some q → u.ownBlock ≠ some q) :
    Arz B (w.setCell ⟨b, r, none⟩ u) b (fun k => if k = r then u else V k) (fun k => if k = r then xs else D k) := by
  have ht : Tb (fun q => q = b) w (w.setCell ⟨b, r, none⟩ u) := Tb.setCell (F := fun q => q = b) (b := b) (Tb.refl _ w) (.inl rfl) r u
  refine ⟨h.lo, fun i hi => ?_, fun i hi => (World.frozen?_setCell w _ _ _).trans (h.free i hi), fun i hi => ?_, fun i hi => ?_, fun i j hi hj hij q hq => ?_⟩
  · by_cases e : i = r
    · subst e
      rw [if_pos rfl]
      exact World.cell?_setCell_same w _ _ (h.cell i hi)
    · rw [if_neg e, World.cell?_setCell_other w _ _ _ (fun e0 => e (Addr.mk.inj e0).2.1.symm)]
      exact h.cell i hi
  · by_cases e : i = r
    · subst e
      simp only [if_pos rfl]
      exact hu.tb ht fun q hq e => hu0 (by rw [hq, e])
    · simp only [if_neg e]
      exact (h.row i hi).tb ht fun q hq e => h.ap0 i hi (by rw [hq, e])
  · by_cases e : i = r
    · subst e
      simp only [if_pos rfl]
      exact hu0
    · simp only [if_neg e]
      exact h.ap0 i hi
  · by_cases e : i = r
    · subst e
      simp only [if_pos rfl] at hq
      simp only [if_neg (show ¬ j = i from fun e => hij e.symm)]
      exact fun e => huv j hj (fun e => hij e.symm) q e hq
    · simp only [if_neg e] at hq
      by_cases e2 : j = r
      · subst e2
        simp only [if_pos rfl]
        exact huv i hi e q hq
      · simp only [if_neg e2]
        exact h.ap i j hi hj hij q hq
/-- Slice r grown by an append, not yet stored. -/
theorem Arz.grown {r H : Nat} {u : Value} (h : Arz B w b V D) (hr : r < 8) (hg : w.grownBy w' (V r).ownBlock) (hu : u.ownBlock = (V r).ownBlock ∨ u.ownBlock = some H) (hH : w.heap.size ≤ H) :
    (∀ i, i < 8 → w'.cell? ⟨b, i, none⟩ = some (V i)) ∧ (∀ i, i < 8 → w'.frozen? ⟨b, i, none⟩ = false) ∧ (∀ i, i < 8 → i ≠ r → Own B w' (V i) (D i).length (D i)) ∧ u.ownBlock ≠ some b ∧ ∀ k, k < 8 → k ≠ r → ∀ q, (V k).ownBlock = some q → u.ownBlock ≠ some q := by
  have ht : Tb (fun q => (V r).ownBlock = some q) w w' := Tb.of_grown hg fun q e => e
  refine ⟨fun i hi => (ht.cell (p := ⟨b, i, none⟩) h.blt (h.ap0 r hr)).trans (h.cell i hi), fun i hi => (ht.frozen (p := ⟨b, i, none⟩) h.blt (h.ap0 r hr)).trans (h.free i hi), fun i hi hir => (h.row i hi).tb ht fun q hq => h.ap i r hi hr hir q hq, fun e => ?_, fun k hk hkr q hq e => ?_⟩
  · rcases hu with h1 | h1
    · exact h.ap0 r hr (h1.symm.trans e)
    · have e1 := Option.some.inj (h1.symm.trans e)
      have := h.blt
      omega
  · rcases hu with h1 | h1
    · exact h.ap k r hk hr hkr q hq (h1.symm.trans e)
    · have e1 := Option.some.inj (h1.symm.trans e)
      have := (World.ownsRow.lt (h.row k hk) q hq).2
      omega
/-- Slice r grown by an append, and stored. -/
theorem Arz.more {r H : Nat} {u : Value} {xs : List Int} (h : Arz B w b V D) (hr : r < 8) (hg : w.grownBy w' (V r).ownBlock) (hu : u.ownBlock = (V r).ownBlock ∨ u.ownBlock = some H) (hH : w.heap.size ≤ H) (ho : Own B w' u xs.length xs) :
    Arz B (w'.setCell ⟨b, r, none⟩ u) b (fun k => if k = r then u else V k) (fun k => if k = r then xs else D k) := by
  obtain ⟨h1, h2, h3, h4, h5⟩ := h.grown hr hg hu hH
  have hb : b < w'.heap.size := World.block_lt_of_cell? w' _ (h1 0 (by decide))
  have ht : Tb (fun q => q = b) w' (w'.setCell ⟨b, r, none⟩ u) := Tb.setCell (F := fun q => q = b) (b := b) (Tb.refl _ w') (.inl rfl) r u
  refine ⟨h.lo, fun i hi => ?_, fun i hi => (World.frozen?_setCell w' _ _ _).trans (h2 i hi), fun i hi => ?_, fun i hi => ?_, fun i j hi hj hij q hq => ?_⟩
  · by_cases e : i = r
    · subst e
      rw [if_pos rfl]
      exact World.cell?_setCell_same w' _ _ (h1 i hi)
    · rw [if_neg e, World.cell?_setCell_other w' _ _ _ (fun e0 => e (Addr.mk.inj e0).2.1.symm)]
      exact h1 i hi
  · by_cases e : i = r
    · subst e
      simp only [if_pos rfl]
      exact ho.tb ht fun q hq e => h4 (by rw [hq, e])
    · simp only [if_neg e]
      exact (h3 i hi e).tb ht fun q hq e => h.ap0 i hi (by rw [hq, e])
  · by_cases e : i = r
    · subst e
      simp only [if_pos rfl]
      exact h4
    · simp only [if_neg e]
      exact h.ap0 i hi
  · by_cases e : i = r
    · subst e
      simp only [if_pos rfl] at hq
      simp only [if_neg (show ¬ j = i from fun e => hij e.symm)]
      exact fun e => h5 j hj (fun e => hij e.symm) q e hq
    · simp only [if_neg e] at hq
      by_cases e2 : j = r
      · subst e2
        simp only [if_pos rfl]
        exact h5 i hi e q hq
      · simp only [if_neg e2]
        exact h.ap i j hi hj hij q hq
/-- Its blocks behind slice r was taken for another one. -/
theorem Arz.has_put {r : Nat} {u : Value} {q : Nat} (h : Arz.has b (fun k => if k = r then u else V k) q) : Arz.has b V q ∨ u.ownBlock = some q := by
  rcases h with rfl | ⟨i, hi, hq⟩
  · exact .inl (.inl rfl)
  · by_cases e : i = r
    · simp only [if_pos e] at hq
      exact .inr hq
    · simp only [if_neg e] at hq
      exact .inl (.inr ⟨i, hi, hq⟩)
theorem Arz.mono {B' : Nat} (h : Arz B w b V D) (hB : B' ≤ B) : Arz B' w b V D := ⟨Nat.le_trans hB h.lo, h.cell, h.free, fun i hi => (h.row i hi).mono hB, h.ap0, h.ap⟩
end
/-- One block of B on is turned. -/
theorem tb_one {w : World} {b o : Nat} {v : Value} : Tb (fun q => q = b) w (w.setCell ⟨b, o, none⟩ v) := Tb.setCell (F := fun q => q = b) (b := b) (Tb.refl _ w) (.inl rfl) o v
end Go.Proofs.Ythnakonndlebbaa
