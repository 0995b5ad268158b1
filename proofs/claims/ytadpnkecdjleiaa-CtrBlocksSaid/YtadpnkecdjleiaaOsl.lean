/-
  One's own slice as it lies; one new array.
-/
import Derived.Test.YtadpnkecdjleiaaOwn
import Derived.Test.YtadpnkecdjleiaaVals
namespace Go.Proofs.Ytadpnkecdjleiaa
open Go.RowKit

/-- One's own slice, as it lies. -/
theorem Own.slice {B n g c : Nat} {w : World} {xs : List Int} (h : Own B w (.slice (some ⟨g, 0, none⟩) n c) n xs) : B ≤ g ∧ n ≤ c ∧ Bin w (some ⟨g, 0, none⟩) xs := by
  have hl := h.len
  rcases h.shape with ⟨h1, _⟩ | ⟨g', c', h1, hB, hc⟩
  · cases h1
  · injection h1 with e1 _ e3
    injection e1 with e1
    injection e1 with e1 _ _
    subst e1
    subst e3
    exact ⟨hB, hc, fun _ => ⟨g, 0, rfl, fun i hi => by rw [Nat.zero_add]; exact h.cellAt i (by omega)⟩⟩

/-- One new array. -/
theorem boxes1 (w : World) (n : Nat) (x : Nat → Nat) (t : TypeId) : ∃ wa, Hid (wa = w.alloc (.cells (vals n x).toArray t)) ∧
    Arr wa w.heap.size n x ∧ Below w.heap.size w wa ∧ wa.heap.size = w.heap.size + 1 :=
  ⟨_, rfl, arr_new w n x t, (Below.refl w.heap.size w).alloc (Nat.le_refl _) _, by simp⟩

end Go.Proofs.Ytadpnkecdjleiaa
