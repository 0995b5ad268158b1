/-
  DiskNone's walk.
-/
import Derived.Test.YtlbhoijjbpjmoaaDkn
namespace Go.Proofs.Ytlbhoijjbpjmoaa
open Go.RowKit
set_option linter.unusedVariables false
set_option linter.unusedSimpArgs false

/-- Five cells at the head of a block. -/
structure Five (w : World) (b : Nat) (v0 v1 v2 v3 v4 : Value) : Prop where
  c0 : w.cell? ⟨b, 0, none⟩ = some v0
  c1 : w.cell? ⟨b, 1, none⟩ = some v1
  c2 : w.cell? ⟨b, 2, none⟩ = some v2
  c3 : w.cell? ⟨b, 3, none⟩ = some v3
  c4 : w.cell? ⟨b, 4, none⟩ = some v4
theorem Five.lt {w : World} {b : Nat} {v0 v1 v2 v3 v4 : Value} (h : Five w b v0 v1 v2 v3 v4) : b < w.heap.size := World.block_lt_of_cell? w _ h.c0
theorem Five.tb {w w' : World} {F : Nat → Prop} {b : Nat} {v0 v1 v2 v3 v4 : Value} (h : Five w b v0 v1 v2 v3 v4) (hb : Tb F w w') (hF : ¬ F b) : Five w' b v0 v1 v2 v3 v4 := by
  have hl := h.lt
  exact ⟨(hb.cell (p := ⟨b, 0, none⟩) hl hF).trans h.c0, (hb.cell (p := ⟨b, 1, none⟩) hl hF).trans h.c1, (hb.cell (p := ⟨b, 2, none⟩) hl hF).trans h.c2, (hb.cell (p := ⟨b, 3, none⟩) hl hF).trans h.c3, (hb.cell (p := ⟨b, 4, none⟩) hl hF).trans h.c4⟩
theorem Five.below {w w' : World} {b : Nat} {v0 v1 v2 v3 v4 : Value} (h : Five w b v0 v1 v2 v3 v4) (hb : Below w.heap.size w w') : Five w' b v0 v1 v2 v3 v4 := h.tb (F := fun _ => False) (Tb.of_below hb) (fun h => h)
theorem five_new (w : World) (v0 v1 v2 v3 v4 : Value) (t : TypeId) : Five (w.alloc (.cells #[v0, v1, v2, v3, v4] t)) w.heap.size v0 v1 v2 v3 v4 := by
  constructor <;> simp

end Go.Proofs.Ytlbhoijjbpjmoaa
