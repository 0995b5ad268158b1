/-
  The document's device, its blocks from an elder place on.
-/
import Derived.Test.YtlbhoijjbpjmoaaRdx
namespace Go.Proofs.Ytlbhoijjbpjmoaa
open Go.RowKit
set_option linter.unusedVariables false

theorem rdk_mono {e : TypeId} {B B' g n steps fail : Nat} {w : World} {F : Nat → Prop} {now firm : Nat → List Int} {ws : List (Nat × List Int)} {cut : Int} {down : Bool} (h : RDk e B w g F n now firm ws steps fail cut down) (hB : B' ≤ B) : RDk e B' w g F n now firm ws steps fail cut down := by
  obtain ⟨vN, VN, vF, VF, vW, VW, hv⟩ := h
  have om : ∀ {v : Value} {m : Nat} {xs : List Int}, Own B w v m xs → Own B' w v m xs := fun h => h.mono hB
  refine ⟨vN, VN, vF, VF, vW, VW, hv.c0, hv.c1, hv.c2, hv.c3, hv.c4, hv.c5, hv.c6, hv.z, hv.rN.mono hB, hv.rF.mono hB, ⟨⟨hv.rW.out.1, ?_⟩, fun i hi => om (hv.rW.row i hi), hv.rW.ap0, hv.rW.ap⟩, hv.fg, hv.fN, hv.fF, hv.fW, hv.dNF, hv.dNW, hv.dFW, fun q hq => ⟨Nat.le_trans hB (hv.lt q hq).1, (hv.lt q hq).2⟩⟩
  rcases hv.rW.out.2 with h2 | ⟨k, cap, cur, h1, h2, h3⟩
  · exact .inl h2
  · exact .inr ⟨k, cap, cur, h1, Nat.le_trans hB h2, h3⟩
theorem RDs.mono {B B' g : Nat} {w : World} {F : Nat → Prop} {S : Dst} (h : RDs B w g F S) (hB : B' ≤ B) : RDs B' w g F S := ⟨h.ok, rdk_mono h.at' hB⟩
end Go.Proofs.Ytlbhoijjbpjmoaa
