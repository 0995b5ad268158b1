/-
  A struct's fields, one cell each, opened; rows of bytes among them. No program.
-/
import Derived.Test.YtlbhoijjbpjmoaaKa
import Derived.OpenShut
import Derived.Deep.Fields
import Derived.ChangeSlices
namespace Go.Proofs.Ytlbhoijjbpjmoaa
open Go.RowKit Go.ChangeShapes Go.WideShapes Go.Deep
set_option linter.unusedVariables false
section
variable {H : Type} {enc : TypeId × Value → H} {P : Program} {w : World} {base : Nat} {spare : Nat → Bool} {held : Bool}
/-- Each field's cell reads by itself. -/
theorem open_each {r : Reach} {b0 : Nat} {t : TypeId} {fs : Array Field} {v : Value} {d : DataW H} {p : List MemPlace} (hs : P.underlying t = some (.struct fs)) (hone : oneCellFields P fs = true) (hC : P.cellsOf t = fs.size)
    (hv : Value.okWide P w r b0 t v) (h : DataW.Trod enc P w base spare held t v d p) :
    ∃ l : List Value, v = .agg l.toArray ∧ l.length = fs.size ∧ ∀ (j : Nat) (f : Field) (c : Value), fs[j]? = some f → l[j]? = some c → ∃ n y, DataW.trod enc P w base spare held n f.type [c] = some y := by
  obtain ⟨⟨l⟩, rfl, hl⟩ := okWide_struct hs hv
  have hl' : l.length = fs.size := hl.trans hC
  refine ⟨l, rfl, hl', fun j f c hj hc => ?_⟩
  obtain ⟨fuel, hf⟩ := h
  obtain ⟨ys, n, _, _, _, hy, hg⟩ := DataW.trod_struct hs hf
  have hjy : j < ys.length := by rw [hy]; exact (Array.getElem?_eq_some_iff.1 hj).1
  obtain ⟨ho, hk⟩ := hone_of hone j f hj
  have h1 := hg j f hj
  rw [ho, hk, List.getElem?_eq_getElem hjy] at h1
  have hjl : j < l.length := (List.getElem?_eq_some_iff.1 hc).1
  have h2 : (l.drop j).take 1 = [c] := by
    rw [List.drop_eq_getElem_cons hjl, List.take_succ_cons, List.take_zero, (List.getElem?_eq_some_iff.1 hc).2]
  simp only [Value.cells] at h1
  rw [h2] at h1
  exact ⟨n, _, h1⟩
/-- A field that is a row of bytes. -/
theorem field_bytes {t e : TypeId} {n : Nat} {c : Value} {y : DataW H × List MemPlace} (ht : P.underlying t = some (.slice e)) (he : P.underlying e = some (.int .u8)) (hc : P.cellsOf e = 1) (h : DataW.trod enc P w base spare held n t [c] = some y) :
    ∃ (a : Option Addr) (xs : List Int) (cap : Nat), c = .slice a xs.length cap ∧ Bin w a xs ∧ Oct xs ∧ xs.length ≤ cap := by
  rcases open_ints ht he hc h with ⟨hcs, _⟩ | ⟨x, l, cap, zs, hcs, _, hl, hm, hz, hx, hcell, hwz⟩
  · refine ⟨none, [], 0, ?_, Bin.nil _ _, Oct.nil, Nat.le_refl _⟩
    simpa using hcs
  · have hlz : l ≤ zs.length := by
      rw [hz]
      split <;> omega
    have hlt : (zs.take l).length = l := by rw [List.length_take]; omega
    refine ⟨some x, zs.take l, cap, ?_, bin_of_cells hcell hlz, oct_of_wf hwz, by omega⟩
    rw [hlt]
    simpa using hcs
theorem field_int {t : TypeId} {k : IntKind} {n : Nat} {c : Value} {y : DataW H × List MemPlace} (ht : P.underlying t = some (.int k)) (h : DataW.trod enc P w base spare held n t [c] = some y) : ∃ z, c = .int k z ∧ (Lit.int k z).wf = true := by
  obtain ⟨z, hz, _, hw⟩ := DataW.trod_int ht h
  exact ⟨z, by simpa using hz, hw⟩
end
end Go.Proofs.Ytlbhoijjbpjmoaa
