/-
  A slice of whatever elements opened: structs within structs, slices of bytes, integers; each weight within the reach. No program.
-/
import Derived.Test.YtlbhoijjbpjmoaaOsz
namespace Go.Proofs.Ytlbhoijjbpjmoaa
open Go.RowKit Go.ChangeShapes Go.WideShapes Go.Deep
set_option linter.unusedVariables false
section
variable {H : Type} {enc : TypeId × Value → H} {P : Program} {w : World} {base : Nat} {spare : Nat → Bool} {held : Bool}
/-- These cells read as a t, within the reach. -/
def Rd (enc : TypeId × Value → H) (P : Program) (w : World) (base : Nat) (spare : Nat → Bool) (held : Bool) (t : TypeId) (cs : List Value) : Prop := ∃ n y, DataW.trod enc P w base spare held n t cs = some y ∧ Wok P t y.1
theorem open_flat {t e : TypeId} {fuel : Nat} {cs : List Value} {x : DataW H × List MemPlace} (ht : P.underlying t = some (.slice e)) (hw : Wok P t x.1) (h : DataW.trod enc P w base spare held fuel t cs = some x) :
    cs = [.slice none 0 0] ∨ ∃ (a : Addr) (len cap : Nat) (V : Nat → List Value), cs = [.slice (some a) len cap] ∧ len ≤ cap ∧ cap ≤ maxLen ∧
      ∀ i, i < len → (V i).length = P.cellsOf e ∧ (∀ q, q < P.cellsOf e → w.cell? (a.add (i * P.cellsOf e + q)) = some ((V i).getD q undef)) ∧ Rd enc P w base spare held e (V i) := by
  rcases open_slice ht h with ⟨h0, _⟩ | ⟨a, len, cap, m, n, D, Pl, rfl, hb, hl, hm, hmm, rfl, hx⟩
  · exact .inl h0
  right
  have hlm : len ≤ m := by rw [hmm]; split <;> omega
  have each : ∀ i, i < len → ∃ q : List Value, q.length = P.cellsOf e ∧ (∀ k, k < P.cellsOf e → w.cell? (a.add (i * P.cellsOf e + k)) = some (q.getD k undef)) ∧ Rd enc P w base spare held e q := by
    intro i hi
    obtain ⟨cs', h1, h2⟩ := hx i (by omega)
    obtain ⟨_, hlen, hcell⟩ := World.cells?_some h1
    refine ⟨cs', hlen, fun k hk => ?_, n, _, h2, wok_elem hw ht (List.mem_map.2 ⟨i, List.mem_range.2 hi, rfl⟩)⟩
    have e0 := hcell k hk
    rw [add_add, List.getElem?_eq_getElem (by omega)] at e0
    rw [e0, List.getD_eq_getElem?_getD, List.getElem?_eq_getElem (by omega)]
    rfl
  obtain ⟨V, hV⟩ := choose_lt each
  exact ⟨a, len, cap, V, rfl, hl, hm, hV⟩
/-- A field's cells. -/
theorem rd_field {e : TypeId} {fs : Array Field} {cs : List Value} (he : P.underlying e = some (.struct fs)) (h : Rd enc P w base spare held e cs) {j : Nat} {f : Field} (hj : fs[j]? = some f) : Rd enc P w base spare held f.type ((cs.drop f.offset).take (P.cellsOf f.type)) := by
  obtain ⟨n, y, hy, hw⟩ := h
  obtain ⟨ys, k, _, hDy, _, hl, hg⟩ := DataW.trod_struct he hy
  have hjs : j < fs.size := (Array.getElem?_eq_some_iff.1 hj).1
  have hjy : j < ys.length := by rw [hl]; exact hjs
  have g1 := hg j f hj
  rw [List.getElem?_eq_getElem hjy] at g1
  have hD : y.1 = .agg (ys.map (·.1)) := by rw [hDy]
  rw [hD] at hw
  exact ⟨k, _, g1, wok_part hw he hj (by rw [List.getElem?_map, List.getElem?_eq_getElem hjy]; rfl)⟩
theorem rd_cell {t : TypeId} {cs : List Value} {o : Nat} (h : Rd enc P w base spare held t ((cs.drop o).take 1)) (ho : o < cs.length) : Rd enc P w base spare held t [cs.getD o undef] := by
  rw [List.drop_eq_getElem_cons ho, List.take_succ_cons, List.take_zero] at h
  rw [List.getD_eq_getElem?_getD, List.getElem?_eq_getElem ho]
  exact h
theorem rd_cell2 {t : TypeId} {cs : List Value} {o k r : Nat} (h : Rd enc P w base spare held t ((((cs.drop o).take k).drop r).take 1)) (hr : r < k) (ho : o + r < cs.length) : Rd enc P w base spare held t [cs.getD (o + r) undef] := by
  have hl : r < ((cs.drop o).take k).length := by rw [List.length_take, List.length_drop]; omega
  have h2 := rd_cell h hl
  rwa [List.getD_eq_getElem?_getD, List.getElem?_take, if_pos hr, List.getElem?_drop, ← List.getD_eq_getElem?_getD] at h2
theorem rd_all {t : TypeId} {cs : List Value} (h : Rd enc P w base spare held t cs) (hl : cs.length = 1) : Rd enc P w base spare held t [cs.getD 0 undef] := by
  match cs, hl with
  | [c], _ => exact h
/-- Columns. -/
theorem col_int {t : TypeId} {k : IntKind} {len : Nat} {V : Nat → Value} (ht : P.underlying t = some (.int k)) (h : ∀ i, i < len → Rd enc P w base spare held t [V i]) :
    ∃ F : Nat → Int, ∀ i, i < len → V i = .int k (F i) ∧ (Lit.int k (F i)).wf = true :=
  choose_lt fun i hi => by obtain ⟨n, y, hy, _⟩ := h i hi; exact field_int ht hy
theorem col_bool {t : TypeId} {len : Nat} {V : Nat → Value} (ht : P.underlying t = some .bool) (h : ∀ i, i < len → Rd enc P w base spare held t [V i]) :
    ∃ F : Nat → Bool, ∀ i, i < len → V i = .bool (F i) :=
  choose_lt fun i hi => by obtain ⟨n, y, hy, _⟩ := h i hi; exact field_bool ht hy
theorem col_bytes {t e : TypeId} {len : Nat} {V : Nat → Value} (ht : P.underlying t = some (.slice e)) (he : P.underlying e = some (.int .u8)) (hc : P.cellsOf e = 1) (hb1 : P.bytesOf e = 1) (h : ∀ i, i < len → Rd enc P w base spare held t [V i]) :
    ∃ F : Nat → Option Addr × Nat × List Int, ∀ i, i < len → V i = .slice (F i).1 (F i).2.2.length (F i).2.1 ∧ Bin w (F i).1 (F i).2.2 ∧ Oct (F i).2.2 ∧ (F i).2.2.length ≤ (F i).2.1 ∧ (F i).2.2.length ≤ 140737488351232 :=
  rows_bytes_sized ht he hc hb1 h
end
end Go.Proofs.Ytlbhoijjbpjmoaa
