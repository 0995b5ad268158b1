/-
  A slice of structs whose fields are one cell each, opened. No program.
-/
import Derived.Test.YtlbhoijjbpjmoaaOst
import Derived.Deep.Slices
namespace Go.Proofs.Ytlbhoijjbpjmoaa
open Go.RowKit Go.ChangeShapes Go.WideShapes Go.Deep
set_option linter.unusedVariables false

/-- The slice's elements: element i's field j, cols[j] i, lies in cell 'i * cols.length + j' behind its address. -/
def Rws (w : World) (a : Option Addr) (len : Nat) (cols : List (Nat → Value)) : Prop :=
  0 < len → ∃ b o, a = some ⟨b, o, none⟩ ∧ ∀ i, i < len → ∀ (j : Nat) (c : Nat → Value), cols[j]? = some c → w.cell? ⟨b, o + (i * cols.length + j), none⟩ = some (c i)
theorem Rws.nil (w : World) (a : Option Addr) (cols : List (Nat → Value)) : Rws w a 0 cols := fun h => absurd h (Nat.lt_irrefl 0)
theorem Rws.at {w : World} {a : Option Addr} {len : Nat} {cols : List (Nat → Value)} (h : Rws w a len cols) {i : Nat} (hi : i < len) (h0 : 0 < cols.length) :
    ∃ b o, a = some ⟨b, o, none⟩ ∧ b < w.heap.size ∧ ∀ (j : Nat) (c : Nat → Value), cols[j]? = some c → w.cell? ⟨b, o + (i * cols.length + j), none⟩ = some (c i) := by
  obtain ⟨b, o, e, hc⟩ := h (by omega)
  exact ⟨b, o, e, World.block_lt_of_cell? w _ (hc i hi 0 _ (List.getElem?_eq_getElem h0)), fun j c hj => hc i hi j c hj⟩
theorem Rws.kept {w w' : World} {a : Option Addr} {len : Nat} {cols : List (Nat → Value)} (h : Rws w a len cols) (hw : ∀ p : Addr, p.block < w.heap.size → w'.cell? p = w.cell? p) : Rws w' a len cols := fun hl => by
  obtain ⟨b, o, e, hc⟩ := h hl
  refine ⟨b, o, e, fun i hi j c hj => ?_⟩
  have := hc i hi j c hj
  rw [hw _ (World.block_lt_of_cell? w _ this)]
  exact this
theorem Rws.below {w w' : World} {a : Option Addr} {len : Nat} {cols : List (Nat → Value)} (h : Rws w a len cols) (hb : Below w.heap.size w w') : Rws w' a len cols := h.kept fun p hp => hb.cell (p := p) hp
theorem rws_of {w : World} {a : Addr} {len : Nat} {cols : List (Nat → Value)} (h0 : 0 < cols.length) (h : ∀ i, i < len → ∀ (j : Nat) (c : Nat → Value), cols[j]? = some c → w.cell? (a.add (i * cols.length + j)) = some (c i)) : Rws w (some a) len cols := fun hl => by
  have h1 := h 0 hl 0 _ (List.getElem?_eq_getElem h0)
  rw [show a.add (0 * cols.length + 0) = a from by simp [Addr.add]] at h1
  have hs : a.spot = none := World.cell?_spot h1
  obtain ⟨b, o, s⟩ := a
  subst hs
  exact ⟨b, o, rfl, fun i hi j c hj => by have := h i hi j c hj; rwa [Addr.add_mid] at this⟩

section
variable {H : Type} {enc : TypeId × Value → H} {P : Program} {w : World} {base : Nat} {spare : Nat → Bool} {held : Bool}
/-- Element i's field j lies in cell 'i * m + j' behind the slice's address, and reads by itself. -/
theorem open_rows {t e : TypeId} {fs : Array Field} {fuel : Nat} {cs : List Value} {x : DataW H × List MemPlace} (ht : P.underlying t = some (.slice e)) (he : P.underlying e = some (.struct fs)) (hone : oneCellFields P fs = true) (hC : P.cellsOf e = fs.size)
    (h : DataW.trod enc P w base spare held fuel t cs = some x) :
    cs = [.slice none 0 0] ∨ ∃ (a : Addr) (len cap : Nat) (V : Nat → Nat → Value), cs = [.slice (some a) len cap] ∧ len ≤ cap ∧ cap ≤ maxLen ∧
      ∀ i, i < len → ∀ (j : Nat) (f : Field), fs[j]? = some f → w.cell? (a.add (i * fs.size + j)) = some (V i j) ∧ ∃ n y, DataW.trod enc P w base spare held n f.type [V i j] = some y := by
  rcases open_slice ht h with ⟨h0, _⟩ | ⟨a, len, cap, m, n, D, Pl, rfl, hb, hl, hm, hmm, rfl, hx⟩
  · exact .inl h0
  right
  have hlm : len ≤ m := by rw [hmm]; split <;> omega
  have each : ∀ i, i < len → ∃ q : Nat → Value, ∀ (j : Nat) (f : Field), fs[j]? = some f → w.cell? (a.add (i * fs.size + j)) = some (q j) ∧ ∃ n y, DataW.trod enc P w base spare held n f.type [q j] = some y := by
    intro i hi
    obtain ⟨cs', h1, h2⟩ := hx i (by omega)
    rw [hC] at h1
    obtain ⟨_, hlen, hcell⟩ := World.cells?_some h1
    obtain ⟨ys, k, _, _, _, hy, hg⟩ := DataW.trod_struct he h2
    refine ⟨fun j => cs'.getD j undef, fun j f hj => ?_⟩
    have hjs : j < fs.size := (Array.getElem?_eq_some_iff.1 hj).1
    have hjy : j < ys.length := by rw [hy]; exact hjs
    have hjl : j < cs'.length := by omega
    obtain ⟨ho, hk⟩ := hone_of hone j f hj
    have g1 := hg j f hj
    rw [ho, hk, List.getElem?_eq_getElem hjy, List.drop_eq_getElem_cons hjl, List.take_succ_cons, List.take_zero] at g1
    have e0 := hcell j hjs
    rw [add_add, List.getElem?_eq_getElem hjl] at e0
    have ev : cs'.getD j undef = cs'[j] := by rw [List.getD_eq_getElem?_getD, List.getElem?_eq_getElem hjl]; rfl
    refine ⟨?_, k, ys[j], ?_⟩
    · show w.cell? _ = some (cs'.getD j undef)
      rw [ev]
      exact e0
    · show DataW.trod enc P w base spare held k f.type [cs'.getD j undef] = _
      rw [ev]
      exact g1
  obtain ⟨V, hV⟩ := choose_lt each
  exact ⟨a, len, cap, V, rfl, hl, hm, hV⟩
theorem field_bool {t : TypeId} {n : Nat} {c : Value} {y : DataW H × List MemPlace} (ht : P.underlying t = some .bool) (h : DataW.trod enc P w base spare held n t [c] = some y) : ∃ z, c = .bool z := by
  obtain ⟨z, hz, _⟩ := DataW.trod_bool ht h
  exact ⟨z, by simpa using hz⟩
/-- A column of integers. -/
theorem rows_int {t : TypeId} {k : IntKind} {len : Nat} {V : Nat → Value} (ht : P.underlying t = some (.int k)) (h : ∀ i, i < len → ∃ n y, DataW.trod enc P w base spare held n t [V i] = some y) :
    ∃ F : Nat → Int, ∀ i, i < len → V i = .int k (F i) ∧ (Lit.int k (F i)).wf = true :=
  choose_lt fun i hi => by obtain ⟨n, y, hy⟩ := h i hi; exact field_int ht hy
theorem rows_bool {t : TypeId} {len : Nat} {V : Nat → Value} (ht : P.underlying t = some .bool) (h : ∀ i, i < len → ∃ n y, DataW.trod enc P w base spare held n t [V i] = some y) :
    ∃ F : Nat → Bool, ∀ i, i < len → V i = .bool (F i) :=
  choose_lt fun i hi => by obtain ⟨n, y, hy⟩ := h i hi; exact field_bool ht hy
/-- A column of rows of bytes. -/
theorem rows_bytes {t e : TypeId} {len : Nat} {V : Nat → Value} (ht : P.underlying t = some (.slice e)) (he : P.underlying e = some (.int .u8)) (hc : P.cellsOf e = 1) (h : ∀ i, i < len → ∃ n y, DataW.trod enc P w base spare held n t [V i] = some y) :
    ∃ F : Nat → Option Addr × Nat × List Int, ∀ i, i < len → V i = .slice (F i).1 (F i).2.2.length (F i).2.1 ∧ Bin w (F i).1 (F i).2.2 ∧ Oct (F i).2.2 ∧ (F i).2.2.length ≤ (F i).2.1 :=
  choose_lt (p := fun i (q : Option Addr × Nat × List Int) => V i = .slice q.1 q.2.2.length q.2.1 ∧ Bin w q.1 q.2.2 ∧ Oct q.2.2 ∧ q.2.2.length ≤ q.2.1) fun i hi => by
    obtain ⟨n, y, hy⟩ := h i hi
    obtain ⟨a, xs, cap, h1, h2, h3, h4⟩ := field_bytes ht he hc hy
    exact ⟨(a, cap, xs), h1, h2, h3, h4⟩
end
end Go.Proofs.Ytlbhoijjbpjmoaa
