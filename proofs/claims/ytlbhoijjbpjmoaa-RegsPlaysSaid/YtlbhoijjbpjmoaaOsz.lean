/-
  A slice of structs opened, with the reach of each row of bytes in it. No program.
-/
import Derived.Test.YtlbhoijjbpjmoaaOrw
import Derived.SizedLaws
namespace Go.Proofs.Ytlbhoijjbpjmoaa
open Go.RowKit Go.ChangeShapes Go.WideShapes Go.Deep
set_option linter.unusedVariables false

/-- Each weight of d is within the reach. -/
def Wok {H : Type} (P : Program) (t : TypeId) (d : DataW H) : Prop := ∀ n ∈ d.weights P t, n ≤ reachBytes
section
variable {H : Type} {enc : TypeId × Value → H} {P : Program} {w : World} {base : Nat} {spare : Nat → Bool} {held : Bool}
theorem wok_param {ts : List TypeId} {ds : List (DataW H)} (h : (DataW.weightsEach P ts ds).all (· ≤ reachBytes) = true) {j : Nat} {t : TypeId} {d : DataW H} (ht : ts[j]? = some t) (hd : ds[j]? = some d) : Wok P t d := fun n hn => by
  have := List.all_eq_true.1 h n (DataW.weights_mem_each ht hd n hn)
  simpa using this
theorem weights_mem_all {e : TypeId} : ∀ {l : List (DataW H)} {d : DataW H}, d ∈ l → ∀ n ∈ d.weights P e, n ∈ DataW.weightsAll P e l
  | x :: r, d, hd, n, hn => by
    simp only [DataW.weightsAll, List.mem_append]
    rcases List.mem_cons.1 hd with rfl | hd
    · exact .inl hn
    · exact .inr (weights_mem_all hd n hn)
theorem wok_elem {t e : TypeId} {elems sp : List (DataW H)} (h : Wok P t (.slice elems sp)) (hu : P.underlying t = some (.slice e)) {d : DataW H} (hd : d ∈ elems) : Wok P e d := fun n hn =>
  h n (by
    simp only [DataW.weights, hu]
    exact List.mem_cons_of_mem _ (List.mem_append.2 (.inl (weights_mem_all hd n hn))))
theorem wok_len {t e : TypeId} {elems sp : List (DataW H)} (h : Wok P t (.slice elems sp)) (hu : P.underlying t = some (.slice e)) : (elems.length + sp.length) * P.bytesOf e ≤ reachBytes :=
  h _ (by
    simp only [DataW.weights, hu]
    exact List.mem_cons_self ..)
theorem wok_part {e : TypeId} {fs : Array Field} {parts : List (DataW H)} (h : Wok P e (.agg parts)) (hu : P.underlying e = some (.struct fs)) {j : Nat} {f : Field} {d : DataW H} (hf : fs[j]? = some f) (hd : parts[j]? = some d) : Wok P f.type d := fun n hn =>
  h n (by
    simp only [DataW.weights, hu]
    refine DataW.weights_mem_each (j := j) ?_ hd n hn
    rw [List.getElem?_map]
    have hf2 : fs.toList[j]? = some f := by simpa using hf
    rw [hf2]
    rfl)
/-- Element i's field j lies in cell 'i * m + j' behind the slice's address, and reads by itself, within the reach. -/
theorem open_rows_sized {t e : TypeId} {fs : Array Field} {fuel : Nat} {cs : List Value} {x : DataW H × List MemPlace} (ht : P.underlying t = some (.slice e)) (he : P.underlying e = some (.struct fs)) (hone : oneCellFields P fs = true) (hC : P.cellsOf e = fs.size)
    (hw : Wok P t x.1) (h : DataW.trod enc P w base spare held fuel t cs = some x) :
    cs = [.slice none 0 0] ∨ ∃ (a : Addr) (len cap : Nat) (V : Nat → Nat → Value), cs = [.slice (some a) len cap] ∧ len ≤ cap ∧ cap ≤ maxLen ∧
      ∀ i, i < len → ∀ (j : Nat) (f : Field), fs[j]? = some f → w.cell? (a.add (i * fs.size + j)) = some (V i j) ∧ ∃ n y, DataW.trod enc P w base spare held n f.type [V i j] = some y ∧ Wok P f.type y.1 := by
  rcases open_slice ht h with ⟨h0, _⟩ | ⟨a, len, cap, m, n, D, Pl, rfl, hb, hl, hm, hmm, rfl, hx⟩
  · exact .inl h0
  right
  have hlm : len ≤ m := by rw [hmm]; split <;> omega
  have each : ∀ i, i < len → ∃ q : Nat → Value, ∀ (j : Nat) (f : Field), fs[j]? = some f → w.cell? (a.add (i * fs.size + j)) = some (q j) ∧ ∃ n y, DataW.trod enc P w base spare held n f.type [q j] = some y ∧ Wok P f.type y.1 := by
    intro i hi
    obtain ⟨cs', h1, h2⟩ := hx i (by omega)
    have hwi : Wok P e (D i) := wok_elem hw ht (List.mem_map.2 ⟨i, List.mem_range.2 hi, rfl⟩)
    rw [hC] at h1
    obtain ⟨_, hlen, hcell⟩ := World.cells?_some h1
    obtain ⟨ys, k, _, hDy, _, hy, hg⟩ := DataW.trod_struct he h2
    have hD : D i = .agg (ys.map (·.1)) := (Prod.mk.inj hDy).1
    refine ⟨fun j => cs'.getD j undef, fun j f hj => ?_⟩
    have hjs : j < fs.size := (Array.getElem?_eq_some_iff.1 hj).1
    have hjy : j < ys.length := by rw [hy]; exact hjs
    have hjl : j < cs'.length := by omega
    obtain ⟨ho, hk⟩ := hone_of hone j f hj
    have g1 := hg j f hj
    rw [ho, hk, List.getElem?_eq_getElem hjy, List.drop_eq_getElem_cons hjl, List.take_succ_cons, List.take_zero] at g1
    have e0 := hcell j hjs
    rw [add_add, List.getElem?_eq_getElem hjl] at e0
    have ev : cs'.getD j undef = cs'[j] := by rw [List.getD_eq_getElem?_getD, List.getElem?_eq_getElem hjl]; rfl
    refine ⟨?_, k, ys[j], ?_, ?_⟩
    · show w.cell? _ = some (cs'.getD j undef)
      rw [ev]
      exact e0
    · show DataW.trod enc P w base spare held k f.type [cs'.getD j undef] = _
      rw [ev]
      exact g1
    · rw [hD] at hwi
      exact wok_part hwi he hj (by rw [List.getElem?_map, List.getElem?_eq_getElem hjy]; rfl)
  obtain ⟨V, hV⟩ := choose_lt each
  exact ⟨a, len, cap, V, rfl, hl, hm, hV⟩
/-- A field that is a row of bytes, within the reach. -/
theorem field_bytes_sized {t e : TypeId} {n : Nat} {c : Value} {y : DataW H × List MemPlace} (ht : P.underlying t = some (.slice e)) (he : P.underlying e = some (.int .u8)) (hc : P.cellsOf e = 1) (hb1 : P.bytesOf e = 1) (hw : Wok P t y.1) (h : DataW.trod enc P w base spare held n t [c] = some y) :
    ∃ (a : Option Addr) (xs : List Int) (cap : Nat), c = .slice a xs.length cap ∧ Bin w a xs ∧ Oct xs ∧ xs.length ≤ cap ∧ xs.length ≤ 140737488351232 := by
  rcases open_ints ht he hc h with ⟨hcs, _⟩ | ⟨x, l, cap, zs, hcs, _, hl, hm, hz, hx, hcell, hwz⟩
  · refine ⟨none, [], 0, ?_, Bin.nil _ _, Oct.nil, Nat.le_refl _, Nat.zero_le _⟩
    simpa using hcs
  · have hlz : l ≤ zs.length := by
      rw [hz]
      split <;> omega
    have hlt : (zs.take l).length = l := by rw [List.length_take]; omega
    subst hx
    have hs := wok_len hw ht
    rw [hb1] at hs
    simp only [lits, List.length_map, List.length_take, List.length_drop, reachBytes] at hs
    refine ⟨some x, zs.take l, cap, ?_, bin_of_cells hcell hlz, oct_of_wf hwz, by omega, by omega⟩
    rw [hlt]
    simpa using hcs
/-- A column of rows of bytes, within the reach. -/
theorem rows_bytes_sized {t e : TypeId} {len : Nat} {V : Nat → Value} (ht : P.underlying t = some (.slice e)) (he : P.underlying e = some (.int .u8)) (hc : P.cellsOf e = 1) (hb1 : P.bytesOf e = 1) (h : ∀ i, i < len → ∃ n y, DataW.trod enc P w base spare held n t [V i] = some y ∧ Wok P t y.1) :
    ∃ F : Nat → Option Addr × Nat × List Int, ∀ i, i < len → V i = .slice (F i).1 (F i).2.2.length (F i).2.1 ∧ Bin w (F i).1 (F i).2.2 ∧ Oct (F i).2.2 ∧ (F i).2.2.length ≤ (F i).2.1 ∧ (F i).2.2.length ≤ 140737488351232 :=
  choose_lt (p := fun i (q : Option Addr × Nat × List Int) => V i = .slice q.1 q.2.2.length q.2.1 ∧ Bin w q.1 q.2.2 ∧ Oct q.2.2 ∧ q.2.2.length ≤ q.2.1 ∧ q.2.2.length ≤ 140737488351232) fun i hi => by
    obtain ⟨n, y, hy, hwy⟩ := h i hi
    obtain ⟨a, xs, cap, h1, h2, h3, h4, h5⟩ := field_bytes_sized ht he hc hb1 hwy hy
    exact ⟨(a, cap, xs), h1, h2, h3, h4, h5⟩
end
end Go.Proofs.Ytlbhoijjbpjmoaa
