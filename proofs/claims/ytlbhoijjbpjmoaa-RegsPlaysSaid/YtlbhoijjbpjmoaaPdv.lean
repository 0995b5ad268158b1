/-
  The program's device in memory: seven cells, two rows of blocks, one row of waiting writes.
-/
import Derived.Test.YtlbhoijjbpjmoaaTb
import Derived.Test.YtlbhoijjbpjmoaaDs
namespace Go.Proofs.Ytlbhoijjbpjmoaa
open Go.RowKit
set_option linter.unusedVariables false
set_option linter.unusedSimpArgs false

/-- A slice of n bytes in a block from B on, whatever the block was made for. -/
def Ort (B : Nat) (w : World) (v : Value) (n : Nat) (xs : List Int) : Prop := ∃ e, w.ownsRow B e 1 v n (xs.map (Value.int .u8))
section
variable {B n : Nat} {w w' : World} {v : Value} {xs : List Int}
theorem Own.ort (h : Own B w v n xs) : Ort B w v n xs := ⟨_, h⟩
theorem Ort.len (h : Ort B w v n xs) : xs.length = n := by
  obtain ⟨e, h⟩ := h
  have := h.1
  simpa using this
theorem Ort.lt (h : Ort B w v n xs) (q : Nat) (hq : v.ownBlock = some q) : B ≤ q ∧ q < w.heap.size := by
  obtain ⟨e, h⟩ := h
  exact World.ownsRow.lt h q hq
theorem Ort.below (h : Ort B w v n xs) (hb : Below w.heap.size w w') : Ort B w' v n xs := by
  obtain ⟨e, h⟩ := h
  exact ⟨e, row_below h hb⟩
theorem Ort.nil (B : Nat) (w : World) : Ort B w (.slice none 0 0) 0 [] := (Own.nil B w).ort
theorem Ort.shape (h : Ort B w v n xs) : (v = .slice none 0 0 ∧ n = 0) ∨ ∃ g cap, v = .slice (some ⟨g, 0, none⟩) n cap ∧ B ≤ g ∧ n ≤ cap := by
  obtain ⟨e, h⟩ := h
  rcases h.2 with ⟨hv, hn⟩ | ⟨g, cap, cur, rfl, hB, _, hc, _⟩
  · exact .inl ⟨hv, hn⟩
  · exact .inr ⟨g, cap, rfl, hB, hc⟩
theorem Ort.bin (h : Ort B w v n xs) : ∃ p cap, v = .slice p n cap ∧ n ≤ cap ∧ Bin w p xs := by
  have hl := h.len
  rcases h.shape with ⟨rfl, rfl⟩ | ⟨g, cap, rfl, _, hc⟩
  · exact ⟨none, 0, rfl, Nat.le_refl _, fun hn => by omega⟩
  · obtain ⟨e, h⟩ := h
    refine ⟨some ⟨g, 0, none⟩, cap, rfl, hc, fun _ => ⟨g, 0, rfl, fun i hi => ?_⟩⟩
    rw [Nat.zero_add, World.ownsRow.cellAt h i (by omega), List.getElem?_map, List.getD_eq_getElem?_getD, List.getElem?_eq_getElem hi]
    rfl
theorem Ort.slice' {c : Nat} {p : Option Addr} (h : Ort B w (.slice p n c) n xs) : n ≤ c ∧ Bin w p xs := by
  obtain ⟨p', c', e, hc, hb⟩ := h.bin
  injection e with e1 _ e3
  subst e1
  subst e3
  exact ⟨hc, hb⟩
theorem Ort.mono {B' : Nat} (h : Ort B w v n xs) (hB : B' ≤ B) : Ort B' w v n xs := by
  obtain ⟨e, h⟩ := h
  refine ⟨e, h.1, ?_⟩
  rcases h.2 with h2 | ⟨g, cap, cur, h1, h2, h3⟩
  · exact .inl h2
  · exact .inr ⟨g, cap, cur, h1, Nat.le_trans hB h2, h3⟩
theorem Ort.tb {F : Nat → Prop} (h : Ort B w v n xs) (ht : Tb F w w') (hne : ∀ q, v.ownBlock = some q → ¬ F q) : Ort B w' v n xs := by
  obtain ⟨e, h⟩ := h
  exact ⟨e, row_tb h ht hne⟩
theorem Ort.aside {row : Option Nat} (h : Ort B w v n xs) (hg : w.grownBy w' row) (hne : ∀ q, v.ownBlock = some q → some q ≠ row) : Ort B w' v n xs := by
  obtain ⟨e, h⟩ := h
  exact ⟨e, row_aside h hg hne⟩
theorem Ort.isSlice (h : Ort B w v n xs) (hm : 0 < n) : ∃ b c, v = .slice (some ⟨b, 0, none⟩) n c ∧ n ≤ c ∧ Bin w (some ⟨b, 0, none⟩) xs := by
  obtain ⟨p, c, rfl, hc, hb⟩ := h.bin
  rcases h.shape with ⟨_, h0⟩ | ⟨b, c', e, _, _⟩
  · omega
  · injection e with e1
    subst e1
    exact ⟨b, c, rfl, hc, hb⟩
theorem Ort.cellAt {g cap : Nat} (h : Ort B w (.slice (some ⟨g, 0, none⟩) n cap) n xs) (j : Nat) (hj : j < n) : w.cell? ⟨g, j, none⟩ = some (.int .u8 (xs.getD j 0)) := by
  have hl := h.len
  obtain ⟨e, h⟩ := h
  rw [World.ownsRow.cellAt h j (by omega), List.getElem?_map, List.getD_eq_getElem?_getD, List.getElem?_eq_getElem (show j < xs.length by omega)]
  rfl
theorem Ort.frozenAt {g cap : Nat} (h : Ort B w (.slice (some ⟨g, 0, none⟩) n cap) n xs) (j : Nat) : w.frozen? ⟨g, j, none⟩ = false := by
  obtain ⟨e, h⟩ := h
  exact World.ownsRow.frozenAt h j
theorem Ort.stored {g cap : Nat} (h : Ort B w (.slice (some ⟨g, 0, none⟩) n cap) n xs) (j : Nat) (x : Int) : Ort B (w.setCell ⟨g, j, none⟩ (.int .u8 x)) (.slice (some ⟨g, 0, none⟩) n cap) n (xs.set j x) := by
  obtain ⟨e, h⟩ := h
  have := (World.ownsRow.stored h j (.int .u8 x)).1
  refine ⟨e, ?_⟩
  rw [List.map_set]
  exact this
end

/-- The bytes of blocks, one behind the other. -/
def flat (s : Nat → List Int) : Nat → Nat := fun q => ((s (q / 256)).getD (q % 256) 0).toNat
/-- The bytes of one. -/
def flat1 (b : List Int) : Nat → Nat := fun j => (b.getD j 0).toNat
theorem flat_at (s : Nat → List Int) (i j : Nat) (h : j < 256) : flat s (i * 256 + j) = flat1 (s i) j := by
  unfold flat flat1
  rw [show (i * 256 + j) / 256 = i from by omega, show (i * 256 + j) % 256 = j from by omega]
theorem flat1_vals {b : List Int} (h : b.length = 256 ∧ Oct b) : vals 256 (flat1 b) = b.map (Value.int .u8) := by
  refine List.ext_getElem (by rw [vals_length, List.length_map, h.1]) fun j h1 h2 => ?_
  rw [vals_length] at h1
  have e := vals_at 256 (flat1 b) j h1
  rw [List.getElem?_eq_getElem (by rw [vals_length]; exact h1)] at e
  rw [Option.some.inj e, List.getElem_map]
  have ho := h.2.at j
  have hb : b.getD j 0 = b[j]'(by rw [h.1]; exact h1) := by rw [List.getD_eq_getElem?_getD, List.getElem?_eq_getElem (by rw [h.1]; exact h1)]; rfl
  unfold flat1
  rw [hb] at ho ⊢
  congr 1
  omega
theorem flat_put (s : Nat → List Int) (i : Nat) (b : List Int) (q : Nat) : flat (putB s i b) q = if i * 256 ≤ q ∧ q < i * 256 + 256 then flat1 b (q - i * 256) else flat s q := by
  by_cases h : i * 256 ≤ q ∧ q < i * 256 + 256
  · rw [if_pos h]
    unfold flat flat1 putB
    rw [if_pos (show q / 256 = i from by omega), show q % 256 = q - i * 256 from by omega]
  · rw [if_neg h]
    unfold flat putB
    rw [if_neg (show ¬ q / 256 = i from by omega)]
theorem out_blk {i a m j : Nat} (h1 : ¬ (i * 256 ≤ j ∧ j < i * 256 + 256)) (hm : a + m ≤ 256) : ¬ (i * 256 + a ≤ j ∧ j < i * 256 + a + m) := fun e => h1 ⟨Nat.le_trans (Nat.le_add_right _ _) e.1, Nat.lt_of_lt_of_le e.2 (by rw [Nat.add_assoc]; exact Nat.add_le_add_left hm _)⟩
section
variable {w w' : World} {k n i : Nat} {s : Nat → List Int} {x : Nat → Nat}
theorem Arr.tb {F : Nat → Prop} (h : Arr w k n x) (ht : Tb F w w') (hl : k < w.heap.size) (hn : ¬ F k) : Arr w' k n x := fun j hj =>
  ⟨(ht.cell (p := ⟨k, j, none⟩) hl hn).trans (h j hj).1, (ht.frozen (p := ⟨k, j, none⟩) hl hn).trans (h j hj).2⟩
/-- Block i, as it lies. -/
theorem Arr.blk (h : Arr w k (n * 256) (flat s)) (hi : i < n) : w.rangeAt k (i * 256) (vals 256 (flat1 (s i))) := by
  have := h.part (o := i * 256) (n := 256) (by omega)
  rwa [vals_same (y := flat1 (s i)) fun j hj => flat_at s i j hj] at this
/-- Block i written. -/
theorem Arr.putBlk (h : Arr w k (n * 256) (flat s)) (hi : i < n) (b : List Int) : Arr (w.setCells k (i * 256) (vals 256 (flat1 b))) k (n * 256) (flat (putB s i b)) :=
  h.putAt (by omega) _ _ fun j _ => flat_put s i b j
/-- Some of its bytes written. -/
theorem Arr.putLay (h : Arr w k (n * 256) (flat s)) (hi : i < n) {a m : Nat} {b : List Int} (hs : (s i).length = 256) (hb : b.length = m) (hm : a + m ≤ 256) : Arr (w.setCells k (i * 256 + a) (vals m (flat1 b))) k (n * 256) (flat (putB s i (Dst.lay (s i) a b))) := by
  refine h.putAt (by omega) _ _ fun j _ => ?_
  rw [flat_put]
  by_cases h1 : i * 256 ≤ j ∧ j < i * 256 + 256
  · rw [if_pos h1]
    obtain ⟨q, hq⟩ : ∃ q, q = j - i * 256 := ⟨_, rfl⟩
    have hj : j = i * 256 + q := by omega
    have hq2 : q < 256 := by omega
    rw [← hq]
    by_cases h2 : i * 256 + a ≤ j ∧ j < i * 256 + a + m
    · rw [if_pos h2, show j - (i * 256 + a) = q - a from by omega]
      unfold flat1 Dst.lay
      rw [List.append_assoc, List.getD_eq_getElem?_getD, List.getElem?_append_right (by rw [List.length_take]; omega), List.length_take, Nat.min_eq_left (by omega), List.getElem?_append_left (by omega), ← List.getD_eq_getElem?_getD]
    · rw [if_neg h2, hj, flat_at s i q hq2]
      unfold flat1 Dst.lay
      by_cases h3 : q < a
      · rw [List.append_assoc, List.getD_eq_getElem?_getD, List.getElem?_append_left (by rw [List.length_take]; omega), List.getElem?_take, if_pos h3, ← List.getD_eq_getElem?_getD]
      · rw [List.getD_eq_getElem?_getD, List.getElem?_append_right (by rw [List.length_append, List.length_take]; omega), List.length_append, List.length_take, List.getElem?_drop, show a + b.length + (q - (min a (s i).length + b.length)) = q from by omega, ← List.getD_eq_getElem?_getD]
  · rw [if_neg h1, if_neg (out_blk h1 hm)]
end

/-- A write's cells. -/
def wcell (q : Nat × List Int) : List Value := .int .i64 (q.1 : Nat) :: q.2.map (Value.int .u8)
def wcells (ws : List (Nat × List Int)) : List Value := ws.flatMap wcell
theorem wcells_snoc (ws : List (Nat × List Int)) (q : Nat × List Int) : wcells (ws ++ [q]) = wcells ws ++ wcell q := by
  rw [wcells, List.flatMap_append, List.flatMap_singleton]
  rfl
theorem wcell_length {q : Nat × List Int} (h : q.2.length = 256) : (wcell q).length = 257 := by rw [wcell, List.length_cons, List.length_map, h]
theorem wcell_one (q : Nat × List Int) : ∀ u ∈ wcell q, u.oneCell' = true := by
  intro u hu
  rw [wcell, List.mem_cons, List.mem_map] at hu
  rcases hu with rfl | ⟨x, _, rfl⟩ <;> rfl
theorem wcells_length : ∀ (ws : List (Nat × List Int)), (∀ q ∈ ws, q.2.length = 256) → (wcells ws).length = ws.length * 257
  | [], _ => rfl
  | q :: ws, h => by
    have := wcells_length ws fun q hq => h q (List.mem_cons_of_mem _ hq)
    rw [show wcells (q :: ws) = wcell q ++ wcells ws from rfl, List.length_append, this, wcell_length (h q (List.mem_cons_self ..)), List.length_cons]
    omega
theorem wcells_at : ∀ (ws : List (Nat × List Int)), (∀ q ∈ ws, q.2.length = 256) → ∀ k (hk : k < ws.length) (j : Nat), j < 257 → (wcells ws)[k * 257 + j]? = (wcell ws[k])[j]?
  | [], _, k, hk, _, _ => absurd hk (Nat.not_lt_zero _)
  | q :: ws, h, k, hk, j, hj => by
    have hl := wcell_length (h q (List.mem_cons_self ..))
    rw [show wcells (q :: ws) = wcell q ++ wcells ws from rfl]
    cases k with
    | zero => rw [Nat.zero_mul, Nat.zero_add, List.getElem?_append_left (by omega)]; rfl
    | succ k =>
      rw [List.length_cons] at hk
      rw [List.getElem?_append_right (by omega), hl, show (k + 1) * 257 + j - 257 = k * 257 + j from by omega, List.getElem_cons_succ]
      exact wcells_at ws (fun q hq => h q (List.mem_cons_of_mem _ hq)) k (by omega) j hj

/-- Seven cells at the head of block g; two rows of n blocks; the writes that wait. -/
structure PDv (B : Nat) (w : World) (g : Nat) (F : Nat → Prop) (n kN cN kF cF : Nat) (vW : Value) (now firm : Nat → List Int) (ws : List (Nat × List Int)) (down : Bool) (st fl ct : Nat) : Prop where
  c0 : w.cell? ⟨g, 0, none⟩ = some (.slice (some ⟨kN, 0, none⟩) n cN)
  c1 : w.cell? ⟨g, 1, none⟩ = some (.slice (some ⟨kF, 0, none⟩) n cF)
  c2 : w.cell? ⟨g, 2, none⟩ = some vW
  c3 : w.cell? ⟨g, 3, none⟩ = some (.bool down)
  c4 : w.cell? ⟨g, 4, none⟩ = some (.int .u64 (st : Nat))
  c5 : w.cell? ⟨g, 5, none⟩ = some (.int .u64 (fl : Nat))
  c6 : w.cell? ⟨g, 6, none⟩ = some (.int .u64 (ct : Nat))
  z : ∀ j, j < 7 → w.frozen? ⟨g, j, none⟩ = false
  aN : Arr w kN (n * 256) (flat now)
  aF : Arr w kF (n * 256) (flat firm)
  rW : w.ownsRow B 83 257 vW ws.length (wcells ws)
  nN : n ≤ cN
  nF : n ≤ cF
  fg : F g
  fN : F kN ∧ kN ≠ g
  fF : F kF ∧ kF ≠ g ∧ kF ≠ kN
  fW : ∀ q, vW.ownBlock = some q → F q ∧ q ≠ g ∧ q ≠ kN ∧ q ≠ kF
  lt : ∀ q, F q → B ≤ q ∧ q < w.heap.size
section
variable {B g n kN cN kF cF st fl ct : Nat} {w w' : World} {F F' : Nat → Prop} {vW : Value} {now firm : Nat → List Int} {ws : List (Nat × List Int)} {down : Bool}
theorem PDv.tb (h : PDv B w g F n kN cN kF cF vW now firm ws down st fl ct) (ht : Tb F' w w') (hF : ∀ q, F q → ¬ F' q) : PDv B w' g F n kN cN kF cF vW now firm ws down st fl ct := by
  have hg := (h.lt g h.fg).2
  have hn := hF g h.fg
  have hc : ∀ j, w'.cell? ⟨g, j, none⟩ = w.cell? ⟨g, j, none⟩ := fun j => ht.cell (p := ⟨g, j, none⟩) hg hn
  exact ⟨(hc 0).trans h.c0, (hc 1).trans h.c1, (hc 2).trans h.c2, (hc 3).trans h.c3, (hc 4).trans h.c4, (hc 5).trans h.c5, (hc 6).trans h.c6, fun j hj => (ht.frozen (p := ⟨g, j, none⟩) hg hn).trans (h.z j hj),
    h.aN.tb ht (h.lt _ h.fN.1).2 (hF _ h.fN.1), h.aF.tb ht (h.lt _ h.fF.1).2 (hF _ h.fF.1), row_tb h.rW ht fun q hq => hF q (h.fW q hq).1, h.nN, h.nF, h.fg, h.fN, h.fF, h.fW, fun q hq => ⟨(h.lt q hq).1, Nat.lt_of_lt_of_le (h.lt q hq).2 ht.size⟩⟩
theorem PDv.below (h : PDv B w g F n kN cN kF cF vW now firm ws down st fl ct) (hb : Below w.heap.size w w') : PDv B w' g F n kN cN kF cF vW now firm ws down st fl ct :=
  h.tb (F' := fun _ => False) (Tb.of_below hb) fun _ _ h => h
theorem PDv.mono {B' : Nat} (h : PDv B w g F n kN cN kF cF vW now firm ws down st fl ct) (hB : B' ≤ B) : PDv B' w g F n kN cN kF cF vW now firm ws down st fl ct := by
  refine ⟨h.c0, h.c1, h.c2, h.c3, h.c4, h.c5, h.c6, h.z, h.aN, h.aF, ⟨h.rW.1, ?_⟩, h.nN, h.nF, h.fg, h.fN, h.fF, h.fW, fun q hq => ⟨Nat.le_trans hB (h.lt q hq).1, (h.lt q hq).2⟩⟩
  rcases h.rW.2 with h2 | ⟨g, cap, cur, h1, h2, h3⟩
  · exact .inl h2
  · exact .inr ⟨g, cap, cur, h1, Nat.le_trans hB h2, h3⟩
/-- One of the four numbers written. -/
theorem PDv.num (h : PDv B w g F n kN cN kF cF vW now firm ws down st fl ct) (j : Nat) (hj : 3 ≤ j) (hj7 : j < 7) (u : Value) (down' : Bool) (st' fl' ct' : Nat)
    (h3 : some (Value.bool down') = if j = 3 then some u else some (.bool down)) (h4 : some (Value.int .u64 (st' : Nat)) = if j = 4 then some u else some (.int .u64 (st : Nat)))
    (h5 : some (Value.int .u64 (fl' : Nat)) = if j = 5 then some u else some (.int .u64 (fl : Nat))) (h6 : some (Value.int .u64 (ct' : Nat)) = if j = 6 then some u else some (.int .u64 (ct : Nat))) :
    PDv B (w.setCell ⟨g, j, none⟩ u) g F n kN cN kF cF vW now firm ws down' st' fl' ct' := by
  have ht : Tb (fun q => q = g) w (w.setCell ⟨g, j, none⟩ u) := Tb.setCell (F := fun q => q = g) (b := g) (Tb.refl _ w) (.inl rfl) j u
  have hc : ∀ k x, w.cell? ⟨g, k, none⟩ = some x → (w.setCell ⟨g, j, none⟩ u).cell? ⟨g, k, none⟩ = if j = k then some u else some x := fun k x hx => by
    by_cases hk : j = k
    · subst hk
      rw [if_pos rfl]
      exact World.cell?_setCell_same w _ _ hx
    · rw [if_neg hk, World.cell?_setCell_other w _ _ _ (fun e0 => hk (Addr.mk.inj e0).2.1)]
      exact hx
  have no : ∀ k, k < 3 → ¬ j = k := fun k hk => by omega
  exact ⟨(hc 0 _ h.c0).trans (if_neg (no 0 (by decide))), (hc 1 _ h.c1).trans (if_neg (no 1 (by decide))), (hc 2 _ h.c2).trans (if_neg (no 2 (by decide))), (hc 3 _ h.c3).trans h3.symm, (hc 4 _ h.c4).trans h4.symm, (hc 5 _ h.c5).trans h5.symm, (hc 6 _ h.c6).trans h6.symm,
    fun k hk => (World.frozen?_setCell w _ _ _).trans (h.z k hk), h.aN.tb ht (h.lt _ h.fN.1).2 h.fN.2, h.aF.tb ht (h.lt _ h.fF.1).2 h.fF.2.1, row_tb h.rW ht fun q hq => (h.fW q hq).2.1, h.nN, h.nF, h.fg, h.fN, h.fF, h.fW, fun q hq => ⟨(h.lt q hq).1, Nat.lt_of_lt_of_le (h.lt q hq).2 ht.size⟩⟩
theorem PDv.cellsN (h : PDv B w g F n kN cN kF cF vW now firm ws down st fl ct) (o : Nat) (vs : List Value) (now' : Nat → List Int) (ha : Arr (w.setCells kN o vs) kN (n * 256) (flat now')) : PDv B (w.setCells kN o vs) g F n kN cN kF cF vW now' firm ws down st fl ct := by
  have ht : Tb (fun q => q = kN) w (w.setCells kN o vs) := Tb.setCells (F := fun q => q = kN) (b := kN) (Tb.refl _ w) (.inl rfl) o vs
  have hg := (h.lt g h.fg).2
  have hc : ∀ j, (w.setCells kN o vs).cell? ⟨g, j, none⟩ = w.cell? ⟨g, j, none⟩ := fun j => ht.cell (p := ⟨g, j, none⟩) hg (fun e => h.fN.2 e.symm)
  exact ⟨(hc 0).trans h.c0, (hc 1).trans h.c1, (hc 2).trans h.c2, (hc 3).trans h.c3, (hc 4).trans h.c4, (hc 5).trans h.c5, (hc 6).trans h.c6, fun j hj => (ht.frozen (p := ⟨g, j, none⟩) hg (fun e => h.fN.2 e.symm)).trans (h.z j hj),
    ha, h.aF.tb ht (h.lt _ h.fF.1).2 h.fF.2.2, row_tb h.rW ht fun q hq => (h.fW q hq).2.2.1, h.nN, h.nF, h.fg, h.fN, h.fF, h.fW, fun q hq => ⟨(h.lt q hq).1, Nat.lt_of_lt_of_le (h.lt q hq).2 ht.size⟩⟩
theorem PDv.cellsF (h : PDv B w g F n kN cN kF cF vW now firm ws down st fl ct) (o : Nat) (vs : List Value) (firm' : Nat → List Int) (ha : Arr (w.setCells kF o vs) kF (n * 256) (flat firm')) : PDv B (w.setCells kF o vs) g F n kN cN kF cF vW now firm' ws down st fl ct := by
  have ht : Tb (fun q => q = kF) w (w.setCells kF o vs) := Tb.setCells (F := fun q => q = kF) (b := kF) (Tb.refl _ w) (.inl rfl) o vs
  have hg := (h.lt g h.fg).2
  have hc : ∀ j, (w.setCells kF o vs).cell? ⟨g, j, none⟩ = w.cell? ⟨g, j, none⟩ := fun j => ht.cell (p := ⟨g, j, none⟩) hg (fun e => h.fF.2.1 e.symm)
  exact ⟨(hc 0).trans h.c0, (hc 1).trans h.c1, (hc 2).trans h.c2, (hc 3).trans h.c3, (hc 4).trans h.c4, (hc 5).trans h.c5, (hc 6).trans h.c6, fun j hj => (ht.frozen (p := ⟨g, j, none⟩) hg (fun e => h.fF.2.1 e.symm)).trans (h.z j hj),
    h.aN.tb ht (h.lt _ h.fN.1).2 (fun e => h.fF.2.2 e.symm), ha, row_tb h.rW ht fun q hq => (h.fW q hq).2.2.2, h.nN, h.nF, h.fg, h.fN, h.fF, h.fW, fun q hq => ⟨(h.lt q hq).1, Nat.lt_of_lt_of_le (h.lt q hq).2 ht.size⟩⟩
/-- Block k of what it tells written. -/
theorem PDv.putN {k : Nat} (h : PDv B w g F n kN cN kF cF vW now firm ws down st fl ct) (hk : k < n) (b : List Int) : PDv B (w.setCells kN (k * 256) (vals 256 (flat1 b))) g F n kN cN kF cF vW (putB now k b) firm ws down st fl ct :=
  h.cellsN _ _ _ (h.aN.putBlk hk b)
theorem PDv.putF {k : Nat} (h : PDv B w g F n kN cN kF cF vW now firm ws down st fl ct) (hk : k < n) (b : List Int) : PDv B (w.setCells kF (k * 256) (vals 256 (flat1 b))) g F n kN cN kF cF vW now (putB firm k b) ws down st fl ct :=
  h.cellsF _ _ _ (h.aF.putBlk hk b)
/-- Nothing waits any more. -/
theorem PDv.calm (h : PDv B w g F n kN cN kF cF vW now firm ws down st fl ct) : PDv B (w.setCell ⟨g, 2, none⟩ (.slice none 0 0)) g F n kN cN kF cF (.slice none 0 0) now firm [] down st fl ct := by
  have ht : Tb (fun q => q = g) w (w.setCell ⟨g, 2, none⟩ (.slice none 0 0)) := Tb.setCell (F := fun q => q = g) (b := g) (Tb.refl _ w) (.inl rfl) 2 (.slice none 0 0)
  have hc : ∀ k, k ≠ 2 → (w.setCell ⟨g, 2, none⟩ (.slice none 0 0)).cell? ⟨g, k, none⟩ = w.cell? ⟨g, k, none⟩ := fun k hk => World.cell?_setCell_other w _ _ _ (fun e0 => hk (Addr.mk.inj e0).2.1.symm)
  exact ⟨(hc 0 (by decide)).trans h.c0, (hc 1 (by decide)).trans h.c1, World.cell?_setCell_same w _ _ h.c2, (hc 3 (by decide)).trans h.c3, (hc 4 (by decide)).trans h.c4, (hc 5 (by decide)).trans h.c5, (hc 6 (by decide)).trans h.c6, fun j hj => (World.frozen?_setCell w _ _ _).trans (h.z j hj),
    h.aN.tb ht (h.lt _ h.fN.1).2 h.fN.2, h.aF.tb ht (h.lt _ h.fF.1).2 h.fF.2.1, World.ownsRow_nil _ _ _ _, h.nN, h.nF, h.fg, h.fN, h.fF, fun q hq => (by cases hq), fun q hq => ⟨(h.lt q hq).1, Nat.lt_of_lt_of_le (h.lt q hq).2 ht.size⟩⟩
/-- One write more waits: vW was grown to v', which is then stored. -/
theorem PDv.snoc {v' : Value} {H : Nat} {q : Nat × List Int} (h : PDv B w g F n kN cN kF cF vW now firm ws down st fl ct) (hg : w.grownBy w' vW.ownBlock) (ho : w'.ownsRow B 83 257 v' (ws.length + 1) (wcells ws ++ wcell q))
    (hv : v'.ownBlock = vW.ownBlock ∨ v'.ownBlock = some H) (hH : w.heap.size ≤ H) :
    PDv B (w'.setCell ⟨g, 2, none⟩ v') g (fun q => F q ∨ v'.ownBlock = some q) n kN cN kF cF v' now firm (ws ++ [q]) down st fl ct := by
  have t1 : Tb (fun q => vW.ownBlock = some q) w w' := Tb.of_grown hg fun q e => e
  have t2 : Tb (fun q => q = g) w' (w'.setCell ⟨g, 2, none⟩ v') := Tb.setCell (F := fun q => q = g) (b := g) (Tb.refl _ w') (.inl rfl) 2 v'
  have hgl := (h.lt g h.fg).2
  have hgn : ¬ vW.ownBlock = some g := fun e => (h.fW g e).2.1 rfl
  have hc1 : ∀ j, w'.cell? ⟨g, j, none⟩ = w.cell? ⟨g, j, none⟩ := fun j => t1.cell (p := ⟨g, j, none⟩) hgl hgn
  have hz1 : ∀ j, w'.frozen? ⟨g, j, none⟩ = w.frozen? ⟨g, j, none⟩ := fun j => t1.frozen (p := ⟨g, j, none⟩) hgl hgn
  have hc : ∀ k, k ≠ 2 → (w'.setCell ⟨g, 2, none⟩ v').cell? ⟨g, k, none⟩ = w.cell? ⟨g, k, none⟩ := fun k hk => (World.cell?_setCell_other w' _ _ _ (fun e0 => hk (Addr.mk.inj e0).2.1.symm)).trans (hc1 k)
  have hv' : ∀ q, v'.ownBlock = some q → vW.ownBlock = some q ∨ w.heap.size ≤ q := fun q e => by
    rcases hv with h1 | h1
    · exact .inl (h1.symm.trans e)
    · have := Option.some.inj (h1.symm.trans e); exact .inr (by omega)
  have far : ∀ q, v'.ownBlock = some q → q ≠ g ∧ q ≠ kN ∧ q ≠ kF := fun q e => by
    rcases hv' q e with h1 | h1
    · exact (h.fW q h1).2
    · have a1 := (h.lt g h.fg).2
      have a2 := (h.lt _ h.fN.1).2
      have a3 := (h.lt _ h.fF.1).2
      omega
  have hl : w'.heap.size ≤ (w'.setCell ⟨g, 2, none⟩ v').heap.size := t2.size
  have ho2 : w'.ownsRow B 83 257 v' (ws ++ [q]).length (wcells (ws ++ [q])) := by
    rw [wcells_snoc, List.length_append, List.length_singleton]
    exact ho
  refine ⟨(hc 0 (by decide)).trans h.c0, (hc 1 (by decide)).trans h.c1, World.cell?_setCell_same w' _ _ ((hc1 2).trans h.c2), (hc 3 (by decide)).trans h.c3, (hc 4 (by decide)).trans h.c4, (hc 5 (by decide)).trans h.c5, (hc 6 (by decide)).trans h.c6, fun j hj => (World.frozen?_setCell w' _ _ _).trans ((hz1 j).trans (h.z j hj)),
    (h.aN.tb t1 (h.lt _ h.fN.1).2 fun e => (h.fW _ e).2.2.1 rfl).tb t2 (Nat.lt_of_lt_of_le (h.lt _ h.fN.1).2 t1.size) h.fN.2, (h.aF.tb t1 (h.lt _ h.fF.1).2 fun e => (h.fW _ e).2.2.2 rfl).tb t2 (Nat.lt_of_lt_of_le (h.lt _ h.fF.1).2 t1.size) h.fF.2.1, row_tb ho2 t2 fun q hq => (far q hq).1,
    h.nN, h.nF, .inl h.fg, ⟨.inl h.fN.1, h.fN.2⟩, ⟨.inl h.fF.1, h.fF.2⟩, fun q hq => ⟨.inr hq, far q hq⟩, fun q hq => ?_⟩
  rcases hq with h1 | h1
  · exact ⟨(h.lt q h1).1, Nat.lt_of_lt_of_le (Nat.lt_of_lt_of_le (h.lt q h1).2 t1.size) hl⟩
  · have := World.ownsRow.lt ho q h1
    exact ⟨this.1, Nat.lt_of_lt_of_le this.2 hl⟩
end

/-- The program's device S, in block g, over the blocks F, all of them from B on. -/
structure PDk (B : Nat) (w : World) (g : Nat) (F : Nat → Prop) (S : Dst) : Prop where
  lt : ∀ q, F q → B ≤ q ∧ q < w.heap.size
  fg : F g
  ok : S.ok
  hs : S.steps ≤ 9223372036854775807
  hw : S.ws.length ≤ 4294967296
  calm : ∀ i, i < S.n → (∀ q ∈ S.ws, q.1 ≠ i) → S.now i = S.firm i
  at' : ∃ kN cN kF cF vW fl ct, PDv B w g F S.n kN cN kF cF vW S.now S.firm S.ws S.down S.steps fl ct ∧ S.fail = fl - S.steps ∧ (S.cut < 0 ∧ ct = 0 ∨ 0 ≤ S.cut ∧ (ct : Int) = S.steps + S.cut + 1)
theorem PDk.tb {B g : Nat} {w w' : World} {F F' : Nat → Prop} {S : Dst} (h : PDk B w g F S) (ht : Tb F' w w') (hF : ∀ q, F q → ¬ F' q) : PDk B w' g F S := by
  obtain ⟨kN, cN, kF, cF, vW, fl, ct, hv, hr⟩ := h.at'
  have hv' := hv.tb ht hF
  exact ⟨hv'.lt, h.fg, h.ok, h.hs, h.hw, h.calm, kN, cN, kF, cF, vW, fl, ct, hv', hr⟩
theorem PDk.mono {B B' g : Nat} {w : World} {F : Nat → Prop} {S : Dst} (h : PDk B w g F S) (hB : B' ≤ B) : PDk B' w g F S := by
  obtain ⟨kN, cN, kF, cF, vW, fl, ct, hv, hr⟩ := h.at'
  have hv' := hv.mono hB
  exact ⟨hv'.lt, h.fg, h.ok, h.hs, h.hw, h.calm, kN, cN, kF, cF, vW, fl, ct, hv', hr⟩
theorem PDk.drew {B g : Nat} {w : World} {F : Nat → Prop} {S : Dst} (h : PDk B w g F S) : PDk B w.drew g F S := h.tb (F' := fun _ => False) (Tb.drew (Tb.refl _ w)) fun _ _ h => h
theorem PDk.below {B g : Nat} {w w' : World} {F : Nat → Prop} {S : Dst} (h : PDk B w g F S) (hb : Below w.heap.size w w') : PDk B w' g F S := h.tb (F' := fun _ => False) (Tb.of_below hb) fun _ _ h => h

/-- What a call leaves: the device over F', elder blocks of F alone turned. -/
def Dstep (B : Nat) (w : World) (g : Nat) (F : Nat → Prop) (S' : Dst) (w' : World) : Prop := ∃ F', PDk B w' g F' S' ∧ Tb F w w' ∧ ∀ q, F' q → F q ∨ w.heap.size ≤ q
end Go.Proofs.Ytlbhoijjbpjmoaa
