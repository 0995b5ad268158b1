/-
  What is kept while a text is enciphered, part by part.
-/
import Derived.Test.YtgnhbfjngdgibaaChk
import Derived.Test.YtgnhbfjngdgibaaTick
import Derived.Test.YtgnhbfjngdgibaaKa
namespace Go.Proofs.Ytgnhbfjngdgibaa
open Go.RowKit Go.Shelf
set_option linter.unusedVariables false
set_option linter.unusedSimpArgs false

/-! ### The list -/
theorem row_same {F G : Nat → Nat} {n : Nat} (h : ∀ j, j < n → F j = G j) : row F n = row G n := by
  unfold row
  exact List.map_congr_left fun j hj => by rw [h j (List.mem_range.1 hj)]
theorem row_add (F : Nat → Nat) (n : Nat) : ∀ m, row F (n + m) = row F n ++ row (fun j => F (n + j)) m
  | 0 => by simp [row]
  | m + 1 => by rw [← Nat.add_assoc, row_snoc, row_add F n m, row_snoc, List.append_assoc]
/-- The text's parts, each under the next block of the stream. -/
def catS (E : (Nat → Nat) → Nat → Nat) (c0 : Nat → Nat) (ts : List Int) (s : Nat × List Int) (x : Nat) : Nat × List Int := (s.1 + 1, s.2 ++ row (fun j => byt ts (16 * x + j) ^^^ E (nxtN (s.1 + 1) c0) j) (chN ts.length x))
def catL (E : (Nat → Nat) → Nat → Nat) (c0 : Nat → Nat) (ts : List Int) (pre : List Nat) : List Int := (pre.foldl (catS E c0 ts) (0, [])).2
theorem catS_one (E : (Nat → Nat) → Nat → Nat) (c0 : Nat → Nat) (ts : List Int) (pre : List Nat) : (pre.foldl (catS E c0 ts) (0, [])).1 = pre.length := by
  refine snoc_ind (Q := fun pre => (pre.foldl (catS E c0 ts) (0, [])).1 = pre.length) rfl ?_ pre
  intro l x h
  rw [List.foldl_append, List.length_append]
  show (List.foldl (catS E c0 ts) (0, []) l).1 + 1 = _
  rw [h]; rfl
theorem catL_nil (E : (Nat → Nat) → Nat → Nat) (c0 : Nat → Nat) (ts : List Int) : catL E c0 ts [] = [] := rfl
theorem catL_snoc (E : (Nat → Nat) → Nat → Nat) (c0 : Nat → Nat) (ts : List Int) (pre : List Nat) (x : Nat) : catL E c0 ts (pre ++ [x]) = catL E c0 ts pre ++ row (fun j => byt ts (16 * x + j) ^^^ E (nxtN (pre.length + 1) c0) j) (chN ts.length x) := by
  unfold catL
  rw [List.foldl_append]
  show (List.foldl (catS E c0 ts) (0, []) pre).2 ++ row (fun j => byt ts (16 * x + j) ^^^ E (nxtN ((List.foldl (catS E c0 ts) (0, []) pre).1 + 1) c0) j) (chN ts.length x) = _
  rw [catS_one]
theorem catL_len (E : (Nat → Nat) → Nat → Nat) (c0 : Nat → Nat) (ts : List Int) (pre : List Nat) : (catL E c0 ts pre).length ≤ 16 * pre.length := by
  refine snoc_ind (Q := fun pre => (catL E c0 ts pre).length ≤ 16 * pre.length) (Nat.le_refl _) ?_ pre
  intro l x h
  rw [catL_snoc, List.length_append, row_length, List.length_append]
  have : chN ts.length x ≤ 16 := Nat.min_le_left _ _
  simp only [List.length_singleton]
  omega
theorem catL_range (E : (Nat → Nat) → Nat → Nat) (c0 : Nat → Nat) (ts : List Int) : ∀ k, k ≤ (ts.length + 15) / 16 → catL E c0 ts (List.range k) = row (fun j => byt ts j ^^^ strm E c0 j) (min (16 * k) ts.length)
  | 0, _ => by simp [catL, row]
  | k + 1, hk => by
    have hlt : 16 * k < ts.length := by omega
    rw [List.range_succ, catL_snoc, catL_range E c0 ts k (by omega), List.length_range, Nat.min_eq_left (by omega), show min (16 * (k + 1)) ts.length = 16 * k + chN ts.length k from by unfold chN; omega, row_add]
    congr 1
    refine row_same fun j hj => ?_
    have hj16 : j < 16 := Nat.lt_of_lt_of_le hj (Nat.min_le_left _ _)
    show _ = byt ts (16 * k + j) ^^^ E (nxtN ((16 * k + j) / 16 + 1) c0) ((16 * k + j) % 16)
    rw [show (16 * k + j) / 16 = k from by omega, show (16 * k + j) % 16 = j from by omega]
theorem catL_all (E : (Nat → Nat) → Nat → Nat) (c0 : Nat → Nat) (ts : List Int) : catL E c0 ts (List.range ((ts.length + 15) / 16)) = cry E c0 ts := by
  rw [catL_range E c0 ts _ (Nat.le_refl _), Nat.min_eq_right (by omega)]
  rfl

/-! ### The world -/
/-- The cipher, its box (block q), the counter block (q + 1), the closure's box (q + 2), the sum (from q + 3 on), its box (q + 4), both boxes of Chunk (q + 5, q + 6); and all of before. -/
def CSt (w0 : World) (q c kb r : Nat) (F c0 : Nat → Nat) (sl : Value) (xs : List Int) (k : Nat) (W : World) : Prop :=
  Arr W (q + 1) 16 (nxtN k c0) ∧ (∃ v, Boxed W (q + 4) 22 v ∧ Own (q + 3) W v xs.length xs) ∧ Cip W c kb r F ∧ W.cell? ⟨q, 0, none⟩ = some (.pointer (some ⟨c, 0, none⟩)) ∧
  W.cell? ⟨q + 2, 0, none⟩ = some (.func (.func 53) #[] #[.pointer (some ⟨q + 1, 0, none⟩), .pointer (some ⟨q, 0, none⟩)]) ∧ Boxed W (q + 5) 22 sl ∧ Boxed W (q + 6) 3 (.int .i64 16) ∧ Below w0.heap.size w0 W

section
variable {w0 W W' : World} {q c kb r k : Nat} {F c0 : Nat → Nat} {sl : Value} {xs : List Int}
theorem not_row_of {X : World} {row : Option Nat} {a : Addr} {v : Value} (h : X.cell? a = some v) (hr : ∀ r, row = some r → ∃ o : Obj, X.heap[r]? = some o ∧ o.isCells = false) : some a.block ≠ row := fun e => by
  obtain ⟨o, ho, hc⟩ := cells_of_cell h
  obtain ⟨o', ho', hc'⟩ := hr _ e.symm
  rw [ho] at ho'; cases ho'; rw [hc] at hc'; cases hc'
theorem CSt.kept (h : CSt w0 q c kb r F c0 sl xs k W) {row : Option Nat} (hg : W.grownBy W' row) (h1 : some (q + 1) ≠ row) (h2 : ∀ v, Boxed W (q + 4) 22 v → Own (q + 3) W v xs.length xs → v.ownBlock = none ∨ v.ownBlock ≠ row) (h3 : some c ≠ row) (h4 : some kb ≠ row) (h5 : some q ≠ row) (h6 : some (q + 2) ≠ row) (h7 : some (q + 4) ≠ row) (h8 : some (q + 5) ≠ row) (h9 : some (q + 6) ≠ row) (h10 : ∀ j, row = some j → w0.heap.size ≤ j) :
    CSt w0 q c kb r F c0 sl xs k W' := by
  obtain ⟨a1, ⟨v, bv, ov⟩, a3, a4, a5, a6, a7, a8⟩ := h
  refine ⟨a1.grown (by decide) hg h1, ⟨v, bv.kept hg h7, World.ownsRow.kept ov hg (h2 v bv ov)⟩, a3.grown hg h3 h4, ?_, ?_, a6.kept hg h8, a7.kept hg h9, a8.grown hg a8.size h10⟩
  · exact (hg.cell_far ⟨q, 0, none⟩ (World.block_lt_of_cell? W _ a4) h5).trans a4
  · exact (hg.cell_far ⟨q + 2, 0, none⟩ (World.block_lt_of_cell? W _ a5) h6).trans a5
theorem CSt.below (h : CSt w0 q c kb r F c0 sl xs k W) (hb : Below W.heap.size W W') : CSt w0 q c kb r F c0 sl xs k W' := by
  refine h.kept (gb_of none hb) (by simp) (fun v _ _ => ?_) (by simp) (by simp) (by simp) (by simp) (by simp) (by simp) (by simp) (by simp)
  by_cases e : v.ownBlock = none
  · exact .inl e
  · exact .inr e
theorem CSt.tick (h : CSt w0 q c kb r F c0 sl xs k W) (hA : Arr W' (q + 1) 16 (nxtN (k + 1) c0)) (hg : W.grownBy W' (some (q + 1))) (hc : c < q) (hk : kb < q) (hw : w0.heap.size ≤ q) : CSt w0 q c kb r F c0 sl xs (k + 1) W' := by
  obtain ⟨a1, ⟨v, bv, ov⟩, a3, a4, a5, a6, a7, a8⟩ := h
  refine ⟨hA, ⟨v, bv.kept hg (by simp), World.ownsRow.kept ov hg (.inr (ov.ne (b := q + 1) (by omega)).symm)⟩, a3.grown hg (by simp; omega) (by simp; omega), ?_, ?_, a6.kept hg (by simp), a7.kept hg (by simp), a8.grown hg a8.size (fun j e => by cases e; omega)⟩
  · exact (hg.cell_far ⟨q, 0, none⟩ (World.block_lt_of_cell? W _ a4) (by simp)).trans a4
  · exact (hg.cell_far ⟨q + 2, 0, none⟩ (World.block_lt_of_cell? W _ a5) (by simp)).trans a5
theorem CSt.abide (h : CSt w0 q c kb r F c0 sl xs k W) {row : Option Nat} (hg : W.grownBy W' row) (hr : ∀ r, row = some r → w0.heap.size ≤ r ∧ ∃ o : Obj, W.heap[r]? = some o ∧ o.isCells = false) : CSt w0 q c kb r F c0 sl xs k W' := by
  have h' := h
  obtain ⟨a1, ⟨v, bv, ov⟩, a3, a4, a5, a6, a7, a8⟩ := h'
  have hr2 := fun r e => (hr r e).2
  refine h.kept hg (not_row_of (a1 0 (by decide)).1 hr2) (fun v bv ov => ?_) (not_row_of a3.1 hr2) (not_row_of (a3.2.2.2 0 (by omega)).1 hr2) (not_row_of a4 hr2) (not_row_of a5 hr2) (not_row_of bv.cell hr2) (not_row_of a6.cell hr2) (not_row_of a7.cell hr2) (fun j e => (hr j e).1)
  rcases ov.2 with ⟨rfl, _⟩ | ⟨g, cap, cur, rfl, _, hgb, _⟩
  · exact .inl rfl
  · refine .inr fun e => ?_
    obtain ⟨o, ho, hc⟩ := hr2 g (by rw [← e]; rfl)
    rw [hgb] at ho; cases ho; cases hc
/-- The sum with ys behind it, in its box. -/
theorem CSt.append {v v' : Value} {w1 : World} {ys : List Int} (h : CSt w0 q c kb r F c0 sl xs k W) (bv : Boxed W (q + 4) 22 v) (ov : Own (q + 3) W v xs.length xs) (ov' : Own (q + 3) w1 v' (xs.length + ys.length) (xs ++ ys)) (hg : W.grownBy w1 v.ownBlock)
    (hc : c < q) (hk : kb < q) (hw : w0.heap.size ≤ q) :
    Boxed w1 (q + 4) 22 v ∧ CSt w0 q c kb r F c0 sl (xs ++ ys) k (w1.setCell ⟨q + 4, 0, none⟩ v') ∧ KeepsOthers W (w1.setCell ⟨q + 4, 0, none⟩ v') ∧ Kp2 (q + 5) (q + 6) W (w1.setCell ⟨q + 4, 0, none⟩ v') := by
  obtain ⟨a1, _, a3, a4, a5, a6, a7, a8⟩ := h
  have n4 := bv.not_row (e := 5) (by decide) ov
  have n5 := a6.not_row (e := 5) (by decide) ov
  have n6 := a7.not_row (e := 5) (by decide) ov
  have b1 := bv.kept hg n4
  have hg2 := grownBy_setCell' w1 (q + 4) v'
  have n' := b1.not_row (e := 5) (by decide) ov'
  refine ⟨b1, ⟨(a1.grown (by decide) hg (ov.ne (by omega))).grown (by decide) hg2 (by simp), ⟨v', b1.set v', ?_⟩, (a3.grown hg (ov.ne (by omega)) (ov.ne (by omega))).grown hg2 (by simp; omega) (by simp; omega), ?_, ?_, (a6.kept hg n5).kept hg2 (by simp), (a7.kept hg n6).kept hg2 (by simp), ?_⟩, ?_, ?_⟩
  · rw [List.length_append]
    exact World.ownsRow.kept ov' hg2 (.inr n'.symm)
  · exact (hg2.cell_far ⟨q, 0, none⟩ (by have := hg.size; have := World.block_lt_of_cell? W _ a4; show q < _; exact Nat.lt_of_lt_of_le this hg.size) (by simp)).trans ((hg.cell_far ⟨q, 0, none⟩ (World.block_lt_of_cell? W _ a4) (ov.ne (b := q) (by omega))).trans a4)
  · exact (hg2.cell_far ⟨q + 2, 0, none⟩ (by have := World.block_lt_of_cell? W _ a5; exact Nat.lt_of_lt_of_le this hg.size) (by simp)).trans ((hg.cell_far ⟨q + 2, 0, none⟩ (World.block_lt_of_cell? W _ a5) (ov.ne (b := q + 2) (by omega))).trans a5)
  · exact (a8.grown hg a8.size (fun j e => by have := (World.ownsRow.lt ov j e).1; omega)).setCell (p := ⟨q + 4, 0, none⟩) (by show w0.heap.size ≤ q + 4; omega) v'
  · refine (KeepsOthers.of_grownBy hg fun j o ej hj => ?_).trans (KeepsOthers.setCell _ _ _)
    rcases ov.2 with ⟨rfl, _⟩ | ⟨g, cap, cur, rfl, _, hgb, _⟩
    · simp [Value.ownBlock] at ej
    · obtain rfl : g = j := by simpa [Value.ownBlock] using ej
      rw [hgb] at hj; cases hj; rfl
  · have l5 : q + 5 < W.heap.size := a6.lt
    have l6 : q + 6 < W.heap.size := a7.lt
    exact ⟨(hg2.block (q + 5) (Nat.lt_of_lt_of_le l5 hg.size) (by simp)).trans (hg.block (q + 5) l5 n5), (hg2.block (q + 6) (Nat.lt_of_lt_of_le l6 hg.size) (by simp)).trans (hg.block (q + 6) l6 n6)⟩
end

/-! ### What a round keeps -/
theorem keeps_below {W W' : World} (hb : Below W.heap.size W W') : KeepsOthers W W' := KeepsOthers.of_grownBy (gb_of none hb) (fun j o e _ => by cases e)
theorem keeps_setCells {W : World} {b : Nat} : ∀ (vs : List Value) (o : Nat) {W' : World}, KeepsOthers W W' → KeepsOthers W (W'.setCells b o vs)
  | [], _, _, h => h
  | v :: r, o, _, h => keeps_setCells r (o + 1) (h.trans (KeepsOthers.setCell _ _ _))
theorem keeps_tick {W W' : World} {b : Nat} {x : Nat → Nat} (hg : W.grownBy W' (some b)) (hA : Arr W b 16 x) : KeepsOthers W W' := KeepsOthers.of_grownBy hg (fun j o e hj => by
  cases e
  obtain ⟨o', ho, hc⟩ := cells_of_cell (hA 0 (by decide)).1
  have : o = o' := Option.some.inj (hj.symm.trans ho)
  rw [this]; exact hc)
theorem Kp2.below {a b : Nat} {W W' : World} (hb : Below W.heap.size W W') (ha : a < W.heap.size) (hb' : b < W.heap.size) : Kp2 a b W W' := ⟨hb.block a ha, hb.block b hb'⟩
theorem Kp2.grown {a b : Nat} {W W' : World} {row : Option Nat} (hg : W.grownBy W' row) (ha : a < W.heap.size) (hb' : b < W.heap.size) (h1 : some a ≠ row) (h2 : some b ≠ row) : Kp2 a b W W' := ⟨hg.block a ha h1, hg.block b hb' h2⟩
/-- The sum of a part and as many bytes of a block. -/
theorem xorL_row {xs : List Int} (hx : Oct xs) {z : Nat → Nat} (n : Nat) (h : xs.length = n) : xorL xs (row z n) = row (fun j => byt xs j ^^^ z j) n := by
  subst h
  apply List.ext_getElem?
  intro j
  unfold xorL row
  rw [List.getElem?_zipWith, List.getElem?_map, List.getElem?_map]
  by_cases hj : j < xs.length
  · rw [List.getElem?_eq_getElem hj, List.getElem?_range hj]
    simp only [Option.map_some]
    congr 2
    unfold byt
    rw [List.getD_eq_getElem?_getD, List.getElem?_eq_getElem hj]
    rfl
  · rw [List.getElem?_eq_none (by omega), List.getElem?_eq_none (by simp; omega)]
    rfl
theorem Bin.below' {w w' : World} {p : Option Addr} {xs : List Int} (h : Bin w p xs) (hb : Below w.heap.size w w') : Bin w' p xs := h.below hb
/-- A part of the text. -/
def chL (ts : List Int) (x : Nat) : List Int := (ts.drop (16 * x)).take 16
theorem chL_length (ts : List Int) (x : Nat) : (chL ts x).length = chN ts.length x := by simp [chL, chN]
theorem chL_byt (ts : List Int) (x j : Nat) (h : j < 16) : byt (chL ts x) j = byt ts (16 * x + j) := by
  unfold chL byt
  rw [List.getD_eq_getElem?_getD, List.getD_eq_getElem?_getD, List.getElem?_take, if_pos h, List.getElem?_drop]
theorem chL_oct {ts : List Int} (h : Oct ts) (x : Nat) : Oct (chL ts x) := (h.drop (16 * x)).take 16
theorem chunk_bin {W : World} {p : Option Addr} {ts : List Int} (h : Bin W p ts) (x : Nat) : Bin W (chP p x) (chL ts x) := fun hn => by
  rw [chL_length] at hn
  have hx : 16 * x < ts.length := by unfold chN at hn; omega
  obtain ⟨b, o, rfl, hc⟩ := h (by omega)
  refine ⟨b, o + 16 * x, rfl, fun i hi => ?_⟩
  rw [chL_length] at hi
  have hi' : i < 16 := Nat.lt_of_lt_of_le hi (Nat.min_le_left _ _)
  rw [Nat.add_assoc, hc (16 * x + i) (by unfold chN at hi; omega)]
  unfold chL
  rw [List.getD_eq_getElem?_getD, List.getD_eq_getElem?_getD, List.getElem?_take, if_pos hi', List.getElem?_drop]
theorem catL_xor (E : (Nat → Nat) → Nat → Nat) (c0 : Nat → Nat) {ts : List Int} (ht : Oct ts) (pre : List Nat) (x : Nat) : catL E c0 ts (pre ++ [x]) = catL E c0 ts pre ++ xorL (chL ts x) (row (E (nxtN (pre.length + 1) c0)) (chN ts.length x)) := by
  rw [catL_snoc, xorL_row (chL_oct ht x) _ (chL_length ts x)]
  congr 1
  refine row_same fun j hj => ?_
  rw [chL_byt ts x j (Nat.lt_of_lt_of_le hj (Nat.min_le_left _ _))]
end Go.Proofs.Ytgnhbfjngdgibaa
