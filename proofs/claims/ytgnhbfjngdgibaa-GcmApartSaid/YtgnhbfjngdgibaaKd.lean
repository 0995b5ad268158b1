/-
  Ast, Amix, Aes, in one text.
-/
import Derived.Test.YtgnhbfjngdgibaaKa
import Derived.Test.YtgnhbfjngdgibaaKc
/-
  The contracts of the steps on a state.
-/
namespace Go.Proofs.Ytgnhbfjngdgibaa
open Go.RowKit
set_option linter.unusedVariables false

theorem st_of (r : Nat → Nat) (i : Nat) (hi : i < 16) (w : World) :
    (Instr.index 77 (.agg (vals 16 r).toArray) (.int .i64 (i : Int))).run Try.prog w = .ok (.int .u8 (r i : Nat)) w := by
  rcases (show i = 0 ∨ i = 1 ∨ i = 2 ∨ i = 3 ∨ i = 4 ∨ i = 5 ∨ i = 6 ∨ i = 7 ∨ i = 8 ∨ i = 9 ∨ i = 10 ∨ i = 11 ∨ i = 12 ∨ i = 13 ∨ i = 14 ∨ i = 15 from by omega) with rfl | rfl | rfl | rfl | rfl | rfl | rfl | rfl | rfl | rfl | rfl | rfl | rfl | rfl | rfl | rfl
  all_goals kernel_rfl

/-- What a loop over a state keeps: the array that is written and the result's. -/
def Two (B : Nat) (w wr : World) (n b : Nat) (x : Nat → Nat) (r : Nat) : Prop := Arr wr b n x ∧ Arr wr r n (fun _ => 0) ∧ Below B w wr

set_option maxRecDepth 100000 in
theorem plus_any (x y : Nat → Nat) (w : World) (ox : ∀ j, x j < 256) (oy : ∀ j, y j < 256) :
    Calls Try.prog 49 #[.agg (vals 16 x).toArray, .agg (vals 16 y).toArray] w fun e w' =>
      e = .returned (.agg (vals 16 fun j => x j ^^^ y j).toArray) ∧ Below w.heap.size w w' := by
  have hz := Try.zeroState
  obtain ⟨wa, hwa, b1, b2, b3, hB, _⟩ := boxes3 w 16 x y (fun _ => 0) 77 77 77
  go_enter Try.func49, Try.ntmps49
  go_wp2_with (rw [← hwa.out]; refine wpList_load_arr rfl 77 _ rfl _ rfl 16 _ b2 _ Try.underlying77 rfl Try.sizeState ?_)
  try rw [← hwa.out]
  go_loopw [8] (fun i wr => ∃ n : Nat, n ≤ 16 ∧ i = .int .i64 (n : Int) ∧ Two w.heap.size w wr 16 w.heap.size (mixk (fun j => x j ^^^ y j) x n) (w.heap.size + 1 + 1)) (fun i _ => 16 - (intOf i).toNat)
  case atStart => exact ⟨0, by decide, rfl, b1.same fun j _ => (mixk_zero (fun j => x j ^^^ y j) x j).symm, b3, hB⟩
  case round =>
    clear b1 b2 b3 hB hwa hz
    obtain ⟨k, hk, rfl, h1, h2, hb⟩ := hrel
    by_cases hlt : k < 16
    · have hi := st_of y k hlt
      obtain ⟨hc, hf⟩ := h1 k hlt
      rw [mixk_at _ _ _ _ (Nat.le_refl _)] at hc
      have HS := hid (h1.set k (x k ^^^ y k) hlt)
      have H2 := hid h2
      have HX := hid (xor_nat (ox k) (oy k))
      clear h1 h2
      go_wp2
      go_roundw
      case rel =>
        refine ⟨k + 1, by omega, by go_num, ?_, ?_, hb.setCell (Nat.le_refl _) _⟩
        · rw [HX.out]
          exact HS.out.same fun j _ => mixk_step _ _ k j
        · exact H2.out.beside (by omega) _ _
      case measure => simp [intOf]; omega
    · obtain rfl : k = 16 := by omega
      have h3 := h2.put (mixk (fun j => x j ^^^ y j) x 16)
      go_wp2_with (first | (refine wpList_load_arr rfl 77 _ rfl _ rfl 16 _ h1 _ Try.underlying77 rfl Try.sizeState ?_) | (refine wpList_store_arr rfl 77 _ _ rfl _ 16 _ rfl rfl _ h2 Try.sizeState ?_))
      refine bodyPost_ret (v := .agg (vals 16 fun j => x j ^^^ y j).toArray) ?_ rfl ⟨rfl, below_setCells _ 0 hb (by omega)⟩
      have h4 := h3.same fun j hj => mixk_full _ _ 16 j hj
      exact results_cell_arr rfl _ _ 16 _ _ rfl h4 Try.underlying77 rfl Try.sizeState

/-- The place of the byte that comes to the place i. -/
def src (i : Nat) : Nat := (i + 4 * (i % 4)) % 16
theorem src_lt (i : Nat) : src i < 16 := Nat.mod_lt _ (by decide)

set_option maxRecDepth 100000 in
theorem source_any (i : Nat) (w : World) (hi : i < 16) :
    Calls Try.prog 72 #[.int .i64 i] w fun e w' => ∃ m : Nat, e = .returned (.int .i64 (m : Nat)) ∧ Hid (m = src i) ∧ m < 16 ∧ w = w' := by
  go_enter Try.func72, Try.ntmps72
  go_wp2
  go_ret
  refine ⟨src i, ret_int ?_, rfl, src_lt i, rfl⟩
  unfold src
  omega

set_option maxRecDepth 100000 in
theorem moved_any (x : Nat → Nat) (w : World) (ox : ∀ j, x j < 256) :
    Calls Try.prog 51 #[.agg (vals 16 x).toArray] w fun e w' =>
      e = .returned (.agg (vals 16 fun j => x (src j)).toArray) ∧ Below w.heap.size w w' := by
  have hz := Try.zeroState
  obtain ⟨wa, hwa, b1, b2, b3, hB, _⟩ := boxes3 w 16 x (fun _ => 0) (fun _ => 0) 77 77 77
  go_enter Try.func51, Try.ntmps51
  go_wp2_with fail
  try rw [← hwa.out]
  go_loopw [5] (fun i wr => ∃ n : Nat, n ≤ 16 ∧ i = .int .i64 (n : Int) ∧ Arr wr w.heap.size 16 x ∧ Two w.heap.size w wr 16 (w.heap.size + 1 + 1) (mixk (fun j => x (src j)) (fun _ => 0) n) (w.heap.size + 1)) (fun i _ => 16 - (intOf i).toNat)
  case atStart => exact ⟨0, by decide, rfl, b1, b3.same fun j _ => (mixk_zero (fun j => x (src j)) (fun _ => 0) j).symm, b2, hB⟩
  case round =>
    clear b1 b2 b3 hB hwa hz
    obtain ⟨k, hk, rfl, h0, h1, h2, hb⟩ := hrel
    by_cases hlt : k < 16
    · have hf := (h1 k hlt).2
      have hc := (h1 k hlt).1
      have HS := hid (h1.set k (x (src k)) hlt)
      have H0 := hid h0
      have H2 := hid h2
      clear h0 h1 h2
      go_wp2_with fail
      refine (source_any k _ hlt).mono ?_
      rintro e w' ⟨m, rfl, hm, hml, rfl⟩
      have h0 := (H0.out m hml).1
      go_wp2_with fail
      go_roundw
      case rel =>
        refine ⟨k + 1, by omega, by go_num, H0.out.beside (by omega) _ _, ?_, H2.out.beside (by omega) _ _, hb.setCell (by simp; omega) _⟩
        rw [hm.out]
        exact HS.out.same fun j _ => mixk_step (fun j => x (src j)) _ k j
      case measure => simp [intOf]; omega
    · obtain rfl : k = 16 := by omega
      have h3 := h2.put (mixk (fun j => x (src j)) (fun _ => 0) 16)
      go_wp2_with (first | (refine wpList_load_arr rfl 77 _ rfl _ rfl 16 _ h1 _ Try.underlying77 rfl Try.sizeState ?_) | (refine wpList_store_arr rfl 77 _ _ rfl _ 16 _ rfl rfl _ h2 Try.sizeState ?_))
      refine bodyPost_ret (v := .agg (vals 16 fun j => x (src j)).toArray) ?_ rfl ⟨rfl, below_setCells _ 0 hb (by omega)⟩
      have h4 := h3.same fun j hj => mixk_full _ _ 16 j hj
      exact results_cell_arr rfl _ _ 16 _ _ rfl h4 Try.underlying77 rfl Try.sizeState

/-- The place to which the byte of the place i goes. -/
theorem src_inj : ∀ i, i < 16 → ∀ j, j < 16 → src i = src j → i = j := by decide
/-- Where the byte of the place i comes from when the rows are moved back. -/
def dst (i : Nat) : Nat := (i + 12 * (i % 4)) % 16
theorem dst_lt (i : Nat) : dst i < 16 := Nat.mod_lt _ (by decide)
theorem dst_src : ∀ i, i < 16 → dst (src i) = i := by decide
theorem src_dst : ∀ i, i < 16 → src (dst i) = i := by decide

/-- What is moved back when the first k are. -/
def bk (x : Nat → Nat) (k j : Nat) : Nat := if dst j < k then x (dst j) else 0
theorem bk_step (x : Nat → Nat) (k j : Nat) (hk : k < 16) (hj : j < 16) : (if j = src k then x k else bk x k j) = bk x (k + 1) j := by
  unfold bk
  by_cases h : j = src k
  · subst h; rw [if_pos rfl, dst_src k hk, if_pos (by omega)]
  · have : dst j ≠ k := fun e => h (by rw [← e, src_dst j hj])
    rw [if_neg h]
    by_cases h2 : dst j < k
    · rw [if_pos h2, if_pos (by omega)]
    · rw [if_neg h2, if_neg (by omega)]
theorem bk_full (x : Nat → Nat) (j : Nat) : bk x 16 j = x (dst j) := by unfold bk; rw [if_pos (dst_lt j)]

/-- A cipher as it lies in memory: its block c, its keys' block k, with r + 1 keys. -/
def Cip (w : World) (c k r : Nat) (F : Nat → Nat) : Prop :=
  w.cell? ⟨c, 0, none⟩ = some (.slice (some ⟨k, 0, none⟩) (r + 1) (r + 1)) ∧ (∀ x, x < 256 → w.cell? ⟨c, 1 + x, none⟩ = some (.int .u8 (sub x : Nat))) ∧
  (∀ x, x < 256 → w.cell? ⟨c, 257 + x, none⟩ = some (.int .u8 (back x : Nat))) ∧ Arr w k (16 * (r + 1)) F
theorem Cip.below {w w' : World} {c k r : Nat} {F : Nat → Nat} (h : Cip w c k r F) (hb : Below w.heap.size w w') : Cip w' c k r F := by
  obtain ⟨h0, h1, h2, h3⟩ := h
  have hl : c < w.heap.size := World.block_lt_of_cell? w _ h0
  exact ⟨(hb.cell (p := ⟨c, 0, none⟩) hl).trans h0, fun x hx => (hb.cell (p := ⟨c, 1 + x, none⟩) hl).trans (h1 x hx), fun x hx => (hb.cell (p := ⟨c, 257 + x, none⟩) hl).trans (h2 x hx), h3.below hb⟩
theorem Cip.lt {w : World} {c k r : Nat} {F : Nat → Nat} (h : Cip w c k r F) : c < w.heap.size ∧ k < w.heap.size := ⟨World.block_lt_of_cell? w _ h.1, h.2.2.2.lt (by omega)⟩
theorem Cip.below' {B : Nat} {w w' : World} {c k r : Nat} {F : Nat → Nat} (h : Cip w c k r F) (hc : c < B) (hk : k < B) (hb : Below B w w') : Cip w' c k r F := by
  obtain ⟨h0, h1, h2, h3⟩ := h
  exact ⟨(hb.cell (p := ⟨c, 0, none⟩) hc).trans h0, fun x hx => (hb.cell (p := ⟨c, 1 + x, none⟩) hc).trans (h1 x hx), fun x hx => (hb.cell (p := ⟨c, 257 + x, none⟩) hc).trans (h2 x hx), h3.below' hk hb⟩

set_option maxRecDepth 100000 in
theorem substituted_any (c k r : Nat) (F x : Nat → Nat) (w : World) (ox : ∀ j, x j < 256) (hC : Cip w c k r F) :
    Calls Try.prog 50 #[.pointer (some ⟨c, 0, none⟩), .agg (vals 16 x).toArray] w fun e w' =>
      e = .returned (.agg (vals 16 fun j => sub (x j)).toArray) ∧ Below w.heap.size w w' := by
  have hz := Try.zeroState
  obtain ⟨wa, hwa, b1, b2, hB, _⟩ := boxes2 w 16 x (fun _ => 0) 77 77
  have HC := hid hC
  clear hC
  go_enter Try.func50, Try.ntmps50
  go_wp2_with (rw [← hwa.out]; refine wpList_load_arr rfl 77 _ rfl _ rfl 16 _ b1 _ Try.underlying77 rfl Try.sizeState ?_)
  try rw [← hwa.out]
  go_loopw [8] (fun i wr => ∃ n : Nat, n ≤ 16 ∧ i = .int .i64 (n : Int) ∧ Two w.heap.size w wr 16 w.heap.size (mixk (fun j => sub (x j)) x n) (w.heap.size + 1)) (fun i _ => 16 - (intOf i).toNat)
  case atStart => exact ⟨0, by decide, rfl, b1.same fun j _ => (mixk_zero (fun j => sub (x j)) x j).symm, b2, hB⟩
  case round =>
    clear b1 b2 hB hwa hz
    obtain ⟨k, hk, rfl, h1, h2, hb⟩ := hrel
    by_cases hlt : k < 16
    · have hi := st_of x k hlt
      obtain ⟨hc, hf⟩ := h1 k hlt
      have HS := hid (h1.set k (sub (x k)) hlt)
      have H2 := hid h2
      have hxk := ox k
      have hl := (HC.out.below hb).2.1 (x k) hxk
      clear h1 h2
      go_wp2
      go_roundw
      case rel =>
        refine ⟨k + 1, by omega, by go_num, ?_, ?_, hb.setCell (Nat.le_refl _) _⟩
        · exact HS.out.same fun j _ => mixk_step (fun j => sub (x j)) _ k j
        · exact H2.out.beside (by omega) _ _
      case measure => simp [intOf]; omega
    · obtain rfl : k = 16 := by omega
      have h3 := h2.put (mixk (fun j => sub (x j)) x 16)
      go_wp2_with (first | (refine wpList_load_arr rfl 77 _ rfl _ rfl 16 _ h1 _ Try.underlying77 rfl Try.sizeState ?_) | (refine wpList_store_arr rfl 77 _ _ rfl _ 16 _ rfl rfl _ h2 Try.sizeState ?_))
      refine bodyPost_ret (v := .agg (vals 16 fun j => sub (x j)).toArray) ?_ rfl ⟨rfl, below_setCells _ 0 hb (by omega)⟩
      have h4 := h3.same fun j hj => mixk_full _ _ 16 j hj
      exact results_cell_arr rfl _ _ 16 _ _ rfl h4 Try.underlying77 rfl Try.sizeState

set_option maxRecDepth 100000 in
theorem absent_nil (w : World) : Calls Try.prog 48 #[.pointer none] w fun e w' => e = .returned (.bool true) ∧ w = w' := by
  go_enter Try.func48, Try.ntmps48
  go_wp2
  go_ret
  exact ⟨rfl, rfl⟩
set_option maxRecDepth 100000 in
theorem absent_no (c k r : Nat) (F : Nat → Nat) (w : World) (hC : Cip w c k r F) : Calls Try.prog 48 #[.pointer (some ⟨c, 0, none⟩)] w fun e w' => e = .returned (.bool false) ∧ w = w' := by
  have h := hC.1
  clear hC
  go_enter Try.func48, Try.ntmps48
  go_wp2
  go_ret
  exact ⟨rfl, rfl⟩
end Go.Proofs.Ytgnhbfjngdgibaa

/-
  The contracts of the mixing and unmixing of a state's columns.
-/
namespace Go.Proofs.Ytgnhbfjngdgibaa
open Go.RowKit
set_option linter.unusedVariables false

/-- A state's columns mixed, unmixed. -/
def mixS (x : Nat → Nat) (j : Nat) : Nat := mix (fun t => x (4 * (j / 4) + t)) (j % 4)
def unmixS (x : Nat → Nat) (j : Nat) : Nat := unmix (fun t => x (4 * (j / 4) + t)) (j % 4)
theorem mixS_lt (x : Nat → Nat) (j : Nat) : mixS x j < 256 := mix_lt _ _
theorem unmixS_lt (x : Nat → Nat) (j : Nat) : unmixS x j < 256 := unmix_lt _ _

/-- The columns ahead of the column k are y's. -/
theorem mixk_put (y x : Nat → Nat) (k : Nat) (g : Nat → Nat) (hg : ∀ p, p < 4 → g p = y (4 * k + p)) (j : Nat) :
    mixk y x (4 * (k + 1)) j = if 4 * k ≤ j ∧ j < 4 * k + 4 then g (j - 4 * k) else mixk y x (4 * k) j := by
  unfold mixk
  by_cases h : 4 * k ≤ j ∧ j < 4 * k + 4
  · rw [if_pos h, if_pos (by omega), hg _ (by omega), show 4 * k + (j - 4 * k) = j from by omega]
  · rw [if_neg h]
    by_cases h2 : j < 4 * k
    · rw [if_pos h2, if_pos (by omega)]
    · rw [if_neg h2, if_neg (by omega)]

theorem word_at (b o n c : Nat) (h : 4 ≤ n) (w : World) : (Instr.arrayAt 76 (.slice (some ⟨b, o, none⟩) n c)).run Try.prog w = .ok (.pointer (some ⟨b, o, none⟩)) w := by
  have h' : ¬ n < 4 := by omega
  simp [Instr.arrayAt, run_underlying Try.underlying76, h']

set_option maxRecDepth 100000 in
theorem mixed_any (x : Nat → Nat) (w : World) (ox : ∀ j, x j < 256) :
    Calls Try.prog 52 #[.agg (vals 16 x).toArray] w fun e w' =>
      e = .returned (.agg (vals 16 (mixS x)).toArray) ∧ Below w.heap.size w w' := by
  have hz := Try.zeroState
  obtain ⟨wa, hwa, b1, b2, hB, hsz⟩ := boxes2 w 16 x (fun _ => 0) 77 77
  go_enter Try.func52, Try.ntmps52
  go_wp2_with fail
  try rw [← hwa.out]
  go_loopw [3] (fun i wr => ∃ n : Nat, n ≤ 4 ∧ i = .int .i64 (4 * (n : Int)) ∧ Two w.heap.size w wr 16 w.heap.size (mixk (mixS x) x (4 * n)) (w.heap.size + 1)) (fun i _ => 16 - (intOf i).toNat)
  case atStart => exact ⟨0, by decide, rfl, b1.same fun j _ => (mixk_zero (mixS x) x j).symm, b2, hB⟩
  case round =>
    clear b1 b2 hB hwa hsz hz
    obtain ⟨k, hk, rfl, h1, h2, hb⟩ := hrel
    have hs := h2.lt (by decide)
    by_cases hlt : k < 4
    · have H1 := hid h1
      have H2 := hid h2
      have h10 := (h1 (4 * k + 0) (by omega)).1
      have h11 := (h1 (4 * k + 1) (by omega)).1
      have h12 := (h1 (4 * k + 2) (by omega)).1
      have h13 := (h1 (4 * k + 3) (by omega)).1
      have e := word_at w.heap.size (4 * k) (16 - 4 * k) (16 - 4 * k) (by omega) wr
      obtain ⟨c, hc⟩ : ∃ c, Hid (c = fun t => x (4 * k + t)) := ⟨_, rfl⟩
      have oc : ∀ j, c j < 256 := fun j => by rw [hc.out]; exact ox _
      have c0 : x (4 * k + 0) = c 0 := by rw [hc.out]
      have c1 : x (4 * k + 1) = c 1 := by rw [hc.out]
      have c2 : x (4 * k + 2) = c 2 := by rw [hc.out]
      have c3 : x (4 * k + 3) = c 3 := by rw [hc.out]
      rw [mixk_at _ _ _ _ (by omega)] at h10 h11 h12 h13
      rw [c0] at h10
      rw [c1] at h11
      rw [c2] at h12
      rw [c3] at h13
      have hg : ∀ p, p < 4 → mix c p = mixS x (4 * k + p) := fun p hp => by
        rw [hc.out]; unfold mixS; rw [show (4 * k + p) / 4 = k from by omega, show (4 * k + p) % 4 = p from by omega]
      obtain ⟨n', hn', hN, hp⟩ : ∃ n' : Nat, n' ≤ 4 ∧ Hid (4 * (n' : Int) = 4 * (k : Int) + 4) ∧ Hid (∀ j, j < 16 → mixk (mixS x) x (4 * n') j = if 4 * k ≤ j ∧ j < 4 * k + 4 then mix c (j - 4 * k) else mixk (mixS x) x (4 * k) j) :=
        ⟨k + 1, by omega, hid (by omega), hid fun j _ => mixk_put (mixS x) x k (mix c) hg j⟩
      have hz4 := Try.zeroWord
      clear h1 h2 c0 c1 c2 c3 hg
      rcases (show k = 0 ∨ k = 1 ∨ k = 2 ∨ k = 3 from by omega) with rfl | rfl | rfl | rfl
      all_goals
        simp only [Nat.reduceMul, Nat.reduceAdd, Nat.reduceSub] at h10 h11 h12 h13 e H1 hp
        go_wp2_with fail
        refine (mix_any c _ oc).mono ?_
        rintro e w2 ⟨rfl, hb2⟩
        clear h10 h11 h12 h13 e
        have hs2 := hb2.size
        obtain ⟨w4, hw4, A4, A1, A2, hb4⟩ : ∃ w4, Hid (w4 = (w2.alloc (.cells (vals 4 fun _ => 0).toArray 76)).setCells w2.heap.size 0 (vals 4 (mix c))) ∧ Arr w4 w2.heap.size 4 (mix c) ∧ Arr w4 w.heap.size 16 _ ∧ Arr w4 (w.heap.size + 1) 16 _ ∧ Below w.heap.size w w4 := by
          have hbb := hb.trans (hb2.mono (by omega))
          have hb3 := below_setCells (b := w2.heap.size) (vals 4 (mix c)) 0 (hbb.alloc (by omega) (.cells (vals 4 fun _ => 0).toArray 76)) (by omega)
          exact ⟨_, rfl, (arr_new w2 4 (fun _ => 0) 76).put _, ((H1.out.below hb2).alloc _).besidePut (by omega) 0 _, ((H2.out.below hb2).alloc _).besidePut (by omega) 0 _, hb3⟩
        clear H1 H2
        go_wp2_with (refine wpList_store_arr rfl 76 _ _ rfl _ 4 (mix c) rfl rfl _ (arr_new w2 4 (fun _ => 0) 76) Try.sizeWord ?_)
        try rw [← hw4.out]
        clear hw4 hb2
        go_region_law (refine step_copy_cells rfl _ _ _ _ rfl 5 Try.underlying22 Try.sizeByte _ _ _ _ rfl _ _ _ rfl (vals 4 (mix c)) rfl (range_cells A4.drew.range) (A1.drew.thereAt (by rw [vals_length]; decide)) (vals_one _ _) ?_)
        all_goals
          go_wp2
          go_roundw
          case rel =>
            exact ⟨n', hn', by (have := hN.out; congr 1; omega), A1.drew.putAt (by decide) _ _ hp.out, A2.drew.besidePut (by omega) _ _, below_setCells _ _ hb4.drew (Nat.le_refl _)⟩
          case measure => simp [intOf]
    · obtain rfl : k = 4 := by omega
      have h3 := h2.put (mixk (mixS x) x 16)
      go_wp2_with (first | (refine wpList_load_arr rfl 77 _ rfl _ rfl 16 _ h1 _ Try.underlying77 rfl Try.sizeState ?_) | (refine wpList_store_arr rfl 77 _ _ rfl _ 16 _ rfl rfl _ h2 Try.sizeState ?_))
      refine bodyPost_ret (v := .agg (vals 16 (mixS x)).toArray) ?_ rfl ⟨rfl, below_setCells _ 0 hb (by omega)⟩
      have h4 := h3.same fun j hj => mixk_full _ _ 16 j hj
      exact results_cell_arr rfl _ _ 16 _ _ rfl h4 Try.underlying77 rfl Try.sizeState
end Go.Proofs.Ytgnhbfjngdgibaa

/-
  Words of a key, enciphering and deciphering as numbers: that deciphering undoes. Stands on no function of the program.
-/
namespace Go.Proofs.Ytgnhbfjngdgibaa
open Go.RowKit
set_option linter.unusedVariables false

/-- They are the same sixteen. -/
def Eq16 (x y : Nat → Nat) : Prop := ∀ j, j < 16 → x j = y j
theorem Eq16.refl (x : Nat → Nat) : Eq16 x x := fun _ _ => rfl
theorem Eq16.symm {x y : Nat → Nat} (h : Eq16 x y) : Eq16 y x := fun j hj => (h j hj).symm
theorem Eq16.trans {x y z : Nat → Nat} (h : Eq16 x y) (g : Eq16 y z) : Eq16 x z := fun j hj => (h j hj).trans (g j hj)

def addK (F : Nat → Nat) (j : Nat) (x : Nat → Nat) : Nat → Nat := fun p => x p ^^^ F (16 * j + p)
def subS (x : Nat → Nat) : Nat → Nat := fun p => sub (x p)
def backS (x : Nat → Nat) : Nat → Nat := fun p => back (x p)
def movS (x : Nat → Nat) : Nat → Nat := fun p => x (src p)
def movB (x : Nat → Nat) : Nat → Nat := fun p => x (dst p)
/-- One round, and one undone. -/
def rnd (F : Nat → Nat) (j : Nat) (x : Nat → Nat) : Nat → Nat := addK F j (mixS (movS (subS x)))
def unrnd (F : Nat → Nat) (j : Nat) (x : Nat → Nat) : Nat → Nat := backS (movB (unmixS (addK F j x)))
/-- The first rounds. -/
def encN (F : Nat → Nat) : Nat → (Nat → Nat) → (Nat → Nat)
  | 0, x => addK F 0 x
  | j + 1, x => rnd F (j + 1) (encN F j x)
/-- The first rounds undone. -/
def decN (F : Nat → Nat) : Nat → (Nat → Nat) → (Nat → Nat)
  | 0, x => addK F 0 x
  | j + 1, x => decN F j (unrnd F (j + 1) x)
/-- Enciphered and deciphered with r rounds. -/
def enc (F : Nat → Nat) (r : Nat) (x : Nat → Nat) : Nat → Nat := addK F r (movS (subS (encN F (r - 1) x)))
def dec (F : Nat → Nat) (r : Nat) (x : Nat → Nat) : Nat → Nat := decN F (r - 1) (backS (movB (addK F r x)))

section
variable {F x y : Nat → Nat} (oF : ∀ j, F j < 256) (ox : ∀ j, x j < 256)

include oF ox in
theorem addK_lt (j : Nat) : ∀ p, addK F j x p < 256 := fun p => xor_lt256 (ox p) (oF _)
include ox in
theorem subS_lt : ∀ p, subS x p < 256 := fun p => sub_lt (ox p)
include ox in
theorem backS_lt : ∀ p, backS x p < 256 := fun p => back_lt (ox p)
include ox in
theorem movS_lt : ∀ p, movS x p < 256 := fun p => ox _
include ox in
theorem movB_lt : ∀ p, movB x p < 256 := fun p => ox _
include oF in
theorem rnd_lt (j : Nat) : ∀ p, rnd F j x p < 256 := addK_lt oF (mixS_lt _) j
theorem unrnd_lt (F x : Nat → Nat) (j : Nat) : ∀ p, unrnd F j x p < 256 := backS_lt (movB_lt (unmixS_lt _))
include oF ox in
theorem encN_lt (j : Nat) : ∀ p, encN F j x p < 256 := by
  cases j with
  | zero => exact addK_lt oF ox 0
  | succ j => exact rnd_lt oF (j + 1)
include oF ox in
theorem enc_lt (r : Nat) : ∀ p, enc F r x p < 256 := addK_lt oF (movS_lt (subS_lt (encN_lt oF ox _))) r
include oF in
theorem decN_lt (j : Nat) : ∀ x : Nat → Nat, (∀ p, x p < 256) → ∀ p, decN F j x p < 256 := by
  induction j with
  | zero => exact fun x ox => addK_lt oF ox 0
  | succ j ih => exact fun x ox => ih _ (unrnd_lt F x (j + 1))
include oF ox in
theorem dec_lt (r : Nat) : ∀ p, dec F r x p < 256 := decN_lt oF _ _ (backS_lt (movB_lt (addK_lt oF ox r)))
end

theorem addK_congr (F : Nat → Nat) (j : Nat) {x y : Nat → Nat} (h : Eq16 x y) : Eq16 (addK F j x) (addK F j y) := fun p hp => by simp only [addK, h p hp]
theorem subS_congr {x y : Nat → Nat} (h : Eq16 x y) : Eq16 (subS x) (subS y) := fun p hp => by simp only [subS, h p hp]
theorem backS_congr {x y : Nat → Nat} (h : Eq16 x y) : Eq16 (backS x) (backS y) := fun p hp => by simp only [backS, h p hp]
theorem movS_congr {x y : Nat → Nat} (h : Eq16 x y) : Eq16 (movS x) (movS y) := fun p _ => h _ (src_lt p)
theorem movB_congr {x y : Nat → Nat} (h : Eq16 x y) : Eq16 (movB x) (movB y) := fun p _ => h _ (dst_lt p)
theorem mixS_congr {x y : Nat → Nat} (h : Eq16 x y) : Eq16 (mixS x) (mixS y) := fun p hp => mix_congr _ fun t ht => h _ (by omega)
theorem unmixS_congr {x y : Nat → Nat} (h : Eq16 x y) : Eq16 (unmixS x) (unmixS y) := fun p hp => unmix_congr _ fun t ht => h _ (by omega)
theorem rnd_congr (F : Nat → Nat) (j : Nat) {x y : Nat → Nat} (h : Eq16 x y) : Eq16 (rnd F j x) (rnd F j y) := addK_congr F j (mixS_congr (movS_congr (subS_congr h)))
theorem unrnd_congr (F : Nat → Nat) (j : Nat) {x y : Nat → Nat} (h : Eq16 x y) : Eq16 (unrnd F j x) (unrnd F j y) := backS_congr (movB_congr (unmixS_congr (addK_congr F j h)))
theorem encN_congr (F : Nat → Nat) (j : Nat) {x y : Nat → Nat} (h : Eq16 x y) : Eq16 (encN F j x) (encN F j y) := by
  induction j with
  | zero => exact addK_congr F 0 h
  | succ j ih => exact rnd_congr F _ ih
theorem decN_congr (F : Nat → Nat) (j : Nat) : ∀ {x y : Nat → Nat}, Eq16 x y → Eq16 (decN F j x) (decN F j y) := by
  induction j with
  | zero => exact fun h => addK_congr F 0 h
  | succ j ih => exact fun h => ih (unrnd_congr F _ h)
theorem enc_congr (F : Nat → Nat) (r : Nat) {x y : Nat → Nat} (h : Eq16 x y) : Eq16 (enc F r x) (enc F r y) := addK_congr F r (movS_congr (subS_congr (encN_congr F _ h)))
theorem dec_congr (F : Nat → Nat) (r : Nat) {x y : Nat → Nat} (h : Eq16 x y) : Eq16 (dec F r x) (dec F r y) := decN_congr F _ (backS_congr (movB_congr (addK_congr F r h)))

/-! Each step is undone. -/
theorem addK_addK (F : Nat → Nat) (j : Nat) (x : Nat → Nat) : addK F j (addK F j x) = x := by
  funext p
  simp only [addK]
  rw [Nat.xor_assoc, Nat.xor_self, Nat.xor_zero]
theorem backS_subS {x : Nat → Nat} (ox : ∀ j, x j < 256) : backS (subS x) = x := by funext p; exact back_sub (ox p)
theorem subS_backS {x : Nat → Nat} (ox : ∀ j, x j < 256) : subS (backS x) = x := by funext p; exact sub_back (ox p)
theorem movB_movS (x : Nat → Nat) : Eq16 (movB (movS x)) x := fun p hp => by simp only [movB, movS, src_dst p hp]
theorem movS_movB (x : Nat → Nat) : Eq16 (movS (movB x)) x := fun p hp => by simp only [movB, movS, dst_src p hp]
theorem unmixS_mixS {x : Nat → Nat} (ox : ∀ j, x j < 256) : Eq16 (unmixS (mixS x)) x := fun p hp => by
  show unmix (fun t => mix (fun u => x (4 * ((4 * (p / 4) + t) / 4) + u)) ((4 * (p / 4) + t) % 4)) (p % 4) = x p
  have e : ∀ t, t < 4 → mix (fun u => x (4 * ((4 * (p / 4) + t) / 4) + u)) ((4 * (p / 4) + t) % 4) = mix (fun u => x (4 * (p / 4) + u)) t := fun t ht => by
    rw [show (4 * (p / 4) + t) / 4 = p / 4 from by omega, show (4 * (p / 4) + t) % 4 = t from by omega]
  rw [unmix_congr _ e]
  rw [unmix_mix (fun u => x (4 * (p / 4) + u)) (fun j => ox _) _ (by omega), show 4 * (p / 4) + p % 4 = p from by omega]
theorem mixS_unmixS {x : Nat → Nat} (ox : ∀ j, x j < 256) : Eq16 (mixS (unmixS x)) x := fun p hp => by
  show mix (fun t => unmix (fun u => x (4 * ((4 * (p / 4) + t) / 4) + u)) ((4 * (p / 4) + t) % 4)) (p % 4) = x p
  have e : ∀ t, t < 4 → unmix (fun u => x (4 * ((4 * (p / 4) + t) / 4) + u)) ((4 * (p / 4) + t) % 4) = unmix (fun u => x (4 * (p / 4) + u)) t := fun t ht => by
    rw [show (4 * (p / 4) + t) / 4 = p / 4 from by omega, show (4 * (p / 4) + t) % 4 = t from by omega]
  rw [mix_congr _ e]
  rw [mix_unmix (fun u => x (4 * (p / 4) + u)) (fun j => ox _) _ (by omega), show 4 * (p / 4) + p % 4 = p from by omega]

theorem unrnd_rnd {F x : Nat → Nat} (ox : ∀ j, x j < 256) (j : Nat) : Eq16 (unrnd F j (rnd F j x)) x := by
  unfold unrnd rnd
  rw [addK_addK]
  refine (backS_congr ((movB_congr (unmixS_mixS (movS_lt (subS_lt ox)))).trans (movB_movS _))).trans ?_
  rw [backS_subS ox]
  exact Eq16.refl x
theorem rnd_unrnd {F x : Nat → Nat} (oF : ∀ j, F j < 256) (ox : ∀ j, x j < 256) (j : Nat) : Eq16 (rnd F j (unrnd F j x)) x := by
  unfold unrnd rnd
  rw [subS_backS (movB_lt (unmixS_lt _))]
  refine (addK_congr F j ((mixS_congr (movS_movB _)).trans (mixS_unmixS (addK_lt oF ox j)))).trans ?_
  rw [addK_addK]
  exact Eq16.refl x

theorem decN_encN {F : Nat → Nat} (oF : ∀ j, F j < 256) {x : Nat → Nat} (ox : ∀ j, x j < 256) (n : Nat) : Eq16 (decN F n (encN F n x)) x := by
  induction n with
  | zero => simp only [decN, encN]; rw [addK_addK]; exact Eq16.refl x
  | succ n ih => exact (decN_congr F n (unrnd_rnd (encN_lt oF ox n) (n + 1))).trans ih
theorem encN_decN {F : Nat → Nat} (oF : ∀ j, F j < 256) (n : Nat) : ∀ {x : Nat → Nat}, (∀ j, x j < 256) → Eq16 (encN F n (decN F n x)) x := by
  induction n with
  | zero => intro x ox; simp only [decN, encN]; rw [addK_addK]; exact Eq16.refl x
  | succ n ih => intro x ox; exact (rnd_congr F (n + 1) (ih (unrnd_lt F x (n + 1)))).trans (rnd_unrnd oF ox (n + 1))

/-- THERE AND BACK. -/
theorem dec_enc {F x : Nat → Nat} (oF : ∀ j, F j < 256) (ox : ∀ j, x j < 256) (r : Nat) : Eq16 (dec F r (enc F r x)) x := by
  unfold dec enc
  rw [addK_addK]
  refine (decN_congr F _ (backS_congr (movB_movS _))).trans ?_
  rw [backS_subS (encN_lt oF ox _)]
  exact decN_encN oF ox _
theorem enc_dec {F x : Nat → Nat} (oF : ∀ j, F j < 256) (ox : ∀ j, x j < 256) (r : Nat) : Eq16 (enc F r (dec F r x)) x := by
  unfold dec enc
  refine (addK_congr F r (movS_congr (subS_congr (encN_decN oF _ (backS_lt (movB_lt (addK_lt oF ox r))))))).trans ?_
  rw [subS_backS (movB_lt (addK_lt oF ox r))]
  refine (addK_congr F r (movS_movB _)).trans ?_
  rw [addK_addK]
  exact Eq16.refl x

/-! The words of a key. -/
/-- The word ahead of the word i, changed. -/
def chg (k i : Nat) (t : Nat → Nat) (p : Nat) : Nat :=
  if i % k = 0 then sub (t ((p + 1) % 4)) ^^^ (if p = 0 then pw 2 (i / k - 1) else 0) else if k = 8 ∧ i % 8 = 4 then sub (t p) else t p
/-- One word more. -/
def grow (k : Nat) (l : List Nat) (i : Nat) : List Nat :=
  l ++ (List.range 4).map fun p => l.getD (4 * (i - k) + p) 0 ^^^ chg k i (fun q => l.getD (4 * (i - 1) + q) 0) p
/-- m words more. -/
def ext (k : Nat) (l : List Nat) : Nat → List Nat
  | 0 => l
  | m + 1 => grow k (ext k l m) (k + m)

theorem chg_lt {k i : Nat} {t : Nat → Nat} (ot : ∀ q, t q < 256) (p : Nat) : chg k i t p < 256 := by
  unfold chg
  split
  · refine xor_lt256 (sub_lt (ot _)) ?_
    split
    · exact pw_lt (by decide) _
    · decide
  · split
    · exact sub_lt (ot _)
    · exact ot _
theorem chg_congr {k i : Nat} {t u : Nat → Nat} (h : ∀ q, q < 4 → t q = u q) (p : Nat) (hp : p < 4) : chg k i t p = chg k i u p := by
  unfold chg
  rw [h _ (Nat.mod_lt _ (by decide)), h p hp]

theorem grow_length (k : Nat) (l : List Nat) (i : Nat) : (grow k l i).length = l.length + 4 := by simp [grow]
theorem ext_length (k : Nat) (l : List Nat) (m : Nat) : (ext k l m).length = l.length + 4 * m := by
  induction m with
  | zero => rfl
  | succ m ih => rw [ext, grow_length, ih]; omega
theorem grow_old (k : Nat) (l : List Nat) (i j : Nat) (h : j < l.length) : (grow k l i).getD j 0 = l.getD j 0 := by
  simp only [grow, List.getD_eq_getElem?_getD]
  rw [List.getElem?_append_left h]
theorem grow_new (k : Nat) (l : List Nat) (i p : Nat) (hl : l.length = 4 * i) (h : p < 4) : (grow k l i).getD (4 * i + p) 0 = l.getD (4 * (i - k) + p) 0 ^^^ chg k i (fun q => l.getD (4 * (i - 1) + q) 0) p := by
  rw [List.getD_eq_getElem?_getD, grow, List.getElem?_append_right (by omega), hl, show 4 * i + p - 4 * i = p from by omega, List.getElem?_map, List.getElem?_range h]
  rfl
theorem ext_old (k : Nat) (l : List Nat) (m j : Nat) (h : j < l.length + 4 * m) (d : Nat) : (ext k l (m + d)).getD j 0 = (ext k l m).getD j 0 := by
  induction d with
  | zero => rfl
  | succ d ih => rw [← Nat.add_assoc, ext, grow_old _ _ _ _ (by rw [ext_length]; omega), ih]

/-- The bytes of the words of the key l. -/
def wordB (k : Nat) (l : List Nat) (j : Nat) : Nat := (ext k l (3 * k + 28)).getD j 0

theorem getD_byte {l : List Nat} (h : ∀ x ∈ l, x < 256) (j : Nat) : l.getD j 0 < 256 := by
  rw [List.getD_eq_getElem?_getD]
  by_cases hj : j < l.length
  · rw [List.getElem?_eq_getElem hj]; exact h _ (List.getElem_mem hj)
  · rw [List.getElem?_eq_none (by omega)]; decide
theorem ext_byte {k : Nat} {l : List Nat} (h : ∀ x ∈ l, x < 256) (m : Nat) : ∀ x ∈ ext k l m, x < 256 := by
  induction m with
  | zero => exact h
  | succ m ih =>
    intro x hx
    simp only [ext, grow, List.mem_append, List.mem_map] at hx
    rcases hx with hx | ⟨p, _, rfl⟩
    · exact ih x hx
    · exact xor_lt256 (getD_byte ih _) (chg_lt (fun q => getD_byte ih _) p)
theorem wordB_lt {k : Nat} {l : List Nat} (h : ∀ x ∈ l, x < 256) (j : Nat) : wordB k l j < 256 := getD_byte (ext_byte h _) j

theorem wordB_key {k : Nat} {l : List Nat} (hl : l.length = 4 * k) (j : Nat) (hj : j < 4 * k) : wordB k l j = l.getD j 0 := by
  have := ext_old k l 0 j (by omega) (3 * k + 28)
  rw [Nat.zero_add] at this
  unfold wordB
  rw [this, ext]
theorem wordB_step {k : Nat} {l : List Nat} (hl : l.length = 4 * k) (hk : 0 < k) (i p : Nat) (h1 : k ≤ i) (h2 : i < 4 * (k + 7)) (hp : p < 4) :
    wordB k l (4 * i + p) = wordB k l (4 * (i - k) + p) ^^^ chg k i (fun q => wordB k l (4 * (i - 1) + q)) p := by
  obtain ⟨m, rfl⟩ : ∃ m, i = k + m := ⟨i - k, by omega⟩
  obtain ⟨d, hd⟩ : ∃ d, 3 * k + 28 = (m + 1) + d := ⟨3 * k + 28 - (m + 1), by omega⟩
  have hlen := ext_length k l m
  have e1 : wordB k l (4 * (k + m) + p) = (ext k l (m + 1)).getD (4 * (k + m) + p) 0 := by unfold wordB; rw [hd]; exact ext_old k l (m + 1) _ (by omega) d
  have e2 : ∀ j, j < 4 * (k + m) → wordB k l j = (ext k l m).getD j 0 := fun j hj => by unfold wordB; rw [hd, Nat.add_assoc]; exact ext_old k l m _ (by omega) (1 + d)
  have e3 : chg k (k + m) (fun q => (ext k l m).getD (4 * (k + m - 1) + q) 0) p = chg k (k + m) (fun q => wordB k l (4 * (k + m - 1) + q)) p := chg_congr (fun q hq => (e2 _ (by omega)).symm) p hp
  rw [e1, ext, grow_new k _ (k + m) p (by rw [hlen]; omega) hp, e2 _ (by omega), e3]
end Go.Proofs.Ytgnhbfjngdgibaa
