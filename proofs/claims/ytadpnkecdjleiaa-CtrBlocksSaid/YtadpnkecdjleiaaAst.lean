/-
  The contracts of the steps on a state.
-/
import Derived.Test.YtadpnkecdjleiaaMid
import Derived.Test.YtadpnkecdjleiaaGmix
namespace Go.Proofs.Ytadpnkecdjleiaa
open Go.RowKit
set_option linter.unusedVariables false

theorem st_of (r : Nat → Nat) (i : Nat) (hi : i < 16) (w : World) :
    (Instr.index 69 (.agg (vals 16 r).toArray) (.int .i64 (i : Int))).run Try.prog w = .ok (.int .u8 (r i : Nat)) w := by
  rcases (show i = 0 ∨ i = 1 ∨ i = 2 ∨ i = 3 ∨ i = 4 ∨ i = 5 ∨ i = 6 ∨ i = 7 ∨ i = 8 ∨ i = 9 ∨ i = 10 ∨ i = 11 ∨ i = 12 ∨ i = 13 ∨ i = 14 ∨ i = 15 from by omega) with rfl | rfl | rfl | rfl | rfl | rfl | rfl | rfl | rfl | rfl | rfl | rfl | rfl | rfl | rfl | rfl
  all_goals kernel_rfl

/-- What a loop over a state keeps: the array that is written and the result's. -/
def Two (B : Nat) (w wr : World) (n b : Nat) (x : Nat → Nat) (r : Nat) : Prop := Arr wr b n x ∧ Arr wr r n (fun _ => 0) ∧ Below B w wr

set_option maxRecDepth 100000 in
theorem plus_any (x y : Nat → Nat) (w : World) (ox : ∀ j, x j < 256) (oy : ∀ j, y j < 256) :
    Calls Try.prog 43 #[.agg (vals 16 x).toArray, .agg (vals 16 y).toArray] w fun e w' =>
      e = .returned (.agg (vals 16 fun j => x j ^^^ y j).toArray) ∧ Below w.heap.size w w' := by
  have hz := Try.zeroState
  obtain ⟨wa, hwa, b1, b2, b3, hB, _⟩ := boxes3 w 16 x y (fun _ => 0) 69 69 69
  go_enter Try.func43, Try.ntmps43
  go_wp2_with (rw [← hwa.out]; refine wpList_load_arr rfl 69 _ rfl _ rfl 16 _ b2 _ Try.underlying69 rfl Try.sizeState ?_)
  try rw [← hwa.out]
  go_loopw [8] (fun i wr => ∃ n : Nat, n ≤ 16 ∧ i = .int .i64 (n : Int) ∧ Two w.heap.size w wr 16 w.heap.size (mixk (fun j => x j ^^^ y j) x n) (w.heap.size + 1 + 1)) (fun i _ => 16 - (intOf i).toNat)
  case atStart => exact ⟨0, by decide, rfl, b1.same fun j _ => (mixk_zero (fun j => x j ^^^ y j) x j).symm, b3, hB⟩
  case round =>
    clear b1 b2 b3 hB hwa hz
    obtain ⟨k, hk, rfl, h1, h2, hb⟩ := hrel
    by_cases hlt : k < 16
    · have hi := st_of y k hlt
      obtain ⟨hc, hf⟩ := h1 k hlt
      rw [mixk_at _ _ _ _ (Nat.le_refl _)] at hc
      have HS := hid (h1.set k (x k ^^^ y k) hlt)
      have H2 := hid h2
      have HX := hid (xor_nat (ox k) (oy k))
      clear h1 h2
      go_wp2
      go_roundw
      case rel =>
        refine ⟨k + 1, by omega, by go_num, ?_, ?_, hb.setCell (Nat.le_refl _) _⟩
        · rw [HX.out]
          exact HS.out.same fun j _ => mixk_step _ _ k j
        · exact H2.out.beside (by omega) _ _
      case measure => simp [intOf]; omega
    · obtain rfl : k = 16 := by omega
      have h3 := h2.put (mixk (fun j => x j ^^^ y j) x 16)
      go_wp2_with (first | (refine wpList_load_arr rfl 69 _ rfl _ rfl 16 _ h1 _ Try.underlying69 rfl Try.sizeState ?_) | (refine wpList_store_arr rfl 69 _ _ rfl _ 16 _ rfl rfl _ h2 Try.sizeState ?_))
      refine bodyPost_ret (v := .agg (vals 16 fun j => x j ^^^ y j).toArray) ?_ rfl ⟨rfl, below_setCells _ 0 hb (by omega)⟩
      have h4 := h3.same fun j hj => mixk_full _ _ 16 j hj
      exact results_cell_arr rfl _ _ 16 _ _ rfl h4 Try.underlying69 rfl Try.sizeState

/-- The place of the byte that comes to the place i. -/
def src (i : Nat) : Nat := (i + 4 * (i % 4)) % 16
theorem src_lt (i : Nat) : src i < 16 := Nat.mod_lt _ (by decide)

theorem source_any (i : Nat) (w : World) (hi : i < 16) :
    Calls Try.prog 53 #[.int .i64 i] w fun e w' => ∃ m : Nat, e = .returned (.int .i64 (m : Nat)) ∧ Hid (m = src i) ∧ m < 16 ∧ w = w' := by
  go_enter Try.func53, Try.ntmps53
  go_wp2
  go_ret
  refine ⟨src i, ret_int ?_, rfl, src_lt i, rfl⟩
  unfold src
  omega

set_option maxRecDepth 100000 in
theorem moved_any (x : Nat → Nat) (w : World) (ox : ∀ j, x j < 256) :
    Calls Try.prog 45 #[.agg (vals 16 x).toArray] w fun e w' =>
      e = .returned (.agg (vals 16 fun j => x (src j)).toArray) ∧ Below w.heap.size w w' := by
  have hz := Try.zeroState
  obtain ⟨wa, hwa, b1, b2, b3, hB, _⟩ := boxes3 w 16 x (fun _ => 0) (fun _ => 0) 69 69 69
  go_enter Try.func45, Try.ntmps45
  go_wp2_with fail
  try rw [← hwa.out]
  go_loopw [5] (fun i wr => ∃ n : Nat, n ≤ 16 ∧ i = .int .i64 (n : Int) ∧ Arr wr w.heap.size 16 x ∧ Two w.heap.size w wr 16 (w.heap.size + 1 + 1) (mixk (fun j => x (src j)) (fun _ => 0) n) (w.heap.size + 1)) (fun i _ => 16 - (intOf i).toNat)
  case atStart => exact ⟨0, by decide, rfl, b1, b3.same fun j _ => (mixk_zero (fun j => x (src j)) (fun _ => 0) j).symm, b2, hB⟩
  case round =>
    clear b1 b2 b3 hB hwa hz
    obtain ⟨k, hk, rfl, h0, h1, h2, hb⟩ := hrel
    by_cases hlt : k < 16
    · have hf := (h1 k hlt).2
      have hc := (h1 k hlt).1
      have HS := hid (h1.set k (x (src k)) hlt)
      have H0 := hid h0
      have H2 := hid h2
      clear h0 h1 h2
      go_wp2_with fail
      refine (source_any k _ hlt).mono ?_
      rintro e w' ⟨m, rfl, hm, hml, rfl⟩
      have h0 := (H0.out m hml).1
      go_wp2_with fail
      go_roundw
      case rel =>
        refine ⟨k + 1, by omega, by go_num, H0.out.beside (by omega) _ _, ?_, H2.out.beside (by omega) _ _, hb.setCell (by simp; omega) _⟩
        rw [hm.out]
        exact HS.out.same fun j _ => mixk_step (fun j => x (src j)) _ k j
      case measure => simp [intOf]; omega
    · obtain rfl : k = 16 := by omega
      have h3 := h2.put (mixk (fun j => x (src j)) (fun _ => 0) 16)
      go_wp2_with (first | (refine wpList_load_arr rfl 69 _ rfl _ rfl 16 _ h1 _ Try.underlying69 rfl Try.sizeState ?_) | (refine wpList_store_arr rfl 69 _ _ rfl _ 16 _ rfl rfl _ h2 Try.sizeState ?_))
      refine bodyPost_ret (v := .agg (vals 16 fun j => x (src j)).toArray) ?_ rfl ⟨rfl, below_setCells _ 0 hb (by omega)⟩
      have h4 := h3.same fun j hj => mixk_full _ _ 16 j hj
      exact results_cell_arr rfl _ _ 16 _ _ rfl h4 Try.underlying69 rfl Try.sizeState

/-- The place to which the byte of the place i goes. -/
theorem src_inj : ∀ i, i < 16 → ∀ j, j < 16 → src i = src j → i = j := by decide
/-- Where the byte of the place i comes from when the rows are moved back. -/
def dst (i : Nat) : Nat := (i + 12 * (i % 4)) % 16
theorem dst_lt (i : Nat) : dst i < 16 := Nat.mod_lt _ (by decide)
theorem dst_src : ∀ i, i < 16 → dst (src i) = i := by decide
theorem src_dst : ∀ i, i < 16 → src (dst i) = i := by decide

/-- What is moved back when the first k are. -/
def bk (x : Nat → Nat) (k j : Nat) : Nat := if dst j < k then x (dst j) else 0
theorem bk_step (x : Nat → Nat) (k j : Nat) (hk : k < 16) (hj : j < 16) : (if j = src k then x k else bk x k j) = bk x (k + 1) j := by
  unfold bk
  by_cases h : j = src k
  · subst h; rw [if_pos rfl, dst_src k hk, if_pos (by omega)]
  · have : dst j ≠ k := fun e => h (by rw [← e, src_dst j hj])
    rw [if_neg h]
    by_cases h2 : dst j < k
    · rw [if_pos h2, if_pos (by omega)]
    · rw [if_neg h2, if_neg (by omega)]
theorem bk_full (x : Nat → Nat) (j : Nat) : bk x 16 j = x (dst j) := by unfold bk; rw [if_pos (dst_lt j)]

/-- A cipher as it lies in memory: its block c, its keys' block k, with r + 1 keys. -/
def Cip (w : World) (c k r : Nat) (F : Nat → Nat) : Prop :=
  w.cell? ⟨c, 0, none⟩ = some (.slice (some ⟨k, 0, none⟩) (r + 1) (r + 1)) ∧ (∀ x, x < 256 → w.cell? ⟨c, 1 + x, none⟩ = some (.int .u8 (sub x : Nat))) ∧
  (∀ x, x < 256 → w.cell? ⟨c, 257 + x, none⟩ = some (.int .u8 (back x : Nat))) ∧ Arr w k (16 * (r + 1)) F
theorem Cip.below {w w' : World} {c k r : Nat} {F : Nat → Nat} (h : Cip w c k r F) (hb : Below w.heap.size w w') : Cip w' c k r F := by
  obtain ⟨h0, h1, h2, h3⟩ := h
  have hl : c < w.heap.size := World.block_lt_of_cell? w _ h0
  exact ⟨(hb.cell (p := ⟨c, 0, none⟩) hl).trans h0, fun x hx => (hb.cell (p := ⟨c, 1 + x, none⟩) hl).trans (h1 x hx), fun x hx => (hb.cell (p := ⟨c, 257 + x, none⟩) hl).trans (h2 x hx), h3.below hb⟩
theorem Cip.lt {w : World} {c k r : Nat} {F : Nat → Nat} (h : Cip w c k r F) : c < w.heap.size ∧ k < w.heap.size := ⟨World.block_lt_of_cell? w _ h.1, h.2.2.2.lt (by omega)⟩
theorem Cip.below' {B : Nat} {w w' : World} {c k r : Nat} {F : Nat → Nat} (h : Cip w c k r F) (hc : c < B) (hk : k < B) (hb : Below B w w') : Cip w' c k r F := by
  obtain ⟨h0, h1, h2, h3⟩ := h
  exact ⟨(hb.cell (p := ⟨c, 0, none⟩) hc).trans h0, fun x hx => (hb.cell (p := ⟨c, 1 + x, none⟩) hc).trans (h1 x hx), fun x hx => (hb.cell (p := ⟨c, 257 + x, none⟩) hc).trans (h2 x hx), h3.below' hk hb⟩

set_option maxRecDepth 100000 in
theorem substituted_any (c k r : Nat) (F x : Nat → Nat) (w : World) (ox : ∀ j, x j < 256) (hC : Cip w c k r F) :
    Calls Try.prog 44 #[.pointer (some ⟨c, 0, none⟩), .agg (vals 16 x).toArray] w fun e w' =>
      e = .returned (.agg (vals 16 fun j => sub (x j)).toArray) ∧ Below w.heap.size w w' := by
  have hz := Try.zeroState
  obtain ⟨wa, hwa, b1, b2, hB, _⟩ := boxes2 w 16 x (fun _ => 0) 69 69
  have HC := hid hC
  clear hC
  go_enter Try.func44, Try.ntmps44
  go_wp2_with (rw [← hwa.out]; refine wpList_load_arr rfl 69 _ rfl _ rfl 16 _ b1 _ Try.underlying69 rfl Try.sizeState ?_)
  try rw [← hwa.out]
  go_loopw [8] (fun i wr => ∃ n : Nat, n ≤ 16 ∧ i = .int .i64 (n : Int) ∧ Two w.heap.size w wr 16 w.heap.size (mixk (fun j => sub (x j)) x n) (w.heap.size + 1)) (fun i _ => 16 - (intOf i).toNat)
  case atStart => exact ⟨0, by decide, rfl, b1.same fun j _ => (mixk_zero (fun j => sub (x j)) x j).symm, b2, hB⟩
  case round =>
    clear b1 b2 hB hwa hz
    obtain ⟨k, hk, rfl, h1, h2, hb⟩ := hrel
    by_cases hlt : k < 16
    · have hi := st_of x k hlt
      obtain ⟨hc, hf⟩ := h1 k hlt
      have HS := hid (h1.set k (sub (x k)) hlt)
      have H2 := hid h2
      have hxk := ox k
      have hl := (HC.out.below hb).2.1 (x k) hxk
      clear h1 h2
      go_wp2
      go_roundw
      case rel =>
        refine ⟨k + 1, by omega, by go_num, ?_, ?_, hb.setCell (Nat.le_refl _) _⟩
        · exact HS.out.same fun j _ => mixk_step (fun j => sub (x j)) _ k j
        · exact H2.out.beside (by omega) _ _
      case measure => simp [intOf]; omega
    · obtain rfl : k = 16 := by omega
      have h3 := h2.put (mixk (fun j => sub (x j)) x 16)
      go_wp2_with (first | (refine wpList_load_arr rfl 69 _ rfl _ rfl 16 _ h1 _ Try.underlying69 rfl Try.sizeState ?_) | (refine wpList_store_arr rfl 69 _ _ rfl _ 16 _ rfl rfl _ h2 Try.sizeState ?_))
      refine bodyPost_ret (v := .agg (vals 16 fun j => sub (x j)).toArray) ?_ rfl ⟨rfl, below_setCells _ 0 hb (by omega)⟩
      have h4 := h3.same fun j hj => mixk_full _ _ 16 j hj
      exact results_cell_arr rfl _ _ 16 _ _ rfl h4 Try.underlying69 rfl Try.sizeState

theorem absent_nil (w : World) : Calls Try.prog 42 #[.pointer none] w fun e w' => e = .returned (.bool true) ∧ w = w' := by
  go_enter Try.func42, Try.ntmps42
  go_wp2
  go_ret
  exact ⟨rfl, rfl⟩
theorem absent_no (c k r : Nat) (F : Nat → Nat) (w : World) (hC : Cip w c k r F) : Calls Try.prog 42 #[.pointer (some ⟨c, 0, none⟩)] w fun e w' => e = .returned (.bool false) ∧ w = w' := by
  have h := hC.1
  clear hC
  go_enter Try.func42, Try.ntmps42
  go_wp2
  go_ret
  exact ⟨rfl, rfl⟩
end Go.Proofs.Ytadpnkecdjleiaa
