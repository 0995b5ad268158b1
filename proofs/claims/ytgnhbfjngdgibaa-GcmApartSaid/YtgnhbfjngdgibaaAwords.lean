/-
  The contracts of the program's words of a key.
-/
import Derived.Test.YtgnhbfjngdgibaaKd
import Derived.Test.YtgnhbfjngdgibaaKa
import Derived.Deep.CutRange
import Derived.Deep.DeepCutAuto
namespace Go.Proofs.Ytgnhbfjngdgibaa
open Go.RowKit
set_option linter.unusedVariables false
set_option linter.unusedSimpArgs false

theorem wd_of (r : Nat → Nat) (i : Nat) (hi : i < 4) (w : World) :
    (Instr.index 76 (.agg (vals 4 r).toArray) (.int .i64 (i : Int))).run Try.prog w = .ok (.int .u8 (r i : Nat)) w := by
  rcases (show i = 0 ∨ i = 1 ∨ i = 2 ∨ i = 3 from by omega) with rfl | rfl | rfl | rfl
  all_goals kernel_rfl

set_option maxRecDepth 100000 in
theorem sum_any (x y : Nat → Nat) (w : World) (ox : ∀ j, x j < 256) (oy : ∀ j, y j < 256) :
    Calls Try.prog 68 #[.agg (vals 4 x).toArray, .agg (vals 4 y).toArray] w fun e w' =>
      e = .returned (.agg (vals 4 fun j => x j ^^^ y j).toArray) ∧ Below w.heap.size w w' := by
  have hz := Try.zeroWord
  obtain ⟨wa, hwa, b1, b2, b3, hB, _⟩ := boxes3 w 4 x y (fun _ => 0) 76 76 76
  go_enter Try.func68, Try.ntmps68
  go_wp2_with (rw [← hwa.out]; refine wpList_load_arr rfl 76 _ rfl _ rfl 4 _ b2 _ Try.underlying76 rfl Try.sizeWord ?_)
  try rw [← hwa.out]
  go_loopw [8] (fun i wr => ∃ n : Nat, n ≤ 4 ∧ i = .int .i64 (n : Int) ∧ Two w.heap.size w wr 4 w.heap.size (mixk (fun j => x j ^^^ y j) x n) (w.heap.size + 1 + 1)) (fun i _ => 4 - (intOf i).toNat)
  case atStart => exact ⟨0, by decide, rfl, b1.same fun j _ => (mixk_zero (fun j => x j ^^^ y j) x j).symm, b3, hB⟩
  case round =>
    clear b1 b2 b3 hB hwa hz
    obtain ⟨k, hk, rfl, h1, h2, hb⟩ := hrel
    by_cases hlt : k < 4
    · have hi := wd_of y k hlt
      obtain ⟨hc, hf⟩ := h1 k hlt
      rw [mixk_at _ _ _ _ (Nat.le_refl _)] at hc
      have HS := hid (h1.set k (x k ^^^ y k) hlt)
      have H2 := hid h2
      have HX := hid (xor_nat (ox k) (oy k))
      clear h1 h2
      go_wp2
      go_roundw
      case rel =>
        refine ⟨k + 1, by omega, by go_num, ?_, ?_, hb.setCell (Nat.le_refl _) _⟩
        · rw [HX.out]
          exact HS.out.same fun j _ => mixk_step _ _ k j
        · exact H2.out.beside (by omega) _ _
      case measure => simp [intOf]; omega
    · obtain rfl : k = 4 := by omega
      have h3 := h2.put (mixk (fun j => x j ^^^ y j) x 4)
      go_wp2_with (first | (refine wpList_load_arr rfl 76 _ rfl _ rfl 4 _ h1 _ Try.underlying76 rfl Try.sizeWord ?_) | (refine wpList_store_arr rfl 76 _ _ rfl _ 4 _ rfl rfl _ h2 Try.sizeWord ?_))
      refine bodyPost_ret (v := .agg (vals 4 fun j => x j ^^^ y j).toArray) ?_ rfl ⟨rfl, below_setCells _ 0 hb (by omega)⟩
      have h4 := h3.same fun j hj => mixk_full _ _ 4 j hj
      exact results_cell_arr rfl _ _ 4 _ _ rfl h4 Try.underlying76 rfl Try.sizeWord

set_option maxRecDepth 100000 in
theorem substitutes_any (x : Nat → Nat) (w : World) (ox : ∀ j, x j < 256) :
    Calls Try.prog 80 #[.agg (vals 4 x).toArray] w fun e w' =>
      e = .returned (.agg (vals 4 fun j => sub (x j)).toArray) ∧ Below w.heap.size w w' := by
  have hz := Try.zeroWord
  obtain ⟨wa, hwa, b1, b2, hB, _⟩ := boxes2 w 4 x (fun _ => 0) 76 76
  go_enter Try.func80, Try.ntmps80
  go_wp2_with (rw [← hwa.out]; refine wpList_load_arr rfl 76 _ rfl _ rfl 4 _ b1 _ Try.underlying76 rfl Try.sizeWord ?_)
  try rw [← hwa.out]
  go_loopw [6] (fun i wr => ∃ n : Nat, n ≤ 4 ∧ i = .int .i64 (n : Int) ∧ Two w.heap.size w wr 4 w.heap.size (mixk (fun j => sub (x j)) x n) (w.heap.size + 1)) (fun i _ => 4 - (intOf i).toNat)
  case atStart => exact ⟨0, by decide, rfl, b1.same fun j _ => (mixk_zero (fun j => sub (x j)) x j).symm, b2, hB⟩
  case round =>
    clear b1 b2 hB hwa hz
    obtain ⟨k, hk, rfl, h1, h2, hb⟩ := hrel
    by_cases hlt : k < 4
    · have hi := wd_of x k hlt
      obtain ⟨hc, hf⟩ := h1 k hlt
      have HS := hid (h1.set k (sub (x k)) hlt)
      have H2 := hid h2
      clear h1 h2
      go_wp2_with fail
      refine (sub_any (x k) _ (ox k)).mono ?_
      rintro e w' ⟨rfl, rfl⟩
      go_wp2_with fail
      go_roundw
      case rel =>
        refine ⟨k + 1, by omega, by go_num, ?_, ?_, hb.setCell (Nat.le_refl _) _⟩
        · exact HS.out.same fun j _ => mixk_step (fun j => sub (x j)) _ k j
        · exact H2.out.beside (by omega) _ _
      case measure => simp [intOf]; omega
    · obtain rfl : k = 4 := by omega
      have h3 := h2.put (mixk (fun j => sub (x j)) x 4)
      go_wp2_with (first | (refine wpList_load_arr rfl 76 _ rfl _ rfl 4 _ h1 _ Try.underlying76 rfl Try.sizeWord ?_) | (refine wpList_store_arr rfl 76 _ _ rfl _ 4 _ rfl rfl _ h2 Try.sizeWord ?_))
      refine bodyPost_ret (v := .agg (vals 4 fun j => sub (x j)).toArray) ?_ rfl ⟨rfl, below_setCells _ 0 hb (by omega)⟩
      have h4 := h3.same fun j hj => mixk_full _ _ 4 j hj
      exact results_cell_arr rfl _ _ 4 _ _ rfl h4 Try.underlying76 rfl Try.sizeWord

theorem power2_any (n : Nat) (w : World) (hn : n < 2 ^ 32) :
    Calls Try.prog 81 #[.int .u8 2, .int .u32 n] w fun e w' => e = .returned (.int .u8 (pw 2 n : Nat)) ∧ w = w' := power_any 2 n w (by decide) hn

set_option maxHeartbeats 1000000 in
set_option maxRecDepth 100000 in
theorem changed4_any (x : Nat → Nat) (i : Nat) (w : World) (ox : ∀ j, x j < 256) (hi : 4 ≤ i) (hi2 : i < 100) :
    Calls Try.prog 69 #[.agg (vals 4 x).toArray, .int .i64 i, .int .i64 4] w fun e w' =>
      e = .returned (.agg (vals 4 (chg 4 i x)).toArray) ∧ Below w.heap.size w w' := by
  have hz := Try.zeroWord
  obtain ⟨wa, hwa, b1, b2, hB, _⟩ := boxes2 w 4 x (fun _ => 0) 76 76
  by_cases hm : i % 4 = 0
  · have hm' : ((i : Int) % 4 == 0) = true := by rw [beq_iff_eq]; omega
    obtain ⟨r0, f0⟩ := b1 0 (by decide)
    obtain ⟨r1, f1⟩ := b1 1 (by decide)
    obtain ⟨r2, f2⟩ := b1 2 (by decide)
    obtain ⟨r3, f3⟩ := b1 3 (by decide)
    have B1 := hid b1
    have B2 := hid b2
    have HM := hid hm
    clear b1 b2 hm
    go_enter Try.func69, Try.ntmps69
    go_upto_region 2 with fail
    rw [← hwa.out]
    go_wp2_with fail
    refine (substitutes_any (fun j => x ((j + 1) % 4)) _ (fun j => ox _)).mono ?_
    rintro e w1 ⟨rfl, hb1⟩
    clear r0 r1 r2 r3 f0 f1 f2 f3 hwa
    have hB1 := hB.trans (hb1.mono hB.size)
    have A1 := hid ((B1.out.below hb1).put (fun j => sub (x ((j + 1) % 4))))
    have A2 := hid ((B2.out.below hb1).besidePut (b' := w.heap.size) (by omega) 0 (vals 4 fun j => sub (x ((j + 1) % 4))))
    have hb2 := below_setCells (b := w.heap.size) (vals 4 fun j => sub (x ((j + 1) % 4))) 0 hB1 (Nat.le_refl _)
    go_wp2_with (refine wpList_store_arr rfl 76 _ _ rfl _ 4 _ rfl rfl _ (B1.out.below hb1) Try.sizeWord ?_)
    generalize w1.setCells w.heap.size 0 (vals 4 fun j => sub (x ((j + 1) % 4))) = w2 at A1 A2 hb2 ⊢
    clear B1 B2 hb1 hB hB1
    obtain ⟨r0, f0⟩ := A1.out.drew 0 (by decide)
    have hx0 : sub (x 1) < 256 := sub_lt (ox _)
    change w2.drew.cell? _ = some (.int .u8 (sub (x 1) : Nat)) at r0
    have E := hid (show IntKind.u32.wrap (IntKind.i64.wrap (IntKind.i64.wrap ((i : Int) / 4) - 1)) = ((i / 4 - 1 : Nat) : Int) from by simp [IntKind.wrap, IntKind.bits, IntKind.signed]; omega)
    have hn : i / 4 - 1 < 2 ^ 32 := by omega
    go_region_law (first | (go_simp; go_at_call 81; rw [E.out]; with_reducible refine (power2_any (i / 4 - 1) _ hn).mono ?_; rintro e w' ⟨rfl, rfl⟩))
    all_goals
      have HX := hid (xor_nat hx0 (pw_lt (a := 2) (by decide) (i / 4 - 1)))
      rw [HX.out]
      have A3 := hid ((A1.out.set 0 (sub (x 1) ^^^ pw 2 (i / 4 - 1)) (by decide)).drew.same (y := chg 4 i x) (four (by unfold chg; rw [if_pos HM.out]; rfl) (by unfold chg; rw [if_pos HM.out]; simp) (by unfold chg; rw [if_pos HM.out]; simp) (by unfold chg; rw [if_pos HM.out]; simp)))
      have A4 := hid ((A2.out.beside (b' := w.heap.size) (by omega) 0 (.int .u8 (sub (x 1) ^^^ pw 2 (i / 4 - 1) : Nat))).drew)
      have hb3 := (hb2.setCell (p := ⟨w.heap.size, 0, none⟩) (Nat.le_refl _) (.int .u8 (sub (x 1) ^^^ pw 2 (i / 4 - 1) : Nat))).drew
      clear A1 A2 r0 f0 hb2 HX
      generalize (w2.setCell ⟨w.heap.size, 0, none⟩ (.int .u8 (sub (x 1) ^^^ pw 2 (i / 4 - 1) : Nat))).drew = w3 at A3 A4 hb3 ⊢
      go_wp2_with (first | (refine wpList_load_arr rfl 76 _ rfl _ rfl 4 _ A3.out _ Try.underlying76 rfl Try.sizeWord ?_) | (refine wpList_store_arr rfl 76 _ _ rfl _ 4 _ rfl rfl _ A4.out Try.sizeWord ?_))
      refine bodyPost_ret (v := .agg (vals 4 (chg 4 i x)).toArray) ?_ rfl ⟨rfl, below_setCells _ 0 hb3 (by omega)⟩
      exact results_cell_arr rfl _ _ 4 _ _ rfl (A4.out.put _) Try.underlying76 rfl Try.sizeWord
  · have hm' : ((i : Int) % 4 == 0) = false := by rw [beq_eq_false_iff_ne]; omega
    have A3 := hid (b1.same (y := chg 4 i x) fun j _ => by unfold chg; rw [if_neg hm, if_neg (by omega)])
    have A4 := hid b2
    clear b1 b2 hm
    go_enter Try.func69, Try.ntmps69
    go_wp2_with (first | (rw [← hwa.out]; refine wpList_load_arr rfl 76 _ rfl _ rfl 4 _ A3.out _ Try.underlying76 rfl Try.sizeWord ?_) | (refine wpList_store_arr rfl 76 _ _ rfl _ 4 _ rfl rfl _ A4.out Try.sizeWord ?_))
    refine bodyPost_ret (v := .agg (vals 4 (chg 4 i x)).toArray) ?_ rfl ⟨rfl, below_setCells _ 0 hB (by omega)⟩
    exact results_cell_arr rfl _ _ 4 _ _ rfl (A4.out.put _) Try.underlying76 rfl Try.sizeWord

set_option maxHeartbeats 1000000 in
set_option maxRecDepth 100000 in
theorem changed8_any (x : Nat → Nat) (i : Nat) (w : World) (ox : ∀ j, x j < 256) (hi : 8 ≤ i) (hi2 : i < 100) :
    Calls Try.prog 69 #[.agg (vals 4 x).toArray, .int .i64 i, .int .i64 8] w fun e w' =>
      e = .returned (.agg (vals 4 (chg 8 i x)).toArray) ∧ Below w.heap.size w w' := by
  have hz := Try.zeroWord
  obtain ⟨wa, hwa, b1, b2, hB, _⟩ := boxes2 w 4 x (fun _ => 0) 76 76
  by_cases hm : i % 8 = 0
  · have hm' : ((i : Int) % 8 == 0) = true := by rw [beq_iff_eq]; omega
    obtain ⟨r0, f0⟩ := b1 0 (by decide)
    obtain ⟨r1, f1⟩ := b1 1 (by decide)
    obtain ⟨r2, f2⟩ := b1 2 (by decide)
    obtain ⟨r3, f3⟩ := b1 3 (by decide)
    have B1 := hid b1
    have B2 := hid b2
    have HM := hid hm
    clear b1 b2 hm
    go_enter Try.func69, Try.ntmps69
    go_upto_region 2 with fail
    rw [← hwa.out]
    go_wp2_with fail
    refine (substitutes_any (fun j => x ((j + 1) % 4)) _ (fun j => ox _)).mono ?_
    rintro e w1 ⟨rfl, hb1⟩
    clear r0 r1 r2 r3 f0 f1 f2 f3 hwa
    have hB1 := hB.trans (hb1.mono hB.size)
    have A1 := hid ((B1.out.below hb1).put (fun j => sub (x ((j + 1) % 4))))
    have A2 := hid ((B2.out.below hb1).besidePut (b' := w.heap.size) (by omega) 0 (vals 4 fun j => sub (x ((j + 1) % 4))))
    have hb2 := below_setCells (b := w.heap.size) (vals 4 fun j => sub (x ((j + 1) % 4))) 0 hB1 (Nat.le_refl _)
    go_wp2_with (refine wpList_store_arr rfl 76 _ _ rfl _ 4 _ rfl rfl _ (B1.out.below hb1) Try.sizeWord ?_)
    generalize w1.setCells w.heap.size 0 (vals 4 fun j => sub (x ((j + 1) % 4))) = w2 at A1 A2 hb2 ⊢
    clear B1 B2 hb1 hB hB1
    obtain ⟨r0, f0⟩ := A1.out.drew 0 (by decide)
    have hx0 : sub (x 1) < 256 := sub_lt (ox _)
    change w2.drew.cell? _ = some (.int .u8 (sub (x 1) : Nat)) at r0
    have E := hid (show IntKind.u32.wrap (IntKind.i64.wrap (IntKind.i64.wrap ((i : Int) / 8) - 1)) = ((i / 8 - 1 : Nat) : Int) from by simp [IntKind.wrap, IntKind.bits, IntKind.signed]; omega)
    have hn : i / 8 - 1 < 2 ^ 32 := by omega
    go_region_law (first | (go_simp; go_at_call 81; rw [E.out]; with_reducible refine (power2_any (i / 8 - 1) _ hn).mono ?_; rintro e w' ⟨rfl, rfl⟩))
    all_goals
      have HX := hid (xor_nat hx0 (pw_lt (a := 2) (by decide) (i / 8 - 1)))
      rw [HX.out]
      have A3 := hid ((A1.out.set 0 (sub (x 1) ^^^ pw 2 (i / 8 - 1)) (by decide)).drew.same (y := chg 8 i x) (four (by unfold chg; rw [if_pos HM.out]; rfl) (by unfold chg; rw [if_pos HM.out]; simp) (by unfold chg; rw [if_pos HM.out]; simp) (by unfold chg; rw [if_pos HM.out]; simp)))
      have A4 := hid ((A2.out.beside (b' := w.heap.size) (by omega) 0 (.int .u8 (sub (x 1) ^^^ pw 2 (i / 8 - 1) : Nat))).drew)
      have hb3 := (hb2.setCell (p := ⟨w.heap.size, 0, none⟩) (Nat.le_refl _) (.int .u8 (sub (x 1) ^^^ pw 2 (i / 8 - 1) : Nat))).drew
      clear A1 A2 r0 f0 hb2 HX
      generalize (w2.setCell ⟨w.heap.size, 0, none⟩ (.int .u8 (sub (x 1) ^^^ pw 2 (i / 8 - 1) : Nat))).drew = w3 at A3 A4 hb3 ⊢
      go_wp2_with (first | (refine wpList_load_arr rfl 76 _ rfl _ rfl 4 _ A3.out _ Try.underlying76 rfl Try.sizeWord ?_) | (refine wpList_store_arr rfl 76 _ _ rfl _ 4 _ rfl rfl _ A4.out Try.sizeWord ?_))
      refine bodyPost_ret (v := .agg (vals 4 (chg 8 i x)).toArray) ?_ rfl ⟨rfl, below_setCells _ 0 hb3 (by omega)⟩
      exact results_cell_arr rfl _ _ 4 _ _ rfl (A4.out.put _) Try.underlying76 rfl Try.sizeWord
  · have hm' : ((i : Int) % 8 == 0) = false := by rw [beq_eq_false_iff_ne]; omega
    by_cases hm4 : i % 8 = 4
    · have hm4' : ((i : Int) % 8 == 4) = true := by rw [beq_iff_eq]; omega
      have HM := hid hm
      have HM4 := hid hm4
      have B1 := hid b1
      have B2 := hid b2
      clear b1 b2 hm hm4
      go_enter Try.func69, Try.ntmps69
      go_wp2_with (first | (rw [← hwa.out]; refine wpList_load_arr rfl 76 _ rfl _ rfl 4 _ B1.out _ Try.underlying76 rfl Try.sizeWord ?_))
      refine (substitutes_any x _ ox).mono ?_
      rintro e w1 ⟨rfl, hb1⟩
      have hB1 := hB.trans (hb1.mono hB.size)
      have A3 := hid (((B1.out.below hb1).put (fun j => sub (x j))).same (y := chg 8 i x) fun j _ => by unfold chg; rw [if_neg HM.out, if_pos ⟨rfl, HM4.out⟩])
      have A4 := hid ((B2.out.below hb1).besidePut (b' := w.heap.size) (by omega) 0 (vals 4 fun j => sub (x j)))
      have hb2 := below_setCells (b := w.heap.size) (vals 4 fun j => sub (x j)) 0 hB1 (Nat.le_refl _)
      go_wp2_with (first | (refine wpList_load_arr rfl 76 _ rfl _ rfl 4 _ A3.out _ Try.underlying76 rfl Try.sizeWord ?_) | (refine wpList_store_arr rfl 76 _ _ rfl w.heap.size 4 (fun j => sub (x j)) rfl rfl _ (B1.out.below hb1) Try.sizeWord ?_) | (refine wpList_store_arr rfl 76 _ _ rfl (w.heap.size + 1) 4 (chg 8 i x) rfl rfl _ A4.out Try.sizeWord ?_))
      refine bodyPost_ret (v := .agg (vals 4 (chg 8 i x)).toArray) ?_ rfl ⟨rfl, below_setCells _ 0 hb2 (by omega)⟩
      exact results_cell_arr rfl _ _ 4 _ _ rfl (A4.out.put _) Try.underlying76 rfl Try.sizeWord
    · have hm4' : ((i : Int) % 8 == 4) = false := by rw [beq_eq_false_iff_ne]; omega
      have A3 := hid (b1.same (y := chg 8 i x) fun j _ => by unfold chg; rw [if_neg hm, if_neg (by omega)])
      have A4 := hid b2
      clear b1 b2 hm hm4
      go_enter Try.func69, Try.ntmps69
      go_wp2_with (first | (rw [← hwa.out]; refine wpList_load_arr rfl 76 _ rfl _ rfl 4 _ A3.out _ Try.underlying76 rfl Try.sizeWord ?_) | (refine wpList_store_arr rfl 76 _ _ rfl _ 4 _ rfl rfl _ A4.out Try.sizeWord ?_))
      refine bodyPost_ret (v := .agg (vals 4 (chg 8 i x)).toArray) ?_ rfl ⟨rfl, below_setCells _ 0 hB (by omega)⟩
      exact results_cell_arr rfl _ _ 4 _ _ rfl (A4.out.put _) Try.underlying76 rfl Try.sizeWord
end Go.Proofs.Ytgnhbfjngdgibaa
