/-
  The contract of the program's Mul.
-/
import Derived.Test.YtgnhbfjngdgibaaGhw
import Derived.Test.YtgnhbfjngdgibaaGhs
namespace Go.Proofs.Ytgnhbfjngdgibaa
open Go.RowKit
set_option linter.unusedVariables false
set_option linter.unusedSimpArgs false

set_option maxHeartbeats 4000000 in
set_option maxRecDepth 100000 in
theorem mul_of (x y : Nat → Nat) (w : World) (ox : ∀ j, x j < 256) (oy : ∀ j, y j < 256) :
    Calls Try.prog 74 #[.agg (vals 16 x).toArray, .agg (vals 16 y).toArray] w fun e w' => e = .returned (.agg (vals 16 (by16 (G.mul (el x) (el y)))).toArray) ∧ Below w.heap.size w w' := by
  have hzb := Try.zeroBlock
  obtain ⟨X, hXe⟩ : ∃ X, Hid (X = el x) := ⟨_, rfl⟩
  obtain ⟨Y, hYe⟩ : ∃ Y, Hid (Y = el y) := ⟨_, rfl⟩
  rw [← hXe.out, ← hYe.out]
  obtain ⟨w1, hw1, hx1, hy1, hz1, hB, hsz⟩ := boxes3 w 16 x y (fun _ => 0) 44 44 44
  have HX := hid hx1
  have HY := hid hy1
  have HZ := hid hz1
  clear hx1 hy1 hz1
  go_enter Try.func74, Try.ntmps74
  go_wp2_with (refine wpList_load_arr rfl 44 _ rfl w.heap.size rfl 16 x ?_ _ Try.underlying44 rfl Try.sizeBlock ?_; rw [← hw1.out]; exact HX.out)
  rw [← hw1.out]
  refine (words_of x _ ox).mono ?_
  rintro e w2 ⟨rfl, hb2⟩
  have hY2 := HY.out.below hb2
  have hZ2 := HZ.out.below hb2
  have hB2 := hB.trans (hb2.mono hB.size)
  clear HX HY HZ hb2 hB
  go_wp2_with (refine wpList_load_arr rfl 44 _ rfl (w.heap.size + 1) rfl 16 y ?_ _ Try.underlying44 rfl Try.sizeBlock ?_; exact hY2)
  refine (words_of y _ oy).mono ?_
  rintro e w3 ⟨rfl, hb3⟩
  have hZ3 := hZ2.below hb3
  have hB3 := hB2.trans (hb3.mono hB2.size)
  clear hY2 hZ2 hb3 hB2
  have HX0 := hid (hXe.out.trans (el_words x))
  have HY0 := hid (hYe.out.trans (el_words y))
  have l1 := nb8_lt ox
  have l2 := nb8_lt (x := fun j => x (8 + j)) (fun j => ox _)
  have l3 := nb8_lt oy
  have l4 := nb8_lt (x := fun j => y (8 + j)) (fun j => oy _)
  generalize nb x 8 = xh at HX0 l1 ⊢
  generalize nb (fun j => x (8 + j)) 8 = xl at HX0 l2 ⊢
  generalize nb y 8 = yh at HY0 l3 ⊢
  generalize nb (fun j => y (8 + j)) 8 = yl at HY0 l4 ⊢
  clear hXe hYe
  go_wp2_with fail
  go_loop [5, 6, 7, 8, 9, 10, 22] (fun a b c d f g i => ∃ m : Nat, m ≤ 128 ∧ i = .int .i64 (m : Int) ∧ ∃ ah al ch cl fh fl : Nat, a = .int .u64 (ah : Nat) ∧ b = .int .u64 (al : Nat) ∧ c = .int .u64 (ch : Nat) ∧ d = .int .u64 (cl : Nat) ∧ f = .int .u64 (fh : Nat) ∧ g = .int .u64 (fl : Nat) ∧
    GSt X Y m ah al ch cl fh fl) (fun _ _ _ _ _ _ i => 128 - (intOf i).toNat)
  case atStart => exact ⟨0, by decide, rfl, xh, xl, yh, yl, 0, 0, rfl, rfl, rfl, rfl, rfl, rfl, by rw [HX0.out, HY0.out]; exact GSt.zero l1 l2 l3 l4⟩
  case round =>
    clear HX0 HY0 l1 l2 l3 l4
    obtain ⟨m, hm, rfl, ah, al, ch, cl, fh, fl, rfl, rfl, rfl, rfl, rfl, rfl, hS⟩ := hrel
    have b1 := hS.1
    have b2 := hS.2.1
    have b3 := hS.2.2.1
    have b4 := hS.2.2.2.1
    have b5 := hS.2.2.2.2.1
    have b6 := hS.2.2.2.2.2.1
    have HS := hid hS
    clear hS
    by_cases hlt : m < 128
    · go_wp2_with fail
      go_round
      case rel =>
        refine ⟨m + 1, by omega, by go_num, a1 ah al, a2 al, c1 ch cl, c2 ch cl, f1 ah ch fh, f1 ah cl fl, ?_, ?_, ?_, ?_, ?_, ?_, HS.out.next hlt⟩
        · rw [e_a1 ah al b1 b2]
        · rw [e_a2 al]
        · rw [e_c1 ch cl b3 b4]
        · rw [e_c2 ch cl b3 b4]
        · rw [e_f1 ah ch fh b1 b3 b5]
        · rw [e_f1 ah cl fl b1 b4 b6]
      case measure => simp [intOf]; omega
    · obtain rfl : m = 128 := by omega
      go_wp2_with fail
      refine (element_of fh fl _ b5 b6).mono ?_
      rintro e w4 ⟨rfl, hb4⟩
      have hZ4 := hZ3.below hb4
      have hB4 := hB3.trans (hb4.mono hB3.size)
      rw [show fh * 18446744073709551616 + fl = G.mul X Y from HS.out.2.2.2.2.2.2.2.2]
      clear HS hZ3 hb4 hB3
      go_wp2_with (refine wpList_store_arr rfl 44 _ _ rfl (w.heap.size + 1 + 1) 16 (by16 (G.mul X Y)) rfl rfl (fun _ => 0) ?_ Try.sizeBlock ?_; exact hZ4)
      refine bodyPost_ret (v := .agg (vals 16 (by16 (G.mul X Y))).toArray) ?_ rfl ⟨rfl, below_setCells _ 0 hB4 (by omega)⟩
      exact results_cell_arr rfl _ _ 16 _ _ rfl (hZ4.put _) Try.underlying44 rfl Try.sizeBlock
end Go.Proofs.Ytgnhbfjngdgibaa
