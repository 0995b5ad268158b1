/-
  The document's substitutes.
-/
import Derived.Test.YtadpnkecdjleiaaGref
namespace Go.Proofs.Ytadpnkecdjleiaa
open Go.RowKit

theorem bit_some (a i : Nat) (w : World) (ha : a < 256) (hi : i ≤ 16) :
    Calls Try.prog 49 #[.int .u8 a, .int .i64 i] w fun e w' => ∃ x : Nat, e = .returned (.int .i64 x) ∧ Hid (x = a / 2 ^ (i % 8) % 2) ∧ x < 2 ∧ w = w' :=
  (bit_any a i w ha hi).mono fun e w' ⟨he, hw⟩ => ⟨_, he, rfl, Nat.mod_lt _ (by decide), hw⟩

theorem srows_step {b t x0 x1 x2 x3 x4 x5 : Nat} (ht : t < 8) (h0 : x0 = b / 2 ^ (t % 8) % 2) (h1 : x1 = b / 2 ^ ((t + 4) % 8) % 2) (h2 : x2 = b / 2 ^ ((t + 5) % 8) % 2) (h3 : x3 = b / 2 ^ ((t + 6) % 8) % 2)
    (h4 : x4 = b / 2 ^ ((t + 7) % 8) % 2) (h5 : x5 = 99 / 2 ^ (t % 8) % 2) : 2 * srows (7 - t) b + (x0 + x1 + x2 + x3 + x4 + x5) % 2 = srows (8 - t) b := by
  subst h0 h1 h2 h3 h4 h5
  rw [show 8 - t = (7 - t) + 1 from by omega]
  simp only [srows]
  rw [show 7 - (7 - t) = t from by omega]
  rfl

set_option maxRecDepth 100000 in
set_option maxHeartbeats 1000000 in
theorem refSub_any (a : Nat) (w : World) (ha : a < 256) :
    Calls Try.prog 34 #[.int .u8 a] w fun e w' => e = .returned (.int .u8 (sub a : Nat)) ∧ w = w' := by
  have hb := inv_lt ha
  have HF := hid (srows_aff (inv a) hb)
  show Calls _ _ _ _ fun e w' => e = .returned (.int .u8 (aff (inv a) : Nat)) ∧ w = w'
  go_enter Try.func34, Try.ntmps34
  go_wp2_with fail
  refine (refInv_any a _ ha).mono ?_
  rintro e w' ⟨rfl, rfl⟩
  generalize hbe : inv a = b at hb HF
  have HB := hid hbe
  clear hbe
  go_wp2
  go_loop [4, 5] (fun s i => ∃ n : Nat, n ≤ 8 ∧ i = .int .i64 ((n : Int) - 1) ∧ s = .int .i64 (srows (8 - n) b : Nat)) (fun _ i => (intOf i + 1).toNat)
  case atStart => exact ⟨8, by decide, rfl, rfl⟩
  case round =>
    obtain ⟨n, hn, rfl, rfl⟩ := hrel
    rcases n with _ | t
    · have hl : srows 8 b < 256 := srows_lt 8 b
      go_wp2
      go_ret
      exact ⟨ret_int (by rw [HB.out, ← HF.out]), rfl⟩
    · rw [show ((t + 1 : Nat) : Int) - 1 = (t : Int) from by omega, show 8 - (t + 1) = 7 - t from by omega]
      have hl : srows (7 - t) b < 128 := Nat.lt_of_lt_of_le (srows_lt (7 - t) b) (Nat.pow_le_pow_right (n := 2) (by decide) (show 7 - t ≤ 7 by omega))
      go_wp2_with fail
      refine (bit_some b t _ hb (by omega)).mono ?_
      rintro e w' ⟨x0, rfl, h0, l0, rfl⟩
      go_wp2_with fail
      refine (bit_some b (t + 4) _ hb (by omega)).mono ?_
      rintro e w' ⟨x1, rfl, h1, l1, rfl⟩
      go_wp2_with fail
      refine (bit_some b (t + 5) _ hb (by omega)).mono ?_
      rintro e w' ⟨x2, rfl, h2, l2, rfl⟩
      go_wp2_with fail
      refine (bit_some b (t + 6) _ hb (by omega)).mono ?_
      rintro e w' ⟨x3, rfl, h3, l3, rfl⟩
      go_wp2_with fail
      refine (bit_some b (t + 7) _ hb (by omega)).mono ?_
      rintro e w' ⟨x4, rfl, h4, l4, rfl⟩
      go_wp2_with fail
      refine (bit_some 99 t _ (by decide) (by omega)).mono ?_
      rintro e w' ⟨x5, rfl, h5, l5, rfl⟩
      go_wp2
      go_round
      case rel =>
        refine ⟨t, by omega, by go_num, ?_⟩
        rw [← srows_step (by omega) h0.out h1.out h2.out h3.out h4.out h5.out]
        rfl
      case measure => simp [intOf]

end Go.Proofs.Ytadpnkecdjleiaa
