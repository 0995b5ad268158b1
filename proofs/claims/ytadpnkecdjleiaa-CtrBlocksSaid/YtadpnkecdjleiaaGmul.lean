/-
  The contracts of layer 2's calls on elements: each answers what the numbers say.
-/
import Derived.Test.YtadpnkecdjleiaaGf
namespace Go.Proofs.Ytadpnkecdjleiaa
open Go.RowKit

theorem dbl_bits : ∀ a : Nat, a < 256 → bits .xor .u8 ((a : Int) * 2 % 256) (bits .and .u8 27 (-((a : Int) / 128) % 256)) = ((dbl a : Nat) : Int) := by decide +kernel

theorem double_any (a : Nat) (w : World) (ha : a < 256) :
    Calls Try.prog 58 #[.int .u8 a] w fun e w' => e = .returned (.int .u8 (dbl a : Nat)) ∧ w = w' := by
  go_enter Try.func58, Try.ntmps58
  go_wp2
  go_ret
  exact ⟨ret_int (dbl_bits a ha), rfl⟩

theorem xor_nat {a b : Nat} (ha : a < 256) (hb : b < 256) : bits .xor .u8 (a : Int) (b : Int) = ((a ^^^ b : Nat) : Int) := by
  have := u8_xor (a : Int) (b : Int) (by omega) (by omega) (by omega) (by omega)
  simpa using this

theorem low_bit : ∀ b : Nat, b < 256 → -bits .and .u8 (b : Int) 1 % 256 = if b.testBit 0 then 255 else 0 := by decide +kernel
theorem and_all : ∀ a : Nat, a < 256 → bits .and .u8 (a : Int) 255 = ((a : Nat) : Int) := by decide +kernel
theorem and_none : ∀ a : Nat, a < 256 → bits .and .u8 (a : Int) 0 = ((0 : Nat) : Int) := by decide +kernel

theorem mul_bits {a b p : Nat} (ha : a < 256) (hb : b < 256) (hp : p < 256) :
    bits .xor .u8 (p : Int) (bits .and .u8 (a : Int) (-bits .and .u8 (b : Int) 1 % 256)) = ((p ^^^ (if b.testBit 0 then a else 0) : Nat) : Int) := by
  rw [low_bit b hb]
  cases h : b.testBit 0
  · rw [if_neg (by simp), if_neg (by simp), and_none a ha, xor_nat hp (by decide)]
  · rw [if_pos rfl, if_pos rfl, and_all a ha, xor_nat hp ha]

theorem mul_any (a b : Nat) (w : World) (ha : a < 256) (hb : b < 256) :
    Calls Try.prog 56 #[.int .u8 a, .int .u8 b] w fun e w' => e = .returned (.int .u8 (mul a b : Nat)) ∧ w = w' := by
  go_enter Try.func56, Try.ntmps56
  go_wp2
  go_loop [0, 1, 5] (fun x y p => ∃ k a' b' p' : Nat, a' < 256 ∧ p' < 256 ∧ b' < 2 ^ k ∧ k ≤ 8 ∧ x = .int .u8 (a' : Int) ∧ y = .int .u8 (b' : Int) ∧ p = .int .u8 (p' : Int) ∧ p' ^^^ gmul k a' b' = mul a b) (fun _ y _ => (intOf y).toNat)
  case atStart => exact ⟨8, a, b, 0, ha, by decide, hb, by decide, rfl, rfl, rfl, Nat.zero_xor _⟩
  case round =>
    obtain ⟨k, a', b', p', ha', hp', hb', hk, rfl, rfl, rfl, hrel⟩ := hrel
    have HR := hid hrel
    clear hrel
    by_cases h0 : b' = 0
    · subst h0
      go_wp2
      go_ret
      exact ⟨ret_int (by rw [← HR.out, gmul_zero, Nat.xor_zero]), rfl⟩
    · have hb8 : b' < 256 := Nat.lt_of_lt_of_le hb' (Nat.pow_le_pow_right (n := 2) (by decide) hk)
      have HB := hid (mul_bits ha' hb8 hp')
      go_wp2_with fail
      refine (double_any a' _ ha').mono ?_
      rintro e w' ⟨rfl, rfl⟩
      go_wp2
      go_round
      case rel =>
        rcases k with _ | k
        · exact absurd hb' (by simp; omega)
        · refine ⟨k, dbl a', b' / 2, p' ^^^ (if b'.testBit 0 then a' else 0), dbl_lt a' ha', xor_lt256 hp' (by split <;> omega), by rw [Nat.pow_succ] at hb'; omega, by omega, rfl, rfl, by rw [HB.out], ?_⟩
          rw [← HR.out, Nat.xor_assoc]
          rfl
      case measure => simp [intOf]; omega

theorem low_bit32 (n : Nat) (h : n < 2 ^ 32) : bits .and .u32 (n : Int) 1 = ((n % 2 : Nat) : Int) := by
  have := u32_and (n : Int) 1 (by omega) (by omega) (by decide) (by decide)
  rw [this]
  simp [Nat.and_one_is_mod]

theorem power_any (a n : Nat) (w : World) (ha : a < 256) (hn : n < 2 ^ 32) :
    Calls Try.prog 52 #[.int .u8 a, .int .u32 n] w fun e w' => e = .returned (.int .u8 (pw a n : Nat)) ∧ w = w' := by
  go_enter Try.func52, Try.ntmps52
  go_wp2
  go_loop [0, 1, 5] (fun x y p => ∃ a' n' p' : Nat, a' < 256 ∧ p' < 256 ∧ n' < 2 ^ 32 ∧ x = .int .u8 (a' : Int) ∧ y = .int .u32 (n' : Int) ∧ p = .int .u8 (p' : Int) ∧ mul p' (pw a' n') = pw a n) (fun _ y _ => (intOf y).toNat)
  case atStart => exact ⟨a, n, 1, ha, by decide, hn, rfl, rfl, rfl, one_mul _ (pw_lt ha n)⟩
  case round =>
    obtain ⟨a', n', p', ha', hp', hn', rfl, rfl, rfl, hrel⟩ := hrel
    have HR := hid hrel
    clear hrel
    by_cases h0 : n' = 0
    · subst h0
      go_wp2
      go_ret
      exact ⟨ret_int (by rw [← HR.out]; show ((p' : Nat) : Int) = ((mul p' 1 : Nat) : Int); rw [mul_one p' hp']), rfl⟩
    · have HL := hid (low_bit32 n' hn')
      have HS := hid (pw_step ha' hp' n')
      rcases (show n' % 2 = 0 ∨ n' % 2 = 1 from by omega) with h | h
      · have hz : bits .and .u32 (n' : Int) 1 = 0 := by rw [HL.out, h]; rfl
        have H := hid h
        clear h
        go_wp2_with fail
        refine (mul_any _ _ _ ha' ha').mono ?_
        rintro e w' ⟨rfl, rfl⟩
        go_wp2
        go_round
        case rel =>
          refine ⟨mul a' a', n' / 2, p', mul_lt a' ha', hp', by omega, rfl, rfl, rfl, ?_⟩
          rw [← HR.out, ← HS.out, bit0, if_neg (by simp [H.out])]
        case measure => simp [intOf]; omega
      · have hz : bits .and .u32 (n' : Int) 1 = 1 := by rw [HL.out, h]; rfl
        have H := hid h
        clear h
        go_wp2_with fail
        refine (mul_any _ _ _ hp' ha').mono ?_
        rintro e w' ⟨rfl, rfl⟩
        go_wp2_with fail
        refine (mul_any _ _ _ ha' ha').mono ?_
        rintro e w' ⟨rfl, rfl⟩
        go_wp2
        go_round
        case rel =>
          refine ⟨mul a' a', n' / 2, mul p' a', mul_lt a' ha', mul_lt a' hp', by omega, rfl, rfl, rfl, ?_⟩
          rw [← HR.out, ← HS.out, bit0, if_pos (by simp [H.out])]
        case measure => simp [intOf]; omega

theorem inv_any (a : Nat) (w : World) (ha : a < 256) :
    Calls Try.prog 40 #[.int .u8 a] w fun e w' => e = .returned (.int .u8 (inv a : Nat)) ∧ w = w' := by
  go_enter Try.func40, Try.ntmps40
  go_wp2_with fail
  refine (power_any a 254 _ ha (by decide)).mono ?_
  rintro e w' ⟨rfl, rfl⟩
  go_wp2
  go_ret
  exact ⟨ret_int (by rw [inv_pw ha]), rfl⟩

theorem and_seven : bits .and .u64 1 7 = 1 ∧ bits .and .u64 2 7 = 2 ∧ bits .and .u64 3 7 = 3 ∧ bits .and .u64 4 7 = 4 ∧ bits .and .u64 6 7 = 6 := by decide +kernel

theorem rot1 : ∀ x : Nat, x < 256 → bits .or .u8 ((x : Int) * 2 % 256) ((x : Int) / 128) = ((rot x 1 : Nat) : Int) := by decide +kernel
theorem rot2 : ∀ x : Nat, x < 256 → bits .or .u8 ((x : Int) * 4 % 256) ((x : Int) / 64) = ((rot x 2 : Nat) : Int) := by decide +kernel
theorem rot3 : ∀ x : Nat, x < 256 → bits .or .u8 ((x : Int) * 8 % 256) ((x : Int) / 32) = ((rot x 3 : Nat) : Int) := by decide +kernel
theorem rot4 : ∀ x : Nat, x < 256 → bits .or .u8 ((x : Int) * 16 % 256) ((x : Int) / 16) = ((rot x 4 : Nat) : Int) := by decide +kernel
theorem rot6 : ∀ x : Nat, x < 256 → bits .or .u8 ((x : Int) * 64 % 256) ((x : Int) / 4) = ((rot x 6 : Nat) : Int) := by decide +kernel

theorem rot_any (x k : Nat) (w : World) (hx : x < 256) (hk : k = 1 ∨ k = 2 ∨ k = 3 ∨ k = 4 ∨ k = 6) :
    Calls Try.prog 41 #[.int .u8 x, .int .i64 k] w fun e w' => e = .returned (.int .u8 (rot x k : Nat)) ∧ w = w' := by
  obtain ⟨h1, h2, h3, h4, h6⟩ := and_seven
  rcases hk with rfl | rfl | rfl | rfl | rfl
  all_goals
    go_enter Try.func41, Try.ntmps41
    go_wp2
    go_ret
    exact ⟨ret_int (by first | exact rot1 x hx | exact rot2 x hx | exact rot3 x hx | exact rot4 x hx | exact rot6 x hx), rfl⟩

theorem sub_bits : ∀ b : Nat, b < 256 →
    bits .xor .u8 (bits .xor .u8 (bits .xor .u8 (bits .xor .u8 (bits .xor .u8 (b : Int) ((rot b 1 : Nat) : Int)) ((rot b 2 : Nat) : Int)) ((rot b 3 : Nat) : Int)) ((rot b 4 : Nat) : Int)) 99 = ((aff b : Nat) : Int) := by decide +kernel

theorem sub_any (a : Nat) (w : World) (ha : a < 256) :
    Calls Try.prog 28 #[.int .u8 a] w fun e w' => e = .returned (.int .u8 (sub a : Nat)) ∧ w = w' := by
  go_enter Try.func28, Try.ntmps28
  go_wp2_with fail
  refine (inv_any a _ ha).mono ?_
  rintro e w' ⟨rfl, rfl⟩
  go_wp2_with fail
  refine (rot_any _ 1 _ (inv_lt ha) (by decide)).mono ?_
  rintro e w' ⟨rfl, rfl⟩
  go_wp2_with fail
  refine (rot_any _ 2 _ (inv_lt ha) (by decide)).mono ?_
  rintro e w' ⟨rfl, rfl⟩
  go_wp2_with fail
  refine (rot_any _ 3 _ (inv_lt ha) (by decide)).mono ?_
  rintro e w' ⟨rfl, rfl⟩
  go_wp2_with fail
  refine (rot_any _ 4 _ (inv_lt ha) (by decide)).mono ?_
  rintro e w' ⟨rfl, rfl⟩
  go_wp2
  go_ret
  exact ⟨ret_int (sub_bits _ (inv_lt ha)), rfl⟩
end Go.Proofs.Ytadpnkecdjleiaa
