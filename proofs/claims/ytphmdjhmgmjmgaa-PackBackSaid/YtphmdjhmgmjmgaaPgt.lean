/-
  The program's pack: number.
-/
import Derived.Test.YtphmdjhmgmjmgaaPt
import Derived.Test.YtphmdjhmgmjmgaaPgn
namespace Go.Proofs.Ytphmdjhmgmjmgaa
open Go.RowKit
set_option linter.unusedVariables false
set_option linter.unusedSimpArgs false

theorem and_low7b : ∀ x : Nat, x < 256 → bits .and .u8 (x : Int) 127 = ((x % 128 : Nat) : Int) := by decide +kernel

set_option maxHeartbeats 4000000 in
set_option maxRecDepth 100000 in
theorem number_of (p : Option Addr) (cap n : Nat) (xs : List Int) (w : World) (hp : Bin w p xs) (ho : Oct xs) (hl : xs.length = n) (hm : n ≤ 140737488351232) :
    Calls Try.prog 28 #[.slice p n cap] w fun e w' => e = .returned (.tuple #[.int .u64 ((tkn xs 0 0).1 : Nat), .int .i64 ((tkn xs 0 0).2.1 : Nat), .int .i64 (tkn xs 0 0).2.2]) ∧ w = w' := by
  obtain ⟨T, hT⟩ : ∃ T, Hid (T = tkn xs 0 0) := ⟨_, rfl⟩
  rw [← hT.out]
  have HL := hid hl
  clear hl
  go_enter Try.func28, Try.ntmps28
  go_wp2
  go_loop [2, 9] (fun m i => ∃ k a : Nat, k ≤ n ∧ k ≤ 9 ∧ i = .int .i64 (k : Int) ∧ m = .int .u64 (a : Int) ∧ a < 128 ^ k ∧ Hid (tkn (xs.drop k) k a = T)) (fun _ i => n - (intOf i).toNat)
  case atStart => exact ⟨0, 0, Nat.zero_le _, Nat.zero_le _, rfl, rfl, by decide, by rw [List.drop_zero]; exact hid hT.out.symm⟩
  case round =>
    obtain ⟨k, a, hk, hk9, rfl, rfl, ha, HK⟩ := hrel
    by_cases hlt : k < n
    · obtain ⟨b, o, rfl, _, hc⟩ := hp.at (by rw [HL.out]; omega)
      have hck := hc k (by rw [HL.out]; exact hlt)
      have hd := getD_cons_drop (xs := xs) (k := k) (by rw [HL.out]; exact hlt)
      obtain ⟨x, hx, hxe⟩ : ∃ x : Nat, x < 256 ∧ xs.getD k 0 = (x : Int) := by
        have := ho.at k
        exact ⟨(xs.getD k 0).toNat, by omega, by omega⟩
      rw [hxe] at hck hd
      have hkn : (k : Int) < (n : Int) := by omega
      have h128 : ∀ j, j ≤ 9 → (128 : Nat) ^ j ≤ 2 ^ 63 := fun j hj => Nat.le_trans (Nat.pow_le_pow_right (by decide) hj) (by decide)
      have h8 : ∀ j, j ≤ 8 → (128 : Nat) ^ j ≤ 2 ^ 56 := fun j hj => Nat.le_trans (Nat.pow_le_pow_right (by decide) hj) (by decide)
      have HT2 := HK.out
      rw [hd, tkn, Int.toNat_natCast] at HT2
      obtain ⟨z, hz⟩ : ∃ z, z = x % 128 := ⟨_, rfl⟩
      obtain ⟨P, hP⟩ : ∃ P, P = 128 ^ k := ⟨_, rfl⟩
      have hPP : k ≤ 8 → P * 128 = 128 ^ (k + 1) := fun _ => by rw [hP, Nat.pow_succ]
      have hP9 : P ≤ 2 ^ 63 := by rw [hP]; exact h128 k hk9
      have hP8 : k ≤ 8 → P ≤ 2 ^ 56 := fun h => by rw [hP]; exact h8 k h
      rw [← hP, ← hz] at HT2
      rw [← hP] at ha
      have hz1 : z < 128 := by omega
      by_cases h1 : k = 9 ∧ 1 < x
      · rw [if_pos (by omega)] at HT2
        subst HT2
        obtain ⟨h9, h91⟩ := h1
        subst h9
        have e2 : (1 : Int) < (x : Int) := by omega
        clear HK hd hc hz hP ha hPP hP9 hP8 hz1 h128 h8
        go_wp2
        go_ret3
        exact ⟨rfl, rfl⟩
      · rw [if_neg (by omega)] at HT2
        have hx9 : k = 9 → x ≤ 1 := fun e => by omega
        obtain ⟨S, hS⟩ : ∃ S, S = z * P := ⟨_, rfl⟩
        have hS1 : a + S < 2 ^ 64 := by
          by_cases h9 : k = 9
          · have : z ≤ 1 := by have := hx9 h9; omega
            have := Nat.mul_le_mul this (Nat.le_refl P)
            omega
          · have := hP8 (by omega)
            have h5 : z * P ≤ 127 * P := Nat.mul_le_mul (by omega) (Nat.le_refl P)
            omega
        have hS2 : S + P ≤ 128 * P := by rw [hS]; have h5 : z * P ≤ 127 * P := Nat.mul_le_mul (by omega) (Nat.le_refl P); omega
        rw [← hS] at HT2
        obtain ⟨N, hN⟩ : ∃ N, N = a + S := ⟨_, rfl⟩
        rw [← hN] at HT2
        have f1 : bits .and .u8 (x : Int) 127 = (z : Int) := by rw [hz]; exact and_low7b x hx
        have hPe : P = 2 ^ (7 * k) := by rw [hP, Nat.pow_mul]
        have f3 : bits .or .u64 (a : Int) (S : Int) = (N : Int) := by
          rw [u64_or_nat a S (by omega) (by omega), Nat.or_comm, nat_join (7 * k) S a (by rw [hS, hPe]; exact Nat.mul_mod_left _ _) (by rw [← hPe]; exact ha), hN, Nat.add_comm]
        have i7 : IntKind.i64.wrap (7 * (k : Int)) = 7 * (k : Int) := by simp [IntKind.wrap, IntKind.signed, IntKind.bits]; omega
        have f0 : IntKind.u64.wrap (z : Int) = (z : Int) := u64_wrap (by omega)
        have f2 : IntKind.u64.wrap ((z : Int) * 2 ^ (7 * k)) = (S : Int) := by
          have e : (z : Int) * 2 ^ (7 * k) = ((z * 2 ^ (7 * k) : Nat) : Int) := by simp
          rw [e, ← hPe, ← hS]
          exact u64_wrap (by omega)
        have hNx : x = 0 → N = a := fun h => by
          have : S = 0 := by rw [hS, show z = 0 by omega, Nat.zero_mul]
          omega
        have HN := hid hNx
        clear hNx
        have HPP := hid hPP
        have HX := hid (And.intro hS1 (And.intro hS2 (And.intro hN ha)))
        clear HK hd hc hP hS hN ha hPP hP9 hP8 hz1 h128 h8 hS2 HL hx9 ho hPe hS1 hz
        by_cases h9 : k = 9
        · have e2 : ¬ (1 : Int) < (x : Int) := by omega
          have e3 : ¬ (128 : Int) ≤ (x : Int) := by omega
          have f4 : IntKind.u64.wrap ((z : Int) * 9223372036854775808) = (S : Int) := by
            rw [← f2, h9]
            congr 1
          clear f2
          rw [if_neg (by omega)] at HT2
          by_cases h0 : x = 0
          · rw [if_pos (by omega)] at HT2
            have e4 : (x : Int) = 0 := by omega
            subst HT2 h9
            clear h0
            go_wp2
            go_ret3
            exact ⟨rfl, rfl⟩
          · have e4 : ¬ (x : Int) = 0 := by omega
            rw [if_neg (by omega)] at HT2
            subst HT2 h9
            go_wp2
            go_ret3
            exact ⟨rfl, rfl⟩
        · have e1 : ¬ (k : Int) = 9 := by omega
          by_cases h3 : 128 ≤ x
          · have e3 : (128 : Int) ≤ (x : Int) := by omega
            rw [if_pos (by omega)] at HT2
            have HTT := hid HT2
            clear HT2
            go_wp2
            go_round
            case rel => exact ⟨k + 1, N, by omega, by omega, by go_num, rfl, by have := HX.out; have := HPP.out (by omega); omega, HTT⟩
            case measure => simp [intOf]; omega
          · have e3 : ¬ (128 : Int) ≤ (x : Int) := by omega
            rw [if_neg (by omega)] at HT2
            by_cases h0 : x = 0
            · have e4 : (x : Int) = 0 := by omega
              by_cases hk0 : 0 < k
              · have e5 : (0 : Int) < (k : Int) := by omega
                rw [if_pos (by omega)] at HT2
                subst HT2
                clear h0
                go_wp2
                go_ret3
                exact ⟨rfl, rfl⟩
              · have e5 : ¬ (0 : Int) < (k : Int) := by omega
                rw [if_neg (by omega)] at HT2
                subst HT2
                clear h0
                have hk0' : k = 0 := by omega
                have f5 : bits .and .u8 0 127 = (z : Int) := by rw [← e4]; exact f1
                have HK0 := hid hk0'
                clear hk0' hk0
                go_wp2
                go_ret3
                exact ⟨rfl, rfl⟩
            · have e4 : ¬ (x : Int) = 0 := by omega
              rw [if_neg (by omega)] at HT2
              subst HT2
              go_wp2
              go_ret3
              exact ⟨rfl, rfl⟩
    · obtain rfl : k = n := by omega
      have hz : tkn (xs.drop k) k a = (0, 0, 4) := by rw [List.drop_of_length_le (by rw [HL.out]; omega)]; rfl
      have HZ := HK.out
      rw [hz] at HZ
      subst HZ
      clear hz
      go_wp2
      go_ret3
      exact ⟨rfl, rfl⟩
end Go.Proofs.Ytphmdjhmgmjmgaa
