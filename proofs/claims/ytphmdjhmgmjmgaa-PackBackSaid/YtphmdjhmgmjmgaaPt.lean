/-
  The document's Taken.
-/
import Derived.Test.YtphmdjhmgmjmgaaPr
namespace Go.Proofs.Ytphmdjhmgmjmgaa
open Go.RowKit
set_option linter.unusedVariables false
set_option linter.unusedSimpArgs false

theorem getD_cons_drop {xs : List Int} {k : Nat} (h : k < xs.length) : xs.drop k = xs.getD k 0 :: xs.drop (k + 1) := by
  rw [List.getD_eq_getElem?_getD, List.getElem?_eq_getElem h]
  exact List.drop_eq_getElem_cons h
theorem u64_wrap {n : Nat} (h : n < 2 ^ 64) : IntKind.u64.wrap ((n : Nat) : Int) = ((n : Nat) : Int) := by
  simp [IntKind.wrap, IntKind.signed, IntKind.bits]
  omega

set_option maxHeartbeats 4000000 in
set_option maxRecDepth 100000 in
theorem refTaken_of (p : Option Addr) (cap n : Nat) (xs : List Int) (w : World) (hp : Bin w p xs) (ho : Oct xs) (hl : xs.length = n) (hm : n ≤ 140737488351232) :
    Calls Try.prog 30 #[.slice p n cap] w fun e w' => e = .returned (.tuple #[.int .u64 ((tkn xs 0 0).1 : Nat), .int .i64 ((tkn xs 0 0).2.1 : Nat), .int .i64 (tkn xs 0 0).2.2]) ∧ w = w' := by
  obtain ⟨T, hT⟩ : ∃ T, Hid (T = tkn xs 0 0) := ⟨_, rfl⟩
  rw [← hT.out]
  have HL := hid hl
  clear hl
  go_enter Try.func30, Try.ntmps30
  go_wp2
  go_loop [5, 6, 7] (fun m b i => ∃ k a : Nat, k ≤ n ∧ k ≤ 9 ∧ i = .int .i64 (k : Int) ∧ m = .int .u64 (a : Int) ∧ b = .int .u64 ((128 ^ k : Nat) : Int) ∧ a < 128 ^ k ∧ Hid (tkn (xs.drop k) k a = T)) (fun _ _ i => n - (intOf i).toNat)
  case atStart => exact ⟨0, 0, Nat.zero_le _, Nat.zero_le _, rfl, rfl, rfl, by decide, by rw [List.drop_zero]; exact hid hT.out.symm⟩
  case round =>
    obtain ⟨k, a, hk, hk9, rfl, rfl, rfl, ha, HK⟩ := hrel
    by_cases hlt : k < n
    · obtain ⟨b, o, rfl, _, hc⟩ := hp.at (by rw [HL.out]; omega)
      have hck := hc k (by rw [HL.out]; exact hlt)
      have hd := getD_cons_drop (xs := xs) (k := k) (by rw [HL.out]; exact hlt)
      obtain ⟨x, hx, hxe⟩ : ∃ x : Nat, x < 256 ∧ xs.getD k 0 = (x : Int) := by
        have := ho.at k
        exact ⟨(xs.getD k 0).toNat, by omega, by omega⟩
      rw [hxe] at hck hd
      have hkn : (k : Int) < (n : Int) := by omega
      have h128 : ∀ j, j ≤ 9 → (128 : Nat) ^ j ≤ 2 ^ 63 := fun j hj => Nat.le_trans (Nat.pow_le_pow_right (by decide) hj) (by decide)
      have h8 : ∀ j, j ≤ 8 → (128 : Nat) ^ j ≤ 2 ^ 56 := fun j hj => Nat.le_trans (Nat.pow_le_pow_right (by decide) hj) (by decide)
      have HT2 := HK.out
      rw [hd, tkn, Int.toNat_natCast] at HT2
      obtain ⟨z, hz⟩ : ∃ z, z = x % 128 := ⟨_, rfl⟩
      obtain ⟨P, hP⟩ : ∃ P, P = 128 ^ k := ⟨_, rfl⟩
      have hPP : k ≤ 8 → P * 128 = 128 ^ (k + 1) := fun _ => by rw [hP, Nat.pow_succ]
      have hP9 : P ≤ 2 ^ 63 := by rw [hP]; exact h128 k hk9
      have hP8 : k ≤ 8 → P ≤ 2 ^ 56 := fun h => by rw [hP]; exact h8 k h
      rw [← hP, ← hz] at HT2
      rw [← hP] at ha ⊢
      have hzz : (x : Int) % 128 = (z : Int) := by omega
      have hz1 : z < 128 := by omega
      by_cases h1 : k = 9 ∧ 1 < x
      · rw [if_pos (by omega)] at HT2
        subst HT2
        obtain ⟨h9, h91⟩ := h1
        subst h9
        have e2 : (1 : Int) < (x : Int) := by omega
        clear HK hd hc hz hP ha hPP hP9 hP8 hz1 hzz h128 h8
        go_wp2
        go_ret3
        exact ⟨rfl, rfl⟩
      · rw [if_neg (by omega)] at HT2
        have hx9 : k = 9 → x ≤ 1 := fun e => by omega
        obtain ⟨S, hS⟩ : ∃ S, S = z * P := ⟨_, rfl⟩
        have hS1 : a + S < 2 ^ 64 := by
          by_cases h9 : k = 9
          · have : z ≤ 1 := by have := hx9 h9; omega
            have := Nat.mul_le_mul this (Nat.le_refl P)
            omega
          · have := hP8 (by omega)
            have h5 : z * P ≤ 127 * P := Nat.mul_le_mul (by omega) (Nat.le_refl P)
            omega
        have hS2 : S + P ≤ 128 * P := by rw [hS]; have h5 : z * P ≤ 127 * P := Nat.mul_le_mul (by omega) (Nat.le_refl P); omega
        rw [← hS] at HT2
        obtain ⟨N, hN⟩ : ∃ N, N = a + S := ⟨_, rfl⟩
        rw [← hN] at HT2
        have f2 : IntKind.u64.wrap ((x : Int) % 128 * (P : Int)) = (S : Int) := by rw [hzz, ← Int.natCast_mul, ← hS]; exact u64_wrap (by omega)
        have f3 : IntKind.u64.wrap ((a : Int) + (S : Int)) = (N : Int) := by rw [← Int.natCast_add, ← hN]; exact u64_wrap (by omega)
        obtain ⟨P2, hP2⟩ : ∃ P2 : Int, P2 = IntKind.u64.wrap ((P : Int) * 128) := ⟨_, rfl⟩
        have f4 : IntKind.u64.wrap ((P : Int) * 128) = P2 := hP2.symm
        have hP3 : k ≤ 8 → P2 = ((128 ^ (k + 1) : Nat) : Int) := fun h => by
          rw [hP2, ← hPP h]
          have := hP8 h
          have e : (P : Int) * 128 = ((P * 128 : Nat) : Int) := by omega
          rw [e]
          exact u64_wrap (by omega)
        have g1 : ¬ ((k : Int) = 9 ∧ (1 : Int) < (x : Int)) := by omega
        have HP3 := hid hP3
        have HPP := hid hPP
        have HD := hid (And.intro hS2 (And.intro hN ha))
        have hSz : S = z * P := hS
        clear HK hd hc hP hS hN ha hPP hP9 hP8 hz1 h128 h8 hS2 hP3 hP2 HL hx9 ho
        have hNa : x = 0 → N = a ∧ IntKind.u64.wrap (a : Int) = (a : Int) := fun h => by
          have h0 : S = 0 := by rw [hSz, show z = 0 by omega, Nat.zero_mul]
          have hN := HD.out.2.1
          exact ⟨by omega, u64_wrap (by omega)⟩
        clear hSz hS1 hzz
        by_cases h9 : k = 9
        · have e2 : ¬ (1 : Int) < (x : Int) := by omega
          have e3 : ¬ (128 : Int) ≤ (x : Int) := by omega
          rw [if_neg (by omega)] at HT2
          by_cases h0 : x = 0
          · rw [if_pos (by omega)] at HT2
            subst HT2 h9 h0
            clear hNa f2 f3 hz
            go_wp2
            go_ret3
            exact ⟨rfl, rfl⟩
          · have e4 : ¬ (x : Int) = 0 := by omega
            rw [if_neg (by omega)] at HT2
            subst HT2 h9
            clear hNa hz
            go_wp2
            go_ret3
            exact ⟨rfl, rfl⟩
        · have e1 : ¬ (k : Int) = 9 := by omega
          by_cases h3 : 128 ≤ x
          · have e3 : (128 : Int) ≤ (x : Int) := by omega
            rw [if_pos (by omega)] at HT2
            have HTT := hid HT2
            clear HT2
            go_wp2
            go_round
            case rel => exact ⟨k + 1, N, by omega, by omega, by go_num, rfl, by rw [HP3.out (by omega)], by have := HD.out; have := HPP.out (by omega); omega, HTT⟩
            case measure => simp [intOf]; omega
          · have e3 : ¬ (128 : Int) ≤ (x : Int) := by omega
            rw [if_neg (by omega)] at HT2
            by_cases h0 : x = 0
            · obtain ⟨rfl, f5⟩ := hNa h0
              by_cases hk0 : 0 < k
              · have e5 : (0 : Int) < (k : Int) := by omega
                rw [if_pos (by omega)] at HT2
                subst HT2 h0
                clear f2 f3 hz
                go_wp2
                go_ret3
                exact ⟨rfl, rfl⟩
              · obtain rfl : k = 0 := by omega
                rw [Nat.add_zero] at hck
                rw [if_neg (by omega)] at HT2
                subst HT2 h0
                clear f2 f3 hz
                go_wp2
                go_ret3
                exact ⟨rfl, rfl⟩
            · have e4 : ¬ (x : Int) = 0 := by omega
              rw [if_neg (by omega)] at HT2
              subst HT2
              go_wp2
              go_ret3
              exact ⟨rfl, rfl⟩
    · obtain rfl : k = n := by omega
      have hz : tkn (xs.drop k) k a = (0, 0, 4) := by rw [List.drop_of_length_le (by rw [HL.out]; omega)]; rfl
      have HZ := HK.out
      rw [hz] at HZ
      subst HZ
      clear hz
      go_wp2
      go_ret3
      exact ⟨rfl, rfl⟩
end Go.Proofs.Ytphmdjhmgmjmgaa
