/-
  The walks of GaloisField, GaloisPowers and GaloisThere.
-/
import Derived.Test.YtijgnlocpkandaaGmul
namespace Go.Proofs.Ytijgnlocpkandaa
open Go.RowKit

theorem nat_of_u8 {x : Int} (h : (Lit.int .u8 x).wf = true) : ∃ n : Nat, x = (n : Int) ∧ n < 256 := by
  have := u8_of_wf h
  exact ⟨x.toNat, by omega, by omega⟩
theorem nat_of_u16 {x : Int} (h : (Lit.int .u16 x).wf = true) : ∃ n : Nat, x = (n : Int) ∧ n < 65536 := by
  have : 0 ≤ x ∧ x ≤ 65535 := by simpa [Lit.wf, IntKind.min, IntKind.max, IntKind.signed, IntKind.bits] using h
  exact ⟨x.toNat, by omega, by omega⟩
theorem nat_of_u32 {x : Int} (h : (Lit.int .u32 x).wf = true) : ∃ n : Nat, x = (n : Int) ∧ n < 2 ^ 32 := by
  have : 0 ≤ x ∧ x ≤ 4294967295 := by simpa [Lit.wf, IntKind.min, IntKind.max, IntKind.signed, IntKind.bits] using h
  exact ⟨x.toNat, by omega, by omega⟩

theorem below_rfl {w w' : World} (h : w = w') : Below w.heap.size w w' := by subst h; exact Below.refl _ _

set_option maxHeartbeats 1000000 in
theorem field_law (a0 a1 a2 : Int) (w : World) (h0 : (Lit.int .u8 a0).wf = true) (h1 : (Lit.int .u8 a1).wf = true) (h2 : (Lit.int .u8 a2).wf = true) :
    Calls Try.prog 9 #[.int .u8 a0, .int .u8 a1, .int .u8 a2] w fun e w' => e = .returned (.bool true) ∧ Below w.heap.size w w' := by
  obtain ⟨a, rfl, ha⟩ := nat_of_u8 h0
  obtain ⟨b, rfl, hb⟩ := nat_of_u8 h1
  obtain ⟨c, rfl, hc⟩ := nat_of_u8 h2
  clear h0 h1 h2
  have hbc : bits .xor .u8 (b : Int) (c : Int) = ((b ^^^ c : Nat) : Int) := xor_nat hb hc
  have HC := hid (mul_comm ha hb)
  have HA := hid (mul_assoc ha hb hc)
  have HX := hid (show bits .xor .u8 ((mul a b : Nat) : Int) ((mul a c : Nat) : Int) = ((mul a (b ^^^ c) : Nat) : Int) from by rw [xor_nat (mul_lt b ha) (mul_lt c ha), mul_right])
  have H1 := hid (mul_one a ha)
  have HZ := hid (@mul_ne a b ha hb)
  have HI := hid (show mul a (inv a) = if a = 0 then 0 else 1 from by
    split
    · rename_i h; rw [h]; exact zero_mul _ (inv_lt (by decide))
    · rename_i h; exact mul_inv_all a ha h)
  go_enter Try.func9, Try.ntmps9
  go_wp2_with fail
  refine (mul_any a b _ ha hb).mono ?_
  rintro e w' ⟨rfl, rfl⟩
  go_wp2_with fail
  refine (mul_any b a _ hb ha).mono ?_
  rintro e w' ⟨rfl, rfl⟩
  rw [← HC.out]
  go_wp2_with fail
  refine (mul_any (mul a b) c _ (mul_lt b ha) hc).mono ?_
  rintro e w' ⟨rfl, rfl⟩
  go_wp2_with fail
  refine (mul_any b c _ hb hc).mono ?_
  rintro e w' ⟨rfl, rfl⟩
  go_wp2_with fail
  refine (mul_any a (mul b c) _ ha (mul_lt c hb)).mono ?_
  rintro e w' ⟨rfl, rfl⟩
  rw [← HA.out]
  go_wp2_with fail
  refine (mul_any a (b ^^^ c) _ ha (xor_lt256 hb hc)).mono ?_
  rintro e w' ⟨rfl, rfl⟩
  go_wp2_with fail
  refine (mul_any a c _ ha hc).mono ?_
  rintro e w' ⟨rfl, rfl⟩
  go_wp2_with fail
  refine (inv_any a _ ha).mono ?_
  rintro e w' ⟨rfl, rfl⟩
  go_wp2_with fail
  rw [HX.out]
  refine (mul_any a (inv a) _ ha (inv_lt ha)).mono ?_
  rintro e w' ⟨rfl, rfl⟩
  rw [HI.out]
  have fin : ∀ w : World, Calls Try.prog 13 #[.int .u8 a, .int .u8 1] w fun e w' => e = .returned (.int .u8 a) ∧ w = w' := fun w => by
    have h := mul_any a 1 w ha (by decide)
    rw [H1.out] at h
    exact h
  by_cases ha0 : a = 0
  · subst ha0
    rw [zero_mul b hb]
    go_wp2_with fail
    refine (fin _).mono ?_
    rintro e w' ⟨rfl, rfl⟩
    go_wp2_with fail
    refine (known_any _).mono ?_
    rintro e w' ⟨rfl, rfl⟩
    go_wp2
    go_ret
    exact ⟨rfl, Below.refl _ _⟩
  · by_cases hb0 : b = 0
    · subst hb0
      rw [mul_zero a]
      go_wp2_with fail
      refine (fin _).mono ?_
      rintro e w' ⟨rfl, rfl⟩
      go_wp2_with fail
      refine (known_any _).mono ?_
      rintro e w' ⟨rfl, rfl⟩
      go_wp2
      go_ret
      exact ⟨ret_bool (by simpa using ha0), Below.refl _ _⟩
    · have hn : mul a b ≠ 0 := fun h => by rcases HZ.out h with h | h; exact ha0 h; exact hb0 h
      go_wp2_with fail
      refine (fin _).mono ?_
      rintro e w' ⟨rfl, rfl⟩
      go_wp2_with fail
      refine (known_any _).mono ?_
      rintro e w' ⟨rfl, rfl⟩
      go_wp2
      go_ret
      exact ⟨ret_bool (by simpa using ha0), Below.refl _ _⟩

set_option maxHeartbeats 1000000 in
theorem powers_law (a0 a1 a2 : Int) (w : World) (h0 : (Lit.int .u8 a0).wf = true) (h1 : (Lit.int .u16 a1).wf = true) (h2 : (Lit.int .u16 a2).wf = true) :
    Calls Try.prog 10 #[.int .u8 a0, .int .u16 a1, .int .u16 a2] w fun e w' => e = .returned (.bool true) ∧ Below w.heap.size w w' := by
  obtain ⟨a, rfl, ha⟩ := nat_of_u8 h0
  obtain ⟨m, rfl, hm⟩ := nat_of_u16 h1
  obtain ⟨n, rfl, hn⟩ := nat_of_u16 h2
  clear h0 h1 h2
  have HS := hid (pw_add ha m n)
  have H1 := hid (pw_one ha)
  have HP := hid (show pw a 255 = if a = 0 then 0 else 1 from by
    split
    · rename_i h; rw [h]; exact pw_zero _ (by decide)
    · rename_i h; exact pw_255 ha h)
  go_enter Try.func10, Try.ntmps10
  go_wp2_with fail
  refine (power_any a m _ ha (by omega)).mono ?_
  rintro e w' ⟨rfl, rfl⟩
  go_wp2_with fail
  refine (power_any a n _ ha (by omega)).mono ?_
  rintro e w' ⟨rfl, rfl⟩
  go_wp2_with fail
  refine (power_any a (m + n) _ ha (by omega)).mono ?_
  rintro e w' ⟨rfl, rfl⟩
  rw [HS.out]
  go_wp2_with fail
  refine (mul_any _ _ _ (pw_lt ha m) (pw_lt ha n)).mono ?_
  rintro e w' ⟨rfl, rfl⟩
  go_wp2_with fail
  refine (power_any a 1 _ ha (by decide)).mono ?_
  rintro e w' ⟨rfl, rfl⟩
  rw [H1.out]
  go_wp2_with fail
  refine (power_any a 255 _ ha (by decide)).mono ?_
  rintro e w' ⟨rfl, rfl⟩
  rw [HP.out]
  by_cases ha0 : a = 0
  · subst ha0
    go_wp2_with fail
    refine (known_any _).mono ?_
    rintro e w' ⟨rfl, rfl⟩
    go_wp2
    go_ret
    exact ⟨rfl, Below.refl _ _⟩
  · go_wp2_with fail
    refine (known_any _).mono ?_
    rintro e w' ⟨rfl, rfl⟩
    go_wp2
    go_ret
    exact ⟨ret_bool (by simpa using ha0), Below.refl _ _⟩

theorem turned_bits : ∀ a : Nat, a < 256 → ¬ ((sub a : Nat) : Int) = bits .xor .u8 IntKind.u8.max (a : Int) := by decide +kernel

set_option maxHeartbeats 1000000 in
theorem there_law (a0 a1 : Int) (w : World) (h0 : (Lit.int .u8 a0).wf = true) (h1 : (Lit.int .u8 a1).wf = true) :
    Calls Try.prog 11 #[.int .u8 a0, .int .u8 a1] w fun e w' => e = .returned (.bool true) ∧ Below w.heap.size w w' := by
  obtain ⟨a, rfl, ha⟩ := nat_of_u8 h0
  obtain ⟨b, rfl, hb⟩ := nat_of_u8 h1
  clear h0 h1
  have HB := hid (back_sub ha)
  have HS := hid (sub_back ha)
  have hs := sub_lt ha
  have hne := (sub_other a ha).1
  have hne2 := turned_bits a ha
  go_enter Try.func11, Try.ntmps11
  go_wp2_with fail
  refine (sub_any a _ ha).mono ?_
  rintro e w' ⟨rfl, rfl⟩
  go_wp2_with fail
  refine (sub_any b _ hb).mono ?_
  rintro e w' ⟨rfl, rfl⟩
  go_wp2_with fail
  refine (back_any (sub a) _ hs).mono ?_
  rintro e w' ⟨rfl, rfl⟩
  rw [HB.out]
  go_wp2_with fail
  refine (back_any a _ ha).mono ?_
  rintro e w' ⟨rfl, rfl⟩
  go_wp2_with fail
  refine (sub_any (back a) _ (back_lt ha)).mono ?_
  rintro e w' ⟨rfl, rfl⟩
  rw [HS.out]
  by_cases hab : a = b
  · subst hab
    go_wp2_with fail
    refine (known_any _).mono ?_
    rintro e w' ⟨rfl, rfl⟩
    go_wp2
    go_ret
    exact ⟨ret_bool (by simp only [Bool.and_eq_true, bne_iff_ne]; exact ⟨by omega, hne2⟩), Below.refl _ _⟩
  · have hsb : sub a ≠ sub b := fun h => hab ((sub_inj ha hb).1 h)
    have hsb2 : (((sub a : Nat) : Int) == ((sub b : Nat) : Int)) = false := by rw [beq_eq_false_iff_ne]; omega
    have hab2 : ((a : Int) == (b : Int)) = false := by rw [beq_eq_false_iff_ne]; omega
    go_wp2_with fail
    refine (known_any _).mono ?_
    rintro e w' ⟨rfl, rfl⟩
    go_wp2
    go_ret
    exact ⟨ret_bool (by simp only [Bool.and_eq_true, bne_iff_ne]; exact ⟨by omega, hne2⟩), Below.refl _ _⟩
end Go.Proofs.Ytijgnlocpkandaa
