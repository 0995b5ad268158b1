/-
  Numbers in groups of seven bits, as lists. No program.
-/
import Derived.Test.YtlbhoijjbpjmoaaKa
namespace Go.Proofs.Ytlbhoijjbpjmoaa
open Go.RowKit

/-- A number's bytes. -/
def numL (n : Nat) : List Int := if h : n < 128 then [((n : Nat) : Int)] else ((n % 128 + 128 : Nat) : Int) :: numL (n / 128)
termination_by n
decreasing_by omega
theorem numL_one {n : Nat} (h : n < 128) : numL n = [((n : Nat) : Int)] := by rw [numL, dif_pos h]
theorem numL_more {n : Nat} (h : ¬ n < 128) : numL n = ((n % 128 + 128 : Nat) : Int) :: numL (n / 128) := by rw [numL, dif_neg h]
theorem numL_oct (n : Nat) : Oct (numL n) := by
  induction n using Nat.strongRecOn with
  | _ n ih =>
    intro x hx
    by_cases h : n < 128
    · rw [numL_one h, List.mem_singleton] at hx
      omega
    · rw [numL_more h, List.mem_cons] at hx
      rcases hx with rfl | hx
      · omega
      · exact ih _ (by omega) x hx
theorem numL_pos (n : Nat) : 0 < (numL n).length := by
  by_cases h : n < 128
  · rw [numL_one h]; exact Nat.one_pos
  · rw [numL_more h]; exact Nat.succ_pos _
theorem numL_len (k : Nat) : ∀ n, n < 128 ^ (k + 1) → (numL n).length ≤ k + 1 := by
  induction k with
  | zero => intro n h; rw [numL_one (by omega)]; exact Nat.le_refl _
  | succ k ih =>
    intro n h
    by_cases h1 : n < 128
    · rw [numL_one h1]; exact Nat.succ_le_succ (Nat.zero_le _)
    · rw [numL_more h1, List.length_cons]
      have := ih (n / 128) (by rw [Nat.div_lt_iff_lt_mul (by decide)]; rwa [← Nat.pow_succ])
      omega
theorem numL_ten {n : Nat} (h : n < 2 ^ 64) : (numL n).length ≤ 10 := numL_len 9 n (Nat.lt_of_lt_of_le h (by decide))
/-- The greater number has no fewer. -/
theorem numL_mono : ∀ n m, n ≤ m → (numL n).length ≤ (numL m).length := by
  intro n
  induction n using Nat.strongRecOn with
  | _ n ih =>
    intro m h
    by_cases h1 : n < 128
    · rw [numL_one h1]; exact numL_pos m
    · rw [numL_more h1, numL_more (show ¬ m < 128 by omega), List.length_cons, List.length_cons]
      have := ih (n / 128) (by omega) (m / 128) (Nat.div_le_div_right h)
      omega

/-- What stands at the beginning of xs: the number, how many bytes, the fault: i bytes stand ahead, which make n. -/
def tkn : List Int → Nat → Nat → Nat × Nat × Int
  | [], _, _ => (0, 0, 4)
  | x :: r, i, n =>
    if i = 9 ∧ 1 < x then (0, 0, eRange) else
    if 128 ≤ x then tkn r (i + 1) (n + (x.toNat % 128) * 128 ^ i) else
    if x = 0 ∧ 0 < i then (0, 0, eForm) else (n + (x.toNat % 128) * 128 ^ i, i + 1, 0)
where eRange : Int := 6
      eForm : Int := 5

/-- A number's bytes are read as it. -/
theorem tkn_numL (r : List Int) : ∀ n i a, n * 128 ^ i < 2 ^ 64 → (0 < i → 0 < n) → tkn (numL n ++ r) i a = (a + n * 128 ^ i, i + (numL n).length, 0) := by
  intro n
  induction n using Nat.strongRecOn with
  | _ n ih =>
    intro i a hn h0
    have hi : i = 9 → n ≤ 1 := fun e => by
      subst e
      have : (128 : Nat) ^ 9 = 2 ^ 63 := by decide
      rw [this] at hn
      omega
    by_cases h : n < 128
    · rw [numL_one h, List.singleton_append, tkn, if_neg (by omega), if_neg (by omega), if_neg (by omega), Int.toNat_natCast, Nat.mod_eq_of_lt h]
      rfl
    · have h9 : i ≠ 9 := fun e => by have := hi e; omega
      rw [numL_more h, List.cons_append, tkn, if_neg (by omega), if_pos (by omega), Int.toNat_natCast, show (n % 128 + 128) % 128 = n % 128 by omega]
      have hd := Nat.div_add_mod n 128
      have e : n * 128 ^ i = n / 128 * 128 ^ (i + 1) + n % 128 * 128 ^ i := by
        rw [Nat.pow_succ, ← Nat.mul_assoc, Nat.mul_right_comm, ← Nat.add_mul, Nat.mul_comm (n / 128), hd]
      rw [ih (n / 128) (by omega) (i + 1) _ (by rw [e] at hn; omega) (fun _ => by omega), List.length_cons, e]
      refine Prod.ext ?_ (Prod.ext ?_ rfl)
      · show _ + _ + _ = _ + (_ + _); omega
      · show _ + _ + _ = _ + (_ + _); omega
/-- A number's bytes, cut short, end too early. -/
theorem tkn_cut : ∀ n i a m, n * 128 ^ i < 2 ^ 64 → m < (numL n).length → tkn ((numL n).take m) i a = (0, 0, 4) := by
  intro n
  induction n using Nat.strongRecOn with
  | _ n ih =>
    intro i a m hn hm
    match m with
    | 0 => rw [List.take_zero]; rfl
    | m + 1 =>
      by_cases h : n < 128
      · rw [numL_one h] at hm; simp at hm
      · have h9 : i ≠ 9 := fun e => by
          subst e
          have : (128 : Nat) ^ 9 = 2 ^ 63 := by decide
          rw [this] at hn
          omega
        rw [numL_more h, List.length_cons] at hm
        rw [numL_more h, List.take_succ_cons, tkn, if_neg (by omega), if_pos (by omega)]
        refine ih (n / 128) (by omega) (i + 1) _ m ?_ (by omega)
        have hd := Nat.div_add_mod n 128
        have e : n * 128 ^ i = n / 128 * 128 ^ (i + 1) + n % 128 * 128 ^ i := by
          rw [Nat.pow_succ, ← Nat.mul_assoc, Nat.mul_right_comm, ← Nat.add_mul, Nat.mul_comm (n / 128), hd]
        rw [e] at hn
        omega
/-- What was read without a fault is the number's own bytes. -/
theorem numL_tkn : ∀ (xs : List Int) (i a N k : Nat), Oct xs → i ≤ 9 → tkn xs i a = (N, k, 0) → ∃ n, N = a + n * 128 ^ i ∧ k = i + (numL n).length ∧ numL n = xs.take (k - i) ∧ n * 128 ^ i < 2 ^ 64 ∧ (0 < i → 0 < n) ∧ k ≤ i + xs.length := by
  intro xs
  induction xs with
  | nil => intro i a N k _ _ h; simp [tkn] at h
  | cons x r ih =>
    intro i a N k ho hi9 h
    have hx := ho x (List.mem_cons_self ..)
    rw [tkn] at h
    by_cases h1 : i = 9 ∧ 1 < x
    · rw [if_pos h1] at h
      have : tkn.eRange = 0 := (Prod.mk.inj (Prod.mk.inj h).2).2
      exact absurd this (by decide)
    · rw [if_neg h1] at h
      have hx9 : i = 9 → x ≤ 1 := fun e => by have := fun hh => h1 ⟨e, hh⟩; omega
      by_cases h2 : 128 ≤ x
      · rw [if_pos h2] at h
        have h9 : i ≠ 9 := fun e => by have := hx9 e; omega
        obtain ⟨n, hN, hk, ht, hb, hp, hl⟩ := ih (i + 1) _ N k (fun y hy => ho y (List.mem_cons_of_mem _ hy)) (by omega) h
        have hn0 := hp (by omega)
        have hm : (x.toNat % 128 + 128 * n) % 128 = x.toNat % 128 := by omega
        have hd : (x.toNat % 128 + 128 * n) / 128 = n := by omega
        have e : (x.toNat % 128 + 128 * n) * 128 ^ i = x.toNat % 128 * 128 ^ i + n * 128 ^ (i + 1) := by
          rw [Nat.add_mul, Nat.pow_succ, Nat.mul_comm (128 ^ i) 128, ← Nat.mul_assoc, Nat.mul_comm n 128]
        have hnum : numL (x.toNat % 128 + 128 * n) = x :: numL n := by
          rw [numL_more (by omega), hm, hd]
          congr 1
          omega
        refine ⟨x.toNat % 128 + 128 * n, by rw [e, hN]; omega, by rw [hnum, List.length_cons, hk]; omega, ?_, ?_, fun _ => by omega, by rw [List.length_cons]; omega⟩
        · rw [hnum, ht, show k - i = (k - (i + 1)) + 1 by omega, List.take_succ_cons]
        · obtain ⟨q, hq⟩ : 128 ^ (i + 1) ∣ 2 ^ 64 := by
            rw [show (128 : Nat) = 2 ^ 7 from rfl, ← Nat.pow_mul]
            exact Nat.pow_dvd_pow 2 (by omega)
          rw [hq, Nat.mul_comm n] at hb
          have hnq := Nat.lt_of_mul_lt_mul_left hb
          rw [hq]
          have h3 : (x.toNat % 128 + 128 * n) * 128 ^ i < (128 * q) * 128 ^ i := Nat.mul_lt_mul_of_pos_right (by omega) (Nat.pow_pos (by decide))
          rw [Nat.pow_succ]
          have h4 : 128 * q * 128 ^ i = 128 ^ i * 128 * q := by rw [Nat.mul_comm, ← Nat.mul_assoc]
          omega
      · rw [if_neg h2] at h
        by_cases h3 : x = 0 ∧ 0 < i
        · rw [if_pos h3] at h
          have : tkn.eForm = 0 := (Prod.mk.inj (Prod.mk.inj h).2).2
          exact absurd this (by decide)
        · rw [if_neg h3] at h
          obtain ⟨e1, e2⟩ := Prod.mk.inj h
          have e3 := (Prod.mk.inj e2).1
          refine ⟨x.toNat, ?_, ?_, ?_, ?_, fun hh => ?_, ?_⟩
          · rw [← e1, Nat.mod_eq_of_lt (by omega)]
          · rw [numL_one (by omega), ← e3]; rfl
          · rw [numL_one (by omega), ← e3, show i + 1 - i = 1 by omega, List.take_succ_cons, List.take_zero]
            congr 1
            omega
          · by_cases h9 : i = 9
            · have := hx9 h9
              rw [h9, show (128 : Nat) ^ 9 = 2 ^ 63 by decide]
              omega
            · have : (128 : Nat) ^ i ≤ 128 ^ 8 := Nat.pow_le_pow_right (by decide) (by omega)
              have h8 : (128 : Nat) ^ 8 = 2 ^ 56 := by decide
              have hxx : x.toNat ≤ 127 := by omega
              have := Nat.mul_le_mul hxx this
              omega
          · have := fun h0 => h3 ⟨h0, hh⟩
            omega
          · rw [List.length_cons]; omega
end Go.Proofs.Ytlbhoijjbpjmoaa
