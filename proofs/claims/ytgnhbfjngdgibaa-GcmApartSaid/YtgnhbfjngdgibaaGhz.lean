/-
  Coefficients and bytes. Stands on no function of the program.
-/
import Derived.Test.YtgnhbfjngdgibaaGhb
namespace Go.Proofs.Ytgnhbfjngdgibaa
open Go.RowKit
set_option linter.unusedVariables false
set_option linter.unusedSimpArgs false

theorem coef_bits (b : Nat → Bool) (j : Nat) (hj : j < 128) : ∀ n, n ≤ 128 → (G.xsum n fun i => G.gate (b i) (2 ^ (127 - i))).testBit (127 - j) = (decide (j < n) && b j)
  | 0, _ => by simp [G.xsum]
  | n + 1, h => by
    rw [G.xsum, Nat.testBit_xor, coef_bits b j hj n (by omega)]
    have e : (G.gate (b n) (2 ^ (127 - n))).testBit (127 - j) = (decide (j = n) && b n) := by
      cases b n
      · simp [G.gate]
      · simp only [G.gate, if_true, Nat.testBit_two_pow, Bool.and_true]
        congr 1
        apply propext
        constructor <;> intro _ <;> omega
    rw [e]
    by_cases h1 : j = n
    · subst h1
      rw [decide_eq_false (show ¬ j < j by omega), decide_eq_true (show j < j + 1 by omega), decide_eq_true rfl]
      simp
    · rw [decide_eq_false h1]
      by_cases h2 : j < n
      · rw [decide_eq_true h2, decide_eq_true (show j < n + 1 by omega)]; simp
      · rw [decide_eq_false h2, decide_eq_false (show ¬ j < n + 1 by omega)]; simp
theorem poly_short {p : Nat → Nat} (h : ∀ j, 128 ≤ j → j < 255 → p j = 0) : poly 255 p = G.xsum 128 fun i => G.gate (decide (p i = 1)) (2 ^ (127 - i)) := by
  have e : ∀ m, m ≤ 127 → poly (128 + m) p = poly 128 p := by
    intro m
    induction m with
    | zero => intro _; rfl
    | succ m ih =>
      intro hm
      have := ih (by omega)
      unfold poly at this ⊢
      rw [← Nat.add_assoc, G.xsum, this, h (128 + m) (by omega) (by omega)]
      simp [G.gate]
  have e2 := e 127 (Nat.le_refl _)
  refine e2.trans (G.xsum_congr fun i hi => by rw [G.D_pow i hi])
theorem coef_of {p : Nat → Nat} {V : Nat} (hp : ∀ j, p j < 2) (h : ∀ j, 128 ≤ j → j < 255 → p j = 0) (hv : poly 255 p = V) (j : Nat) (hj : j < 128) : p j = bitN V j := by
  have e := coef_bits (fun i => decide (p i = 1)) j hj 128 (Nat.le_refl _)
  rw [← poly_short h, hv, ← bitN_bit, decide_eq_true hj, Bool.true_and] at e
  have h1 := hp j
  have h2 := bitN_lt V j
  have e2 : (bitN V j = 1) ↔ (p j = 1) := by simpa using e
  omega

/-- The bytes behind n coefficients. -/
def zc (V n : Nat) (q : Nat) : Nat := if q < n / 8 then by16 V q else if q = n / 8 then V / 2 ^ (128 - n) % 2 ^ (n % 8) else 0
theorem zc_zero (V q : Nat) (hq : q < 16) : zc V 0 q = 0 := by
  unfold zc
  rw [if_neg (by omega)]
  split
  · rw [Nat.zero_mod, Nat.pow_zero, Nat.mod_one]
  · rfl
theorem zc_full (V q : Nat) (hq : q < 16) : zc V 128 q = by16 V q := by
  unfold zc
  rw [if_pos (by omega)]
theorem zc_at (V n : Nat) : zc V n (n / 8) = V / 2 ^ (128 - n) % 2 ^ (n % 8) := by
  unfold zc
  rw [if_neg (by omega), if_pos rfl]
theorem two_mod (W r : Nat) (hr : r < 8) : 2 * (W / 2 % 2 ^ r) + W % 2 = W % 2 ^ (r + 1) := by
  rcases (show r = 0 ∨ r = 1 ∨ r = 2 ∨ r = 3 ∨ r = 4 ∨ r = 5 ∨ r = 6 ∨ r = 7 from by omega) with rfl | rfl | rfl | rfl | rfl | rfl | rfl | rfl <;> simp only [Nat.reducePow, Nat.reduceAdd] <;> omega
theorem zc_new (V n : Nat) (hn : n < 128) : 2 * zc V n (n / 8) + bitN V n = V / 2 ^ (127 - n) % 2 ^ (n % 8 + 1) := by
  have e : V / 2 ^ (128 - n) = V / 2 ^ (127 - n) / 2 := by
    rw [show 128 - n = 127 - n + 1 from by omega, Nat.pow_succ, Nat.div_div_eq_div_mul]
  rw [zc_at, e, bitN]
  exact two_mod _ _ (Nat.mod_lt _ (by decide))
theorem zc_lt (V n : Nat) (hn : n < 128) : 2 * zc V n (n / 8) + bitN V n < 256 := by
  rw [zc_new V n hn]
  refine Nat.lt_of_lt_of_le (Nat.mod_lt _ (Nat.pow_pos (by decide))) ?_
  exact Nat.pow_le_pow_right (n := 2) (by decide) (show n % 8 + 1 ≤ 8 by omega)
theorem zc_step (V n : Nat) (hn : n < 128) (j : Nat) (hj : j < 16) : (if j = n / 8 then 2 * zc V n (n / 8) + bitN V n else zc V n j) = zc V (n + 1) j := by
  rw [zc_new V n hn]
  by_cases h7 : n % 8 = 7
  · by_cases h : j = n / 8
    · subst h
      rw [if_pos rfl, h7]
      unfold zc
      rw [if_pos (by omega)]
      unfold by16
      rw [show (256 : Nat) ^ (15 - n / 8) = 2 ^ (127 - n) by rw [show (256 : Nat) = 2 ^ 8 from rfl, ← Nat.pow_mul]; congr 1; omega]
    · rw [if_neg h]
      unfold zc
      by_cases h1 : j < n / 8
      · rw [if_pos h1, if_pos (by omega)]
      · rw [if_neg h1, if_neg h, if_neg (by omega)]
        split
        · rw [show (n + 1) % 8 = 0 from by omega, Nat.pow_zero, Nat.mod_one]
        · rfl
  · by_cases h : j = n / 8
    · subst h
      rw [if_pos rfl]
      unfold zc
      rw [if_neg (by omega), if_pos (by omega), show 128 - (n + 1) = 127 - n from by omega, show (n + 1) % 8 = n % 8 + 1 from by omega]
    · rw [if_neg h]
      unfold zc
      by_cases h1 : j < n / 8
      · rw [if_pos h1, if_pos (by omega)]
      · rw [if_neg h1, if_neg h, if_neg (by omega), if_neg (by omega)]

/-- A step of the reduction. -/
def red (p : Nat → Nat) (m : Nat) : Nat → Nat :=
  let p1 := upd p (m + 128) 0
  let p2 := upd p1 m (p1 m ^^^ 1)
  let p3 := upd p2 (m + 1) (p2 (m + 1) ^^^ 1)
  let p4 := upd p3 (m + 2) (p3 (m + 2) ^^^ 1)
  upd p4 (m + 7) (p4 (m + 7) ^^^ 1)
theorem upd_lt {p : Nat → Nat} (h : ∀ j, p j < 2) {y : Nat} (hy : y < 2) (i j : Nat) : upd p i y j < 2 := by
  unfold upd
  split
  · exact hy
  · exact h j
theorem upd_other {p : Nat → Nat} {i j y : Nat} (h : j ≠ i) : upd p i y j = p j := by unfold upd; rw [if_neg h]
theorem upd_self (p : Nat → Nat) (i y : Nat) : upd p i y i = y := by unfold upd; rw [if_pos rfl]
theorem turn_lt {a : Nat} (h : a < 2) : a ^^^ 1 < 2 := Nat.xor_lt_two_pow (n := 1) h (by decide)
theorem red_lt {p : Nat → Nat} (h : ∀ j, p j < 2) (m j : Nat) : red p m j < 2 := by
  have h1 : ∀ j, upd p (m + 128) 0 j < 2 := upd_lt h (by decide) _
  have h2 := upd_lt h1 (turn_lt (h1 m)) m
  have h3 := upd_lt h2 (turn_lt (h2 (m + 1))) (m + 1)
  have h4 := upd_lt h3 (turn_lt (h3 (m + 2))) (m + 2)
  exact upd_lt h4 (turn_lt (h4 (m + 7))) (m + 7) j
theorem red_high {p : Nat → Nat} {m : Nat} (h : ∀ j, m + 128 < j → j < 255 → p j = 0) (j : Nat) (h1 : m + 127 < j) (h2 : j < 255) : red p m j = 0 := by
  unfold red
  try simp only
  rw [upd_other (by omega), upd_other (by omega), upd_other (by omega), upd_other (by omega)]
  by_cases e : j = m + 128
  · subst e; rw [upd_self]
  · rw [upd_other e]; exact h j (by omega) h2
theorem poly_red {p : Nat → Nat} {m : Nat} (h : ∀ j, p j < 2) (hm : m < 127) (h1 : p (m + 128) = 1) : poly 255 (red p m) = poly 255 p := by
  have h1' : ∀ j, upd p (m + 128) 0 j < 2 := upd_lt h (by decide) _
  have h2 := upd_lt h1' (turn_lt (h1' m)) m
  have h3 := upd_lt h2 (turn_lt (h2 (m + 1))) (m + 1)
  have h4 := upd_lt h3 (turn_lt (h3 (m + 2))) (m + 2)
  unfold red
  try simp only
  rw [poly_xor _ 1 (by omega) (h4 _) (by decide), poly_xor _ 1 (by omega) (h3 _) (by decide), poly_xor _ 1 (by omega) (h2 _) (by decide), poly_xor _ 1 (by omega) (h1' _) (by decide), poly_upd _ _ (by omega), h1]
  have e : ∀ v, G.gate (decide (1 = 1)) v = v := fun v => rfl
  have e0 : ∀ v, G.gate (decide (0 = 1)) v = 0 := fun v => rfl
  rw [e, e, e, e, e, e0, Nat.xor_zero, G.D_more]
  generalize poly 255 p = a
  generalize G.D m = b
  generalize G.D (m + 1) = c
  generalize G.D (m + 2) = d
  generalize G.D (m + 7) = f
  apply Nat.eq_of_testBit_eq
  intro i
  simp only [Nat.testBit_xor]
  cases a.testBit i <;> cases b.testBit i <;> cases c.testBit i <;> cases d.testBit i <;> cases f.testBit i <;> rfl
end Go.Proofs.Ytgnhbfjngdgibaa
