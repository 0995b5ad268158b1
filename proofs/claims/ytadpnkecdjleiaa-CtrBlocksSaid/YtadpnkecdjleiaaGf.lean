/-
  The field of 256 as numbers: products, powers, inverses, substitutes; that it is a field. Stands on no function of the program.
-/
import Derived.Test.YtadpnkecdjleiaaBase
namespace Go.Proofs.Ytadpnkecdjleiaa

/-- Doubled: less the field's polynomial if x^8 comes up. -/
def dbl (a : Nat) : Nat := (a <<< 1) ^^^ (if a.testBit 7 then 283 else 0)

/-- The product by the lowest n bits of b. -/
def gmul : Nat → Nat → Nat → Nat
  | 0, _, _ => 0
  | n + 1, a, b => (if b.testBit 0 then a else 0) ^^^ gmul n (dbl a) (b / 2)

/-- The product. -/
def mul (a b : Nat) : Nat := gmul 8 a b

theorem xor4 (a b c d : Nat) : (a ^^^ b) ^^^ (c ^^^ d) = (a ^^^ c) ^^^ (b ^^^ d) := by
  rw [Nat.xor_assoc, Nat.xor_assoc, ← Nat.xor_assoc b c d, Nat.xor_comm b c, Nat.xor_assoc c b d]

/-- What is chosen by one bit, spread over a sum. -/
theorem pick_xor (x y m : Nat) (i : Nat) : (if (x ^^^ y).testBit i then m else 0) = (if x.testBit i then m else 0) ^^^ (if y.testBit i then m else 0) := by
  rw [Nat.testBit_xor]
  cases x.testBit i <;> cases y.testBit i <;> simp

theorem dbl_xor (a b : Nat) : dbl (a ^^^ b) = dbl a ^^^ dbl b := by
  unfold dbl
  rw [Nat.shiftLeft_xor_distrib, pick_xor, xor4]

theorem gmul_left (n : Nat) : ∀ a a' b : Nat, gmul n (a ^^^ a') b = gmul n a b ^^^ gmul n a' b := by
  induction n with
  | zero => intro a a' b; simp [gmul]
  | succ n ih =>
    intro a a' b
    simp only [gmul]
    rw [dbl_xor, ih, xor4]
    congr 1
    split <;> simp

theorem gmul_right (n : Nat) : ∀ a b b' : Nat, gmul n a (b ^^^ b') = gmul n a b ^^^ gmul n a b' := by
  induction n with
  | zero => intro a b b'; simp [gmul]
  | succ n ih =>
    intro a b b'
    simp only [gmul]
    rw [Nat.xor_div_two, ih, pick_xor, xor4]

theorem gmul_zero (n : Nat) : ∀ a : Nat, gmul n a 0 = 0 := by
  induction n with
  | zero => intro a; rfl
  | succ n ih => intro a; simp [gmul, ih]

theorem mul_left (a a' b : Nat) : mul (a ^^^ a') b = mul a b ^^^ mul a' b := gmul_left 8 a a' b
theorem mul_right (a b b' : Nat) : mul a (b ^^^ b') = mul a b ^^^ mul a b' := gmul_right 8 a b b'

/-- A byte is the sum of its bits. -/
theorem bits_sum : ∀ a, a < 256 → a = (if a.testBit 0 then 1 else 0) ^^^ ((if a.testBit 1 then 2 else 0) ^^^ ((if a.testBit 2 then 4 else 0) ^^^ ((if a.testBit 3 then 8 else 0) ^^^
    ((if a.testBit 4 then 16 else 0) ^^^ ((if a.testBit 5 then 32 else 0) ^^^ ((if a.testBit 6 then 64 else 0) ^^^ (if a.testBit 7 then 128 else 0))))))) := by decide +kernel

/-- What holds of the eight bits, and spreads over sums, holds of each byte. -/
theorem span {P : Nat → Prop} (hx : ∀ a b, P a → P b → P (a ^^^ b)) (hb : ∀ i, i < 8 → P (2 ^ i)) : ∀ a, a < 256 → P a := by
  intro a ha
  have h0 : P 0 := by have := hx 1 1 (hb 0 (by decide)) (hb 0 (by decide)); simpa using this
  rw [bits_sum a ha]
  have hp : ∀ i, i < 8 → P (if a.testBit i then 2 ^ i else 0) := by
    intro i hi
    split
    · exact hb i hi
    · exact h0
  exact hx _ _ (hp 0 (by decide)) (hx _ _ (hp 1 (by decide)) (hx _ _ (hp 2 (by decide)) (hx _ _ (hp 3 (by decide)) (hx _ _ (hp 4 (by decide)) (hx _ _ (hp 5 (by decide)) (hx _ _ (hp 6 (by decide)) (hp 7 (by decide))))))))

theorem dbl_lt : ∀ a, a < 256 → dbl a < 256 := by decide +kernel

theorem xor_lt256 {a b : Nat} (ha : a < 256) (hb : b < 256) : a ^^^ b < 256 := Nat.xor_lt_two_pow (n := 8) ha hb

theorem gmul_lt (n : Nat) : ∀ a b : Nat, a < 256 → gmul n a b < 256 := by
  induction n with
  | zero => intro a b h; simp [gmul]
  | succ n ih =>
    intro a b h
    simp only [gmul]
    refine xor_lt256 ?_ (ih _ _ (dbl_lt a h))
    split <;> omega

theorem mul_lt {a : Nat} (b : Nat) (h : a < 256) : mul a b < 256 := gmul_lt 8 a b h

theorem mul_comm_bits : ∀ i, i < 8 → ∀ j, j < 8 → mul (2 ^ i) (2 ^ j) = mul (2 ^ j) (2 ^ i) := by decide +kernel
theorem mul_comm {a b : Nat} (ha : a < 256) (hb : b < 256) : mul a b = mul b a := by
  refine span (P := fun a => mul a b = mul b a) ?_ ?_ a ha
  · intro x y hx hy
    show mul (x ^^^ y) b = mul b (x ^^^ y)
    rw [mul_left, mul_right, hx, hy]
  · intro i hi
    refine span (P := fun b => mul (2 ^ i) b = mul b (2 ^ i)) ?_ ?_ b hb
    · intro x y hx hy
      show mul (2 ^ i) (x ^^^ y) = mul (x ^^^ y) (2 ^ i)
      rw [mul_left, mul_right, hx, hy]
    · intro j hj
      exact mul_comm_bits i hi j hj

theorem mul_assoc_bits : ∀ i, i < 8 → ∀ j, j < 8 → ∀ k, k < 8 → mul (mul (2 ^ i) (2 ^ j)) (2 ^ k) = mul (2 ^ i) (mul (2 ^ j) (2 ^ k)) := by decide +kernel
theorem mul_assoc {a b c : Nat} (ha : a < 256) (hb : b < 256) (hc : c < 256) : mul (mul a b) c = mul a (mul b c) := by
  refine span (P := fun a => mul (mul a b) c = mul a (mul b c)) ?_ ?_ a ha
  · intro x y hx hy
    show mul (mul (x ^^^ y) b) c = mul (x ^^^ y) (mul b c)
    rw [mul_left, mul_left, mul_left, hx, hy]
  · intro i hi
    refine span (P := fun b => mul (mul (2 ^ i) b) c = mul (2 ^ i) (mul b c)) ?_ ?_ b hb
    · intro x y hx hy
      show mul (mul (2 ^ i) (x ^^^ y)) c = mul (2 ^ i) (mul (x ^^^ y) c)
      rw [mul_right, mul_left, mul_left, mul_right, hx, hy]
    · intro j hj
      refine span (P := fun c => mul (mul (2 ^ i) (2 ^ j)) c = mul (2 ^ i) (mul (2 ^ j) c)) ?_ ?_ c hc
      · intro x y hx hy
        show mul (mul (2 ^ i) (2 ^ j)) (x ^^^ y) = mul (2 ^ i) (mul (2 ^ j) (x ^^^ y))
        rw [mul_right, mul_right, mul_right, hx, hy]
      · intro k hk
        exact mul_assoc_bits i hi j hj k hk

theorem mul_one : ∀ a, a < 256 → mul a 1 = a := by decide +kernel
theorem one_mul : ∀ a, a < 256 → mul 1 a = a := by decide +kernel
theorem zero_mul : ∀ a, a < 256 → mul 0 a = 0 := by decide +kernel
theorem mul_zero (a : Nat) : mul a 0 = 0 := gmul_zero 8 a

/-- The product of n times a. -/
def pw (a : Nat) : Nat → Nat
  | 0 => 1
  | n + 1 => mul (pw a n) a

/-- By squares: p times the product of n times a. -/
def pbin : Nat → Nat → Nat → Nat → Nat
  | 0, p, _, _ => p
  | f + 1, p, a, n => pbin f (if n.testBit 0 then mul p a else p) (mul a a) (n / 2)

theorem pw_lt {a : Nat} (ha : a < 256) (n : Nat) : pw a n < 256 := by
  cases n with
  | zero => show 1 < 256; decide
  | succ n =>
    have : pw a n < 256 := pw_lt ha n
    exact mul_lt a this

theorem pw_add {a : Nat} (ha : a < 256) (m n : Nat) : pw a (m + n) = mul (pw a m) (pw a n) := by
  induction n with
  | zero => rw [Nat.add_zero]; exact (mul_one _ (pw_lt ha m)).symm
  | succ n ih =>
    show mul (pw a (m + n)) a = mul (pw a m) (mul (pw a n) a)
    rw [ih, mul_assoc (pw_lt ha m) (pw_lt ha n) ha]

theorem pw_one {a : Nat} (ha : a < 256) : pw a 1 = a := one_mul a ha

theorem pw_sq {a : Nat} (ha : a < 256) (n : Nat) : pw (mul a a) n = pw a (2 * n) := by
  induction n with
  | zero => rfl
  | succ n ih =>
    show mul (pw (mul a a) n) (mul a a) = pw a (2 * n + 2)
    rw [ih, pw_add ha (2 * n) 2]
    congr 1
    show mul a a = mul (pw a 1) a
    rw [pw_one ha]

theorem bit0 (n : Nat) : n.testBit 0 = decide (n % 2 = 1) := Nat.testBit_zero n

/-- The step by squares. -/
theorem pw_step {a p : Nat} (ha : a < 256) (hp : p < 256) (n : Nat) : mul (if n.testBit 0 then mul p a else p) (pw (mul a a) (n / 2)) = mul p (pw a n) := by
  rw [pw_sq ha, bit0]
  rcases (show n % 2 = 0 ∨ n % 2 = 1 from by omega) with h | h
  · rw [if_neg (by simp [h]), show 2 * (n / 2) = n from by omega]
  · rw [if_pos (by simp [h]), mul_assoc hp ha (pw_lt ha _)]
    congr 1
    have e : pw a (1 + 2 * (n / 2)) = mul a (pw a (2 * (n / 2))) := by rw [pw_add ha, pw_one ha]
    rw [← e, show 1 + 2 * (n / 2) = n from by omega]

theorem pbin_eq (f : Nat) : ∀ p a n : Nat, p < 256 → a < 256 → n < 2 ^ f → pbin f p a n = mul p (pw a n) := by
  induction f with
  | zero =>
    intro p a n hp ha hn
    obtain rfl : n = 0 := by simpa using hn
    exact (mul_one p hp).symm
  | succ f ih =>
    intro p a n hp ha hn
    simp only [pbin]
    rw [ih _ _ _ (by split; exact mul_lt a hp; exact hp) (mul_lt a ha) (by rw [Nat.pow_succ] at hn; omega), pw_step ha hp]

theorem pw_bin {a n : Nat} (ha : a < 256) (hn : n < 256) : pw a n = pbin 8 1 a n := by
  rw [pbin_eq 8 1 a n (by decide) ha hn, one_mul _ (pw_lt ha n)]

/-- The inverse. -/
def inv (a : Nat) : Nat := pbin 8 1 a 254

theorem inv_pw {a : Nat} (ha : a < 256) : pw a 254 = inv a := pw_bin ha (by decide)
theorem inv_lt {a : Nat} (ha : a < 256) : inv a < 256 := by rw [← inv_pw ha]; exact pw_lt ha _

theorem mul_inv_all : ∀ a, a < 256 → a ≠ 0 → mul a (inv a) = 1 := by decide +kernel
theorem inv_zero : inv 0 = 0 := by decide +kernel

theorem pw_255 {a : Nat} (ha : a < 256) (h0 : a ≠ 0) : pw a 255 = 1 := by
  show mul (pw a 254) a = 1
  rw [inv_pw ha, mul_comm (inv_lt ha) ha, mul_inv_all a ha h0]

theorem pw_zero (n : Nat) (h : n ≠ 0) : pw 0 n = 0 := by
  obtain ⟨m, rfl⟩ : ∃ m, n = m + 1 := ⟨n - 1, by omega⟩
  exact mul_zero _

/-- What is above 255 comes round. -/
theorem pw_round {a : Nat} (ha : a < 256) (h0 : a ≠ 0) (n : Nat) : pw a (n % 255) = pw a n := by
  have h : ∀ q r, pw a (255 * q + r) = pw a r := by
    intro q r
    induction q with
    | zero => rw [Nat.mul_zero, Nat.zero_add]
    | succ q ih => rw [show 255 * (q + 1) + r = 255 + (255 * q + r) from by omega, pw_add ha, pw_255 ha h0, ih, one_mul _ (pw_lt ha r)]
  have := h (n / 255) (n % 255)
  rw [show 255 * (n / 255) + n % 255 = n from by omega] at this
  exact this.symm

/-- No product of two that are not 0 is 0. -/
theorem mul_ne {a b : Nat} (ha : a < 256) (hb : b < 256) (h : mul a b = 0) : a = 0 ∨ b = 0 := by
  by_cases h0 : a = 0
  · exact .inl h0
  · right
    have e : mul (mul (inv a) a) b = mul (inv a) (mul a b) := mul_assoc (inv_lt ha) ha hb
    rw [mul_comm (inv_lt ha) ha, mul_inv_all a ha h0, one_mul b hb, h, mul_zero] at e
    exact e

/-- There is one inverse. -/
theorem inv_only {a b : Nat} (ha : a < 256) (hb : b < 256) (h : mul a b = 1) : inv a = b := by
  by_cases h0 : a = 0
  · rw [h0, zero_mul b hb] at h
    cases h
  · have e : mul (mul (inv a) a) b = mul (inv a) (mul a b) := mul_assoc (inv_lt ha) ha hb
    rw [mul_comm (inv_lt ha) ha, mul_inv_all a ha h0, one_mul b hb, h, mul_one _ (inv_lt ha)] at e
    exact e.symm

/-- Turned to the left by k bits. -/
def rot (x k : Nat) : Nat := x * 2 ^ k % 256 + x / 2 ^ (8 - k)

/-- The sums of bits that make the substitute. -/
def aff (b : Nat) : Nat := b ^^^ rot b 1 ^^^ rot b 2 ^^^ rot b 3 ^^^ rot b 4 ^^^ 99
def ffa (a : Nat) : Nat := rot (a ^^^ 99) 6 ^^^ rot (a ^^^ 99) 3 ^^^ rot (a ^^^ 99) 1

/-- The substitute, and the way back. -/
def sub (a : Nat) : Nat := aff (inv a)
def back (a : Nat) : Nat := inv (ffa a)

theorem rot_lt : ∀ k, k < 8 → ∀ x, x < 256 → rot x k < 256 := by decide +kernel
theorem aff_lt : ∀ b, b < 256 → aff b < 256 := by decide +kernel
theorem ffa_lt : ∀ b, b < 256 → ffa b < 256 := by decide +kernel
theorem sub_lt {a : Nat} (ha : a < 256) : sub a < 256 := aff_lt _ (inv_lt ha)
theorem back_lt {a : Nat} (ha : a < 256) : back a < 256 := inv_lt (ffa_lt _ ha)
theorem ffa_aff : ∀ b, b < 256 → ffa (aff b) = b := by decide +kernel
theorem aff_ffa : ∀ b, b < 256 → aff (ffa b) = b := by decide +kernel

theorem inv_inv {a : Nat} (ha : a < 256) : inv (inv a) = a := by
  by_cases h0 : a = 0
  · rw [h0, inv_zero, inv_zero]
  · exact inv_only (inv_lt ha) ha (by rw [mul_comm (inv_lt ha) ha, mul_inv_all a ha h0])

theorem back_sub {a : Nat} (ha : a < 256) : back (sub a) = a := by
  unfold back sub
  rw [ffa_aff _ (inv_lt ha), inv_inv ha]
theorem sub_back {a : Nat} (ha : a < 256) : sub (back a) = a := by
  unfold back sub
  rw [inv_inv (ffa_lt a ha), aff_ffa a ha]
theorem sub_inj {a b : Nat} (ha : a < 256) (hb : b < 256) : sub a = sub b ↔ a = b := by
  constructor
  · intro h
    rw [← back_sub ha, h, back_sub hb]
  · intro h; rw [h]
theorem sub_other : ∀ a, a < 256 → sub a ≠ a ∧ sub a ≠ 255 - a := by decide +kernel

/-- Multiplied out by the lowest i bits of b. -/
def cm : Nat → Nat → Nat → Nat
  | 0, _, _ => 0
  | i + 1, a, b => cm i a b ^^^ (if b.testBit i then a <<< i else 0)
/-- The rest, from the highest bit on. -/
def rd : Nat → Nat → Nat
  | 0, p => p
  | j + 1, p => rd j (p ^^^ (if p.testBit (j + 8) then 283 <<< j else 0))

theorem cm_left (i : Nat) (a a' b : Nat) : cm i (a ^^^ a') b = cm i a b ^^^ cm i a' b := by
  induction i with
  | zero => simp [cm]
  | succ i ih =>
    simp only [cm]
    rw [ih, Nat.shiftLeft_xor_distrib, xor4]
    congr 1
    split <;> simp
theorem cm_right (i : Nat) (a b b' : Nat) : cm i a (b ^^^ b') = cm i a b ^^^ cm i a b' := by
  induction i with
  | zero => simp [cm]
  | succ i ih =>
    simp only [cm]
    rw [ih, pick_xor, xor4]
theorem rd_xor (j : Nat) : ∀ p q, rd j (p ^^^ q) = rd j p ^^^ rd j q := by
  induction j with
  | zero => intro p q; rfl
  | succ j ih =>
    intro p q
    simp only [rd]
    rw [pick_xor, xor4, ih]

theorem rest_bits : ∀ i, i < 8 → ∀ j, j < 8 → rd 7 (cm 8 (2 ^ i) (2 ^ j)) = mul (2 ^ i) (2 ^ j) := by decide +kernel
/-- The product of two polynomials, and then their rest. -/
theorem rest_mul {a b : Nat} (ha : a < 256) (hb : b < 256) : rd 7 (cm 8 a b) = mul a b := by
  refine span (P := fun a => rd 7 (cm 8 a b) = mul a b) ?_ ?_ a ha
  · intro x y hx hy
    show rd 7 (cm 8 (x ^^^ y) b) = mul (x ^^^ y) b
    rw [cm_left, rd_xor, mul_left, hx, hy]
  · intro i hi
    refine span (P := fun b => rd 7 (cm 8 (2 ^ i) b) = mul (2 ^ i) b) ?_ ?_ b hb
    · intro x y hx hy
      show rd 7 (cm 8 (2 ^ i) (x ^^^ y)) = mul (2 ^ i) (x ^^^ y)
      rw [cm_right, rd_xor, mul_right, hx, hy]
    · intro j hj
      exact rest_bits i hi j hj

theorem cm_lt (i : Nat) {a : Nat} (b : Nat) (ha : a < 256) : cm i a b < 2 ^ (i + 8) := by
  induction i with
  | zero => simp [cm]
  | succ i ih =>
    simp only [cm]
    refine Nat.xor_lt_two_pow (n := i + 1 + 8) ?_ ?_
    · exact Nat.lt_of_lt_of_le ih (Nat.pow_le_pow_right (by decide) (by omega))
    · split
      · rw [Nat.shiftLeft_eq, show i + 1 + 8 = 8 + (i + 1) from by omega, Nat.pow_add, Nat.pow_succ]
        have hp : 0 < 2 ^ i := Nat.pow_pos (by decide)
        calc a * 2 ^ i < 256 * 2 ^ i := Nat.mul_lt_mul_of_pos_right ha hp
          _ ≤ 2 ^ 8 * (2 ^ i * 2) := by omega
      · exact Nat.pow_pos (by decide)

/-- The bits of a substitute as the document counts them: the highest m. -/
def srow (b i : Nat) : Nat := (b / 2 ^ (i % 8) % 2 + b / 2 ^ ((i + 4) % 8) % 2 + b / 2 ^ ((i + 5) % 8) % 2 + b / 2 ^ ((i + 6) % 8) % 2 + b / 2 ^ ((i + 7) % 8) % 2 + 99 / 2 ^ (i % 8) % 2) % 2
def srows : Nat → Nat → Nat
  | 0, _ => 0
  | m + 1, b => 2 * srows m b + srow b (7 - m)

theorem srow_lt (b i : Nat) : srow b i < 2 := Nat.mod_lt _ (by decide)
theorem srows_lt (m b : Nat) : srows m b < 2 ^ m := by
  induction m with
  | zero => show 0 < 1; decide
  | succ m ih =>
    have := srow_lt b (7 - m)
    simp only [srows, Nat.pow_succ]
    omega
theorem srows_aff : ∀ b, b < 256 → srows 8 b = aff b := by decide +kernel

end Go.Proofs.Ytadpnkecdjleiaa
