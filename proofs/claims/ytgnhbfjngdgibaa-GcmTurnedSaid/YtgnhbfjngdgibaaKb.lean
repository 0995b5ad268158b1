/-
  Gf, Gmul, Gref, Grefsub, in one text.
-/
import Derived.Test.YtgnhbfjngdgibaaKa
/-
  The field of 256 as numbers: products, powers, inverses, substitutes; that it is a field. Stands on no function of the program.
-/
namespace Go.Proofs.Ytgnhbfjngdgibaa

/-- Doubled: less the field's polynomial if x^8 comes up. -/
def dbl (a : Nat) : Nat := (a <<< 1) ^^^ (if a.testBit 7 then 283 else 0)

/-- The product by the lowest n bits of b. -/
def gmul : Nat → Nat → Nat → Nat
  | 0, _, _ => 0
  | n + 1, a, b => (if b.testBit 0 then a else 0) ^^^ gmul n (dbl a) (b / 2)

/-- The product. -/
def mul (a b : Nat) : Nat := gmul 8 a b

theorem xor4 (a b c d : Nat) : (a ^^^ b) ^^^ (c ^^^ d) = (a ^^^ c) ^^^ (b ^^^ d) := by
  rw [Nat.xor_assoc, Nat.xor_assoc, ← Nat.xor_assoc b c d, Nat.xor_comm b c, Nat.xor_assoc c b d]

/-- What is chosen by one bit, spread over a sum. -/
theorem pick_xor (x y m : Nat) (i : Nat) : (if (x ^^^ y).testBit i then m else 0) = (if x.testBit i then m else 0) ^^^ (if y.testBit i then m else 0) := by
  rw [Nat.testBit_xor]
  cases x.testBit i <;> cases y.testBit i <;> simp

theorem dbl_xor (a b : Nat) : dbl (a ^^^ b) = dbl a ^^^ dbl b := by
  unfold dbl
  rw [Nat.shiftLeft_xor_distrib, pick_xor, xor4]

theorem gmul_left (n : Nat) : ∀ a a' b : Nat, gmul n (a ^^^ a') b = gmul n a b ^^^ gmul n a' b := by
  induction n with
  | zero => intro a a' b; simp [gmul]
  | succ n ih =>
    intro a a' b
    simp only [gmul]
    rw [dbl_xor, ih, xor4]
    congr 1
    split <;> simp

theorem gmul_right (n : Nat) : ∀ a b b' : Nat, gmul n a (b ^^^ b') = gmul n a b ^^^ gmul n a b' := by
  induction n with
  | zero => intro a b b'; simp [gmul]
  | succ n ih =>
    intro a b b'
    simp only [gmul]
    rw [Nat.xor_div_two, ih, pick_xor, xor4]

theorem gmul_zero (n : Nat) : ∀ a : Nat, gmul n a 0 = 0 := by
  induction n with
  | zero => intro a; rfl
  | succ n ih => intro a; simp [gmul, ih]

theorem mul_left (a a' b : Nat) : mul (a ^^^ a') b = mul a b ^^^ mul a' b := gmul_left 8 a a' b
theorem mul_right (a b b' : Nat) : mul a (b ^^^ b') = mul a b ^^^ mul a b' := gmul_right 8 a b b'

/-- A byte is the sum of its bits. -/
theorem bits_sum : ∀ a, a < 256 → a = (if a.testBit 0 then 1 else 0) ^^^ ((if a.testBit 1 then 2 else 0) ^^^ ((if a.testBit 2 then 4 else 0) ^^^ ((if a.testBit 3 then 8 else 0) ^^^
    ((if a.testBit 4 then 16 else 0) ^^^ ((if a.testBit 5 then 32 else 0) ^^^ ((if a.testBit 6 then 64 else 0) ^^^ (if a.testBit 7 then 128 else 0))))))) := by decide +kernel

/-- What holds of the eight bits, and spreads over sums, holds of each byte. -/
theorem span {P : Nat → Prop} (hx : ∀ a b, P a → P b → P (a ^^^ b)) (hb : ∀ i, i < 8 → P (2 ^ i)) : ∀ a, a < 256 → P a := by
  intro a ha
  have h0 : P 0 := by have := hx 1 1 (hb 0 (by decide)) (hb 0 (by decide)); simpa using this
  rw [bits_sum a ha]
  have hp : ∀ i, i < 8 → P (if a.testBit i then 2 ^ i else 0) := by
    intro i hi
    split
    · exact hb i hi
    · exact h0
  exact hx _ _ (hp 0 (by decide)) (hx _ _ (hp 1 (by decide)) (hx _ _ (hp 2 (by decide)) (hx _ _ (hp 3 (by decide)) (hx _ _ (hp 4 (by decide)) (hx _ _ (hp 5 (by decide)) (hx _ _ (hp 6 (by decide)) (hp 7 (by decide))))))))

theorem dbl_lt : ∀ a, a < 256 → dbl a < 256 := by decide +kernel

theorem xor_lt256 {a b : Nat} (ha : a < 256) (hb : b < 256) : a ^^^ b < 256 := Nat.xor_lt_two_pow (n := 8) ha hb

theorem gmul_lt (n : Nat) : ∀ a b : Nat, a < 256 → gmul n a b < 256 := by
  induction n with
  | zero => intro a b h; simp [gmul]
  | succ n ih =>
    intro a b h
    simp only [gmul]
    refine xor_lt256 ?_ (ih _ _ (dbl_lt a h))
    split <;> omega

theorem mul_lt {a : Nat} (b : Nat) (h : a < 256) : mul a b < 256 := gmul_lt 8 a b h

theorem mul_comm_bits : ∀ i, i < 8 → ∀ j, j < 8 → mul (2 ^ i) (2 ^ j) = mul (2 ^ j) (2 ^ i) := by decide +kernel
theorem mul_comm {a b : Nat} (ha : a < 256) (hb : b < 256) : mul a b = mul b a := by
  refine span (P := fun a => mul a b = mul b a) ?_ ?_ a ha
  · intro x y hx hy
    show mul (x ^^^ y) b = mul b (x ^^^ y)
    rw [mul_left, mul_right, hx, hy]
  · intro i hi
    refine span (P := fun b => mul (2 ^ i) b = mul b (2 ^ i)) ?_ ?_ b hb
    · intro x y hx hy
      show mul (2 ^ i) (x ^^^ y) = mul (x ^^^ y) (2 ^ i)
      rw [mul_left, mul_right, hx, hy]
    · intro j hj
      exact mul_comm_bits i hi j hj

theorem mul_assoc_bits : ∀ i, i < 8 → ∀ j, j < 8 → ∀ k, k < 8 → mul (mul (2 ^ i) (2 ^ j)) (2 ^ k) = mul (2 ^ i) (mul (2 ^ j) (2 ^ k)) := by decide +kernel
theorem mul_assoc {a b c : Nat} (ha : a < 256) (hb : b < 256) (hc : c < 256) : mul (mul a b) c = mul a (mul b c) := by
  refine span (P := fun a => mul (mul a b) c = mul a (mul b c)) ?_ ?_ a ha
  · intro x y hx hy
    show mul (mul (x ^^^ y) b) c = mul (x ^^^ y) (mul b c)
    rw [mul_left, mul_left, mul_left, hx, hy]
  · intro i hi
    refine span (P := fun b => mul (mul (2 ^ i) b) c = mul (2 ^ i) (mul b c)) ?_ ?_ b hb
    · intro x y hx hy
      show mul (mul (2 ^ i) (x ^^^ y)) c = mul (2 ^ i) (mul (x ^^^ y) c)
      rw [mul_right, mul_left, mul_left, mul_right, hx, hy]
    · intro j hj
      refine span (P := fun c => mul (mul (2 ^ i) (2 ^ j)) c = mul (2 ^ i) (mul (2 ^ j) c)) ?_ ?_ c hc
      · intro x y hx hy
        show mul (mul (2 ^ i) (2 ^ j)) (x ^^^ y) = mul (2 ^ i) (mul (2 ^ j) (x ^^^ y))
        rw [mul_right, mul_right, mul_right, hx, hy]
      · intro k hk
        exact mul_assoc_bits i hi j hj k hk

theorem mul_one : ∀ a, a < 256 → mul a 1 = a := by decide +kernel
theorem one_mul : ∀ a, a < 256 → mul 1 a = a := by decide +kernel
theorem zero_mul : ∀ a, a < 256 → mul 0 a = 0 := by decide +kernel
theorem mul_zero (a : Nat) : mul a 0 = 0 := gmul_zero 8 a

/-- The product of n times a. -/
def pw (a : Nat) : Nat → Nat
  | 0 => 1
  | n + 1 => mul (pw a n) a

/-- By squares: p times the product of n times a. -/
def pbin : Nat → Nat → Nat → Nat → Nat
  | 0, p, _, _ => p
  | f + 1, p, a, n => pbin f (if n.testBit 0 then mul p a else p) (mul a a) (n / 2)

theorem pw_lt {a : Nat} (ha : a < 256) (n : Nat) : pw a n < 256 := by
  cases n with
  | zero => show 1 < 256; decide
  | succ n =>
    have : pw a n < 256 := pw_lt ha n
    exact mul_lt a this

theorem pw_add {a : Nat} (ha : a < 256) (m n : Nat) : pw a (m + n) = mul (pw a m) (pw a n) := by
  induction n with
  | zero => rw [Nat.add_zero]; exact (mul_one _ (pw_lt ha m)).symm
  | succ n ih =>
    show mul (pw a (m + n)) a = mul (pw a m) (mul (pw a n) a)
    rw [ih, mul_assoc (pw_lt ha m) (pw_lt ha n) ha]

theorem pw_one {a : Nat} (ha : a < 256) : pw a 1 = a := one_mul a ha

theorem pw_sq {a : Nat} (ha : a < 256) (n : Nat) : pw (mul a a) n = pw a (2 * n) := by
  induction n with
  | zero => rfl
  | succ n ih =>
    show mul (pw (mul a a) n) (mul a a) = pw a (2 * n + 2)
    rw [ih, pw_add ha (2 * n) 2]
    congr 1
    show mul a a = mul (pw a 1) a
    rw [pw_one ha]

theorem bit0 (n : Nat) : n.testBit 0 = decide (n % 2 = 1) := Nat.testBit_zero n

/-- The step by squares. -/
theorem pw_step {a p : Nat} (ha : a < 256) (hp : p < 256) (n : Nat) : mul (if n.testBit 0 then mul p a else p) (pw (mul a a) (n / 2)) = mul p (pw a n) := by
  rw [pw_sq ha, bit0]
  rcases (show n % 2 = 0 ∨ n % 2 = 1 from by omega) with h | h
  · rw [if_neg (by simp [h]), show 2 * (n / 2) = n from by omega]
  · rw [if_pos (by simp [h]), mul_assoc hp ha (pw_lt ha _)]
    congr 1
    have e : pw a (1 + 2 * (n / 2)) = mul a (pw a (2 * (n / 2))) := by rw [pw_add ha, pw_one ha]
    rw [← e, show 1 + 2 * (n / 2) = n from by omega]

theorem pbin_eq (f : Nat) : ∀ p a n : Nat, p < 256 → a < 256 → n < 2 ^ f → pbin f p a n = mul p (pw a n) := by
  induction f with
  | zero =>
    intro p a n hp ha hn
    obtain rfl : n = 0 := by simpa using hn
    exact (mul_one p hp).symm
  | succ f ih =>
    intro p a n hp ha hn
    simp only [pbin]
    rw [ih _ _ _ (by split; exact mul_lt a hp; exact hp) (mul_lt a ha) (by rw [Nat.pow_succ] at hn; omega), pw_step ha hp]

theorem pw_bin {a n : Nat} (ha : a < 256) (hn : n < 256) : pw a n = pbin 8 1 a n := by
  rw [pbin_eq 8 1 a n (by decide) ha hn, one_mul _ (pw_lt ha n)]

/-- The inverse. -/
def inv (a : Nat) : Nat := pbin 8 1 a 254

theorem inv_pw {a : Nat} (ha : a < 256) : pw a 254 = inv a := pw_bin ha (by decide)
theorem inv_lt {a : Nat} (ha : a < 256) : inv a < 256 := by rw [← inv_pw ha]; exact pw_lt ha _

theorem mul_inv_all : ∀ a, a < 256 → a ≠ 0 → mul a (inv a) = 1 := by decide +kernel
theorem inv_zero : inv 0 = 0 := by decide +kernel

theorem pw_255 {a : Nat} (ha : a < 256) (h0 : a ≠ 0) : pw a 255 = 1 := by
  show mul (pw a 254) a = 1
  rw [inv_pw ha, mul_comm (inv_lt ha) ha, mul_inv_all a ha h0]

theorem pw_zero (n : Nat) (h : n ≠ 0) : pw 0 n = 0 := by
  obtain ⟨m, rfl⟩ : ∃ m, n = m + 1 := ⟨n - 1, by omega⟩
  exact mul_zero _

/-- What is above 255 comes round. -/
theorem pw_round {a : Nat} (ha : a < 256) (h0 : a ≠ 0) (n : Nat) : pw a (n % 255) = pw a n := by
  have h : ∀ q r, pw a (255 * q + r) = pw a r := by
    intro q r
    induction q with
    | zero => rw [Nat.mul_zero, Nat.zero_add]
    | succ q ih => rw [show 255 * (q + 1) + r = 255 + (255 * q + r) from by omega, pw_add ha, pw_255 ha h0, ih, one_mul _ (pw_lt ha r)]
  have := h (n / 255) (n % 255)
  rw [show 255 * (n / 255) + n % 255 = n from by omega] at this
  exact this.symm

/-- No product of two that are not 0 is 0. -/
theorem mul_ne {a b : Nat} (ha : a < 256) (hb : b < 256) (h : mul a b = 0) : a = 0 ∨ b = 0 := by
  by_cases h0 : a = 0
  · exact .inl h0
  · right
    have e : mul (mul (inv a) a) b = mul (inv a) (mul a b) := mul_assoc (inv_lt ha) ha hb
    rw [mul_comm (inv_lt ha) ha, mul_inv_all a ha h0, one_mul b hb, h, mul_zero] at e
    exact e

/-- There is one inverse. -/
theorem inv_only {a b : Nat} (ha : a < 256) (hb : b < 256) (h : mul a b = 1) : inv a = b := by
  by_cases h0 : a = 0
  · rw [h0, zero_mul b hb] at h
    cases h
  · have e : mul (mul (inv a) a) b = mul (inv a) (mul a b) := mul_assoc (inv_lt ha) ha hb
    rw [mul_comm (inv_lt ha) ha, mul_inv_all a ha h0, one_mul b hb, h, mul_one _ (inv_lt ha)] at e
    exact e.symm

/-- Turned to the left by k bits. -/
def rot (x k : Nat) : Nat := x * 2 ^ k % 256 + x / 2 ^ (8 - k)

/-- The sums of bits that make the substitute. -/
def aff (b : Nat) : Nat := b ^^^ rot b 1 ^^^ rot b 2 ^^^ rot b 3 ^^^ rot b 4 ^^^ 99
def ffa (a : Nat) : Nat := rot (a ^^^ 99) 6 ^^^ rot (a ^^^ 99) 3 ^^^ rot (a ^^^ 99) 1

/-- The substitute, and the way back. -/
def sub (a : Nat) : Nat := aff (inv a)
def back (a : Nat) : Nat := inv (ffa a)

theorem rot_lt : ∀ k, k < 8 → ∀ x, x < 256 → rot x k < 256 := by decide +kernel
theorem aff_lt : ∀ b, b < 256 → aff b < 256 := by decide +kernel
theorem ffa_lt : ∀ b, b < 256 → ffa b < 256 := by decide +kernel
theorem sub_lt {a : Nat} (ha : a < 256) : sub a < 256 := aff_lt _ (inv_lt ha)
theorem back_lt {a : Nat} (ha : a < 256) : back a < 256 := inv_lt (ffa_lt _ ha)
theorem ffa_aff : ∀ b, b < 256 → ffa (aff b) = b := by decide +kernel
theorem aff_ffa : ∀ b, b < 256 → aff (ffa b) = b := by decide +kernel

theorem inv_inv {a : Nat} (ha : a < 256) : inv (inv a) = a := by
  by_cases h0 : a = 0
  · rw [h0, inv_zero, inv_zero]
  · exact inv_only (inv_lt ha) ha (by rw [mul_comm (inv_lt ha) ha, mul_inv_all a ha h0])

theorem back_sub {a : Nat} (ha : a < 256) : back (sub a) = a := by
  unfold back sub
  rw [ffa_aff _ (inv_lt ha), inv_inv ha]
theorem sub_back {a : Nat} (ha : a < 256) : sub (back a) = a := by
  unfold back sub
  rw [inv_inv (ffa_lt a ha), aff_ffa a ha]
theorem sub_inj {a b : Nat} (ha : a < 256) (hb : b < 256) : sub a = sub b ↔ a = b := by
  constructor
  · intro h
    rw [← back_sub ha, h, back_sub hb]
  · intro h; rw [h]
theorem sub_other : ∀ a, a < 256 → sub a ≠ a ∧ sub a ≠ 255 - a := by decide +kernel

/-- Multiplied out by the lowest i bits of b. -/
def cm : Nat → Nat → Nat → Nat
  | 0, _, _ => 0
  | i + 1, a, b => cm i a b ^^^ (if b.testBit i then a <<< i else 0)
/-- The rest, from the highest bit on. -/
def rd : Nat → Nat → Nat
  | 0, p => p
  | j + 1, p => rd j (p ^^^ (if p.testBit (j + 8) then 283 <<< j else 0))

theorem cm_left (i : Nat) (a a' b : Nat) : cm i (a ^^^ a') b = cm i a b ^^^ cm i a' b := by
  induction i with
  | zero => simp [cm]
  | succ i ih =>
    simp only [cm]
    rw [ih, Nat.shiftLeft_xor_distrib, xor4]
    congr 1
    split <;> simp
theorem cm_right (i : Nat) (a b b' : Nat) : cm i a (b ^^^ b') = cm i a b ^^^ cm i a b' := by
  induction i with
  | zero => simp [cm]
  | succ i ih =>
    simp only [cm]
    rw [ih, pick_xor, xor4]
theorem rd_xor (j : Nat) : ∀ p q, rd j (p ^^^ q) = rd j p ^^^ rd j q := by
  induction j with
  | zero => intro p q; rfl
  | succ j ih =>
    intro p q
    simp only [rd]
    rw [pick_xor, xor4, ih]

theorem rest_bits : ∀ i, i < 8 → ∀ j, j < 8 → rd 7 (cm 8 (2 ^ i) (2 ^ j)) = mul (2 ^ i) (2 ^ j) := by decide +kernel
/-- The product of two polynomials, and then their rest. -/
theorem rest_mul {a b : Nat} (ha : a < 256) (hb : b < 256) : rd 7 (cm 8 a b) = mul a b := by
  refine span (P := fun a => rd 7 (cm 8 a b) = mul a b) ?_ ?_ a ha
  · intro x y hx hy
    show rd 7 (cm 8 (x ^^^ y) b) = mul (x ^^^ y) b
    rw [cm_left, rd_xor, mul_left, hx, hy]
  · intro i hi
    refine span (P := fun b => rd 7 (cm 8 (2 ^ i) b) = mul (2 ^ i) b) ?_ ?_ b hb
    · intro x y hx hy
      show rd 7 (cm 8 (2 ^ i) (x ^^^ y)) = mul (2 ^ i) (x ^^^ y)
      rw [cm_right, rd_xor, mul_right, hx, hy]
    · intro j hj
      exact rest_bits i hi j hj

theorem cm_lt (i : Nat) {a : Nat} (b : Nat) (ha : a < 256) : cm i a b < 2 ^ (i + 8) := by
  induction i with
  | zero => simp [cm]
  | succ i ih =>
    simp only [cm]
    refine Nat.xor_lt_two_pow (n := i + 1 + 8) ?_ ?_
    · exact Nat.lt_of_lt_of_le ih (Nat.pow_le_pow_right (by decide) (by omega))
    · split
      · rw [Nat.shiftLeft_eq, show i + 1 + 8 = 8 + (i + 1) from by omega, Nat.pow_add, Nat.pow_succ]
        have hp : 0 < 2 ^ i := Nat.pow_pos (by decide)
        calc a * 2 ^ i < 256 * 2 ^ i := Nat.mul_lt_mul_of_pos_right ha hp
          _ ≤ 2 ^ 8 * (2 ^ i * 2) := by omega
      · exact Nat.pow_pos (by decide)

/-- The bits of a substitute as the document counts them: the highest m. -/
def srow (b i : Nat) : Nat := (b / 2 ^ (i % 8) % 2 + b / 2 ^ ((i + 4) % 8) % 2 + b / 2 ^ ((i + 5) % 8) % 2 + b / 2 ^ ((i + 6) % 8) % 2 + b / 2 ^ ((i + 7) % 8) % 2 + 99 / 2 ^ (i % 8) % 2) % 2
def srows : Nat → Nat → Nat
  | 0, _ => 0
  | m + 1, b => 2 * srows m b + srow b (7 - m)

theorem srow_lt (b i : Nat) : srow b i < 2 := Nat.mod_lt _ (by decide)
theorem srows_lt (m b : Nat) : srows m b < 2 ^ m := by
  induction m with
  | zero => show 0 < 1; decide
  | succ m ih =>
    have := srow_lt b (7 - m)
    simp only [srows, Nat.pow_succ]
    omega
theorem srows_aff : ∀ b, b < 256 → srows 8 b = aff b := by decide +kernel

end Go.Proofs.Ytgnhbfjngdgibaa

/-
  The contracts of layer 2's calls on elements: each answers what the numbers say.
-/
namespace Go.Proofs.Ytgnhbfjngdgibaa
open Go.RowKit

theorem dbl_bits : ∀ a : Nat, a < 256 → bits .xor .u8 ((a : Int) * 2 % 256) (bits .and .u8 27 (-((a : Int) / 128) % 256)) = ((dbl a : Nat) : Int) := by decide +kernel

set_option maxRecDepth 100000 in
theorem double_any (a : Nat) (w : World) (ha : a < 256) :
    Calls Try.prog 86 #[.int .u8 a] w fun e w' => e = .returned (.int .u8 (dbl a : Nat)) ∧ w = w' := by
  go_enter Try.func86, Try.ntmps86
  go_wp2
  go_ret
  exact ⟨ret_int (dbl_bits a ha), rfl⟩

theorem xor_nat {a b : Nat} (ha : a < 256) (hb : b < 256) : bits .xor .u8 (a : Int) (b : Int) = ((a ^^^ b : Nat) : Int) := by
  have := u8_xor (a : Int) (b : Int) (by omega) (by omega) (by omega) (by omega)
  simpa using this

theorem low_bit : ∀ b : Nat, b < 256 → -bits .and .u8 (b : Int) 1 % 256 = if b.testBit 0 then 255 else 0 := by decide +kernel
theorem and_all : ∀ a : Nat, a < 256 → bits .and .u8 (a : Int) 255 = ((a : Nat) : Int) := by decide +kernel
theorem and_none : ∀ a : Nat, a < 256 → bits .and .u8 (a : Int) 0 = ((0 : Nat) : Int) := by decide +kernel

theorem mul_bits {a b p : Nat} (ha : a < 256) (hb : b < 256) (hp : p < 256) :
    bits .xor .u8 (p : Int) (bits .and .u8 (a : Int) (-bits .and .u8 (b : Int) 1 % 256)) = ((p ^^^ (if b.testBit 0 then a else 0) : Nat) : Int) := by
  rw [low_bit b hb]
  cases h : b.testBit 0
  · rw [if_neg (by simp), if_neg (by simp), and_none a ha, xor_nat hp (by decide)]
  · rw [if_pos rfl, if_pos rfl, and_all a ha, xor_nat hp ha]

set_option maxRecDepth 100000 in
theorem mul_any (a b : Nat) (w : World) (ha : a < 256) (hb : b < 256) :
    Calls Try.prog 85 #[.int .u8 a, .int .u8 b] w fun e w' => e = .returned (.int .u8 (mul a b : Nat)) ∧ w = w' := by
  go_enter Try.func85, Try.ntmps85
  go_wp2
  go_loop [0, 1, 5] (fun x y p => ∃ k a' b' p' : Nat, a' < 256 ∧ p' < 256 ∧ b' < 2 ^ k ∧ k ≤ 8 ∧ x = .int .u8 (a' : Int) ∧ y = .int .u8 (b' : Int) ∧ p = .int .u8 (p' : Int) ∧ p' ^^^ gmul k a' b' = mul a b) (fun _ y _ => (intOf y).toNat)
  case atStart => exact ⟨8, a, b, 0, ha, by decide, hb, by decide, rfl, rfl, rfl, Nat.zero_xor _⟩
  case round =>
    obtain ⟨k, a', b', p', ha', hp', hb', hk, rfl, rfl, rfl, hrel⟩ := hrel
    have HR := hid hrel
    clear hrel
    by_cases h0 : b' = 0
    · subst h0
      go_wp2
      go_ret
      exact ⟨ret_int (by rw [← HR.out, gmul_zero, Nat.xor_zero]), rfl⟩
    · have hb8 : b' < 256 := Nat.lt_of_lt_of_le hb' (Nat.pow_le_pow_right (n := 2) (by decide) hk)
      have HB := hid (mul_bits ha' hb8 hp')
      go_wp2_with fail
      refine (double_any a' _ ha').mono ?_
      rintro e w' ⟨rfl, rfl⟩
      go_wp2
      go_round
      case rel =>
        rcases k with _ | k
        · exact absurd hb' (by simp; omega)
        · refine ⟨k, dbl a', b' / 2, p' ^^^ (if b'.testBit 0 then a' else 0), dbl_lt a' ha', xor_lt256 hp' (by split <;> omega), by rw [Nat.pow_succ] at hb'; omega, by omega, rfl, rfl, by rw [HB.out], ?_⟩
          rw [← HR.out, Nat.xor_assoc]
          rfl
      case measure => simp [intOf]; omega

theorem low_bit32 (n : Nat) (h : n < 2 ^ 32) : bits .and .u32 (n : Int) 1 = ((n % 2 : Nat) : Int) := by
  have := u32_and (n : Int) 1 (by omega) (by omega) (by decide) (by decide)
  rw [this]
  simp [Nat.and_one_is_mod]

set_option maxRecDepth 100000 in
theorem power_any (a n : Nat) (w : World) (ha : a < 256) (hn : n < 2 ^ 32) :
    Calls Try.prog 81 #[.int .u8 a, .int .u32 n] w fun e w' => e = .returned (.int .u8 (pw a n : Nat)) ∧ w = w' := by
  go_enter Try.func81, Try.ntmps81
  go_wp2
  go_loop [0, 1, 5] (fun x y p => ∃ a' n' p' : Nat, a' < 256 ∧ p' < 256 ∧ n' < 2 ^ 32 ∧ x = .int .u8 (a' : Int) ∧ y = .int .u32 (n' : Int) ∧ p = .int .u8 (p' : Int) ∧ mul p' (pw a' n') = pw a n) (fun _ y _ => (intOf y).toNat)
  case atStart => exact ⟨a, n, 1, ha, by decide, hn, rfl, rfl, rfl, one_mul _ (pw_lt ha n)⟩
  case round =>
    obtain ⟨a', n', p', ha', hp', hn', rfl, rfl, rfl, hrel⟩ := hrel
    have HR := hid hrel
    clear hrel
    by_cases h0 : n' = 0
    · subst h0
      go_wp2
      go_ret
      exact ⟨ret_int (by rw [← HR.out]; show ((p' : Nat) : Int) = ((mul p' 1 : Nat) : Int); rw [mul_one p' hp']), rfl⟩
    · have HL := hid (low_bit32 n' hn')
      have HS := hid (pw_step ha' hp' n')
      rcases (show n' % 2 = 0 ∨ n' % 2 = 1 from by omega) with h | h
      · have hz : bits .and .u32 (n' : Int) 1 = 0 := by rw [HL.out, h]; rfl
        have H := hid h
        clear h
        go_wp2_with fail
        refine (mul_any _ _ _ ha' ha').mono ?_
        rintro e w' ⟨rfl, rfl⟩
        go_wp2
        go_round
        case rel =>
          refine ⟨mul a' a', n' / 2, p', mul_lt a' ha', hp', by omega, rfl, rfl, rfl, ?_⟩
          rw [← HR.out, ← HS.out, bit0, if_neg (by simp [H.out])]
        case measure => simp [intOf]; omega
      · have hz : bits .and .u32 (n' : Int) 1 = 1 := by rw [HL.out, h]; rfl
        have H := hid h
        clear h
        go_wp2_with fail
        refine (mul_any _ _ _ hp' ha').mono ?_
        rintro e w' ⟨rfl, rfl⟩
        go_wp2_with fail
        refine (mul_any _ _ _ ha' ha').mono ?_
        rintro e w' ⟨rfl, rfl⟩
        go_wp2
        go_round
        case rel =>
          refine ⟨mul a' a', n' / 2, mul p' a', mul_lt a' ha', mul_lt a' hp', by omega, rfl, rfl, rfl, ?_⟩
          rw [← HR.out, ← HS.out, bit0, if_pos (by simp [H.out])]
        case measure => simp [intOf]; omega

set_option maxRecDepth 100000 in
theorem inv_any (a : Nat) (w : World) (ha : a < 256) :
    Calls Try.prog 70 #[.int .u8 a] w fun e w' => e = .returned (.int .u8 (inv a : Nat)) ∧ w = w' := by
  go_enter Try.func70, Try.ntmps70
  go_wp2_with fail
  refine (power_any a 254 _ ha (by decide)).mono ?_
  rintro e w' ⟨rfl, rfl⟩
  go_wp2
  go_ret
  exact ⟨ret_int (by rw [inv_pw ha]), rfl⟩

theorem and_seven : bits .and .u64 1 7 = 1 ∧ bits .and .u64 2 7 = 2 ∧ bits .and .u64 3 7 = 3 ∧ bits .and .u64 4 7 = 4 ∧ bits .and .u64 6 7 = 6 := by decide +kernel

theorem rot1 : ∀ x : Nat, x < 256 → bits .or .u8 ((x : Int) * 2 % 256) ((x : Int) / 128) = ((rot x 1 : Nat) : Int) := by decide +kernel
theorem rot2 : ∀ x : Nat, x < 256 → bits .or .u8 ((x : Int) * 4 % 256) ((x : Int) / 64) = ((rot x 2 : Nat) : Int) := by decide +kernel
theorem rot3 : ∀ x : Nat, x < 256 → bits .or .u8 ((x : Int) * 8 % 256) ((x : Int) / 32) = ((rot x 3 : Nat) : Int) := by decide +kernel
theorem rot4 : ∀ x : Nat, x < 256 → bits .or .u8 ((x : Int) * 16 % 256) ((x : Int) / 16) = ((rot x 4 : Nat) : Int) := by decide +kernel
theorem rot6 : ∀ x : Nat, x < 256 → bits .or .u8 ((x : Int) * 64 % 256) ((x : Int) / 4) = ((rot x 6 : Nat) : Int) := by decide +kernel

set_option maxRecDepth 100000 in
theorem rot_any (x k : Nat) (w : World) (hx : x < 256) (hk : k = 1 ∨ k = 2 ∨ k = 3 ∨ k = 4 ∨ k = 6) :
    Calls Try.prog 71 #[.int .u8 x, .int .i64 k] w fun e w' => e = .returned (.int .u8 (rot x k : Nat)) ∧ w = w' := by
  obtain ⟨h1, h2, h3, h4, h6⟩ := and_seven
  rcases hk with rfl | rfl | rfl | rfl | rfl
  all_goals
    go_enter Try.func71, Try.ntmps71
    go_wp2
    go_ret
    exact ⟨ret_int (by first | exact rot1 x hx | exact rot2 x hx | exact rot3 x hx | exact rot4 x hx | exact rot6 x hx), rfl⟩

theorem sub_bits : ∀ b : Nat, b < 256 →
    bits .xor .u8 (bits .xor .u8 (bits .xor .u8 (bits .xor .u8 (bits .xor .u8 (b : Int) ((rot b 1 : Nat) : Int)) ((rot b 2 : Nat) : Int)) ((rot b 3 : Nat) : Int)) ((rot b 4 : Nat) : Int)) 99 = ((aff b : Nat) : Int) := by decide +kernel

set_option maxRecDepth 100000 in
theorem sub_any (a : Nat) (w : World) (ha : a < 256) :
    Calls Try.prog 47 #[.int .u8 a] w fun e w' => e = .returned (.int .u8 (sub a : Nat)) ∧ w = w' := by
  go_enter Try.func47, Try.ntmps47
  go_wp2_with fail
  refine (inv_any a _ ha).mono ?_
  rintro e w' ⟨rfl, rfl⟩
  go_wp2_with fail
  refine (rot_any _ 1 _ (inv_lt ha) (by decide)).mono ?_
  rintro e w' ⟨rfl, rfl⟩
  go_wp2_with fail
  refine (rot_any _ 2 _ (inv_lt ha) (by decide)).mono ?_
  rintro e w' ⟨rfl, rfl⟩
  go_wp2_with fail
  refine (rot_any _ 3 _ (inv_lt ha) (by decide)).mono ?_
  rintro e w' ⟨rfl, rfl⟩
  go_wp2_with fail
  refine (rot_any _ 4 _ (inv_lt ha) (by decide)).mono ?_
  rintro e w' ⟨rfl, rfl⟩
  go_wp2
  go_ret
  exact ⟨ret_int (sub_bits _ (inv_lt ha)), rfl⟩
end Go.Proofs.Ytgnhbfjngdgibaa

/-
  The contracts of the document's calls on elements.
-/
namespace Go.Proofs.Ytgnhbfjngdgibaa
open Go.RowKit

theorem wrap64_nat (n : Nat) (h : n < 2 ^ 63) : wrap64 (n : Int) = (n : Int) := by unfold wrap64; omega

theorem i64_xor_nat (a b : Nat) (ha : a < 2 ^ 62) (hb : b < 2 ^ 62) : bits .xor .i64 (a : Int) (b : Int) = ((a ^^^ b : Nat) : Int) := by
  have hx : a ^^^ b < 2 ^ 62 := Nat.xor_lt_two_pow (by omega) (by omega)
  have e : ∀ n : Nat, n < 2 ^ 62 → (BitVec.ofInt 64 (n : Int)).toNat = n := fun n hn => by
    rw [BitVec.ofInt_natCast, BitVec.toNat_ofNat]; exact Nat.mod_eq_of_lt (by omega)
  show IntKind.i64.wrap ((BitVec.ofInt 64 (a : Int) ^^^ BitVec.ofInt 64 (b : Int)).toNat : Int) = _
  rw [BitVec.toNat_xor, e a ha, e b hb]
  simp [IntKind.wrap, IntKind.bits, IntKind.signed]
  omega

theorem div_bit (a k : Nat) : ((a : Int) / 2 ^ k) = ((a / 2 ^ k : Nat) : Int) := by simp

theorem bit_val (a k : Nat) (ha : a < 256) : (wrap64 ((a : Int) / 2 ^ k)).tmod 2 = ((a / 2 ^ k % 2 : Nat) : Int) := by
  have h : a / 2 ^ k ≤ a := Nat.div_le_self _ _
  rw [div_bit, wrap64_nat _ (by omega)]
  rfl

set_option maxRecDepth 100000 in
theorem bit_any (a i : Nat) (w : World) (ha : a < 256) (hi : i ≤ 16) :
    Calls Try.prog 77 #[.int .u8 a, .int .i64 i] w fun e w' => e = .returned (.int .i64 (a / 2 ^ (i % 8) % 2 : Nat)) ∧ w = w' := by
  go_enter Try.func77, Try.ntmps77
  go_wp2
  go_ret
  exact ⟨ret_int (bit_val a _ ha), rfl⟩

/-- The step of the multiplying out. -/
theorem cm_step {a b k : Nat} (ha : a < 256) (hk : k < 8) :
    (b / 2 ^ (k % 8) % 2 = 1 → bits .xor .i64 ((cm k a b : Nat) : Int) (wrap64 ((a : Int) * 2 ^ k)) = ((cm (k + 1) a b : Nat) : Int)) ∧ (¬ b / 2 ^ (k % 8) % 2 = 1 → cm k a b = cm (k + 1) a b) := by
  have ht : b.testBit k = decide (b / 2 ^ k % 2 = 1) := by
    rw [Nat.testBit_eq_decide_div_mod_eq]
  rw [show k % 8 = k from by omega]
  have hp : 2 ^ k ≤ 2 ^ 7 := Nat.pow_le_pow_right (by decide) (by omega)
  have hm : a * 2 ^ k ≤ 256 * 2 ^ 7 := Nat.mul_le_mul (by omega) hp
  have hc : cm k a b < 2 ^ 16 := Nat.lt_of_lt_of_le (cm_lt k b ha) (Nat.pow_le_pow_right (by decide) (by omega))
  constructor
  · intro h
    have e : ((a : Int) * 2 ^ k) = ((a * 2 ^ k : Nat) : Int) := by simp
    rw [e, wrap64_nat _ (by omega), i64_xor_nat _ _ (by omega) (by omega)]
    simp only [cm]
    rw [ht, if_pos (by simpa using h), Nat.shiftLeft_eq]
  · intro h
    simp only [cm]
    rw [ht, if_neg (by simpa using h), Nat.xor_zero]

theorem rd_step (j p : Nat) (hp : p < 2 ^ 16) (hj : j < 7) :
    ((p / 2 ^ (j + 8)) % 2 = 1 → bits .xor .i64 (p : Int) (wrap64 (283 * 2 ^ j)) = ((p ^^^ (if p.testBit (j + 8) then 283 <<< j else 0) : Nat) : Int)) ∧
    (¬ (p / 2 ^ (j + 8)) % 2 = 1 → p = p ^^^ (if p.testBit (j + 8) then 283 <<< j else 0)) := by
  have ht : p.testBit (j + 8) = decide (p / 2 ^ (j + 8) % 2 = 1) := by
    rw [Nat.testBit_eq_decide_div_mod_eq]
  have hq : 2 ^ j ≤ 2 ^ 6 := Nat.pow_le_pow_right (by decide) (by omega)
  constructor
  · intro h
    have e : ((283 : Int) * 2 ^ j) = ((283 * 2 ^ j : Nat) : Int) := by simp
    rw [e, wrap64_nat _ (by omega), i64_xor_nat _ _ (by omega) (by omega)]
    rw [ht, if_pos (by simpa using h), Nat.shiftLeft_eq]
  · intro h
    rw [ht, if_neg (by simpa using h), Nat.xor_zero]

theorem tbit (p k : Nat) : ((p : Int) / 2 ^ k).tmod 2 = ((p / 2 ^ k % 2 : Nat) : Int) := by rw [div_bit]; rfl
theorem tbit_one {p k : Nat} (h : (((p : Int) / 2 ^ k).tmod 2 == 1) = true) : p / 2 ^ k % 2 = 1 := by
  rw [tbit] at h
  have := eq_of_beq h
  omega
theorem tbit_none {p k : Nat} (h : (((p : Int) / 2 ^ k).tmod 2 == 1) = false) : ¬ p / 2 ^ k % 2 = 1 := by
  rw [tbit] at h
  have := ne_of_beq_false h
  omega

theorem rd_lt16 (j p : Nat) (hp : p < 2 ^ 16) (hj : j < 7) : p ^^^ (if p.testBit (j + 8) then 283 <<< j else 0) < 2 ^ 16 := by
  refine Nat.xor_lt_two_pow (n := 16) hp ?_
  split
  · rw [Nat.shiftLeft_eq]
    have hq : 2 ^ j ≤ 2 ^ 6 := Nat.pow_le_pow_right (by decide) (by omega)
    omega
  · decide

set_option maxHeartbeats 400000 in
set_option maxRecDepth 100000 in
theorem refMul_any (a b : Nat) (w : World) (ha : a < 256) (hb : b < 256) :
    Calls Try.prog 84 #[.int .u8 a, .int .u8 b] w fun e w' => e = .returned (.int .u8 (mul a b : Nat)) ∧ w = w' := by
  go_enter Try.func84, Try.ntmps84
  go_wp2
  go_loop [5, 6] (fun p i => ∃ k : Nat, k ≤ 8 ∧ i = .int .i64 (k : Int) ∧ p = .int .i64 (cm k a b : Nat)) (fun _ i => 8 - (intOf i).toNat)
  case atStart => exact ⟨0, by decide, rfl, rfl⟩
  case round =>
    obtain ⟨k, hk, rfl, rfl⟩ := hrel
    by_cases hlt : k < 8
    · have HC := hid (cm_step (b := b) ha hlt)
      go_wp2_with fail
      refine (bit_any b k _ hb (by omega)).mono ?_
      rintro e w' ⟨rfl, rfl⟩
      by_cases hbit : b / 2 ^ (k % 8) % 2 = 1
      · rw [hbit]
        have hc := hid (HC.out.1 hbit)
        clear hbit HC
        go_wp2
        go_round
        case rel => exact ⟨k + 1, by omega, by go_num, by rw [hc.out]⟩
        case measure => simp [intOf]; omega
      · have h0 : b / 2 ^ (k % 8) % 2 = 0 := by omega
        rw [h0]
        have hc := hid (HC.out.2 hbit)
        clear hbit HC h0
        go_wp2
        go_round
        case rel => exact ⟨k + 1, by omega, by go_num, by rw [hc.out]⟩
        case measure => simp [intOf]; omega
    · obtain rfl : k = 8 := by omega
      have hc16 : cm 8 a b < 2 ^ 16 := cm_lt 8 b ha
      have HM := hid (rest_mul ha hb)
      go_wp2
      go_loop [5, 7] (fun p i => ∃ j p' : Nat, j ≤ 7 ∧ p' < 2 ^ 16 ∧ i = .int .i64 ((j : Int) + 7) ∧ p = .int .i64 (p' : Nat) ∧ rd j p' = mul a b) (fun _ i => (intOf i).toNat)
      case atStart => exact ⟨7, cm 8 a b, by decide, hc16, rfl, rfl, HM.out⟩
      case round =>
        obtain ⟨j, p', hj, hp', rfl, rfl, hrd⟩ := hrel
        rcases j with _ | j
        · have hp : p' = mul a b := hrd
          subst hp
          have hm := mul_lt b ha
          clear hrd
          go_wp2
          go_ret
          exact ⟨rfl, rfl⟩
        · have HR := hid hrd
          have HS := hid (rd_step j p' hp' (by omega))
          have hl := rd_lt16 j p' hp' (by omega)
          clear hrd
          rw [show ((j + 1 : Nat) : Int) + 7 = ((j + 8 : Nat) : Int) from by omega]
          go_wp2
          · have ht : (((p' : Int) / 2 ^ (j + 8)).tmod 2 == 1) = true := by assumption
            go_round
            case rel => exact ⟨j, _, by omega, hl, by go_num, by rw [HS.out.1 (tbit_one ht)], HR.out⟩
            case measure => simp [intOf]; omega
          · have ht : (((p' : Int) / 2 ^ (j + 8)).tmod 2 == 1) = false := by assumption
            go_round
            case rel => exact ⟨j, _, by omega, hl, by go_num, by rw [← HS.out.2 (tbit_none ht)], HR.out⟩
            case measure => simp [intOf]; omega

set_option maxRecDepth 100000 in
set_option maxHeartbeats 400000 in
theorem refInv_any (a : Nat) (w : World) (ha : a < 256) :
    Calls Try.prog 76 #[.int .u8 a] w fun e w' => e = .returned (.int .u8 (inv a : Nat)) ∧ w = w' := by
  go_enter Try.func76, Try.ntmps76
  go_wp2
  go_loop [3] (fun i => ∃ k : Nat, k ≤ 256 ∧ i = .int .i64 (k : Int) ∧ ∀ j, j < k → mul a j ≠ 1) (fun i => 256 - (intOf i).toNat)
  case atStart => exact ⟨0, by decide, rfl, fun j hj => absurd hj (Nat.not_lt_zero j)⟩
  case round =>
    obtain ⟨k, hk, rfl, hrel⟩ := hrel
    have HR := hid hrel
    clear hrel
    by_cases hlt : k < 256
    · have HI := hid (fun h => @inv_only a k ha hlt h)
      go_wp2_with fail
      refine (refMul_any a k _ ha hlt).mono ?_
      rintro e w' ⟨rfl, rfl⟩
      by_cases h1 : mul a k = 1
      · have hi := hid (HI.out h1)
        rw [h1]
        clear h1 HI
        go_wp2
        go_ret
        exact ⟨ret_int (by rw [hi.out]), rfl⟩
      · go_wp2
        go_round
        case rel =>
          refine ⟨k + 1, by omega, by go_num, fun j hj => ?_⟩
          rcases (show j < k ∨ j = k from by omega) with h | h
          · exact HR.out j h
          · rw [h]; exact h1
        case measure => simp [intOf]; omega
    · obtain rfl : k = 256 := by omega
      have h0 : inv a = 0 := by
        by_cases hz : a = 0
        · rw [hz]; exact inv_zero
        · exact absurd (mul_inv_all a ha hz) (HR.out _ (inv_lt ha))
      have H0 := hid h0
      clear h0
      go_wp2
      go_ret
      exact ⟨ret_int (by rw [H0.out]; rfl), rfl⟩

set_option maxHeartbeats 400000 in
set_option maxRecDepth 100000 in
theorem refPower_any (a n : Nat) (w : World) (ha : a < 256) (hn : n < 2 ^ 32) :
    Calls Try.prog 75 #[.int .u8 a, .int .u32 n] w fun e w' => e = .returned (.int .u8 (pw a n : Nat)) ∧ w = w' := by
  go_enter Try.func75, Try.ntmps75
  by_cases h0 : n = 0
  · subst h0
    go_wp2
    go_ret
    exact ⟨rfl, rfl⟩
  · by_cases ha0 : a = 0
    · subst ha0
      have HZ := hid (pw_zero n h0)
      go_wp2
      go_ret
      exact ⟨ret_int (by rw [HZ.out]; rfl), rfl⟩
    · have HP := hid (pw_round ha ha0 n)
      have e1 : ((n : Int) == 0) = false := by rw [beq_eq_false_iff_ne]; omega
      have e2 : ((a : Int) == 0) = false := by rw [beq_eq_false_iff_ne]; omega
      go_wp2
      go_loop [5, 6] (fun c i => ∃ k : Nat, k ≤ n % 255 ∧ i = .int .u32 (k : Int) ∧ c = .int .u8 (pw a k : Nat)) (fun _ i => 255 - (intOf i).toNat)
      case atStart => exact ⟨0, Nat.zero_le _, rfl, rfl⟩
      case round =>
        obtain ⟨k, hk, rfl, rfl⟩ := hrel
        by_cases hlt : k < n % 255
        · go_wp2_with fail
          refine (refMul_any _ a _ (pw_lt ha k) ha).mono ?_
          rintro e w' ⟨rfl, rfl⟩
          go_wp2
          go_round
          case rel => exact ⟨k + 1, by omega, by go_num, rfl⟩
          case measure => simp [intOf]; omega
        · obtain rfl : k = n % 255 := by omega
          go_wp2
          go_ret
          exact ⟨ret_int (by rw [HP.out]), rfl⟩
end Go.Proofs.Ytgnhbfjngdgibaa

/-
  The document's substitutes.
-/
namespace Go.Proofs.Ytgnhbfjngdgibaa
open Go.RowKit

theorem bit_some (a i : Nat) (w : World) (ha : a < 256) (hi : i ≤ 16) :
    Calls Try.prog 77 #[.int .u8 a, .int .i64 i] w fun e w' => ∃ x : Nat, e = .returned (.int .i64 x) ∧ Hid (x = a / 2 ^ (i % 8) % 2) ∧ x < 2 ∧ w = w' :=
  (bit_any a i w ha hi).mono fun e w' ⟨he, hw⟩ => ⟨_, he, rfl, Nat.mod_lt _ (by decide), hw⟩

theorem srows_step {b t x0 x1 x2 x3 x4 x5 : Nat} (ht : t < 8) (h0 : x0 = b / 2 ^ (t % 8) % 2) (h1 : x1 = b / 2 ^ ((t + 4) % 8) % 2) (h2 : x2 = b / 2 ^ ((t + 5) % 8) % 2) (h3 : x3 = b / 2 ^ ((t + 6) % 8) % 2)
    (h4 : x4 = b / 2 ^ ((t + 7) % 8) % 2) (h5 : x5 = 99 / 2 ^ (t % 8) % 2) : 2 * srows (7 - t) b + (x0 + x1 + x2 + x3 + x4 + x5) % 2 = srows (8 - t) b := by
  subst h0 h1 h2 h3 h4 h5
  rw [show 8 - t = (7 - t) + 1 from by omega]
  simp only [srows]
  rw [show 7 - (7 - t) = t from by omega]
  rfl

set_option maxRecDepth 100000 in
set_option maxHeartbeats 1000000 in
theorem refSub_any (a : Nat) (w : World) (ha : a < 256) :
    Calls Try.prog 62 #[.int .u8 a] w fun e w' => e = .returned (.int .u8 (sub a : Nat)) ∧ w = w' := by
  have hb := inv_lt ha
  have HF := hid (srows_aff (inv a) hb)
  show Calls _ _ _ _ fun e w' => e = .returned (.int .u8 (aff (inv a) : Nat)) ∧ w = w'
  go_enter Try.func62, Try.ntmps62
  go_wp2_with fail
  refine (refInv_any a _ ha).mono ?_
  rintro e w' ⟨rfl, rfl⟩
  generalize hbe : inv a = b at hb HF
  have HB := hid hbe
  clear hbe
  go_wp2
  go_loop [4, 5] (fun s i => ∃ n : Nat, n ≤ 8 ∧ i = .int .i64 ((n : Int) - 1) ∧ s = .int .i64 (srows (8 - n) b : Nat)) (fun _ i => (intOf i + 1).toNat)
  case atStart => exact ⟨8, by decide, rfl, rfl⟩
  case round =>
    obtain ⟨n, hn, rfl, rfl⟩ := hrel
    rcases n with _ | t
    · have hl : srows 8 b < 256 := srows_lt 8 b
      go_wp2
      go_ret
      exact ⟨ret_int (by rw [HB.out, ← HF.out]), rfl⟩
    · rw [show ((t + 1 : Nat) : Int) - 1 = (t : Int) from by omega, show 8 - (t + 1) = 7 - t from by omega]
      have hl : srows (7 - t) b < 128 := Nat.lt_of_lt_of_le (srows_lt (7 - t) b) (Nat.pow_le_pow_right (n := 2) (by decide) (show 7 - t ≤ 7 by omega))
      go_wp2_with fail
      refine (bit_some b t _ hb (by omega)).mono ?_
      rintro e w' ⟨x0, rfl, h0, l0, rfl⟩
      go_wp2_with fail
      refine (bit_some b (t + 4) _ hb (by omega)).mono ?_
      rintro e w' ⟨x1, rfl, h1, l1, rfl⟩
      go_wp2_with fail
      refine (bit_some b (t + 5) _ hb (by omega)).mono ?_
      rintro e w' ⟨x2, rfl, h2, l2, rfl⟩
      go_wp2_with fail
      refine (bit_some b (t + 6) _ hb (by omega)).mono ?_
      rintro e w' ⟨x3, rfl, h3, l3, rfl⟩
      go_wp2_with fail
      refine (bit_some b (t + 7) _ hb (by omega)).mono ?_
      rintro e w' ⟨x4, rfl, h4, l4, rfl⟩
      go_wp2_with fail
      refine (bit_some 99 t _ (by decide) (by omega)).mono ?_
      rintro e w' ⟨x5, rfl, h5, l5, rfl⟩
      go_wp2
      go_round
      case rel =>
        refine ⟨t, by omega, by go_num, ?_⟩
        rw [← srows_step (by omega) h0.out h1.out h2.out h3.out h4.out h5.out]
        rfl
      case measure => simp [intOf]

end Go.Proofs.Ytgnhbfjngdgibaa
