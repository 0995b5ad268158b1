/-
  The field of 2^128 elements, as numbers: the highest bit is the coefficient of x^0. Stands on no function of the program.
-/
import Derived.Test.YtadpnkecdjleiaaBase
namespace Go.Proofs.Ytadpnkecdjleiaa.G
set_option linter.unusedVariables false
set_option linter.unusedSimpArgs false

/-- The sum of the first n. -/
def xsum : Nat → (Nat → Nat) → Nat
  | 0, _ => 0
  | n + 1, f => xsum n f ^^^ f n

theorem xsum_congr {n : Nat} {f g : Nat → Nat} (h : ∀ i, i < n → f i = g i) : xsum n f = xsum n g := by
  induction n with
  | zero => rfl
  | succ n ih => rw [xsum, xsum, ih (fun i hi => h i (by omega)), h n (by omega)]
theorem xor4 (a b c d : Nat) : (a ^^^ b) ^^^ (c ^^^ d) = (a ^^^ c) ^^^ (b ^^^ d) := by
  rw [Nat.xor_assoc, Nat.xor_assoc, ← Nat.xor_assoc b c d, Nat.xor_comm b c, Nat.xor_assoc]
theorem xsum_xor (n : Nat) (f g : Nat → Nat) : xsum n (fun i => f i ^^^ g i) = xsum n f ^^^ xsum n g := by
  induction n with
  | zero => simp [xsum]
  | succ n ih => rw [xsum, xsum, xsum, ih, xor4]
theorem xsum_zero (n : Nat) : xsum n (fun _ => 0) = 0 := by
  induction n with
  | zero => rfl
  | succ n ih => rw [xsum, ih]; rfl
theorem xsum_swap (n m : Nat) (f : Nat → Nat → Nat) : xsum n (fun i => xsum m (fun k => f i k)) = xsum m (fun k => xsum n (fun i => f i k)) := by
  induction n with
  | zero => rw [xsum]; exact (xsum_zero m).symm
  | succ n ih => rw [xsum, ih, ← xsum_xor]; exact xsum_congr fun k _ => rfl
theorem xsum_lt {n b : Nat} {f : Nat → Nat} (h : ∀ i, i < n → f i < 2 ^ b) : xsum n f < 2 ^ b := by
  induction n with
  | zero => exact Nat.pow_pos (by decide)
  | succ n ih => exact Nat.xor_lt_two_pow (ih fun i hi => h i (by omega)) (h n (by omega))

/-- Spreads over sums. -/
def Lin (L : Nat → Nat) : Prop := ∀ a b, L (a ^^^ b) = L a ^^^ L b
theorem Lin.zero {L : Nat → Nat} (h : Lin L) : L 0 = 0 := by
  have := h 0 0
  rw [Nat.xor_self] at this
  rw [this, Nat.xor_self]
theorem Lin.sum {L : Nat → Nat} (h : Lin L) (n : Nat) (f : Nat → Nat) : L (xsum n f) = xsum n fun i => L (f i) := by
  induction n with
  | zero => exact h.zero
  | succ n ih => rw [xsum, h, ih]; rfl

/-- v, if b. -/
def gate (b : Bool) (v : Nat) : Nat := if b then v else 0
theorem gate_xor (a b : Bool) (v : Nat) : gate (a ^^ b) v = gate a v ^^^ gate b v := by cases a <;> cases b <;> simp [gate]
theorem gate_add (a : Bool) (u v : Nat) : gate a (u ^^^ v) = gate a u ^^^ gate a v := by cases a <;> simp [gate]
theorem gate_swap (a b : Bool) (v : Nat) : gate a (gate b v) = gate b (gate a v) := by cases a <;> cases b <;> simp [gate]
theorem gate_zero (a : Bool) : gate a 0 = 0 := by cases a <;> rfl
theorem gate_lt {a : Bool} {v b : Nat} (h : v < 2 ^ b) : gate a v < 2 ^ b := by cases a <;> simp [gate, h, Nat.pow_pos]
theorem Lin.gate {L : Nat → Nat} (h : Lin L) (b : Bool) (v : Nat) : L (gate b v) = gate b (L v) := by cases b <;> simp [G.gate, h.zero]
theorem gate_sum (a : Bool) (n : Nat) (f : Nat → Nat) : gate a (xsum n f) = xsum n fun i => gate a (f i) := by
  induction n with
  | zero => exact gate_zero a
  | succ n ih => rw [xsum, gate_add, ih]; rfl

/-- x^128, less the polynomial. -/
def rest : Nat := 0xe1000000000000000000000000000000
/-- Times x. -/
def dbl (y : Nat) : Nat := (y >>> 1) ^^^ gate (y.testBit 0) rest
theorem dbl_lin : Lin dbl := fun a b => by
  unfold dbl
  rw [Nat.shiftRight_xor_distrib, Nat.testBit_xor, gate_xor, xor4]
theorem dbl_lt {y : Nat} (h : y < 2 ^ 128) : dbl y < 2 ^ 128 := by
  refine Nat.xor_lt_two_pow ?_ (gate_lt (by decide))
  rw [Nat.shiftRight_eq_div_pow]
  omega
/-- Times x^i. -/
def dblN : Nat → Nat → Nat
  | 0, y => y
  | i + 1, y => dbl (dblN i y)
theorem dblN_lin (i : Nat) : Lin (dblN i) := by
  induction i with
  | zero => exact fun a b => rfl
  | succ i ih => exact fun a b => by rw [dblN, ih, dbl_lin]; rfl
theorem dblN_lt {y : Nat} (h : y < 2 ^ 128) (i : Nat) : dblN i y < 2 ^ 128 := by
  induction i with
  | zero => exact h
  | succ i ih => exact dbl_lt ih
theorem dblN_add (i k y : Nat) : dblN (i + k) y = dblN i (dblN k y) := by
  induction i with
  | zero => rw [Nat.zero_add]; rfl
  | succ i ih => rw [show i + 1 + k = i + k + 1 from by omega, dblN, ih]; rfl
theorem dblN_dbl (i y : Nat) : dblN i (dbl y) = dbl (dblN i y) := by
  rw [show dbl y = dblN 1 y from rfl, ← dblN_add, Nat.add_comm, dblN_add]; rfl

/-- The element 1. -/
def one : Nat := 2 ^ 127
/-- x^i. -/
def D (i : Nat) : Nat := dblN i one
theorem one_lt : one < 2 ^ 128 := by decide
theorem D_lt (i : Nat) : D i < 2 ^ 128 := dblN_lt one_lt i
theorem dbl_two (k : Nat) : dbl (2 ^ (k + 1)) = 2 ^ k := by
  unfold dbl
  have h1 : (2 ^ (k + 1)) >>> 1 = 2 ^ k := by rw [Nat.shiftRight_eq_div_pow, Nat.pow_succ]; omega
  have h2 : (2 ^ (k + 1)).testBit 0 = false := by
    rw [Nat.testBit_zero, Nat.pow_succ, decide_eq_false_iff_not]; omega
  rw [h1, h2]
  simp [gate]
theorem D_pow : ∀ i, i < 128 → D i = 2 ^ (127 - i)
  | 0, _ => rfl
  | i + 1, h => by
    rw [D, dblN, show dblN i one = D i from rfl, D_pow i (by omega), show 127 - i = 127 - (i + 1) + 1 from by omega, dbl_two]
theorem D_more (j : Nat) : D (j + 128) = D j ^^^ D (j + 1) ^^^ D (j + 2) ^^^ D (j + 7) := by
  have h : D 128 = D 0 ^^^ D 1 ^^^ D 2 ^^^ D 7 := by
    rw [show D 128 = dbl (D 127) from rfl, D_pow 127 (by decide), D_pow 0 (by decide), D_pow 1 (by decide), D_pow 2 (by decide), D_pow 7 (by decide)]
    decide
  have e : ∀ k, D (j + k) = dblN j (D k) := fun k => dblN_add j k one
  rw [e 128, h, dblN_lin, dblN_lin, dblN_lin, ← e 0, ← e 1, ← e 2, ← e 7, Nat.add_zero]

/-- A number is the sum of its bits. -/
theorem sum_bits (x j : Nat) : ∀ n, n ≤ 128 → (xsum n fun i => gate (x.testBit (127 - i)) (2 ^ (127 - i))).testBit j = (decide (j ≤ 127 ∧ 127 - j < n) && x.testBit j)
  | 0, _ => by simp [xsum]
  | n + 1, h => by
    rw [xsum, Nat.testBit_xor, sum_bits x j n (by omega)]
    have e : (gate (x.testBit (127 - n)) (2 ^ (127 - n))).testBit j = (decide (127 - n = j) && x.testBit (127 - n)) := by
      cases x.testBit (127 - n)
      · simp [gate]
      · simp [gate, Nat.testBit_two_pow]
    rw [e]
    by_cases hj : 127 - n = j
    · subst hj
      have a1 : ¬ (127 - n ≤ 127 ∧ 127 - (127 - n) < n) := by omega
      have a2 : 127 - n ≤ 127 ∧ 127 - (127 - n) < n + 1 := by omega
      rw [decide_eq_false a1, decide_eq_true a2]
      simp
    · by_cases h2 : j ≤ 127 ∧ 127 - j < n
      · have a2 : j ≤ 127 ∧ 127 - j < n + 1 := by omega
        simp [h2, a2, hj]
      · have a2 : ¬ (j ≤ 127 ∧ 127 - j < n + 1) := by omega
        simp [h2, a2, hj]
theorem bits_sum {x : Nat} (h : x < 2 ^ 128) : (xsum 128 fun i => gate (x.testBit (127 - i)) (2 ^ (127 - i))) = x := by
  apply Nat.eq_of_testBit_eq
  intro j
  rw [sum_bits x j 128 (Nat.le_refl _)]
  by_cases hj : j ≤ 127
  · have a : j ≤ 127 ∧ 127 - j < 128 := by omega
    simp [a]
  · have e : x.testBit j = false := Nat.testBit_lt_two_pow (Nat.lt_of_lt_of_le h (Nat.pow_le_pow_right (by decide) (by omega)))
    simp [e]
theorem bits_D {x : Nat} (h : x < 2 ^ 128) : (xsum 128 fun i => gate (x.testBit (127 - i)) (D i)) = x :=
  (xsum_congr fun i hi => by rw [D_pow i hi]).trans (bits_sum h)
/-- What spreads over sums is known by what it makes of the powers of x. -/
theorem Lin.ext {L M : Nat → Nat} (hL : Lin L) (hM : Lin M) (h : ∀ i, i < 128 → L (D i) = M (D i)) {x : Nat} (hx : x < 2 ^ 128) : L x = M x := by
  rw [← bits_D hx, hL.sum, hM.sum]
  exact xsum_congr fun i hi => by rw [hL.gate, hM.gate, h i hi]

/-- The product. -/
def mul (x y : Nat) : Nat := xsum 128 fun i => gate (x.testBit (127 - i)) (dblN i y)
theorem mul_lt {x y : Nat} (hy : y < 2 ^ 128) : mul x y < 2 ^ 128 := xsum_lt fun i _ => gate_lt (dblN_lt hy i)
theorem mul_linR (x : Nat) : Lin (mul x) := fun a b => by
  unfold mul
  rw [← xsum_xor]
  exact xsum_congr fun i _ => by rw [dblN_lin, gate_add]
theorem mul_linL (y : Nat) : Lin fun x => mul x y := fun a b => by
  show mul (a ^^^ b) y = mul a y ^^^ mul b y
  unfold mul
  rw [← xsum_xor]
  exact xsum_congr fun i _ => by rw [Nat.testBit_xor, gate_xor]
theorem dblN_D {y : Nat} (h : y < 2 ^ 128) (i : Nat) : dblN i y = xsum 128 fun k => gate (y.testBit (127 - k)) (D (i + k)) := by
  have e := congrArg (dblN i) (bits_D h)
  rw [(dblN_lin i).sum] at e
  rw [← e]
  exact xsum_congr fun k _ => by rw [(dblN_lin i).gate, D, D, dblN_add]
theorem mul_D {x y : Nat} (h : y < 2 ^ 128) : mul x y = xsum 128 fun i => xsum 128 fun k => gate (x.testBit (127 - i)) (gate (y.testBit (127 - k)) (D (i + k))) :=
  xsum_congr fun i _ => by rw [dblN_D h, gate_sum]
theorem mul_comm {x y : Nat} (hx : x < 2 ^ 128) (hy : y < 2 ^ 128) : mul x y = mul y x := by
  rw [mul_D hy, mul_D hx, xsum_swap]
  exact xsum_congr fun i _ => xsum_congr fun k _ => by rw [gate_swap, Nat.add_comm]
theorem mul_dblR (x y : Nat) : mul x (dbl y) = dbl (mul x y) := by
  unfold mul
  rw [dbl_lin.sum]
  exact xsum_congr fun i _ => by rw [dblN_dbl, dbl_lin.gate]
theorem mul_dblL {x y : Nat} (hx : x < 2 ^ 128) (hy : y < 2 ^ 128) : mul (dbl x) y = dbl (mul x y) := by
  rw [mul_comm (dbl_lt hx) hy, mul_dblR, mul_comm hy hx]
theorem mul_dblNL {x y : Nat} (hx : x < 2 ^ 128) (hy : y < 2 ^ 128) (i : Nat) : mul (dblN i x) y = dblN i (mul x y) := by
  induction i with
  | zero => rfl
  | succ i ih => rw [dblN, mul_dblL (dblN_lt hx i) hy, ih]; rfl
theorem mul_assoc {x y z : Nat} (hy : y < 2 ^ 128) (hz : z < 2 ^ 128) : mul (mul x y) z = mul x (mul y z) := by
  show (fun t => mul t z) (xsum 128 fun i => gate (x.testBit (127 - i)) (dblN i y)) = _
  refine ((mul_linL z).sum 128 _).trans ?_
  exact xsum_congr fun i _ => by rw [(mul_linL z).gate]; show gate _ (mul (dblN i y) z) = _; rw [mul_dblNL hy hz]
theorem mul_one {x : Nat} (hx : x < 2 ^ 128) : mul x one = x := bits_D hx
theorem one_mul {x : Nat} (hx : x < 2 ^ 128) : mul one x = x := by rw [mul_comm one_lt hx, mul_one hx]
theorem mul_zero (x : Nat) : mul x 0 = 0 := (mul_linR x).zero
theorem zero_mul (x : Nat) : mul 0 x = 0 := (mul_linL x).zero
theorem mul_D1 {x : Nat} (hx : x < 2 ^ 128) : mul (D 1) x = dbl x := by
  rw [show D 1 = dbl one from rfl, mul_dblL one_lt hx, one_mul hx]

/-- As the program has it, round by round. -/
def mulR : Nat → Nat → Nat → Nat → Nat
  | 0, _, _, z => z
  | n + 1, x, y, z => mulR n x (dbl y) (z ^^^ gate (x.testBit n) y)
theorem mulR_eq (n : Nat) : ∀ x y z, mulR n x y z = z ^^^ xsum n fun i => gate (x.testBit (n - 1 - i)) (dblN i y) := by
  have shift : ∀ (n : Nat) (f : Nat → Nat), xsum (n + 1) f = f 0 ^^^ xsum n fun i => f (i + 1) := by
    intro n f
    induction n with
    | zero => simp [xsum]
    | succ n ih => rw [xsum, ih, Nat.xor_assoc]; rfl
  induction n with
  | zero => intro x y z; simp [mulR, xsum]
  | succ n ih =>
    intro x y z
    rw [mulR, ih, shift, Nat.xor_assoc]
    congr 1
    congr 1
    exact xsum_congr fun i hi => by rw [dblN_dbl, show n + 1 - 1 - (i + 1) = n - 1 - i from by omega]; rfl
theorem mul_R (x y : Nat) : mul x y = mulR 128 x y 0 := by rw [mulR_eq]; simp [mul]
end Go.Proofs.Ytadpnkecdjleiaa.G
