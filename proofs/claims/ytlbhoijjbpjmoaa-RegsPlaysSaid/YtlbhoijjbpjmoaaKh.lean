/-
  Gh, Ghv, Ght, Cp, Gp, in one text.
-/
import Derived.Test.YtlbhoijjbpjmoaaKa
/-
  The field of 2^128 elements, as numbers: the highest bit is the coefficient of x^0. Stands on no function of the program.
-/
namespace Go.Proofs.Ytlbhoijjbpjmoaa.G
set_option linter.unusedVariables false
set_option linter.unusedSimpArgs false

/-- The sum of the first n. -/
def xsum : Nat → (Nat → Nat) → Nat
  | 0, _ => 0
  | n + 1, f => xsum n f ^^^ f n

theorem xsum_congr {n : Nat} {f g : Nat → Nat} (h : ∀ i, i < n → f i = g i) : xsum n f = xsum n g := by
  induction n with
  | zero => rfl
  | succ n ih => rw [xsum, xsum, ih (fun i hi => h i (by omega)), h n (by omega)]
theorem xor4 (a b c d : Nat) : (a ^^^ b) ^^^ (c ^^^ d) = (a ^^^ c) ^^^ (b ^^^ d) := by
  rw [Nat.xor_assoc, Nat.xor_assoc, ← Nat.xor_assoc b c d, Nat.xor_comm b c, Nat.xor_assoc]
theorem xsum_xor (n : Nat) (f g : Nat → Nat) : xsum n (fun i => f i ^^^ g i) = xsum n f ^^^ xsum n g := by
  induction n with
  | zero => simp [xsum]
  | succ n ih => rw [xsum, xsum, xsum, ih, xor4]
theorem xsum_zero (n : Nat) : xsum n (fun _ => 0) = 0 := by
  induction n with
  | zero => rfl
  | succ n ih => rw [xsum, ih]; rfl
theorem xsum_swap (n m : Nat) (f : Nat → Nat → Nat) : xsum n (fun i => xsum m (fun k => f i k)) = xsum m (fun k => xsum n (fun i => f i k)) := by
  induction n with
  | zero => rw [xsum]; exact (xsum_zero m).symm
  | succ n ih => rw [xsum, ih, ← xsum_xor]; exact xsum_congr fun k _ => rfl
theorem xsum_lt {n b : Nat} {f : Nat → Nat} (h : ∀ i, i < n → f i < 2 ^ b) : xsum n f < 2 ^ b := by
  induction n with
  | zero => exact Nat.pow_pos (by decide)
  | succ n ih => exact Nat.xor_lt_two_pow (ih fun i hi => h i (by omega)) (h n (by omega))

/-- Spreads over sums. -/
def Lin (L : Nat → Nat) : Prop := ∀ a b, L (a ^^^ b) = L a ^^^ L b
theorem Lin.zero {L : Nat → Nat} (h : Lin L) : L 0 = 0 := by
  have := h 0 0
  rw [Nat.xor_self] at this
  rw [this, Nat.xor_self]
theorem Lin.sum {L : Nat → Nat} (h : Lin L) (n : Nat) (f : Nat → Nat) : L (xsum n f) = xsum n fun i => L (f i) := by
  induction n with
  | zero => exact h.zero
  | succ n ih => rw [xsum, h, ih]; rfl

/-- v, if b. -/
def gate (b : Bool) (v : Nat) : Nat := if b then v else 0
theorem gate_xor (a b : Bool) (v : Nat) : gate (a ^^ b) v = gate a v ^^^ gate b v := by cases a <;> cases b <;> simp [gate]
theorem gate_add (a : Bool) (u v : Nat) : gate a (u ^^^ v) = gate a u ^^^ gate a v := by cases a <;> simp [gate]
theorem gate_swap (a b : Bool) (v : Nat) : gate a (gate b v) = gate b (gate a v) := by cases a <;> cases b <;> simp [gate]
theorem gate_zero (a : Bool) : gate a 0 = 0 := by cases a <;> rfl
theorem gate_lt {a : Bool} {v b : Nat} (h : v < 2 ^ b) : gate a v < 2 ^ b := by cases a <;> simp [gate, h, Nat.pow_pos]
theorem Lin.gate {L : Nat → Nat} (h : Lin L) (b : Bool) (v : Nat) : L (gate b v) = gate b (L v) := by cases b <;> simp [G.gate, h.zero]
theorem gate_sum (a : Bool) (n : Nat) (f : Nat → Nat) : gate a (xsum n f) = xsum n fun i => gate a (f i) := by
  induction n with
  | zero => exact gate_zero a
  | succ n ih => rw [xsum, gate_add, ih]; rfl

/-- x^128, less the polynomial. -/
def rest : Nat := 0xe1000000000000000000000000000000
/-- Times x. -/
def dbl (y : Nat) : Nat := (y >>> 1) ^^^ gate (y.testBit 0) rest
theorem dbl_lin : Lin dbl := fun a b => by
  unfold dbl
  rw [Nat.shiftRight_xor_distrib, Nat.testBit_xor, gate_xor, xor4]
theorem dbl_lt {y : Nat} (h : y < 2 ^ 128) : dbl y < 2 ^ 128 := by
  refine Nat.xor_lt_two_pow ?_ (gate_lt (by decide))
  rw [Nat.shiftRight_eq_div_pow]
  omega
/-- Times x^i. -/
def dblN : Nat → Nat → Nat
  | 0, y => y
  | i + 1, y => dbl (dblN i y)
theorem dblN_lin (i : Nat) : Lin (dblN i) := by
  induction i with
  | zero => exact fun a b => rfl
  | succ i ih => exact fun a b => by rw [dblN, ih, dbl_lin]; rfl
theorem dblN_lt {y : Nat} (h : y < 2 ^ 128) (i : Nat) : dblN i y < 2 ^ 128 := by
  induction i with
  | zero => exact h
  | succ i ih => exact dbl_lt ih
theorem dblN_add (i k y : Nat) : dblN (i + k) y = dblN i (dblN k y) := by
  induction i with
  | zero => rw [Nat.zero_add]; rfl
  | succ i ih => rw [show i + 1 + k = i + k + 1 from by omega, dblN, ih]; rfl
theorem dblN_dbl (i y : Nat) : dblN i (dbl y) = dbl (dblN i y) := by
  rw [show dbl y = dblN 1 y from rfl, ← dblN_add, Nat.add_comm, dblN_add]; rfl

/-- The element 1. -/
def one : Nat := 2 ^ 127
/-- x^i. -/
def D (i : Nat) : Nat := dblN i one
theorem one_lt : one < 2 ^ 128 := by decide
theorem D_lt (i : Nat) : D i < 2 ^ 128 := dblN_lt one_lt i
theorem dbl_two (k : Nat) : dbl (2 ^ (k + 1)) = 2 ^ k := by
  unfold dbl
  have h1 : (2 ^ (k + 1)) >>> 1 = 2 ^ k := by rw [Nat.shiftRight_eq_div_pow, Nat.pow_succ]; omega
  have h2 : (2 ^ (k + 1)).testBit 0 = false := by
    rw [Nat.testBit_zero, Nat.pow_succ, decide_eq_false_iff_not]; omega
  rw [h1, h2]
  simp [gate]
theorem D_pow : ∀ i, i < 128 → D i = 2 ^ (127 - i)
  | 0, _ => rfl
  | i + 1, h => by
    rw [D, dblN, show dblN i one = D i from rfl, D_pow i (by omega), show 127 - i = 127 - (i + 1) + 1 from by omega, dbl_two]
theorem D_more (j : Nat) : D (j + 128) = D j ^^^ D (j + 1) ^^^ D (j + 2) ^^^ D (j + 7) := by
  have h : D 128 = D 0 ^^^ D 1 ^^^ D 2 ^^^ D 7 := by
    rw [show D 128 = dbl (D 127) from rfl, D_pow 127 (by decide), D_pow 0 (by decide), D_pow 1 (by decide), D_pow 2 (by decide), D_pow 7 (by decide)]
    decide
  have e : ∀ k, D (j + k) = dblN j (D k) := fun k => dblN_add j k one
  rw [e 128, h, dblN_lin, dblN_lin, dblN_lin, ← e 0, ← e 1, ← e 2, ← e 7, Nat.add_zero]

/-- A number is the sum of its bits. -/
theorem sum_bits (x j : Nat) : ∀ n, n ≤ 128 → (xsum n fun i => gate (x.testBit (127 - i)) (2 ^ (127 - i))).testBit j = (decide (j ≤ 127 ∧ 127 - j < n) && x.testBit j)
  | 0, _ => by simp [xsum]
  | n + 1, h => by
    rw [xsum, Nat.testBit_xor, sum_bits x j n (by omega)]
    have e : (gate (x.testBit (127 - n)) (2 ^ (127 - n))).testBit j = (decide (127 - n = j) && x.testBit (127 - n)) := by
      cases x.testBit (127 - n)
      · simp [gate]
      · simp [gate, Nat.testBit_two_pow]
    rw [e]
    by_cases hj : 127 - n = j
    · subst hj
      have a1 : ¬ (127 - n ≤ 127 ∧ 127 - (127 - n) < n) := by omega
      have a2 : 127 - n ≤ 127 ∧ 127 - (127 - n) < n + 1 := by omega
      rw [decide_eq_false a1, decide_eq_true a2]
      simp
    · by_cases h2 : j ≤ 127 ∧ 127 - j < n
      · have a2 : j ≤ 127 ∧ 127 - j < n + 1 := by omega
        simp [h2, a2, hj]
      · have a2 : ¬ (j ≤ 127 ∧ 127 - j < n + 1) := by omega
        simp [h2, a2, hj]
theorem bits_sum {x : Nat} (h : x < 2 ^ 128) : (xsum 128 fun i => gate (x.testBit (127 - i)) (2 ^ (127 - i))) = x := by
  apply Nat.eq_of_testBit_eq
  intro j
  rw [sum_bits x j 128 (Nat.le_refl _)]
  by_cases hj : j ≤ 127
  · have a : j ≤ 127 ∧ 127 - j < 128 := by omega
    simp [a]
  · have e : x.testBit j = false := Nat.testBit_lt_two_pow (Nat.lt_of_lt_of_le h (Nat.pow_le_pow_right (by decide) (by omega)))
    simp [e]
theorem bits_D {x : Nat} (h : x < 2 ^ 128) : (xsum 128 fun i => gate (x.testBit (127 - i)) (D i)) = x :=
  (xsum_congr fun i hi => by rw [D_pow i hi]).trans (bits_sum h)
/-- What spreads over sums is known by what it makes of the powers of x. -/
theorem Lin.ext {L M : Nat → Nat} (hL : Lin L) (hM : Lin M) (h : ∀ i, i < 128 → L (D i) = M (D i)) {x : Nat} (hx : x < 2 ^ 128) : L x = M x := by
  rw [← bits_D hx, hL.sum, hM.sum]
  exact xsum_congr fun i hi => by rw [hL.gate, hM.gate, h i hi]

/-- The product. -/
def mul (x y : Nat) : Nat := xsum 128 fun i => gate (x.testBit (127 - i)) (dblN i y)
theorem mul_lt {x y : Nat} (hy : y < 2 ^ 128) : mul x y < 2 ^ 128 := xsum_lt fun i _ => gate_lt (dblN_lt hy i)
theorem mul_linR (x : Nat) : Lin (mul x) := fun a b => by
  unfold mul
  rw [← xsum_xor]
  exact xsum_congr fun i _ => by rw [dblN_lin, gate_add]
theorem mul_linL (y : Nat) : Lin fun x => mul x y := fun a b => by
  show mul (a ^^^ b) y = mul a y ^^^ mul b y
  unfold mul
  rw [← xsum_xor]
  exact xsum_congr fun i _ => by rw [Nat.testBit_xor, gate_xor]
theorem dblN_D {y : Nat} (h : y < 2 ^ 128) (i : Nat) : dblN i y = xsum 128 fun k => gate (y.testBit (127 - k)) (D (i + k)) := by
  have e := congrArg (dblN i) (bits_D h)
  rw [(dblN_lin i).sum] at e
  rw [← e]
  exact xsum_congr fun k _ => by rw [(dblN_lin i).gate, D, D, dblN_add]
theorem mul_D {x y : Nat} (h : y < 2 ^ 128) : mul x y = xsum 128 fun i => xsum 128 fun k => gate (x.testBit (127 - i)) (gate (y.testBit (127 - k)) (D (i + k))) :=
  xsum_congr fun i _ => by rw [dblN_D h, gate_sum]
theorem mul_comm {x y : Nat} (hx : x < 2 ^ 128) (hy : y < 2 ^ 128) : mul x y = mul y x := by
  rw [mul_D hy, mul_D hx, xsum_swap]
  exact xsum_congr fun i _ => xsum_congr fun k _ => by rw [gate_swap, Nat.add_comm]
theorem mul_dblR (x y : Nat) : mul x (dbl y) = dbl (mul x y) := by
  unfold mul
  rw [dbl_lin.sum]
  exact xsum_congr fun i _ => by rw [dblN_dbl, dbl_lin.gate]
theorem mul_dblL {x y : Nat} (hx : x < 2 ^ 128) (hy : y < 2 ^ 128) : mul (dbl x) y = dbl (mul x y) := by
  rw [mul_comm (dbl_lt hx) hy, mul_dblR, mul_comm hy hx]
theorem mul_dblNL {x y : Nat} (hx : x < 2 ^ 128) (hy : y < 2 ^ 128) (i : Nat) : mul (dblN i x) y = dblN i (mul x y) := by
  induction i with
  | zero => rfl
  | succ i ih => rw [dblN, mul_dblL (dblN_lt hx i) hy, ih]; rfl
theorem mul_assoc {x y z : Nat} (hy : y < 2 ^ 128) (hz : z < 2 ^ 128) : mul (mul x y) z = mul x (mul y z) := by
  show (fun t => mul t z) (xsum 128 fun i => gate (x.testBit (127 - i)) (dblN i y)) = _
  refine ((mul_linL z).sum 128 _).trans ?_
  exact xsum_congr fun i _ => by rw [(mul_linL z).gate]; show gate _ (mul (dblN i y) z) = _; rw [mul_dblNL hy hz]
theorem mul_one {x : Nat} (hx : x < 2 ^ 128) : mul x one = x := bits_D hx
theorem one_mul {x : Nat} (hx : x < 2 ^ 128) : mul one x = x := by rw [mul_comm one_lt hx, mul_one hx]
theorem mul_zero (x : Nat) : mul x 0 = 0 := (mul_linR x).zero
theorem zero_mul (x : Nat) : mul 0 x = 0 := (mul_linL x).zero
theorem mul_D1 {x : Nat} (hx : x < 2 ^ 128) : mul (D 1) x = dbl x := by
  rw [show D 1 = dbl one from rfl, mul_dblL one_lt hx, one_mul hx]

/-- As the program has it, round by round. -/
def mulR : Nat → Nat → Nat → Nat → Nat
  | 0, _, _, z => z
  | n + 1, x, y, z => mulR n x (dbl y) (z ^^^ gate (x.testBit n) y)
theorem mulR_eq (n : Nat) : ∀ x y z, mulR n x y z = z ^^^ xsum n fun i => gate (x.testBit (n - 1 - i)) (dblN i y) := by
  have shift : ∀ (n : Nat) (f : Nat → Nat), xsum (n + 1) f = f 0 ^^^ xsum n fun i => f (i + 1) := by
    intro n f
    induction n with
    | zero => simp [xsum]
    | succ n ih => rw [xsum, ih, Nat.xor_assoc]; rfl
  induction n with
  | zero => intro x y z; simp [mulR, xsum]
  | succ n ih =>
    intro x y z
    rw [mulR, ih, shift, Nat.xor_assoc]
    congr 1
    congr 1
    exact xsum_congr fun i hi => by rw [dblN_dbl, show n + 1 - 1 - (i + 1) = n - 1 - i from by omega]; rfl
theorem mul_R (x y : Nat) : mul x y = mulR 128 x y 0 := by rw [mulR_eq]; simp [mul]
end Go.Proofs.Ytlbhoijjbpjmoaa.G

/-
  Elements of the field of 2^128, as sixteen bytes. Stands on no function of the program.
-/
namespace Go.Proofs.Ytlbhoijjbpjmoaa
open Go.RowKit
set_option linter.unusedVariables false
set_option linter.unusedSimpArgs false

theorem xor8 {a b : Nat} (ha : a < 256) (hb : b < 256) : bits .xor .u8 (a : Int) (b : Int) = ((a ^^^ b : Nat) : Int) := u8_xor_nat a b ha hb
/-- The first n of F. -/
def row (F : Nat → Nat) (n : Nat) : List Int := (List.range n).map fun j => ((F j : Nat) : Int)
theorem row_length (F : Nat → Nat) (n : Nat) : (row F n).length = n := by simp [row]
theorem row_snoc (F : Nat → Nat) (n : Nat) : row F (n + 1) = row F n ++ [((F n : Nat) : Int)] := by simp [row, List.range_succ]
theorem row_at (F : Nat → Nat) (n j : Nat) (h : j < n) : (row F n).getD j 0 = ((F j : Nat) : Int) := by
  simp [row, List.getD_eq_getElem?_getD, h]
theorem row_oct {F : Nat → Nat} (oF : ∀ j, F j < 256) (n : Nat) : Oct (row F n) := by
  intro x hx
  simp only [row, List.mem_map] at hx
  obtain ⟨j, _, rfl⟩ := hx
  have := oF j
  omega
theorem row_vals (F : Nat → Nat) (n : Nat) : (row F n).map (Value.int .u8) = vals n F := by simp [row, vals]

/-- The number of the first n bytes. -/
def nb (x : Nat → Nat) : Nat → Nat
  | 0 => 0
  | n + 1 => 256 * nb x n + x n
theorem num_row (x : Nat → Nat) (n : Nat) : num (row x n) = ((nb x n : Nat) : Int) := by
  induction n with
  | zero => rfl
  | succ n ih => rw [row_snoc, num_snoc, ih, nb]; omega
theorem nb_congr {x y : Nat → Nat} {n : Nat} (h : ∀ j, j < n → x j = y j) : nb x n = nb y n := by
  induction n with
  | zero => rfl
  | succ n ih => rw [nb, nb, ih (fun j hj => h j (by omega)), h n (by omega)]
theorem nb_lt {x : Nat → Nat} (ox : ∀ j, x j < 256) (n : Nat) : nb x n < 256 ^ n := by
  induction n with
  | zero => simp [nb]
  | succ n ih => rw [nb, Nat.pow_succ]; have := ox n; omega
theorem nb_add (x : Nat → Nat) (n m : Nat) : nb x (n + m) = nb x n * 256 ^ m + nb (fun j => x (n + j)) m := by
  induction m with
  | zero => simp [nb]
  | succ m ih =>
    have e : 256 * (nb x n * 256 ^ m) = nb x n * (256 ^ m * 256) := by rw [Nat.mul_comm, Nat.mul_assoc]
    rw [← Nat.add_assoc, nb, ih, nb, Nat.pow_succ, Nat.mul_add, e]
    omega
theorem nb_at {x : Nat → Nat} (ox : ∀ j, x j < 256) : ∀ n j, j < n → nb x n / 256 ^ (n - 1 - j) % 256 = x j
  | 0, j, h => by omega
  | n + 1, j, h => by
    rw [nb]
    have hx := ox n
    by_cases e : j = n
    · subst e
      rw [show j + 1 - 1 - j = 0 from by omega, Nat.pow_zero, Nat.div_one]; omega
    · have ih := nb_at ox n j (by omega)
      rw [show n + 1 - 1 - j = (n - 1 - j) + 1 from by omega, Nat.pow_succ, Nat.mul_comm (256 ^ (n - 1 - j)), ← Nat.div_div_eq_div_mul, show (256 * nb x n + x n) / 256 = nb x n from by omega]
      exact ih
theorem nb_of (v N : Nat) : ∀ n, n ≤ N → nb (fun j => v / 256 ^ (N - 1 - j) % 256) n = v / 256 ^ (N - n) % 256 ^ n
  | 0, _ => by rw [nb, Nat.pow_zero, Nat.mod_one]
  | n + 1, h => by
    rw [nb, nb_of v N n (by omega)]
    obtain ⟨u, hu⟩ : ∃ u, u = v / 256 ^ (N - (n + 1)) := ⟨_, rfl⟩
    have e : v / 256 ^ (N - n) = u / 256 := by
      rw [hu, show N - n = N - (n + 1) + 1 from by omega, Nat.pow_succ, Nat.div_div_eq_div_mul]
    rw [show N - 1 - n = N - (n + 1) from by omega, ← hu, e, Nat.pow_succ, Nat.mul_comm (256 ^ n) 256, Nat.mod_mul]
    omega

/-- The number of an element. -/
def el (x : Nat → Nat) : Nat := nb x 16
/-- Its bytes. -/
def by16 (v : Nat) (j : Nat) : Nat := v / 256 ^ (15 - j) % 256
theorem el_lt {x : Nat → Nat} (ox : ∀ j, x j < 256) : el x < 2 ^ 128 := nb_lt ox 16
theorem by16_lt (v j : Nat) : by16 v j < 256 := Nat.mod_lt _ (by decide)
theorem by16_el {x : Nat → Nat} (ox : ∀ j, x j < 256) (j : Nat) (hj : j < 16) : by16 (el x) j = x j := nb_at ox 16 j hj
theorem el_by16 {v : Nat} (hv : v < 2 ^ 128) : el (by16 v) = v := by
  have e := nb_of v 16 16 (Nat.le_refl _)
  rw [Nat.sub_self, Nat.pow_zero, Nat.div_one, Nat.mod_eq_of_lt (show v < 256 ^ 16 from hv)] at e
  exact e
theorem el_congr {x y : Nat → Nat} (h : ∀ j, j < 16 → x j = y j) : el x = el y := nb_congr h
theorem el_inj {x y : Nat → Nat} (ox : ∀ j, x j < 256) (oy : ∀ j, y j < 256) (h : el x = el y) (j : Nat) (hj : j < 16) : x j = y j := by
  rw [← by16_el ox j hj, ← by16_el oy j hj, h]
theorem el_words (x : Nat → Nat) : el x = nb x 8 * 18446744073709551616 + nb (fun j => x (8 + j)) 8 := nb_add x 8 8
theorem nb8_lt {x : Nat → Nat} (ox : ∀ j, x j < 256) : nb x 8 < 18446744073709551616 := nb_lt ox 8
theorem by16_vals {x : Nat → Nat} (ox : ∀ j, x j < 256) : vals 16 (by16 (el x)) = vals 16 x := vals_same (by16_el ox)

/-- Two words, as bytes. -/
theorem be_words {h l : Nat} (hh : h < 18446744073709551616) (hl : l < 18446744073709551616) : be 8 (h : Int) ++ be 8 (l : Int) = row (by16 (h * 18446744073709551616 + l)) 16 := by
  have e : ∀ k m : Nat, ((m : Nat) : Int) / 256 ^ k % 256 = ((m / 256 ^ k % 256 : Nat) : Int) := fun k m => by simp
  simp only [be, e, row, List.range, List.range.loop, List.map, List.cons_append, List.nil_append, by16]
  congr 1
  · omega
  congr 1
  · omega
  congr 1
  · omega
  congr 1
  · omega
  congr 1
  · omega
  congr 1
  · omega
  congr 1
  · omega
  congr 1
  · omega
  congr 1
  · omega
  congr 1
  · omega
  congr 1
  · omega
  congr 1
  · omega
  congr 1
  · omega
  congr 1
  · omega
  congr 1
  · omega
  congr 1
  · omega
end Go.Proofs.Ytlbhoijjbpjmoaa

/-
  The hash of texts, as numbers. Stands on no function of the program.
-/
namespace Go.Proofs.Ytlbhoijjbpjmoaa
open Go.RowKit
set_option linter.unusedVariables false
set_option linter.unusedSimpArgs false

theorem nb_xor {x y : Nat → Nat} (ox : ∀ j, x j < 256) (oy : ∀ j, y j < 256) (n : Nat) : nb (fun j => x j ^^^ y j) n = nb x n ^^^ nb y n := by
  induction n with
  | zero => simp [nb]
  | succ n ih =>
    rw [nb, nb, nb, ih]
    have hx := ox n
    have hy := oy n
    generalize nb x n = a
    generalize nb y n = b
    generalize x n = c at hx ⊢
    generalize y n = d at hy ⊢
    have h1 : ((256 * a + c) ^^^ (256 * b + d)) / 2 ^ 8 = a ^^^ b := by
      rw [← Nat.shiftRight_eq_div_pow, Nat.shiftRight_xor_distrib, Nat.shiftRight_eq_div_pow, Nat.shiftRight_eq_div_pow]
      congr 1 <;> omega
    have h2 : ((256 * a + c) ^^^ (256 * b + d)) % 2 ^ 8 = c ^^^ d := by
      rw [Nat.xor_mod_two_pow]
      congr 1 <;> omega
    have h3 := Nat.div_add_mod ((256 * a + c) ^^^ (256 * b + d)) (2 ^ 8)
    rw [h1, h2] at h3
    omega
theorem el_xor {x y : Nat → Nat} (ox : ∀ j, x j < 256) (oy : ∀ j, y j < 256) : el (fun j => x j ^^^ y j) = el x ^^^ el y := nb_xor ox oy 16
theorem xor_byte {a b : Nat} (ha : a < 256) (hb : b < 256) : a ^^^ b < 256 := Nat.xor_lt_two_pow (n := 8) ha hb
theorem by16_xor (u v j : Nat) : by16 (u ^^^ v) j = by16 u j ^^^ by16 v j := by
  unfold by16
  rw [show (256 : Nat) ^ (15 - j) = 2 ^ (8 * (15 - j)) by rw [show (256 : Nat) = 2 ^ 8 from rfl, ← Nat.pow_mul], ← Nat.shiftRight_eq_div_pow, ← Nat.shiftRight_eq_div_pow, ← Nat.shiftRight_eq_div_pow, Nat.shiftRight_xor_distrib, show (256 : Nat) = 2 ^ 8 from rfl, Nat.xor_mod_two_pow]

/-- The bytes of a list, and noughts behind them. -/
def byt (xs : List Int) (j : Nat) : Nat := (xs.getD j 0).toNat
theorem byt_lt {xs : List Int} (h : Oct xs) (j : Nat) : byt xs j < 256 := by
  have := h.at j
  unfold byt
  omega
theorem byt_at {xs : List Int} (h : Oct xs) (j : Nat) : xs.getD j 0 = ((byt xs j : Nat) : Int) := by
  have := h.at j
  unfold byt
  omega
theorem byt_past {xs : List Int} {j : Nat} (h : xs.length ≤ j) : byt xs j = 0 := by
  unfold byt
  rw [List.getD_eq_getElem?_getD, List.getElem?_eq_none h]
  rfl
theorem byt_drop (xs : List Int) (n j : Nat) : byt (xs.drop n) j = byt xs (n + j) := by
  unfold byt
  rw [List.getD_eq_getElem?_getD, List.getD_eq_getElem?_getD, List.getElem?_drop]
theorem byt_row (F : Nat → Nat) (n j : Nat) : byt (row F n) j = if j < n then F j else 0 := by
  by_cases h : j < n
  · unfold byt
    rw [row_at F n j h, if_pos h]; rfl
  · rw [byt_past (by rw [row_length]; omega), if_neg h]
theorem byt_left {xs ys : List Int} {j : Nat} (h : j < xs.length) : byt (xs ++ ys) j = byt xs j := by
  unfold byt
  rw [List.getD_eq_getElem?_getD, List.getD_eq_getElem?_getD, List.getElem?_append_left h]
theorem byt_right {xs ys : List Int} {j : Nat} (h : xs.length ≤ j) : byt (xs ++ ys) j = byt ys (j - xs.length) := by
  unfold byt
  rw [List.getD_eq_getElem?_getD, List.getD_eq_getElem?_getD, List.getElem?_append_right h]
theorem Oct.drop {xs : List Int} (h : Oct xs) (n : Nat) : Oct (xs.drop n) := fun x hx => h x (List.mem_of_mem_drop hx)
theorem Oct.append {xs ys : List Int} (h : Oct xs) (g : Oct ys) : Oct (xs ++ ys) := fun x hx => by
  rcases List.mem_append.1 hx with hx | hx
  · exact h x hx
  · exact g x hx

/-- The first block. -/
def blk (xs : List Int) : Nat := el (byt xs)
theorem blk_lt {xs : List Int} (h : Oct xs) : blk xs < 2 ^ 128 := el_lt (byt_lt h)
/-- n blocks are taken. -/
def tk (H : Nat) : Nat → Nat → List Int → Nat
  | 0, S, _ => S
  | n + 1, S, xs => tk H n (G.mul (S ^^^ blk xs) H) (xs.drop 16)
/-- All are. -/
def tkL (H S : Nat) (xs : List Int) : Nat := tk H ((xs.length + 15) / 16) S xs
theorem tkL_nil (H S : Nat) : tkL H S [] = S := rfl
theorem tkL_step (H S : Nat) {xs : List Int} (h : 0 < xs.length) : tkL H S xs = tkL H (G.mul (S ^^^ blk xs) H) (xs.drop 16) := by
  unfold tkL
  rw [show (xs.length + 15) / 16 = (xs.length - 1) / 16 + 1 from by omega, tk, List.length_drop]
  by_cases h2 : 16 ≤ xs.length
  · rw [show (xs.length - 16 + 15) / 16 = (xs.length - 1) / 16 from by omega]
  · rw [show (xs.length - 16 + 15) / 16 = 0 from by omega, show (xs.length - 1) / 16 = 0 from by omega]
theorem tk_lt {H : Nat} (hH : H < 2 ^ 128) : ∀ n {S : Nat} (xs : List Int), S < 2 ^ 128 → tk H n S xs < 2 ^ 128
  | 0, _, _, h => h
  | n + 1, _, xs, _ => tk_lt hH n _ (G.mul_lt hH)
theorem tkL_lt {H S : Nat} (hH : H < 2 ^ 128) (hS : S < 2 ^ 128) (xs : List Int) : tkL H S xs < 2 ^ 128 := tk_lt hH _ xs hS
theorem tk_same {H : Nat} : ∀ (n S : Nat) {xs ys : List Int}, (∀ j, byt xs j = byt ys j) → tk H n S xs = tk H n S ys
  | 0, _, _, _, _ => rfl
  | n + 1, S, xs, ys, h => by
    rw [tk, tk, show blk xs = blk ys from el_congr fun j _ => h j]
    exact tk_same n _ fun j => by rw [byt_drop, byt_drop, h]
/-- Sums of sums. -/
theorem tk_add {H : Nat} : ∀ (n S T : Nat) {xs ys zs : List Int}, (∀ j, byt xs j < 256) → (∀ j, byt ys j < 256) → (∀ j, byt zs j = byt xs j ^^^ byt ys j) → tk H n (S ^^^ T) zs = tk H n S xs ^^^ tk H n T ys
  | 0, _, _, _, _, _, _, _, _ => rfl
  | n + 1, S, T, xs, ys, zs, hx, hy, h => by
    rw [tk, tk, tk]
    have e : blk zs = blk xs ^^^ blk ys := by
      rw [blk, blk, blk, ← el_xor hx hy]
      exact el_congr fun j _ => h j
    have e2 : G.mul (S ^^^ T ^^^ blk zs) H = G.mul (S ^^^ blk xs) H ^^^ G.mul (T ^^^ blk ys) H := by
      rw [e, G.xor4]
      exact G.mul_linL H (S ^^^ blk xs) (T ^^^ blk ys)
    rw [e2]
    exact tk_add n _ _ (fun j => by rw [byt_drop]; exact hx _) (fun j => by rw [byt_drop]; exact hy _) fun j => by rw [byt_drop, byt_drop, byt_drop, h]
theorem tk_none {H : Nat} : ∀ (n : Nat) {xs : List Int}, (∀ j, byt xs j = 0) → tk H n 0 xs = 0
  | 0, _, _ => rfl
  | n + 1, xs, h => by
    have e : blk xs = 0 := by
      rw [blk, el_congr (y := fun _ => 0) fun j _ => h j]; rfl
    rw [tk, e, Nat.xor_self, G.zero_mul]
    exact tk_none n fun j => by rw [byt_drop]; exact h _
theorem tk_append {H : Nat} : ∀ (m n S : Nat) {xs : List Int} (ys : List Int), xs.length = 16 * m → tk H (m + n) S (xs ++ ys) = tk H n (tk H m S xs) ys
  | 0, n, S, xs, ys, h => by
    obtain rfl : xs = [] := List.length_eq_zero_iff.1 (by omega)
    rw [Nat.zero_add]; rfl
  | m + 1, n, S, xs, ys, h => by
    rw [show m + 1 + n = m + n + 1 from by omega, tk, tk, show blk (xs ++ ys) = blk xs from el_congr fun j hj => byt_left (by omega), List.drop_append_of_le_length (by omega)]
    exact tk_append m n _ ys (by rw [List.length_drop]; omega)
/-- Noughts that fill up. -/
def fillN (n : Nat) : Nat := (16 - n % 16) % 16
def full (xs : List Int) : List Int := xs ++ List.replicate (fillN xs.length) 0
theorem full_length (xs : List Int) : (full xs).length = 16 * ((xs.length + 15) / 16) := by
  simp only [full, List.length_append, List.length_replicate, fillN]; omega
theorem byt_zeros (xs : List Int) (n j : Nat) : byt (xs ++ List.replicate n 0) j = byt xs j := by
  by_cases h : j < xs.length
  · exact byt_left h
  · rw [byt_right (by omega), byt_past (xs := xs) (by omega)]
    unfold byt
    rw [List.getD_eq_getElem?_getD, List.getElem?_replicate]
    split <;> rfl
theorem full_oct {xs : List Int} (h : Oct xs) : Oct (full xs) := h.append fun x hx => by
  rw [(List.mem_replicate.1 hx).2]; omega
theorem tkL_full (H S : Nat) (xs : List Int) : tkL H S (full xs) = tkL H S xs := by
  unfold tkL
  rw [full_length, show (16 * ((xs.length + 15) / 16) + 15) / 16 = (xs.length + 15) / 16 from by omega]
  exact tk_same _ _ fun j => byt_zeros xs _ j
theorem tkL_append (H S : Nat) (xs ys : List Int) : tkL H S (full xs ++ ys) = tkL H (tkL H S xs) ys := by
  rw [← tkL_full H S xs]
  unfold tkL
  rw [List.length_append, full_length, show (16 * ((xs.length + 15) / 16) + ys.length + 15) / 16 = (xs.length + 15) / 16 + (ys.length + 15) / 16 from by omega, show (16 * ((xs.length + 15) / 16) + 15) / 16 = (xs.length + 15) / 16 from by omega]
  exact tk_append _ _ _ ys (full_length xs)
/-- One block. -/
theorem tkL_one (H S : Nat) {xs : List Int} (h : xs.length = 16) : tkL H S xs = G.mul (S ^^^ blk xs) H := by
  rw [tkL_step H S (by omega), List.drop_eq_nil_of_le (by omega), tkL_nil]

/-- The hash of a and b under H. -/
def sumN (H : Nat) (a b : List Int) : Nat := G.mul (tkL H (tkL H 0 a) b ^^^ (8 * a.length * 18446744073709551616 + 8 * b.length)) H
theorem blk_row {F : Nat → Nat} : blk (row F 16) = el F := el_congr fun j hj => by rw [byt_row, if_pos hj]
theorem sumN_lt {H : Nat} (h : H < 2 ^ 128) (a b : List Int) : sumN H a b < 2 ^ 128 := G.mul_lt h
end Go.Proofs.Ytlbhoijjbpjmoaa

/-
  Counter blocks and the stream, as numbers. Stands on no function of the program.
-/
namespace Go.Proofs.Ytlbhoijjbpjmoaa
open Go.RowKit
set_option linter.unusedVariables false
set_option linter.unusedSimpArgs false

/-- The number of a counter block. -/
def cnt (c : Nat → Nat) : Nat := nb (fun j => c (12 + j)) 4
theorem cnt_lt {c : Nat → Nat} (oc : ∀ j, c j < 256) : cnt c < 4294967296 := nb_lt (fun j => oc _) 4
theorem cnt_congr {c d : Nat → Nat} (h : ∀ j, j < 16 → c j = d j) : cnt c = cnt d := nb_congr fun j hj => h (12 + j) (by omega)
/-- The bytes that a number puts into a counter block's end. -/
def setN (c : Nat → Nat) (v j : Nat) : Nat := if j < 12 then c j else v / 256 ^ (15 - j) % 256
theorem setN_lt {c : Nat → Nat} (oc : ∀ j, c j < 256) (v j : Nat) : setN c v j < 256 := by
  unfold setN
  split
  · exact oc j
  · exact Nat.mod_lt _ (by decide)
theorem cnt_set (c : Nat → Nat) {v : Nat} (hv : v < 4294967296) : cnt (setN c v) = v := by
  have e := nb_of v 4 4 (Nat.le_refl _)
  rw [Nat.sub_self, Nat.pow_zero, Nat.div_one, Nat.mod_eq_of_lt (show v < 256 ^ 4 from hv)] at e
  refine (nb_congr fun j hj => ?_).trans e
  unfold setN
  rw [if_neg (by omega), show 15 - (12 + j) = 4 - 1 - j from by omega]
theorem setN_cnt {c : Nat → Nat} (oc : ∀ j, c j < 256) (j : Nat) (hj : j < 16) : setN c (cnt c) j = c j := by
  unfold setN
  by_cases h : j < 12
  · rw [if_pos h]
  · rw [if_neg h]
    have e := nb_at (x := fun j => c (12 + j)) (fun j => oc _) 4 (j - 12) (by omega)
    rw [show 4 - 1 - (j - 12) = 15 - j from by omega, show 12 + (j - 12) = j from by omega] at e
    exact e
/-- The next one. -/
def nxt (c : Nat → Nat) : Nat → Nat := setN c ((cnt c + 1) % 4294967296)
theorem nxt_lt {c : Nat → Nat} (oc : ∀ j, c j < 256) (j : Nat) : nxt c j < 256 := setN_lt oc _ j
theorem nxt_congr {c d : Nat → Nat} (h : ∀ j, j < 16 → c j = d j) (j : Nat) (hj : j < 16) : nxt c j = nxt d j := by
  unfold nxt setN
  rw [cnt_congr h, h j hj]
theorem cnt_nxt (c : Nat → Nat) : cnt (nxt c) = (cnt c + 1) % 4294967296 := cnt_set c (Nat.mod_lt _ (by decide))
theorem nxt_ahead (c : Nat → Nat) (j : Nat) (hj : j < 12) : nxt c j = c j := by unfold nxt setN; rw [if_pos hj]
/-- It has another number. -/
theorem nxt_other {c : Nat → Nat} (oc : ∀ j, c j < 256) : ¬ ∀ j, j < 16 → nxt c j = c j := fun h => by
  have e := cnt_congr h
  rw [cnt_nxt] at e
  have := cnt_lt oc
  omega
/-- Unlike ones have unlike next ones. -/
theorem nxt_inj {c d : Nat → Nat} (oc : ∀ j, c j < 256) (od : ∀ j, d j < 256) (h : ∀ j, j < 16 → nxt c j = nxt d j) (j : Nat) (hj : j < 16) : c j = d j := by
  have e := cnt_congr h
  rw [cnt_nxt, cnt_nxt] at e
  have e1 := cnt_lt oc
  have e2 := cnt_lt od
  have e3 : cnt c = cnt d := by omega
  by_cases h12 : j < 12
  · rw [← nxt_ahead c j h12, ← nxt_ahead d j h12]; exact h j hj
  · rw [← setN_cnt oc j hj, ← setN_cnt od j hj, e3]
    unfold setN
    rw [if_neg h12, if_neg h12]
/-- n times the next one. -/
def nxtN : Nat → (Nat → Nat) → Nat → Nat
  | 0, c => c
  | n + 1, c => nxt (nxtN n c)
theorem nxtN_lt {c : Nat → Nat} (oc : ∀ j, c j < 256) : ∀ n j, nxtN n c j < 256
  | 0, j => oc j
  | n + 1, j => nxt_lt (nxtN_lt oc n) j
theorem nxtN_congr {c d : Nat → Nat} (h : ∀ j, j < 16 → c j = d j) : ∀ n j, j < 16 → nxtN n c j = nxtN n d j
  | 0, j, hj => h j hj
  | n + 1, j, hj => nxt_congr (nxtN_congr h n) j hj

/-- The first counter block of a nonce. -/
def frs (xs : List Int) (j : Nat) : Nat := if j < 12 then byt xs j else if j = 15 then 1 else 0
theorem frs_lt {xs : List Int} (h : Oct xs) (j : Nat) : frs xs j < 256 := by
  unfold frs
  split
  · exact byt_lt h j
  · split <;> omega

/-- The stream that E makes of the counter blocks behind c. -/
def strm (E : (Nat → Nat) → Nat → Nat) (c : Nat → Nat) (j : Nat) : Nat := E (nxtN (j / 16 + 1) c) (j % 16)
theorem strm_lt {E : (Nat → Nat) → Nat → Nat} {c : Nat → Nat} (oE : ∀ x, (∀ j, x j < 256) → ∀ j, E x j < 256) (oc : ∀ j, c j < 256) (j : Nat) : strm E c j < 256 := oE _ (nxtN_lt oc _) _
/-- A text with the stream added. -/
def cry (E : (Nat → Nat) → Nat → Nat) (c : Nat → Nat) (xs : List Int) : List Int := row (fun j => byt xs j ^^^ strm E c j) xs.length
theorem cry_length (E : (Nat → Nat) → Nat → Nat) (c : Nat → Nat) (xs : List Int) : (cry E c xs).length = xs.length := row_length _ _
theorem cry_oct {E : (Nat → Nat) → Nat → Nat} {c : Nat → Nat} {xs : List Int} (oE : ∀ x, (∀ j, x j < 256) → ∀ j, E x j < 256) (oc : ∀ j, c j < 256) (hx : Oct xs) : Oct (cry E c xs) :=
  row_oct (fun j => xor_byte (byt_lt hx j) (strm_lt oE oc j)) _
/-- Twice is what it was. -/
theorem cry_cry {E : (Nat → Nat) → Nat → Nat} {c : Nat → Nat} {xs : List Int} (hx : Oct xs) : cry E c (cry E c xs) = xs := by
  apply List.ext_getElem?
  intro j
  unfold cry
  rw [row_length]
  by_cases h : j < xs.length
  · have e := byt_at hx j
    rw [List.getD_eq_getElem?_getD, List.getElem?_eq_getElem h] at e
    rw [List.getElem?_eq_getElem h, row, List.getElem?_map, List.getElem?_range h]
    simp only [Option.map_some, Option.getD_some] at e ⊢
    rw [byt_row, if_pos h, Nat.xor_assoc, Nat.xor_self, Nat.xor_zero, e]
  · rw [List.getElem?_eq_none (by rw [row_length]; omega), List.getElem?_eq_none (by omega)]
/-- The beginning of a text. -/
theorem cry_take (E : (Nat → Nat) → Nat → Nat) (c : Nat → Nat) (xs : List Int) (n : Nat) (h : n ≤ xs.length) : cry E c (xs.take n) = (cry E c xs).take n := by
  apply List.ext_getElem?
  intro j
  unfold cry
  rw [List.getElem?_take, List.length_take, Nat.min_eq_left h]
  by_cases hj : j < n
  · rw [if_pos hj, row, row, List.getElem?_map, List.getElem?_map, List.getElem?_range hj, List.getElem?_range (by omega)]
    simp only [Option.map_some]
    congr 2
    unfold byt
    rw [List.getD_eq_getElem?_getD, List.getD_eq_getElem?_getD, List.getElem?_take, if_pos hj]
  · rw [if_neg hj, List.getElem?_eq_none (by rw [row_length]; omega)]
end Go.Proofs.Ytlbhoijjbpjmoaa

/-
  Texts sealed and opened, as lists of bytes. Stands on no function of the program.
-/
namespace Go.Proofs.Ytlbhoijjbpjmoaa
open Go.RowKit
set_option linter.unusedVariables false
set_option linter.unusedSimpArgs false

/-- The tag of enciphered bytes b with aad beside them, E being the cipher. -/
def tagN (E : (Nat → Nat) → Nat → Nat) (nonce aad b : List Int) : Nat := sumN (el (E fun _ => 0)) aad b ^^^ el (E (frs nonce))
def tagL (E : (Nat → Nat) → Nat → Nat) (nonce aad b : List Int) : List Int := row (by16 (tagN E nonce aad b)) 16
theorem tagL_length (E : (Nat → Nat) → Nat → Nat) (nonce aad b : List Int) : (tagL E nonce aad b).length = 16 := row_length _ _
theorem tagL_oct (E : (Nat → Nat) → Nat → Nat) (nonce aad b : List Int) : Oct (tagL E nonce aad b) := row_oct (by16_lt _) 16
/-- A text sealed. -/
def sealL (E : (Nat → Nat) → Nat → Nat) (nonce aad text : List Int) : List Int := cry E (frs nonce) text ++ tagL E nonce aad (cry E (frs nonce) text)
theorem sealL_length (E : (Nat → Nat) → Nat → Nat) (nonce aad text : List Int) : (sealL E nonce aad text).length = text.length + 16 := by
  rw [sealL, List.length_append, cry_length, tagL_length]
theorem sealL_oct {E : (Nat → Nat) → Nat → Nat} {nonce text : List Int} (aad : List Int) (oE : ∀ x, (∀ j, x j < 256) → ∀ j, E x j < 256) (hn : Oct nonce) (ht : Oct text) : Oct (sealL E nonce aad text) :=
  (cry_oct oE (frs_lt hn) ht).append (tagL_oct _ _ _ _)
/-- Does the tag hold? -/
def holdsB (E : (Nat → Nat) → Nat → Nat) (nonce aad sealed : List Int) : Bool := decide (tagL E nonce aad (sealed.take (sealed.length - 16)) = sealed.drop (sealed.length - 16))
/-- What was sealed is opened as it was. -/
theorem seal_take (E : (Nat → Nat) → Nat → Nat) (nonce aad text : List Int) : (sealL E nonce aad text).take ((sealL E nonce aad text).length - 16) = cry E (frs nonce) text := by
  rw [sealL_length, Nat.add_sub_cancel, sealL, ← cry_length E (frs nonce) text]
  exact List.take_left
theorem seal_drop (E : (Nat → Nat) → Nat → Nat) (nonce aad text : List Int) : (sealL E nonce aad text).drop ((sealL E nonce aad text).length - 16) = tagL E nonce aad (cry E (frs nonce) text) := by
  rw [sealL_length, Nat.add_sub_cancel, sealL]
  conv => lhs; arg 1; rw [← cry_length E (frs nonce) text]
  exact List.drop_left
theorem seal_holds (E : (Nat → Nat) → Nat → Nat) (nonce aad text : List Int) : holdsB E nonce aad (sealL E nonce aad text) = true := by
  rw [holdsB, seal_take, seal_drop, decide_eq_true rfl]
theorem seal_open {E : (Nat → Nat) → Nat → Nat} {nonce aad text : List Int} (ht : Oct text) : cry E (frs nonce) ((sealL E nonce aad text).take ((sealL E nonce aad text).length - 16)) = text := by
  rw [seal_take, cry_cry ht]
/-- Two texts differ where they differ, ahead of the tag. -/
theorem seal_apart (E : (Nat → Nat) → Nat → Nat) (nonce aad bad a b : List Int) (j : Nat) (ha : j < a.length) (hb : j < b.length) :
    byt (sealL E nonce aad a) j ^^^ byt (sealL E nonce bad b) j = byt a j ^^^ byt b j := by
  rw [sealL, sealL, byt_left (by rw [cry_length]; exact ha), byt_left (by rw [cry_length]; exact hb), cry, cry, byt_row, byt_row, if_pos ha, if_pos hb, G.xor4, Nat.xor_self, Nat.xor_zero]
end Go.Proofs.Ytlbhoijjbpjmoaa
