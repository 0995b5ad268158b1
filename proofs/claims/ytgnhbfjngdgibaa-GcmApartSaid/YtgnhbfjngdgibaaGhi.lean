/-
  The field of 2^128 elements has no divisors of nought. Stands on no function of the program.
-/
import Derived.Test.YtgnhbfjngdgibaaKh
namespace Go.Proofs.Ytgnhbfjngdgibaa.G
set_option linter.unusedVariables false
set_option linter.unusedSimpArgs false

/-- A square, as it spreads over sums. -/
def sqL (x : Nat) : Nat := xsum 128 fun i => gate (x.testBit (127 - i)) (D (2 * i))
theorem sqL_lin : Lin sqL := fun a b => by
  unfold sqL
  rw [← xsum_xor]
  exact xsum_congr fun i _ => by rw [Nat.testBit_xor, gate_xor]
theorem sqL_lt (x : Nat) : sqL x < 2 ^ 128 := xsum_lt fun i _ => gate_lt (D_lt _)
theorem sq_add {a b : Nat} (ha : a < 2 ^ 128) (hb : b < 2 ^ 128) : mul (a ^^^ b) (a ^^^ b) = mul a a ^^^ mul b b := by
  have e := mul_linL (a ^^^ b) a b
  simp only at e
  rw [e, mul_linR, mul_linR, mul_comm hb ha, Nat.xor_comm (mul a b) (mul b b), xor4, Nat.xor_self, Nat.xor_zero]
theorem sq_D (i : Nat) : mul (D i) (D i) = D (2 * i) := by
  have e := mul_dblNL (x := one) one_lt (D_lt i) i
  rw [one_mul (D_lt i)] at e
  refine e.trans ?_
  rw [D, ← dblN_add, show i + i = 2 * i from by omega]; rfl
theorem sq_sum (x : Nat) : ∀ n, n ≤ 128 → mul (xsum n fun i => gate (x.testBit (127 - i)) (D i)) (xsum n fun i => gate (x.testBit (127 - i)) (D i)) = xsum n fun i => gate (x.testBit (127 - i)) (D (2 * i))
  | 0, _ => mul_zero 0
  | n + 1, h => by
    rw [xsum, sq_add (xsum_lt fun i _ => gate_lt (D_lt i)) (gate_lt (D_lt n)), sq_sum x n (by omega), xsum]
    congr 1
    cases x.testBit (127 - n)
    · exact mul_zero 0
    · exact sq_D n
theorem sq_eq {x : Nat} (h : x < 2 ^ 128) : mul x x = sqL x := by
  have e := sq_sum x 128 (Nat.le_refl _)
  rw [bits_D h] at e
  exact e

/-- Squared n times. -/
def phi : Nat → Nat → Nat
  | 0, x => x
  | n + 1, x => sqL (phi n x)
theorem phi_lin (n : Nat) : Lin (phi n) := by
  induction n with
  | zero => exact fun a b => rfl
  | succ n ih => exact fun a b => by rw [phi, ih, sqL_lin]; rfl
theorem phi_lt {x : Nat} (h : x < 2 ^ 128) : ∀ n, phi n x < 2 ^ 128
  | 0 => h
  | n + 1 => sqL_lt _
theorem sq_mul {a b : Nat} (ha : a < 2 ^ 128) (hb : b < 2 ^ 128) : sqL (mul a b) = mul (sqL a) (sqL b) := by
  rw [← sq_eq (mul_lt hb), ← sq_eq ha, ← sq_eq hb, mul_assoc hb (mul_lt hb), ← mul_assoc (x := b) ha hb, mul_comm hb ha, mul_assoc hb hb, mul_assoc ha (mul_lt hb)]
theorem phi_mul {a b : Nat} (ha : a < 2 ^ 128) (hb : b < 2 ^ 128) (n : Nat) : phi n (mul a b) = mul (phi n a) (phi n b) := by
  induction n with
  | zero => rfl
  | succ n ih => rw [phi, ih, sq_mul (phi_lt ha n) (phi_lt hb n)]; rfl

/-- A number is reckoned before it is handed on. -/
def force {α : Type} (x : Nat) (k : Nat → α) : α := match x with
  | 0 => k 0
  | n + 1 => k (n + 1)
theorem force_eq {α : Type} (x : Nat) (k : Nat → α) : force x k = k x := by cases x <;> rfl
def mulE {α : Type} : Nat → Nat → Nat → Nat → (Nat → α) → α
  | 0, _, _, z, K => K z
  | n + 1, x, y, z, K => force (dbl y) fun y' => force (z ^^^ gate (x.testBit n) y) fun z' => mulE n x y' z' K
theorem mulE_eq {α : Type} (n : Nat) : ∀ (x y z : Nat) (K : Nat → α), mulE n x y z K = K (mulR n x y z) := by
  induction n with
  | zero => intro x y z K; rfl
  | succ n ih => intro x y z K; rw [mulE, force_eq, force_eq, ih]; rfl
def phiE {α : Type} : Nat → Nat → (Nat → α) → α
  | 0, x, K => K x
  | n + 1, x, K => phiE n x fun y => mulE 128 y y 0 K
theorem phiE_eq {α : Type} {x : Nat} (h : x < 2 ^ 128) (n : Nat) : ∀ K : Nat → α, phiE n x K = K (phi n x) := by
  induction n with
  | zero => intro K; rfl
  | succ n ih => intro K; rw [phiE, ih, mulE_eq, ← mul_R, sq_eq (phi_lt h n)]; rfl
set_option maxRecDepth 100000 in
theorem phi_x : phi 128 (2 ^ 126) = 2 ^ 126 := by
  have h : (phiE 128 (2 ^ 126) fun y => Nat.beq y (2 ^ 126)) = true := by decide +kernel
  rw [phiE_eq (by decide)] at h
  exact Nat.eq_of_beq_eq_true h

/-- Whoever is squared 128 times is what it was. -/
theorem phi_all {x : Nat} (h : x < 2 ^ 128) : phi 128 x = x := by
  refine Lin.ext (L := phi 128) (M := fun x => x) (phi_lin 128) (fun a b => rfl) (fun i hi => ?_) h
  show phi 128 (D i) = D i
  clear hi
  have h1 : phi 128 (D 1) = D 1 := by rw [D_pow 1 (by decide)]; exact phi_x
  have h0 : phi 128 one = one := by
    have s : sqL one = one := by rw [← sq_eq one_lt, one_mul one_lt]
    have all : ∀ n, phi n one = one := fun n => by
      induction n with
      | zero => rfl
      | succ n ih => rw [phi, ih, s]
    exact all 128
  induction i with
  | zero => exact h0
  | succ i ih =>
    have e : D (i + 1) = mul (D 1) (D i) := (mul_D1 (D_lt i)).symm
    rw [e, phi_mul (D_lt 1) (D_lt i), h1, ih]

/-- A table, spread over sums. -/
def table : List Nat → Nat → Nat → Nat
  | [], _, _ => 0
  | t :: ts, n, v => gate (v.testBit n) t ^^^ table ts (n - 1) v
theorem table_lin (ts : List Nat) : ∀ n, Lin (table ts n) := by
  induction ts with
  | nil => intro n a b; simp [table]
  | cons t ts ih => intro n a b; rw [table, table, table, ih, Nat.testBit_xor, gate_xor, xor4]
def back : List Nat := [
  0x10d04d25f93556e69f58ce2f8d035a94, 0x202f566ef59a994991d0e977a9aa5ba7, 0x602f566ef59a994991d0e977a9aa5ba7, 0x3045202cccefc1ee67fd0ac2e3641972,
  0x402f566ef59a994991d0e977a9aa5ba7, 0x5672e0c1d328e3be0d2c5beb59e57554, 0x2045202cccefc1ee67fd0ac2e3641972, 0x187f9b4b8cafcfaf8e88275824a90133,
  0x482f566ef59a994991d0e977a9aa5ba7, 0x22da13517461d3ee69739a8be16c1972, 0x5272e0c1d328e3be0d2c5beb59e57554, 0x6aff55603cd3fceff55228f556d54755,
  0x2245202cccefc1ee67fd0ac2e3641972, 0x46fc06025397fc91bb49eab33e4cf467, 0x197f9b4b8cafcfaf8e88275824a90133, 0x646dca2be3d6cc87d093e2fc4c0f4ad5,
  0x48af566ef59a994991d0e977a9aa5ba7, 0x5cea2fd59105659e2d1ccaeb5d2c7d54, 0x229a13517461d3ee69739a8be16c1972, 0x3f46a4c41f7d395874f4e33b9d331780,
  0x5252e0c1d328e3be0d2c5beb59e57554, 0x312701524d961730583bcf844c342240, 0x6aef55603cd3fceff55228f556d54755, 0x144559bb6c9ffcd7bc4c239cf48626f3,
  0x224d202cccefc1ee67fd0ac2e3641972, 0x1a24eaea541cab0f9092b01169688933, 0x46f806025397fc91bb49eab33e4cf467, 0x2c14dba71e26fe964f314b9433eb3eb2,
  0x197d9b4b8cafcfaf8e88275824a90133, 0x2561da58536a903fe562896ae4899333, 0x646cca2be3d6cc87d093e2fc4c0f4ad5, 0x41d77800d619af2838dab35b297373a6,
  0x48afd66ef59a994991d0e977a9aa5ba7, 0x5ce7c3e3968e47f62e5390ab45fe70d4, 0x5cea6fd59105659e2d1ccaeb5d2c7d54, 0x428019a11caacb8824c8241264b2fba6,
  0x229a33517461d3ee69739a8be16c1972, 0x258e6f54b84bf6f7ef54f70e70ef2ef3, 0x3f46b4c41f7d395874f4e33b9d331780, 0x1af0929921b9589f9fb368dce89d2373,
  0x5252e8c1d328e3be0d2c5beb59e57554, 0x3bdc8ad604f36599e246fae899f68fc1, 0x312705524d961730583bcf844c342240, 0x38e6217d7e479d8109554569546afc0,
  0x6aef57603cd3fceff55228f556d54755, 0x2bd77bb364ab6b3fc733d8875e039333, 0x144558bb6c9ffcd7bc4c239cf48626f3, 0x698e6217d7fb8627ef6aa903c013fa95,
  0x224d20acccefc1ee67fd0ac2e3641972, 0x21ce3a83c07704de74dad50f0d583b32, 0x1a24eaaa541cab0f9092b01169688933, 0x56f3167fe31312df9eb885b869165d55,
  0x46f806225397fc91bb49eab33e4cf467, 0x77dcb1c60e3ad1c9e2190477682adba7, 0x2c14dbb71e26fe964f314b9433eb3eb2, 0x7348a7e5645f92d076e747a9d181ec26,
  0x197d9b438cafcfaf8e88275824a90133, 0x2cfbb4409945161e45d21862e0409b32, 0x2561da5c536a903fe562896ae4899333, 0x36e717e02724b8f1d1527df73b8e8241,
  0x646cca29e3d6cc87d093e2fc4c0f4ad5, 0x7adc3b3404788e11d4cfd6f8f5447467, 0x41d77801d619af2838dab35b297373a6, 0x4a2ade42a1db559927495c4d4e62fc1,
  0x48afd66e759a994991d0e977a9aa5ba7, 0x329f337db88e12004e8e904902080000, 0x5ce7c3e3d68e47f62e5390ab45fe70d4, 0x36e9eb0be64d6b99d3ec2e5e502bb781,
  0x5cea6fd5b105659e2d1ccaeb5d2c7d54, 0x4622ba58b211bb21b69fb337b1785627, 0x428019a10caacb8824c8241264b2fba6, 0x49a065cd7758d5196f0e3578d383201,
  0x229a33517c61d3ee69739a8be16c1972, 0x55aabdbeec28a2078079924a4cd2f295, 0x258e6f54bc4bf6f7ef54f70e70ef2ef3, 0x7986f6afcfc951e9cb9188c1a5beebe7,
  0x3f46b4c41d7d395874f4e33b9d331780, 0x2f76850d57908a5e54a716d46cf0bb32, 0x1af0929920b9589f9fb368dce89d2373, 0x489a0b11781e0c1196cc4fdebc394c27,
  0x5252e8c1d3a8e3be0d2c5beb59e57554, 0x72ccff3fd3d186182e1ce9a41041041, 0x3bdc8ad604b36599e246fae899f68fc1, 0x5c33b52f8947e9462158188b7248d294,
  0x312705524db61730583bcf844c342240, 0x79880aa666d696d9c926622882fff1e7, 0x38e6217d7f479d8109554569546afc0, 0x285aabc679b16ad7d6c2852abfdb1eb3,
  0x6aef57603cdbfceff55228f556d54755, 0x26d44eb77ddd535ff0b1c738de72bb33, 0x2bd77bb364af6b3fc733d8875e039333, 0x3cfddc25f2ae2df86391fd8d3387a7c0,
  0x144558bb6c9dfcd7bc4c239cf48626f3, 0x457534e82f16f649aa2d862c91005ba7, 0x698e6217d7fa8627ef6aa903c013fa95, 0x4bf8b9d33b8f38198de17cdee54751e7,
  0x224d20acccef41ee67fd0ac2e3641972, 0x634efa836deeebf650dae654442b4894, 0x21ce3a83c07744de74dad50f0d583b32, 0x4bf6a9a1f02e1f698fec4b1a74166be7,
  0x1a24eaaa541c8b0f9092b01169688933, 0x6462e2cc93c28627d2d0526e0d66c2d5, 0x56f3167fe31302df9eb885b869165d55, 0x79b07befedd921e9cd751ec18ebeebe7,
  0x46f806225397f491bb49eab33e4cf467, 0x701c741cbd9fc8b06b94eadf79b8c426, 0x77dcb1c60e3ad5c9e2190477682adba7, 0x44eaa59bd8819a999287fa5ed58ad81,
  0x2c14dbb71e26fc964f314b9433eb3eb2, 0x602105ae977251e64834e0c2dd2d5a94, 0x7348a7e5645f93d076e747a9d181ec26, 0x645919a4b35879f7d7a68d71cb5770d5,
  0x197d9b438cafcf2f8e88275824a90133, 0xd94d9da18080030c4db699e5dc0, 0x2cfbb4409945165e45d21862e0409b32, 0x99a6e1cca2f8641a0b0910804c90841,
  0x2561da5c536a901fe562896ae4899333, 0x5f86cdbc744e28fe3430f49ddf071154, 0x36e717e02724b8e1d1527df73b8e8241, 0x51eae8be2fe60df61bf9191de1788d94,
  0x646cca29e3d6cc8fd093e2fc4c0f4ad5, 0x5f67891c31b7edb03c86875f90384d1c, 0x7adc3b3404788e15d4cfd6f8f5447467, 0x36dc3b3404788e15d4cfd6f8f5447461,
  0x41d77801d619af2a38dab35b297373a6, 0x35bd0e43ef6cf78dcef750ee63bd3171, 0x4a2ade42a1db558927495c4d4e62fc1, 0x0]
def backB : Nat → Nat → Nat → Bool
  | 0, _, _ => true
  | n + 1, i, v => force v fun v => Nat.beq (table back 127 (v ^^^ 2 ^ (127 - i))) (if i = 0 then 0 else 2 ^ (127 - i)) && backB n (i + 1) (dbl (dbl v))
theorem backB_spec : ∀ n i, backB n i (D (2 * i)) = true → ∀ k, i ≤ k → k < i + n → table back 127 (D (2 * k) ^^^ 2 ^ (127 - k)) = if k = 0 then 0 else 2 ^ (127 - k)
  | 0, _, _, _, _, _ => by omega
  | n + 1, i, h, k, h1, h2 => by
    rw [backB, force_eq, Bool.and_eq_true] at h
    by_cases hk : k = i
    · subst hk
      exact Nat.eq_of_beq_eq_true h.1
    · refine backB_spec n (i + 1) ?_ k (by omega) (by omega)
      exact h.2
set_option maxRecDepth 100000 in
theorem back_all : ∀ k, k < 128 → table back 127 (D (2 * k) ^^^ D k) = if k = 0 then 0 else D k := by
  have h : backB 128 0 (2 ^ 127) = true := by decide +kernel
  intro k hk
  rw [D_pow k hk]
  exact backB_spec 128 0 h k (Nat.zero_le _) (by omega)

/-- Of those that are their own squares there are two. -/
theorem sq_own {x : Nat} (h : x < 2 ^ 128) (hs : sqL x = x) : x = 0 ∨ x = one := by
  have e := Lin.ext (L := fun a => table back 127 (sqL a ^^^ a)) (M := fun a => a ^^^ gate (a.testBit 127) one) (fun a b => by simp only [sqL_lin a b]; rw [xor4, table_lin]) (fun a b => by simp only [Nat.testBit_xor]; rw [gate_xor, xor4]) (fun i hi => by
    have s : sqL (D i) = D (2 * i) := by rw [← sq_eq (D_lt i), sq_D]
    simp only [s]
    rw [back_all i hi, D_pow i hi, Nat.testBit_two_pow]
    by_cases h0 : i = 0
    · subst h0; simp [gate, one]
    · have : ¬ (127 - i = 127) := by omega
      simp [this, h0, gate]) h
  simp only [hs, Nat.xor_self] at e
  rw [(table_lin back 127).zero] at e
  cases hb : x.testBit 127
  · rw [hb] at e; left; simpa [gate] using e.symm
  · rw [hb] at e
    right
    have : x ^^^ one ^^^ one = 0 ^^^ one := by rw [show x ^^^ one = 0 from e.symm]
    rwa [Nat.xor_assoc, Nat.xor_self, Nat.xor_zero, Nat.zero_xor] at this

/-- x, but for one power: N n is x to the (2^n - 1). -/
def N (x : Nat) : Nat → Nat
  | 0 => one
  | n + 1 => mul x (sqL (N x n))
theorem N_lt {x : Nat} (h : x < 2 ^ 128) : ∀ n, N x n < 2 ^ 128
  | 0 => one_lt
  | n + 1 => mul_lt (sqL_lt _)
theorem N_mul {x : Nat} (h : x < 2 ^ 128) (n : Nat) : mul x (N x n) = phi n x := by
  induction n with
  | zero => exact mul_one h
  | succ n ih =>
    rw [phi, ← ih, sq_mul h (N_lt h n), ← sq_eq h, mul_assoc h (sqL_lt _)]; rfl
theorem N_one {x : Nat} (h : x < 2 ^ 128) (h0 : x ≠ 0) : N x 128 = one := by
  have hx : mul x (N x 128) = x := by rw [N_mul h, phi_all h]
  have hs : sqL (N x 128) = N x 128 := by
    rw [← sq_eq (N_lt h 128)]
    have e : N x 128 = mul x (sqL (N x 127)) := rfl
    have e2 : mul (N x 128) (mul x (sqL (N x 127))) = mul x (sqL (N x 127)) := by
      rw [← mul_assoc h (sqL_lt _), mul_comm (N_lt h 128) h, hx]
    rw [← e] at e2
    exact e2
  rcases sq_own (N_lt h 128) hs with e | e
  · rw [e, mul_zero] at hx; exact absurd hx.symm h0
  · exact e
/-- No divisors of nought. -/
theorem mul_nought {x y : Nat} (hx : x < 2 ^ 128) (hy : y < 2 ^ 128) (h : mul x y = 0) : x = 0 ∨ y = 0 := by
  by_cases h0 : x = 0
  · exact .inl h0
  · right
    have e : mul x (sqL (N x 127)) = one := N_one hx h0
    have e2 := one_mul hy
    rw [← e, mul_comm hx (sqL_lt _), mul_assoc hx hy, h, mul_zero] at e2
    exact e2.symm
end Go.Proofs.Ytgnhbfjngdgibaa.G
