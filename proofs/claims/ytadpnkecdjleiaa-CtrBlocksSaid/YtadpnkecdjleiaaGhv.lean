/-
  Elements of the field of 2^128, as sixteen bytes. Stands on no function of the program.
-/
import Derived.Test.YtadpnkecdjleiaaVals
import Derived.Test.YtadpnkecdjleiaaGh
namespace Go.Proofs.Ytadpnkecdjleiaa
open Go.RowKit
set_option linter.unusedVariables false
set_option linter.unusedSimpArgs false

theorem xor8 {a b : Nat} (ha : a < 256) (hb : b < 256) : bits .xor .u8 (a : Int) (b : Int) = ((a ^^^ b : Nat) : Int) := u8_xor_nat a b ha hb
/-- The first n of F. -/
def row (F : Nat → Nat) (n : Nat) : List Int := (List.range n).map fun j => ((F j : Nat) : Int)
theorem row_length (F : Nat → Nat) (n : Nat) : (row F n).length = n := by simp [row]
theorem row_snoc (F : Nat → Nat) (n : Nat) : row F (n + 1) = row F n ++ [((F n : Nat) : Int)] := by simp [row, List.range_succ]
theorem row_at (F : Nat → Nat) (n j : Nat) (h : j < n) : (row F n).getD j 0 = ((F j : Nat) : Int) := by
  simp [row, List.getD_eq_getElem?_getD, h]
theorem row_oct {F : Nat → Nat} (oF : ∀ j, F j < 256) (n : Nat) : Oct (row F n) := by
  intro x hx
  simp only [row, List.mem_map] at hx
  obtain ⟨j, _, rfl⟩ := hx
  have := oF j
  omega
theorem row_vals (F : Nat → Nat) (n : Nat) : (row F n).map (Value.int .u8) = vals n F := by simp [row, vals]

/-- The number of the first n bytes. -/
def nb (x : Nat → Nat) : Nat → Nat
  | 0 => 0
  | n + 1 => 256 * nb x n + x n
theorem num_row (x : Nat → Nat) (n : Nat) : num (row x n) = ((nb x n : Nat) : Int) := by
  induction n with
  | zero => rfl
  | succ n ih => rw [row_snoc, num_snoc, ih, nb]; omega
theorem nb_congr {x y : Nat → Nat} {n : Nat} (h : ∀ j, j < n → x j = y j) : nb x n = nb y n := by
  induction n with
  | zero => rfl
  | succ n ih => rw [nb, nb, ih (fun j hj => h j (by omega)), h n (by omega)]
theorem nb_lt {x : Nat → Nat} (ox : ∀ j, x j < 256) (n : Nat) : nb x n < 256 ^ n := by
  induction n with
  | zero => simp [nb]
  | succ n ih => rw [nb, Nat.pow_succ]; have := ox n; omega
theorem nb_add (x : Nat → Nat) (n m : Nat) : nb x (n + m) = nb x n * 256 ^ m + nb (fun j => x (n + j)) m := by
  induction m with
  | zero => simp [nb]
  | succ m ih =>
    have e : 256 * (nb x n * 256 ^ m) = nb x n * (256 ^ m * 256) := by rw [Nat.mul_comm, Nat.mul_assoc]
    rw [← Nat.add_assoc, nb, ih, nb, Nat.pow_succ, Nat.mul_add, e]
    omega
theorem nb_at {x : Nat → Nat} (ox : ∀ j, x j < 256) : ∀ n j, j < n → nb x n / 256 ^ (n - 1 - j) % 256 = x j
  | 0, j, h => by omega
  | n + 1, j, h => by
    rw [nb]
    have hx := ox n
    by_cases e : j = n
    · subst e
      rw [show j + 1 - 1 - j = 0 from by omega, Nat.pow_zero, Nat.div_one]; omega
    · have ih := nb_at ox n j (by omega)
      rw [show n + 1 - 1 - j = (n - 1 - j) + 1 from by omega, Nat.pow_succ, Nat.mul_comm (256 ^ (n - 1 - j)), ← Nat.div_div_eq_div_mul, show (256 * nb x n + x n) / 256 = nb x n from by omega]
      exact ih
theorem nb_of (v N : Nat) : ∀ n, n ≤ N → nb (fun j => v / 256 ^ (N - 1 - j) % 256) n = v / 256 ^ (N - n) % 256 ^ n
  | 0, _ => by rw [nb, Nat.pow_zero, Nat.mod_one]
  | n + 1, h => by
    rw [nb, nb_of v N n (by omega)]
    obtain ⟨u, hu⟩ : ∃ u, u = v / 256 ^ (N - (n + 1)) := ⟨_, rfl⟩
    have e : v / 256 ^ (N - n) = u / 256 := by
      rw [hu, show N - n = N - (n + 1) + 1 from by omega, Nat.pow_succ, Nat.div_div_eq_div_mul]
    rw [show N - 1 - n = N - (n + 1) from by omega, ← hu, e, Nat.pow_succ, Nat.mul_comm (256 ^ n) 256, Nat.mod_mul]
    omega

/-- The number of an element. -/
def el (x : Nat → Nat) : Nat := nb x 16
/-- Its bytes. -/
def by16 (v : Nat) (j : Nat) : Nat := v / 256 ^ (15 - j) % 256
theorem el_lt {x : Nat → Nat} (ox : ∀ j, x j < 256) : el x < 2 ^ 128 := nb_lt ox 16
theorem by16_lt (v j : Nat) : by16 v j < 256 := Nat.mod_lt _ (by decide)
theorem by16_el {x : Nat → Nat} (ox : ∀ j, x j < 256) (j : Nat) (hj : j < 16) : by16 (el x) j = x j := nb_at ox 16 j hj
theorem el_by16 {v : Nat} (hv : v < 2 ^ 128) : el (by16 v) = v := by
  have e := nb_of v 16 16 (Nat.le_refl _)
  rw [Nat.sub_self, Nat.pow_zero, Nat.div_one, Nat.mod_eq_of_lt (show v < 256 ^ 16 from hv)] at e
  exact e
theorem el_congr {x y : Nat → Nat} (h : ∀ j, j < 16 → x j = y j) : el x = el y := nb_congr h
theorem el_inj {x y : Nat → Nat} (ox : ∀ j, x j < 256) (oy : ∀ j, y j < 256) (h : el x = el y) (j : Nat) (hj : j < 16) : x j = y j := by
  rw [← by16_el ox j hj, ← by16_el oy j hj, h]
theorem el_words (x : Nat → Nat) : el x = nb x 8 * 18446744073709551616 + nb (fun j => x (8 + j)) 8 := nb_add x 8 8
theorem nb8_lt {x : Nat → Nat} (ox : ∀ j, x j < 256) : nb x 8 < 18446744073709551616 := nb_lt ox 8
theorem by16_vals {x : Nat → Nat} (ox : ∀ j, x j < 256) : vals 16 (by16 (el x)) = vals 16 x := vals_same (by16_el ox)

/-- Two words, as bytes. -/
theorem be_words {h l : Nat} (hh : h < 18446744073709551616) (hl : l < 18446744073709551616) : be 8 (h : Int) ++ be 8 (l : Int) = row (by16 (h * 18446744073709551616 + l)) 16 := by
  have e : ∀ k m : Nat, ((m : Nat) : Int) / 256 ^ k % 256 = ((m / 256 ^ k % 256 : Nat) : Int) := fun k m => by simp
  simp only [be, e, row, List.range, List.range.loop, List.map, List.cons_append, List.nil_append, by16]
  congr 1
  · omega
  congr 1
  · omega
  congr 1
  · omega
  congr 1
  · omega
  congr 1
  · omega
  congr 1
  · omega
  congr 1
  · omega
  congr 1
  · omega
  congr 1
  · omega
  congr 1
  · omega
  congr 1
  · omega
  congr 1
  · omega
  congr 1
  · omega
  congr 1
  · omega
  congr 1
  · omega
  congr 1
  · omega
end Go.Proofs.Ytadpnkecdjleiaa
