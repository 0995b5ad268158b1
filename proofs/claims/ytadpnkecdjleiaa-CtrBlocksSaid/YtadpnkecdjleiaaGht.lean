/-
  The hash of texts, as numbers. Stands on no function of the program.
-/
import Derived.Test.YtadpnkecdjleiaaGhv
namespace Go.Proofs.Ytadpnkecdjleiaa
open Go.RowKit
set_option linter.unusedVariables false
set_option linter.unusedSimpArgs false

theorem nb_xor {x y : Nat → Nat} (ox : ∀ j, x j < 256) (oy : ∀ j, y j < 256) (n : Nat) : nb (fun j => x j ^^^ y j) n = nb x n ^^^ nb y n := by
  induction n with
  | zero => simp [nb]
  | succ n ih =>
    rw [nb, nb, nb, ih]
    have hx := ox n
    have hy := oy n
    generalize nb x n = a
    generalize nb y n = b
    generalize x n = c at hx ⊢
    generalize y n = d at hy ⊢
    have h1 : ((256 * a + c) ^^^ (256 * b + d)) / 2 ^ 8 = a ^^^ b := by
      rw [← Nat.shiftRight_eq_div_pow, Nat.shiftRight_xor_distrib, Nat.shiftRight_eq_div_pow, Nat.shiftRight_eq_div_pow]
      congr 1 <;> omega
    have h2 : ((256 * a + c) ^^^ (256 * b + d)) % 2 ^ 8 = c ^^^ d := by
      rw [Nat.xor_mod_two_pow]
      congr 1 <;> omega
    have h3 := Nat.div_add_mod ((256 * a + c) ^^^ (256 * b + d)) (2 ^ 8)
    rw [h1, h2] at h3
    omega
theorem el_xor {x y : Nat → Nat} (ox : ∀ j, x j < 256) (oy : ∀ j, y j < 256) : el (fun j => x j ^^^ y j) = el x ^^^ el y := nb_xor ox oy 16
theorem xor_byte {a b : Nat} (ha : a < 256) (hb : b < 256) : a ^^^ b < 256 := Nat.xor_lt_two_pow (n := 8) ha hb
theorem by16_xor (u v j : Nat) : by16 (u ^^^ v) j = by16 u j ^^^ by16 v j := by
  unfold by16
  rw [show (256 : Nat) ^ (15 - j) = 2 ^ (8 * (15 - j)) by rw [show (256 : Nat) = 2 ^ 8 from rfl, ← Nat.pow_mul], ← Nat.shiftRight_eq_div_pow, ← Nat.shiftRight_eq_div_pow, ← Nat.shiftRight_eq_div_pow, Nat.shiftRight_xor_distrib, show (256 : Nat) = 2 ^ 8 from rfl, Nat.xor_mod_two_pow]

/-- The bytes of a list, and noughts behind them. -/
def byt (xs : List Int) (j : Nat) : Nat := (xs.getD j 0).toNat
theorem byt_lt {xs : List Int} (h : Oct xs) (j : Nat) : byt xs j < 256 := by
  have := h.at j
  unfold byt
  omega
theorem byt_at {xs : List Int} (h : Oct xs) (j : Nat) : xs.getD j 0 = ((byt xs j : Nat) : Int) := by
  have := h.at j
  unfold byt
  omega
theorem byt_past {xs : List Int} {j : Nat} (h : xs.length ≤ j) : byt xs j = 0 := by
  unfold byt
  rw [List.getD_eq_getElem?_getD, List.getElem?_eq_none h]
  rfl
theorem byt_drop (xs : List Int) (n j : Nat) : byt (xs.drop n) j = byt xs (n + j) := by
  unfold byt
  rw [List.getD_eq_getElem?_getD, List.getD_eq_getElem?_getD, List.getElem?_drop]
theorem byt_row (F : Nat → Nat) (n j : Nat) : byt (row F n) j = if j < n then F j else 0 := by
  by_cases h : j < n
  · unfold byt
    rw [row_at F n j h, if_pos h]; rfl
  · rw [byt_past (by rw [row_length]; omega), if_neg h]
theorem byt_left {xs ys : List Int} {j : Nat} (h : j < xs.length) : byt (xs ++ ys) j = byt xs j := by
  unfold byt
  rw [List.getD_eq_getElem?_getD, List.getD_eq_getElem?_getD, List.getElem?_append_left h]
theorem byt_right {xs ys : List Int} {j : Nat} (h : xs.length ≤ j) : byt (xs ++ ys) j = byt ys (j - xs.length) := by
  unfold byt
  rw [List.getD_eq_getElem?_getD, List.getD_eq_getElem?_getD, List.getElem?_append_right h]
theorem Oct.drop {xs : List Int} (h : Oct xs) (n : Nat) : Oct (xs.drop n) := fun x hx => h x (List.mem_of_mem_drop hx)
theorem Oct.append {xs ys : List Int} (h : Oct xs) (g : Oct ys) : Oct (xs ++ ys) := fun x hx => by
  rcases List.mem_append.1 hx with hx | hx
  · exact h x hx
  · exact g x hx

/-- The first block. -/
def blk (xs : List Int) : Nat := el (byt xs)
theorem blk_lt {xs : List Int} (h : Oct xs) : blk xs < 2 ^ 128 := el_lt (byt_lt h)
/-- n blocks are taken. -/
def tk (H : Nat) : Nat → Nat → List Int → Nat
  | 0, S, _ => S
  | n + 1, S, xs => tk H n (G.mul (S ^^^ blk xs) H) (xs.drop 16)
/-- All are. -/
def tkL (H S : Nat) (xs : List Int) : Nat := tk H ((xs.length + 15) / 16) S xs
theorem tkL_nil (H S : Nat) : tkL H S [] = S := rfl
theorem tkL_step (H S : Nat) {xs : List Int} (h : 0 < xs.length) : tkL H S xs = tkL H (G.mul (S ^^^ blk xs) H) (xs.drop 16) := by
  unfold tkL
  rw [show (xs.length + 15) / 16 = (xs.length - 1) / 16 + 1 from by omega, tk, List.length_drop]
  by_cases h2 : 16 ≤ xs.length
  · rw [show (xs.length - 16 + 15) / 16 = (xs.length - 1) / 16 from by omega]
  · rw [show (xs.length - 16 + 15) / 16 = 0 from by omega, show (xs.length - 1) / 16 = 0 from by omega]
theorem tk_lt {H : Nat} (hH : H < 2 ^ 128) : ∀ n {S : Nat} (xs : List Int), S < 2 ^ 128 → tk H n S xs < 2 ^ 128
  | 0, _, _, h => h
  | n + 1, _, xs, _ => tk_lt hH n _ (G.mul_lt hH)
theorem tkL_lt {H S : Nat} (hH : H < 2 ^ 128) (hS : S < 2 ^ 128) (xs : List Int) : tkL H S xs < 2 ^ 128 := tk_lt hH _ xs hS
theorem tk_same {H : Nat} : ∀ (n S : Nat) {xs ys : List Int}, (∀ j, byt xs j = byt ys j) → tk H n S xs = tk H n S ys
  | 0, _, _, _, _ => rfl
  | n + 1, S, xs, ys, h => by
    rw [tk, tk, show blk xs = blk ys from el_congr fun j _ => h j]
    exact tk_same n _ fun j => by rw [byt_drop, byt_drop, h]
/-- Sums of sums. -/
theorem tk_add {H : Nat} : ∀ (n S T : Nat) {xs ys zs : List Int}, (∀ j, byt xs j < 256) → (∀ j, byt ys j < 256) → (∀ j, byt zs j = byt xs j ^^^ byt ys j) → tk H n (S ^^^ T) zs = tk H n S xs ^^^ tk H n T ys
  | 0, _, _, _, _, _, _, _, _ => rfl
  | n + 1, S, T, xs, ys, zs, hx, hy, h => by
    rw [tk, tk, tk]
    have e : blk zs = blk xs ^^^ blk ys := by
      rw [blk, blk, blk, ← el_xor hx hy]
      exact el_congr fun j _ => h j
    have e2 : G.mul (S ^^^ T ^^^ blk zs) H = G.mul (S ^^^ blk xs) H ^^^ G.mul (T ^^^ blk ys) H := by
      rw [e, G.xor4]
      exact G.mul_linL H (S ^^^ blk xs) (T ^^^ blk ys)
    rw [e2]
    exact tk_add n _ _ (fun j => by rw [byt_drop]; exact hx _) (fun j => by rw [byt_drop]; exact hy _) fun j => by rw [byt_drop, byt_drop, byt_drop, h]
theorem tk_none {H : Nat} : ∀ (n : Nat) {xs : List Int}, (∀ j, byt xs j = 0) → tk H n 0 xs = 0
  | 0, _, _ => rfl
  | n + 1, xs, h => by
    have e : blk xs = 0 := by
      rw [blk, el_congr (y := fun _ => 0) fun j _ => h j]; rfl
    rw [tk, e, Nat.xor_self, G.zero_mul]
    exact tk_none n fun j => by rw [byt_drop]; exact h _
theorem tk_append {H : Nat} : ∀ (m n S : Nat) {xs : List Int} (ys : List Int), xs.length = 16 * m → tk H (m + n) S (xs ++ ys) = tk H n (tk H m S xs) ys
  | 0, n, S, xs, ys, h => by
    obtain rfl : xs = [] := List.length_eq_zero_iff.1 (by omega)
    rw [Nat.zero_add]; rfl
  | m + 1, n, S, xs, ys, h => by
    rw [show m + 1 + n = m + n + 1 from by omega, tk, tk, show blk (xs ++ ys) = blk xs from el_congr fun j hj => byt_left (by omega), List.drop_append_of_le_length (by omega)]
    exact tk_append m n _ ys (by rw [List.length_drop]; omega)
/-- Noughts that fill up. -/
def fillN (n : Nat) : Nat := (16 - n % 16) % 16
def full (xs : List Int) : List Int := xs ++ List.replicate (fillN xs.length) 0
theorem full_length (xs : List Int) : (full xs).length = 16 * ((xs.length + 15) / 16) := by
  simp only [full, List.length_append, List.length_replicate, fillN]; omega
theorem byt_zeros (xs : List Int) (n j : Nat) : byt (xs ++ List.replicate n 0) j = byt xs j := by
  by_cases h : j < xs.length
  · exact byt_left h
  · rw [byt_right (by omega), byt_past (xs := xs) (by omega)]
    unfold byt
    rw [List.getD_eq_getElem?_getD, List.getElem?_replicate]
    split <;> rfl
theorem full_oct {xs : List Int} (h : Oct xs) : Oct (full xs) := h.append fun x hx => by
  rw [(List.mem_replicate.1 hx).2]; omega
theorem tkL_full (H S : Nat) (xs : List Int) : tkL H S (full xs) = tkL H S xs := by
  unfold tkL
  rw [full_length, show (16 * ((xs.length + 15) / 16) + 15) / 16 = (xs.length + 15) / 16 from by omega]
  exact tk_same _ _ fun j => byt_zeros xs _ j
theorem tkL_append (H S : Nat) (xs ys : List Int) : tkL H S (full xs ++ ys) = tkL H (tkL H S xs) ys := by
  rw [← tkL_full H S xs]
  unfold tkL
  rw [List.length_append, full_length, show (16 * ((xs.length + 15) / 16) + ys.length + 15) / 16 = (xs.length + 15) / 16 + (ys.length + 15) / 16 from by omega, show (16 * ((xs.length + 15) / 16) + 15) / 16 = (xs.length + 15) / 16 from by omega]
  exact tk_append _ _ _ ys (full_length xs)
/-- One block. -/
theorem tkL_one (H S : Nat) {xs : List Int} (h : xs.length = 16) : tkL H S xs = G.mul (S ^^^ blk xs) H := by
  rw [tkL_step H S (by omega), List.drop_eq_nil_of_le (by omega), tkL_nil]

/-- The hash of a and b under H. -/
def sumN (H : Nat) (a b : List Int) : Nat := G.mul (tkL H (tkL H 0 a) b ^^^ (8 * a.length * 18446744073709551616 + 8 * b.length)) H
theorem blk_row {F : Nat → Nat} : blk (row F 16) = el F := el_congr fun j hj => by rw [byt_row, if_pos hj]
theorem sumN_lt {H : Nat} (h : H < 2 ^ 128) (a b : List Int) : sumN H a b < 2 ^ 128 := G.mul_lt h
end Go.Proofs.Ytadpnkecdjleiaa
