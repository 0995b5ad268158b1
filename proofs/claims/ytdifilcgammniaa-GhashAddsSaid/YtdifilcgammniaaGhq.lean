/-
  Sums of sums; noughts behind a text. Stands on no function of the program.
-/
import Derived.Test.YtdifilcgammniaaGht
namespace Go.Proofs.Ytdifilcgammniaa
open Go.RowKit
set_option linter.unusedVariables false
set_option linter.unusedSimpArgs false

theorem sum_nil (H : Nat) (t : List Int) : sumN H [] t = G.mul (tkL H 0 t ^^^ 8 * t.length) H := by
  rw [sumN, tkL_nil, show 8 * ([] : List Int).length * 18446744073709551616 + 8 * t.length = 8 * t.length by simp]
theorem byt_take (xs : List Int) (n j : Nat) : byt (xs.take n) j = if j < n then byt xs j else 0 := by
  unfold byt
  rw [List.getD_eq_getElem?_getD, List.getElem?_take]
  by_cases h : j < n
  · rw [if_pos h, if_pos h, List.getD_eq_getElem?_getD]
  · rw [if_neg h, if_neg h]; rfl
theorem byt_noughts (n j : Nat) : byt (List.replicate n 0) j = 0 := by
  unfold byt
  rw [List.getD_eq_getElem?_getD, List.getElem?_replicate]
  split <;> rfl
theorem sums_add {H n : Nat} {xs ys : List Int} (hx : Oct xs) (hy : Oct ys) (h1 : n ≤ xs.length) (h2 : n ≤ ys.length) :
    sumN H [] (xs.take n) ^^^ sumN H [] (ys.take n) = sumN H [] (row (fun j => byt xs j ^^^ byt ys j) n) ^^^ sumN H [] (List.replicate n 0) := by
  have l1 : (xs.take n).length = n := by simp; omega
  have l2 : (ys.take n).length = n := by simp; omega
  have l3 : (row (fun j => byt xs j ^^^ byt ys j) n).length = n := row_length _ _
  have l4 : (List.replicate n (0 : Int)).length = n := by simp
  have e1 : tkL H 0 (row (fun j => byt xs j ^^^ byt ys j) n) = tkL H 0 (xs.take n) ^^^ tkL H 0 (ys.take n) := by
    unfold tkL
    rw [l1, l2, l3]
    have := tk_add (H := H) ((n + 15) / 16) 0 0 (xs := xs.take n) (ys := ys.take n) (zs := row (fun j => byt xs j ^^^ byt ys j) n) (byt_lt (hx.take n)) (byt_lt (hy.take n)) (fun j => by
      rw [byt_row, byt_take, byt_take]
      split
      · rfl
      · rfl)
    rwa [Nat.xor_self] at this
  have e2 : tkL H 0 (List.replicate n 0) = 0 := tk_none _ (byt_noughts n)
  rw [sum_nil, sum_nil, sum_nil, sum_nil, l1, l2, l3, l4, e1, e2, ← G.mul_linL H (tkL H 0 (xs.take n) ^^^ 8 * n), ← G.mul_linL H (tkL H 0 (xs.take n) ^^^ tkL H 0 (ys.take n) ^^^ 8 * n)]
  congr 1
  rw [G.xor4, Nat.xor_self, Nat.xor_zero, Nat.zero_xor, Nat.xor_assoc, Nat.xor_self, Nat.xor_zero]
theorem sums_full {H : Nat} {xs : List Int} : sumN H [] xs ^^^ sumN H [] (full xs) = G.mul (8 * xs.length ^^^ 8 * (full xs).length) H := by
  rw [sum_nil, sum_nil, tkL_full, ← G.mul_linL H (tkL H 0 xs ^^^ 8 * xs.length)]
  congr 1
  rw [G.xor4, Nat.xor_self, Nat.zero_xor]
end Go.Proofs.Ytdifilcgammniaa
