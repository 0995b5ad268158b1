/-
  Counter blocks and the stream, as numbers. Stands on no function of the program.
-/
import Derived.Test.YtadpnkecdjleiaaGht
namespace Go.Proofs.Ytadpnkecdjleiaa
open Go.RowKit
set_option linter.unusedVariables false
set_option linter.unusedSimpArgs false

/-- The number of a counter block. -/
def cnt (c : Nat → Nat) : Nat := nb (fun j => c (12 + j)) 4
theorem cnt_lt {c : Nat → Nat} (oc : ∀ j, c j < 256) : cnt c < 4294967296 := nb_lt (fun j => oc _) 4
theorem cnt_congr {c d : Nat → Nat} (h : ∀ j, j < 16 → c j = d j) : cnt c = cnt d := nb_congr fun j hj => h (12 + j) (by omega)
/-- The bytes that a number puts into a counter block's end. -/
def setN (c : Nat → Nat) (v j : Nat) : Nat := if j < 12 then c j else v / 256 ^ (15 - j) % 256
theorem setN_lt {c : Nat → Nat} (oc : ∀ j, c j < 256) (v j : Nat) : setN c v j < 256 := by
  unfold setN
  split
  · exact oc j
  · exact Nat.mod_lt _ (by decide)
theorem cnt_set (c : Nat → Nat) {v : Nat} (hv : v < 4294967296) : cnt (setN c v) = v := by
  have e := nb_of v 4 4 (Nat.le_refl _)
  rw [Nat.sub_self, Nat.pow_zero, Nat.div_one, Nat.mod_eq_of_lt (show v < 256 ^ 4 from hv)] at e
  refine (nb_congr fun j hj => ?_).trans e
  unfold setN
  rw [if_neg (by omega), show 15 - (12 + j) = 4 - 1 - j from by omega]
theorem setN_cnt {c : Nat → Nat} (oc : ∀ j, c j < 256) (j : Nat) (hj : j < 16) : setN c (cnt c) j = c j := by
  unfold setN
  by_cases h : j < 12
  · rw [if_pos h]
  · rw [if_neg h]
    have e := nb_at (x := fun j => c (12 + j)) (fun j => oc _) 4 (j - 12) (by omega)
    rw [show 4 - 1 - (j - 12) = 15 - j from by omega, show 12 + (j - 12) = j from by omega] at e
    exact e
/-- The next one. -/
def nxt (c : Nat → Nat) : Nat → Nat := setN c ((cnt c + 1) % 4294967296)
theorem nxt_lt {c : Nat → Nat} (oc : ∀ j, c j < 256) (j : Nat) : nxt c j < 256 := setN_lt oc _ j
theorem nxt_congr {c d : Nat → Nat} (h : ∀ j, j < 16 → c j = d j) (j : Nat) (hj : j < 16) : nxt c j = nxt d j := by
  unfold nxt setN
  rw [cnt_congr h, h j hj]
theorem cnt_nxt (c : Nat → Nat) : cnt (nxt c) = (cnt c + 1) % 4294967296 := cnt_set c (Nat.mod_lt _ (by decide))
theorem nxt_ahead (c : Nat → Nat) (j : Nat) (hj : j < 12) : nxt c j = c j := by unfold nxt setN; rw [if_pos hj]
/-- It has another number. -/
theorem nxt_other {c : Nat → Nat} (oc : ∀ j, c j < 256) : ¬ ∀ j, j < 16 → nxt c j = c j := fun h => by
  have e := cnt_congr h
  rw [cnt_nxt] at e
  have := cnt_lt oc
  omega
/-- Unlike ones have unlike next ones. -/
theorem nxt_inj {c d : Nat → Nat} (oc : ∀ j, c j < 256) (od : ∀ j, d j < 256) (h : ∀ j, j < 16 → nxt c j = nxt d j) (j : Nat) (hj : j < 16) : c j = d j := by
  have e := cnt_congr h
  rw [cnt_nxt, cnt_nxt] at e
  have e1 := cnt_lt oc
  have e2 := cnt_lt od
  have e3 : cnt c = cnt d := by omega
  by_cases h12 : j < 12
  · rw [← nxt_ahead c j h12, ← nxt_ahead d j h12]; exact h j hj
  · rw [← setN_cnt oc j hj, ← setN_cnt od j hj, e3]
    unfold setN
    rw [if_neg h12, if_neg h12]
/-- n times the next one. -/
def nxtN : Nat → (Nat → Nat) → Nat → Nat
  | 0, c => c
  | n + 1, c => nxt (nxtN n c)
theorem nxtN_lt {c : Nat → Nat} (oc : ∀ j, c j < 256) : ∀ n j, nxtN n c j < 256
  | 0, j => oc j
  | n + 1, j => nxt_lt (nxtN_lt oc n) j
theorem nxtN_congr {c d : Nat → Nat} (h : ∀ j, j < 16 → c j = d j) : ∀ n j, j < 16 → nxtN n c j = nxtN n d j
  | 0, j, hj => h j hj
  | n + 1, j, hj => nxt_congr (nxtN_congr h n) j hj

/-- The first counter block of a nonce. -/
def frs (xs : List Int) (j : Nat) : Nat := if j < 12 then byt xs j else if j = 15 then 1 else 0
theorem frs_lt {xs : List Int} (h : Oct xs) (j : Nat) : frs xs j < 256 := by
  unfold frs
  split
  · exact byt_lt h j
  · split <;> omega

/-- The stream that E makes of the counter blocks behind c. -/
def strm (E : (Nat → Nat) → Nat → Nat) (c : Nat → Nat) (j : Nat) : Nat := E (nxtN (j / 16 + 1) c) (j % 16)
theorem strm_lt {E : (Nat → Nat) → Nat → Nat} {c : Nat → Nat} (oE : ∀ x, (∀ j, x j < 256) → ∀ j, E x j < 256) (oc : ∀ j, c j < 256) (j : Nat) : strm E c j < 256 := oE _ (nxtN_lt oc _) _
/-- A text with the stream added. -/
def cry (E : (Nat → Nat) → Nat → Nat) (c : Nat → Nat) (xs : List Int) : List Int := row (fun j => byt xs j ^^^ strm E c j) xs.length
theorem cry_length (E : (Nat → Nat) → Nat → Nat) (c : Nat → Nat) (xs : List Int) : (cry E c xs).length = xs.length := row_length _ _
theorem cry_oct {E : (Nat → Nat) → Nat → Nat} {c : Nat → Nat} {xs : List Int} (oE : ∀ x, (∀ j, x j < 256) → ∀ j, E x j < 256) (oc : ∀ j, c j < 256) (hx : Oct xs) : Oct (cry E c xs) :=
  row_oct (fun j => xor_byte (byt_lt hx j) (strm_lt oE oc j)) _
/-- Twice is what it was. -/
theorem cry_cry {E : (Nat → Nat) → Nat → Nat} {c : Nat → Nat} {xs : List Int} (hx : Oct xs) : cry E c (cry E c xs) = xs := by
  apply List.ext_getElem?
  intro j
  unfold cry
  rw [row_length]
  by_cases h : j < xs.length
  · have e := byt_at hx j
    rw [List.getD_eq_getElem?_getD, List.getElem?_eq_getElem h] at e
    rw [List.getElem?_eq_getElem h, row, List.getElem?_map, List.getElem?_range h]
    simp only [Option.map_some, Option.getD_some] at e ⊢
    rw [byt_row, if_pos h, Nat.xor_assoc, Nat.xor_self, Nat.xor_zero, e]
  · rw [List.getElem?_eq_none (by rw [row_length]; omega), List.getElem?_eq_none (by omega)]
/-- The beginning of a text. -/
theorem cry_take (E : (Nat → Nat) → Nat → Nat) (c : Nat → Nat) (xs : List Int) (n : Nat) (h : n ≤ xs.length) : cry E c (xs.take n) = (cry E c xs).take n := by
  apply List.ext_getElem?
  intro j
  unfold cry
  rw [List.getElem?_take, List.length_take, Nat.min_eq_left h]
  by_cases hj : j < n
  · rw [if_pos hj, row, row, List.getElem?_map, List.getElem?_map, List.getElem?_range hj, List.getElem?_range (by omega)]
    simp only [Option.map_some]
    congr 2
    unfold byt
    rw [List.getD_eq_getElem?_getD, List.getD_eq_getElem?_getD, List.getElem?_take, if_pos hj]
  · rw [if_neg hj, List.getElem?_eq_none (by rw [row_length]; omega)]
end Go.Proofs.Ytadpnkecdjleiaa
