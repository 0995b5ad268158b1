/-
  Noughts enciphered under noughts, reckoned. Stands on no function of the program.
-/
import Derived.Test.YtgnhbfjngdgibaaAeval
import Derived.Test.YtgnhbfjngdgibaaKh
namespace Go.Proofs.Ytgnhbfjngdgibaa
set_option linter.unusedVariables false

/-- Noughts, and v at the end. -/
def endN (v j : Nat) : Nat := if j = 15 then v else 0
theorem zero0 : check 4 (List.replicate 16 0) 10 (endN 0) [0x66, 0xe9, 0x4b, 0xd4, 0xef, 0x8a, 0x2c, 0x3b, 0x88, 0x4c, 0xfa, 0x59, 0xca, 0x34, 0x2b, 0x2e] = true := by decide +kernel
theorem zero1 : check 4 (List.replicate 16 0) 10 (endN 1) [0x58, 0xe2, 0xfc, 0xce, 0xfa, 0x7e, 0x30, 0x61, 0x36, 0x7f, 0x1d, 0x57, 0xa4, 0xe7, 0x45, 0x5a] = true := by decide +kernel
theorem zero2 : check 4 (List.replicate 16 0) 10 (endN 2) [0x03, 0x88, 0xda, 0xce, 0x60, 0xb6, 0xa3, 0x92, 0xf3, 0x28, 0xc2, 0xb9, 0x71, 0xb2, 0xfe, 0x78] = true := by decide +kernel
theorem frs_noughts (j : Nat) (hj : j < 16) : frs (List.replicate 12 0) j = endN 1 j := by
  revert hj
  rcases (show j < 12 ∨ j = 12 ∨ j = 13 ∨ j = 14 ∨ j = 15 ∨ 16 ≤ j from by omega) with h | rfl | rfl | rfl | rfl | h
  · intro _
    unfold frs endN byt
    rw [if_pos h, if_neg (by omega), List.getD_eq_getElem?_getD, List.getElem?_replicate, if_pos h]; rfl
  · intro _; rfl
  · intro _; rfl
  · intro _; rfl
  · intro _; rfl
  · intro hj; omega
theorem nxt_noughts (j : Nat) (hj : j < 16) : nxt (endN 1) j = endN 2 j := by
  rcases (show j < 12 ∨ j = 12 ∨ j = 13 ∨ j = 14 ∨ j = 15 from by omega) with h | rfl | rfl | rfl | rfl
  · rw [nxt_ahead _ j h]; unfold endN; rw [if_neg (by omega), if_neg (by omega)]
  all_goals rfl
/-- The stream's first block, of noughts under noughts. -/
theorem strm_noughts (j : Nat) (hj : j < 16) : strm (enc (wordB 4 (List.replicate 16 0)) 10) (frs (List.replicate 12 0)) j = [0x03, 0x88, 0xda, 0xce, 0x60, 0xb6, 0xa3, 0x92, 0xf3, 0x28, 0xc2, 0xb9, 0x71, 0xb2, 0xfe, 0x78].getD j 0 := by
  have h := check_spec zero2
  unfold strm
  rw [show j / 16 + 1 = 1 from by omega, show j % 16 = j from by omega]
  have e : Eq16 (nxtN 1 (frs (List.replicate 12 0))) (endN 2) := fun i hi => (nxt_congr frs_noughts i hi).trans (nxt_noughts i hi)
  exact (enc_congr _ 10 e j hj).trans (h j hj)
end Go.Proofs.Ytgnhbfjngdgibaa
