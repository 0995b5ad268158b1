/-
  Noughts sealed under noughts, reckoned.
-/
import Derived.Test.YtgnhbfjngdgibaaCk
import Derived.Test.YtgnhbfjngdgibaaKh
import Derived.Test.YtgnhbfjngdgibaaGhc
namespace Go.Proofs.Ytgnhbfjngdgibaa
set_option linter.unusedVariables false
set_option linter.unusedSimpArgs false

/-- The cipher of sixteen noughts. -/
def zE : (Nat → Nat) → Nat → Nat := enc (wordB 4 (List.replicate 16 0)) 10
def k1 (j : Nat) : Nat := [0x58, 0xe2, 0xfc, 0xce, 0xfa, 0x7e, 0x30, 0x61, 0x36, 0x7f, 0x1d, 0x57, 0xa4, 0xe7, 0x45, 0x5a].getD j 0
def kX (j : Nat) : Nat := [0xab, 0x6e, 0x47, 0xd4, 0x2c, 0xec, 0x13, 0xbd, 0xf5, 0x3a, 0x67, 0xb2, 0x12, 0x57, 0xbd, 0xdf].getD j 0
theorem k1_lt (j : Nat) : k1 j < 256 := getD_lt (by decide) j
theorem kX_lt (j : Nat) : kX j < 256 := getD_lt (by decide) j
theorem zE_zero : el (zE fun _ => 0) = el kH := by
  have e : endN 0 = fun _ => 0 := by funext j; unfold endN; split <;> rfl
  have h := check_spec zero0
  rw [e] at h
  exact el_congr h
theorem zE_first : el (zE (frs (List.replicate 12 0))) = el k1 :=
  el_congr fun j hj => (enc_congr _ 10 (fun i hi => frs_noughts i hi) j hj).trans (check_spec zero1 j hj)
theorem cry_noughts : cry zE (frs (List.replicate 12 0)) (List.replicate 16 0) = row kT 16 := by
  unfold cry row
  rw [List.length_replicate]
  apply List.map_congr_left
  intro j hj
  have hj16 := List.mem_range.1 hj
  have e : byt (List.replicate 16 0) j = 0 := by
    unfold byt
    rw [List.getD_eq_getElem?_getD, List.getElem?_replicate, if_pos hj16]; rfl
  show ((byt (List.replicate 16 0) j ^^^ strm zE (frs (List.replicate 12 0)) j : Nat) : Int) = _
  rw [e, Nat.zero_xor]
  exact congrArg (fun n : Nat => (n : Int)) (strm_noughts j hj16)
theorem tag_nothing : tagN zE (List.replicate 12 0) [] [] = el k1 := by
  rw [tagN, zE_zero, zE_first, sumN, tkL_nil, tkL_nil]
  simp only [List.length_nil, Nat.mul_zero, Nat.zero_mul, Nat.add_zero, Nat.xor_self, G.zero_mul, Nat.zero_xor]
theorem tag_noughts : tagN zE (List.replicate 12 0) [] (row kT 16) = el kX := by
  rw [tagN, zE_zero, zE_first, known_sum]
  decide
end Go.Proofs.Ytgnhbfjngdgibaa
