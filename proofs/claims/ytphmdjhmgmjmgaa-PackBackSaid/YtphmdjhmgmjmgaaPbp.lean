/-
  An item read out of all the bytes, and out of their beginning. No program.
-/
import Derived.Test.YtphmdjhmgmjmgaaPpk
namespace Go.Proofs.Ytphmdjhmgmjmgaa
open Go.RowKit
set_option linter.unusedVariables false
set_option linter.unusedSimpArgs false

section
variable {I : Nat → Bool} {N : Nat → Nat} {T : Nat → List Int} {j k nn : Nat}
theorem cats_next : (cats I N T (j + 1)).length = (cats I N T j).length + (itm (I j) (N j) (T j)).length := by rw [cats, List.length_append]
theorem txt_step (hj : j < k) (hI : I j = true) (ht : (T j).length ≤ 200) (hnn : nn ≤ (cats I N T k).length) :
    rdText (cats I N T k) 200 (cats I N T j).length 0 = (T j, (cats I N T (j + 1)).length, 0) ∧
    ((cats I N T (j + 1)).length ≤ nn → rdText ((cats I N T k).take nn) 200 (cats I N T j).length 0 = (T j, (cats I N T (j + 1)).length, 0)) ∧
    ((cats I N T j).length ≤ nn → ¬ (cats I N T (j + 1)).length ≤ nn → rdText ((cats I N T k).take nn) 200 (cats I N T j).length 0 = ([], (cats I N T j).length, 4)) := by
  obtain ⟨r, hr⟩ := cats_drop I N T hj
  have hit : itm (I j) (N j) (T j) = numL (T j).length ++ T j := by rw [itm, hI, if_pos rfl]
  have hnx := cats_next (I := I) (N := N) (T := T) (j := j)
  have hle := cats_le I N T (show j ≤ k by omega)
  rw [hit] at hr hnx
  rw [List.length_append] at hnx
  refine ⟨?_, fun hw => ?_, fun h0 hw => ?_⟩
  · rw [rdText_whole (t := T j) (r := r) (by rw [hr, List.append_assoc]) hle ht, hnx]
    simp only [Nat.add_assoc]
  · have h := cut_whole hr (n := nn) (by rw [List.length_append]; omega)
    rw [rdText_whole (t := T j) (by rw [h, List.append_assoc]) (by rw [List.length_take]; omega) ht, hnx]
    simp only [Nat.add_assoc]
  · have h := cut_part hr (n := nn) (by rw [List.length_append]; omega)
    exact rdText_cut h (by rw [List.length_take]; omega) ht (by omega)
theorem num_step (hj : j < k) (hI : I j = false) (hN : N j < 2 ^ 64) (hnn : nn ≤ (cats I N T k).length) :
    rdNum (cats I N T k) (cats I N T j).length 0 = (N j, (cats I N T (j + 1)).length, 0) ∧
    ((cats I N T (j + 1)).length ≤ nn → rdNum ((cats I N T k).take nn) (cats I N T j).length 0 = (N j, (cats I N T (j + 1)).length, 0)) ∧
    ((cats I N T j).length ≤ nn → ¬ (cats I N T (j + 1)).length ≤ nn → rdNum ((cats I N T k).take nn) (cats I N T j).length 0 = (0, (cats I N T j).length, 4)) := by
  obtain ⟨r, hr⟩ := cats_drop I N T hj
  have hit : itm (I j) (N j) (T j) = numL (N j) := by rw [itm, hI]; rfl
  have hnx := cats_next (I := I) (N := N) (T := T) (j := j)
  rw [hit] at hr hnx
  refine ⟨?_, fun hw => ?_, fun h0 hw => ?_⟩
  · rw [rdNum_whole hr hN, hnx]
  · rw [rdNum_whole (cut_whole hr (n := nn) (by omega)) hN, hnx]
  · exact rdNum_cut (cut_part hr (n := nn) (by omega)) hN (by omega)
end
end Go.Proofs.Ytphmdjhmgmjmgaa
