/-
  The contract of known, of layer 4.
-/
import Derived.Test.YtdifilcgammniaaGhp
namespace Go.Proofs.Ytdifilcgammniaa
open Go.RowKit
set_option linter.unusedVariables false
set_option linter.unusedSimpArgs false

set_option maxHeartbeats 2000000 in
set_option maxRecDepth 100000 in
theorem gknown_any (w : World) : Calls Try.prog 24 #[] w fun e w' => e = .returned (.bool true) ∧ Below w.heap.size w w' := by
  have hzb := Try.zeroBlock
  have hn := arr_new w 16 (fun _ => 0) 35
  have hb := (Below.refl w.heap.size w).alloc (Nat.le_refl _) (.cells (vals 16 fun _ => 0).toArray 35)
  have h1 := hn.put kH
  have hb1 := below_setCells (vals 16 kH) 0 hb (Nat.le_refl w.heap.size)
  go_enter Try.func24, Try.ntmps24
  go_upto_region 2 with (refine wpList_store_arr rfl 35 _ _ rfl w.heap.size 16 kH rfl (by kernel_rfl) (fun _ => 0) ?_ Try.sizeBlock ?_; exact hn)
  clear hn hb
  generalize (w.alloc (.cells (vals 16 fun _ => 0).toArray 35)).setCells w.heap.size 0 (vals 16 kH) = w1 at h1 hb1 ⊢
  have h2 := h1.alloc (.cells (vals 16 kT).toArray 5)
  have h3 := arr_new w1 16 kT 5
  have hb2 := hb1.alloc hb1.size (.cells (vals 16 kT).toArray 5)
  go_upto_region 3 with fail
  rw [← kT_vals]
  clear hzb
  generalize w1.alloc (.cells (vals 16 kT).toArray 5) = w2 at h2 h3 hb2 ⊢
  go_wp2_with (refine wpList_load_arr rfl 35 _ rfl w.heap.size rfl 16 kH ?_ _ Try.underlying35 rfl Try.sizeBlock ?_; exact h2)
  refine (sum_of kH none (some ⟨w1.heap.size, 0, none⟩) 0 16 0 16 [] (row kT 16) _ kH_lt rfl (row_length _ _) (Bin.nil _ _) (fun _ => ⟨w1.heap.size, 0, rfl, fun i hi => by
    rw [row_length] at hi
    rw [Nat.zero_add, row_at kT 16 i hi]
    exact (h3 i hi).1⟩) Oct.nil (row_oct kT_lt 16) (by decide) (by decide) (by decide) (by decide)).mono ?_
  rintro e w3 ⟨rfl, hb3⟩
  have hV := cmp_known (y := by16 (sumN (el kH) [] (row kT 16))) (by16_lt _) (by rw [el_by16 (sumN_lt (el_lt kH_lt) _ _), known_sum])
  have hB3 := hb2.trans (hb3.mono hb2.size)
  generalize by16 (sumN (el kH) [] (row kT 16)) = y at hV ⊢
  clear h1 h2 h3 hb1 hb2 hb3
  go_wp2_with fail
  go_ret
  exact ⟨rfl, hB3⟩
end Go.Proofs.Ytdifilcgammniaa
