/-
  The walk of AesNone.
-/
import Derived.Test.YtkomelkhkofaaaaAkn
namespace Go.Proofs.Ytkomelkhkofaaaa
open Go.RowKit
set_option linter.unusedVariables false
set_option linter.unusedSimpArgs false

set_option maxHeartbeats 4000000 in
set_option maxRecDepth 100000 in
theorem none_law (x : Nat → Nat) (w : World) (ox : ∀ j, x j < 256) :
    Calls Try.prog 6 #[.agg (vals 16 x).toArray] w fun e w' => e = .returned (.bool true) ∧ Below w.heap.size w w' := by
  have hzb := Try.zeroBlock
  have heq := fun w => same16 (fun _ => 0) (fun _ => 0) true w (same16_yes (Eq16.refl _))
  have hA := arr_new w 16 x 35
  have hB := (Below.refl w.heap.size w).alloc (Nat.le_refl _) (.cells (vals 16 x).toArray 35)
  go_enter Try.func6, Try.ntmps6
  go_wp2_with (refine wpList_load_arr rfl 35 _ rfl w.heap.size rfl 16 x ?_ _ Try.underlying35 rfl Try.sizeBlock ?_; exact hA)
  refine (encrypt_nil x _).mono ?_
  rintro e w1 ⟨rfl, hb1⟩
  have hB1 := hB.trans (hb1.mono hB.size)
  have hA1 := ((hA.below hb1).alloc (.cells (vals 16 fun _ => 0).toArray 35)).besidePut (b' := w1.heap.size) (by have := (hA.below hb1).lt (by decide); omega) 0 (vals 16 fun _ => 0)
  have hZ1 := arr_new w1 16 (fun _ => 0) 35
  have hB2 := below_setCells (b := w1.heap.size) (vals 16 fun _ => 0) 0 (hB1.alloc hB1.size (.cells (vals 16 fun _ => 0).toArray 35)) hB1.size
  have hl1 := hZ1.lt (by decide)
  clear hA hB hB1 hb1
  go_upto_region 3 with (refine wpList_store_arr rfl 35 _ _ rfl w1.heap.size 16 (fun _ => 0) rfl rfl (fun _ => 0) ?_ Try.sizeBlock ?_; exact hZ1)
  have hZ2 := hZ1.put (fun _ => 0)
  obtain ⟨g, hg⟩ : ∃ g, Hid (g = w1.heap.size) := ⟨_, rfl⟩
  rw [← hg.out]
  rw [← hg.out] at hA1 hZ2 hB2
  generalize (w1.alloc (.cells (vals 16 fun _ => 0).toArray 35)).setCells g 0 (vals 16 fun _ => 0) = w2 at hA1 hZ2 hB2 ⊢
  clear hZ1 hl1
  go_wp2_with (refine wpList_load_arr rfl 35 _ rfl w.heap.size rfl 16 x ?_ _ Try.underlying35 rfl Try.sizeBlock ?_; exact hA1)
  refine (decrypt_nil x _).mono ?_
  rintro e w3 ⟨rfl, hb3⟩
  have hB3 := hB2.trans (hb3.mono hB2.size)
  have hZ3 := hZ2.below hb3
  have hl3 := hZ3.lt (by decide)
  have hY3 := arr_new w3 16 (fun _ => 0) 35
  have hB4 := below_setCells (b := w3.heap.size) (vals 16 fun _ => 0) 0 (hB3.alloc hB3.size (.cells (vals 16 fun _ => 0).toArray 35)) hB3.size
  have hZ4 := (hZ3.alloc (.cells (vals 16 fun _ => 0).toArray 35)).besidePut (b' := w3.heap.size) (by omega) 0 (vals 16 fun _ => 0)
  clear hA1 hB2 hb3 hZ2 hB3 hZ3
  go_upto_region 4 with (refine wpList_store_arr rfl 35 _ _ rfl w3.heap.size 16 (fun _ => 0) rfl rfl (fun _ => 0) ?_ Try.sizeBlock ?_; exact hY3)
  have hY4 := hY3.put (fun _ => 0)
  obtain ⟨h, hh⟩ : ∃ h, Hid (h = w3.heap.size) := ⟨_, rfl⟩
  rw [← hh.out]
  rw [← hh.out] at hY4 hZ4 hB4 hl3
  generalize (w3.alloc (.cells (vals 16 fun _ => 0).toArray 35)).setCells h 0 (vals 16 fun _ => 0) = w4 at hY4 hZ4 hB4 ⊢
  clear hY3
  go_wp2_with (first | (refine wpList_load_want 35 _ rfl (by rfl) g rfl 16 (fun _ => 0) ?_ _ Try.underlying35 rfl Try.sizeBlock ?_; exact hZ4) | (refine wpList_load_want 35 _ rfl (by rfl) h rfl 16 (fun _ => 0) ?_ _ Try.underlying35 rfl Try.sizeBlock ?_; exact hY4))
  refine (known_any _).mono ?_
  rintro e w5 ⟨rfl, hb5⟩
  go_wp2_with fail
  go_ret
  exact ⟨rfl, hB4.trans (hb5.mono hB4.size)⟩
end Go.Proofs.Ytkomelkhkofaaaa
