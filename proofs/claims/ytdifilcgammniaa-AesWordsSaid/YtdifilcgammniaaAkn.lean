/-
  The contract of known.
-/
import Derived.Test.YtdifilcgammniaaAknown
namespace Go.Proofs.Ytdifilcgammniaa
open Go.RowKit
set_option linter.unusedVariables false
set_option linter.unusedSimpArgs false

theorem count16 (w : World) : Calls Try.prog 32 #[.int .i64 0, .int .i64 16] w fun e w' => ∃ v, e = .returned v ∧ Own w.heap.size w' v 16 (upL 16) ∧ Below w.heap.size w w' := count_any 16 w (by decide)
theorem count32 (w : World) : Calls Try.prog 32 #[.int .i64 0, .int .i64 32] w fun e w' => ∃ v, e = .returned v ∧ Own w.heap.size w' v 32 (upL 32) ∧ Below w.heap.size w w' := count_any 32 w (by decide)

set_option maxHeartbeats 2000000 in
set_option maxRecDepth 100000 in
theorem known_any (w : World) : Calls Try.prog 16 #[] w fun e w' => e = .returned (.bool true) ∧ Below w.heap.size w w' := by
  have hzb := Try.zeroBlock
  have hk := check_spec known16
  have oF := o16
  have oB := oblk
  obtain ⟨F, hF⟩ : ∃ F, Hid (F = wordB 4 (List.range 16)) := ⟨_, rfl⟩
  obtain ⟨x, hx⟩ : ∃ x, Hid (x = blkN) := ⟨_, rfl⟩
  rw [← hF.out] at oF
  rw [← hF.out, ← hx.out] at hk
  rw [← hx.out] at oB
  go_enter Try.func16, Try.ntmps16
  go_wp2_with fail
  refine (count16 _).mono ?_
  rintro e w1 ⟨v, rfl, hv, hb1⟩
  obtain ⟨p, cap, rfl, hcap, hbin⟩ := hv.bin
  clear hv
  go_wp2_with fail
  refine (new4_any p cap (upL 16) _ hbin (upL_oct 16 (by decide)) (upL_length 16) hcap).mono ?_
  rintro e w2 ⟨c, kb, rfl, hC, hb2⟩
  rw [upL_nats, ← hF.out] at hC
  have hB2 := hb1.trans (hb2.mono hb1.size)
  have HC := hid hC
  clear hC hbin hb1 hb2
  go_wp2_with fail
  have hbl := block_any w2
  rw [← hx.out] at hbl
  refine hbl.mono ?_
  rintro e w3 ⟨rfl, hb3⟩
  have HC3 := hid (HC.out.below hb3)
  have hB3 := hB2.trans (hb3.mono hB2.size)
  go_wp2_with fail
  refine (encrypt_any c kb 10 F x _ oF oB (by decide) (by decide) HC3.out).mono ?_
  rintro e w4 ⟨rfl, hb4⟩
  have hB4 := hB3.trans (hb4.mono hB3.size)
  clear HC HC3 hB2 hB3 hb3 hb4
  obtain ⟨y, hy⟩ : ∃ y, Hid (y = enc F 10 x) := ⟨_, rfl⟩
  rw [← hy.out]
  rw [← hy.out] at hk
  have hA := arr_new w4 16 (fun _ => 0) 35
  have heq' := eq_known y hk
  have HA := hid hA
  clear hA hk
  go_upto_region 5 with (refine wpList_store_arr rfl 35 _ _ rfl w4.heap.size 16 y rfl rfl (fun _ => 0) ?_ Try.sizeBlock ?_; exact HA.out)
  clear hzb
  go_wp2_with (refine wpList_load_want 35 _ rfl (by rfl) w4.heap.size rfl 16 y ?_ _ Try.underlying35 rfl Try.sizeBlock ?_; exact HA.out.put y)
  go_ret
  exact ⟨rfl, below_setCells _ 0 (hB4.alloc hB4.size _) hB4.size⟩
end Go.Proofs.Ytdifilcgammniaa
