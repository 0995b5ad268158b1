/-
  The document's Add.
-/
import Derived.Test.YtgnhbfjngdgibaaGhc
namespace Go.Proofs.Ytgnhbfjngdgibaa
open Go.RowKit
set_option linter.unusedVariables false
set_option linter.unusedSimpArgs false

set_option maxHeartbeats 1000000 in
set_option maxRecDepth 100000 in
theorem refAdds_of (x y : Nat → Nat) (w : World) (ox : ∀ j, x j < 256) (oy : ∀ j, y j < 256) :
    Calls Try.prog 45 #[.agg (vals 16 x).toArray, .agg (vals 16 y).toArray] w fun e w' =>
      e = .returned (.agg (vals 16 fun j => x j ^^^ y j).toArray) ∧ Below w.heap.size w w' := by
  have hzb := Try.zeroBlock
  obtain ⟨wa, hwa, b1, b2, b3, hB, _⟩ := boxes3 w 16 x y (fun _ => 0) 44 44 44
  go_enter Try.func45, Try.ntmps45
  go_wp2_with fail
  rw [← hwa.out]
  go_loopw [5] (fun i wr => ∃ k : Nat, k ≤ 16 ∧ i = .int .i64 (k : Int) ∧ Trio w wr (mixk (fun j => x j ^^^ y j) x k) y) (fun i _ => 16 - (intOf i).toNat)
  case atStart => exact ⟨0, by decide, rfl, b1.same fun t _ => (mixk_zero (fun j => x j ^^^ y j) x t).symm, b2, b3, hB⟩
  case round =>
    clear b1 b2 b3 hB hwa hzb
    obtain ⟨k, hk, rfl, h1, h2, h3, hb⟩ := hrel
    by_cases hlt : k < 16
    · obtain ⟨hc, hf⟩ := h1 k hlt
      rw [mixk_at _ _ _ _ (Nat.le_refl _)] at hc
      have hw := (h2 k hlt).1
      have HS := hid (h1.set k (x k ^^^ y k) hlt)
      have H2 := hid h2
      have H3 := hid h3
      have HX := hid (xor8 (ox k) (oy k))
      have kI : (k : Int) < 16 := by omega
      clear h1 h2 h3
      go_wp2
      go_region
      go_wp2
      go_roundw
      case rel =>
        refine ⟨k + 1, by omega, by go_num, ?_, ?_, ?_, (hb.drew).setCell (by simp) _⟩
        · rw [HX.out]
          exact HS.out.drew.same fun t _ => mixk_step (fun j => x j ^^^ y j) _ k t
        · exact (H2.out.beside (by omega) _ _).drew
        · exact (H3.out.beside (by omega) _ _).drew
      case measure => simp [intOf]; omega
    · obtain rfl : k = 16 := by omega
      have h4 := h3.put (mixk (fun j => x j ^^^ y j) x 16)
      go_wp2_with (first | (refine wpList_load_arr rfl 44 _ rfl _ rfl 16 _ h1 _ Try.underlying44 rfl Try.sizeBlock ?_) | (refine wpList_store_arr rfl 44 _ _ rfl _ 16 _ rfl rfl _ h3 Try.sizeBlock ?_))
      refine bodyPost_ret (v := .agg (vals 16 fun j => x j ^^^ y j).toArray) ?_ rfl ⟨rfl, below_setCells _ 0 hb (by omega)⟩
      have h5 := h4.same fun t ht => mixk_full _ _ 16 t ht
      exact results_cell_arr rfl _ _ 16 _ _ rfl h5 Try.underlying44 rfl Try.sizeBlock

end Go.Proofs.Ytgnhbfjngdgibaa
