/-
  The document's May, and its small steps on a state: a round's key added, rows moved, a column.
-/
import Derived.Test.YtadpnkecdjleiaaAes
import Derived.Test.YtadpnkecdjleiaaGrefsub
import Derived.Test.YtadpnkecdjleiaaCopy
namespace Go.Proofs.Ytadpnkecdjleiaa
open Go.RowKit
set_option linter.unusedVariables false
set_option linter.unusedSimpArgs false

/-- May a key be? -/
def mayB (n : Nat) : Bool := decide (n = 16 ∨ n = 32)
theorem may_any (p : Option Addr) (c n : Nat) (w : World) :
    Calls Try.prog 25 #[.slice p n c] w fun e w' => e = .returned (.bool (mayB n)) ∧ w = w' := by
  by_cases h1 : n = 16
  · subst h1
    go_enter Try.func25, Try.ntmps25
    go_wp2
    go_ret
    exact ⟨rfl, rfl⟩
  · by_cases h2 : n = 32
    · subst h2
      go_enter Try.func25, Try.ntmps25
      go_wp2
      go_ret
      exact ⟨rfl, rfl⟩
    · have e1 : ((n : Int) == 16) = false := by rw [beq_eq_false_iff_ne]; omega
      have e2 : ((n : Int) == 32) = false := by rw [beq_eq_false_iff_ne]; omega
      have e3 : mayB n = false := by simp [mayB, h1, h2]
      go_enter Try.func25, Try.ntmps25
      go_wp2
      go_ret
      exact ⟨by rw [e3]; rfl, rfl⟩

set_option maxHeartbeats 1000000 in
set_option maxRecDepth 100000 in
theorem refAdd_any (x F : Nat → Nat) (b n cap j : Nat) (w : World) (ox : ∀ j, x j < 256) (oF : ∀ j, F j < 256) (hF : ∀ i, i < n → w.cell? ⟨b, i, none⟩ = some (.int .u8 (F i : Nat))) (hj : 16 * j + 16 ≤ n) (hn : n ≤ 1000) :
    Calls Try.prog 33 #[.agg (vals 16 x).toArray, .slice (some ⟨b, 0, none⟩) n cap, .int .i64 j] w fun e w' =>
      e = .returned (.agg (vals 16 (addK F j x)).toArray) ∧ Below w.heap.size w w' := by
  have hzb := Try.zeroBlock
  have hbl : b < w.heap.size := World.block_lt_of_cell? w _ (hF 0 (by omega))
  obtain ⟨wa, hwa, b1, b2, hB, _⟩ := boxes2 w 16 x (fun _ => 0) 23 23
  have HF := hid hF
  clear hF
  go_enter Try.func33, Try.ntmps33
  go_wp2_with fail
  rw [← hwa.out]
  go_loopw [7] (fun i wr => ∃ k : Nat, k ≤ 16 ∧ i = .int .i64 (k : Int) ∧ Two w.heap.size w wr 16 w.heap.size (mixk (addK F j x) x k) (w.heap.size + 1)) (fun i _ => 16 - (intOf i).toNat)
  case atStart => exact ⟨0, by decide, rfl, b1.same fun t _ => (mixk_zero (addK F j x) x t).symm, b2, hB⟩
  case round =>
    clear b1 b2 hB hwa hzb
    obtain ⟨k, hk, rfl, h1, h2, hb⟩ := hrel
    by_cases hlt : k < 16
    · obtain ⟨hc, hf⟩ := h1 k hlt
      rw [mixk_at _ _ _ _ (Nat.le_refl _)] at hc
      have hw := (hb.cell (p := ⟨b, 16 * j + k, none⟩) hbl).trans (HF.out (16 * j + k) (by omega))
      have HS := hid (h1.set k (x k ^^^ F (16 * j + k)) hlt)
      have H2 := hid h2
      have HX := hid (xor_nat (ox k) (oF (16 * j + k)))
      have p0 : (0 : Int) ≤ 16 * (j : Int) + (k : Int) := by omega
      have p1 : 16 * (j : Int) + (k : Int) < (n : Int) := by omega
      have t0 : (16 * (j : Int) + (k : Int)).toNat = 16 * j + k := by omega
      have kI : (k : Int) < 16 := by omega
      clear h1 h2
      go_wp2
      go_region
      go_wp2
      go_roundw
      case rel =>
        refine ⟨k + 1, by omega, by go_num, ?_, ?_, (hb.drew).setCell (by simp) _⟩
        · rw [HX.out]
          exact HS.out.drew.same fun t _ => mixk_step (addK F j x) _ k t
        · exact (H2.out.beside (by omega) _ _).drew
      case measure => simp [intOf]; omega
    · obtain rfl : k = 16 := by omega
      have h3 := h2.put (mixk (addK F j x) x 16)
      go_wp2_with (first | (refine wpList_load_arr rfl 23 _ rfl _ rfl 16 _ h1 _ Try.underlying23 rfl Try.sizeBlock ?_) | (refine wpList_store_arr rfl 23 _ _ rfl _ 16 _ rfl rfl _ h2 Try.sizeBlock ?_))
      refine bodyPost_ret (v := .agg (vals 16 (addK F j x)).toArray) ?_ rfl ⟨rfl, below_setCells _ 0 hb (by omega)⟩
      have h4 := h3.same fun t ht => mixk_full _ _ 16 t ht
      exact results_cell_arr rfl _ _ 16 _ _ rfl h4 Try.underlying23 rfl Try.sizeBlock
end Go.Proofs.Ytadpnkecdjleiaa
