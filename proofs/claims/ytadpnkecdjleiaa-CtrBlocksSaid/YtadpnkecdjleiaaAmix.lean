/-
  The contracts of the mixing and unmixing of a state's columns.
-/
import Derived.Test.YtadpnkecdjleiaaAst
import Derived.Test.YtadpnkecdjleiaaGinvert
namespace Go.Proofs.Ytadpnkecdjleiaa
open Go.RowKit
set_option linter.unusedVariables false

/-- A state's columns mixed, unmixed. -/
def mixS (x : Nat → Nat) (j : Nat) : Nat := mix (fun t => x (4 * (j / 4) + t)) (j % 4)
def unmixS (x : Nat → Nat) (j : Nat) : Nat := unmix (fun t => x (4 * (j / 4) + t)) (j % 4)
theorem mixS_lt (x : Nat → Nat) (j : Nat) : mixS x j < 256 := mix_lt _ _
theorem unmixS_lt (x : Nat → Nat) (j : Nat) : unmixS x j < 256 := unmix_lt _ _

/-- The columns ahead of the column k are y's. -/
theorem mixk_put (y x : Nat → Nat) (k : Nat) (g : Nat → Nat) (hg : ∀ p, p < 4 → g p = y (4 * k + p)) (j : Nat) :
    mixk y x (4 * (k + 1)) j = if 4 * k ≤ j ∧ j < 4 * k + 4 then g (j - 4 * k) else mixk y x (4 * k) j := by
  unfold mixk
  by_cases h : 4 * k ≤ j ∧ j < 4 * k + 4
  · rw [if_pos h, if_pos (by omega), hg _ (by omega), show 4 * k + (j - 4 * k) = j from by omega]
  · rw [if_neg h]
    by_cases h2 : j < 4 * k
    · rw [if_pos h2, if_pos (by omega)]
    · rw [if_neg h2, if_neg (by omega)]

theorem word_at (b o n c : Nat) (h : 4 ≤ n) (w : World) : (Instr.arrayAt 68 (.slice (some ⟨b, o, none⟩) n c)).run Try.prog w = .ok (.pointer (some ⟨b, o, none⟩)) w := by
  have h' : ¬ n < 4 := by omega
  simp [Instr.arrayAt, run_underlying Try.underlying68, h']

set_option maxRecDepth 100000 in
theorem mixed_any (x : Nat → Nat) (w : World) (ox : ∀ j, x j < 256) :
    Calls Try.prog 46 #[.agg (vals 16 x).toArray] w fun e w' =>
      e = .returned (.agg (vals 16 (mixS x)).toArray) ∧ Below w.heap.size w w' := by
  have hz := Try.zeroState
  obtain ⟨wa, hwa, b1, b2, hB, hsz⟩ := boxes2 w 16 x (fun _ => 0) 69 69
  go_enter Try.func46, Try.ntmps46
  go_wp2_with fail
  try rw [← hwa.out]
  go_loopw [3] (fun i wr => ∃ n : Nat, n ≤ 4 ∧ i = .int .i64 (4 * (n : Int)) ∧ Two w.heap.size w wr 16 w.heap.size (mixk (mixS x) x (4 * n)) (w.heap.size + 1)) (fun i _ => 16 - (intOf i).toNat)
  case atStart => exact ⟨0, by decide, rfl, b1.same fun j _ => (mixk_zero (mixS x) x j).symm, b2, hB⟩
  case round =>
    clear b1 b2 hB hwa hsz hz
    obtain ⟨k, hk, rfl, h1, h2, hb⟩ := hrel
    have hs := h2.lt (by decide)
    by_cases hlt : k < 4
    · have H1 := hid h1
      have H2 := hid h2
      have h10 := (h1 (4 * k + 0) (by omega)).1
      have h11 := (h1 (4 * k + 1) (by omega)).1
      have h12 := (h1 (4 * k + 2) (by omega)).1
      have h13 := (h1 (4 * k + 3) (by omega)).1
      have e := word_at w.heap.size (4 * k) (16 - 4 * k) (16 - 4 * k) (by omega) wr
      obtain ⟨c, hc⟩ : ∃ c, Hid (c = fun t => x (4 * k + t)) := ⟨_, rfl⟩
      have oc : ∀ j, c j < 256 := fun j => by rw [hc.out]; exact ox _
      have c0 : x (4 * k + 0) = c 0 := by rw [hc.out]
      have c1 : x (4 * k + 1) = c 1 := by rw [hc.out]
      have c2 : x (4 * k + 2) = c 2 := by rw [hc.out]
      have c3 : x (4 * k + 3) = c 3 := by rw [hc.out]
      rw [mixk_at _ _ _ _ (by omega)] at h10 h11 h12 h13
      rw [c0] at h10
      rw [c1] at h11
      rw [c2] at h12
      rw [c3] at h13
      have hg : ∀ p, p < 4 → mix c p = mixS x (4 * k + p) := fun p hp => by
        rw [hc.out]; unfold mixS; rw [show (4 * k + p) / 4 = k from by omega, show (4 * k + p) % 4 = p from by omega]
      obtain ⟨n', hn', hN, hp⟩ : ∃ n' : Nat, n' ≤ 4 ∧ Hid (4 * (n' : Int) = 4 * (k : Int) + 4) ∧ Hid (∀ j, j < 16 → mixk (mixS x) x (4 * n') j = if 4 * k ≤ j ∧ j < 4 * k + 4 then mix c (j - 4 * k) else mixk (mixS x) x (4 * k) j) :=
        ⟨k + 1, by omega, hid (by omega), hid fun j _ => mixk_put (mixS x) x k (mix c) hg j⟩
      have hz4 := Try.zeroWord
      clear h1 h2 c0 c1 c2 c3 hg
      rcases (show k = 0 ∨ k = 1 ∨ k = 2 ∨ k = 3 from by omega) with rfl | rfl | rfl | rfl
      all_goals
        simp only [Nat.reduceMul, Nat.reduceAdd, Nat.reduceSub] at h10 h11 h12 h13 e H1 hp
        go_wp2_with fail
        refine (mix_any c _ oc).mono ?_
        rintro e w2 ⟨rfl, hb2⟩
        clear h10 h11 h12 h13 e
        have hs2 := hb2.size
        obtain ⟨w4, hw4, A4, A1, A2, hb4⟩ : ∃ w4, Hid (w4 = (w2.alloc (.cells (vals 4 fun _ => 0).toArray 68)).setCells w2.heap.size 0 (vals 4 (mix c))) ∧ Arr w4 w2.heap.size 4 (mix c) ∧ Arr w4 w.heap.size 16 _ ∧ Arr w4 (w.heap.size + 1) 16 _ ∧ Below w.heap.size w w4 := by
          have hbb := hb.trans (hb2.mono (by omega))
          have hb3 := below_setCells (b := w2.heap.size) (vals 4 (mix c)) 0 (hbb.alloc (by omega) (.cells (vals 4 fun _ => 0).toArray 68)) (by omega)
          exact ⟨_, rfl, (arr_new w2 4 (fun _ => 0) 68).put _, ((H1.out.below hb2).alloc _).besidePut (by omega) 0 _, ((H2.out.below hb2).alloc _).besidePut (by omega) 0 _, hb3⟩
        clear H1 H2
        go_wp2_with (refine wpList_store_arr rfl 68 _ _ rfl _ 4 (mix c) rfl rfl _ (arr_new w2 4 (fun _ => 0) 68) Try.sizeWord ?_)
        try rw [← hw4.out]
        clear hw4 hb2
        go_region_law (refine step_copy_cells rfl _ _ _ _ rfl 5 Try.underlying22 Try.sizeByte _ _ _ _ rfl _ _ _ rfl (vals 4 (mix c)) rfl (range_cells A4.drew.range) (A1.drew.thereAt (by rw [vals_length]; decide)) (vals_one _ _) ?_)
        all_goals
          go_wp2
          go_roundw
          case rel =>
            exact ⟨n', hn', by (have := hN.out; congr 1; omega), A1.drew.putAt (by decide) _ _ hp.out, A2.drew.besidePut (by omega) _ _, below_setCells _ _ hb4.drew (Nat.le_refl _)⟩
          case measure => simp [intOf]
    · obtain rfl : k = 4 := by omega
      have h3 := h2.put (mixk (mixS x) x 16)
      go_wp2_with (first | (refine wpList_load_arr rfl 69 _ rfl _ rfl 16 _ h1 _ Try.underlying69 rfl Try.sizeState ?_) | (refine wpList_store_arr rfl 69 _ _ rfl _ 16 _ rfl rfl _ h2 Try.sizeState ?_))
      refine bodyPost_ret (v := .agg (vals 16 (mixS x)).toArray) ?_ rfl ⟨rfl, below_setCells _ 0 hb (by omega)⟩
      have h4 := h3.same fun j hj => mixk_full _ _ 16 j hj
      exact results_cell_arr rfl _ _ 16 _ _ rfl h4 Try.underlying69 rfl Try.sizeState
end Go.Proofs.Ytadpnkecdjleiaa
