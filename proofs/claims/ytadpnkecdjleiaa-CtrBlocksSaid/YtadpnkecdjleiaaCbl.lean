/-
  The walk of CtrBlocks.
-/
import Derived.Test.YtadpnkecdjleiaaCkn
import Derived.Test.YtadpnkecdjleiaaCr
namespace Go.Proofs.Ytadpnkecdjleiaa
open Go.RowKit
set_option linter.unusedVariables false
set_option linter.unusedSimpArgs false

theorem cmp_self {x : Nat → Nat} (ox : ∀ j, x j < 256) (w : World) :
    (Op.equalIn 10000 23 (.agg (vals 16 x).toArray) (.agg (vals 16 x).toArray)).run Try.prog w = .ok true w := cmp_yes ox ox rfl w

set_option maxHeartbeats 8000000 in
set_option maxRecDepth 100000 in
theorem cblocks_law (p : Option Addr) (cap : Nat) (xs : List Int) (c : Nat → Nat) (w : World) (hp : Bin w p xs) (hx : Oct xs) (hm : xs.length ≤ 140737488351232) (oc : ∀ j, c j < 256) :
    Calls Try.prog 3 #[.slice p xs.length cap, .agg (vals 16 c).toArray] w fun e w' => e = .returned (.bool true) ∧ Below w.heap.size w w' := by
  have hzb := Try.zeroBlock
  have hub := Try.underlying23
  have hib := Try.sizeBlock
  obtain ⟨w1, hw1, hx1, hB, hsz⟩ := boxes1 w 16 c 23
  have hcp := copy_any p cap xs w1 (hp.below hB) hm
  have q1 := fun w => cmp_self (nxt_lt oc) w
  obtain ⟨n, hn⟩ : ∃ n, n = xs.length := ⟨_, rfl⟩
  rw [← hn] at hm hcp ⊢
  have HN' := hid hn
  have HCP := hid hcp
  have HP := hid hp
  clear hn hcp hp
  go_enter Try.func3, Try.ntmps3
  go_wp2_with fail
  rw [← hw1.out]
  refine HCP.out.mono ?_
  rintro e w3 ⟨g, cg, rfl, hO, hb3⟩
  clear HCP hw1
  have hx3 := hx1.below hb3
  have hB3 := hB.trans (hb3.mono hB.size)
  have hOs := hO.slice
  clear hx1 hB hb3 hO
  by_cases h12 : n = 12
  · subst h12
    obtain ⟨F, hF⟩ : ∃ F, Hid (F = frs xs) := ⟨_, rfl⟩
    have oF : ∀ j, F j < 256 := by rw [hF.out]; exact frs_lt hx
    have q2 := fun w => cmp_self oF w
    have hfo := first_of (some ⟨g, 0, none⟩) cg xs w3 hOs.2.2 hx HN'.out.symm
    have hrf := fun w' hp => refFirst_of p cap xs w' hp hx HN'.out.symm
    rw [← hF.out] at hfo hrf
    have HRF := hid hrf
    clear hrf
    go_wp2_with fail
    refine hfo.mono ?_
    rintro e w4 ⟨rfl, hb4⟩
    clear hfo hOs
    have hn4 := arr_new w4 16 (fun _ => 0) 23
    have hx4 := hx3.below hb4
    have l4 := hx4.lt (by decide)
    have hB4 := hB3.trans (hb4.mono hB3.size)
    have H5 := hid (And.intro (hn4.put F) (And.intro ((hx4.alloc (.cells (vals 16 fun _ => 0).toArray 23)).besidePut (b' := w4.heap.size) (by omega) 0 (vals 16 F)) (below_setCells (vals 16 F) 0 (hB4.alloc hB4.size (.cells (vals 16 fun _ => 0).toArray 23)) hB4.size)))
    have HN := hid hn4
    clear hn4 hx4 hx3 hB3 hb4 hB4 l4
    go_upto_region 5 with (refine wpList_store_arr rfl 23 _ _ rfl w4.heap.size 16 F rfl rfl (fun _ => 0) ?_ hib ?_; exact HN.out)
    clear HN
    obtain ⟨b5, hb5⟩ : ∃ b, Hid (b = w4.heap.size) := ⟨_, rfl⟩
    rw [← hb5.out] at H5 ⊢
    generalize (w4.alloc (.cells (vals 16 fun _ => 0).toArray 23)).setCells b5 0 (vals 16 F) = w5 at H5 ⊢
    refine wp_region_z (fun v => Arr v b5 16 F ∧ Arr v w.heap.size 16 c ∧ Below w.heap.size w v) 8 (by kernel_rfl) (And.intro H5.out.1 (And.intro H5.out.2.1 (H5.out.2.2.trans ((Below.refl _ _).drew)))) (fun hS => ?_)
    clear H5
    generalize World.drew _ = w9 at hS ⊢
    refine wpAnyZ_take (i := 0) rfl (by kernel_rfl) (by kernel_rfl) (by kernel_rfl) (by kernel_rfl) (fun _ _ _ h => h) hS (yieldsIf_load_mid (by kernel_rfl) 23 (.tmp 5) rfl b5 0 (by kernel_rfl) (vals 16 F) _ (fun w hS => hS.1.range) hub rfl hib) ?_
    simp only [Act.put, List.setIfInBounds_toArray, List.set_cons_zero, List.set_cons_succ]
    refine wpAnyZ_take (i := 1) (v := .slice p (12 : Nat) cap) rfl (by kernel_rfl) (by kernel_rfl) (by kernel_rfl) (by kernel_rfl) (fun _ _ _ h => h) hS (Or.inl ⟨by kernel_rfl, fun w hS => (by clear hS; go_simp)⟩) ?_
    simp only [Act.put, List.setIfInBounds_toArray, List.set_cons_zero, List.set_cons_succ]
    refine wpAnyZ_one (i := 2) (by kernel_rfl) rfl (fun K hK => ?_)
    go_simp
    go_at_call 9
    refine (HRF.out _ (HP.out.below hS.2.2)).mono ?_
    rintro e v8 ⟨rfl, hb8⟩
    go_wp2_with fail
    refine hK.out _ _ (fun _ => And.intro (hS.1.below hb8) (And.intro (hS.2.1.below hb8) (hS.2.2.trans (hb8.mono hS.2.2.size)))) ?_
    replace hS := And.intro (hS.1.below hb8) (And.intro (hS.2.1.below hb8) (hS.2.2.trans (hb8.mono hS.2.2.size)))
    clear hK K
    try simp only [Act.put, List.setIfInBounds_toArray, List.set_cons_zero, List.set_cons_succ]
    refine wpAnyZ_take (i := 3) (v := .bool false) rfl (by kernel_rfl) (by kernel_rfl) (by kernel_rfl) (by kernel_rfl) (fun _ _ _ h => h) hS (Or.inl ⟨by kernel_rfl, fun w hS => (by clear hS; go_simp)⟩) ?_
    simp only [Act.put, List.setIfInBounds_toArray, List.set_cons_zero, List.set_cons_succ]
    refine wpAnyZ_take (i := 4) (v := .bool false) rfl (by kernel_rfl) (by kernel_rfl) (by kernel_rfl) (by kernel_rfl) (fun _ _ _ h => h) hS (Or.inl ⟨by kernel_rfl, fun w hS => (by clear hS; go_simp)⟩) ?_
    simp only [Act.put, List.setIfInBounds_toArray, List.set_cons_zero, List.set_cons_succ]
    refine wpAnyZ_take (i := 5) (v := .int .i64 0) rfl (by kernel_rfl) (by kernel_rfl) (by kernel_rfl) (by kernel_rfl) (fun _ _ _ h => h) hS (Or.inl ⟨by kernel_rfl, fun w hS => (by clear hS; go_simp)⟩) ?_
    simp only [Act.put, List.setIfInBounds_toArray, List.set_cons_zero, List.set_cons_succ]
    refine wpAnyZ_take (i := 6) (v := .bool false) rfl (by kernel_rfl) (by kernel_rfl) (by kernel_rfl) (by kernel_rfl) (fun _ _ _ h => h) hS (Or.inl ⟨by kernel_rfl, fun w hS => (by clear hS; go_simp)⟩) ?_
    simp only [Act.put, List.setIfInBounds_toArray, List.set_cons_zero, List.set_cons_succ]
    refine wpAnyZ_one (i := 7) (by kernel_rfl) rfl (fun K hK => ?_)
    go_simp
    refine hK.out _ _ (fun _ => hS) ?_
    clear hK K
    try simp only [Act.put, List.setIfInBounds_toArray, List.set_cons_zero, List.set_cons_succ]
    refine wpAnyZ_done (by kernel_rfl) ?_ _
    have HA := hid hS.2
    clear hS
    go_upto_region 7 with fail
    refine wp_region_z (fun v => Arr v w.heap.size 16 c ∧ Below w.heap.size w v) 9 (by kernel_rfl) (And.intro HA.out.1 (HA.out.2.trans ((Below.refl _ _).drew))) (fun hS => ?_)
    clear HA
    generalize World.drew _ = w9 at hS ⊢
    refine wpAnyZ_take (i := 0) rfl (by kernel_rfl) (by kernel_rfl) (by kernel_rfl) (by kernel_rfl) (fun _ _ _ h => h) hS (yieldsIf_load_mid (by kernel_rfl) 23 (.tmp 3) rfl w.heap.size 0 (by kernel_rfl) (vals 16 c) _ (fun w hS => hS.1.range) hub rfl hib) ?_
    simp only [Act.put, List.setIfInBounds_toArray, List.set_cons_zero, List.set_cons_succ]
    refine wpAnyZ_take (i := 2) rfl (by kernel_rfl) (by kernel_rfl) (by kernel_rfl) (by kernel_rfl) (fun _ _ _ h => h) hS (yieldsIf_load_mid (by kernel_rfl) 23 (.tmp 3) rfl w.heap.size 0 (by kernel_rfl) (vals 16 c) _ (fun w hS => hS.1.range) hub rfl hib) ?_
    simp only [Act.put, List.setIfInBounds_toArray, List.set_cons_zero, List.set_cons_succ]
    refine wpAnyZ_one (i := 1) (by kernel_rfl) rfl (fun K hK => ?_)
    go_simp
    go_at_call 10
    refine (next_of c _ oc).mono ?_
    rintro e v8 ⟨rfl, hb8⟩
    go_wp2_with fail
    refine hK.out _ _ (fun _ => And.intro (hS.1.below hb8) (hS.2.trans (hb8.mono hS.2.size))) ?_
    replace hS := And.intro (hS.1.below hb8) (hS.2.trans (hb8.mono hS.2.size))
    clear hK K
    try simp only [Act.put, List.setIfInBounds_toArray, List.set_cons_zero, List.set_cons_succ]
    refine wpAnyZ_one (i := 3) (by kernel_rfl) rfl (fun K hK => ?_)
    go_simp
    go_at_call 11
    refine (refNext_of c _ oc).mono ?_
    rintro e v8 ⟨rfl, hb8⟩
    go_wp2_with fail
    refine hK.out _ _ (fun _ => And.intro (hS.1.below hb8) (hS.2.trans (hb8.mono hS.2.size))) ?_
    replace hS := And.intro (hS.1.below hb8) (hS.2.trans (hb8.mono hS.2.size))
    clear hK K
    try simp only [Act.put, List.setIfInBounds_toArray, List.set_cons_zero, List.set_cons_succ]
    refine wpAnyZ_take (i := 4) (v := .bool true) rfl (by kernel_rfl) (by kernel_rfl) (by kernel_rfl) (by kernel_rfl) (fun _ _ _ h => h) hS (Or.inl ⟨by kernel_rfl, fun w hS => (by clear hS; go_simp)⟩) ?_
    simp only [Act.put, List.setIfInBounds_toArray, List.set_cons_zero, List.set_cons_succ]
    refine wpAnyZ_take (i := 5) (v := .bool true) rfl (by kernel_rfl) (by kernel_rfl) (by kernel_rfl) (by kernel_rfl) (fun _ _ _ h => h) hS (Or.inl ⟨by kernel_rfl, fun w hS => (by clear hS; go_simp)⟩) ?_
    simp only [Act.put, List.setIfInBounds_toArray, List.set_cons_zero, List.set_cons_succ]
    refine wpAnyZ_one (i := 6) (by kernel_rfl) rfl (fun K hK => ?_)
    go_simp
    go_at_call 12
    refine (cknown_any _).mono ?_
    rintro e v8 ⟨rfl, hb8⟩
    go_wp2_with fail
    refine hK.out _ _ (fun _ => And.intro (hS.1.below hb8) (hS.2.trans (hb8.mono hS.2.size))) ?_
    replace hS := And.intro (hS.1.below hb8) (hS.2.trans (hb8.mono hS.2.size))
    clear hK K
    try simp only [Act.put, List.setIfInBounds_toArray, List.set_cons_zero, List.set_cons_succ]
    refine wpAnyZ_take (i := 7) (v := .bool true) rfl (by kernel_rfl) (by kernel_rfl) (by kernel_rfl) (by kernel_rfl) (fun _ _ _ h => h) hS (Or.inl ⟨by kernel_rfl, fun w hS => (by clear hS; go_simp)⟩) ?_
    simp only [Act.put, List.setIfInBounds_toArray, List.set_cons_zero, List.set_cons_succ]
    refine wpAnyZ_one (i := 8) (by kernel_rfl) rfl (fun K hK => ?_)
    go_simp
    refine hK.out _ _ (fun _ => hS) ?_
    clear hK K
    try simp only [Act.put, List.setIfInBounds_toArray, List.set_cons_zero, List.set_cons_succ]
    refine wpAnyZ_done (by kernel_rfl) ?_ _
    go_wp2_with fail
    go_ret
    exact ⟨rfl, hS.2⟩
  · have h12' : ((n : Int) != 12) = true := by simp; omega
    have q2 := fun w => cmp_self (x := fun _ => 0) (fun _ => by decide) w
    go_wp2_with fail
    refine (first_no (some ⟨g, 0, none⟩) cg n w3 h12).mono ?_
    rintro e w4 ⟨rfl, hb4⟩
    clear hOs
    have hn4 := arr_new w4 16 (fun _ => 0) 23
    have hx4 := hx3.below hb4
    have l4 := hx4.lt (by decide)
    have hB4 := hB3.trans (hb4.mono hB3.size)
    have H5 := hid (And.intro (hn4.put (fun _ => 0)) (And.intro ((hx4.alloc (.cells (vals 16 fun _ => 0).toArray 23)).besidePut (b' := w4.heap.size) (by omega) 0 (vals 16 fun _ => 0)) (below_setCells (vals 16 fun _ => 0) 0 (hB4.alloc hB4.size (.cells (vals 16 fun _ => 0).toArray 23)) hB4.size)))
    have HN := hid hn4
    clear hn4 hx4 hx3 hB3 hb4 hB4 l4
    go_upto_region 2 with (refine wpList_store_arr rfl 23 _ _ rfl w4.heap.size 16 (fun _ => 0) rfl rfl (fun _ => 0) ?_ hib ?_; exact HN.out)
    clear HN
    obtain ⟨b5, hb5⟩ : ∃ b, Hid (b = w4.heap.size) := ⟨_, rfl⟩
    rw [← hb5.out] at H5 ⊢
    generalize (w4.alloc (.cells (vals 16 fun _ => 0).toArray 23)).setCells b5 0 (vals 16 fun _ => 0) = w5 at H5 ⊢
    go_upto_region 3 with fail
    go_upto_region 7 with (first
      | (refine wpList_load_arr rfl 23 _ rfl b5 rfl 16 (fun _ => 0) ?_ _ hub rfl hib ?_; exact H5.out.1))
    have HA := hid H5.out.2
    clear H5
    go_upto_region 7 with fail
    refine wp_region_z (fun v => Arr v w.heap.size 16 c ∧ Below w.heap.size w v) 9 (by kernel_rfl) (And.intro HA.out.1 (HA.out.2.trans ((Below.refl _ _).drew))) (fun hS => ?_)
    clear HA
    generalize World.drew _ = w9 at hS ⊢
    refine wpAnyZ_take (i := 0) rfl (by kernel_rfl) (by kernel_rfl) (by kernel_rfl) (by kernel_rfl) (fun _ _ _ h => h) hS (yieldsIf_load_mid (by kernel_rfl) 23 (.tmp 3) rfl w.heap.size 0 (by kernel_rfl) (vals 16 c) _ (fun w hS => hS.1.range) hub rfl hib) ?_
    simp only [Act.put, List.setIfInBounds_toArray, List.set_cons_zero, List.set_cons_succ]
    refine wpAnyZ_take (i := 2) rfl (by kernel_rfl) (by kernel_rfl) (by kernel_rfl) (by kernel_rfl) (fun _ _ _ h => h) hS (yieldsIf_load_mid (by kernel_rfl) 23 (.tmp 3) rfl w.heap.size 0 (by kernel_rfl) (vals 16 c) _ (fun w hS => hS.1.range) hub rfl hib) ?_
    simp only [Act.put, List.setIfInBounds_toArray, List.set_cons_zero, List.set_cons_succ]
    refine wpAnyZ_one (i := 1) (by kernel_rfl) rfl (fun K hK => ?_)
    go_simp
    go_at_call 10
    refine (next_of c _ oc).mono ?_
    rintro e v8 ⟨rfl, hb8⟩
    go_wp2_with fail
    refine hK.out _ _ (fun _ => And.intro (hS.1.below hb8) (hS.2.trans (hb8.mono hS.2.size))) ?_
    replace hS := And.intro (hS.1.below hb8) (hS.2.trans (hb8.mono hS.2.size))
    clear hK K
    try simp only [Act.put, List.setIfInBounds_toArray, List.set_cons_zero, List.set_cons_succ]
    refine wpAnyZ_one (i := 3) (by kernel_rfl) rfl (fun K hK => ?_)
    go_simp
    go_at_call 11
    refine (refNext_of c _ oc).mono ?_
    rintro e v8 ⟨rfl, hb8⟩
    go_wp2_with fail
    refine hK.out _ _ (fun _ => And.intro (hS.1.below hb8) (hS.2.trans (hb8.mono hS.2.size))) ?_
    replace hS := And.intro (hS.1.below hb8) (hS.2.trans (hb8.mono hS.2.size))
    clear hK K
    try simp only [Act.put, List.setIfInBounds_toArray, List.set_cons_zero, List.set_cons_succ]
    refine wpAnyZ_take (i := 4) (v := .bool true) rfl (by kernel_rfl) (by kernel_rfl) (by kernel_rfl) (by kernel_rfl) (fun _ _ _ h => h) hS (Or.inl ⟨by kernel_rfl, fun w hS => (by clear hS; go_simp)⟩) ?_
    simp only [Act.put, List.setIfInBounds_toArray, List.set_cons_zero, List.set_cons_succ]
    refine wpAnyZ_take (i := 5) (v := .bool true) rfl (by kernel_rfl) (by kernel_rfl) (by kernel_rfl) (by kernel_rfl) (fun _ _ _ h => h) hS (Or.inl ⟨by kernel_rfl, fun w hS => (by clear hS; go_simp)⟩) ?_
    simp only [Act.put, List.setIfInBounds_toArray, List.set_cons_zero, List.set_cons_succ]
    refine wpAnyZ_one (i := 6) (by kernel_rfl) rfl (fun K hK => ?_)
    go_simp
    go_at_call 12
    refine (cknown_any _).mono ?_
    rintro e v8 ⟨rfl, hb8⟩
    go_wp2_with fail
    refine hK.out _ _ (fun _ => And.intro (hS.1.below hb8) (hS.2.trans (hb8.mono hS.2.size))) ?_
    replace hS := And.intro (hS.1.below hb8) (hS.2.trans (hb8.mono hS.2.size))
    clear hK K
    try simp only [Act.put, List.setIfInBounds_toArray, List.set_cons_zero, List.set_cons_succ]
    refine wpAnyZ_take (i := 7) (v := .bool true) rfl (by kernel_rfl) (by kernel_rfl) (by kernel_rfl) (by kernel_rfl) (fun _ _ _ h => h) hS (Or.inl ⟨by kernel_rfl, fun w hS => (by clear hS; go_simp)⟩) ?_
    simp only [Act.put, List.setIfInBounds_toArray, List.set_cons_zero, List.set_cons_succ]
    refine wpAnyZ_one (i := 8) (by kernel_rfl) rfl (fun K hK => ?_)
    go_simp
    refine hK.out _ _ (fun _ => hS) ?_
    clear hK K
    try simp only [Act.put, List.setIfInBounds_toArray, List.set_cons_zero, List.set_cons_succ]
    refine wpAnyZ_done (by kernel_rfl) ?_ _
    go_wp2_with fail
    go_ret
    exact ⟨rfl, hS.2⟩
end Go.Proofs.Ytadpnkecdjleiaa
