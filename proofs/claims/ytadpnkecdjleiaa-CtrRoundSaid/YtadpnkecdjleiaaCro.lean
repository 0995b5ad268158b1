/-
  The walk of CtrRound.
-/
import Derived.Test.YtadpnkecdjleiaaCkn
import Derived.Test.YtadpnkecdjleiaaKa
namespace Go.Proofs.Ytadpnkecdjleiaa
open Go.RowKit
set_option linter.unusedVariables false
set_option linter.unusedSimpArgs false

theorem Try.sizeTwelve : (Try.prog.info? 39).map (·.size) = some 12 := by kernel_rfl
theorem arr12 {w : World} {b : Nat} {x : Nat → Nat} (h : Arr w b 16 x) : Arr w b 12 x := fun j hj => h j (by omega)
theorem cmp12 {x y : Nat → Nat} (h : ∀ j, j < 12 → x j = y j) (w : World) :
    (Op.equalIn 10000 39 (.agg (vals 12 x).toArray) (.agg (vals 12 y).toArray)).run Try.prog w = .ok true w := by
  obtain ⟨i, hi⟩ := Try.sizeU8
  have h1 := run_equalIn_array (P := Try.prog) w 9999 (vals 12 x).toArray (vals 12 y).toArray Try.underlying39 hi
  rw [Try.cellsU8, items_u8 12 9998 x y w _ (by simp)] at h1
  have e : ((List.range 12).all fun i => x i == y i) = true := by
    rw [List.all_eq_true]
    intro j hj
    rw [beq_iff_eq]
    exact h j (List.mem_range.1 hj)
  rw [e] at h1
  exact h1

set_option maxHeartbeats 20000000 in
set_option maxRecDepth 100000 in
theorem cround_law (c d : Nat → Nat) (w : World) (oc : ∀ j, c j < 256) (od : ∀ j, d j < 256) :
    Calls Try.prog 6 #[.agg (vals 16 c).toArray, .agg (vals 16 d).toArray] w fun e w' => e = .returned (.bool true) ∧ Below w.heap.size w w' := by
  have hzb := Try.zeroBlock
  have hub := Try.underlying23
  have hib := Try.sizeBlock
  have hu12 := Try.underlying39
  have hi12 := Try.sizeTwelve
  have hat12 : ∀ (g cap : Nat) (wx : World), (Instr.arrayAt 39 (.slice (some ⟨g, 0, none⟩) 12 cap)).run Try.prog wx = .ok (.pointer (some ⟨g, 0, none⟩)) wx := fun g cap wx => by
    simp [Instr.arrayAt, run_underlying Try.underlying39]
  obtain ⟨w1, hw1, hc1, hd1, hB, hsz⟩ := boxes2 w 16 c d 23 23
  obtain ⟨X, eX⟩ : ∃ X, Hid (X = nxt c) := ⟨_, rfl⟩
  obtain ⟨Y, eY⟩ : ∃ Y, Hid (Y = nxt d) := ⟨_, rfl⟩
  have oX : ∀ j, X j < 256 := by rw [eX.out]; exact nxt_lt oc
  have oY : ∀ j, Y j < 256 := by rw [eY.out]; exact nxt_lt od
  obtain ⟨b, hb⟩ : ∃ b, Hid (b = (el c == el d)) := ⟨_, rfl⟩
  have q0 := fun w => cmp12 (x := X) (y := c) (by rw [eX.out]; exact nxt_ahead c) w
  have q1 := fun w => cmp16 oX oc w
  have e1 : (el X == el c) = false := by
    rw [beq_eq_false_iff_ne]
    intro e
    exact nxt_other oc (fun j hj => by rw [← eX.out]; exact el_inj oX oc e j hj)
  rw [e1] at q1
  have q2 := fun w => cmp16 oX oY w
  have e2 : (el X == el Y) = b := by
    rw [hb.out, Bool.eq_iff_iff, beq_iff_eq, beq_iff_eq]
    constructor
    · intro e
      exact el_congr fun j hj => nxt_inj oc od (fun i hi => by rw [← eX.out, ← eY.out]; exact el_inj oX oY e i hi) j hj
    · intro e
      exact el_congr fun j hj => by
        rw [eX.out, eY.out]
        exact nxt_congr (fun i hi => el_inj oc od e i hi) j hj
  rw [e2] at q2
  have q3 := fun w => cmp16 oc od w
  rw [← hb.out] at q3
  clear e1 e2
  have lc : w.heap.size < w1.heap.size := by omega
  have ld : w.heap.size + 1 < w1.heap.size := by omega
  have HC := hid hc1
  have HD := hid hd1
  clear hc1 hd1 hsz
  go_enter Try.func6, Try.ntmps6
  go_upto_region 1 with fail
  rw [← hw1.out]
  go_cut [5, 6] (fun s5 s6 wx => ∃ g5 g6 : Nat, s5 = .pointer (some ⟨g5, 0, none⟩) ∧ s6 = .pointer (some ⟨g6, 0, none⟩) ∧ Arn w1 [(g5, X), (g6, Y)] wx)
  case first =>
    have hSd : Arn w1 [] w1.drew := ⟨⟨fun q hq => by simp at hq, (Below.refl _ _).drew⟩, by simp, fun q hq => by simp at hq⟩
    refine wp_region_z (Arn w1 []) 8 (by kernel_rfl) hSd (fun hS => ?_)
    clear hSd
    generalize World.drew _ = w9 at hS ⊢
    refine wpAnyZ_take (i := 0) rfl (by kernel_rfl) (by kernel_rfl) (by kernel_rfl) (by kernel_rfl) (fun _ _ _ h => h) hS (yieldsIf_load_mid (by kernel_rfl) 23 (.tmp 2) rfl w.heap.size 0 (by kernel_rfl) (vals 16 c) _ (fun w hS => (HC.out.below' lc hS.below).range) hub rfl hib) ?_
    simp only [Act.put, List.setIfInBounds_toArray, List.set_cons_zero, List.set_cons_succ]
    refine wpAnyZ_take (i := 2) rfl (by kernel_rfl) (by kernel_rfl) (by kernel_rfl) (by kernel_rfl) (fun _ _ _ h => h) hS (yieldsIf_load_mid (by kernel_rfl) 23 (.tmp 3) rfl (w.heap.size + 1) 0 (by kernel_rfl) (vals 16 d) _ (fun w hS => (HD.out.below' ld hS.below).range) hub rfl hib) ?_
    simp only [Act.put, List.setIfInBounds_toArray, List.set_cons_zero, List.set_cons_succ]
    refine wpAnyZ_three (i := 1) (j := 4) (k := 5) (by kernel_rfl) rfl rfl rfl (fun K hK => ?_) (fun K hK => ?_) (fun K hK => ?_) 
    · go_simp
      go_at_call 10
      refine (next_of c _ oc).mono ?_
      rintro e v0 ⟨rfl, hb8⟩
      rw [← eX.out]
      go_wp2_with fail
      refine hK.out _ _ (fun _ => (hS.grow hb8)) ?_
      replace hS := hS.grow hb8
      clear hK K hb8
      try simp only [Act.put, List.setIfInBounds_toArray, List.set_cons_zero, List.set_cons_succ]
      refine wpAnyZ_three (i := 3) (j := 4) (k := 5) (by kernel_rfl) rfl rfl rfl (fun K hK => ?_) (fun K hK => ?_) (fun K hK => ?_) 
      · go_simp
        go_at_call 10
        refine (next_of d _ od).mono ?_
        rintro e v1 ⟨rfl, hb8⟩
        rw [← eY.out]
        go_wp2_with fail
        refine hK.out _ _ (fun _ => (hS.grow hb8)) ?_
        replace hS := hS.grow hb8
        clear hK K hb8
        try simp only [Act.put, List.setIfInBounds_toArray, List.set_cons_zero, List.set_cons_succ]
        refine wpAnyZ_two (i := 4) (j := 5) (by kernel_rfl) rfl rfl (fun K hK => ?_) (fun K hK => ?_) 
        · go_simp
          have hS2 := hS.fresh 23
          refine hK.out _ _ (fun _ => hS2.tail) ?_
          clear hK K hS
          obtain ⟨g5, hn⟩ : ∃ g, Hid (g = v1.heap.size) := ⟨_, rfl⟩
          rw [← hn.out] at hS2 ⊢
          generalize World.alloc v1 (.cells (vals 16 fun _ => 0).toArray 23) = v2 at hS2 ⊢
          clear hn
          have hS := hS2
          clear hS2
          try simp only [Act.put, List.setIfInBounds_toArray, List.set_cons_zero, List.set_cons_succ]
          refine wpAnyZ_one (i := 5) (by kernel_rfl) rfl (fun K hK => ?_)
          go_simp
          have hS2 := hS.fresh 23
          refine hK.out _ _ (fun _ => hS2.tail.tail) ?_
          clear hK K hS
          obtain ⟨g6, hn⟩ : ∃ g, Hid (g = v2.heap.size) := ⟨_, rfl⟩
          rw [← hn.out] at hS2 ⊢
          generalize World.alloc v2 (.cells (vals 16 fun _ => 0).toArray 23) = v3 at hS2 ⊢
          clear hn
          have hS := hS2
          clear hS2
          try simp only [Act.put, List.setIfInBounds_toArray, List.set_cons_zero, List.set_cons_succ]
          refine wpAnyZ_one (i := 6) (by kernel_rfl) rfl (fun K hK => ?_)
          have h0 := hS.at (g := g5) (x := fun _ => 0) (by simp)
          have hT0 := h0.there
          have hS2 := hS.put1 X
          rw [if_pos (by rfl)]
          refine wp_store_arr _ _ _ rfl g5 16 X rfl rfl hT0 hib ?_
          try simp only [Act.put, List.setIfInBounds_toArray, List.set_cons_zero, List.set_cons_succ]
          refine hK.out _ _ (fun _ => hS2.tail.tail) ?_
          generalize World.setCells v3 g5 0 (vals 16 X) = v4 at hS2 ⊢
          clear hK K hS hT0 h0
          have hS := hS2
          clear hS2
          refine wpAnyZ_one (i := 7) (by kernel_rfl) rfl (fun K hK => ?_)
          have h0 := hS.at (g := g6) (x := fun _ => 0) (by simp)
          have hT0 := h0.there
          have hS2 := hS.put0 Y
          rw [if_pos (by rfl)]
          refine wp_store_arr _ _ _ rfl g6 16 Y rfl rfl hT0 hib ?_
          try simp only [Act.put, List.setIfInBounds_toArray, List.set_cons_zero, List.set_cons_succ]
          refine hK.out _ _ (fun _ => hS2.tail.tail) ?_
          generalize World.setCells v4 g6 0 (vals 16 Y) = v5 at hS2 ⊢
          clear hK K hS hT0 h0
          have hS := hS2
          clear hS2
          refine wpAnyZ_done (by kernel_rfl) ?_ _
          go_wp2_with fail
          go_meet
          exact ⟨g5, g6, rfl, rfl, hS.swap⟩
        · go_simp
          have hS2 := hS.fresh 23
          refine hK.out _ _ (fun _ => hS2.tail) ?_
          clear hK K hS
          obtain ⟨g6, hn⟩ : ∃ g, Hid (g = v1.heap.size) := ⟨_, rfl⟩
          rw [← hn.out] at hS2 ⊢
          generalize World.alloc v1 (.cells (vals 16 fun _ => 0).toArray 23) = v2 at hS2 ⊢
          clear hn
          have hS := hS2
          clear hS2
          try simp only [Act.put, List.setIfInBounds_toArray, List.set_cons_zero, List.set_cons_succ]
          refine wpAnyZ_one (i := 4) (by kernel_rfl) rfl (fun K hK => ?_)
          go_simp
          have hS2 := hS.fresh 23
          refine hK.out _ _ (fun _ => hS2.tail.tail) ?_
          clear hK K hS
          obtain ⟨g5, hn⟩ : ∃ g, Hid (g = v2.heap.size) := ⟨_, rfl⟩
          rw [← hn.out] at hS2 ⊢
          generalize World.alloc v2 (.cells (vals 16 fun _ => 0).toArray 23) = v3 at hS2 ⊢
          clear hn
          have hS := hS2
          clear hS2
          try simp only [Act.put, List.setIfInBounds_toArray, List.set_cons_zero, List.set_cons_succ]
          refine wpAnyZ_one (i := 6) (by kernel_rfl) rfl (fun K hK => ?_)
          have h0 := hS.at (g := g5) (x := fun _ => 0) (by simp)
          have hT0 := h0.there
          have hS2 := hS.put0 X
          rw [if_pos (by rfl)]
          refine wp_store_arr _ _ _ rfl g5 16 X rfl rfl hT0 hib ?_
          try simp only [Act.put, List.setIfInBounds_toArray, List.set_cons_zero, List.set_cons_succ]
          refine hK.out _ _ (fun _ => hS2.tail.tail) ?_
          generalize World.setCells v3 g5 0 (vals 16 X) = v4 at hS2 ⊢
          clear hK K hS hT0 h0
          have hS := hS2
          clear hS2
          refine wpAnyZ_one (i := 7) (by kernel_rfl) rfl (fun K hK => ?_)
          have h0 := hS.at (g := g6) (x := fun _ => 0) (by simp)
          have hT0 := h0.there
          have hS2 := hS.put1 Y
          rw [if_pos (by rfl)]
          refine wp_store_arr _ _ _ rfl g6 16 Y rfl rfl hT0 hib ?_
          try simp only [Act.put, List.setIfInBounds_toArray, List.set_cons_zero, List.set_cons_succ]
          refine hK.out _ _ (fun _ => hS2.tail.tail) ?_
          generalize World.setCells v4 g6 0 (vals 16 Y) = v5 at hS2 ⊢
          clear hK K hS hT0 h0
          have hS := hS2
          clear hS2
          refine wpAnyZ_done (by kernel_rfl) ?_ _
          go_wp2_with fail
          go_meet
          exact ⟨g5, g6, rfl, rfl, hS⟩
      · go_simp
        have hS2 := hS.fresh 23
        refine hK.out _ _ (fun _ => hS2.tail) ?_
        clear hK K hS
        obtain ⟨g5, hn⟩ : ∃ g, Hid (g = v0.heap.size) := ⟨_, rfl⟩
        rw [← hn.out] at hS2 ⊢
        generalize World.alloc v0 (.cells (vals 16 fun _ => 0).toArray 23) = v1 at hS2 ⊢
        clear hn
        have hS := hS2
        clear hS2
        try simp only [Act.put, List.setIfInBounds_toArray, List.set_cons_zero, List.set_cons_succ]
        refine wpAnyZ_two (i := 3) (j := 5) (by kernel_rfl) rfl rfl (fun K hK => ?_) (fun K hK => ?_) 
        · go_simp
          go_at_call 10
          refine (next_of d _ od).mono ?_
          rintro e v2 ⟨rfl, hb8⟩
          rw [← eY.out]
          go_wp2_with fail
          refine hK.out _ _ (fun _ => (hS.grow hb8).tail) ?_
          replace hS := hS.grow hb8
          clear hK K hb8
          try simp only [Act.put, List.setIfInBounds_toArray, List.set_cons_zero, List.set_cons_succ]
          refine wpAnyZ_one (i := 5) (by kernel_rfl) rfl (fun K hK => ?_)
          go_simp
          have hS2 := hS.fresh 23
          refine hK.out _ _ (fun _ => hS2.tail.tail) ?_
          clear hK K hS
          obtain ⟨g6, hn⟩ : ∃ g, Hid (g = v2.heap.size) := ⟨_, rfl⟩
          rw [← hn.out] at hS2 ⊢
          generalize World.alloc v2 (.cells (vals 16 fun _ => 0).toArray 23) = v3 at hS2 ⊢
          clear hn
          have hS := hS2
          clear hS2
          try simp only [Act.put, List.setIfInBounds_toArray, List.set_cons_zero, List.set_cons_succ]
          refine wpAnyZ_one (i := 6) (by kernel_rfl) rfl (fun K hK => ?_)
          have h0 := hS.at (g := g5) (x := fun _ => 0) (by simp)
          have hT0 := h0.there
          have hS2 := hS.put1 X
          rw [if_pos (by rfl)]
          refine wp_store_arr _ _ _ rfl g5 16 X rfl rfl hT0 hib ?_
          try simp only [Act.put, List.setIfInBounds_toArray, List.set_cons_zero, List.set_cons_succ]
          refine hK.out _ _ (fun _ => hS2.tail.tail) ?_
          generalize World.setCells v3 g5 0 (vals 16 X) = v4 at hS2 ⊢
          clear hK K hS hT0 h0
          have hS := hS2
          clear hS2
          refine wpAnyZ_one (i := 7) (by kernel_rfl) rfl (fun K hK => ?_)
          have h0 := hS.at (g := g6) (x := fun _ => 0) (by simp)
          have hT0 := h0.there
          have hS2 := hS.put0 Y
          rw [if_pos (by rfl)]
          refine wp_store_arr _ _ _ rfl g6 16 Y rfl rfl hT0 hib ?_
          try simp only [Act.put, List.setIfInBounds_toArray, List.set_cons_zero, List.set_cons_succ]
          refine hK.out _ _ (fun _ => hS2.tail.tail) ?_
          generalize World.setCells v4 g6 0 (vals 16 Y) = v5 at hS2 ⊢
          clear hK K hS hT0 h0
          have hS := hS2
          clear hS2
          refine wpAnyZ_done (by kernel_rfl) ?_ _
          go_wp2_with fail
          go_meet
          exact ⟨g5, g6, rfl, rfl, hS.swap⟩
        · go_simp
          have hS2 := hS.fresh 23
          refine hK.out _ _ (fun _ => hS2.tail.tail) ?_
          clear hK K hS
          obtain ⟨g6, hn⟩ : ∃ g, Hid (g = v1.heap.size) := ⟨_, rfl⟩
          rw [← hn.out] at hS2 ⊢
          generalize World.alloc v1 (.cells (vals 16 fun _ => 0).toArray 23) = v2 at hS2 ⊢
          clear hn
          have hS := hS2
          clear hS2
          try simp only [Act.put, List.setIfInBounds_toArray, List.set_cons_zero, List.set_cons_succ]
          refine wpAnyZ_one (i := 3) (by kernel_rfl) rfl (fun K hK => ?_)
          go_simp
          go_at_call 10
          refine (next_of d _ od).mono ?_
          rintro e v3 ⟨rfl, hb8⟩
          rw [← eY.out]
          go_wp2_with fail
          refine hK.out _ _ (fun _ => (hS.grow hb8).tail.tail) ?_
          replace hS := hS.grow hb8
          clear hK K hb8
          try simp only [Act.put, List.setIfInBounds_toArray, List.set_cons_zero, List.set_cons_succ]
          refine wpAnyZ_one (i := 6) (by kernel_rfl) rfl (fun K hK => ?_)
          have h0 := hS.at (g := g5) (x := fun _ => 0) (by simp)
          have hT0 := h0.there
          have hS2 := hS.put1 X
          rw [if_pos (by rfl)]
          refine wp_store_arr _ _ _ rfl g5 16 X rfl rfl hT0 hib ?_
          try simp only [Act.put, List.setIfInBounds_toArray, List.set_cons_zero, List.set_cons_succ]
          refine hK.out _ _ (fun _ => hS2.tail.tail) ?_
          generalize World.setCells v3 g5 0 (vals 16 X) = v4 at hS2 ⊢
          clear hK K hS hT0 h0
          have hS := hS2
          clear hS2
          refine wpAnyZ_one (i := 7) (by kernel_rfl) rfl (fun K hK => ?_)
          have h0 := hS.at (g := g6) (x := fun _ => 0) (by simp)
          have hT0 := h0.there
          have hS2 := hS.put0 Y
          rw [if_pos (by rfl)]
          refine wp_store_arr _ _ _ rfl g6 16 Y rfl rfl hT0 hib ?_
          try simp only [Act.put, List.setIfInBounds_toArray, List.set_cons_zero, List.set_cons_succ]
          refine hK.out _ _ (fun _ => hS2.tail.tail) ?_
          generalize World.setCells v4 g6 0 (vals 16 Y) = v5 at hS2 ⊢
          clear hK K hS hT0 h0
          have hS := hS2
          clear hS2
          refine wpAnyZ_done (by kernel_rfl) ?_ _
          go_wp2_with fail
          go_meet
          exact ⟨g5, g6, rfl, rfl, hS.swap⟩
      · go_simp
        have hS2 := hS.fresh 23
        refine hK.out _ _ (fun _ => hS2.tail) ?_
        clear hK K hS
        obtain ⟨g6, hn⟩ : ∃ g, Hid (g = v0.heap.size) := ⟨_, rfl⟩
        rw [← hn.out] at hS2 ⊢
        generalize World.alloc v0 (.cells (vals 16 fun _ => 0).toArray 23) = v1 at hS2 ⊢
        clear hn
        have hS := hS2
        clear hS2
        try simp only [Act.put, List.setIfInBounds_toArray, List.set_cons_zero, List.set_cons_succ]
        refine wpAnyZ_two (i := 3) (j := 4) (by kernel_rfl) rfl rfl (fun K hK => ?_) (fun K hK => ?_) 
        · go_simp
          go_at_call 10
          refine (next_of d _ od).mono ?_
          rintro e v2 ⟨rfl, hb8⟩
          rw [← eY.out]
          go_wp2_with fail
          refine hK.out _ _ (fun _ => (hS.grow hb8).tail) ?_
          replace hS := hS.grow hb8
          clear hK K hb8
          try simp only [Act.put, List.setIfInBounds_toArray, List.set_cons_zero, List.set_cons_succ]
          refine wpAnyZ_one (i := 4) (by kernel_rfl) rfl (fun K hK => ?_)
          go_simp
          have hS2 := hS.fresh 23
          refine hK.out _ _ (fun _ => hS2.tail.tail) ?_
          clear hK K hS
          obtain ⟨g5, hn⟩ : ∃ g, Hid (g = v2.heap.size) := ⟨_, rfl⟩
          rw [← hn.out] at hS2 ⊢
          generalize World.alloc v2 (.cells (vals 16 fun _ => 0).toArray 23) = v3 at hS2 ⊢
          clear hn
          have hS := hS2
          clear hS2
          try simp only [Act.put, List.setIfInBounds_toArray, List.set_cons_zero, List.set_cons_succ]
          refine wpAnyZ_one (i := 6) (by kernel_rfl) rfl (fun K hK => ?_)
          have h0 := hS.at (g := g5) (x := fun _ => 0) (by simp)
          have hT0 := h0.there
          have hS2 := hS.put0 X
          rw [if_pos (by rfl)]
          refine wp_store_arr _ _ _ rfl g5 16 X rfl rfl hT0 hib ?_
          try simp only [Act.put, List.setIfInBounds_toArray, List.set_cons_zero, List.set_cons_succ]
          refine hK.out _ _ (fun _ => hS2.tail.tail) ?_
          generalize World.setCells v3 g5 0 (vals 16 X) = v4 at hS2 ⊢
          clear hK K hS hT0 h0
          have hS := hS2
          clear hS2
          refine wpAnyZ_one (i := 7) (by kernel_rfl) rfl (fun K hK => ?_)
          have h0 := hS.at (g := g6) (x := fun _ => 0) (by simp)
          have hT0 := h0.there
          have hS2 := hS.put1 Y
          rw [if_pos (by rfl)]
          refine wp_store_arr _ _ _ rfl g6 16 Y rfl rfl hT0 hib ?_
          try simp only [Act.put, List.setIfInBounds_toArray, List.set_cons_zero, List.set_cons_succ]
          refine hK.out _ _ (fun _ => hS2.tail.tail) ?_
          generalize World.setCells v4 g6 0 (vals 16 Y) = v5 at hS2 ⊢
          clear hK K hS hT0 h0
          have hS := hS2
          clear hS2
          refine wpAnyZ_done (by kernel_rfl) ?_ _
          go_wp2_with fail
          go_meet
          exact ⟨g5, g6, rfl, rfl, hS⟩
        · go_simp
          have hS2 := hS.fresh 23
          refine hK.out _ _ (fun _ => hS2.tail.tail) ?_
          clear hK K hS
          obtain ⟨g5, hn⟩ : ∃ g, Hid (g = v1.heap.size) := ⟨_, rfl⟩
          rw [← hn.out] at hS2 ⊢
          generalize World.alloc v1 (.cells (vals 16 fun _ => 0).toArray 23) = v2 at hS2 ⊢
          clear hn
          have hS := hS2
          clear hS2
          try simp only [Act.put, List.setIfInBounds_toArray, List.set_cons_zero, List.set_cons_succ]
          refine wpAnyZ_one (i := 3) (by kernel_rfl) rfl (fun K hK => ?_)
          go_simp
          go_at_call 10
          refine (next_of d _ od).mono ?_
          rintro e v3 ⟨rfl, hb8⟩
          rw [← eY.out]
          go_wp2_with fail
          refine hK.out _ _ (fun _ => (hS.grow hb8).tail.tail) ?_
          replace hS := hS.grow hb8
          clear hK K hb8
          try simp only [Act.put, List.setIfInBounds_toArray, List.set_cons_zero, List.set_cons_succ]
          refine wpAnyZ_one (i := 6) (by kernel_rfl) rfl (fun K hK => ?_)
          have h0 := hS.at (g := g5) (x := fun _ => 0) (by simp)
          have hT0 := h0.there
          have hS2 := hS.put0 X
          rw [if_pos (by rfl)]
          refine wp_store_arr _ _ _ rfl g5 16 X rfl rfl hT0 hib ?_
          try simp only [Act.put, List.setIfInBounds_toArray, List.set_cons_zero, List.set_cons_succ]
          refine hK.out _ _ (fun _ => hS2.tail.tail) ?_
          generalize World.setCells v3 g5 0 (vals 16 X) = v4 at hS2 ⊢
          clear hK K hS hT0 h0
          have hS := hS2
          clear hS2
          refine wpAnyZ_one (i := 7) (by kernel_rfl) rfl (fun K hK => ?_)
          have h0 := hS.at (g := g6) (x := fun _ => 0) (by simp)
          have hT0 := h0.there
          have hS2 := hS.put1 Y
          rw [if_pos (by rfl)]
          refine wp_store_arr _ _ _ rfl g6 16 Y rfl rfl hT0 hib ?_
          try simp only [Act.put, List.setIfInBounds_toArray, List.set_cons_zero, List.set_cons_succ]
          refine hK.out _ _ (fun _ => hS2.tail.tail) ?_
          generalize World.setCells v4 g6 0 (vals 16 Y) = v5 at hS2 ⊢
          clear hK K hS hT0 h0
          have hS := hS2
          clear hS2
          refine wpAnyZ_done (by kernel_rfl) ?_ _
          go_wp2_with fail
          go_meet
          exact ⟨g5, g6, rfl, rfl, hS⟩
    · go_simp
      have hS2 := hS.fresh 23
      refine hK.out _ _ (fun _ => hS2.tail) ?_
      clear hK K hS
      obtain ⟨g5, hn⟩ : ∃ g, Hid (g = w9.heap.size) := ⟨_, rfl⟩
      rw [← hn.out] at hS2 ⊢
      generalize World.alloc w9 (.cells (vals 16 fun _ => 0).toArray 23) = v0 at hS2 ⊢
      clear hn
      have hS := hS2
      clear hS2
      try simp only [Act.put, List.setIfInBounds_toArray, List.set_cons_zero, List.set_cons_succ]
      refine wpAnyZ_two (i := 1) (j := 5) (by kernel_rfl) rfl rfl (fun K hK => ?_) (fun K hK => ?_) 
      · go_simp
        go_at_call 10
        refine (next_of c _ oc).mono ?_
        rintro e v1 ⟨rfl, hb8⟩
        rw [← eX.out]
        go_wp2_with fail
        refine hK.out _ _ (fun _ => (hS.grow hb8).tail) ?_
        replace hS := hS.grow hb8
        clear hK K hb8
        try simp only [Act.put, List.setIfInBounds_toArray, List.set_cons_zero, List.set_cons_succ]
        refine wpAnyZ_two (i := 3) (j := 5) (by kernel_rfl) rfl rfl (fun K hK => ?_) (fun K hK => ?_) 
        · go_simp
          go_at_call 10
          refine (next_of d _ od).mono ?_
          rintro e v2 ⟨rfl, hb8⟩
          rw [← eY.out]
          go_wp2_with fail
          refine hK.out _ _ (fun _ => (hS.grow hb8).tail) ?_
          replace hS := hS.grow hb8
          clear hK K hb8
          try simp only [Act.put, List.setIfInBounds_toArray, List.set_cons_zero, List.set_cons_succ]
          refine wpAnyZ_one (i := 5) (by kernel_rfl) rfl (fun K hK => ?_)
          go_simp
          have hS2 := hS.fresh 23
          refine hK.out _ _ (fun _ => hS2.tail.tail) ?_
          clear hK K hS
          obtain ⟨g6, hn⟩ : ∃ g, Hid (g = v2.heap.size) := ⟨_, rfl⟩
          rw [← hn.out] at hS2 ⊢
          generalize World.alloc v2 (.cells (vals 16 fun _ => 0).toArray 23) = v3 at hS2 ⊢
          clear hn
          have hS := hS2
          clear hS2
          try simp only [Act.put, List.setIfInBounds_toArray, List.set_cons_zero, List.set_cons_succ]
          refine wpAnyZ_one (i := 6) (by kernel_rfl) rfl (fun K hK => ?_)
          have h0 := hS.at (g := g5) (x := fun _ => 0) (by simp)
          have hT0 := h0.there
          have hS2 := hS.put1 X
          rw [if_pos (by rfl)]
          refine wp_store_arr _ _ _ rfl g5 16 X rfl rfl hT0 hib ?_
          try simp only [Act.put, List.setIfInBounds_toArray, List.set_cons_zero, List.set_cons_succ]
          refine hK.out _ _ (fun _ => hS2.tail.tail) ?_
          generalize World.setCells v3 g5 0 (vals 16 X) = v4 at hS2 ⊢
          clear hK K hS hT0 h0
          have hS := hS2
          clear hS2
          refine wpAnyZ_one (i := 7) (by kernel_rfl) rfl (fun K hK => ?_)
          have h0 := hS.at (g := g6) (x := fun _ => 0) (by simp)
          have hT0 := h0.there
          have hS2 := hS.put0 Y
          rw [if_pos (by rfl)]
          refine wp_store_arr _ _ _ rfl g6 16 Y rfl rfl hT0 hib ?_
          try simp only [Act.put, List.setIfInBounds_toArray, List.set_cons_zero, List.set_cons_succ]
          refine hK.out _ _ (fun _ => hS2.tail.tail) ?_
          generalize World.setCells v4 g6 0 (vals 16 Y) = v5 at hS2 ⊢
          clear hK K hS hT0 h0
          have hS := hS2
          clear hS2
          refine wpAnyZ_done (by kernel_rfl) ?_ _
          go_wp2_with fail
          go_meet
          exact ⟨g5, g6, rfl, rfl, hS.swap⟩
        · go_simp
          have hS2 := hS.fresh 23
          refine hK.out _ _ (fun _ => hS2.tail.tail) ?_
          clear hK K hS
          obtain ⟨g6, hn⟩ : ∃ g, Hid (g = v1.heap.size) := ⟨_, rfl⟩
          rw [← hn.out] at hS2 ⊢
          generalize World.alloc v1 (.cells (vals 16 fun _ => 0).toArray 23) = v2 at hS2 ⊢
          clear hn
          have hS := hS2
          clear hS2
          try simp only [Act.put, List.setIfInBounds_toArray, List.set_cons_zero, List.set_cons_succ]
          refine wpAnyZ_one (i := 3) (by kernel_rfl) rfl (fun K hK => ?_)
          go_simp
          go_at_call 10
          refine (next_of d _ od).mono ?_
          rintro e v3 ⟨rfl, hb8⟩
          rw [← eY.out]
          go_wp2_with fail
          refine hK.out _ _ (fun _ => (hS.grow hb8).tail.tail) ?_
          replace hS := hS.grow hb8
          clear hK K hb8
          try simp only [Act.put, List.setIfInBounds_toArray, List.set_cons_zero, List.set_cons_succ]
          refine wpAnyZ_one (i := 6) (by kernel_rfl) rfl (fun K hK => ?_)
          have h0 := hS.at (g := g5) (x := fun _ => 0) (by simp)
          have hT0 := h0.there
          have hS2 := hS.put1 X
          rw [if_pos (by rfl)]
          refine wp_store_arr _ _ _ rfl g5 16 X rfl rfl hT0 hib ?_
          try simp only [Act.put, List.setIfInBounds_toArray, List.set_cons_zero, List.set_cons_succ]
          refine hK.out _ _ (fun _ => hS2.tail.tail) ?_
          generalize World.setCells v3 g5 0 (vals 16 X) = v4 at hS2 ⊢
          clear hK K hS hT0 h0
          have hS := hS2
          clear hS2
          refine wpAnyZ_one (i := 7) (by kernel_rfl) rfl (fun K hK => ?_)
          have h0 := hS.at (g := g6) (x := fun _ => 0) (by simp)
          have hT0 := h0.there
          have hS2 := hS.put0 Y
          rw [if_pos (by rfl)]
          refine wp_store_arr _ _ _ rfl g6 16 Y rfl rfl hT0 hib ?_
          try simp only [Act.put, List.setIfInBounds_toArray, List.set_cons_zero, List.set_cons_succ]
          refine hK.out _ _ (fun _ => hS2.tail.tail) ?_
          generalize World.setCells v4 g6 0 (vals 16 Y) = v5 at hS2 ⊢
          clear hK K hS hT0 h0
          have hS := hS2
          clear hS2
          refine wpAnyZ_done (by kernel_rfl) ?_ _
          go_wp2_with fail
          go_meet
          exact ⟨g5, g6, rfl, rfl, hS.swap⟩
      · go_simp
        have hS2 := hS.fresh 23
        refine hK.out _ _ (fun _ => hS2.tail.tail) ?_
        clear hK K hS
        obtain ⟨g6, hn⟩ : ∃ g, Hid (g = v0.heap.size) := ⟨_, rfl⟩
        rw [← hn.out] at hS2 ⊢
        generalize World.alloc v0 (.cells (vals 16 fun _ => 0).toArray 23) = v1 at hS2 ⊢
        clear hn
        have hS := hS2
        clear hS2
        try simp only [Act.put, List.setIfInBounds_toArray, List.set_cons_zero, List.set_cons_succ]
        refine wpAnyZ_one (i := 1) (by kernel_rfl) rfl (fun K hK => ?_)
        go_simp
        go_at_call 10
        refine (next_of c _ oc).mono ?_
        rintro e v2 ⟨rfl, hb8⟩
        rw [← eX.out]
        go_wp2_with fail
        refine hK.out _ _ (fun _ => (hS.grow hb8).tail.tail) ?_
        replace hS := hS.grow hb8
        clear hK K hb8
        try simp only [Act.put, List.setIfInBounds_toArray, List.set_cons_zero, List.set_cons_succ]
        refine wpAnyZ_one (i := 3) (by kernel_rfl) rfl (fun K hK => ?_)
        go_simp
        go_at_call 10
        refine (next_of d _ od).mono ?_
        rintro e v3 ⟨rfl, hb8⟩
        rw [← eY.out]
        go_wp2_with fail
        refine hK.out _ _ (fun _ => (hS.grow hb8).tail.tail) ?_
        replace hS := hS.grow hb8
        clear hK K hb8
        try simp only [Act.put, List.setIfInBounds_toArray, List.set_cons_zero, List.set_cons_succ]
        refine wpAnyZ_one (i := 6) (by kernel_rfl) rfl (fun K hK => ?_)
        have h0 := hS.at (g := g5) (x := fun _ => 0) (by simp)
        have hT0 := h0.there
        have hS2 := hS.put1 X
        rw [if_pos (by rfl)]
        refine wp_store_arr _ _ _ rfl g5 16 X rfl rfl hT0 hib ?_
        try simp only [Act.put, List.setIfInBounds_toArray, List.set_cons_zero, List.set_cons_succ]
        refine hK.out _ _ (fun _ => hS2.tail.tail) ?_
        generalize World.setCells v3 g5 0 (vals 16 X) = v4 at hS2 ⊢
        clear hK K hS hT0 h0
        have hS := hS2
        clear hS2
        refine wpAnyZ_one (i := 7) (by kernel_rfl) rfl (fun K hK => ?_)
        have h0 := hS.at (g := g6) (x := fun _ => 0) (by simp)
        have hT0 := h0.there
        have hS2 := hS.put0 Y
        rw [if_pos (by rfl)]
        refine wp_store_arr _ _ _ rfl g6 16 Y rfl rfl hT0 hib ?_
        try simp only [Act.put, List.setIfInBounds_toArray, List.set_cons_zero, List.set_cons_succ]
        refine hK.out _ _ (fun _ => hS2.tail.tail) ?_
        generalize World.setCells v4 g6 0 (vals 16 Y) = v5 at hS2 ⊢
        clear hK K hS hT0 h0
        have hS := hS2
        clear hS2
        refine wpAnyZ_done (by kernel_rfl) ?_ _
        go_wp2_with fail
        go_meet
        exact ⟨g5, g6, rfl, rfl, hS.swap⟩
    · go_simp
      have hS2 := hS.fresh 23
      refine hK.out _ _ (fun _ => hS2.tail) ?_
      clear hK K hS
      obtain ⟨g6, hn⟩ : ∃ g, Hid (g = w9.heap.size) := ⟨_, rfl⟩
      rw [← hn.out] at hS2 ⊢
      generalize World.alloc w9 (.cells (vals 16 fun _ => 0).toArray 23) = v0 at hS2 ⊢
      clear hn
      have hS := hS2
      clear hS2
      try simp only [Act.put, List.setIfInBounds_toArray, List.set_cons_zero, List.set_cons_succ]
      refine wpAnyZ_two (i := 1) (j := 4) (by kernel_rfl) rfl rfl (fun K hK => ?_) (fun K hK => ?_) 
      · go_simp
        go_at_call 10
        refine (next_of c _ oc).mono ?_
        rintro e v1 ⟨rfl, hb8⟩
        rw [← eX.out]
        go_wp2_with fail
        refine hK.out _ _ (fun _ => (hS.grow hb8).tail) ?_
        replace hS := hS.grow hb8
        clear hK K hb8
        try simp only [Act.put, List.setIfInBounds_toArray, List.set_cons_zero, List.set_cons_succ]
        refine wpAnyZ_two (i := 3) (j := 4) (by kernel_rfl) rfl rfl (fun K hK => ?_) (fun K hK => ?_) 
        · go_simp
          go_at_call 10
          refine (next_of d _ od).mono ?_
          rintro e v2 ⟨rfl, hb8⟩
          rw [← eY.out]
          go_wp2_with fail
          refine hK.out _ _ (fun _ => (hS.grow hb8).tail) ?_
          replace hS := hS.grow hb8
          clear hK K hb8
          try simp only [Act.put, List.setIfInBounds_toArray, List.set_cons_zero, List.set_cons_succ]
          refine wpAnyZ_one (i := 4) (by kernel_rfl) rfl (fun K hK => ?_)
          go_simp
          have hS2 := hS.fresh 23
          refine hK.out _ _ (fun _ => hS2.tail.tail) ?_
          clear hK K hS
          obtain ⟨g5, hn⟩ : ∃ g, Hid (g = v2.heap.size) := ⟨_, rfl⟩
          rw [← hn.out] at hS2 ⊢
          generalize World.alloc v2 (.cells (vals 16 fun _ => 0).toArray 23) = v3 at hS2 ⊢
          clear hn
          have hS := hS2
          clear hS2
          try simp only [Act.put, List.setIfInBounds_toArray, List.set_cons_zero, List.set_cons_succ]
          refine wpAnyZ_one (i := 6) (by kernel_rfl) rfl (fun K hK => ?_)
          have h0 := hS.at (g := g5) (x := fun _ => 0) (by simp)
          have hT0 := h0.there
          have hS2 := hS.put0 X
          rw [if_pos (by rfl)]
          refine wp_store_arr _ _ _ rfl g5 16 X rfl rfl hT0 hib ?_
          try simp only [Act.put, List.setIfInBounds_toArray, List.set_cons_zero, List.set_cons_succ]
          refine hK.out _ _ (fun _ => hS2.tail.tail) ?_
          generalize World.setCells v3 g5 0 (vals 16 X) = v4 at hS2 ⊢
          clear hK K hS hT0 h0
          have hS := hS2
          clear hS2
          refine wpAnyZ_one (i := 7) (by kernel_rfl) rfl (fun K hK => ?_)
          have h0 := hS.at (g := g6) (x := fun _ => 0) (by simp)
          have hT0 := h0.there
          have hS2 := hS.put1 Y
          rw [if_pos (by rfl)]
          refine wp_store_arr _ _ _ rfl g6 16 Y rfl rfl hT0 hib ?_
          try simp only [Act.put, List.setIfInBounds_toArray, List.set_cons_zero, List.set_cons_succ]
          refine hK.out _ _ (fun _ => hS2.tail.tail) ?_
          generalize World.setCells v4 g6 0 (vals 16 Y) = v5 at hS2 ⊢
          clear hK K hS hT0 h0
          have hS := hS2
          clear hS2
          refine wpAnyZ_done (by kernel_rfl) ?_ _
          go_wp2_with fail
          go_meet
          exact ⟨g5, g6, rfl, rfl, hS⟩
        · go_simp
          have hS2 := hS.fresh 23
          refine hK.out _ _ (fun _ => hS2.tail.tail) ?_
          clear hK K hS
          obtain ⟨g5, hn⟩ : ∃ g, Hid (g = v1.heap.size) := ⟨_, rfl⟩
          rw [← hn.out] at hS2 ⊢
          generalize World.alloc v1 (.cells (vals 16 fun _ => 0).toArray 23) = v2 at hS2 ⊢
          clear hn
          have hS := hS2
          clear hS2
          try simp only [Act.put, List.setIfInBounds_toArray, List.set_cons_zero, List.set_cons_succ]
          refine wpAnyZ_one (i := 3) (by kernel_rfl) rfl (fun K hK => ?_)
          go_simp
          go_at_call 10
          refine (next_of d _ od).mono ?_
          rintro e v3 ⟨rfl, hb8⟩
          rw [← eY.out]
          go_wp2_with fail
          refine hK.out _ _ (fun _ => (hS.grow hb8).tail.tail) ?_
          replace hS := hS.grow hb8
          clear hK K hb8
          try simp only [Act.put, List.setIfInBounds_toArray, List.set_cons_zero, List.set_cons_succ]
          refine wpAnyZ_one (i := 6) (by kernel_rfl) rfl (fun K hK => ?_)
          have h0 := hS.at (g := g5) (x := fun _ => 0) (by simp)
          have hT0 := h0.there
          have hS2 := hS.put0 X
          rw [if_pos (by rfl)]
          refine wp_store_arr _ _ _ rfl g5 16 X rfl rfl hT0 hib ?_
          try simp only [Act.put, List.setIfInBounds_toArray, List.set_cons_zero, List.set_cons_succ]
          refine hK.out _ _ (fun _ => hS2.tail.tail) ?_
          generalize World.setCells v3 g5 0 (vals 16 X) = v4 at hS2 ⊢
          clear hK K hS hT0 h0
          have hS := hS2
          clear hS2
          refine wpAnyZ_one (i := 7) (by kernel_rfl) rfl (fun K hK => ?_)
          have h0 := hS.at (g := g6) (x := fun _ => 0) (by simp)
          have hT0 := h0.there
          have hS2 := hS.put1 Y
          rw [if_pos (by rfl)]
          refine wp_store_arr _ _ _ rfl g6 16 Y rfl rfl hT0 hib ?_
          try simp only [Act.put, List.setIfInBounds_toArray, List.set_cons_zero, List.set_cons_succ]
          refine hK.out _ _ (fun _ => hS2.tail.tail) ?_
          generalize World.setCells v4 g6 0 (vals 16 Y) = v5 at hS2 ⊢
          clear hK K hS hT0 h0
          have hS := hS2
          clear hS2
          refine wpAnyZ_done (by kernel_rfl) ?_ _
          go_wp2_with fail
          go_meet
          exact ⟨g5, g6, rfl, rfl, hS⟩
      · go_simp
        have hS2 := hS.fresh 23
        refine hK.out _ _ (fun _ => hS2.tail.tail) ?_
        clear hK K hS
        obtain ⟨g5, hn⟩ : ∃ g, Hid (g = v0.heap.size) := ⟨_, rfl⟩
        rw [← hn.out] at hS2 ⊢
        generalize World.alloc v0 (.cells (vals 16 fun _ => 0).toArray 23) = v1 at hS2 ⊢
        clear hn
        have hS := hS2
        clear hS2
        try simp only [Act.put, List.setIfInBounds_toArray, List.set_cons_zero, List.set_cons_succ]
        refine wpAnyZ_one (i := 1) (by kernel_rfl) rfl (fun K hK => ?_)
        go_simp
        go_at_call 10
        refine (next_of c _ oc).mono ?_
        rintro e v2 ⟨rfl, hb8⟩
        rw [← eX.out]
        go_wp2_with fail
        refine hK.out _ _ (fun _ => (hS.grow hb8).tail.tail) ?_
        replace hS := hS.grow hb8
        clear hK K hb8
        try simp only [Act.put, List.setIfInBounds_toArray, List.set_cons_zero, List.set_cons_succ]
        refine wpAnyZ_one (i := 3) (by kernel_rfl) rfl (fun K hK => ?_)
        go_simp
        go_at_call 10
        refine (next_of d _ od).mono ?_
        rintro e v3 ⟨rfl, hb8⟩
        rw [← eY.out]
        go_wp2_with fail
        refine hK.out _ _ (fun _ => (hS.grow hb8).tail.tail) ?_
        replace hS := hS.grow hb8
        clear hK K hb8
        try simp only [Act.put, List.setIfInBounds_toArray, List.set_cons_zero, List.set_cons_succ]
        refine wpAnyZ_one (i := 6) (by kernel_rfl) rfl (fun K hK => ?_)
        have h0 := hS.at (g := g5) (x := fun _ => 0) (by simp)
        have hT0 := h0.there
        have hS2 := hS.put0 X
        rw [if_pos (by rfl)]
        refine wp_store_arr _ _ _ rfl g5 16 X rfl rfl hT0 hib ?_
        try simp only [Act.put, List.setIfInBounds_toArray, List.set_cons_zero, List.set_cons_succ]
        refine hK.out _ _ (fun _ => hS2.tail.tail) ?_
        generalize World.setCells v3 g5 0 (vals 16 X) = v4 at hS2 ⊢
        clear hK K hS hT0 h0
        have hS := hS2
        clear hS2
        refine wpAnyZ_one (i := 7) (by kernel_rfl) rfl (fun K hK => ?_)
        have h0 := hS.at (g := g6) (x := fun _ => 0) (by simp)
        have hT0 := h0.there
        have hS2 := hS.put1 Y
        rw [if_pos (by rfl)]
        refine wp_store_arr _ _ _ rfl g6 16 Y rfl rfl hT0 hib ?_
        try simp only [Act.put, List.setIfInBounds_toArray, List.set_cons_zero, List.set_cons_succ]
        refine hK.out _ _ (fun _ => hS2.tail.tail) ?_
        generalize World.setCells v4 g6 0 (vals 16 Y) = v5 at hS2 ⊢
        clear hK K hS hT0 h0
        have hS := hS2
        clear hS2
        refine wpAnyZ_done (by kernel_rfl) ?_ _
        go_wp2_with fail
        go_meet
        exact ⟨g5, g6, rfl, rfl, hS⟩
  case rest =>
    obtain ⟨g5, g6, rfl, rfl, hS⟩ := hcut
    have hX0 := hS.at (g := g5) (x := X) (by simp)
    have hY0 := hS.at (g := g6) (x := Y) (by simp)
    have hB5 := hB.trans (hS.below.mono hB.size)
    have H5 := And.intro hX0 (And.intro hY0 (And.intro (HC.out.below' lc hS.below) (And.intro (HD.out.below' ld hS.below) (hB5.trans ((Below.refl _ _).drew)))))
    clear hS hX0 hY0 hB5 hB HC HD
    go_upto_region 2 with fail
    refine wp_region_z (fun v => Arr v g5 16 X ∧ Arr v g6 16 Y ∧ Arr v w.heap.size 16 c ∧ Arr v (w.heap.size + 1) 16 d ∧ Below w.heap.size w v) 25 (by kernel_rfl) H5 (fun hS => ?_)
    clear H5
    generalize World.drew _ = w9 at hS ⊢
    refine wpAnyZ_take (i := 0) (v := .slice (some ⟨g5, 0, none⟩) 12 16) rfl (by kernel_rfl) (by kernel_rfl) (by kernel_rfl) (by kernel_rfl) (fun _ _ _ h => h) hS (Or.inl ⟨by kernel_rfl, fun w hS => (by clear hS; go_simp)⟩) ?_
    simp only [Act.put, List.setIfInBounds_toArray, List.set_cons_zero, List.set_cons_succ]
    refine wpAnyZ_take (i := 1) (v := .pointer (some ⟨g5, 0, none⟩)) rfl (by kernel_rfl) (by kernel_rfl) (by kernel_rfl) (by kernel_rfl) (fun _ _ _ h => h) hS (Or.inl ⟨by kernel_rfl, fun w hS => (by clear hS; go_simp)⟩) ?_
    simp only [Act.put, List.setIfInBounds_toArray, List.set_cons_zero, List.set_cons_succ]
    refine wpAnyZ_take (i := 2) rfl (by kernel_rfl) (by kernel_rfl) (by kernel_rfl) (by kernel_rfl) (fun _ _ _ h => h) hS (yieldsIf_load_mid (by kernel_rfl) 39 (.tmp 12) rfl g5 0 (by kernel_rfl) (vals 12 X) _ (fun w hS => (arr12 hS.1).range) hu12 rfl hi12) ?_
    simp only [Act.put, List.setIfInBounds_toArray, List.set_cons_zero, List.set_cons_succ]
    refine wpAnyZ_take (i := 3) (v := .slice (some ⟨w.heap.size, 0, none⟩) 12 16) rfl (by kernel_rfl) (by kernel_rfl) (by kernel_rfl) (by kernel_rfl) (fun _ _ _ h => h) hS (Or.inl ⟨by kernel_rfl, fun w hS => (by clear hS; go_simp)⟩) ?_
    simp only [Act.put, List.setIfInBounds_toArray, List.set_cons_zero, List.set_cons_succ]
    refine wpAnyZ_take (i := 4) (v := .pointer (some ⟨w.heap.size, 0, none⟩)) rfl (by kernel_rfl) (by kernel_rfl) (by kernel_rfl) (by kernel_rfl) (fun _ _ _ h => h) hS (Or.inl ⟨by kernel_rfl, fun w hS => (by clear hS; go_simp)⟩) ?_
    simp only [Act.put, List.setIfInBounds_toArray, List.set_cons_zero, List.set_cons_succ]
    refine wpAnyZ_take (i := 5) rfl (by kernel_rfl) (by kernel_rfl) (by kernel_rfl) (by kernel_rfl) (fun _ _ _ h => h) hS (yieldsIf_load_mid (by kernel_rfl) 39 (.tmp 15) rfl w.heap.size 0 (by kernel_rfl) (vals 12 c) _ (fun w hS => (arr12 hS.2.2.1).range) hu12 rfl hi12) ?_
    simp only [Act.put, List.setIfInBounds_toArray, List.set_cons_zero, List.set_cons_succ]
    refine wpAnyZ_take (i := 6) (v := .bool true) rfl (by kernel_rfl) (by kernel_rfl) (by kernel_rfl) (by kernel_rfl) (fun _ _ _ h => h) hS (Or.inl ⟨by kernel_rfl, fun w hS => (by clear hS; go_simp)⟩) ?_
    simp only [Act.put, List.setIfInBounds_toArray, List.set_cons_zero, List.set_cons_succ]
    refine wpAnyZ_take (i := 7) (v := .bool true) rfl (by kernel_rfl) (by kernel_rfl) (by kernel_rfl) (by kernel_rfl) (fun _ _ _ h => h) hS (Or.inl ⟨by kernel_rfl, fun w hS => (by clear hS; go_simp)⟩) ?_
    simp only [Act.put, List.setIfInBounds_toArray, List.set_cons_zero, List.set_cons_succ]
    refine wpAnyZ_take (i := 8) rfl (by kernel_rfl) (by kernel_rfl) (by kernel_rfl) (by kernel_rfl) (fun _ _ _ h => h) hS (yieldsIf_load_mid (by kernel_rfl) 23 (.tmp 5) rfl g5 0 (by kernel_rfl) (vals 16 X) _ (fun w hS => hS.1.range) hub rfl hib) ?_
    simp only [Act.put, List.setIfInBounds_toArray, List.set_cons_zero, List.set_cons_succ]
    refine wpAnyZ_take (i := 9) rfl (by kernel_rfl) (by kernel_rfl) (by kernel_rfl) (by kernel_rfl) (fun _ _ _ h => h) hS (yieldsIf_load_mid (by kernel_rfl) 23 (.tmp 2) rfl w.heap.size 0 (by kernel_rfl) (vals 16 c) _ (fun w hS => hS.2.2.1.range) hub rfl hib) ?_
    simp only [Act.put, List.setIfInBounds_toArray, List.set_cons_zero, List.set_cons_succ]
    refine wpAnyZ_take (i := 10) (v := .bool true) rfl (by kernel_rfl) (by kernel_rfl) (by kernel_rfl) (by kernel_rfl) (fun _ _ _ h => h) hS (Or.inl ⟨by kernel_rfl, fun w hS => (by clear hS; go_simp)⟩) ?_
    simp only [Act.put, List.setIfInBounds_toArray, List.set_cons_zero, List.set_cons_succ]
    refine wpAnyZ_take (i := 11) (v := .bool true) rfl (by kernel_rfl) (by kernel_rfl) (by kernel_rfl) (by kernel_rfl) (fun _ _ _ h => h) hS (Or.inl ⟨by kernel_rfl, fun w hS => (by clear hS; go_simp)⟩) ?_
    simp only [Act.put, List.setIfInBounds_toArray, List.set_cons_zero, List.set_cons_succ]
    refine wpAnyZ_take (i := 12) (v := .bool true) rfl (by kernel_rfl) (by kernel_rfl) (by kernel_rfl) (by kernel_rfl) (fun _ _ _ h => h) hS (Or.inl ⟨by kernel_rfl, fun w hS => (by clear hS; go_simp)⟩) ?_
    simp only [Act.put, List.setIfInBounds_toArray, List.set_cons_zero, List.set_cons_succ]
    refine wpAnyZ_take (i := 13) rfl (by kernel_rfl) (by kernel_rfl) (by kernel_rfl) (by kernel_rfl) (fun _ _ _ h => h) hS (yieldsIf_load_mid (by kernel_rfl) 23 (.tmp 5) rfl g5 0 (by kernel_rfl) (vals 16 X) _ (fun w hS => hS.1.range) hub rfl hib) ?_
    simp only [Act.put, List.setIfInBounds_toArray, List.set_cons_zero, List.set_cons_succ]
    refine wpAnyZ_take (i := 14) rfl (by kernel_rfl) (by kernel_rfl) (by kernel_rfl) (by kernel_rfl) (fun _ _ _ h => h) hS (yieldsIf_load_mid (by kernel_rfl) 23 (.tmp 6) rfl g6 0 (by kernel_rfl) (vals 16 Y) _ (fun w hS => hS.2.1.range) hub rfl hib) ?_
    simp only [Act.put, List.setIfInBounds_toArray, List.set_cons_zero, List.set_cons_succ]
    refine wpAnyZ_take (i := 15) (v := .bool b) rfl (by kernel_rfl) (by kernel_rfl) (by kernel_rfl) (by kernel_rfl) (fun _ _ _ h => h) hS (Or.inl ⟨by kernel_rfl, fun w hS => (by clear hS; go_simp)⟩) ?_
    simp only [Act.put, List.setIfInBounds_toArray, List.set_cons_zero, List.set_cons_succ]
    refine wpAnyZ_take (i := 16) rfl (by kernel_rfl) (by kernel_rfl) (by kernel_rfl) (by kernel_rfl) (fun _ _ _ h => h) hS (yieldsIf_load_mid (by kernel_rfl) 23 (.tmp 2) rfl w.heap.size 0 (by kernel_rfl) (vals 16 c) _ (fun w hS => hS.2.2.1.range) hub rfl hib) ?_
    simp only [Act.put, List.setIfInBounds_toArray, List.set_cons_zero, List.set_cons_succ]
    refine wpAnyZ_take (i := 17) rfl (by kernel_rfl) (by kernel_rfl) (by kernel_rfl) (by kernel_rfl) (fun _ _ _ h => h) hS (yieldsIf_load_mid (by kernel_rfl) 23 (.tmp 3) rfl (w.heap.size + 1) 0 (by kernel_rfl) (vals 16 d) _ (fun w hS => hS.2.2.2.1.range) hub rfl hib) ?_
    simp only [Act.put, List.setIfInBounds_toArray, List.set_cons_zero, List.set_cons_succ]
    refine wpAnyZ_take (i := 18) (v := .bool b) rfl (by kernel_rfl) (by kernel_rfl) (by kernel_rfl) (by kernel_rfl) (fun _ _ _ h => h) hS (Or.inl ⟨by kernel_rfl, fun w hS => (by clear hS; go_simp)⟩) ?_
    simp only [Act.put, List.setIfInBounds_toArray, List.set_cons_zero, List.set_cons_succ]
    refine wpAnyZ_take (i := 19) (v := .bool true) rfl (by kernel_rfl) (by kernel_rfl) (by kernel_rfl) (by kernel_rfl) (fun _ _ _ h => h) hS (Or.inl ⟨by kernel_rfl, fun w hS => (by clear hS; go_simp)⟩) ?_
    simp only [Act.put, List.setIfInBounds_toArray, List.set_cons_zero, List.set_cons_succ]
    refine wpAnyZ_take (i := 20) (v := .bool true) rfl (by kernel_rfl) (by kernel_rfl) (by kernel_rfl) (by kernel_rfl) (fun _ _ _ h => h) hS (Or.inl ⟨by kernel_rfl, fun w hS => (by clear hS; go_simp)⟩) ?_
    simp only [Act.put, List.setIfInBounds_toArray, List.set_cons_zero, List.set_cons_succ]
    refine wpAnyZ_take (i := 21) (v := .bool true) rfl (by kernel_rfl) (by kernel_rfl) (by kernel_rfl) (by kernel_rfl) (fun _ _ _ h => h) hS (Or.inl ⟨by kernel_rfl, fun w hS => (by clear hS; go_simp)⟩) ?_
    simp only [Act.put, List.setIfInBounds_toArray, List.set_cons_zero, List.set_cons_succ]
    refine wpAnyZ_one (i := 22) (by kernel_rfl) rfl (fun K hK => ?_)
    go_simp
    go_at_call 12
    refine (cknown_any _).mono ?_
    rintro e v8 ⟨rfl, hb8⟩
    go_wp2_with fail
    refine hK.out _ _ (fun _ => And.intro (hS.1.below hb8) (And.intro (hS.2.1.below hb8) (And.intro (hS.2.2.1.below hb8) (And.intro (hS.2.2.2.1.below hb8) (hS.2.2.2.2.trans (hb8.mono hS.2.2.2.2.size)))))) ?_
    replace hS := And.intro (hS.1.below hb8) (And.intro (hS.2.1.below hb8) (And.intro (hS.2.2.1.below hb8) (And.intro (hS.2.2.2.1.below hb8) (hS.2.2.2.2.trans (hb8.mono hS.2.2.2.2.size)))))
    clear hK K
    try simp only [Act.put, List.setIfInBounds_toArray, List.set_cons_zero, List.set_cons_succ]
    refine wpAnyZ_take (i := 23) (v := .bool true) rfl (by kernel_rfl) (by kernel_rfl) (by kernel_rfl) (by kernel_rfl) (fun _ _ _ h => h) hS (Or.inl ⟨by kernel_rfl, fun w hS => (by clear hS; go_simp)⟩) ?_
    simp only [Act.put, List.setIfInBounds_toArray, List.set_cons_zero, List.set_cons_succ]
    refine wpAnyZ_one (i := 24) (by kernel_rfl) rfl (fun K hK => ?_)
    go_simp
    refine hK.out _ _ (fun _ => hS) ?_
    clear hK K
    try simp only [Act.put, List.setIfInBounds_toArray, List.set_cons_zero, List.set_cons_succ]
    refine wpAnyZ_done (by kernel_rfl) ?_ _
    go_wp2_with fail
    go_ret
    exact ⟨rfl, hS.2.2.2.2⟩
end Go.Proofs.Ytadpnkecdjleiaa
