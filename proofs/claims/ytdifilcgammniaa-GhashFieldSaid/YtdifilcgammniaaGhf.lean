/-
  The walk of GhashField.
-/
import Derived.Test.YtdifilcgammniaaArn
import Derived.Test.YtdifilcgammniaaGhkn
namespace Go.Proofs.Ytdifilcgammniaa
open Go.RowKit
set_option linter.unusedVariables false
set_option linter.unusedSimpArgs false

set_option maxHeartbeats 40000000 in
set_option maxRecDepth 100000 in
theorem gfield_law (x y z : Nat → Nat) (w : World) (ox : ∀ j, x j < 256) (oy : ∀ j, y j < 256) (oz : ∀ j, z j < 256) :
    Calls Try.prog 8 #[.agg (vals 16 x).toArray, .agg (vals 16 y).toArray, .agg (vals 16 z).toArray] w fun e w' => e = .returned (.bool true) ∧ Below w.heap.size w w' := by
  have hzb := Try.zeroBlock
  have hub := Try.underlying35
  have hib := Try.sizeBlock
  obtain ⟨w1, hw1, hx1, hy1, hz1, hB, hsz⟩ := boxes3 w 16 x y z 35 35 35
  have hS : Arn w [(w.heap.size + 1 + 1, z), (w.heap.size + 1, y), (w.heap.size, x)] w1 := ⟨⟨fun q hq => by
    simp at hq
    rcases hq with rfl | rfl | rfl
    · exact hz1
    · exact hy1
    · exact hx1, hB⟩, by simp; omega, fun q hq => by
    simp at hq
    rcases hq with rfl | rfl | rfl <;> simp <;> omega⟩
  clear hx1 hy1 hz1 hB hsz
  obtain ⟨xy, exy⟩ : ∃ f : Nat → Nat, Hid (f = by16 (G.mul (el x) (el y))) := ⟨_, rfl⟩
  obtain ⟨yx, eyx⟩ : ∃ f : Nat → Nat, Hid (f = by16 (G.mul (el y) (el x))) := ⟨_, rfl⟩
  obtain ⟨lf, el1⟩ : ∃ f : Nat → Nat, Hid (f = by16 (G.mul (el xy) (el z))) := ⟨_, rfl⟩
  obtain ⟨yz, eyz⟩ : ∃ f : Nat → Nat, Hid (f = by16 (G.mul (el y) (el z))) := ⟨_, rfl⟩
  obtain ⟨rt, er1⟩ : ∃ f : Nat → Nat, Hid (f = by16 (G.mul (el x) (el yz))) := ⟨_, rfl⟩
  obtain ⟨ypz, eyz2⟩ : ∃ f : Nat → Nat, Hid (f = fun j => y j ^^^ z j) := ⟨_, rfl⟩
  obtain ⟨sm, esm⟩ : ∃ f : Nat → Nat, Hid (f = by16 (G.mul (el x) (el ypz))) := ⟨_, rfl⟩
  obtain ⟨xz, exz⟩ : ∃ f : Nat → Nat, Hid (f = by16 (G.mul (el x) (el z))) := ⟨_, rfl⟩
  obtain ⟨pt, ept⟩ : ∃ f : Nat → Nat, Hid (f = fun j => xy j ^^^ xz j) := ⟨_, rfl⟩
  obtain ⟨nn, enn⟩ : ∃ f : Nat → Nat, Hid (f = by16 (G.mul (el x) (el fun _ => 0))) := ⟨_, rfl⟩
  obtain ⟨on, eon⟩ : ∃ f : Nat → Nat, Hid (f = by16 (G.mul (el x) (el oneB))) := ⟨_, rfl⟩
  have oxy : ∀ j, xy j < 256 := by rw [exy.out]; exact by16_lt _
  have oyx : ∀ j, yx j < 256 := by rw [eyx.out]; exact by16_lt _
  have olf : ∀ j, lf j < 256 := by rw [el1.out]; exact by16_lt _
  have oyz : ∀ j, yz j < 256 := by rw [eyz.out]; exact by16_lt _
  have ort : ∀ j, rt j < 256 := by rw [er1.out]; exact by16_lt _
  have osm : ∀ j, sm j < 256 := by rw [esm.out]; exact by16_lt _
  have oxz : ∀ j, xz j < 256 := by rw [exz.out]; exact by16_lt _
  have onn : ∀ j, nn j < 256 := by rw [enn.out]; exact by16_lt _
  have oon : ∀ j, on j < 256 := by rw [eon.out]; exact by16_lt _
  have oypz : ∀ j, ypz j < 256 := by rw [eyz2.out]; exact fun j => xor_byte (oy j) (oz j)
  have opt : ∀ j, pt j < 256 := by rw [ept.out]; exact fun j => xor_byte (oxy j) (oxz j)
  have onul : ∀ j, (fun _ => 0 : Nat → Nat) j < 256 := fun _ => Nat.zero_lt_succ _
  have lx := el_lt ox
  have ly := el_lt oy
  have lz := el_lt oz
  have vxy : el xy = G.mul (el x) (el y) := by rw [exy.out, el_by16 (G.mul_lt ly)]
  have vyz : el yz = G.mul (el y) (el z) := by rw [eyz.out, el_by16 (G.mul_lt lz)]
  have vxz : el xz = G.mul (el x) (el z) := by rw [exz.out, el_by16 (G.mul_lt lz)]
  have vnul : el (fun _ => 0) = 0 := rfl
  have c1 : el xy = el yx := by rw [vxy, eyx.out, el_by16 (G.mul_lt lx), G.mul_comm lx ly]
  have c2 : el lf = el rt := by rw [el1.out, er1.out, el_by16 (G.mul_lt lz), el_by16 (G.mul_lt (el_lt oyz)), vxy, vyz, G.mul_assoc ly lz]
  have c3 : el sm = el pt := by rw [esm.out, el_by16 (G.mul_lt (el_lt oypz)), ept.out, el_xor oxy oxz, vxy, vxz, eyz2.out, el_xor oy oz, G.mul_linR]
  have c4 : el on = el x := by rw [eon.out, el_by16 (G.mul_lt (el_lt oneB_lt)), el_one, G.mul_one lx]
  have c5 : el nn = el (fun _ => 0) := by rw [enn.out, el_by16 (G.mul_lt (el_lt onul)), vnul, G.mul_zero]
  have c6 : el xy ≠ el (fun _ => 0) ∨ (el xy = el (fun _ => 0) ∧ el x = el (fun _ => 0)) ∨ (el xy = el (fun _ => 0) ∧ el x ≠ el (fun _ => 0) ∧ el y = el (fun _ => 0)) := by
    rw [vnul]
    by_cases h0 : el xy = 0
    · right
      by_cases h1 : el x = 0
      · exact .inl ⟨h0, h1⟩
      · rcases G.mul_nought lx ly (vxy.symm.trans h0) with h | h
        · exact absurd h h1
        · exact .inr ⟨h0, h1, h⟩
    · exact .inl h0
  clear lx ly lz vxy vyz vxz vnul
  go_enter Try.func8, Try.ntmps8
  go_upto_region 1 with fail
  rw [← hw1.out]
  clear hw1
  go_cut [7, 8] (fun s7 s8 wx => ∃ g7 g8 : Nat, s7 = .pointer (some ⟨g7, 0, none⟩) ∧ s8 = .pointer (some ⟨g8, 0, none⟩) ∧ Arn w ([(g7, xy), (g8, yx)] ++ [(w.heap.size + 1 + 1, z), (w.heap.size + 1, y), (w.heap.size, x)]) wx)
  case first =>
    have hSd := hS.grow (Below.refl _ _).drew
    refine wp_region_z (Arn w [(w.heap.size + 1 + 1, z), (w.heap.size + 1, y), (w.heap.size, x)]) 10 (by kernel_rfl) hSd (fun hS => ?_)
    clear hSd
    generalize World.drew _ = w9 at hS ⊢
    refine wpAnyZ_take (i := 0) rfl (by kernel_rfl) (by kernel_rfl) (by kernel_rfl) (by kernel_rfl) (fun _ _ _ h => h) hS (yieldsIf_load_mid (by kernel_rfl) 35 (.tmp 3) rfl w.heap.size 0 (by kernel_rfl) (vals 16 x) _ (fun w hS => (hS.at (by simp)).range) hub rfl hib) ?_
    simp only [Act.put, List.setIfInBounds_toArray, List.set_cons_zero, List.set_cons_succ]
    refine wpAnyZ_take (i := 1) rfl (by kernel_rfl) (by kernel_rfl) (by kernel_rfl) (by kernel_rfl) (fun _ _ _ h => h) hS (yieldsIf_load_mid (by kernel_rfl) 35 (.tmp 4) rfl (w.heap.size + 1) 0 (by kernel_rfl) (vals 16 y) _ (fun w hS => (hS.at (by simp)).range) hub rfl hib) ?_
    simp only [Act.put, List.setIfInBounds_toArray, List.set_cons_zero, List.set_cons_succ]
    refine wpAnyZ_take (i := 3) rfl (by kernel_rfl) (by kernel_rfl) (by kernel_rfl) (by kernel_rfl) (fun _ _ _ h => h) hS (yieldsIf_load_mid (by kernel_rfl) 35 (.tmp 4) rfl (w.heap.size + 1) 0 (by kernel_rfl) (vals 16 y) _ (fun w hS => (hS.at (by simp)).range) hub rfl hib) ?_
    simp only [Act.put, List.setIfInBounds_toArray, List.set_cons_zero, List.set_cons_succ]
    refine wpAnyZ_take (i := 4) rfl (by kernel_rfl) (by kernel_rfl) (by kernel_rfl) (by kernel_rfl) (fun _ _ _ h => h) hS (yieldsIf_load_mid (by kernel_rfl) 35 (.tmp 3) rfl w.heap.size 0 (by kernel_rfl) (vals 16 x) _ (fun w hS => (hS.at (by simp)).range) hub rfl hib) ?_
    simp only [Act.put, List.setIfInBounds_toArray, List.set_cons_zero, List.set_cons_succ]
    refine wpAnyZ_three (i := 2) (j := 6) (k := 7) (by kernel_rfl) rfl rfl rfl (fun K hK => ?_) (fun K hK => ?_) (fun K hK => ?_) 
    · go_simp
      go_at_call 22
      refine (mul_of x y _ ox oy).mono ?_
      rintro e v0 ⟨rfl, hb8⟩
      rw [← exy.out]
      go_wp2_with fail
      refine hK.out _ _ (fun _ => (hS.grow hb8)) ?_
      replace hS := hS.grow hb8
      clear hK K hb8
      try simp only [Act.put, List.setIfInBounds_toArray, List.set_cons_zero, List.set_cons_succ]
      refine wpAnyZ_three (i := 5) (j := 6) (k := 7) (by kernel_rfl) rfl rfl rfl (fun K hK => ?_) (fun K hK => ?_) (fun K hK => ?_) 
      · go_simp
        go_at_call 22
        refine (mul_of y x _ oy ox).mono ?_
        rintro e v1 ⟨rfl, hb8⟩
        rw [← eyx.out]
        go_wp2_with fail
        refine hK.out _ _ (fun _ => (hS.grow hb8)) ?_
        replace hS := hS.grow hb8
        clear hK K hb8
        try simp only [Act.put, List.setIfInBounds_toArray, List.set_cons_zero, List.set_cons_succ]
        refine wpAnyZ_two (i := 6) (j := 7) (by kernel_rfl) rfl rfl (fun K hK => ?_) (fun K hK => ?_) 
        · go_simp
          have hS2 := hS.fresh 35
          refine hK.out _ _ (fun _ => hS2.tail) ?_
          clear hK K hS
          obtain ⟨g7, hn⟩ : ∃ g, Hid (g = v1.heap.size) := ⟨_, rfl⟩
          rw [← hn.out] at hS2 ⊢
          generalize World.alloc v1 (.cells (vals 16 fun _ => 0).toArray 35) = v2 at hS2 ⊢
          clear hn
          have hS := hS2
          clear hS2
          try simp only [Act.put, List.setIfInBounds_toArray, List.set_cons_zero, List.set_cons_succ]
          refine wpAnyZ_one (i := 7) (by kernel_rfl) rfl (fun K hK => ?_)
          go_simp
          have hS2 := hS.fresh 35
          refine hK.out _ _ (fun _ => hS2.tail.tail) ?_
          clear hK K hS
          obtain ⟨g8, hn⟩ : ∃ g, Hid (g = v2.heap.size) := ⟨_, rfl⟩
          rw [← hn.out] at hS2 ⊢
          generalize World.alloc v2 (.cells (vals 16 fun _ => 0).toArray 35) = v3 at hS2 ⊢
          clear hn
          have hS := hS2
          clear hS2
          try simp only [Act.put, List.setIfInBounds_toArray, List.set_cons_zero, List.set_cons_succ]
          refine wpAnyZ_one (i := 8) (by kernel_rfl) rfl (fun K hK => ?_)
          have h0 := hS.at (g := g7) (x := fun _ => 0) (by simp)
          have hT0 := h0.there
          have hS2 := hS.put1 xy
          rw [if_pos (by rfl)]
          refine wp_store_arr _ _ _ rfl g7 16 xy rfl rfl hT0 hib ?_
          try simp only [Act.put, List.setIfInBounds_toArray, List.set_cons_zero, List.set_cons_succ]
          refine hK.out _ _ (fun _ => hS2.tail.tail) ?_
          generalize World.setCells v3 g7 0 (vals 16 xy) = v4 at hS2 ⊢
          clear hK K hS hT0 h0
          have hS := hS2
          clear hS2
          refine wpAnyZ_one (i := 9) (by kernel_rfl) rfl (fun K hK => ?_)
          have h0 := hS.at (g := g8) (x := fun _ => 0) (by simp)
          have hT0 := h0.there
          have hS2 := hS.put0 yx
          rw [if_pos (by rfl)]
          refine wp_store_arr _ _ _ rfl g8 16 yx rfl rfl hT0 hib ?_
          try simp only [Act.put, List.setIfInBounds_toArray, List.set_cons_zero, List.set_cons_succ]
          refine hK.out _ _ (fun _ => hS2.tail.tail) ?_
          generalize World.setCells v4 g8 0 (vals 16 yx) = v5 at hS2 ⊢
          clear hK K hS hT0 h0
          have hS := hS2
          clear hS2
          refine wpAnyZ_done (by kernel_rfl) ?_ _
          go_wp2_with fail
          go_meet
          exact ⟨g7, g8, rfl, rfl, hS.swap⟩
        · go_simp
          have hS2 := hS.fresh 35
          refine hK.out _ _ (fun _ => hS2.tail) ?_
          clear hK K hS
          obtain ⟨g8, hn⟩ : ∃ g, Hid (g = v1.heap.size) := ⟨_, rfl⟩
          rw [← hn.out] at hS2 ⊢
          generalize World.alloc v1 (.cells (vals 16 fun _ => 0).toArray 35) = v2 at hS2 ⊢
          clear hn
          have hS := hS2
          clear hS2
          try simp only [Act.put, List.setIfInBounds_toArray, List.set_cons_zero, List.set_cons_succ]
          refine wpAnyZ_one (i := 6) (by kernel_rfl) rfl (fun K hK => ?_)
          go_simp
          have hS2 := hS.fresh 35
          refine hK.out _ _ (fun _ => hS2.tail.tail) ?_
          clear hK K hS
          obtain ⟨g7, hn⟩ : ∃ g, Hid (g = v2.heap.size) := ⟨_, rfl⟩
          rw [← hn.out] at hS2 ⊢
          generalize World.alloc v2 (.cells (vals 16 fun _ => 0).toArray 35) = v3 at hS2 ⊢
          clear hn
          have hS := hS2
          clear hS2
          try simp only [Act.put, List.setIfInBounds_toArray, List.set_cons_zero, List.set_cons_succ]
          refine wpAnyZ_one (i := 8) (by kernel_rfl) rfl (fun K hK => ?_)
          have h0 := hS.at (g := g7) (x := fun _ => 0) (by simp)
          have hT0 := h0.there
          have hS2 := hS.put0 xy
          rw [if_pos (by rfl)]
          refine wp_store_arr _ _ _ rfl g7 16 xy rfl rfl hT0 hib ?_
          try simp only [Act.put, List.setIfInBounds_toArray, List.set_cons_zero, List.set_cons_succ]
          refine hK.out _ _ (fun _ => hS2.tail.tail) ?_
          generalize World.setCells v3 g7 0 (vals 16 xy) = v4 at hS2 ⊢
          clear hK K hS hT0 h0
          have hS := hS2
          clear hS2
          refine wpAnyZ_one (i := 9) (by kernel_rfl) rfl (fun K hK => ?_)
          have h0 := hS.at (g := g8) (x := fun _ => 0) (by simp)
          have hT0 := h0.there
          have hS2 := hS.put1 yx
          rw [if_pos (by rfl)]
          refine wp_store_arr _ _ _ rfl g8 16 yx rfl rfl hT0 hib ?_
          try simp only [Act.put, List.setIfInBounds_toArray, List.set_cons_zero, List.set_cons_succ]
          refine hK.out _ _ (fun _ => hS2.tail.tail) ?_
          generalize World.setCells v4 g8 0 (vals 16 yx) = v5 at hS2 ⊢
          clear hK K hS hT0 h0
          have hS := hS2
          clear hS2
          refine wpAnyZ_done (by kernel_rfl) ?_ _
          go_wp2_with fail
          go_meet
          exact ⟨g7, g8, rfl, rfl, hS⟩
      · go_simp
        have hS2 := hS.fresh 35
        refine hK.out _ _ (fun _ => hS2.tail) ?_
        clear hK K hS
        obtain ⟨g7, hn⟩ : ∃ g, Hid (g = v0.heap.size) := ⟨_, rfl⟩
        rw [← hn.out] at hS2 ⊢
        generalize World.alloc v0 (.cells (vals 16 fun _ => 0).toArray 35) = v1 at hS2 ⊢
        clear hn
        have hS := hS2
        clear hS2
        try simp only [Act.put, List.setIfInBounds_toArray, List.set_cons_zero, List.set_cons_succ]
        refine wpAnyZ_two (i := 5) (j := 7) (by kernel_rfl) rfl rfl (fun K hK => ?_) (fun K hK => ?_) 
        · go_simp
          go_at_call 22
          refine (mul_of y x _ oy ox).mono ?_
          rintro e v2 ⟨rfl, hb8⟩
          rw [← eyx.out]
          go_wp2_with fail
          refine hK.out _ _ (fun _ => (hS.grow hb8).tail) ?_
          replace hS := hS.grow hb8
          clear hK K hb8
          try simp only [Act.put, List.setIfInBounds_toArray, List.set_cons_zero, List.set_cons_succ]
          refine wpAnyZ_one (i := 7) (by kernel_rfl) rfl (fun K hK => ?_)
          go_simp
          have hS2 := hS.fresh 35
          refine hK.out _ _ (fun _ => hS2.tail.tail) ?_
          clear hK K hS
          obtain ⟨g8, hn⟩ : ∃ g, Hid (g = v2.heap.size) := ⟨_, rfl⟩
          rw [← hn.out] at hS2 ⊢
          generalize World.alloc v2 (.cells (vals 16 fun _ => 0).toArray 35) = v3 at hS2 ⊢
          clear hn
          have hS := hS2
          clear hS2
          try simp only [Act.put, List.setIfInBounds_toArray, List.set_cons_zero, List.set_cons_succ]
          refine wpAnyZ_one (i := 8) (by kernel_rfl) rfl (fun K hK => ?_)
          have h0 := hS.at (g := g7) (x := fun _ => 0) (by simp)
          have hT0 := h0.there
          have hS2 := hS.put1 xy
          rw [if_pos (by rfl)]
          refine wp_store_arr _ _ _ rfl g7 16 xy rfl rfl hT0 hib ?_
          try simp only [Act.put, List.setIfInBounds_toArray, List.set_cons_zero, List.set_cons_succ]
          refine hK.out _ _ (fun _ => hS2.tail.tail) ?_
          generalize World.setCells v3 g7 0 (vals 16 xy) = v4 at hS2 ⊢
          clear hK K hS hT0 h0
          have hS := hS2
          clear hS2
          refine wpAnyZ_one (i := 9) (by kernel_rfl) rfl (fun K hK => ?_)
          have h0 := hS.at (g := g8) (x := fun _ => 0) (by simp)
          have hT0 := h0.there
          have hS2 := hS.put0 yx
          rw [if_pos (by rfl)]
          refine wp_store_arr _ _ _ rfl g8 16 yx rfl rfl hT0 hib ?_
          try simp only [Act.put, List.setIfInBounds_toArray, List.set_cons_zero, List.set_cons_succ]
          refine hK.out _ _ (fun _ => hS2.tail.tail) ?_
          generalize World.setCells v4 g8 0 (vals 16 yx) = v5 at hS2 ⊢
          clear hK K hS hT0 h0
          have hS := hS2
          clear hS2
          refine wpAnyZ_done (by kernel_rfl) ?_ _
          go_wp2_with fail
          go_meet
          exact ⟨g7, g8, rfl, rfl, hS.swap⟩
        · go_simp
          have hS2 := hS.fresh 35
          refine hK.out _ _ (fun _ => hS2.tail.tail) ?_
          clear hK K hS
          obtain ⟨g8, hn⟩ : ∃ g, Hid (g = v1.heap.size) := ⟨_, rfl⟩
          rw [← hn.out] at hS2 ⊢
          generalize World.alloc v1 (.cells (vals 16 fun _ => 0).toArray 35) = v2 at hS2 ⊢
          clear hn
          have hS := hS2
          clear hS2
          try simp only [Act.put, List.setIfInBounds_toArray, List.set_cons_zero, List.set_cons_succ]
          refine wpAnyZ_one (i := 5) (by kernel_rfl) rfl (fun K hK => ?_)
          go_simp
          go_at_call 22
          refine (mul_of y x _ oy ox).mono ?_
          rintro e v3 ⟨rfl, hb8⟩
          rw [← eyx.out]
          go_wp2_with fail
          refine hK.out _ _ (fun _ => (hS.grow hb8).tail.tail) ?_
          replace hS := hS.grow hb8
          clear hK K hb8
          try simp only [Act.put, List.setIfInBounds_toArray, List.set_cons_zero, List.set_cons_succ]
          refine wpAnyZ_one (i := 8) (by kernel_rfl) rfl (fun K hK => ?_)
          have h0 := hS.at (g := g7) (x := fun _ => 0) (by simp)
          have hT0 := h0.there
          have hS2 := hS.put1 xy
          rw [if_pos (by rfl)]
          refine wp_store_arr _ _ _ rfl g7 16 xy rfl rfl hT0 hib ?_
          try simp only [Act.put, List.setIfInBounds_toArray, List.set_cons_zero, List.set_cons_succ]
          refine hK.out _ _ (fun _ => hS2.tail.tail) ?_
          generalize World.setCells v3 g7 0 (vals 16 xy) = v4 at hS2 ⊢
          clear hK K hS hT0 h0
          have hS := hS2
          clear hS2
          refine wpAnyZ_one (i := 9) (by kernel_rfl) rfl (fun K hK => ?_)
          have h0 := hS.at (g := g8) (x := fun _ => 0) (by simp)
          have hT0 := h0.there
          have hS2 := hS.put0 yx
          rw [if_pos (by rfl)]
          refine wp_store_arr _ _ _ rfl g8 16 yx rfl rfl hT0 hib ?_
          try simp only [Act.put, List.setIfInBounds_toArray, List.set_cons_zero, List.set_cons_succ]
          refine hK.out _ _ (fun _ => hS2.tail.tail) ?_
          generalize World.setCells v4 g8 0 (vals 16 yx) = v5 at hS2 ⊢
          clear hK K hS hT0 h0
          have hS := hS2
          clear hS2
          refine wpAnyZ_done (by kernel_rfl) ?_ _
          go_wp2_with fail
          go_meet
          exact ⟨g7, g8, rfl, rfl, hS.swap⟩
      · go_simp
        have hS2 := hS.fresh 35
        refine hK.out _ _ (fun _ => hS2.tail) ?_
        clear hK K hS
        obtain ⟨g8, hn⟩ : ∃ g, Hid (g = v0.heap.size) := ⟨_, rfl⟩
        rw [← hn.out] at hS2 ⊢
        generalize World.alloc v0 (.cells (vals 16 fun _ => 0).toArray 35) = v1 at hS2 ⊢
        clear hn
        have hS := hS2
        clear hS2
        try simp only [Act.put, List.setIfInBounds_toArray, List.set_cons_zero, List.set_cons_succ]
        refine wpAnyZ_two (i := 5) (j := 6) (by kernel_rfl) rfl rfl (fun K hK => ?_) (fun K hK => ?_) 
        · go_simp
          go_at_call 22
          refine (mul_of y x _ oy ox).mono ?_
          rintro e v2 ⟨rfl, hb8⟩
          rw [← eyx.out]
          go_wp2_with fail
          refine hK.out _ _ (fun _ => (hS.grow hb8).tail) ?_
          replace hS := hS.grow hb8
          clear hK K hb8
          try simp only [Act.put, List.setIfInBounds_toArray, List.set_cons_zero, List.set_cons_succ]
          refine wpAnyZ_one (i := 6) (by kernel_rfl) rfl (fun K hK => ?_)
          go_simp
          have hS2 := hS.fresh 35
          refine hK.out _ _ (fun _ => hS2.tail.tail) ?_
          clear hK K hS
          obtain ⟨g7, hn⟩ : ∃ g, Hid (g = v2.heap.size) := ⟨_, rfl⟩
          rw [← hn.out] at hS2 ⊢
          generalize World.alloc v2 (.cells (vals 16 fun _ => 0).toArray 35) = v3 at hS2 ⊢
          clear hn
          have hS := hS2
          clear hS2
          try simp only [Act.put, List.setIfInBounds_toArray, List.set_cons_zero, List.set_cons_succ]
          refine wpAnyZ_one (i := 8) (by kernel_rfl) rfl (fun K hK => ?_)
          have h0 := hS.at (g := g7) (x := fun _ => 0) (by simp)
          have hT0 := h0.there
          have hS2 := hS.put0 xy
          rw [if_pos (by rfl)]
          refine wp_store_arr _ _ _ rfl g7 16 xy rfl rfl hT0 hib ?_
          try simp only [Act.put, List.setIfInBounds_toArray, List.set_cons_zero, List.set_cons_succ]
          refine hK.out _ _ (fun _ => hS2.tail.tail) ?_
          generalize World.setCells v3 g7 0 (vals 16 xy) = v4 at hS2 ⊢
          clear hK K hS hT0 h0
          have hS := hS2
          clear hS2
          refine wpAnyZ_one (i := 9) (by kernel_rfl) rfl (fun K hK => ?_)
          have h0 := hS.at (g := g8) (x := fun _ => 0) (by simp)
          have hT0 := h0.there
          have hS2 := hS.put1 yx
          rw [if_pos (by rfl)]
          refine wp_store_arr _ _ _ rfl g8 16 yx rfl rfl hT0 hib ?_
          try simp only [Act.put, List.setIfInBounds_toArray, List.set_cons_zero, List.set_cons_succ]
          refine hK.out _ _ (fun _ => hS2.tail.tail) ?_
          generalize World.setCells v4 g8 0 (vals 16 yx) = v5 at hS2 ⊢
          clear hK K hS hT0 h0
          have hS := hS2
          clear hS2
          refine wpAnyZ_done (by kernel_rfl) ?_ _
          go_wp2_with fail
          go_meet
          exact ⟨g7, g8, rfl, rfl, hS⟩
        · go_simp
          have hS2 := hS.fresh 35
          refine hK.out _ _ (fun _ => hS2.tail.tail) ?_
          clear hK K hS
          obtain ⟨g7, hn⟩ : ∃ g, Hid (g = v1.heap.size) := ⟨_, rfl⟩
          rw [← hn.out] at hS2 ⊢
          generalize World.alloc v1 (.cells (vals 16 fun _ => 0).toArray 35) = v2 at hS2 ⊢
          clear hn
          have hS := hS2
          clear hS2
          try simp only [Act.put, List.setIfInBounds_toArray, List.set_cons_zero, List.set_cons_succ]
          refine wpAnyZ_one (i := 5) (by kernel_rfl) rfl (fun K hK => ?_)
          go_simp
          go_at_call 22
          refine (mul_of y x _ oy ox).mono ?_
          rintro e v3 ⟨rfl, hb8⟩
          rw [← eyx.out]
          go_wp2_with fail
          refine hK.out _ _ (fun _ => (hS.grow hb8).tail.tail) ?_
          replace hS := hS.grow hb8
          clear hK K hb8
          try simp only [Act.put, List.setIfInBounds_toArray, List.set_cons_zero, List.set_cons_succ]
          refine wpAnyZ_one (i := 8) (by kernel_rfl) rfl (fun K hK => ?_)
          have h0 := hS.at (g := g7) (x := fun _ => 0) (by simp)
          have hT0 := h0.there
          have hS2 := hS.put0 xy
          rw [if_pos (by rfl)]
          refine wp_store_arr _ _ _ rfl g7 16 xy rfl rfl hT0 hib ?_
          try simp only [Act.put, List.setIfInBounds_toArray, List.set_cons_zero, List.set_cons_succ]
          refine hK.out _ _ (fun _ => hS2.tail.tail) ?_
          generalize World.setCells v3 g7 0 (vals 16 xy) = v4 at hS2 ⊢
          clear hK K hS hT0 h0
          have hS := hS2
          clear hS2
          refine wpAnyZ_one (i := 9) (by kernel_rfl) rfl (fun K hK => ?_)
          have h0 := hS.at (g := g8) (x := fun _ => 0) (by simp)
          have hT0 := h0.there
          have hS2 := hS.put1 yx
          rw [if_pos (by rfl)]
          refine wp_store_arr _ _ _ rfl g8 16 yx rfl rfl hT0 hib ?_
          try simp only [Act.put, List.setIfInBounds_toArray, List.set_cons_zero, List.set_cons_succ]
          refine hK.out _ _ (fun _ => hS2.tail.tail) ?_
          generalize World.setCells v4 g8 0 (vals 16 yx) = v5 at hS2 ⊢
          clear hK K hS hT0 h0
          have hS := hS2
          clear hS2
          refine wpAnyZ_done (by kernel_rfl) ?_ _
          go_wp2_with fail
          go_meet
          exact ⟨g7, g8, rfl, rfl, hS⟩
    · go_simp
      have hS2 := hS.fresh 35
      refine hK.out _ _ (fun _ => hS2.tail) ?_
      clear hK K hS
      obtain ⟨g7, hn⟩ : ∃ g, Hid (g = w9.heap.size) := ⟨_, rfl⟩
      rw [← hn.out] at hS2 ⊢
      generalize World.alloc w9 (.cells (vals 16 fun _ => 0).toArray 35) = v0 at hS2 ⊢
      clear hn
      have hS := hS2
      clear hS2
      try simp only [Act.put, List.setIfInBounds_toArray, List.set_cons_zero, List.set_cons_succ]
      refine wpAnyZ_two (i := 2) (j := 7) (by kernel_rfl) rfl rfl (fun K hK => ?_) (fun K hK => ?_) 
      · go_simp
        go_at_call 22
        refine (mul_of x y _ ox oy).mono ?_
        rintro e v1 ⟨rfl, hb8⟩
        rw [← exy.out]
        go_wp2_with fail
        refine hK.out _ _ (fun _ => (hS.grow hb8).tail) ?_
        replace hS := hS.grow hb8
        clear hK K hb8
        try simp only [Act.put, List.setIfInBounds_toArray, List.set_cons_zero, List.set_cons_succ]
        refine wpAnyZ_two (i := 5) (j := 7) (by kernel_rfl) rfl rfl (fun K hK => ?_) (fun K hK => ?_) 
        · go_simp
          go_at_call 22
          refine (mul_of y x _ oy ox).mono ?_
          rintro e v2 ⟨rfl, hb8⟩
          rw [← eyx.out]
          go_wp2_with fail
          refine hK.out _ _ (fun _ => (hS.grow hb8).tail) ?_
          replace hS := hS.grow hb8
          clear hK K hb8
          try simp only [Act.put, List.setIfInBounds_toArray, List.set_cons_zero, List.set_cons_succ]
          refine wpAnyZ_one (i := 7) (by kernel_rfl) rfl (fun K hK => ?_)
          go_simp
          have hS2 := hS.fresh 35
          refine hK.out _ _ (fun _ => hS2.tail.tail) ?_
          clear hK K hS
          obtain ⟨g8, hn⟩ : ∃ g, Hid (g = v2.heap.size) := ⟨_, rfl⟩
          rw [← hn.out] at hS2 ⊢
          generalize World.alloc v2 (.cells (vals 16 fun _ => 0).toArray 35) = v3 at hS2 ⊢
          clear hn
          have hS := hS2
          clear hS2
          try simp only [Act.put, List.setIfInBounds_toArray, List.set_cons_zero, List.set_cons_succ]
          refine wpAnyZ_one (i := 8) (by kernel_rfl) rfl (fun K hK => ?_)
          have h0 := hS.at (g := g7) (x := fun _ => 0) (by simp)
          have hT0 := h0.there
          have hS2 := hS.put1 xy
          rw [if_pos (by rfl)]
          refine wp_store_arr _ _ _ rfl g7 16 xy rfl rfl hT0 hib ?_
          try simp only [Act.put, List.setIfInBounds_toArray, List.set_cons_zero, List.set_cons_succ]
          refine hK.out _ _ (fun _ => hS2.tail.tail) ?_
          generalize World.setCells v3 g7 0 (vals 16 xy) = v4 at hS2 ⊢
          clear hK K hS hT0 h0
          have hS := hS2
          clear hS2
          refine wpAnyZ_one (i := 9) (by kernel_rfl) rfl (fun K hK => ?_)
          have h0 := hS.at (g := g8) (x := fun _ => 0) (by simp)
          have hT0 := h0.there
          have hS2 := hS.put0 yx
          rw [if_pos (by rfl)]
          refine wp_store_arr _ _ _ rfl g8 16 yx rfl rfl hT0 hib ?_
          try simp only [Act.put, List.setIfInBounds_toArray, List.set_cons_zero, List.set_cons_succ]
          refine hK.out _ _ (fun _ => hS2.tail.tail) ?_
          generalize World.setCells v4 g8 0 (vals 16 yx) = v5 at hS2 ⊢
          clear hK K hS hT0 h0
          have hS := hS2
          clear hS2
          refine wpAnyZ_done (by kernel_rfl) ?_ _
          go_wp2_with fail
          go_meet
          exact ⟨g7, g8, rfl, rfl, hS.swap⟩
        · go_simp
          have hS2 := hS.fresh 35
          refine hK.out _ _ (fun _ => hS2.tail.tail) ?_
          clear hK K hS
          obtain ⟨g8, hn⟩ : ∃ g, Hid (g = v1.heap.size) := ⟨_, rfl⟩
          rw [← hn.out] at hS2 ⊢
          generalize World.alloc v1 (.cells (vals 16 fun _ => 0).toArray 35) = v2 at hS2 ⊢
          clear hn
          have hS := hS2
          clear hS2
          try simp only [Act.put, List.setIfInBounds_toArray, List.set_cons_zero, List.set_cons_succ]
          refine wpAnyZ_one (i := 5) (by kernel_rfl) rfl (fun K hK => ?_)
          go_simp
          go_at_call 22
          refine (mul_of y x _ oy ox).mono ?_
          rintro e v3 ⟨rfl, hb8⟩
          rw [← eyx.out]
          go_wp2_with fail
          refine hK.out _ _ (fun _ => (hS.grow hb8).tail.tail) ?_
          replace hS := hS.grow hb8
          clear hK K hb8
          try simp only [Act.put, List.setIfInBounds_toArray, List.set_cons_zero, List.set_cons_succ]
          refine wpAnyZ_one (i := 8) (by kernel_rfl) rfl (fun K hK => ?_)
          have h0 := hS.at (g := g7) (x := fun _ => 0) (by simp)
          have hT0 := h0.there
          have hS2 := hS.put1 xy
          rw [if_pos (by rfl)]
          refine wp_store_arr _ _ _ rfl g7 16 xy rfl rfl hT0 hib ?_
          try simp only [Act.put, List.setIfInBounds_toArray, List.set_cons_zero, List.set_cons_succ]
          refine hK.out _ _ (fun _ => hS2.tail.tail) ?_
          generalize World.setCells v3 g7 0 (vals 16 xy) = v4 at hS2 ⊢
          clear hK K hS hT0 h0
          have hS := hS2
          clear hS2
          refine wpAnyZ_one (i := 9) (by kernel_rfl) rfl (fun K hK => ?_)
          have h0 := hS.at (g := g8) (x := fun _ => 0) (by simp)
          have hT0 := h0.there
          have hS2 := hS.put0 yx
          rw [if_pos (by rfl)]
          refine wp_store_arr _ _ _ rfl g8 16 yx rfl rfl hT0 hib ?_
          try simp only [Act.put, List.setIfInBounds_toArray, List.set_cons_zero, List.set_cons_succ]
          refine hK.out _ _ (fun _ => hS2.tail.tail) ?_
          generalize World.setCells v4 g8 0 (vals 16 yx) = v5 at hS2 ⊢
          clear hK K hS hT0 h0
          have hS := hS2
          clear hS2
          refine wpAnyZ_done (by kernel_rfl) ?_ _
          go_wp2_with fail
          go_meet
          exact ⟨g7, g8, rfl, rfl, hS.swap⟩
      · go_simp
        have hS2 := hS.fresh 35
        refine hK.out _ _ (fun _ => hS2.tail.tail) ?_
        clear hK K hS
        obtain ⟨g8, hn⟩ : ∃ g, Hid (g = v0.heap.size) := ⟨_, rfl⟩
        rw [← hn.out] at hS2 ⊢
        generalize World.alloc v0 (.cells (vals 16 fun _ => 0).toArray 35) = v1 at hS2 ⊢
        clear hn
        have hS := hS2
        clear hS2
        try simp only [Act.put, List.setIfInBounds_toArray, List.set_cons_zero, List.set_cons_succ]
        refine wpAnyZ_one (i := 2) (by kernel_rfl) rfl (fun K hK => ?_)
        go_simp
        go_at_call 22
        refine (mul_of x y _ ox oy).mono ?_
        rintro e v2 ⟨rfl, hb8⟩
        rw [← exy.out]
        go_wp2_with fail
        refine hK.out _ _ (fun _ => (hS.grow hb8).tail.tail) ?_
        replace hS := hS.grow hb8
        clear hK K hb8
        try simp only [Act.put, List.setIfInBounds_toArray, List.set_cons_zero, List.set_cons_succ]
        refine wpAnyZ_one (i := 5) (by kernel_rfl) rfl (fun K hK => ?_)
        go_simp
        go_at_call 22
        refine (mul_of y x _ oy ox).mono ?_
        rintro e v3 ⟨rfl, hb8⟩
        rw [← eyx.out]
        go_wp2_with fail
        refine hK.out _ _ (fun _ => (hS.grow hb8).tail.tail) ?_
        replace hS := hS.grow hb8
        clear hK K hb8
        try simp only [Act.put, List.setIfInBounds_toArray, List.set_cons_zero, List.set_cons_succ]
        refine wpAnyZ_one (i := 8) (by kernel_rfl) rfl (fun K hK => ?_)
        have h0 := hS.at (g := g7) (x := fun _ => 0) (by simp)
        have hT0 := h0.there
        have hS2 := hS.put1 xy
        rw [if_pos (by rfl)]
        refine wp_store_arr _ _ _ rfl g7 16 xy rfl rfl hT0 hib ?_
        try simp only [Act.put, List.setIfInBounds_toArray, List.set_cons_zero, List.set_cons_succ]
        refine hK.out _ _ (fun _ => hS2.tail.tail) ?_
        generalize World.setCells v3 g7 0 (vals 16 xy) = v4 at hS2 ⊢
        clear hK K hS hT0 h0
        have hS := hS2
        clear hS2
        refine wpAnyZ_one (i := 9) (by kernel_rfl) rfl (fun K hK => ?_)
        have h0 := hS.at (g := g8) (x := fun _ => 0) (by simp)
        have hT0 := h0.there
        have hS2 := hS.put0 yx
        rw [if_pos (by rfl)]
        refine wp_store_arr _ _ _ rfl g8 16 yx rfl rfl hT0 hib ?_
        try simp only [Act.put, List.setIfInBounds_toArray, List.set_cons_zero, List.set_cons_succ]
        refine hK.out _ _ (fun _ => hS2.tail.tail) ?_
        generalize World.setCells v4 g8 0 (vals 16 yx) = v5 at hS2 ⊢
        clear hK K hS hT0 h0
        have hS := hS2
        clear hS2
        refine wpAnyZ_done (by kernel_rfl) ?_ _
        go_wp2_with fail
        go_meet
        exact ⟨g7, g8, rfl, rfl, hS.swap⟩
    · go_simp
      have hS2 := hS.fresh 35
      refine hK.out _ _ (fun _ => hS2.tail) ?_
      clear hK K hS
      obtain ⟨g8, hn⟩ : ∃ g, Hid (g = w9.heap.size) := ⟨_, rfl⟩
      rw [← hn.out] at hS2 ⊢
      generalize World.alloc w9 (.cells (vals 16 fun _ => 0).toArray 35) = v0 at hS2 ⊢
      clear hn
      have hS := hS2
      clear hS2
      try simp only [Act.put, List.setIfInBounds_toArray, List.set_cons_zero, List.set_cons_succ]
      refine wpAnyZ_two (i := 2) (j := 6) (by kernel_rfl) rfl rfl (fun K hK => ?_) (fun K hK => ?_) 
      · go_simp
        go_at_call 22
        refine (mul_of x y _ ox oy).mono ?_
        rintro e v1 ⟨rfl, hb8⟩
        rw [← exy.out]
        go_wp2_with fail
        refine hK.out _ _ (fun _ => (hS.grow hb8).tail) ?_
        replace hS := hS.grow hb8
        clear hK K hb8
        try simp only [Act.put, List.setIfInBounds_toArray, List.set_cons_zero, List.set_cons_succ]
        refine wpAnyZ_two (i := 5) (j := 6) (by kernel_rfl) rfl rfl (fun K hK => ?_) (fun K hK => ?_) 
        · go_simp
          go_at_call 22
          refine (mul_of y x _ oy ox).mono ?_
          rintro e v2 ⟨rfl, hb8⟩
          rw [← eyx.out]
          go_wp2_with fail
          refine hK.out _ _ (fun _ => (hS.grow hb8).tail) ?_
          replace hS := hS.grow hb8
          clear hK K hb8
          try simp only [Act.put, List.setIfInBounds_toArray, List.set_cons_zero, List.set_cons_succ]
          refine wpAnyZ_one (i := 6) (by kernel_rfl) rfl (fun K hK => ?_)
          go_simp
          have hS2 := hS.fresh 35
          refine hK.out _ _ (fun _ => hS2.tail.tail) ?_
          clear hK K hS
          obtain ⟨g7, hn⟩ : ∃ g, Hid (g = v2.heap.size) := ⟨_, rfl⟩
          rw [← hn.out] at hS2 ⊢
          generalize World.alloc v2 (.cells (vals 16 fun _ => 0).toArray 35) = v3 at hS2 ⊢
          clear hn
          have hS := hS2
          clear hS2
          try simp only [Act.put, List.setIfInBounds_toArray, List.set_cons_zero, List.set_cons_succ]
          refine wpAnyZ_one (i := 8) (by kernel_rfl) rfl (fun K hK => ?_)
          have h0 := hS.at (g := g7) (x := fun _ => 0) (by simp)
          have hT0 := h0.there
          have hS2 := hS.put0 xy
          rw [if_pos (by rfl)]
          refine wp_store_arr _ _ _ rfl g7 16 xy rfl rfl hT0 hib ?_
          try simp only [Act.put, List.setIfInBounds_toArray, List.set_cons_zero, List.set_cons_succ]
          refine hK.out _ _ (fun _ => hS2.tail.tail) ?_
          generalize World.setCells v3 g7 0 (vals 16 xy) = v4 at hS2 ⊢
          clear hK K hS hT0 h0
          have hS := hS2
          clear hS2
          refine wpAnyZ_one (i := 9) (by kernel_rfl) rfl (fun K hK => ?_)
          have h0 := hS.at (g := g8) (x := fun _ => 0) (by simp)
          have hT0 := h0.there
          have hS2 := hS.put1 yx
          rw [if_pos (by rfl)]
          refine wp_store_arr _ _ _ rfl g8 16 yx rfl rfl hT0 hib ?_
          try simp only [Act.put, List.setIfInBounds_toArray, List.set_cons_zero, List.set_cons_succ]
          refine hK.out _ _ (fun _ => hS2.tail.tail) ?_
          generalize World.setCells v4 g8 0 (vals 16 yx) = v5 at hS2 ⊢
          clear hK K hS hT0 h0
          have hS := hS2
          clear hS2
          refine wpAnyZ_done (by kernel_rfl) ?_ _
          go_wp2_with fail
          go_meet
          exact ⟨g7, g8, rfl, rfl, hS⟩
        · go_simp
          have hS2 := hS.fresh 35
          refine hK.out _ _ (fun _ => hS2.tail.tail) ?_
          clear hK K hS
          obtain ⟨g7, hn⟩ : ∃ g, Hid (g = v1.heap.size) := ⟨_, rfl⟩
          rw [← hn.out] at hS2 ⊢
          generalize World.alloc v1 (.cells (vals 16 fun _ => 0).toArray 35) = v2 at hS2 ⊢
          clear hn
          have hS := hS2
          clear hS2
          try simp only [Act.put, List.setIfInBounds_toArray, List.set_cons_zero, List.set_cons_succ]
          refine wpAnyZ_one (i := 5) (by kernel_rfl) rfl (fun K hK => ?_)
          go_simp
          go_at_call 22
          refine (mul_of y x _ oy ox).mono ?_
          rintro e v3 ⟨rfl, hb8⟩
          rw [← eyx.out]
          go_wp2_with fail
          refine hK.out _ _ (fun _ => (hS.grow hb8).tail.tail) ?_
          replace hS := hS.grow hb8
          clear hK K hb8
          try simp only [Act.put, List.setIfInBounds_toArray, List.set_cons_zero, List.set_cons_succ]
          refine wpAnyZ_one (i := 8) (by kernel_rfl) rfl (fun K hK => ?_)
          have h0 := hS.at (g := g7) (x := fun _ => 0) (by simp)
          have hT0 := h0.there
          have hS2 := hS.put0 xy
          rw [if_pos (by rfl)]
          refine wp_store_arr _ _ _ rfl g7 16 xy rfl rfl hT0 hib ?_
          try simp only [Act.put, List.setIfInBounds_toArray, List.set_cons_zero, List.set_cons_succ]
          refine hK.out _ _ (fun _ => hS2.tail.tail) ?_
          generalize World.setCells v3 g7 0 (vals 16 xy) = v4 at hS2 ⊢
          clear hK K hS hT0 h0
          have hS := hS2
          clear hS2
          refine wpAnyZ_one (i := 9) (by kernel_rfl) rfl (fun K hK => ?_)
          have h0 := hS.at (g := g8) (x := fun _ => 0) (by simp)
          have hT0 := h0.there
          have hS2 := hS.put1 yx
          rw [if_pos (by rfl)]
          refine wp_store_arr _ _ _ rfl g8 16 yx rfl rfl hT0 hib ?_
          try simp only [Act.put, List.setIfInBounds_toArray, List.set_cons_zero, List.set_cons_succ]
          refine hK.out _ _ (fun _ => hS2.tail.tail) ?_
          generalize World.setCells v4 g8 0 (vals 16 yx) = v5 at hS2 ⊢
          clear hK K hS hT0 h0
          have hS := hS2
          clear hS2
          refine wpAnyZ_done (by kernel_rfl) ?_ _
          go_wp2_with fail
          go_meet
          exact ⟨g7, g8, rfl, rfl, hS⟩
      · go_simp
        have hS2 := hS.fresh 35
        refine hK.out _ _ (fun _ => hS2.tail.tail) ?_
        clear hK K hS
        obtain ⟨g7, hn⟩ : ∃ g, Hid (g = v0.heap.size) := ⟨_, rfl⟩
        rw [← hn.out] at hS2 ⊢
        generalize World.alloc v0 (.cells (vals 16 fun _ => 0).toArray 35) = v1 at hS2 ⊢
        clear hn
        have hS := hS2
        clear hS2
        try simp only [Act.put, List.setIfInBounds_toArray, List.set_cons_zero, List.set_cons_succ]
        refine wpAnyZ_one (i := 2) (by kernel_rfl) rfl (fun K hK => ?_)
        go_simp
        go_at_call 22
        refine (mul_of x y _ ox oy).mono ?_
        rintro e v2 ⟨rfl, hb8⟩
        rw [← exy.out]
        go_wp2_with fail
        refine hK.out _ _ (fun _ => (hS.grow hb8).tail.tail) ?_
        replace hS := hS.grow hb8
        clear hK K hb8
        try simp only [Act.put, List.setIfInBounds_toArray, List.set_cons_zero, List.set_cons_succ]
        refine wpAnyZ_one (i := 5) (by kernel_rfl) rfl (fun K hK => ?_)
        go_simp
        go_at_call 22
        refine (mul_of y x _ oy ox).mono ?_
        rintro e v3 ⟨rfl, hb8⟩
        rw [← eyx.out]
        go_wp2_with fail
        refine hK.out _ _ (fun _ => (hS.grow hb8).tail.tail) ?_
        replace hS := hS.grow hb8
        clear hK K hb8
        try simp only [Act.put, List.setIfInBounds_toArray, List.set_cons_zero, List.set_cons_succ]
        refine wpAnyZ_one (i := 8) (by kernel_rfl) rfl (fun K hK => ?_)
        have h0 := hS.at (g := g7) (x := fun _ => 0) (by simp)
        have hT0 := h0.there
        have hS2 := hS.put0 xy
        rw [if_pos (by rfl)]
        refine wp_store_arr _ _ _ rfl g7 16 xy rfl rfl hT0 hib ?_
        try simp only [Act.put, List.setIfInBounds_toArray, List.set_cons_zero, List.set_cons_succ]
        refine hK.out _ _ (fun _ => hS2.tail.tail) ?_
        generalize World.setCells v3 g7 0 (vals 16 xy) = v4 at hS2 ⊢
        clear hK K hS hT0 h0
        have hS := hS2
        clear hS2
        refine wpAnyZ_one (i := 9) (by kernel_rfl) rfl (fun K hK => ?_)
        have h0 := hS.at (g := g8) (x := fun _ => 0) (by simp)
        have hT0 := h0.there
        have hS2 := hS.put1 yx
        rw [if_pos (by rfl)]
        refine wp_store_arr _ _ _ rfl g8 16 yx rfl rfl hT0 hib ?_
        try simp only [Act.put, List.setIfInBounds_toArray, List.set_cons_zero, List.set_cons_succ]
        refine hK.out _ _ (fun _ => hS2.tail.tail) ?_
        generalize World.setCells v4 g8 0 (vals 16 yx) = v5 at hS2 ⊢
        clear hK K hS hT0 h0
        have hS := hS2
        clear hS2
        refine wpAnyZ_done (by kernel_rfl) ?_ _
        go_wp2_with fail
        go_meet
        exact ⟨g7, g8, rfl, rfl, hS⟩
  case rest =>
    obtain ⟨g7, g8, rfl, rfl, hS⟩ := hcut
    go_upto_region 2 with fail
    go_cut [9, 10] (fun s9 s10 wx => ∃ g9 ga : Nat, s9 = .pointer (some ⟨g9, 0, none⟩) ∧ s10 = .pointer (some ⟨ga, 0, none⟩) ∧ Arn w ([(g9, lf), (ga, rt)] ++ ([(g7, xy), (g8, yx)] ++ [(w.heap.size + 1 + 1, z), (w.heap.size + 1, y), (w.heap.size, x)])) wx)
    case first =>
      have hSd := hS.grow (Below.refl _ _).drew
      refine wp_region_z (Arn w ([(g7, xy), (g8, yx)] ++ [(w.heap.size + 1 + 1, z), (w.heap.size + 1, y), (w.heap.size, x)])) 12 (by kernel_rfl) hSd (fun hS => ?_)
      clear hSd
      generalize World.drew _ = w9 at hS ⊢
      refine wpAnyZ_take (i := 0) rfl (by kernel_rfl) (by kernel_rfl) (by kernel_rfl) (by kernel_rfl) (fun _ _ _ h => h) hS (yieldsIf_load_mid (by kernel_rfl) 35 (.tmp 7) rfl g7 0 (by kernel_rfl) (vals 16 xy) _ (fun w hS => (hS.at (by simp)).range) hub rfl hib) ?_
      simp only [Act.put, List.setIfInBounds_toArray, List.set_cons_zero, List.set_cons_succ]
      refine wpAnyZ_take (i := 1) rfl (by kernel_rfl) (by kernel_rfl) (by kernel_rfl) (by kernel_rfl) (fun _ _ _ h => h) hS (yieldsIf_load_mid (by kernel_rfl) 35 (.tmp 5) rfl (w.heap.size + 1 + 1) 0 (by kernel_rfl) (vals 16 z) _ (fun w hS => (hS.at (by simp)).range) hub rfl hib) ?_
      simp only [Act.put, List.setIfInBounds_toArray, List.set_cons_zero, List.set_cons_succ]
      refine wpAnyZ_take (i := 3) rfl (by kernel_rfl) (by kernel_rfl) (by kernel_rfl) (by kernel_rfl) (fun _ _ _ h => h) hS (yieldsIf_load_mid (by kernel_rfl) 35 (.tmp 3) rfl w.heap.size 0 (by kernel_rfl) (vals 16 x) _ (fun w hS => (hS.at (by simp)).range) hub rfl hib) ?_
      simp only [Act.put, List.setIfInBounds_toArray, List.set_cons_zero, List.set_cons_succ]
      refine wpAnyZ_take (i := 4) rfl (by kernel_rfl) (by kernel_rfl) (by kernel_rfl) (by kernel_rfl) (fun _ _ _ h => h) hS (yieldsIf_load_mid (by kernel_rfl) 35 (.tmp 4) rfl (w.heap.size + 1) 0 (by kernel_rfl) (vals 16 y) _ (fun w hS => (hS.at (by simp)).range) hub rfl hib) ?_
      simp only [Act.put, List.setIfInBounds_toArray, List.set_cons_zero, List.set_cons_succ]
      refine wpAnyZ_take (i := 5) rfl (by kernel_rfl) (by kernel_rfl) (by kernel_rfl) (by kernel_rfl) (fun _ _ _ h => h) hS (yieldsIf_load_mid (by kernel_rfl) 35 (.tmp 5) rfl (w.heap.size + 1 + 1) 0 (by kernel_rfl) (vals 16 z) _ (fun w hS => (hS.at (by simp)).range) hub rfl hib) ?_
      simp only [Act.put, List.setIfInBounds_toArray, List.set_cons_zero, List.set_cons_succ]
      refine wpAnyZ_three (i := 2) (j := 8) (k := 9) (by kernel_rfl) rfl rfl rfl (fun K hK => ?_) (fun K hK => ?_) (fun K hK => ?_) 
      · go_simp
        go_at_call 22
        refine (mul_of xy z _ oxy oz).mono ?_
        rintro e v0 ⟨rfl, hb8⟩
        rw [← el1.out]
        go_wp2_with fail
        refine hK.out _ _ (fun _ => (hS.grow hb8)) ?_
        replace hS := hS.grow hb8
        clear hK K hb8
        try simp only [Act.put, List.setIfInBounds_toArray, List.set_cons_zero, List.set_cons_succ]
        refine wpAnyZ_three (i := 6) (j := 8) (k := 9) (by kernel_rfl) rfl rfl rfl (fun K hK => ?_) (fun K hK => ?_) (fun K hK => ?_) 
        · go_simp
          go_at_call 22
          refine (mul_of y z _ oy oz).mono ?_
          rintro e v1 ⟨rfl, hb8⟩
          rw [← eyz.out]
          go_wp2_with fail
          refine hK.out _ _ (fun _ => (hS.grow hb8)) ?_
          replace hS := hS.grow hb8
          clear hK K hb8
          try simp only [Act.put, List.setIfInBounds_toArray, List.set_cons_zero, List.set_cons_succ]
          refine wpAnyZ_three (i := 7) (j := 8) (k := 9) (by kernel_rfl) rfl rfl rfl (fun K hK => ?_) (fun K hK => ?_) (fun K hK => ?_) 
          · go_simp
            go_at_call 22
            refine (mul_of x yz _ ox oyz).mono ?_
            rintro e v2 ⟨rfl, hb8⟩
            rw [← er1.out]
            go_wp2_with fail
            refine hK.out _ _ (fun _ => (hS.grow hb8)) ?_
            replace hS := hS.grow hb8
            clear hK K hb8
            try simp only [Act.put, List.setIfInBounds_toArray, List.set_cons_zero, List.set_cons_succ]
            refine wpAnyZ_two (i := 8) (j := 9) (by kernel_rfl) rfl rfl (fun K hK => ?_) (fun K hK => ?_) 
            · go_simp
              have hS2 := hS.fresh 35
              refine hK.out _ _ (fun _ => hS2.tail) ?_
              clear hK K hS
              obtain ⟨g9, hn⟩ : ∃ g, Hid (g = v2.heap.size) := ⟨_, rfl⟩
              rw [← hn.out] at hS2 ⊢
              generalize World.alloc v2 (.cells (vals 16 fun _ => 0).toArray 35) = v3 at hS2 ⊢
              clear hn
              have hS := hS2
              clear hS2
              try simp only [Act.put, List.setIfInBounds_toArray, List.set_cons_zero, List.set_cons_succ]
              refine wpAnyZ_one (i := 9) (by kernel_rfl) rfl (fun K hK => ?_)
              go_simp
              have hS2 := hS.fresh 35
              refine hK.out _ _ (fun _ => hS2.tail.tail) ?_
              clear hK K hS
              obtain ⟨ga, hn⟩ : ∃ g, Hid (g = v3.heap.size) := ⟨_, rfl⟩
              rw [← hn.out] at hS2 ⊢
              generalize World.alloc v3 (.cells (vals 16 fun _ => 0).toArray 35) = v4 at hS2 ⊢
              clear hn
              have hS := hS2
              clear hS2
              try simp only [Act.put, List.setIfInBounds_toArray, List.set_cons_zero, List.set_cons_succ]
              refine wpAnyZ_one (i := 10) (by kernel_rfl) rfl (fun K hK => ?_)
              have h0 := hS.at (g := g9) (x := fun _ => 0) (by simp)
              have hT0 := h0.there
              have hS2 := hS.put1 lf
              rw [if_pos (by rfl)]
              refine wp_store_arr _ _ _ rfl g9 16 lf rfl rfl hT0 hib ?_
              try simp only [Act.put, List.setIfInBounds_toArray, List.set_cons_zero, List.set_cons_succ]
              refine hK.out _ _ (fun _ => hS2.tail.tail) ?_
              generalize World.setCells v4 g9 0 (vals 16 lf) = v5 at hS2 ⊢
              clear hK K hS hT0 h0
              have hS := hS2
              clear hS2
              refine wpAnyZ_one (i := 11) (by kernel_rfl) rfl (fun K hK => ?_)
              have h0 := hS.at (g := ga) (x := fun _ => 0) (by simp)
              have hT0 := h0.there
              have hS2 := hS.put0 rt
              rw [if_pos (by rfl)]
              refine wp_store_arr _ _ _ rfl ga 16 rt rfl rfl hT0 hib ?_
              try simp only [Act.put, List.setIfInBounds_toArray, List.set_cons_zero, List.set_cons_succ]
              refine hK.out _ _ (fun _ => hS2.tail.tail) ?_
              generalize World.setCells v5 ga 0 (vals 16 rt) = v6 at hS2 ⊢
              clear hK K hS hT0 h0
              have hS := hS2
              clear hS2
              refine wpAnyZ_done (by kernel_rfl) ?_ _
              go_wp2_with fail
              go_meet
              exact ⟨g9, ga, rfl, rfl, hS.swap⟩
            · go_simp
              have hS2 := hS.fresh 35
              refine hK.out _ _ (fun _ => hS2.tail) ?_
              clear hK K hS
              obtain ⟨ga, hn⟩ : ∃ g, Hid (g = v2.heap.size) := ⟨_, rfl⟩
              rw [← hn.out] at hS2 ⊢
              generalize World.alloc v2 (.cells (vals 16 fun _ => 0).toArray 35) = v3 at hS2 ⊢
              clear hn
              have hS := hS2
              clear hS2
              try simp only [Act.put, List.setIfInBounds_toArray, List.set_cons_zero, List.set_cons_succ]
              refine wpAnyZ_one (i := 8) (by kernel_rfl) rfl (fun K hK => ?_)
              go_simp
              have hS2 := hS.fresh 35
              refine hK.out _ _ (fun _ => hS2.tail.tail) ?_
              clear hK K hS
              obtain ⟨g9, hn⟩ : ∃ g, Hid (g = v3.heap.size) := ⟨_, rfl⟩
              rw [← hn.out] at hS2 ⊢
              generalize World.alloc v3 (.cells (vals 16 fun _ => 0).toArray 35) = v4 at hS2 ⊢
              clear hn
              have hS := hS2
              clear hS2
              try simp only [Act.put, List.setIfInBounds_toArray, List.set_cons_zero, List.set_cons_succ]
              refine wpAnyZ_one (i := 10) (by kernel_rfl) rfl (fun K hK => ?_)
              have h0 := hS.at (g := g9) (x := fun _ => 0) (by simp)
              have hT0 := h0.there
              have hS2 := hS.put0 lf
              rw [if_pos (by rfl)]
              refine wp_store_arr _ _ _ rfl g9 16 lf rfl rfl hT0 hib ?_
              try simp only [Act.put, List.setIfInBounds_toArray, List.set_cons_zero, List.set_cons_succ]
              refine hK.out _ _ (fun _ => hS2.tail.tail) ?_
              generalize World.setCells v4 g9 0 (vals 16 lf) = v5 at hS2 ⊢
              clear hK K hS hT0 h0
              have hS := hS2
              clear hS2
              refine wpAnyZ_one (i := 11) (by kernel_rfl) rfl (fun K hK => ?_)
              have h0 := hS.at (g := ga) (x := fun _ => 0) (by simp)
              have hT0 := h0.there
              have hS2 := hS.put1 rt
              rw [if_pos (by rfl)]
              refine wp_store_arr _ _ _ rfl ga 16 rt rfl rfl hT0 hib ?_
              try simp only [Act.put, List.setIfInBounds_toArray, List.set_cons_zero, List.set_cons_succ]
              refine hK.out _ _ (fun _ => hS2.tail.tail) ?_
              generalize World.setCells v5 ga 0 (vals 16 rt) = v6 at hS2 ⊢
              clear hK K hS hT0 h0
              have hS := hS2
              clear hS2
              refine wpAnyZ_done (by kernel_rfl) ?_ _
              go_wp2_with fail
              go_meet
              exact ⟨g9, ga, rfl, rfl, hS⟩
          · go_simp
            have hS2 := hS.fresh 35
            refine hK.out _ _ (fun _ => hS2.tail) ?_
            clear hK K hS
            obtain ⟨g9, hn⟩ : ∃ g, Hid (g = v1.heap.size) := ⟨_, rfl⟩
            rw [← hn.out] at hS2 ⊢
            generalize World.alloc v1 (.cells (vals 16 fun _ => 0).toArray 35) = v2 at hS2 ⊢
            clear hn
            have hS := hS2
            clear hS2
            try simp only [Act.put, List.setIfInBounds_toArray, List.set_cons_zero, List.set_cons_succ]
            refine wpAnyZ_two (i := 7) (j := 9) (by kernel_rfl) rfl rfl (fun K hK => ?_) (fun K hK => ?_) 
            · go_simp
              go_at_call 22
              refine (mul_of x yz _ ox oyz).mono ?_
              rintro e v3 ⟨rfl, hb8⟩
              rw [← er1.out]
              go_wp2_with fail
              refine hK.out _ _ (fun _ => (hS.grow hb8).tail) ?_
              replace hS := hS.grow hb8
              clear hK K hb8
              try simp only [Act.put, List.setIfInBounds_toArray, List.set_cons_zero, List.set_cons_succ]
              refine wpAnyZ_one (i := 9) (by kernel_rfl) rfl (fun K hK => ?_)
              go_simp
              have hS2 := hS.fresh 35
              refine hK.out _ _ (fun _ => hS2.tail.tail) ?_
              clear hK K hS
              obtain ⟨ga, hn⟩ : ∃ g, Hid (g = v3.heap.size) := ⟨_, rfl⟩
              rw [← hn.out] at hS2 ⊢
              generalize World.alloc v3 (.cells (vals 16 fun _ => 0).toArray 35) = v4 at hS2 ⊢
              clear hn
              have hS := hS2
              clear hS2
              try simp only [Act.put, List.setIfInBounds_toArray, List.set_cons_zero, List.set_cons_succ]
              refine wpAnyZ_one (i := 10) (by kernel_rfl) rfl (fun K hK => ?_)
              have h0 := hS.at (g := g9) (x := fun _ => 0) (by simp)
              have hT0 := h0.there
              have hS2 := hS.put1 lf
              rw [if_pos (by rfl)]
              refine wp_store_arr _ _ _ rfl g9 16 lf rfl rfl hT0 hib ?_
              try simp only [Act.put, List.setIfInBounds_toArray, List.set_cons_zero, List.set_cons_succ]
              refine hK.out _ _ (fun _ => hS2.tail.tail) ?_
              generalize World.setCells v4 g9 0 (vals 16 lf) = v5 at hS2 ⊢
              clear hK K hS hT0 h0
              have hS := hS2
              clear hS2
              refine wpAnyZ_one (i := 11) (by kernel_rfl) rfl (fun K hK => ?_)
              have h0 := hS.at (g := ga) (x := fun _ => 0) (by simp)
              have hT0 := h0.there
              have hS2 := hS.put0 rt
              rw [if_pos (by rfl)]
              refine wp_store_arr _ _ _ rfl ga 16 rt rfl rfl hT0 hib ?_
              try simp only [Act.put, List.setIfInBounds_toArray, List.set_cons_zero, List.set_cons_succ]
              refine hK.out _ _ (fun _ => hS2.tail.tail) ?_
              generalize World.setCells v5 ga 0 (vals 16 rt) = v6 at hS2 ⊢
              clear hK K hS hT0 h0
              have hS := hS2
              clear hS2
              refine wpAnyZ_done (by kernel_rfl) ?_ _
              go_wp2_with fail
              go_meet
              exact ⟨g9, ga, rfl, rfl, hS.swap⟩
            · go_simp
              have hS2 := hS.fresh 35
              refine hK.out _ _ (fun _ => hS2.tail.tail) ?_
              clear hK K hS
              obtain ⟨ga, hn⟩ : ∃ g, Hid (g = v2.heap.size) := ⟨_, rfl⟩
              rw [← hn.out] at hS2 ⊢
              generalize World.alloc v2 (.cells (vals 16 fun _ => 0).toArray 35) = v3 at hS2 ⊢
              clear hn
              have hS := hS2
              clear hS2
              try simp only [Act.put, List.setIfInBounds_toArray, List.set_cons_zero, List.set_cons_succ]
              refine wpAnyZ_one (i := 7) (by kernel_rfl) rfl (fun K hK => ?_)
              go_simp
              go_at_call 22
              refine (mul_of x yz _ ox oyz).mono ?_
              rintro e v4 ⟨rfl, hb8⟩
              rw [← er1.out]
              go_wp2_with fail
              refine hK.out _ _ (fun _ => (hS.grow hb8).tail.tail) ?_
              replace hS := hS.grow hb8
              clear hK K hb8
              try simp only [Act.put, List.setIfInBounds_toArray, List.set_cons_zero, List.set_cons_succ]
              refine wpAnyZ_one (i := 10) (by kernel_rfl) rfl (fun K hK => ?_)
              have h0 := hS.at (g := g9) (x := fun _ => 0) (by simp)
              have hT0 := h0.there
              have hS2 := hS.put1 lf
              rw [if_pos (by rfl)]
              refine wp_store_arr _ _ _ rfl g9 16 lf rfl rfl hT0 hib ?_
              try simp only [Act.put, List.setIfInBounds_toArray, List.set_cons_zero, List.set_cons_succ]
              refine hK.out _ _ (fun _ => hS2.tail.tail) ?_
              generalize World.setCells v4 g9 0 (vals 16 lf) = v5 at hS2 ⊢
              clear hK K hS hT0 h0
              have hS := hS2
              clear hS2
              refine wpAnyZ_one (i := 11) (by kernel_rfl) rfl (fun K hK => ?_)
              have h0 := hS.at (g := ga) (x := fun _ => 0) (by simp)
              have hT0 := h0.there
              have hS2 := hS.put0 rt
              rw [if_pos (by rfl)]
              refine wp_store_arr _ _ _ rfl ga 16 rt rfl rfl hT0 hib ?_
              try simp only [Act.put, List.setIfInBounds_toArray, List.set_cons_zero, List.set_cons_succ]
              refine hK.out _ _ (fun _ => hS2.tail.tail) ?_
              generalize World.setCells v5 ga 0 (vals 16 rt) = v6 at hS2 ⊢
              clear hK K hS hT0 h0
              have hS := hS2
              clear hS2
              refine wpAnyZ_done (by kernel_rfl) ?_ _
              go_wp2_with fail
              go_meet
              exact ⟨g9, ga, rfl, rfl, hS.swap⟩
          · go_simp
            have hS2 := hS.fresh 35
            refine hK.out _ _ (fun _ => hS2.tail) ?_
            clear hK K hS
            obtain ⟨ga, hn⟩ : ∃ g, Hid (g = v1.heap.size) := ⟨_, rfl⟩
            rw [← hn.out] at hS2 ⊢
            generalize World.alloc v1 (.cells (vals 16 fun _ => 0).toArray 35) = v2 at hS2 ⊢
            clear hn
            have hS := hS2
            clear hS2
            try simp only [Act.put, List.setIfInBounds_toArray, List.set_cons_zero, List.set_cons_succ]
            refine wpAnyZ_two (i := 7) (j := 8) (by kernel_rfl) rfl rfl (fun K hK => ?_) (fun K hK => ?_) 
            · go_simp
              go_at_call 22
              refine (mul_of x yz _ ox oyz).mono ?_
              rintro e v3 ⟨rfl, hb8⟩
              rw [← er1.out]
              go_wp2_with fail
              refine hK.out _ _ (fun _ => (hS.grow hb8).tail) ?_
              replace hS := hS.grow hb8
              clear hK K hb8
              try simp only [Act.put, List.setIfInBounds_toArray, List.set_cons_zero, List.set_cons_succ]
              refine wpAnyZ_one (i := 8) (by kernel_rfl) rfl (fun K hK => ?_)
              go_simp
              have hS2 := hS.fresh 35
              refine hK.out _ _ (fun _ => hS2.tail.tail) ?_
              clear hK K hS
              obtain ⟨g9, hn⟩ : ∃ g, Hid (g = v3.heap.size) := ⟨_, rfl⟩
              rw [← hn.out] at hS2 ⊢
              generalize World.alloc v3 (.cells (vals 16 fun _ => 0).toArray 35) = v4 at hS2 ⊢
              clear hn
              have hS := hS2
              clear hS2
              try simp only [Act.put, List.setIfInBounds_toArray, List.set_cons_zero, List.set_cons_succ]
              refine wpAnyZ_one (i := 10) (by kernel_rfl) rfl (fun K hK => ?_)
              have h0 := hS.at (g := g9) (x := fun _ => 0) (by simp)
              have hT0 := h0.there
              have hS2 := hS.put0 lf
              rw [if_pos (by rfl)]
              refine wp_store_arr _ _ _ rfl g9 16 lf rfl rfl hT0 hib ?_
              try simp only [Act.put, List.setIfInBounds_toArray, List.set_cons_zero, List.set_cons_succ]
              refine hK.out _ _ (fun _ => hS2.tail.tail) ?_
              generalize World.setCells v4 g9 0 (vals 16 lf) = v5 at hS2 ⊢
              clear hK K hS hT0 h0
              have hS := hS2
              clear hS2
              refine wpAnyZ_one (i := 11) (by kernel_rfl) rfl (fun K hK => ?_)
              have h0 := hS.at (g := ga) (x := fun _ => 0) (by simp)
              have hT0 := h0.there
              have hS2 := hS.put1 rt
              rw [if_pos (by rfl)]
              refine wp_store_arr _ _ _ rfl ga 16 rt rfl rfl hT0 hib ?_
              try simp only [Act.put, List.setIfInBounds_toArray, List.set_cons_zero, List.set_cons_succ]
              refine hK.out _ _ (fun _ => hS2.tail.tail) ?_
              generalize World.setCells v5 ga 0 (vals 16 rt) = v6 at hS2 ⊢
              clear hK K hS hT0 h0
              have hS := hS2
              clear hS2
              refine wpAnyZ_done (by kernel_rfl) ?_ _
              go_wp2_with fail
              go_meet
              exact ⟨g9, ga, rfl, rfl, hS⟩
            · go_simp
              have hS2 := hS.fresh 35
              refine hK.out _ _ (fun _ => hS2.tail.tail) ?_
              clear hK K hS
              obtain ⟨g9, hn⟩ : ∃ g, Hid (g = v2.heap.size) := ⟨_, rfl⟩
              rw [← hn.out] at hS2 ⊢
              generalize World.alloc v2 (.cells (vals 16 fun _ => 0).toArray 35) = v3 at hS2 ⊢
              clear hn
              have hS := hS2
              clear hS2
              try simp only [Act.put, List.setIfInBounds_toArray, List.set_cons_zero, List.set_cons_succ]
              refine wpAnyZ_one (i := 7) (by kernel_rfl) rfl (fun K hK => ?_)
              go_simp
              go_at_call 22
              refine (mul_of x yz _ ox oyz).mono ?_
              rintro e v4 ⟨rfl, hb8⟩
              rw [← er1.out]
              go_wp2_with fail
              refine hK.out _ _ (fun _ => (hS.grow hb8).tail.tail) ?_
              replace hS := hS.grow hb8
              clear hK K hb8
              try simp only [Act.put, List.setIfInBounds_toArray, List.set_cons_zero, List.set_cons_succ]
              refine wpAnyZ_one (i := 10) (by kernel_rfl) rfl (fun K hK => ?_)
              have h0 := hS.at (g := g9) (x := fun _ => 0) (by simp)
              have hT0 := h0.there
              have hS2 := hS.put0 lf
              rw [if_pos (by rfl)]
              refine wp_store_arr _ _ _ rfl g9 16 lf rfl rfl hT0 hib ?_
              try simp only [Act.put, List.setIfInBounds_toArray, List.set_cons_zero, List.set_cons_succ]
              refine hK.out _ _ (fun _ => hS2.tail.tail) ?_
              generalize World.setCells v4 g9 0 (vals 16 lf) = v5 at hS2 ⊢
              clear hK K hS hT0 h0
              have hS := hS2
              clear hS2
              refine wpAnyZ_one (i := 11) (by kernel_rfl) rfl (fun K hK => ?_)
              have h0 := hS.at (g := ga) (x := fun _ => 0) (by simp)
              have hT0 := h0.there
              have hS2 := hS.put1 rt
              rw [if_pos (by rfl)]
              refine wp_store_arr _ _ _ rfl ga 16 rt rfl rfl hT0 hib ?_
              try simp only [Act.put, List.setIfInBounds_toArray, List.set_cons_zero, List.set_cons_succ]
              refine hK.out _ _ (fun _ => hS2.tail.tail) ?_
              generalize World.setCells v5 ga 0 (vals 16 rt) = v6 at hS2 ⊢
              clear hK K hS hT0 h0
              have hS := hS2
              clear hS2
              refine wpAnyZ_done (by kernel_rfl) ?_ _
              go_wp2_with fail
              go_meet
              exact ⟨g9, ga, rfl, rfl, hS⟩
        · go_simp
          have hS2 := hS.fresh 35
          refine hK.out _ _ (fun _ => hS2.tail) ?_
          clear hK K hS
          obtain ⟨g9, hn⟩ : ∃ g, Hid (g = v0.heap.size) := ⟨_, rfl⟩
          rw [← hn.out] at hS2 ⊢
          generalize World.alloc v0 (.cells (vals 16 fun _ => 0).toArray 35) = v1 at hS2 ⊢
          clear hn
          have hS := hS2
          clear hS2
          try simp only [Act.put, List.setIfInBounds_toArray, List.set_cons_zero, List.set_cons_succ]
          refine wpAnyZ_two (i := 6) (j := 9) (by kernel_rfl) rfl rfl (fun K hK => ?_) (fun K hK => ?_) 
          · go_simp
            go_at_call 22
            refine (mul_of y z _ oy oz).mono ?_
            rintro e v2 ⟨rfl, hb8⟩
            rw [← eyz.out]
            go_wp2_with fail
            refine hK.out _ _ (fun _ => (hS.grow hb8).tail) ?_
            replace hS := hS.grow hb8
            clear hK K hb8
            try simp only [Act.put, List.setIfInBounds_toArray, List.set_cons_zero, List.set_cons_succ]
            refine wpAnyZ_two (i := 7) (j := 9) (by kernel_rfl) rfl rfl (fun K hK => ?_) (fun K hK => ?_) 
            · go_simp
              go_at_call 22
              refine (mul_of x yz _ ox oyz).mono ?_
              rintro e v3 ⟨rfl, hb8⟩
              rw [← er1.out]
              go_wp2_with fail
              refine hK.out _ _ (fun _ => (hS.grow hb8).tail) ?_
              replace hS := hS.grow hb8
              clear hK K hb8
              try simp only [Act.put, List.setIfInBounds_toArray, List.set_cons_zero, List.set_cons_succ]
              refine wpAnyZ_one (i := 9) (by kernel_rfl) rfl (fun K hK => ?_)
              go_simp
              have hS2 := hS.fresh 35
              refine hK.out _ _ (fun _ => hS2.tail.tail) ?_
              clear hK K hS
              obtain ⟨ga, hn⟩ : ∃ g, Hid (g = v3.heap.size) := ⟨_, rfl⟩
              rw [← hn.out] at hS2 ⊢
              generalize World.alloc v3 (.cells (vals 16 fun _ => 0).toArray 35) = v4 at hS2 ⊢
              clear hn
              have hS := hS2
              clear hS2
              try simp only [Act.put, List.setIfInBounds_toArray, List.set_cons_zero, List.set_cons_succ]
              refine wpAnyZ_one (i := 10) (by kernel_rfl) rfl (fun K hK => ?_)
              have h0 := hS.at (g := g9) (x := fun _ => 0) (by simp)
              have hT0 := h0.there
              have hS2 := hS.put1 lf
              rw [if_pos (by rfl)]
              refine wp_store_arr _ _ _ rfl g9 16 lf rfl rfl hT0 hib ?_
              try simp only [Act.put, List.setIfInBounds_toArray, List.set_cons_zero, List.set_cons_succ]
              refine hK.out _ _ (fun _ => hS2.tail.tail) ?_
              generalize World.setCells v4 g9 0 (vals 16 lf) = v5 at hS2 ⊢
              clear hK K hS hT0 h0
              have hS := hS2
              clear hS2
              refine wpAnyZ_one (i := 11) (by kernel_rfl) rfl (fun K hK => ?_)
              have h0 := hS.at (g := ga) (x := fun _ => 0) (by simp)
              have hT0 := h0.there
              have hS2 := hS.put0 rt
              rw [if_pos (by rfl)]
              refine wp_store_arr _ _ _ rfl ga 16 rt rfl rfl hT0 hib ?_
              try simp only [Act.put, List.setIfInBounds_toArray, List.set_cons_zero, List.set_cons_succ]
              refine hK.out _ _ (fun _ => hS2.tail.tail) ?_
              generalize World.setCells v5 ga 0 (vals 16 rt) = v6 at hS2 ⊢
              clear hK K hS hT0 h0
              have hS := hS2
              clear hS2
              refine wpAnyZ_done (by kernel_rfl) ?_ _
              go_wp2_with fail
              go_meet
              exact ⟨g9, ga, rfl, rfl, hS.swap⟩
            · go_simp
              have hS2 := hS.fresh 35
              refine hK.out _ _ (fun _ => hS2.tail.tail) ?_
              clear hK K hS
              obtain ⟨ga, hn⟩ : ∃ g, Hid (g = v2.heap.size) := ⟨_, rfl⟩
              rw [← hn.out] at hS2 ⊢
              generalize World.alloc v2 (.cells (vals 16 fun _ => 0).toArray 35) = v3 at hS2 ⊢
              clear hn
              have hS := hS2
              clear hS2
              try simp only [Act.put, List.setIfInBounds_toArray, List.set_cons_zero, List.set_cons_succ]
              refine wpAnyZ_one (i := 7) (by kernel_rfl) rfl (fun K hK => ?_)
              go_simp
              go_at_call 22
              refine (mul_of x yz _ ox oyz).mono ?_
              rintro e v4 ⟨rfl, hb8⟩
              rw [← er1.out]
              go_wp2_with fail
              refine hK.out _ _ (fun _ => (hS.grow hb8).tail.tail) ?_
              replace hS := hS.grow hb8
              clear hK K hb8
              try simp only [Act.put, List.setIfInBounds_toArray, List.set_cons_zero, List.set_cons_succ]
              refine wpAnyZ_one (i := 10) (by kernel_rfl) rfl (fun K hK => ?_)
              have h0 := hS.at (g := g9) (x := fun _ => 0) (by simp)
              have hT0 := h0.there
              have hS2 := hS.put1 lf
              rw [if_pos (by rfl)]
              refine wp_store_arr _ _ _ rfl g9 16 lf rfl rfl hT0 hib ?_
              try simp only [Act.put, List.setIfInBounds_toArray, List.set_cons_zero, List.set_cons_succ]
              refine hK.out _ _ (fun _ => hS2.tail.tail) ?_
              generalize World.setCells v4 g9 0 (vals 16 lf) = v5 at hS2 ⊢
              clear hK K hS hT0 h0
              have hS := hS2
              clear hS2
              refine wpAnyZ_one (i := 11) (by kernel_rfl) rfl (fun K hK => ?_)
              have h0 := hS.at (g := ga) (x := fun _ => 0) (by simp)
              have hT0 := h0.there
              have hS2 := hS.put0 rt
              rw [if_pos (by rfl)]
              refine wp_store_arr _ _ _ rfl ga 16 rt rfl rfl hT0 hib ?_
              try simp only [Act.put, List.setIfInBounds_toArray, List.set_cons_zero, List.set_cons_succ]
              refine hK.out _ _ (fun _ => hS2.tail.tail) ?_
              generalize World.setCells v5 ga 0 (vals 16 rt) = v6 at hS2 ⊢
              clear hK K hS hT0 h0
              have hS := hS2
              clear hS2
              refine wpAnyZ_done (by kernel_rfl) ?_ _
              go_wp2_with fail
              go_meet
              exact ⟨g9, ga, rfl, rfl, hS.swap⟩
          · go_simp
            have hS2 := hS.fresh 35
            refine hK.out _ _ (fun _ => hS2.tail.tail) ?_
            clear hK K hS
            obtain ⟨ga, hn⟩ : ∃ g, Hid (g = v1.heap.size) := ⟨_, rfl⟩
            rw [← hn.out] at hS2 ⊢
            generalize World.alloc v1 (.cells (vals 16 fun _ => 0).toArray 35) = v2 at hS2 ⊢
            clear hn
            have hS := hS2
            clear hS2
            try simp only [Act.put, List.setIfInBounds_toArray, List.set_cons_zero, List.set_cons_succ]
            refine wpAnyZ_one (i := 6) (by kernel_rfl) rfl (fun K hK => ?_)
            go_simp
            go_at_call 22
            refine (mul_of y z _ oy oz).mono ?_
            rintro e v3 ⟨rfl, hb8⟩
            rw [← eyz.out]
            go_wp2_with fail
            refine hK.out _ _ (fun _ => (hS.grow hb8).tail.tail) ?_
            replace hS := hS.grow hb8
            clear hK K hb8
            try simp only [Act.put, List.setIfInBounds_toArray, List.set_cons_zero, List.set_cons_succ]
            refine wpAnyZ_one (i := 7) (by kernel_rfl) rfl (fun K hK => ?_)
            go_simp
            go_at_call 22
            refine (mul_of x yz _ ox oyz).mono ?_
            rintro e v4 ⟨rfl, hb8⟩
            rw [← er1.out]
            go_wp2_with fail
            refine hK.out _ _ (fun _ => (hS.grow hb8).tail.tail) ?_
            replace hS := hS.grow hb8
            clear hK K hb8
            try simp only [Act.put, List.setIfInBounds_toArray, List.set_cons_zero, List.set_cons_succ]
            refine wpAnyZ_one (i := 10) (by kernel_rfl) rfl (fun K hK => ?_)
            have h0 := hS.at (g := g9) (x := fun _ => 0) (by simp)
            have hT0 := h0.there
            have hS2 := hS.put1 lf
            rw [if_pos (by rfl)]
            refine wp_store_arr _ _ _ rfl g9 16 lf rfl rfl hT0 hib ?_
            try simp only [Act.put, List.setIfInBounds_toArray, List.set_cons_zero, List.set_cons_succ]
            refine hK.out _ _ (fun _ => hS2.tail.tail) ?_
            generalize World.setCells v4 g9 0 (vals 16 lf) = v5 at hS2 ⊢
            clear hK K hS hT0 h0
            have hS := hS2
            clear hS2
            refine wpAnyZ_one (i := 11) (by kernel_rfl) rfl (fun K hK => ?_)
            have h0 := hS.at (g := ga) (x := fun _ => 0) (by simp)
            have hT0 := h0.there
            have hS2 := hS.put0 rt
            rw [if_pos (by rfl)]
            refine wp_store_arr _ _ _ rfl ga 16 rt rfl rfl hT0 hib ?_
            try simp only [Act.put, List.setIfInBounds_toArray, List.set_cons_zero, List.set_cons_succ]
            refine hK.out _ _ (fun _ => hS2.tail.tail) ?_
            generalize World.setCells v5 ga 0 (vals 16 rt) = v6 at hS2 ⊢
            clear hK K hS hT0 h0
            have hS := hS2
            clear hS2
            refine wpAnyZ_done (by kernel_rfl) ?_ _
            go_wp2_with fail
            go_meet
            exact ⟨g9, ga, rfl, rfl, hS.swap⟩
        · go_simp
          have hS2 := hS.fresh 35
          refine hK.out _ _ (fun _ => hS2.tail) ?_
          clear hK K hS
          obtain ⟨ga, hn⟩ : ∃ g, Hid (g = v0.heap.size) := ⟨_, rfl⟩
          rw [← hn.out] at hS2 ⊢
          generalize World.alloc v0 (.cells (vals 16 fun _ => 0).toArray 35) = v1 at hS2 ⊢
          clear hn
          have hS := hS2
          clear hS2
          try simp only [Act.put, List.setIfInBounds_toArray, List.set_cons_zero, List.set_cons_succ]
          refine wpAnyZ_two (i := 6) (j := 8) (by kernel_rfl) rfl rfl (fun K hK => ?_) (fun K hK => ?_) 
          · go_simp
            go_at_call 22
            refine (mul_of y z _ oy oz).mono ?_
            rintro e v2 ⟨rfl, hb8⟩
            rw [← eyz.out]
            go_wp2_with fail
            refine hK.out _ _ (fun _ => (hS.grow hb8).tail) ?_
            replace hS := hS.grow hb8
            clear hK K hb8
            try simp only [Act.put, List.setIfInBounds_toArray, List.set_cons_zero, List.set_cons_succ]
            refine wpAnyZ_two (i := 7) (j := 8) (by kernel_rfl) rfl rfl (fun K hK => ?_) (fun K hK => ?_) 
            · go_simp
              go_at_call 22
              refine (mul_of x yz _ ox oyz).mono ?_
              rintro e v3 ⟨rfl, hb8⟩
              rw [← er1.out]
              go_wp2_with fail
              refine hK.out _ _ (fun _ => (hS.grow hb8).tail) ?_
              replace hS := hS.grow hb8
              clear hK K hb8
              try simp only [Act.put, List.setIfInBounds_toArray, List.set_cons_zero, List.set_cons_succ]
              refine wpAnyZ_one (i := 8) (by kernel_rfl) rfl (fun K hK => ?_)
              go_simp
              have hS2 := hS.fresh 35
              refine hK.out _ _ (fun _ => hS2.tail.tail) ?_
              clear hK K hS
              obtain ⟨g9, hn⟩ : ∃ g, Hid (g = v3.heap.size) := ⟨_, rfl⟩
              rw [← hn.out] at hS2 ⊢
              generalize World.alloc v3 (.cells (vals 16 fun _ => 0).toArray 35) = v4 at hS2 ⊢
              clear hn
              have hS := hS2
              clear hS2
              try simp only [Act.put, List.setIfInBounds_toArray, List.set_cons_zero, List.set_cons_succ]
              refine wpAnyZ_one (i := 10) (by kernel_rfl) rfl (fun K hK => ?_)
              have h0 := hS.at (g := g9) (x := fun _ => 0) (by simp)
              have hT0 := h0.there
              have hS2 := hS.put0 lf
              rw [if_pos (by rfl)]
              refine wp_store_arr _ _ _ rfl g9 16 lf rfl rfl hT0 hib ?_
              try simp only [Act.put, List.setIfInBounds_toArray, List.set_cons_zero, List.set_cons_succ]
              refine hK.out _ _ (fun _ => hS2.tail.tail) ?_
              generalize World.setCells v4 g9 0 (vals 16 lf) = v5 at hS2 ⊢
              clear hK K hS hT0 h0
              have hS := hS2
              clear hS2
              refine wpAnyZ_one (i := 11) (by kernel_rfl) rfl (fun K hK => ?_)
              have h0 := hS.at (g := ga) (x := fun _ => 0) (by simp)
              have hT0 := h0.there
              have hS2 := hS.put1 rt
              rw [if_pos (by rfl)]
              refine wp_store_arr _ _ _ rfl ga 16 rt rfl rfl hT0 hib ?_
              try simp only [Act.put, List.setIfInBounds_toArray, List.set_cons_zero, List.set_cons_succ]
              refine hK.out _ _ (fun _ => hS2.tail.tail) ?_
              generalize World.setCells v5 ga 0 (vals 16 rt) = v6 at hS2 ⊢
              clear hK K hS hT0 h0
              have hS := hS2
              clear hS2
              refine wpAnyZ_done (by kernel_rfl) ?_ _
              go_wp2_with fail
              go_meet
              exact ⟨g9, ga, rfl, rfl, hS⟩
            · go_simp
              have hS2 := hS.fresh 35
              refine hK.out _ _ (fun _ => hS2.tail.tail) ?_
              clear hK K hS
              obtain ⟨g9, hn⟩ : ∃ g, Hid (g = v2.heap.size) := ⟨_, rfl⟩
              rw [← hn.out] at hS2 ⊢
              generalize World.alloc v2 (.cells (vals 16 fun _ => 0).toArray 35) = v3 at hS2 ⊢
              clear hn
              have hS := hS2
              clear hS2
              try simp only [Act.put, List.setIfInBounds_toArray, List.set_cons_zero, List.set_cons_succ]
              refine wpAnyZ_one (i := 7) (by kernel_rfl) rfl (fun K hK => ?_)
              go_simp
              go_at_call 22
              refine (mul_of x yz _ ox oyz).mono ?_
              rintro e v4 ⟨rfl, hb8⟩
              rw [← er1.out]
              go_wp2_with fail
              refine hK.out _ _ (fun _ => (hS.grow hb8).tail.tail) ?_
              replace hS := hS.grow hb8
              clear hK K hb8
              try simp only [Act.put, List.setIfInBounds_toArray, List.set_cons_zero, List.set_cons_succ]
              refine wpAnyZ_one (i := 10) (by kernel_rfl) rfl (fun K hK => ?_)
              have h0 := hS.at (g := g9) (x := fun _ => 0) (by simp)
              have hT0 := h0.there
              have hS2 := hS.put0 lf
              rw [if_pos (by rfl)]
              refine wp_store_arr _ _ _ rfl g9 16 lf rfl rfl hT0 hib ?_
              try simp only [Act.put, List.setIfInBounds_toArray, List.set_cons_zero, List.set_cons_succ]
              refine hK.out _ _ (fun _ => hS2.tail.tail) ?_
              generalize World.setCells v4 g9 0 (vals 16 lf) = v5 at hS2 ⊢
              clear hK K hS hT0 h0
              have hS := hS2
              clear hS2
              refine wpAnyZ_one (i := 11) (by kernel_rfl) rfl (fun K hK => ?_)
              have h0 := hS.at (g := ga) (x := fun _ => 0) (by simp)
              have hT0 := h0.there
              have hS2 := hS.put1 rt
              rw [if_pos (by rfl)]
              refine wp_store_arr _ _ _ rfl ga 16 rt rfl rfl hT0 hib ?_
              try simp only [Act.put, List.setIfInBounds_toArray, List.set_cons_zero, List.set_cons_succ]
              refine hK.out _ _ (fun _ => hS2.tail.tail) ?_
              generalize World.setCells v5 ga 0 (vals 16 rt) = v6 at hS2 ⊢
              clear hK K hS hT0 h0
              have hS := hS2
              clear hS2
              refine wpAnyZ_done (by kernel_rfl) ?_ _
              go_wp2_with fail
              go_meet
              exact ⟨g9, ga, rfl, rfl, hS⟩
          · go_simp
            have hS2 := hS.fresh 35
            refine hK.out _ _ (fun _ => hS2.tail.tail) ?_
            clear hK K hS
            obtain ⟨g9, hn⟩ : ∃ g, Hid (g = v1.heap.size) := ⟨_, rfl⟩
            rw [← hn.out] at hS2 ⊢
            generalize World.alloc v1 (.cells (vals 16 fun _ => 0).toArray 35) = v2 at hS2 ⊢
            clear hn
            have hS := hS2
            clear hS2
            try simp only [Act.put, List.setIfInBounds_toArray, List.set_cons_zero, List.set_cons_succ]
            refine wpAnyZ_one (i := 6) (by kernel_rfl) rfl (fun K hK => ?_)
            go_simp
            go_at_call 22
            refine (mul_of y z _ oy oz).mono ?_
            rintro e v3 ⟨rfl, hb8⟩
            rw [← eyz.out]
            go_wp2_with fail
            refine hK.out _ _ (fun _ => (hS.grow hb8).tail.tail) ?_
            replace hS := hS.grow hb8
            clear hK K hb8
            try simp only [Act.put, List.setIfInBounds_toArray, List.set_cons_zero, List.set_cons_succ]
            refine wpAnyZ_one (i := 7) (by kernel_rfl) rfl (fun K hK => ?_)
            go_simp
            go_at_call 22
            refine (mul_of x yz _ ox oyz).mono ?_
            rintro e v4 ⟨rfl, hb8⟩
            rw [← er1.out]
            go_wp2_with fail
            refine hK.out _ _ (fun _ => (hS.grow hb8).tail.tail) ?_
            replace hS := hS.grow hb8
            clear hK K hb8
            try simp only [Act.put, List.setIfInBounds_toArray, List.set_cons_zero, List.set_cons_succ]
            refine wpAnyZ_one (i := 10) (by kernel_rfl) rfl (fun K hK => ?_)
            have h0 := hS.at (g := g9) (x := fun _ => 0) (by simp)
            have hT0 := h0.there
            have hS2 := hS.put0 lf
            rw [if_pos (by rfl)]
            refine wp_store_arr _ _ _ rfl g9 16 lf rfl rfl hT0 hib ?_
            try simp only [Act.put, List.setIfInBounds_toArray, List.set_cons_zero, List.set_cons_succ]
            refine hK.out _ _ (fun _ => hS2.tail.tail) ?_
            generalize World.setCells v4 g9 0 (vals 16 lf) = v5 at hS2 ⊢
            clear hK K hS hT0 h0
            have hS := hS2
            clear hS2
            refine wpAnyZ_one (i := 11) (by kernel_rfl) rfl (fun K hK => ?_)
            have h0 := hS.at (g := ga) (x := fun _ => 0) (by simp)
            have hT0 := h0.there
            have hS2 := hS.put1 rt
            rw [if_pos (by rfl)]
            refine wp_store_arr _ _ _ rfl ga 16 rt rfl rfl hT0 hib ?_
            try simp only [Act.put, List.setIfInBounds_toArray, List.set_cons_zero, List.set_cons_succ]
            refine hK.out _ _ (fun _ => hS2.tail.tail) ?_
            generalize World.setCells v5 ga 0 (vals 16 rt) = v6 at hS2 ⊢
            clear hK K hS hT0 h0
            have hS := hS2
            clear hS2
            refine wpAnyZ_done (by kernel_rfl) ?_ _
            go_wp2_with fail
            go_meet
            exact ⟨g9, ga, rfl, rfl, hS⟩
      · go_simp
        have hS2 := hS.fresh 35
        refine hK.out _ _ (fun _ => hS2.tail) ?_
        clear hK K hS
        obtain ⟨g9, hn⟩ : ∃ g, Hid (g = w9.heap.size) := ⟨_, rfl⟩
        rw [← hn.out] at hS2 ⊢
        generalize World.alloc w9 (.cells (vals 16 fun _ => 0).toArray 35) = v0 at hS2 ⊢
        clear hn
        have hS := hS2
        clear hS2
        try simp only [Act.put, List.setIfInBounds_toArray, List.set_cons_zero, List.set_cons_succ]
        refine wpAnyZ_two (i := 2) (j := 9) (by kernel_rfl) rfl rfl (fun K hK => ?_) (fun K hK => ?_) 
        · go_simp
          go_at_call 22
          refine (mul_of xy z _ oxy oz).mono ?_
          rintro e v1 ⟨rfl, hb8⟩
          rw [← el1.out]
          go_wp2_with fail
          refine hK.out _ _ (fun _ => (hS.grow hb8).tail) ?_
          replace hS := hS.grow hb8
          clear hK K hb8
          try simp only [Act.put, List.setIfInBounds_toArray, List.set_cons_zero, List.set_cons_succ]
          refine wpAnyZ_two (i := 6) (j := 9) (by kernel_rfl) rfl rfl (fun K hK => ?_) (fun K hK => ?_) 
          · go_simp
            go_at_call 22
            refine (mul_of y z _ oy oz).mono ?_
            rintro e v2 ⟨rfl, hb8⟩
            rw [← eyz.out]
            go_wp2_with fail
            refine hK.out _ _ (fun _ => (hS.grow hb8).tail) ?_
            replace hS := hS.grow hb8
            clear hK K hb8
            try simp only [Act.put, List.setIfInBounds_toArray, List.set_cons_zero, List.set_cons_succ]
            refine wpAnyZ_two (i := 7) (j := 9) (by kernel_rfl) rfl rfl (fun K hK => ?_) (fun K hK => ?_) 
            · go_simp
              go_at_call 22
              refine (mul_of x yz _ ox oyz).mono ?_
              rintro e v3 ⟨rfl, hb8⟩
              rw [← er1.out]
              go_wp2_with fail
              refine hK.out _ _ (fun _ => (hS.grow hb8).tail) ?_
              replace hS := hS.grow hb8
              clear hK K hb8
              try simp only [Act.put, List.setIfInBounds_toArray, List.set_cons_zero, List.set_cons_succ]
              refine wpAnyZ_one (i := 9) (by kernel_rfl) rfl (fun K hK => ?_)
              go_simp
              have hS2 := hS.fresh 35
              refine hK.out _ _ (fun _ => hS2.tail.tail) ?_
              clear hK K hS
              obtain ⟨ga, hn⟩ : ∃ g, Hid (g = v3.heap.size) := ⟨_, rfl⟩
              rw [← hn.out] at hS2 ⊢
              generalize World.alloc v3 (.cells (vals 16 fun _ => 0).toArray 35) = v4 at hS2 ⊢
              clear hn
              have hS := hS2
              clear hS2
              try simp only [Act.put, List.setIfInBounds_toArray, List.set_cons_zero, List.set_cons_succ]
              refine wpAnyZ_one (i := 10) (by kernel_rfl) rfl (fun K hK => ?_)
              have h0 := hS.at (g := g9) (x := fun _ => 0) (by simp)
              have hT0 := h0.there
              have hS2 := hS.put1 lf
              rw [if_pos (by rfl)]
              refine wp_store_arr _ _ _ rfl g9 16 lf rfl rfl hT0 hib ?_
              try simp only [Act.put, List.setIfInBounds_toArray, List.set_cons_zero, List.set_cons_succ]
              refine hK.out _ _ (fun _ => hS2.tail.tail) ?_
              generalize World.setCells v4 g9 0 (vals 16 lf) = v5 at hS2 ⊢
              clear hK K hS hT0 h0
              have hS := hS2
              clear hS2
              refine wpAnyZ_one (i := 11) (by kernel_rfl) rfl (fun K hK => ?_)
              have h0 := hS.at (g := ga) (x := fun _ => 0) (by simp)
              have hT0 := h0.there
              have hS2 := hS.put0 rt
              rw [if_pos (by rfl)]
              refine wp_store_arr _ _ _ rfl ga 16 rt rfl rfl hT0 hib ?_
              try simp only [Act.put, List.setIfInBounds_toArray, List.set_cons_zero, List.set_cons_succ]
              refine hK.out _ _ (fun _ => hS2.tail.tail) ?_
              generalize World.setCells v5 ga 0 (vals 16 rt) = v6 at hS2 ⊢
              clear hK K hS hT0 h0
              have hS := hS2
              clear hS2
              refine wpAnyZ_done (by kernel_rfl) ?_ _
              go_wp2_with fail
              go_meet
              exact ⟨g9, ga, rfl, rfl, hS.swap⟩
            · go_simp
              have hS2 := hS.fresh 35
              refine hK.out _ _ (fun _ => hS2.tail.tail) ?_
              clear hK K hS
              obtain ⟨ga, hn⟩ : ∃ g, Hid (g = v2.heap.size) := ⟨_, rfl⟩
              rw [← hn.out] at hS2 ⊢
              generalize World.alloc v2 (.cells (vals 16 fun _ => 0).toArray 35) = v3 at hS2 ⊢
              clear hn
              have hS := hS2
              clear hS2
              try simp only [Act.put, List.setIfInBounds_toArray, List.set_cons_zero, List.set_cons_succ]
              refine wpAnyZ_one (i := 7) (by kernel_rfl) rfl (fun K hK => ?_)
              go_simp
              go_at_call 22
              refine (mul_of x yz _ ox oyz).mono ?_
              rintro e v4 ⟨rfl, hb8⟩
              rw [← er1.out]
              go_wp2_with fail
              refine hK.out _ _ (fun _ => (hS.grow hb8).tail.tail) ?_
              replace hS := hS.grow hb8
              clear hK K hb8
              try simp only [Act.put, List.setIfInBounds_toArray, List.set_cons_zero, List.set_cons_succ]
              refine wpAnyZ_one (i := 10) (by kernel_rfl) rfl (fun K hK => ?_)
              have h0 := hS.at (g := g9) (x := fun _ => 0) (by simp)
              have hT0 := h0.there
              have hS2 := hS.put1 lf
              rw [if_pos (by rfl)]
              refine wp_store_arr _ _ _ rfl g9 16 lf rfl rfl hT0 hib ?_
              try simp only [Act.put, List.setIfInBounds_toArray, List.set_cons_zero, List.set_cons_succ]
              refine hK.out _ _ (fun _ => hS2.tail.tail) ?_
              generalize World.setCells v4 g9 0 (vals 16 lf) = v5 at hS2 ⊢
              clear hK K hS hT0 h0
              have hS := hS2
              clear hS2
              refine wpAnyZ_one (i := 11) (by kernel_rfl) rfl (fun K hK => ?_)
              have h0 := hS.at (g := ga) (x := fun _ => 0) (by simp)
              have hT0 := h0.there
              have hS2 := hS.put0 rt
              rw [if_pos (by rfl)]
              refine wp_store_arr _ _ _ rfl ga 16 rt rfl rfl hT0 hib ?_
              try simp only [Act.put, List.setIfInBounds_toArray, List.set_cons_zero, List.set_cons_succ]
              refine hK.out _ _ (fun _ => hS2.tail.tail) ?_
              generalize World.setCells v5 ga 0 (vals 16 rt) = v6 at hS2 ⊢
              clear hK K hS hT0 h0
              have hS := hS2
              clear hS2
              refine wpAnyZ_done (by kernel_rfl) ?_ _
              go_wp2_with fail
              go_meet
              exact ⟨g9, ga, rfl, rfl, hS.swap⟩
          · go_simp
            have hS2 := hS.fresh 35
            refine hK.out _ _ (fun _ => hS2.tail.tail) ?_
            clear hK K hS
            obtain ⟨ga, hn⟩ : ∃ g, Hid (g = v1.heap.size) := ⟨_, rfl⟩
            rw [← hn.out] at hS2 ⊢
            generalize World.alloc v1 (.cells (vals 16 fun _ => 0).toArray 35) = v2 at hS2 ⊢
            clear hn
            have hS := hS2
            clear hS2
            try simp only [Act.put, List.setIfInBounds_toArray, List.set_cons_zero, List.set_cons_succ]
            refine wpAnyZ_one (i := 6) (by kernel_rfl) rfl (fun K hK => ?_)
            go_simp
            go_at_call 22
            refine (mul_of y z _ oy oz).mono ?_
            rintro e v3 ⟨rfl, hb8⟩
            rw [← eyz.out]
            go_wp2_with fail
            refine hK.out _ _ (fun _ => (hS.grow hb8).tail.tail) ?_
            replace hS := hS.grow hb8
            clear hK K hb8
            try simp only [Act.put, List.setIfInBounds_toArray, List.set_cons_zero, List.set_cons_succ]
            refine wpAnyZ_one (i := 7) (by kernel_rfl) rfl (fun K hK => ?_)
            go_simp
            go_at_call 22
            refine (mul_of x yz _ ox oyz).mono ?_
            rintro e v4 ⟨rfl, hb8⟩
            rw [← er1.out]
            go_wp2_with fail
            refine hK.out _ _ (fun _ => (hS.grow hb8).tail.tail) ?_
            replace hS := hS.grow hb8
            clear hK K hb8
            try simp only [Act.put, List.setIfInBounds_toArray, List.set_cons_zero, List.set_cons_succ]
            refine wpAnyZ_one (i := 10) (by kernel_rfl) rfl (fun K hK => ?_)
            have h0 := hS.at (g := g9) (x := fun _ => 0) (by simp)
            have hT0 := h0.there
            have hS2 := hS.put1 lf
            rw [if_pos (by rfl)]
            refine wp_store_arr _ _ _ rfl g9 16 lf rfl rfl hT0 hib ?_
            try simp only [Act.put, List.setIfInBounds_toArray, List.set_cons_zero, List.set_cons_succ]
            refine hK.out _ _ (fun _ => hS2.tail.tail) ?_
            generalize World.setCells v4 g9 0 (vals 16 lf) = v5 at hS2 ⊢
            clear hK K hS hT0 h0
            have hS := hS2
            clear hS2
            refine wpAnyZ_one (i := 11) (by kernel_rfl) rfl (fun K hK => ?_)
            have h0 := hS.at (g := ga) (x := fun _ => 0) (by simp)
            have hT0 := h0.there
            have hS2 := hS.put0 rt
            rw [if_pos (by rfl)]
            refine wp_store_arr _ _ _ rfl ga 16 rt rfl rfl hT0 hib ?_
            try simp only [Act.put, List.setIfInBounds_toArray, List.set_cons_zero, List.set_cons_succ]
            refine hK.out _ _ (fun _ => hS2.tail.tail) ?_
            generalize World.setCells v5 ga 0 (vals 16 rt) = v6 at hS2 ⊢
            clear hK K hS hT0 h0
            have hS := hS2
            clear hS2
            refine wpAnyZ_done (by kernel_rfl) ?_ _
            go_wp2_with fail
            go_meet
            exact ⟨g9, ga, rfl, rfl, hS.swap⟩
        · go_simp
          have hS2 := hS.fresh 35
          refine hK.out _ _ (fun _ => hS2.tail.tail) ?_
          clear hK K hS
          obtain ⟨ga, hn⟩ : ∃ g, Hid (g = v0.heap.size) := ⟨_, rfl⟩
          rw [← hn.out] at hS2 ⊢
          generalize World.alloc v0 (.cells (vals 16 fun _ => 0).toArray 35) = v1 at hS2 ⊢
          clear hn
          have hS := hS2
          clear hS2
          try simp only [Act.put, List.setIfInBounds_toArray, List.set_cons_zero, List.set_cons_succ]
          refine wpAnyZ_one (i := 2) (by kernel_rfl) rfl (fun K hK => ?_)
          go_simp
          go_at_call 22
          refine (mul_of xy z _ oxy oz).mono ?_
          rintro e v2 ⟨rfl, hb8⟩
          rw [← el1.out]
          go_wp2_with fail
          refine hK.out _ _ (fun _ => (hS.grow hb8).tail.tail) ?_
          replace hS := hS.grow hb8
          clear hK K hb8
          try simp only [Act.put, List.setIfInBounds_toArray, List.set_cons_zero, List.set_cons_succ]
          refine wpAnyZ_one (i := 6) (by kernel_rfl) rfl (fun K hK => ?_)
          go_simp
          go_at_call 22
          refine (mul_of y z _ oy oz).mono ?_
          rintro e v3 ⟨rfl, hb8⟩
          rw [← eyz.out]
          go_wp2_with fail
          refine hK.out _ _ (fun _ => (hS.grow hb8).tail.tail) ?_
          replace hS := hS.grow hb8
          clear hK K hb8
          try simp only [Act.put, List.setIfInBounds_toArray, List.set_cons_zero, List.set_cons_succ]
          refine wpAnyZ_one (i := 7) (by kernel_rfl) rfl (fun K hK => ?_)
          go_simp
          go_at_call 22
          refine (mul_of x yz _ ox oyz).mono ?_
          rintro e v4 ⟨rfl, hb8⟩
          rw [← er1.out]
          go_wp2_with fail
          refine hK.out _ _ (fun _ => (hS.grow hb8).tail.tail) ?_
          replace hS := hS.grow hb8
          clear hK K hb8
          try simp only [Act.put, List.setIfInBounds_toArray, List.set_cons_zero, List.set_cons_succ]
          refine wpAnyZ_one (i := 10) (by kernel_rfl) rfl (fun K hK => ?_)
          have h0 := hS.at (g := g9) (x := fun _ => 0) (by simp)
          have hT0 := h0.there
          have hS2 := hS.put1 lf
          rw [if_pos (by rfl)]
          refine wp_store_arr _ _ _ rfl g9 16 lf rfl rfl hT0 hib ?_
          try simp only [Act.put, List.setIfInBounds_toArray, List.set_cons_zero, List.set_cons_succ]
          refine hK.out _ _ (fun _ => hS2.tail.tail) ?_
          generalize World.setCells v4 g9 0 (vals 16 lf) = v5 at hS2 ⊢
          clear hK K hS hT0 h0
          have hS := hS2
          clear hS2
          refine wpAnyZ_one (i := 11) (by kernel_rfl) rfl (fun K hK => ?_)
          have h0 := hS.at (g := ga) (x := fun _ => 0) (by simp)
          have hT0 := h0.there
          have hS2 := hS.put0 rt
          rw [if_pos (by rfl)]
          refine wp_store_arr _ _ _ rfl ga 16 rt rfl rfl hT0 hib ?_
          try simp only [Act.put, List.setIfInBounds_toArray, List.set_cons_zero, List.set_cons_succ]
          refine hK.out _ _ (fun _ => hS2.tail.tail) ?_
          generalize World.setCells v5 ga 0 (vals 16 rt) = v6 at hS2 ⊢
          clear hK K hS hT0 h0
          have hS := hS2
          clear hS2
          refine wpAnyZ_done (by kernel_rfl) ?_ _
          go_wp2_with fail
          go_meet
          exact ⟨g9, ga, rfl, rfl, hS.swap⟩
      · go_simp
        have hS2 := hS.fresh 35
        refine hK.out _ _ (fun _ => hS2.tail) ?_
        clear hK K hS
        obtain ⟨ga, hn⟩ : ∃ g, Hid (g = w9.heap.size) := ⟨_, rfl⟩
        rw [← hn.out] at hS2 ⊢
        generalize World.alloc w9 (.cells (vals 16 fun _ => 0).toArray 35) = v0 at hS2 ⊢
        clear hn
        have hS := hS2
        clear hS2
        try simp only [Act.put, List.setIfInBounds_toArray, List.set_cons_zero, List.set_cons_succ]
        refine wpAnyZ_two (i := 2) (j := 8) (by kernel_rfl) rfl rfl (fun K hK => ?_) (fun K hK => ?_) 
        · go_simp
          go_at_call 22
          refine (mul_of xy z _ oxy oz).mono ?_
          rintro e v1 ⟨rfl, hb8⟩
          rw [← el1.out]
          go_wp2_with fail
          refine hK.out _ _ (fun _ => (hS.grow hb8).tail) ?_
          replace hS := hS.grow hb8
          clear hK K hb8
          try simp only [Act.put, List.setIfInBounds_toArray, List.set_cons_zero, List.set_cons_succ]
          refine wpAnyZ_two (i := 6) (j := 8) (by kernel_rfl) rfl rfl (fun K hK => ?_) (fun K hK => ?_) 
          · go_simp
            go_at_call 22
            refine (mul_of y z _ oy oz).mono ?_
            rintro e v2 ⟨rfl, hb8⟩
            rw [← eyz.out]
            go_wp2_with fail
            refine hK.out _ _ (fun _ => (hS.grow hb8).tail) ?_
            replace hS := hS.grow hb8
            clear hK K hb8
            try simp only [Act.put, List.setIfInBounds_toArray, List.set_cons_zero, List.set_cons_succ]
            refine wpAnyZ_two (i := 7) (j := 8) (by kernel_rfl) rfl rfl (fun K hK => ?_) (fun K hK => ?_) 
            · go_simp
              go_at_call 22
              refine (mul_of x yz _ ox oyz).mono ?_
              rintro e v3 ⟨rfl, hb8⟩
              rw [← er1.out]
              go_wp2_with fail
              refine hK.out _ _ (fun _ => (hS.grow hb8).tail) ?_
              replace hS := hS.grow hb8
              clear hK K hb8
              try simp only [Act.put, List.setIfInBounds_toArray, List.set_cons_zero, List.set_cons_succ]
              refine wpAnyZ_one (i := 8) (by kernel_rfl) rfl (fun K hK => ?_)
              go_simp
              have hS2 := hS.fresh 35
              refine hK.out _ _ (fun _ => hS2.tail.tail) ?_
              clear hK K hS
              obtain ⟨g9, hn⟩ : ∃ g, Hid (g = v3.heap.size) := ⟨_, rfl⟩
              rw [← hn.out] at hS2 ⊢
              generalize World.alloc v3 (.cells (vals 16 fun _ => 0).toArray 35) = v4 at hS2 ⊢
              clear hn
              have hS := hS2
              clear hS2
              try simp only [Act.put, List.setIfInBounds_toArray, List.set_cons_zero, List.set_cons_succ]
              refine wpAnyZ_one (i := 10) (by kernel_rfl) rfl (fun K hK => ?_)
              have h0 := hS.at (g := g9) (x := fun _ => 0) (by simp)
              have hT0 := h0.there
              have hS2 := hS.put0 lf
              rw [if_pos (by rfl)]
              refine wp_store_arr _ _ _ rfl g9 16 lf rfl rfl hT0 hib ?_
              try simp only [Act.put, List.setIfInBounds_toArray, List.set_cons_zero, List.set_cons_succ]
              refine hK.out _ _ (fun _ => hS2.tail.tail) ?_
              generalize World.setCells v4 g9 0 (vals 16 lf) = v5 at hS2 ⊢
              clear hK K hS hT0 h0
              have hS := hS2
              clear hS2
              refine wpAnyZ_one (i := 11) (by kernel_rfl) rfl (fun K hK => ?_)
              have h0 := hS.at (g := ga) (x := fun _ => 0) (by simp)
              have hT0 := h0.there
              have hS2 := hS.put1 rt
              rw [if_pos (by rfl)]
              refine wp_store_arr _ _ _ rfl ga 16 rt rfl rfl hT0 hib ?_
              try simp only [Act.put, List.setIfInBounds_toArray, List.set_cons_zero, List.set_cons_succ]
              refine hK.out _ _ (fun _ => hS2.tail.tail) ?_
              generalize World.setCells v5 ga 0 (vals 16 rt) = v6 at hS2 ⊢
              clear hK K hS hT0 h0
              have hS := hS2
              clear hS2
              refine wpAnyZ_done (by kernel_rfl) ?_ _
              go_wp2_with fail
              go_meet
              exact ⟨g9, ga, rfl, rfl, hS⟩
            · go_simp
              have hS2 := hS.fresh 35
              refine hK.out _ _ (fun _ => hS2.tail.tail) ?_
              clear hK K hS
              obtain ⟨g9, hn⟩ : ∃ g, Hid (g = v2.heap.size) := ⟨_, rfl⟩
              rw [← hn.out] at hS2 ⊢
              generalize World.alloc v2 (.cells (vals 16 fun _ => 0).toArray 35) = v3 at hS2 ⊢
              clear hn
              have hS := hS2
              clear hS2
              try simp only [Act.put, List.setIfInBounds_toArray, List.set_cons_zero, List.set_cons_succ]
              refine wpAnyZ_one (i := 7) (by kernel_rfl) rfl (fun K hK => ?_)
              go_simp
              go_at_call 22
              refine (mul_of x yz _ ox oyz).mono ?_
              rintro e v4 ⟨rfl, hb8⟩
              rw [← er1.out]
              go_wp2_with fail
              refine hK.out _ _ (fun _ => (hS.grow hb8).tail.tail) ?_
              replace hS := hS.grow hb8
              clear hK K hb8
              try simp only [Act.put, List.setIfInBounds_toArray, List.set_cons_zero, List.set_cons_succ]
              refine wpAnyZ_one (i := 10) (by kernel_rfl) rfl (fun K hK => ?_)
              have h0 := hS.at (g := g9) (x := fun _ => 0) (by simp)
              have hT0 := h0.there
              have hS2 := hS.put0 lf
              rw [if_pos (by rfl)]
              refine wp_store_arr _ _ _ rfl g9 16 lf rfl rfl hT0 hib ?_
              try simp only [Act.put, List.setIfInBounds_toArray, List.set_cons_zero, List.set_cons_succ]
              refine hK.out _ _ (fun _ => hS2.tail.tail) ?_
              generalize World.setCells v4 g9 0 (vals 16 lf) = v5 at hS2 ⊢
              clear hK K hS hT0 h0
              have hS := hS2
              clear hS2
              refine wpAnyZ_one (i := 11) (by kernel_rfl) rfl (fun K hK => ?_)
              have h0 := hS.at (g := ga) (x := fun _ => 0) (by simp)
              have hT0 := h0.there
              have hS2 := hS.put1 rt
              rw [if_pos (by rfl)]
              refine wp_store_arr _ _ _ rfl ga 16 rt rfl rfl hT0 hib ?_
              try simp only [Act.put, List.setIfInBounds_toArray, List.set_cons_zero, List.set_cons_succ]
              refine hK.out _ _ (fun _ => hS2.tail.tail) ?_
              generalize World.setCells v5 ga 0 (vals 16 rt) = v6 at hS2 ⊢
              clear hK K hS hT0 h0
              have hS := hS2
              clear hS2
              refine wpAnyZ_done (by kernel_rfl) ?_ _
              go_wp2_with fail
              go_meet
              exact ⟨g9, ga, rfl, rfl, hS⟩
          · go_simp
            have hS2 := hS.fresh 35
            refine hK.out _ _ (fun _ => hS2.tail.tail) ?_
            clear hK K hS
            obtain ⟨g9, hn⟩ : ∃ g, Hid (g = v1.heap.size) := ⟨_, rfl⟩
            rw [← hn.out] at hS2 ⊢
            generalize World.alloc v1 (.cells (vals 16 fun _ => 0).toArray 35) = v2 at hS2 ⊢
            clear hn
            have hS := hS2
            clear hS2
            try simp only [Act.put, List.setIfInBounds_toArray, List.set_cons_zero, List.set_cons_succ]
            refine wpAnyZ_one (i := 6) (by kernel_rfl) rfl (fun K hK => ?_)
            go_simp
            go_at_call 22
            refine (mul_of y z _ oy oz).mono ?_
            rintro e v3 ⟨rfl, hb8⟩
            rw [← eyz.out]
            go_wp2_with fail
            refine hK.out _ _ (fun _ => (hS.grow hb8).tail.tail) ?_
            replace hS := hS.grow hb8
            clear hK K hb8
            try simp only [Act.put, List.setIfInBounds_toArray, List.set_cons_zero, List.set_cons_succ]
            refine wpAnyZ_one (i := 7) (by kernel_rfl) rfl (fun K hK => ?_)
            go_simp
            go_at_call 22
            refine (mul_of x yz _ ox oyz).mono ?_
            rintro e v4 ⟨rfl, hb8⟩
            rw [← er1.out]
            go_wp2_with fail
            refine hK.out _ _ (fun _ => (hS.grow hb8).tail.tail) ?_
            replace hS := hS.grow hb8
            clear hK K hb8
            try simp only [Act.put, List.setIfInBounds_toArray, List.set_cons_zero, List.set_cons_succ]
            refine wpAnyZ_one (i := 10) (by kernel_rfl) rfl (fun K hK => ?_)
            have h0 := hS.at (g := g9) (x := fun _ => 0) (by simp)
            have hT0 := h0.there
            have hS2 := hS.put0 lf
            rw [if_pos (by rfl)]
            refine wp_store_arr _ _ _ rfl g9 16 lf rfl rfl hT0 hib ?_
            try simp only [Act.put, List.setIfInBounds_toArray, List.set_cons_zero, List.set_cons_succ]
            refine hK.out _ _ (fun _ => hS2.tail.tail) ?_
            generalize World.setCells v4 g9 0 (vals 16 lf) = v5 at hS2 ⊢
            clear hK K hS hT0 h0
            have hS := hS2
            clear hS2
            refine wpAnyZ_one (i := 11) (by kernel_rfl) rfl (fun K hK => ?_)
            have h0 := hS.at (g := ga) (x := fun _ => 0) (by simp)
            have hT0 := h0.there
            have hS2 := hS.put1 rt
            rw [if_pos (by rfl)]
            refine wp_store_arr _ _ _ rfl ga 16 rt rfl rfl hT0 hib ?_
            try simp only [Act.put, List.setIfInBounds_toArray, List.set_cons_zero, List.set_cons_succ]
            refine hK.out _ _ (fun _ => hS2.tail.tail) ?_
            generalize World.setCells v5 ga 0 (vals 16 rt) = v6 at hS2 ⊢
            clear hK K hS hT0 h0
            have hS := hS2
            clear hS2
            refine wpAnyZ_done (by kernel_rfl) ?_ _
            go_wp2_with fail
            go_meet
            exact ⟨g9, ga, rfl, rfl, hS⟩
        · go_simp
          have hS2 := hS.fresh 35
          refine hK.out _ _ (fun _ => hS2.tail.tail) ?_
          clear hK K hS
          obtain ⟨g9, hn⟩ : ∃ g, Hid (g = v0.heap.size) := ⟨_, rfl⟩
          rw [← hn.out] at hS2 ⊢
          generalize World.alloc v0 (.cells (vals 16 fun _ => 0).toArray 35) = v1 at hS2 ⊢
          clear hn
          have hS := hS2
          clear hS2
          try simp only [Act.put, List.setIfInBounds_toArray, List.set_cons_zero, List.set_cons_succ]
          refine wpAnyZ_one (i := 2) (by kernel_rfl) rfl (fun K hK => ?_)
          go_simp
          go_at_call 22
          refine (mul_of xy z _ oxy oz).mono ?_
          rintro e v2 ⟨rfl, hb8⟩
          rw [← el1.out]
          go_wp2_with fail
          refine hK.out _ _ (fun _ => (hS.grow hb8).tail.tail) ?_
          replace hS := hS.grow hb8
          clear hK K hb8
          try simp only [Act.put, List.setIfInBounds_toArray, List.set_cons_zero, List.set_cons_succ]
          refine wpAnyZ_one (i := 6) (by kernel_rfl) rfl (fun K hK => ?_)
          go_simp
          go_at_call 22
          refine (mul_of y z _ oy oz).mono ?_
          rintro e v3 ⟨rfl, hb8⟩
          rw [← eyz.out]
          go_wp2_with fail
          refine hK.out _ _ (fun _ => (hS.grow hb8).tail.tail) ?_
          replace hS := hS.grow hb8
          clear hK K hb8
          try simp only [Act.put, List.setIfInBounds_toArray, List.set_cons_zero, List.set_cons_succ]
          refine wpAnyZ_one (i := 7) (by kernel_rfl) rfl (fun K hK => ?_)
          go_simp
          go_at_call 22
          refine (mul_of x yz _ ox oyz).mono ?_
          rintro e v4 ⟨rfl, hb8⟩
          rw [← er1.out]
          go_wp2_with fail
          refine hK.out _ _ (fun _ => (hS.grow hb8).tail.tail) ?_
          replace hS := hS.grow hb8
          clear hK K hb8
          try simp only [Act.put, List.setIfInBounds_toArray, List.set_cons_zero, List.set_cons_succ]
          refine wpAnyZ_one (i := 10) (by kernel_rfl) rfl (fun K hK => ?_)
          have h0 := hS.at (g := g9) (x := fun _ => 0) (by simp)
          have hT0 := h0.there
          have hS2 := hS.put0 lf
          rw [if_pos (by rfl)]
          refine wp_store_arr _ _ _ rfl g9 16 lf rfl rfl hT0 hib ?_
          try simp only [Act.put, List.setIfInBounds_toArray, List.set_cons_zero, List.set_cons_succ]
          refine hK.out _ _ (fun _ => hS2.tail.tail) ?_
          generalize World.setCells v4 g9 0 (vals 16 lf) = v5 at hS2 ⊢
          clear hK K hS hT0 h0
          have hS := hS2
          clear hS2
          refine wpAnyZ_one (i := 11) (by kernel_rfl) rfl (fun K hK => ?_)
          have h0 := hS.at (g := ga) (x := fun _ => 0) (by simp)
          have hT0 := h0.there
          have hS2 := hS.put1 rt
          rw [if_pos (by rfl)]
          refine wp_store_arr _ _ _ rfl ga 16 rt rfl rfl hT0 hib ?_
          try simp only [Act.put, List.setIfInBounds_toArray, List.set_cons_zero, List.set_cons_succ]
          refine hK.out _ _ (fun _ => hS2.tail.tail) ?_
          generalize World.setCells v5 ga 0 (vals 16 rt) = v6 at hS2 ⊢
          clear hK K hS hT0 h0
          have hS := hS2
          clear hS2
          refine wpAnyZ_done (by kernel_rfl) ?_ _
          go_wp2_with fail
          go_meet
          exact ⟨g9, ga, rfl, rfl, hS⟩
    case rest =>
      obtain ⟨g9, ga, rfl, rfl, hS⟩ := hcut
      go_upto_region 3 with fail
      go_cut [11] (fun s11 wx => ∃ gb : Nat, s11 = .pointer (some ⟨gb, 0, none⟩) ∧ Arn w ([(gb, sm)] ++ ([(g9, lf), (ga, rt)] ++ ([(g7, xy), (g8, yx)] ++ [(w.heap.size + 1 + 1, z), (w.heap.size + 1, y), (w.heap.size, x)]))) wx)
      case first =>
        have hSd := hS.grow (Below.refl _ _).drew
        refine wp_region_z (Arn w ([(g9, lf), (ga, rt)] ++ ([(g7, xy), (g8, yx)] ++ [(w.heap.size + 1 + 1, z), (w.heap.size + 1, y), (w.heap.size, x)]))) 7 (by kernel_rfl) hSd (fun hS => ?_)
        clear hSd
        generalize World.drew _ = w9 at hS ⊢
        refine wpAnyZ_take (i := 0) rfl (by kernel_rfl) (by kernel_rfl) (by kernel_rfl) (by kernel_rfl) (fun _ _ _ h => h) hS (yieldsIf_load_mid (by kernel_rfl) 35 (.tmp 3) rfl w.heap.size 0 (by kernel_rfl) (vals 16 x) _ (fun w hS => (hS.at (by simp)).range) hub rfl hib) ?_
        simp only [Act.put, List.setIfInBounds_toArray, List.set_cons_zero, List.set_cons_succ]
        refine wpAnyZ_take (i := 1) rfl (by kernel_rfl) (by kernel_rfl) (by kernel_rfl) (by kernel_rfl) (fun _ _ _ h => h) hS (yieldsIf_load_mid (by kernel_rfl) 35 (.tmp 4) rfl (w.heap.size + 1) 0 (by kernel_rfl) (vals 16 y) _ (fun w hS => (hS.at (by simp)).range) hub rfl hib) ?_
        simp only [Act.put, List.setIfInBounds_toArray, List.set_cons_zero, List.set_cons_succ]
        refine wpAnyZ_take (i := 2) rfl (by kernel_rfl) (by kernel_rfl) (by kernel_rfl) (by kernel_rfl) (fun _ _ _ h => h) hS (yieldsIf_load_mid (by kernel_rfl) 35 (.tmp 5) rfl (w.heap.size + 1 + 1) 0 (by kernel_rfl) (vals 16 z) _ (fun w hS => (hS.at (by simp)).range) hub rfl hib) ?_
        simp only [Act.put, List.setIfInBounds_toArray, List.set_cons_zero, List.set_cons_succ]
        refine wpAnyZ_two (i := 3) (j := 5) (by kernel_rfl) rfl rfl (fun K hK => ?_) (fun K hK => ?_) 
        · go_simp
          go_at_call 27
          refine (sums_of y z _ oy oz).mono ?_
          rintro e v0 ⟨rfl, hb8⟩
          rw [← eyz2.out]
          go_wp2_with fail
          refine hK.out _ _ (fun _ => (hS.grow hb8)) ?_
          replace hS := hS.grow hb8
          clear hK K hb8
          try simp only [Act.put, List.setIfInBounds_toArray, List.set_cons_zero, List.set_cons_succ]
          refine wpAnyZ_two (i := 4) (j := 5) (by kernel_rfl) rfl rfl (fun K hK => ?_) (fun K hK => ?_) 
          · go_simp
            go_at_call 22
            refine (mul_of x ypz _ ox oypz).mono ?_
            rintro e v1 ⟨rfl, hb8⟩
            rw [← esm.out]
            go_wp2_with fail
            refine hK.out _ _ (fun _ => (hS.grow hb8)) ?_
            replace hS := hS.grow hb8
            clear hK K hb8
            try simp only [Act.put, List.setIfInBounds_toArray, List.set_cons_zero, List.set_cons_succ]
            refine wpAnyZ_one (i := 5) (by kernel_rfl) rfl (fun K hK => ?_)
            go_simp
            have hS2 := hS.fresh 35
            refine hK.out _ _ (fun _ => hS2.tail) ?_
            clear hK K hS
            obtain ⟨gb, hn⟩ : ∃ g, Hid (g = v1.heap.size) := ⟨_, rfl⟩
            rw [← hn.out] at hS2 ⊢
            generalize World.alloc v1 (.cells (vals 16 fun _ => 0).toArray 35) = v2 at hS2 ⊢
            clear hn
            have hS := hS2
            clear hS2
            try simp only [Act.put, List.setIfInBounds_toArray, List.set_cons_zero, List.set_cons_succ]
            refine wpAnyZ_one (i := 6) (by kernel_rfl) rfl (fun K hK => ?_)
            have h0 := hS.at (g := gb) (x := fun _ => 0) (by simp)
            have hT0 := h0.there
            have hS2 := hS.put0 sm
            rw [if_pos (by rfl)]
            refine wp_store_arr _ _ _ rfl gb 16 sm rfl rfl hT0 hib ?_
            try simp only [Act.put, List.setIfInBounds_toArray, List.set_cons_zero, List.set_cons_succ]
            refine hK.out _ _ (fun _ => hS2.tail) ?_
            generalize World.setCells v2 gb 0 (vals 16 sm) = v3 at hS2 ⊢
            clear hK K hS hT0 h0
            have hS := hS2
            clear hS2
            refine wpAnyZ_done (by kernel_rfl) ?_ _
            go_wp2_with fail
            go_meet
            exact ⟨gb, rfl, hS⟩
          · go_simp
            have hS2 := hS.fresh 35
            refine hK.out _ _ (fun _ => hS2.tail) ?_
            clear hK K hS
            obtain ⟨gb, hn⟩ : ∃ g, Hid (g = v0.heap.size) := ⟨_, rfl⟩
            rw [← hn.out] at hS2 ⊢
            generalize World.alloc v0 (.cells (vals 16 fun _ => 0).toArray 35) = v1 at hS2 ⊢
            clear hn
            have hS := hS2
            clear hS2
            try simp only [Act.put, List.setIfInBounds_toArray, List.set_cons_zero, List.set_cons_succ]
            refine wpAnyZ_one (i := 4) (by kernel_rfl) rfl (fun K hK => ?_)
            go_simp
            go_at_call 22
            refine (mul_of x ypz _ ox oypz).mono ?_
            rintro e v2 ⟨rfl, hb8⟩
            rw [← esm.out]
            go_wp2_with fail
            refine hK.out _ _ (fun _ => (hS.grow hb8).tail) ?_
            replace hS := hS.grow hb8
            clear hK K hb8
            try simp only [Act.put, List.setIfInBounds_toArray, List.set_cons_zero, List.set_cons_succ]
            refine wpAnyZ_one (i := 6) (by kernel_rfl) rfl (fun K hK => ?_)
            have h0 := hS.at (g := gb) (x := fun _ => 0) (by simp)
            have hT0 := h0.there
            have hS2 := hS.put0 sm
            rw [if_pos (by rfl)]
            refine wp_store_arr _ _ _ rfl gb 16 sm rfl rfl hT0 hib ?_
            try simp only [Act.put, List.setIfInBounds_toArray, List.set_cons_zero, List.set_cons_succ]
            refine hK.out _ _ (fun _ => hS2.tail) ?_
            generalize World.setCells v2 gb 0 (vals 16 sm) = v3 at hS2 ⊢
            clear hK K hS hT0 h0
            have hS := hS2
            clear hS2
            refine wpAnyZ_done (by kernel_rfl) ?_ _
            go_wp2_with fail
            go_meet
            exact ⟨gb, rfl, hS⟩
        · go_simp
          have hS2 := hS.fresh 35
          refine hK.out _ _ (fun _ => hS2.tail) ?_
          clear hK K hS
          obtain ⟨gb, hn⟩ : ∃ g, Hid (g = w9.heap.size) := ⟨_, rfl⟩
          rw [← hn.out] at hS2 ⊢
          generalize World.alloc w9 (.cells (vals 16 fun _ => 0).toArray 35) = v0 at hS2 ⊢
          clear hn
          have hS := hS2
          clear hS2
          try simp only [Act.put, List.setIfInBounds_toArray, List.set_cons_zero, List.set_cons_succ]
          refine wpAnyZ_one (i := 3) (by kernel_rfl) rfl (fun K hK => ?_)
          go_simp
          go_at_call 27
          refine (sums_of y z _ oy oz).mono ?_
          rintro e v1 ⟨rfl, hb8⟩
          rw [← eyz2.out]
          go_wp2_with fail
          refine hK.out _ _ (fun _ => (hS.grow hb8).tail) ?_
          replace hS := hS.grow hb8
          clear hK K hb8
          try simp only [Act.put, List.setIfInBounds_toArray, List.set_cons_zero, List.set_cons_succ]
          refine wpAnyZ_one (i := 4) (by kernel_rfl) rfl (fun K hK => ?_)
          go_simp
          go_at_call 22
          refine (mul_of x ypz _ ox oypz).mono ?_
          rintro e v2 ⟨rfl, hb8⟩
          rw [← esm.out]
          go_wp2_with fail
          refine hK.out _ _ (fun _ => (hS.grow hb8).tail) ?_
          replace hS := hS.grow hb8
          clear hK K hb8
          try simp only [Act.put, List.setIfInBounds_toArray, List.set_cons_zero, List.set_cons_succ]
          refine wpAnyZ_one (i := 6) (by kernel_rfl) rfl (fun K hK => ?_)
          have h0 := hS.at (g := gb) (x := fun _ => 0) (by simp)
          have hT0 := h0.there
          have hS2 := hS.put0 sm
          rw [if_pos (by rfl)]
          refine wp_store_arr _ _ _ rfl gb 16 sm rfl rfl hT0 hib ?_
          try simp only [Act.put, List.setIfInBounds_toArray, List.set_cons_zero, List.set_cons_succ]
          refine hK.out _ _ (fun _ => hS2.tail) ?_
          generalize World.setCells v2 gb 0 (vals 16 sm) = v3 at hS2 ⊢
          clear hK K hS hT0 h0
          have hS := hS2
          clear hS2
          refine wpAnyZ_done (by kernel_rfl) ?_ _
          go_wp2_with fail
          go_meet
          exact ⟨gb, rfl, hS⟩
      case rest =>
        obtain ⟨gb, rfl, hS⟩ := hcut
        go_upto_region 4 with fail
        go_cut [12] (fun s12 wx => ∃ gc : Nat, s12 = .pointer (some ⟨gc, 0, none⟩) ∧ Arn w ([(gc, pt)] ++ ([(gb, sm)] ++ ([(g9, lf), (ga, rt)] ++ ([(g7, xy), (g8, yx)] ++ [(w.heap.size + 1 + 1, z), (w.heap.size + 1, y), (w.heap.size, x)])))) wx)
        case first =>
          have hSd := hS.grow (Below.refl _ _).drew
          refine wp_region_z (Arn w ([(gb, sm)] ++ ([(g9, lf), (ga, rt)] ++ ([(g7, xy), (g8, yx)] ++ [(w.heap.size + 1 + 1, z), (w.heap.size + 1, y), (w.heap.size, x)])))) 7 (by kernel_rfl) hSd (fun hS => ?_)
          clear hSd
          generalize World.drew _ = w9 at hS ⊢
          refine wpAnyZ_take (i := 0) rfl (by kernel_rfl) (by kernel_rfl) (by kernel_rfl) (by kernel_rfl) (fun _ _ _ h => h) hS (yieldsIf_load_mid (by kernel_rfl) 35 (.tmp 7) rfl g7 0 (by kernel_rfl) (vals 16 xy) _ (fun w hS => (hS.at (by simp)).range) hub rfl hib) ?_
          simp only [Act.put, List.setIfInBounds_toArray, List.set_cons_zero, List.set_cons_succ]
          refine wpAnyZ_take (i := 1) rfl (by kernel_rfl) (by kernel_rfl) (by kernel_rfl) (by kernel_rfl) (fun _ _ _ h => h) hS (yieldsIf_load_mid (by kernel_rfl) 35 (.tmp 3) rfl w.heap.size 0 (by kernel_rfl) (vals 16 x) _ (fun w hS => (hS.at (by simp)).range) hub rfl hib) ?_
          simp only [Act.put, List.setIfInBounds_toArray, List.set_cons_zero, List.set_cons_succ]
          refine wpAnyZ_take (i := 2) rfl (by kernel_rfl) (by kernel_rfl) (by kernel_rfl) (by kernel_rfl) (fun _ _ _ h => h) hS (yieldsIf_load_mid (by kernel_rfl) 35 (.tmp 5) rfl (w.heap.size + 1 + 1) 0 (by kernel_rfl) (vals 16 z) _ (fun w hS => (hS.at (by simp)).range) hub rfl hib) ?_
          simp only [Act.put, List.setIfInBounds_toArray, List.set_cons_zero, List.set_cons_succ]
          refine wpAnyZ_two (i := 3) (j := 5) (by kernel_rfl) rfl rfl (fun K hK => ?_) (fun K hK => ?_) 
          · go_simp
            go_at_call 22
            refine (mul_of x z _ ox oz).mono ?_
            rintro e v0 ⟨rfl, hb8⟩
            rw [← exz.out]
            go_wp2_with fail
            refine hK.out _ _ (fun _ => (hS.grow hb8)) ?_
            replace hS := hS.grow hb8
            clear hK K hb8
            try simp only [Act.put, List.setIfInBounds_toArray, List.set_cons_zero, List.set_cons_succ]
            refine wpAnyZ_two (i := 4) (j := 5) (by kernel_rfl) rfl rfl (fun K hK => ?_) (fun K hK => ?_) 
            · go_simp
              go_at_call 27
              refine (sums_of xy xz _ oxy oxz).mono ?_
              rintro e v1 ⟨rfl, hb8⟩
              rw [← ept.out]
              go_wp2_with fail
              refine hK.out _ _ (fun _ => (hS.grow hb8)) ?_
              replace hS := hS.grow hb8
              clear hK K hb8
              try simp only [Act.put, List.setIfInBounds_toArray, List.set_cons_zero, List.set_cons_succ]
              refine wpAnyZ_one (i := 5) (by kernel_rfl) rfl (fun K hK => ?_)
              go_simp
              have hS2 := hS.fresh 35
              refine hK.out _ _ (fun _ => hS2.tail) ?_
              clear hK K hS
              obtain ⟨gc, hn⟩ : ∃ g, Hid (g = v1.heap.size) := ⟨_, rfl⟩
              rw [← hn.out] at hS2 ⊢
              generalize World.alloc v1 (.cells (vals 16 fun _ => 0).toArray 35) = v2 at hS2 ⊢
              clear hn
              have hS := hS2
              clear hS2
              try simp only [Act.put, List.setIfInBounds_toArray, List.set_cons_zero, List.set_cons_succ]
              refine wpAnyZ_one (i := 6) (by kernel_rfl) rfl (fun K hK => ?_)
              have h0 := hS.at (g := gc) (x := fun _ => 0) (by simp)
              have hT0 := h0.there
              have hS2 := hS.put0 pt
              rw [if_pos (by rfl)]
              refine wp_store_arr _ _ _ rfl gc 16 pt rfl rfl hT0 hib ?_
              try simp only [Act.put, List.setIfInBounds_toArray, List.set_cons_zero, List.set_cons_succ]
              refine hK.out _ _ (fun _ => hS2.tail) ?_
              generalize World.setCells v2 gc 0 (vals 16 pt) = v3 at hS2 ⊢
              clear hK K hS hT0 h0
              have hS := hS2
              clear hS2
              refine wpAnyZ_done (by kernel_rfl) ?_ _
              go_wp2_with fail
              go_meet
              exact ⟨gc, rfl, hS⟩
            · go_simp
              have hS2 := hS.fresh 35
              refine hK.out _ _ (fun _ => hS2.tail) ?_
              clear hK K hS
              obtain ⟨gc, hn⟩ : ∃ g, Hid (g = v0.heap.size) := ⟨_, rfl⟩
              rw [← hn.out] at hS2 ⊢
              generalize World.alloc v0 (.cells (vals 16 fun _ => 0).toArray 35) = v1 at hS2 ⊢
              clear hn
              have hS := hS2
              clear hS2
              try simp only [Act.put, List.setIfInBounds_toArray, List.set_cons_zero, List.set_cons_succ]
              refine wpAnyZ_one (i := 4) (by kernel_rfl) rfl (fun K hK => ?_)
              go_simp
              go_at_call 27
              refine (sums_of xy xz _ oxy oxz).mono ?_
              rintro e v2 ⟨rfl, hb8⟩
              rw [← ept.out]
              go_wp2_with fail
              refine hK.out _ _ (fun _ => (hS.grow hb8).tail) ?_
              replace hS := hS.grow hb8
              clear hK K hb8
              try simp only [Act.put, List.setIfInBounds_toArray, List.set_cons_zero, List.set_cons_succ]
              refine wpAnyZ_one (i := 6) (by kernel_rfl) rfl (fun K hK => ?_)
              have h0 := hS.at (g := gc) (x := fun _ => 0) (by simp)
              have hT0 := h0.there
              have hS2 := hS.put0 pt
              rw [if_pos (by rfl)]
              refine wp_store_arr _ _ _ rfl gc 16 pt rfl rfl hT0 hib ?_
              try simp only [Act.put, List.setIfInBounds_toArray, List.set_cons_zero, List.set_cons_succ]
              refine hK.out _ _ (fun _ => hS2.tail) ?_
              generalize World.setCells v2 gc 0 (vals 16 pt) = v3 at hS2 ⊢
              clear hK K hS hT0 h0
              have hS := hS2
              clear hS2
              refine wpAnyZ_done (by kernel_rfl) ?_ _
              go_wp2_with fail
              go_meet
              exact ⟨gc, rfl, hS⟩
          · go_simp
            have hS2 := hS.fresh 35
            refine hK.out _ _ (fun _ => hS2.tail) ?_
            clear hK K hS
            obtain ⟨gc, hn⟩ : ∃ g, Hid (g = w9.heap.size) := ⟨_, rfl⟩
            rw [← hn.out] at hS2 ⊢
            generalize World.alloc w9 (.cells (vals 16 fun _ => 0).toArray 35) = v0 at hS2 ⊢
            clear hn
            have hS := hS2
            clear hS2
            try simp only [Act.put, List.setIfInBounds_toArray, List.set_cons_zero, List.set_cons_succ]
            refine wpAnyZ_one (i := 3) (by kernel_rfl) rfl (fun K hK => ?_)
            go_simp
            go_at_call 22
            refine (mul_of x z _ ox oz).mono ?_
            rintro e v1 ⟨rfl, hb8⟩
            rw [← exz.out]
            go_wp2_with fail
            refine hK.out _ _ (fun _ => (hS.grow hb8).tail) ?_
            replace hS := hS.grow hb8
            clear hK K hb8
            try simp only [Act.put, List.setIfInBounds_toArray, List.set_cons_zero, List.set_cons_succ]
            refine wpAnyZ_one (i := 4) (by kernel_rfl) rfl (fun K hK => ?_)
            go_simp
            go_at_call 27
            refine (sums_of xy xz _ oxy oxz).mono ?_
            rintro e v2 ⟨rfl, hb8⟩
            rw [← ept.out]
            go_wp2_with fail
            refine hK.out _ _ (fun _ => (hS.grow hb8).tail) ?_
            replace hS := hS.grow hb8
            clear hK K hb8
            try simp only [Act.put, List.setIfInBounds_toArray, List.set_cons_zero, List.set_cons_succ]
            refine wpAnyZ_one (i := 6) (by kernel_rfl) rfl (fun K hK => ?_)
            have h0 := hS.at (g := gc) (x := fun _ => 0) (by simp)
            have hT0 := h0.there
            have hS2 := hS.put0 pt
            rw [if_pos (by rfl)]
            refine wp_store_arr _ _ _ rfl gc 16 pt rfl rfl hT0 hib ?_
            try simp only [Act.put, List.setIfInBounds_toArray, List.set_cons_zero, List.set_cons_succ]
            refine hK.out _ _ (fun _ => hS2.tail) ?_
            generalize World.setCells v2 gc 0 (vals 16 pt) = v3 at hS2 ⊢
            clear hK K hS hT0 h0
            have hS := hS2
            clear hS2
            refine wpAnyZ_done (by kernel_rfl) ?_ _
            go_wp2_with fail
            go_meet
            exact ⟨gc, rfl, hS⟩
        case rest =>
          obtain ⟨gc, rfl, hS⟩ := hcut
          go_upto_region 5 with fail
          go_wp2_with (refine wpList_load_arr rfl 35 _ rfl w.heap.size rfl 16 x ?_ _ Try.underlying35 rfl Try.sizeBlock ?_; exact hS.at (by simp))
          refine (mul_of x (fun _ => 0) _ ox (fun _ => by decide)).mono ?_
          rintro e v0 ⟨rfl, hb8⟩
          rw [← enn.out]
          replace hS := hS.grow hb8
          clear hb8
          have hS2 := hS.fresh 35
          have hz0 := hS2.at (g := v0.heap.size) (x := fun _ => 0) (by simp)
          have hS3 := hS2.put0 nn
          go_upto_region 6 with (refine wpList_store_arr rfl 35 _ _ rfl (v0.heap.size) 16 nn rfl rfl (fun _ => 0) ?_ Try.sizeBlock ?_; exact hz0)
          obtain ⟨gd, hn⟩ : ∃ g, Hid (g = v0.heap.size) := ⟨_, rfl⟩
          rw [← hn.out] at hS3 ⊢
          generalize World.setCells (World.alloc v0 (.cells (vals 16 fun _ => 0).toArray 35)) gd 0 (vals 16 nn) = v1 at hS3 ⊢
          clear hn hS hS2 hz0
          have hS := hS3
          clear hS3
          have q1 := fun w => cmp_yes oxy oyx c1 w
          have q2 := fun w => cmp_yes olf ort c2 w
          have q3 := fun w => cmp_yes osm opt c3 w
          have q4 := fun w => cmp_yes oon ox c4 w
          have q5 := fun w => cmp_yes onn onul c5 w
          have hSd := hS.grow (Below.refl _ _).drew
          clear hS
          rcases c6 with c6 | ⟨c6, c7⟩ | ⟨c6, c7, c8⟩
          · have q6 : ∀ w, (Op.equalIn 10000 35 (.agg (vals 16 xy).toArray) (.agg (vals 16 fun _ => 0).toArray)).run Try.prog w = .ok false w := fun w => by have := cmp16 oxy onul w; rwa [beq_eq_false_iff_ne.2 c6] at this
            refine wp_region_z (Arn w ([(gd, nn)] ++ ([(gc, pt)] ++ ([(gb, sm)] ++ ([(g9, lf), (ga, rt)] ++ ([(g7, xy), (g8, yx)] ++ [(w.heap.size + 1 + 1, z), (w.heap.size + 1, y), (w.heap.size, x)])))))) 44 (by kernel_rfl) hSd (fun hS => ?_)
            clear hSd
            generalize World.drew _ = w9 at hS ⊢
            refine wpAnyZ_take (i := 0) rfl (by kernel_rfl) (by kernel_rfl) (by kernel_rfl) (by kernel_rfl) (fun _ _ _ h => h) hS (yieldsIf_load_mid (by kernel_rfl) 35 (.tmp 7) rfl g7 0 (by kernel_rfl) (vals 16 xy) _ (fun w hS => (hS.at (by simp)).range) hub rfl hib) ?_
            simp only [Act.put, List.setIfInBounds_toArray, List.set_cons_zero, List.set_cons_succ]
            refine wpAnyZ_take (i := 1) rfl (by kernel_rfl) (by kernel_rfl) (by kernel_rfl) (by kernel_rfl) (fun _ _ _ h => h) hS (yieldsIf_load_mid (by kernel_rfl) 35 (.tmp 8) rfl g8 0 (by kernel_rfl) (vals 16 yx) _ (fun w hS => (hS.at (by simp)).range) hub rfl hib) ?_
            simp only [Act.put, List.setIfInBounds_toArray, List.set_cons_zero, List.set_cons_succ]
            refine wpAnyZ_take (i := 2) (v := .bool true) rfl (by kernel_rfl) (by kernel_rfl) (by kernel_rfl) (by kernel_rfl) (fun _ _ _ h => h) hS (Or.inl ⟨by kernel_rfl, fun w hS => (by clear hS; go_simp)⟩) ?_
            simp only [Act.put, List.setIfInBounds_toArray, List.set_cons_zero, List.set_cons_succ]
            refine wpAnyZ_take (i := 3) (v := .bool true) rfl (by kernel_rfl) (by kernel_rfl) (by kernel_rfl) (by kernel_rfl) (fun _ _ _ h => h) hS (Or.inl ⟨by kernel_rfl, fun w hS => (by clear hS; go_simp)⟩) ?_
            simp only [Act.put, List.setIfInBounds_toArray, List.set_cons_zero, List.set_cons_succ]
            refine wpAnyZ_take (i := 4) rfl (by kernel_rfl) (by kernel_rfl) (by kernel_rfl) (by kernel_rfl) (fun _ _ _ h => h) hS (yieldsIf_load_mid (by kernel_rfl) 35 (.tmp 9) rfl g9 0 (by kernel_rfl) (vals 16 lf) _ (fun w hS => (hS.at (by simp)).range) hub rfl hib) ?_
            simp only [Act.put, List.setIfInBounds_toArray, List.set_cons_zero, List.set_cons_succ]
            refine wpAnyZ_take (i := 5) rfl (by kernel_rfl) (by kernel_rfl) (by kernel_rfl) (by kernel_rfl) (fun _ _ _ h => h) hS (yieldsIf_load_mid (by kernel_rfl) 35 (.tmp 10) rfl ga 0 (by kernel_rfl) (vals 16 rt) _ (fun w hS => (hS.at (by simp)).range) hub rfl hib) ?_
            simp only [Act.put, List.setIfInBounds_toArray, List.set_cons_zero, List.set_cons_succ]
            refine wpAnyZ_take (i := 6) (v := .bool true) rfl (by kernel_rfl) (by kernel_rfl) (by kernel_rfl) (by kernel_rfl) (fun _ _ _ h => h) hS (Or.inl ⟨by kernel_rfl, fun w hS => (by clear hS; go_simp)⟩) ?_
            simp only [Act.put, List.setIfInBounds_toArray, List.set_cons_zero, List.set_cons_succ]
            refine wpAnyZ_take (i := 7) (v := .bool true) rfl (by kernel_rfl) (by kernel_rfl) (by kernel_rfl) (by kernel_rfl) (fun _ _ _ h => h) hS (Or.inl ⟨by kernel_rfl, fun w hS => (by clear hS; go_simp)⟩) ?_
            simp only [Act.put, List.setIfInBounds_toArray, List.set_cons_zero, List.set_cons_succ]
            refine wpAnyZ_take (i := 8) (v := .bool true) rfl (by kernel_rfl) (by kernel_rfl) (by kernel_rfl) (by kernel_rfl) (fun _ _ _ h => h) hS (Or.inl ⟨by kernel_rfl, fun w hS => (by clear hS; go_simp)⟩) ?_
            simp only [Act.put, List.setIfInBounds_toArray, List.set_cons_zero, List.set_cons_succ]
            refine wpAnyZ_take (i := 9) rfl (by kernel_rfl) (by kernel_rfl) (by kernel_rfl) (by kernel_rfl) (fun _ _ _ h => h) hS (yieldsIf_load_mid (by kernel_rfl) 35 (.tmp 11) rfl gb 0 (by kernel_rfl) (vals 16 sm) _ (fun w hS => (hS.at (by simp)).range) hub rfl hib) ?_
            simp only [Act.put, List.setIfInBounds_toArray, List.set_cons_zero, List.set_cons_succ]
            refine wpAnyZ_take (i := 10) rfl (by kernel_rfl) (by kernel_rfl) (by kernel_rfl) (by kernel_rfl) (fun _ _ _ h => h) hS (yieldsIf_load_mid (by kernel_rfl) 35 (.tmp 12) rfl gc 0 (by kernel_rfl) (vals 16 pt) _ (fun w hS => (hS.at (by simp)).range) hub rfl hib) ?_
            simp only [Act.put, List.setIfInBounds_toArray, List.set_cons_zero, List.set_cons_succ]
            refine wpAnyZ_take (i := 11) (v := .bool true) rfl (by kernel_rfl) (by kernel_rfl) (by kernel_rfl) (by kernel_rfl) (fun _ _ _ h => h) hS (Or.inl ⟨by kernel_rfl, fun w hS => (by clear hS; go_simp)⟩) ?_
            simp only [Act.put, List.setIfInBounds_toArray, List.set_cons_zero, List.set_cons_succ]
            refine wpAnyZ_take (i := 12) (v := .bool true) rfl (by kernel_rfl) (by kernel_rfl) (by kernel_rfl) (by kernel_rfl) (fun _ _ _ h => h) hS (Or.inl ⟨by kernel_rfl, fun w hS => (by clear hS; go_simp)⟩) ?_
            simp only [Act.put, List.setIfInBounds_toArray, List.set_cons_zero, List.set_cons_succ]
            refine wpAnyZ_take (i := 13) (v := .bool true) rfl (by kernel_rfl) (by kernel_rfl) (by kernel_rfl) (by kernel_rfl) (fun _ _ _ h => h) hS (Or.inl ⟨by kernel_rfl, fun w hS => (by clear hS; go_simp)⟩) ?_
            simp only [Act.put, List.setIfInBounds_toArray, List.set_cons_zero, List.set_cons_succ]
            refine wpAnyZ_take (i := 14) rfl (by kernel_rfl) (by kernel_rfl) (by kernel_rfl) (by kernel_rfl) (fun _ _ _ h => h) hS (yieldsIf_load_mid (by kernel_rfl) 35 (.tmp 3) rfl w.heap.size 0 (by kernel_rfl) (vals 16 x) _ (fun w hS => (hS.at (by simp)).range) hub rfl hib) ?_
            simp only [Act.put, List.setIfInBounds_toArray, List.set_cons_zero, List.set_cons_succ]
            refine wpAnyZ_take (i := 17) rfl (by kernel_rfl) (by kernel_rfl) (by kernel_rfl) (by kernel_rfl) (fun _ _ _ h => h) hS (yieldsIf_load_mid (by kernel_rfl) 35 (.tmp 3) rfl w.heap.size 0 (by kernel_rfl) (vals 16 x) _ (fun w hS => (hS.at (by simp)).range) hub rfl hib) ?_
            simp only [Act.put, List.setIfInBounds_toArray, List.set_cons_zero, List.set_cons_succ]
            refine wpAnyZ_one (i := 15) (by kernel_rfl) rfl (fun K hK => ?_)
            go_simp
            go_at_call 28
            refine (one_of _).mono ?_
            rintro e w8 ⟨rfl, hb8⟩
            go_wp2_with fail
            refine hK.out _ _ (fun _ => hS.grow hb8) ?_
            replace hS := hS.grow hb8
            clear hK K
            try simp only [Act.put, List.setIfInBounds_toArray, List.set_cons_zero, List.set_cons_succ]
            refine wpAnyZ_one (i := 16) (by kernel_rfl) rfl (fun K hK => ?_)
            go_simp
            go_at_call 22
            refine (mul_of x oneB _ ox oneB_lt).mono ?_
            rintro e w8 ⟨rfl, hb8⟩
            rw [← eon.out]
            go_wp2_with fail
            refine hK.out _ _ (fun _ => hS.grow hb8) ?_
            replace hS := hS.grow hb8
            clear hK K
            try simp only [Act.put, List.setIfInBounds_toArray, List.set_cons_zero, List.set_cons_succ]
            refine wpAnyZ_take (i := 18) (v := .bool true) rfl (by kernel_rfl) (by kernel_rfl) (by kernel_rfl) (by kernel_rfl) (fun _ _ _ h => h) hS (Or.inl ⟨by kernel_rfl, fun w hS => (by clear hS; go_simp)⟩) ?_
            simp only [Act.put, List.setIfInBounds_toArray, List.set_cons_zero, List.set_cons_succ]
            refine wpAnyZ_take (i := 19) (v := .bool true) rfl (by kernel_rfl) (by kernel_rfl) (by kernel_rfl) (by kernel_rfl) (fun _ _ _ h => h) hS (Or.inl ⟨by kernel_rfl, fun w hS => (by clear hS; go_simp)⟩) ?_
            simp only [Act.put, List.setIfInBounds_toArray, List.set_cons_zero, List.set_cons_succ]
            refine wpAnyZ_take (i := 20) (v := .bool true) rfl (by kernel_rfl) (by kernel_rfl) (by kernel_rfl) (by kernel_rfl) (fun _ _ _ h => h) hS (Or.inl ⟨by kernel_rfl, fun w hS => (by clear hS; go_simp)⟩) ?_
            simp only [Act.put, List.setIfInBounds_toArray, List.set_cons_zero, List.set_cons_succ]
            refine wpAnyZ_take (i := 21) rfl (by kernel_rfl) (by kernel_rfl) (by kernel_rfl) (by kernel_rfl) (fun _ _ _ h => h) hS (yieldsIf_load_mid (by kernel_rfl) 35 (.tmp 13) rfl gd 0 (by kernel_rfl) (vals 16 nn) _ (fun w hS => (hS.at (by simp)).range) hub rfl hib) ?_
            simp only [Act.put, List.setIfInBounds_toArray, List.set_cons_zero, List.set_cons_succ]
            refine wpAnyZ_take (i := 22) (v := .agg (vals 16 fun _ => 0).toArray) rfl (by kernel_rfl) (by kernel_rfl) (by kernel_rfl) (by kernel_rfl) (fun _ _ _ h => h) hS (Or.inl ⟨by kernel_rfl, fun w hS => (by clear hS; go_simp)⟩) ?_
            simp only [Act.put, List.setIfInBounds_toArray, List.set_cons_zero, List.set_cons_succ]
            refine wpAnyZ_take (i := 23) (v := .bool true) rfl (by kernel_rfl) (by kernel_rfl) (by kernel_rfl) (by kernel_rfl) (fun _ _ _ h => h) hS (Or.inl ⟨by kernel_rfl, fun w hS => (by clear hS; go_simp)⟩) ?_
            simp only [Act.put, List.setIfInBounds_toArray, List.set_cons_zero, List.set_cons_succ]
            refine wpAnyZ_take (i := 24) (v := .bool true) rfl (by kernel_rfl) (by kernel_rfl) (by kernel_rfl) (by kernel_rfl) (fun _ _ _ h => h) hS (Or.inl ⟨by kernel_rfl, fun w hS => (by clear hS; go_simp)⟩) ?_
            simp only [Act.put, List.setIfInBounds_toArray, List.set_cons_zero, List.set_cons_succ]
            refine wpAnyZ_take (i := 25) (v := .bool true) rfl (by kernel_rfl) (by kernel_rfl) (by kernel_rfl) (by kernel_rfl) (fun _ _ _ h => h) hS (Or.inl ⟨by kernel_rfl, fun w hS => (by clear hS; go_simp)⟩) ?_
            simp only [Act.put, List.setIfInBounds_toArray, List.set_cons_zero, List.set_cons_succ]
            refine wpAnyZ_take (i := 26) rfl (by kernel_rfl) (by kernel_rfl) (by kernel_rfl) (by kernel_rfl) (fun _ _ _ h => h) hS (yieldsIf_load_mid (by kernel_rfl) 35 (.tmp 7) rfl g7 0 (by kernel_rfl) (vals 16 xy) _ (fun w hS => (hS.at (by simp)).range) hub rfl hib) ?_
            simp only [Act.put, List.setIfInBounds_toArray, List.set_cons_zero, List.set_cons_succ]
            refine wpAnyZ_take (i := 27) (v := .agg (vals 16 fun _ => 0).toArray) rfl (by kernel_rfl) (by kernel_rfl) (by kernel_rfl) (by kernel_rfl) (fun _ _ _ h => h) hS (Or.inl ⟨by kernel_rfl, fun w hS => (by clear hS; go_simp)⟩) ?_
            simp only [Act.put, List.setIfInBounds_toArray, List.set_cons_zero, List.set_cons_succ]
            refine wpAnyZ_take (i := 28) (v := .bool true) rfl (by kernel_rfl) (by kernel_rfl) (by kernel_rfl) (by kernel_rfl) (fun _ _ _ h => h) hS (Or.inl ⟨by kernel_rfl, fun w hS => (by clear hS; go_simp)⟩) ?_
            simp only [Act.put, List.setIfInBounds_toArray, List.set_cons_zero, List.set_cons_succ]
            refine wpAnyZ_take (i := 29) (v := .bool true) rfl (by kernel_rfl) (by kernel_rfl) (by kernel_rfl) (by kernel_rfl) (fun _ _ _ h => h) hS (Or.inl ⟨by kernel_rfl, fun w hS => (by clear hS; go_simp)⟩) ?_
            simp only [Act.put, List.setIfInBounds_toArray, List.set_cons_zero, List.set_cons_succ]
            refine wpAnyZ_take (i := 30) (v := undef) rfl (by kernel_rfl) (by kernel_rfl) (by kernel_rfl) (by kernel_rfl) (fun _ _ _ h => h) hS (Or.inr ⟨by kernel_rfl, rfl⟩) ?_
            simp only [Act.put, List.setIfInBounds_toArray, List.set_cons_zero, List.set_cons_succ]
            refine wpAnyZ_take (i := 31) (v := undef) rfl (by kernel_rfl) (by kernel_rfl) (by kernel_rfl) (by kernel_rfl) (fun _ _ _ h => h) hS (Or.inr ⟨by kernel_rfl, rfl⟩) ?_
            simp only [Act.put, List.setIfInBounds_toArray, List.set_cons_zero, List.set_cons_succ]
            refine wpAnyZ_take (i := 32) (v := undef) rfl (by kernel_rfl) (by kernel_rfl) (by kernel_rfl) (by kernel_rfl) (fun _ _ _ h => h) hS (Or.inr ⟨by kernel_rfl, rfl⟩) ?_
            simp only [Act.put, List.setIfInBounds_toArray, List.set_cons_zero, List.set_cons_succ]
            refine wpAnyZ_take (i := 33) (v := .bool true) rfl (by kernel_rfl) (by kernel_rfl) (by kernel_rfl) (by kernel_rfl) (fun _ _ _ h => h) hS (Or.inl ⟨by kernel_rfl, fun w hS => (by clear hS; go_simp)⟩) ?_
            simp only [Act.put, List.setIfInBounds_toArray, List.set_cons_zero, List.set_cons_succ]
            refine wpAnyZ_take (i := 34) (v := .bool true) rfl (by kernel_rfl) (by kernel_rfl) (by kernel_rfl) (by kernel_rfl) (fun _ _ _ h => h) hS (Or.inl ⟨by kernel_rfl, fun w hS => (by clear hS; go_simp)⟩) ?_
            simp only [Act.put, List.setIfInBounds_toArray, List.set_cons_zero, List.set_cons_succ]
            refine wpAnyZ_take (i := 35) (v := undef) rfl (by kernel_rfl) (by kernel_rfl) (by kernel_rfl) (by kernel_rfl) (fun _ _ _ h => h) hS (Or.inr ⟨by kernel_rfl, rfl⟩) ?_
            simp only [Act.put, List.setIfInBounds_toArray, List.set_cons_zero, List.set_cons_succ]
            refine wpAnyZ_take (i := 36) (v := undef) rfl (by kernel_rfl) (by kernel_rfl) (by kernel_rfl) (by kernel_rfl) (fun _ _ _ h => h) hS (Or.inr ⟨by kernel_rfl, rfl⟩) ?_
            simp only [Act.put, List.setIfInBounds_toArray, List.set_cons_zero, List.set_cons_succ]
            refine wpAnyZ_take (i := 37) (v := undef) rfl (by kernel_rfl) (by kernel_rfl) (by kernel_rfl) (by kernel_rfl) (fun _ _ _ h => h) hS (Or.inr ⟨by kernel_rfl, rfl⟩) ?_
            simp only [Act.put, List.setIfInBounds_toArray, List.set_cons_zero, List.set_cons_succ]
            refine wpAnyZ_take (i := 38) (v := .bool true) rfl (by kernel_rfl) (by kernel_rfl) (by kernel_rfl) (by kernel_rfl) (fun _ _ _ h => h) hS (Or.inl ⟨by kernel_rfl, fun w hS => (by clear hS; go_simp)⟩) ?_
            simp only [Act.put, List.setIfInBounds_toArray, List.set_cons_zero, List.set_cons_succ]
            refine wpAnyZ_take (i := 39) (v := .bool true) rfl (by kernel_rfl) (by kernel_rfl) (by kernel_rfl) (by kernel_rfl) (fun _ _ _ h => h) hS (Or.inl ⟨by kernel_rfl, fun w hS => (by clear hS; go_simp)⟩) ?_
            simp only [Act.put, List.setIfInBounds_toArray, List.set_cons_zero, List.set_cons_succ]
            refine wpAnyZ_take (i := 40) (v := .bool true) rfl (by kernel_rfl) (by kernel_rfl) (by kernel_rfl) (by kernel_rfl) (fun _ _ _ h => h) hS (Or.inl ⟨by kernel_rfl, fun w hS => (by clear hS; go_simp)⟩) ?_
            simp only [Act.put, List.setIfInBounds_toArray, List.set_cons_zero, List.set_cons_succ]
            refine wpAnyZ_one (i := 41) (by kernel_rfl) rfl (fun K hK => ?_)
            go_simp
            go_at_call 24
            refine (gknown_any _).mono ?_
            rintro e w8 ⟨rfl, hb8⟩
            go_wp2_with fail
            refine hK.out _ _ (fun _ => hS.grow hb8) ?_
            replace hS := hS.grow hb8
            clear hK K
            try simp only [Act.put, List.setIfInBounds_toArray, List.set_cons_zero, List.set_cons_succ]
            refine wpAnyZ_take (i := 42) (v := .bool true) rfl (by kernel_rfl) (by kernel_rfl) (by kernel_rfl) (by kernel_rfl) (fun _ _ _ h => h) hS (Or.inl ⟨by kernel_rfl, fun w hS => (by clear hS; go_simp)⟩) ?_
            simp only [Act.put, List.setIfInBounds_toArray, List.set_cons_zero, List.set_cons_succ]
            refine wpAnyZ_one (i := 43) (by kernel_rfl) rfl (fun K hK => ?_)
            go_simp
            refine hK.out _ _ (fun _ => hS) ?_
            clear hK K
            try simp only [Act.put, List.setIfInBounds_toArray, List.set_cons_zero, List.set_cons_succ]
            refine wpAnyZ_done (by kernel_rfl) ?_ _
            go_wp2_with fail
            go_ret
            exact ⟨rfl, hS.below⟩
          · have q6 := fun w => cmp_yes oxy onul c6 w
            have q7 := fun w => cmp_yes ox onul c7 w
            refine wp_region_z (Arn w ([(gd, nn)] ++ ([(gc, pt)] ++ ([(gb, sm)] ++ ([(g9, lf), (ga, rt)] ++ ([(g7, xy), (g8, yx)] ++ [(w.heap.size + 1 + 1, z), (w.heap.size + 1, y), (w.heap.size, x)])))))) 44 (by kernel_rfl) hSd (fun hS => ?_)
            clear hSd
            generalize World.drew _ = w9 at hS ⊢
            refine wpAnyZ_take (i := 0) rfl (by kernel_rfl) (by kernel_rfl) (by kernel_rfl) (by kernel_rfl) (fun _ _ _ h => h) hS (yieldsIf_load_mid (by kernel_rfl) 35 (.tmp 7) rfl g7 0 (by kernel_rfl) (vals 16 xy) _ (fun w hS => (hS.at (by simp)).range) hub rfl hib) ?_
            simp only [Act.put, List.setIfInBounds_toArray, List.set_cons_zero, List.set_cons_succ]
            refine wpAnyZ_take (i := 1) rfl (by kernel_rfl) (by kernel_rfl) (by kernel_rfl) (by kernel_rfl) (fun _ _ _ h => h) hS (yieldsIf_load_mid (by kernel_rfl) 35 (.tmp 8) rfl g8 0 (by kernel_rfl) (vals 16 yx) _ (fun w hS => (hS.at (by simp)).range) hub rfl hib) ?_
            simp only [Act.put, List.setIfInBounds_toArray, List.set_cons_zero, List.set_cons_succ]
            refine wpAnyZ_take (i := 2) (v := .bool true) rfl (by kernel_rfl) (by kernel_rfl) (by kernel_rfl) (by kernel_rfl) (fun _ _ _ h => h) hS (Or.inl ⟨by kernel_rfl, fun w hS => (by clear hS; go_simp)⟩) ?_
            simp only [Act.put, List.setIfInBounds_toArray, List.set_cons_zero, List.set_cons_succ]
            refine wpAnyZ_take (i := 3) (v := .bool true) rfl (by kernel_rfl) (by kernel_rfl) (by kernel_rfl) (by kernel_rfl) (fun _ _ _ h => h) hS (Or.inl ⟨by kernel_rfl, fun w hS => (by clear hS; go_simp)⟩) ?_
            simp only [Act.put, List.setIfInBounds_toArray, List.set_cons_zero, List.set_cons_succ]
            refine wpAnyZ_take (i := 4) rfl (by kernel_rfl) (by kernel_rfl) (by kernel_rfl) (by kernel_rfl) (fun _ _ _ h => h) hS (yieldsIf_load_mid (by kernel_rfl) 35 (.tmp 9) rfl g9 0 (by kernel_rfl) (vals 16 lf) _ (fun w hS => (hS.at (by simp)).range) hub rfl hib) ?_
            simp only [Act.put, List.setIfInBounds_toArray, List.set_cons_zero, List.set_cons_succ]
            refine wpAnyZ_take (i := 5) rfl (by kernel_rfl) (by kernel_rfl) (by kernel_rfl) (by kernel_rfl) (fun _ _ _ h => h) hS (yieldsIf_load_mid (by kernel_rfl) 35 (.tmp 10) rfl ga 0 (by kernel_rfl) (vals 16 rt) _ (fun w hS => (hS.at (by simp)).range) hub rfl hib) ?_
            simp only [Act.put, List.setIfInBounds_toArray, List.set_cons_zero, List.set_cons_succ]
            refine wpAnyZ_take (i := 6) (v := .bool true) rfl (by kernel_rfl) (by kernel_rfl) (by kernel_rfl) (by kernel_rfl) (fun _ _ _ h => h) hS (Or.inl ⟨by kernel_rfl, fun w hS => (by clear hS; go_simp)⟩) ?_
            simp only [Act.put, List.setIfInBounds_toArray, List.set_cons_zero, List.set_cons_succ]
            refine wpAnyZ_take (i := 7) (v := .bool true) rfl (by kernel_rfl) (by kernel_rfl) (by kernel_rfl) (by kernel_rfl) (fun _ _ _ h => h) hS (Or.inl ⟨by kernel_rfl, fun w hS => (by clear hS; go_simp)⟩) ?_
            simp only [Act.put, List.setIfInBounds_toArray, List.set_cons_zero, List.set_cons_succ]
            refine wpAnyZ_take (i := 8) (v := .bool true) rfl (by kernel_rfl) (by kernel_rfl) (by kernel_rfl) (by kernel_rfl) (fun _ _ _ h => h) hS (Or.inl ⟨by kernel_rfl, fun w hS => (by clear hS; go_simp)⟩) ?_
            simp only [Act.put, List.setIfInBounds_toArray, List.set_cons_zero, List.set_cons_succ]
            refine wpAnyZ_take (i := 9) rfl (by kernel_rfl) (by kernel_rfl) (by kernel_rfl) (by kernel_rfl) (fun _ _ _ h => h) hS (yieldsIf_load_mid (by kernel_rfl) 35 (.tmp 11) rfl gb 0 (by kernel_rfl) (vals 16 sm) _ (fun w hS => (hS.at (by simp)).range) hub rfl hib) ?_
            simp only [Act.put, List.setIfInBounds_toArray, List.set_cons_zero, List.set_cons_succ]
            refine wpAnyZ_take (i := 10) rfl (by kernel_rfl) (by kernel_rfl) (by kernel_rfl) (by kernel_rfl) (fun _ _ _ h => h) hS (yieldsIf_load_mid (by kernel_rfl) 35 (.tmp 12) rfl gc 0 (by kernel_rfl) (vals 16 pt) _ (fun w hS => (hS.at (by simp)).range) hub rfl hib) ?_
            simp only [Act.put, List.setIfInBounds_toArray, List.set_cons_zero, List.set_cons_succ]
            refine wpAnyZ_take (i := 11) (v := .bool true) rfl (by kernel_rfl) (by kernel_rfl) (by kernel_rfl) (by kernel_rfl) (fun _ _ _ h => h) hS (Or.inl ⟨by kernel_rfl, fun w hS => (by clear hS; go_simp)⟩) ?_
            simp only [Act.put, List.setIfInBounds_toArray, List.set_cons_zero, List.set_cons_succ]
            refine wpAnyZ_take (i := 12) (v := .bool true) rfl (by kernel_rfl) (by kernel_rfl) (by kernel_rfl) (by kernel_rfl) (fun _ _ _ h => h) hS (Or.inl ⟨by kernel_rfl, fun w hS => (by clear hS; go_simp)⟩) ?_
            simp only [Act.put, List.setIfInBounds_toArray, List.set_cons_zero, List.set_cons_succ]
            refine wpAnyZ_take (i := 13) (v := .bool true) rfl (by kernel_rfl) (by kernel_rfl) (by kernel_rfl) (by kernel_rfl) (fun _ _ _ h => h) hS (Or.inl ⟨by kernel_rfl, fun w hS => (by clear hS; go_simp)⟩) ?_
            simp only [Act.put, List.setIfInBounds_toArray, List.set_cons_zero, List.set_cons_succ]
            refine wpAnyZ_take (i := 14) rfl (by kernel_rfl) (by kernel_rfl) (by kernel_rfl) (by kernel_rfl) (fun _ _ _ h => h) hS (yieldsIf_load_mid (by kernel_rfl) 35 (.tmp 3) rfl w.heap.size 0 (by kernel_rfl) (vals 16 x) _ (fun w hS => (hS.at (by simp)).range) hub rfl hib) ?_
            simp only [Act.put, List.setIfInBounds_toArray, List.set_cons_zero, List.set_cons_succ]
            refine wpAnyZ_take (i := 17) rfl (by kernel_rfl) (by kernel_rfl) (by kernel_rfl) (by kernel_rfl) (fun _ _ _ h => h) hS (yieldsIf_load_mid (by kernel_rfl) 35 (.tmp 3) rfl w.heap.size 0 (by kernel_rfl) (vals 16 x) _ (fun w hS => (hS.at (by simp)).range) hub rfl hib) ?_
            simp only [Act.put, List.setIfInBounds_toArray, List.set_cons_zero, List.set_cons_succ]
            refine wpAnyZ_one (i := 15) (by kernel_rfl) rfl (fun K hK => ?_)
            go_simp
            go_at_call 28
            refine (one_of _).mono ?_
            rintro e w8 ⟨rfl, hb8⟩
            go_wp2_with fail
            refine hK.out _ _ (fun _ => hS.grow hb8) ?_
            replace hS := hS.grow hb8
            clear hK K
            try simp only [Act.put, List.setIfInBounds_toArray, List.set_cons_zero, List.set_cons_succ]
            refine wpAnyZ_one (i := 16) (by kernel_rfl) rfl (fun K hK => ?_)
            go_simp
            go_at_call 22
            refine (mul_of x oneB _ ox oneB_lt).mono ?_
            rintro e w8 ⟨rfl, hb8⟩
            rw [← eon.out]
            go_wp2_with fail
            refine hK.out _ _ (fun _ => hS.grow hb8) ?_
            replace hS := hS.grow hb8
            clear hK K
            try simp only [Act.put, List.setIfInBounds_toArray, List.set_cons_zero, List.set_cons_succ]
            refine wpAnyZ_take (i := 18) (v := .bool true) rfl (by kernel_rfl) (by kernel_rfl) (by kernel_rfl) (by kernel_rfl) (fun _ _ _ h => h) hS (Or.inl ⟨by kernel_rfl, fun w hS => (by clear hS; go_simp)⟩) ?_
            simp only [Act.put, List.setIfInBounds_toArray, List.set_cons_zero, List.set_cons_succ]
            refine wpAnyZ_take (i := 19) (v := .bool true) rfl (by kernel_rfl) (by kernel_rfl) (by kernel_rfl) (by kernel_rfl) (fun _ _ _ h => h) hS (Or.inl ⟨by kernel_rfl, fun w hS => (by clear hS; go_simp)⟩) ?_
            simp only [Act.put, List.setIfInBounds_toArray, List.set_cons_zero, List.set_cons_succ]
            refine wpAnyZ_take (i := 20) (v := .bool true) rfl (by kernel_rfl) (by kernel_rfl) (by kernel_rfl) (by kernel_rfl) (fun _ _ _ h => h) hS (Or.inl ⟨by kernel_rfl, fun w hS => (by clear hS; go_simp)⟩) ?_
            simp only [Act.put, List.setIfInBounds_toArray, List.set_cons_zero, List.set_cons_succ]
            refine wpAnyZ_take (i := 21) rfl (by kernel_rfl) (by kernel_rfl) (by kernel_rfl) (by kernel_rfl) (fun _ _ _ h => h) hS (yieldsIf_load_mid (by kernel_rfl) 35 (.tmp 13) rfl gd 0 (by kernel_rfl) (vals 16 nn) _ (fun w hS => (hS.at (by simp)).range) hub rfl hib) ?_
            simp only [Act.put, List.setIfInBounds_toArray, List.set_cons_zero, List.set_cons_succ]
            refine wpAnyZ_take (i := 22) (v := .agg (vals 16 fun _ => 0).toArray) rfl (by kernel_rfl) (by kernel_rfl) (by kernel_rfl) (by kernel_rfl) (fun _ _ _ h => h) hS (Or.inl ⟨by kernel_rfl, fun w hS => (by clear hS; go_simp)⟩) ?_
            simp only [Act.put, List.setIfInBounds_toArray, List.set_cons_zero, List.set_cons_succ]
            refine wpAnyZ_take (i := 23) (v := .bool true) rfl (by kernel_rfl) (by kernel_rfl) (by kernel_rfl) (by kernel_rfl) (fun _ _ _ h => h) hS (Or.inl ⟨by kernel_rfl, fun w hS => (by clear hS; go_simp)⟩) ?_
            simp only [Act.put, List.setIfInBounds_toArray, List.set_cons_zero, List.set_cons_succ]
            refine wpAnyZ_take (i := 24) (v := .bool true) rfl (by kernel_rfl) (by kernel_rfl) (by kernel_rfl) (by kernel_rfl) (fun _ _ _ h => h) hS (Or.inl ⟨by kernel_rfl, fun w hS => (by clear hS; go_simp)⟩) ?_
            simp only [Act.put, List.setIfInBounds_toArray, List.set_cons_zero, List.set_cons_succ]
            refine wpAnyZ_take (i := 25) (v := .bool true) rfl (by kernel_rfl) (by kernel_rfl) (by kernel_rfl) (by kernel_rfl) (fun _ _ _ h => h) hS (Or.inl ⟨by kernel_rfl, fun w hS => (by clear hS; go_simp)⟩) ?_
            simp only [Act.put, List.setIfInBounds_toArray, List.set_cons_zero, List.set_cons_succ]
            refine wpAnyZ_take (i := 26) rfl (by kernel_rfl) (by kernel_rfl) (by kernel_rfl) (by kernel_rfl) (fun _ _ _ h => h) hS (yieldsIf_load_mid (by kernel_rfl) 35 (.tmp 7) rfl g7 0 (by kernel_rfl) (vals 16 xy) _ (fun w hS => (hS.at (by simp)).range) hub rfl hib) ?_
            simp only [Act.put, List.setIfInBounds_toArray, List.set_cons_zero, List.set_cons_succ]
            refine wpAnyZ_take (i := 27) (v := .agg (vals 16 fun _ => 0).toArray) rfl (by kernel_rfl) (by kernel_rfl) (by kernel_rfl) (by kernel_rfl) (fun _ _ _ h => h) hS (Or.inl ⟨by kernel_rfl, fun w hS => (by clear hS; go_simp)⟩) ?_
            simp only [Act.put, List.setIfInBounds_toArray, List.set_cons_zero, List.set_cons_succ]
            refine wpAnyZ_take (i := 28) (v := .bool false) rfl (by kernel_rfl) (by kernel_rfl) (by kernel_rfl) (by kernel_rfl) (fun _ _ _ h => h) hS (Or.inl ⟨by kernel_rfl, fun w hS => (by clear hS; go_simp)⟩) ?_
            simp only [Act.put, List.setIfInBounds_toArray, List.set_cons_zero, List.set_cons_succ]
            refine wpAnyZ_take (i := 29) (v := .bool false) rfl (by kernel_rfl) (by kernel_rfl) (by kernel_rfl) (by kernel_rfl) (fun _ _ _ h => h) hS (Or.inl ⟨by kernel_rfl, fun w hS => (by clear hS; go_simp)⟩) ?_
            simp only [Act.put, List.setIfInBounds_toArray, List.set_cons_zero, List.set_cons_succ]
            refine wpAnyZ_take (i := 30) rfl (by kernel_rfl) (by kernel_rfl) (by kernel_rfl) (by kernel_rfl) (fun _ _ _ h => h) hS (yieldsIf_load_mid (by kernel_rfl) 35 (.tmp 3) rfl w.heap.size 0 (by kernel_rfl) (vals 16 x) _ (fun w hS => (hS.at (by simp)).range) hub rfl hib) ?_
            simp only [Act.put, List.setIfInBounds_toArray, List.set_cons_zero, List.set_cons_succ]
            refine wpAnyZ_take (i := 31) (v := .agg (vals 16 fun _ => 0).toArray) rfl (by kernel_rfl) (by kernel_rfl) (by kernel_rfl) (by kernel_rfl) (fun _ _ _ h => h) hS (Or.inl ⟨by kernel_rfl, fun w hS => (by clear hS; go_simp)⟩) ?_
            simp only [Act.put, List.setIfInBounds_toArray, List.set_cons_zero, List.set_cons_succ]
            refine wpAnyZ_take (i := 32) (v := .bool true) rfl (by kernel_rfl) (by kernel_rfl) (by kernel_rfl) (by kernel_rfl) (fun _ _ _ h => h) hS (Or.inl ⟨by kernel_rfl, fun w hS => (by clear hS; go_simp)⟩) ?_
            simp only [Act.put, List.setIfInBounds_toArray, List.set_cons_zero, List.set_cons_succ]
            refine wpAnyZ_take (i := 33) (v := .bool true) rfl (by kernel_rfl) (by kernel_rfl) (by kernel_rfl) (by kernel_rfl) (fun _ _ _ h => h) hS (Or.inl ⟨by kernel_rfl, fun w hS => (by clear hS; go_simp)⟩) ?_
            simp only [Act.put, List.setIfInBounds_toArray, List.set_cons_zero, List.set_cons_succ]
            refine wpAnyZ_take (i := 34) (v := .bool true) rfl (by kernel_rfl) (by kernel_rfl) (by kernel_rfl) (by kernel_rfl) (fun _ _ _ h => h) hS (Or.inl ⟨by kernel_rfl, fun w hS => (by clear hS; go_simp)⟩) ?_
            simp only [Act.put, List.setIfInBounds_toArray, List.set_cons_zero, List.set_cons_succ]
            refine wpAnyZ_take (i := 35) (v := undef) rfl (by kernel_rfl) (by kernel_rfl) (by kernel_rfl) (by kernel_rfl) (fun _ _ _ h => h) hS (Or.inr ⟨by kernel_rfl, rfl⟩) ?_
            simp only [Act.put, List.setIfInBounds_toArray, List.set_cons_zero, List.set_cons_succ]
            refine wpAnyZ_take (i := 36) (v := undef) rfl (by kernel_rfl) (by kernel_rfl) (by kernel_rfl) (by kernel_rfl) (fun _ _ _ h => h) hS (Or.inr ⟨by kernel_rfl, rfl⟩) ?_
            simp only [Act.put, List.setIfInBounds_toArray, List.set_cons_zero, List.set_cons_succ]
            refine wpAnyZ_take (i := 37) (v := undef) rfl (by kernel_rfl) (by kernel_rfl) (by kernel_rfl) (by kernel_rfl) (fun _ _ _ h => h) hS (Or.inr ⟨by kernel_rfl, rfl⟩) ?_
            simp only [Act.put, List.setIfInBounds_toArray, List.set_cons_zero, List.set_cons_succ]
            refine wpAnyZ_take (i := 38) (v := .bool true) rfl (by kernel_rfl) (by kernel_rfl) (by kernel_rfl) (by kernel_rfl) (fun _ _ _ h => h) hS (Or.inl ⟨by kernel_rfl, fun w hS => (by clear hS; go_simp)⟩) ?_
            simp only [Act.put, List.setIfInBounds_toArray, List.set_cons_zero, List.set_cons_succ]
            refine wpAnyZ_take (i := 39) (v := .bool true) rfl (by kernel_rfl) (by kernel_rfl) (by kernel_rfl) (by kernel_rfl) (fun _ _ _ h => h) hS (Or.inl ⟨by kernel_rfl, fun w hS => (by clear hS; go_simp)⟩) ?_
            simp only [Act.put, List.setIfInBounds_toArray, List.set_cons_zero, List.set_cons_succ]
            refine wpAnyZ_take (i := 40) (v := .bool true) rfl (by kernel_rfl) (by kernel_rfl) (by kernel_rfl) (by kernel_rfl) (fun _ _ _ h => h) hS (Or.inl ⟨by kernel_rfl, fun w hS => (by clear hS; go_simp)⟩) ?_
            simp only [Act.put, List.setIfInBounds_toArray, List.set_cons_zero, List.set_cons_succ]
            refine wpAnyZ_one (i := 41) (by kernel_rfl) rfl (fun K hK => ?_)
            go_simp
            go_at_call 24
            refine (gknown_any _).mono ?_
            rintro e w8 ⟨rfl, hb8⟩
            go_wp2_with fail
            refine hK.out _ _ (fun _ => hS.grow hb8) ?_
            replace hS := hS.grow hb8
            clear hK K
            try simp only [Act.put, List.setIfInBounds_toArray, List.set_cons_zero, List.set_cons_succ]
            refine wpAnyZ_take (i := 42) (v := .bool true) rfl (by kernel_rfl) (by kernel_rfl) (by kernel_rfl) (by kernel_rfl) (fun _ _ _ h => h) hS (Or.inl ⟨by kernel_rfl, fun w hS => (by clear hS; go_simp)⟩) ?_
            simp only [Act.put, List.setIfInBounds_toArray, List.set_cons_zero, List.set_cons_succ]
            refine wpAnyZ_one (i := 43) (by kernel_rfl) rfl (fun K hK => ?_)
            go_simp
            refine hK.out _ _ (fun _ => hS) ?_
            clear hK K
            try simp only [Act.put, List.setIfInBounds_toArray, List.set_cons_zero, List.set_cons_succ]
            refine wpAnyZ_done (by kernel_rfl) ?_ _
            go_wp2_with fail
            go_ret
            exact ⟨rfl, hS.below⟩
          · have q6 := fun w => cmp_yes oxy onul c6 w
            have q7 : ∀ w, (Op.equalIn 10000 35 (.agg (vals 16 x).toArray) (.agg (vals 16 fun _ => 0).toArray)).run Try.prog w = .ok false w := fun w => by have := cmp16 ox onul w; rwa [beq_eq_false_iff_ne.2 c7] at this
            have q8 := fun w => cmp_yes oy onul c8 w
            refine wp_region_z (Arn w ([(gd, nn)] ++ ([(gc, pt)] ++ ([(gb, sm)] ++ ([(g9, lf), (ga, rt)] ++ ([(g7, xy), (g8, yx)] ++ [(w.heap.size + 1 + 1, z), (w.heap.size + 1, y), (w.heap.size, x)])))))) 44 (by kernel_rfl) hSd (fun hS => ?_)
            clear hSd
            generalize World.drew _ = w9 at hS ⊢
            refine wpAnyZ_take (i := 0) rfl (by kernel_rfl) (by kernel_rfl) (by kernel_rfl) (by kernel_rfl) (fun _ _ _ h => h) hS (yieldsIf_load_mid (by kernel_rfl) 35 (.tmp 7) rfl g7 0 (by kernel_rfl) (vals 16 xy) _ (fun w hS => (hS.at (by simp)).range) hub rfl hib) ?_
            simp only [Act.put, List.setIfInBounds_toArray, List.set_cons_zero, List.set_cons_succ]
            refine wpAnyZ_take (i := 1) rfl (by kernel_rfl) (by kernel_rfl) (by kernel_rfl) (by kernel_rfl) (fun _ _ _ h => h) hS (yieldsIf_load_mid (by kernel_rfl) 35 (.tmp 8) rfl g8 0 (by kernel_rfl) (vals 16 yx) _ (fun w hS => (hS.at (by simp)).range) hub rfl hib) ?_
            simp only [Act.put, List.setIfInBounds_toArray, List.set_cons_zero, List.set_cons_succ]
            refine wpAnyZ_take (i := 2) (v := .bool true) rfl (by kernel_rfl) (by kernel_rfl) (by kernel_rfl) (by kernel_rfl) (fun _ _ _ h => h) hS (Or.inl ⟨by kernel_rfl, fun w hS => (by clear hS; go_simp)⟩) ?_
            simp only [Act.put, List.setIfInBounds_toArray, List.set_cons_zero, List.set_cons_succ]
            refine wpAnyZ_take (i := 3) (v := .bool true) rfl (by kernel_rfl) (by kernel_rfl) (by kernel_rfl) (by kernel_rfl) (fun _ _ _ h => h) hS (Or.inl ⟨by kernel_rfl, fun w hS => (by clear hS; go_simp)⟩) ?_
            simp only [Act.put, List.setIfInBounds_toArray, List.set_cons_zero, List.set_cons_succ]
            refine wpAnyZ_take (i := 4) rfl (by kernel_rfl) (by kernel_rfl) (by kernel_rfl) (by kernel_rfl) (fun _ _ _ h => h) hS (yieldsIf_load_mid (by kernel_rfl) 35 (.tmp 9) rfl g9 0 (by kernel_rfl) (vals 16 lf) _ (fun w hS => (hS.at (by simp)).range) hub rfl hib) ?_
            simp only [Act.put, List.setIfInBounds_toArray, List.set_cons_zero, List.set_cons_succ]
            refine wpAnyZ_take (i := 5) rfl (by kernel_rfl) (by kernel_rfl) (by kernel_rfl) (by kernel_rfl) (fun _ _ _ h => h) hS (yieldsIf_load_mid (by kernel_rfl) 35 (.tmp 10) rfl ga 0 (by kernel_rfl) (vals 16 rt) _ (fun w hS => (hS.at (by simp)).range) hub rfl hib) ?_
            simp only [Act.put, List.setIfInBounds_toArray, List.set_cons_zero, List.set_cons_succ]
            refine wpAnyZ_take (i := 6) (v := .bool true) rfl (by kernel_rfl) (by kernel_rfl) (by kernel_rfl) (by kernel_rfl) (fun _ _ _ h => h) hS (Or.inl ⟨by kernel_rfl, fun w hS => (by clear hS; go_simp)⟩) ?_
            simp only [Act.put, List.setIfInBounds_toArray, List.set_cons_zero, List.set_cons_succ]
            refine wpAnyZ_take (i := 7) (v := .bool true) rfl (by kernel_rfl) (by kernel_rfl) (by kernel_rfl) (by kernel_rfl) (fun _ _ _ h => h) hS (Or.inl ⟨by kernel_rfl, fun w hS => (by clear hS; go_simp)⟩) ?_
            simp only [Act.put, List.setIfInBounds_toArray, List.set_cons_zero, List.set_cons_succ]
            refine wpAnyZ_take (i := 8) (v := .bool true) rfl (by kernel_rfl) (by kernel_rfl) (by kernel_rfl) (by kernel_rfl) (fun _ _ _ h => h) hS (Or.inl ⟨by kernel_rfl, fun w hS => (by clear hS; go_simp)⟩) ?_
            simp only [Act.put, List.setIfInBounds_toArray, List.set_cons_zero, List.set_cons_succ]
            refine wpAnyZ_take (i := 9) rfl (by kernel_rfl) (by kernel_rfl) (by kernel_rfl) (by kernel_rfl) (fun _ _ _ h => h) hS (yieldsIf_load_mid (by kernel_rfl) 35 (.tmp 11) rfl gb 0 (by kernel_rfl) (vals 16 sm) _ (fun w hS => (hS.at (by simp)).range) hub rfl hib) ?_
            simp only [Act.put, List.setIfInBounds_toArray, List.set_cons_zero, List.set_cons_succ]
            refine wpAnyZ_take (i := 10) rfl (by kernel_rfl) (by kernel_rfl) (by kernel_rfl) (by kernel_rfl) (fun _ _ _ h => h) hS (yieldsIf_load_mid (by kernel_rfl) 35 (.tmp 12) rfl gc 0 (by kernel_rfl) (vals 16 pt) _ (fun w hS => (hS.at (by simp)).range) hub rfl hib) ?_
            simp only [Act.put, List.setIfInBounds_toArray, List.set_cons_zero, List.set_cons_succ]
            refine wpAnyZ_take (i := 11) (v := .bool true) rfl (by kernel_rfl) (by kernel_rfl) (by kernel_rfl) (by kernel_rfl) (fun _ _ _ h => h) hS (Or.inl ⟨by kernel_rfl, fun w hS => (by clear hS; go_simp)⟩) ?_
            simp only [Act.put, List.setIfInBounds_toArray, List.set_cons_zero, List.set_cons_succ]
            refine wpAnyZ_take (i := 12) (v := .bool true) rfl (by kernel_rfl) (by kernel_rfl) (by kernel_rfl) (by kernel_rfl) (fun _ _ _ h => h) hS (Or.inl ⟨by kernel_rfl, fun w hS => (by clear hS; go_simp)⟩) ?_
            simp only [Act.put, List.setIfInBounds_toArray, List.set_cons_zero, List.set_cons_succ]
            refine wpAnyZ_take (i := 13) (v := .bool true) rfl (by kernel_rfl) (by kernel_rfl) (by kernel_rfl) (by kernel_rfl) (fun _ _ _ h => h) hS (Or.inl ⟨by kernel_rfl, fun w hS => (by clear hS; go_simp)⟩) ?_
            simp only [Act.put, List.setIfInBounds_toArray, List.set_cons_zero, List.set_cons_succ]
            refine wpAnyZ_take (i := 14) rfl (by kernel_rfl) (by kernel_rfl) (by kernel_rfl) (by kernel_rfl) (fun _ _ _ h => h) hS (yieldsIf_load_mid (by kernel_rfl) 35 (.tmp 3) rfl w.heap.size 0 (by kernel_rfl) (vals 16 x) _ (fun w hS => (hS.at (by simp)).range) hub rfl hib) ?_
            simp only [Act.put, List.setIfInBounds_toArray, List.set_cons_zero, List.set_cons_succ]
            refine wpAnyZ_take (i := 17) rfl (by kernel_rfl) (by kernel_rfl) (by kernel_rfl) (by kernel_rfl) (fun _ _ _ h => h) hS (yieldsIf_load_mid (by kernel_rfl) 35 (.tmp 3) rfl w.heap.size 0 (by kernel_rfl) (vals 16 x) _ (fun w hS => (hS.at (by simp)).range) hub rfl hib) ?_
            simp only [Act.put, List.setIfInBounds_toArray, List.set_cons_zero, List.set_cons_succ]
            refine wpAnyZ_one (i := 15) (by kernel_rfl) rfl (fun K hK => ?_)
            go_simp
            go_at_call 28
            refine (one_of _).mono ?_
            rintro e w8 ⟨rfl, hb8⟩
            go_wp2_with fail
            refine hK.out _ _ (fun _ => hS.grow hb8) ?_
            replace hS := hS.grow hb8
            clear hK K
            try simp only [Act.put, List.setIfInBounds_toArray, List.set_cons_zero, List.set_cons_succ]
            refine wpAnyZ_one (i := 16) (by kernel_rfl) rfl (fun K hK => ?_)
            go_simp
            go_at_call 22
            refine (mul_of x oneB _ ox oneB_lt).mono ?_
            rintro e w8 ⟨rfl, hb8⟩
            rw [← eon.out]
            go_wp2_with fail
            refine hK.out _ _ (fun _ => hS.grow hb8) ?_
            replace hS := hS.grow hb8
            clear hK K
            try simp only [Act.put, List.setIfInBounds_toArray, List.set_cons_zero, List.set_cons_succ]
            refine wpAnyZ_take (i := 18) (v := .bool true) rfl (by kernel_rfl) (by kernel_rfl) (by kernel_rfl) (by kernel_rfl) (fun _ _ _ h => h) hS (Or.inl ⟨by kernel_rfl, fun w hS => (by clear hS; go_simp)⟩) ?_
            simp only [Act.put, List.setIfInBounds_toArray, List.set_cons_zero, List.set_cons_succ]
            refine wpAnyZ_take (i := 19) (v := .bool true) rfl (by kernel_rfl) (by kernel_rfl) (by kernel_rfl) (by kernel_rfl) (fun _ _ _ h => h) hS (Or.inl ⟨by kernel_rfl, fun w hS => (by clear hS; go_simp)⟩) ?_
            simp only [Act.put, List.setIfInBounds_toArray, List.set_cons_zero, List.set_cons_succ]
            refine wpAnyZ_take (i := 20) (v := .bool true) rfl (by kernel_rfl) (by kernel_rfl) (by kernel_rfl) (by kernel_rfl) (fun _ _ _ h => h) hS (Or.inl ⟨by kernel_rfl, fun w hS => (by clear hS; go_simp)⟩) ?_
            simp only [Act.put, List.setIfInBounds_toArray, List.set_cons_zero, List.set_cons_succ]
            refine wpAnyZ_take (i := 21) rfl (by kernel_rfl) (by kernel_rfl) (by kernel_rfl) (by kernel_rfl) (fun _ _ _ h => h) hS (yieldsIf_load_mid (by kernel_rfl) 35 (.tmp 13) rfl gd 0 (by kernel_rfl) (vals 16 nn) _ (fun w hS => (hS.at (by simp)).range) hub rfl hib) ?_
            simp only [Act.put, List.setIfInBounds_toArray, List.set_cons_zero, List.set_cons_succ]
            refine wpAnyZ_take (i := 22) (v := .agg (vals 16 fun _ => 0).toArray) rfl (by kernel_rfl) (by kernel_rfl) (by kernel_rfl) (by kernel_rfl) (fun _ _ _ h => h) hS (Or.inl ⟨by kernel_rfl, fun w hS => (by clear hS; go_simp)⟩) ?_
            simp only [Act.put, List.setIfInBounds_toArray, List.set_cons_zero, List.set_cons_succ]
            refine wpAnyZ_take (i := 23) (v := .bool true) rfl (by kernel_rfl) (by kernel_rfl) (by kernel_rfl) (by kernel_rfl) (fun _ _ _ h => h) hS (Or.inl ⟨by kernel_rfl, fun w hS => (by clear hS; go_simp)⟩) ?_
            simp only [Act.put, List.setIfInBounds_toArray, List.set_cons_zero, List.set_cons_succ]
            refine wpAnyZ_take (i := 24) (v := .bool true) rfl (by kernel_rfl) (by kernel_rfl) (by kernel_rfl) (by kernel_rfl) (fun _ _ _ h => h) hS (Or.inl ⟨by kernel_rfl, fun w hS => (by clear hS; go_simp)⟩) ?_
            simp only [Act.put, List.setIfInBounds_toArray, List.set_cons_zero, List.set_cons_succ]
            refine wpAnyZ_take (i := 25) (v := .bool true) rfl (by kernel_rfl) (by kernel_rfl) (by kernel_rfl) (by kernel_rfl) (fun _ _ _ h => h) hS (Or.inl ⟨by kernel_rfl, fun w hS => (by clear hS; go_simp)⟩) ?_
            simp only [Act.put, List.setIfInBounds_toArray, List.set_cons_zero, List.set_cons_succ]
            refine wpAnyZ_take (i := 26) rfl (by kernel_rfl) (by kernel_rfl) (by kernel_rfl) (by kernel_rfl) (fun _ _ _ h => h) hS (yieldsIf_load_mid (by kernel_rfl) 35 (.tmp 7) rfl g7 0 (by kernel_rfl) (vals 16 xy) _ (fun w hS => (hS.at (by simp)).range) hub rfl hib) ?_
            simp only [Act.put, List.setIfInBounds_toArray, List.set_cons_zero, List.set_cons_succ]
            refine wpAnyZ_take (i := 27) (v := .agg (vals 16 fun _ => 0).toArray) rfl (by kernel_rfl) (by kernel_rfl) (by kernel_rfl) (by kernel_rfl) (fun _ _ _ h => h) hS (Or.inl ⟨by kernel_rfl, fun w hS => (by clear hS; go_simp)⟩) ?_
            simp only [Act.put, List.setIfInBounds_toArray, List.set_cons_zero, List.set_cons_succ]
            refine wpAnyZ_take (i := 28) (v := .bool false) rfl (by kernel_rfl) (by kernel_rfl) (by kernel_rfl) (by kernel_rfl) (fun _ _ _ h => h) hS (Or.inl ⟨by kernel_rfl, fun w hS => (by clear hS; go_simp)⟩) ?_
            simp only [Act.put, List.setIfInBounds_toArray, List.set_cons_zero, List.set_cons_succ]
            refine wpAnyZ_take (i := 29) (v := .bool false) rfl (by kernel_rfl) (by kernel_rfl) (by kernel_rfl) (by kernel_rfl) (fun _ _ _ h => h) hS (Or.inl ⟨by kernel_rfl, fun w hS => (by clear hS; go_simp)⟩) ?_
            simp only [Act.put, List.setIfInBounds_toArray, List.set_cons_zero, List.set_cons_succ]
            refine wpAnyZ_take (i := 30) rfl (by kernel_rfl) (by kernel_rfl) (by kernel_rfl) (by kernel_rfl) (fun _ _ _ h => h) hS (yieldsIf_load_mid (by kernel_rfl) 35 (.tmp 3) rfl w.heap.size 0 (by kernel_rfl) (vals 16 x) _ (fun w hS => (hS.at (by simp)).range) hub rfl hib) ?_
            simp only [Act.put, List.setIfInBounds_toArray, List.set_cons_zero, List.set_cons_succ]
            refine wpAnyZ_take (i := 31) (v := .agg (vals 16 fun _ => 0).toArray) rfl (by kernel_rfl) (by kernel_rfl) (by kernel_rfl) (by kernel_rfl) (fun _ _ _ h => h) hS (Or.inl ⟨by kernel_rfl, fun w hS => (by clear hS; go_simp)⟩) ?_
            simp only [Act.put, List.setIfInBounds_toArray, List.set_cons_zero, List.set_cons_succ]
            refine wpAnyZ_take (i := 32) (v := .bool false) rfl (by kernel_rfl) (by kernel_rfl) (by kernel_rfl) (by kernel_rfl) (fun _ _ _ h => h) hS (Or.inl ⟨by kernel_rfl, fun w hS => (by clear hS; go_simp)⟩) ?_
            simp only [Act.put, List.setIfInBounds_toArray, List.set_cons_zero, List.set_cons_succ]
            refine wpAnyZ_take (i := 33) (v := .bool false) rfl (by kernel_rfl) (by kernel_rfl) (by kernel_rfl) (by kernel_rfl) (fun _ _ _ h => h) hS (Or.inl ⟨by kernel_rfl, fun w hS => (by clear hS; go_simp)⟩) ?_
            simp only [Act.put, List.setIfInBounds_toArray, List.set_cons_zero, List.set_cons_succ]
            refine wpAnyZ_take (i := 34) (v := .bool false) rfl (by kernel_rfl) (by kernel_rfl) (by kernel_rfl) (by kernel_rfl) (fun _ _ _ h => h) hS (Or.inl ⟨by kernel_rfl, fun w hS => (by clear hS; go_simp)⟩) ?_
            simp only [Act.put, List.setIfInBounds_toArray, List.set_cons_zero, List.set_cons_succ]
            refine wpAnyZ_take (i := 35) rfl (by kernel_rfl) (by kernel_rfl) (by kernel_rfl) (by kernel_rfl) (fun _ _ _ h => h) hS (yieldsIf_load_mid (by kernel_rfl) 35 (.tmp 4) rfl (w.heap.size + 1) 0 (by kernel_rfl) (vals 16 y) _ (fun w hS => (hS.at (by simp)).range) hub rfl hib) ?_
            simp only [Act.put, List.setIfInBounds_toArray, List.set_cons_zero, List.set_cons_succ]
            refine wpAnyZ_take (i := 36) (v := .agg (vals 16 fun _ => 0).toArray) rfl (by kernel_rfl) (by kernel_rfl) (by kernel_rfl) (by kernel_rfl) (fun _ _ _ h => h) hS (Or.inl ⟨by kernel_rfl, fun w hS => (by clear hS; go_simp)⟩) ?_
            simp only [Act.put, List.setIfInBounds_toArray, List.set_cons_zero, List.set_cons_succ]
            refine wpAnyZ_take (i := 37) (v := .bool true) rfl (by kernel_rfl) (by kernel_rfl) (by kernel_rfl) (by kernel_rfl) (fun _ _ _ h => h) hS (Or.inl ⟨by kernel_rfl, fun w hS => (by clear hS; go_simp)⟩) ?_
            simp only [Act.put, List.setIfInBounds_toArray, List.set_cons_zero, List.set_cons_succ]
            refine wpAnyZ_take (i := 38) (v := .bool true) rfl (by kernel_rfl) (by kernel_rfl) (by kernel_rfl) (by kernel_rfl) (fun _ _ _ h => h) hS (Or.inl ⟨by kernel_rfl, fun w hS => (by clear hS; go_simp)⟩) ?_
            simp only [Act.put, List.setIfInBounds_toArray, List.set_cons_zero, List.set_cons_succ]
            refine wpAnyZ_take (i := 39) (v := .bool true) rfl (by kernel_rfl) (by kernel_rfl) (by kernel_rfl) (by kernel_rfl) (fun _ _ _ h => h) hS (Or.inl ⟨by kernel_rfl, fun w hS => (by clear hS; go_simp)⟩) ?_
            simp only [Act.put, List.setIfInBounds_toArray, List.set_cons_zero, List.set_cons_succ]
            refine wpAnyZ_take (i := 40) (v := .bool true) rfl (by kernel_rfl) (by kernel_rfl) (by kernel_rfl) (by kernel_rfl) (fun _ _ _ h => h) hS (Or.inl ⟨by kernel_rfl, fun w hS => (by clear hS; go_simp)⟩) ?_
            simp only [Act.put, List.setIfInBounds_toArray, List.set_cons_zero, List.set_cons_succ]
            refine wpAnyZ_one (i := 41) (by kernel_rfl) rfl (fun K hK => ?_)
            go_simp
            go_at_call 24
            refine (gknown_any _).mono ?_
            rintro e w8 ⟨rfl, hb8⟩
            go_wp2_with fail
            refine hK.out _ _ (fun _ => hS.grow hb8) ?_
            replace hS := hS.grow hb8
            clear hK K
            try simp only [Act.put, List.setIfInBounds_toArray, List.set_cons_zero, List.set_cons_succ]
            refine wpAnyZ_take (i := 42) (v := .bool true) rfl (by kernel_rfl) (by kernel_rfl) (by kernel_rfl) (by kernel_rfl) (fun _ _ _ h => h) hS (Or.inl ⟨by kernel_rfl, fun w hS => (by clear hS; go_simp)⟩) ?_
            simp only [Act.put, List.setIfInBounds_toArray, List.set_cons_zero, List.set_cons_succ]
            refine wpAnyZ_one (i := 43) (by kernel_rfl) rfl (fun K hK => ?_)
            go_simp
            refine hK.out _ _ (fun _ => hS) ?_
            clear hK K
            try simp only [Act.put, List.setIfInBounds_toArray, List.set_cons_zero, List.set_cons_succ]
            refine wpAnyZ_done (by kernel_rfl) ?_ _
            go_wp2_with fail
            go_ret
            exact ⟨rfl, hS.below⟩
end Go.Proofs.Ytdifilcgammniaa
