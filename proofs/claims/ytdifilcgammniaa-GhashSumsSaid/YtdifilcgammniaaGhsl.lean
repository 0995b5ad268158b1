/-
  The walk of GhashSums.
-/
import Derived.Test.YtdifilcgammniaaArn
import Derived.Test.YtdifilcgammniaaGhkn
import Derived.Test.YtdifilcgammniaaGhrt
import Derived.Test.YtdifilcgammniaaRsame
import Derived.Test.YtdifilcgammniaaOsl
namespace Go.Proofs.Ytdifilcgammniaa
open Go.RowKit
set_option linter.unusedVariables false
set_option linter.unusedSimpArgs false

set_option maxHeartbeats 8000000 in
set_option maxRecDepth 100000 in
theorem gsums_law (h : Nat → Nat) (p : Option Addr) (c : Nat) (xs : List Int) (q : Option Addr) (d : Nat) (ys : List Int) (w : World) (oh : ∀ j, h j < 256) (hp : Bin w p xs) (hx : Oct xs) (hm1 : xs.length ≤ 140737488351232) (hq : Bin w q ys) (hy : Oct ys) (hm2 : ys.length ≤ 140737488351232) :
    Calls Try.prog 7 #[.agg (vals 16 h).toArray, .slice p xs.length c, .slice q ys.length d] w fun e w' => e = .returned (.bool true) ∧ Below w.heap.size w w' := by
  have hzb := Try.zeroBlock
  have hub := Try.underlying35
  have hib := Try.sizeBlock
  obtain ⟨w1, hw1, hh1, hB, hsz⟩ := boxes1 w 16 h 35
  have hS0 : Arn w [(w.heap.size, h)] w1 := ⟨⟨fun q hq => by
    simp at hq
    subst hq
    exact hh1, hB⟩, by simp, fun q hq => by simp at hq; subst hq; simp⟩
  have hcp := fun w hp => copy_any p c xs w hp hm1
  obtain ⟨n, hn⟩ : ∃ n, n = xs.length := ⟨_, rfl⟩
  obtain ⟨m, hm⟩ : ∃ m, m = ys.length := ⟨_, rfl⟩
  rw [← hn] at hcp hm1 ⊢
  rw [← hm] at hm2 ⊢
  have HL := hid (And.intro hn.symm hm.symm)
  have HP := hid hp
  have HQ := hid hq
  obtain ⟨sm, esm⟩ : ∃ f : Nat → Nat, Hid (f = by16 (sumN (el h) xs ys)) := ⟨_, rfl⟩
  have osm : ∀ j, sm j < 256 := by rw [esm.out]; exact by16_lt _
  have q1 := fun w => cmp_yes osm osm rfl w
  clear hn hm hp hq hh1 hsz
  go_enter Try.func7, Try.ntmps7
  go_upto_region 1 with fail
  rw [← hw1.out]
  clear hw1
  by_cases h1 : 2000 < n
  · have i1 : (2000 : Int) < (n : Int) := by omega
    clear hcp
    go_wp2_with fail
    refine (gknown_any _).mono ?_
    rintro e w9 ⟨rfl, hb9⟩
    go_wp2_with fail
    go_ret
    exact ⟨rfl, hB.trans (hb9.mono hB.size)⟩
  · have i1 : (n : Int) ≤ 2000 := by omega
    by_cases h2 : 2000 < m
    · have i2 : (2000 : Int) < (m : Int) := by omega
      clear hcp
      go_wp2_with fail
      refine (gknown_any _).mono ?_
      rintro e w9 ⟨rfl, hb9⟩
      go_wp2_with fail
      go_ret
      exact ⟨rfl, hB.trans (hb9.mono hB.size)⟩
    · have i2 : (m : Int) ≤ 2000 := by omega
      go_wp2_with fail
      refine (hcp _ (HP.out.below hB)).mono ?_
      rintro e w2 ⟨ga, ca, rfl, hO, hb2⟩
      have hsa := hO.slice
      have hS2 := hS0.grow hb2
      clear hO hS0 hb2 hcp
      go_wp2_with fail
      have hcq := copy_any q d ys w2 (HQ.out.below hS2.below) (by rw [HL.out.2]; omega)
      rw [HL.out.2] at hcq
      refine hcq.mono ?_
      rintro e w3 ⟨gb, cb, rfl, hO, hb3⟩
      have hsb := hO.slice
      have hba := hsa.2.2.below hb3
      have hS3 := hS2.grow hb3
      clear hO hS2 hb3 hcq
      go_wp2_with (refine wpList_load_arr rfl 35 _ rfl w.heap.size rfl 16 h ?_ _ Try.underlying35 rfl Try.sizeBlock ?_; exact hS3.at (by simp))
      refine (sum_of h (some ⟨ga, 0, none⟩) (some ⟨gb, 0, none⟩) ca cb n m xs ys _ oh HL.out.1 HL.out.2 hba hsb.2.2 hx hy (by omega) (by omega) hsa.2.1 hsb.2.1).mono ?_
      rintro e w4 ⟨rfl, hb4⟩
      rw [← esm.out]
      have hS4 := hS3.grow hb4
      have hn9 := hS4.fresh 35
      have hz0 := hn9.at (g := w4.heap.size) (x := fun _ => 0) (by simp)
      have hS5 := hn9.put0 sm
      have hbg := below_setCells (b := w4.heap.size) (vals 16 sm) 0 ((Below.refl w4.heap.size w4).alloc (Nat.le_refl _) (.cells (vals 16 fun _ => 0).toArray 35)) (Nat.le_refl _)
      have hba5 := (hba.below hb4).below hbg
      have hbb5 := (hsb.2.2.below hb4).below hbg
      go_upto_region 5 with (refine wpList_store_arr rfl 35 _ _ rfl w4.heap.size 16 sm rfl rfl (fun _ => 0) ?_ Try.sizeBlock ?_; exact hz0)
      obtain ⟨g9, hn⟩ : ∃ g, Hid (g = w4.heap.size) := ⟨_, rfl⟩
      rw [← hn.out] at hS5 hba5 hbb5 ⊢
      generalize (w4.alloc (.cells (vals 16 fun _ => 0).toArray 35)).setCells g9 0 (vals 16 sm) = w5 at hS5 hba5 hbb5 ⊢
      clear hn hS3 hS4 hn9 hz0 hbg hba hsa hsb hb4
      have hd : Below w5.heap.size w5 w5.drew := (Below.refl _ _).drew
      have hG : ∀ {v v' : World}, (Arn w [(g9, sm), (w.heap.size, h)] v ∧ Bin v (some ⟨ga, 0, none⟩) xs ∧ Bin v (some ⟨gb, 0, none⟩) ys) → Below v.heap.size v v' → (Arn w [(g9, sm), (w.heap.size, h)] v' ∧ Bin v' (some ⟨ga, 0, none⟩) xs ∧ Bin v' (some ⟨gb, 0, none⟩) ys) := fun hS hb8 => ⟨hS.1.grow hb8, hS.2.1.below hb8, hS.2.2.below hb8⟩
      refine wp_region_z (fun v => Arn w [(g9, sm), (w.heap.size, h)] v ∧ Bin v (some ⟨ga, 0, none⟩) xs ∧ Bin v (some ⟨gb, 0, none⟩) ys) 20 (by kernel_rfl) (hG ⟨hS5, hba5, hbb5⟩ hd) (fun hS => ?_)
      clear hS5 hba5 hbb5 hd
      refine wpAnyZ_take (i := 0) (v := .slice (some ⟨ga, 0, none⟩) n ca) rfl (by kernel_rfl) (by kernel_rfl) (by kernel_rfl) (by kernel_rfl) (fun _ _ _ h => h) hS (Or.inl ⟨by kernel_rfl, fun w hS => (by clear hS; go_simp)⟩) ?_
      simp only [Act.put, List.setIfInBounds_toArray, List.set_cons_zero, List.set_cons_succ]
      refine wpAnyZ_take (i := 1) (v := .slice p n c) rfl (by kernel_rfl) (by kernel_rfl) (by kernel_rfl) (by kernel_rfl) (fun _ _ _ h => h) hS (Or.inl ⟨by kernel_rfl, fun w hS => (by clear hS; go_simp)⟩) ?_
      simp only [Act.put, List.setIfInBounds_toArray, List.set_cons_zero, List.set_cons_succ]
      refine wpAnyZ_one (i := 2) (by kernel_rfl) rfl (fun K hK => ?_)
      go_simp
      go_at_call 14
      refine (refSame_yes (some ⟨ga, 0, none⟩) p ca c n xs _ HL.out.1 hS.2.1 (HP.out.below hS.1.below) hx).mono ?_
      rintro e v8 ⟨rfl, rfl⟩
      go_wp2_with fail
      refine hK.out _ _ (fun _ => hS) ?_
      replace hS := hS
      clear hK K
      try simp only [Act.put, List.setIfInBounds_toArray, List.set_cons_zero, List.set_cons_succ]
      refine wpAnyZ_take (i := 3) (v := .bool true) rfl (by kernel_rfl) (by kernel_rfl) (by kernel_rfl) (by kernel_rfl) (fun _ _ _ h => h) hS (Or.inl ⟨by kernel_rfl, fun w hS => (by clear hS; go_simp)⟩) ?_
      simp only [Act.put, List.setIfInBounds_toArray, List.set_cons_zero, List.set_cons_succ]
      refine wpAnyZ_take (i := 4) (v := .slice (some ⟨gb, 0, none⟩) m cb) rfl (by kernel_rfl) (by kernel_rfl) (by kernel_rfl) (by kernel_rfl) (fun _ _ _ h => h) hS (Or.inl ⟨by kernel_rfl, fun w hS => (by clear hS; go_simp)⟩) ?_
      simp only [Act.put, List.setIfInBounds_toArray, List.set_cons_zero, List.set_cons_succ]
      refine wpAnyZ_take (i := 5) (v := .slice q m d) rfl (by kernel_rfl) (by kernel_rfl) (by kernel_rfl) (by kernel_rfl) (fun _ _ _ h => h) hS (Or.inl ⟨by kernel_rfl, fun w hS => (by clear hS; go_simp)⟩) ?_
      simp only [Act.put, List.setIfInBounds_toArray, List.set_cons_zero, List.set_cons_succ]
      refine wpAnyZ_one (i := 6) (by kernel_rfl) rfl (fun K hK => ?_)
      go_simp
      go_at_call 14
      refine (refSame_yes (some ⟨gb, 0, none⟩) q cb d m ys _ HL.out.2 hS.2.2 (HQ.out.below hS.1.below) hy).mono ?_
      rintro e v8 ⟨rfl, rfl⟩
      go_wp2_with fail
      refine hK.out _ _ (fun _ => hS) ?_
      replace hS := hS
      clear hK K
      try simp only [Act.put, List.setIfInBounds_toArray, List.set_cons_zero, List.set_cons_succ]
      refine wpAnyZ_take (i := 7) (v := .bool true) rfl (by kernel_rfl) (by kernel_rfl) (by kernel_rfl) (by kernel_rfl) (fun _ _ _ h => h) hS (Or.inl ⟨by kernel_rfl, fun w hS => (by clear hS; go_simp)⟩) ?_
      simp only [Act.put, List.setIfInBounds_toArray, List.set_cons_zero, List.set_cons_succ]
      refine wpAnyZ_take (i := 8) (v := .bool true) rfl (by kernel_rfl) (by kernel_rfl) (by kernel_rfl) (by kernel_rfl) (fun _ _ _ h => h) hS (Or.inl ⟨by kernel_rfl, fun w hS => (by clear hS; go_simp)⟩) ?_
      simp only [Act.put, List.setIfInBounds_toArray, List.set_cons_zero, List.set_cons_succ]
      refine wpAnyZ_take (i := 9) rfl (by kernel_rfl) (by kernel_rfl) (by kernel_rfl) (by kernel_rfl) (fun _ _ _ h => h) hS (yieldsIf_load_mid (by kernel_rfl) 35 (.tmp 9) rfl g9 0 (by kernel_rfl) (vals 16 sm) _ (fun w hS => (hS.1.at (by simp)).range) hub rfl hib) ?_
      simp only [Act.put, List.setIfInBounds_toArray, List.set_cons_zero, List.set_cons_succ]
      refine wpAnyZ_take (i := 10) rfl (by kernel_rfl) (by kernel_rfl) (by kernel_rfl) (by kernel_rfl) (fun _ _ _ h => h) hS (yieldsIf_load_mid (by kernel_rfl) 35 (.tmp 3) rfl w.heap.size 0 (by kernel_rfl) (vals 16 h) _ (fun w hS => (hS.1.at (by simp)).range) hub rfl hib) ?_
      simp only [Act.put, List.setIfInBounds_toArray, List.set_cons_zero, List.set_cons_succ]
      refine wpAnyZ_take (i := 11) (v := .slice p n c) rfl (by kernel_rfl) (by kernel_rfl) (by kernel_rfl) (by kernel_rfl) (fun _ _ _ h => h) hS (Or.inl ⟨by kernel_rfl, fun w hS => (by clear hS; go_simp)⟩) ?_
      simp only [Act.put, List.setIfInBounds_toArray, List.set_cons_zero, List.set_cons_succ]
      refine wpAnyZ_take (i := 12) (v := .slice q m d) rfl (by kernel_rfl) (by kernel_rfl) (by kernel_rfl) (by kernel_rfl) (fun _ _ _ h => h) hS (Or.inl ⟨by kernel_rfl, fun w hS => (by clear hS; go_simp)⟩) ?_
      simp only [Act.put, List.setIfInBounds_toArray, List.set_cons_zero, List.set_cons_succ]
      refine wpAnyZ_one (i := 13) (by kernel_rfl) rfl (fun K hK => ?_)
      go_simp
      go_at_call 26
      refine (refSum_of h p q c d n m xs ys _ oh HL.out.1 HL.out.2 (HP.out.below hS.1.below) (HQ.out.below hS.1.below) hx hy (by omega) (by omega)).mono ?_
      rintro e v8 ⟨rfl, hb8⟩
      rw [← esm.out]
      go_wp2_with fail
      refine hK.out _ _ (fun _ => hG hS hb8) ?_
      replace hS := hG hS hb8
      clear hK K
      try simp only [Act.put, List.setIfInBounds_toArray, List.set_cons_zero, List.set_cons_succ]
      refine wpAnyZ_take (i := 14) (v := .bool true) rfl (by kernel_rfl) (by kernel_rfl) (by kernel_rfl) (by kernel_rfl) (fun _ _ _ h => h) hS (Or.inl ⟨by kernel_rfl, fun w hS => (by clear hS; go_simp)⟩) ?_
      simp only [Act.put, List.setIfInBounds_toArray, List.set_cons_zero, List.set_cons_succ]
      refine wpAnyZ_take (i := 15) (v := .bool true) rfl (by kernel_rfl) (by kernel_rfl) (by kernel_rfl) (by kernel_rfl) (fun _ _ _ h => h) hS (Or.inl ⟨by kernel_rfl, fun w hS => (by clear hS; go_simp)⟩) ?_
      simp only [Act.put, List.setIfInBounds_toArray, List.set_cons_zero, List.set_cons_succ]
      refine wpAnyZ_take (i := 16) (v := .bool true) rfl (by kernel_rfl) (by kernel_rfl) (by kernel_rfl) (by kernel_rfl) (fun _ _ _ h => h) hS (Or.inl ⟨by kernel_rfl, fun w hS => (by clear hS; go_simp)⟩) ?_
      simp only [Act.put, List.setIfInBounds_toArray, List.set_cons_zero, List.set_cons_succ]
      refine wpAnyZ_one (i := 17) (by kernel_rfl) rfl (fun K hK => ?_)
      go_simp
      go_at_call 24
      refine (gknown_any _).mono ?_
      rintro e v8 ⟨rfl, hb8⟩
      go_wp2_with fail
      refine hK.out _ _ (fun _ => hG hS hb8) ?_
      replace hS := hG hS hb8
      clear hK K
      try simp only [Act.put, List.setIfInBounds_toArray, List.set_cons_zero, List.set_cons_succ]
      refine wpAnyZ_take (i := 18) (v := .bool true) rfl (by kernel_rfl) (by kernel_rfl) (by kernel_rfl) (by kernel_rfl) (fun _ _ _ h => h) hS (Or.inl ⟨by kernel_rfl, fun w hS => (by clear hS; go_simp)⟩) ?_
      simp only [Act.put, List.setIfInBounds_toArray, List.set_cons_zero, List.set_cons_succ]
      refine wpAnyZ_one (i := 19) (by kernel_rfl) rfl (fun K hK => ?_)
      go_simp
      refine hK.out _ _ (fun _ => hS) ?_
      clear hK K
      try simp only [Act.put, List.setIfInBounds_toArray, List.set_cons_zero, List.set_cons_succ]
      refine wpAnyZ_done (by kernel_rfl) ?_ _
      go_wp2_with fail
      go_ret
      exact ⟨rfl, hS.1.below⟩
end Go.Proofs.Ytdifilcgammniaa
