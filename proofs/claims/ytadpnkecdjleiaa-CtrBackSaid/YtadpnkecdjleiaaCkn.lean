/-
  'known' of layer 5's statements: noughts under noughts.
-/
import Derived.Test.YtadpnkecdjleiaaCcn
import Derived.Test.YtadpnkecdjleiaaCk
import Derived.Test.YtadpnkecdjleiaaGhc
import Derived.Test.YtadpnkecdjleiaaKa
namespace Go.Proofs.Ytadpnkecdjleiaa
open Go.RowKit
set_option linter.unusedVariables false
set_option linter.unusedSimpArgs false

theorem oct_noughts (n : Nat) : Oct (List.replicate n 0) := fun x hx => by rw [(List.mem_replicate.1 hx).2]; decide
theorem cry_known : cry (enc (wordB (16 / 4) (nats (List.replicate 16 0))) (16 / 4 + 6)) (frs (List.replicate 12 0)) (List.replicate 16 0) = row kT 16 := by
  unfold cry
  rw [List.length_replicate]
  refine row_same fun j hj => ?_
  have e : byt (List.replicate 16 0) j = 0 := by
    unfold byt
    rw [List.getD_eq_getElem?_getD, List.getElem?_replicate, if_pos hj]; rfl
  rw [e, Nat.zero_xor]
  exact strm_noughts j hj
theorem crypt_noughts (a b c : Nat) (w : World) (h1 : Bin w (some ⟨a, 0, none⟩) (List.replicate 16 0)) (h2 : Bin w (some ⟨b, 0, none⟩) (List.replicate 12 0)) (h3 : Bin w (some ⟨c, 0, none⟩) (List.replicate 16 0)) :
    Calls Try.prog 13 #[.slice (some ⟨a, 0, none⟩) 16 16, .slice (some ⟨b, 0, none⟩) 12 12, .slice (some ⟨c, 0, none⟩) 16 16] w fun e w' => ∃ v, e = .returned (.tuple #[v, .int .i64 0]) ∧ Own w.heap.size w' v 16 (row kT 16) ∧ Below w.heap.size w w' := by
  have h := crypt_of (some ⟨a, 0, none⟩) (some ⟨b, 0, none⟩) (some ⟨c, 0, none⟩) 16 12 16 16 (List.replicate 16 0) (List.replicate 12 0) (List.replicate 16 0) w h1 (oct_noughts 16) List.length_replicate (.inl rfl) (by decide) h2 (oct_noughts 12) List.length_replicate h3 (oct_noughts 16) (by rw [List.length_replicate]; decide) (by rw [List.length_replicate]; decide)
  rw [List.length_replicate, cry_known] at h
  exact h
theorem conv_known {w : World} {p : Option Addr} (h : Bin w p (row kT 16)) (cap : Nat) :
    (convert 22 9 (.slice p 16 cap)).run Try.prog w = .ok (.string { data := #[3, 136, 218, 206, 96, 182, 163, 146, 243, 40, 194, 185, 113, 178, 254, 120] }) w := by
  have := conv_str h cap
  rw [row_length] at this
  rw [this]
  rfl

set_option maxHeartbeats 4000000 in
set_option maxRecDepth 100000 in
theorem cknown_any (w : World) : Calls Try.prog 12 #[] w fun e w' => e = .returned (.bool true) ∧ Below w.heap.size w w' := by
  obtain ⟨i0, hi, hz0, hz1, hz2⟩ := info_parts Try.infoU8
  go_enter Try.func12, Try.ntmps12
  go_upto_region 1 with fail
  go_cut [1, 2] (fun s1 s2 wx => s2 = .int .i64 0 ∧ Own w.heap.size wx s1 16 (row kT 16) ∧ Below w.heap.size w wx)
  case first =>
    have hSd : Below w.heap.size w w.drew := (Below.refl _ _).drew
    refine wp_region_z (fun v => Below w.heap.size w v) 9 (by kernel_rfl) hSd (fun hS => ?_)
    clear hSd
    generalize World.drew _ = w9 at hS ⊢
    refine wpAnyZ_three (i := 0) (j := 1) (k := 2) (by kernel_rfl) rfl rfl rfl (fun K hK => ?_) (fun K hK => ?_) (fun K hK => ?_) 
    · refine step_make_full rfl _ _ 22 rfl i0 Try.underlying22 hi hz0 hz1 hz2 16 rfl rfl (by decide) (World.heap w9).size (Nat.le_refl _) ?_
      intro v0 hO hg
      have hbm : Below (World.heap w9).size w9 v0 := (Below.refl _ _).grown hg (Nat.le_refl _) (by simp)
      have hS2 := hS.trans (hbm.mono hS.size)
      have b0 := hO.slice.2.2
      refine hK.out _ _ (fun _ => hS2) ?_
      obtain ⟨g0, hn⟩ : ∃ g, Hid (g = (World.heap w9).size) := ⟨_, rfl⟩
      rw [← hn.out] at b0 ⊢
      clear hn hK K hS hO hg hbm
      have hS := hS2
      clear hS2
      try simp only [Act.put, List.setIfInBounds_toArray, List.set_cons_zero, List.set_cons_succ]
      refine wpAnyZ_two (i := 1) (j := 2) (by kernel_rfl) rfl rfl (fun K hK => ?_) (fun K hK => ?_) 
      · refine step_make_full rfl _ _ 22 rfl i0 Try.underlying22 hi hz0 hz1 hz2 12 rfl rfl (by decide) (World.heap v0).size (Nat.le_refl _) ?_
        intro v1 hO hg
        have hbm : Below (World.heap v0).size v0 v1 := (Below.refl _ _).grown hg (Nat.le_refl _) (by simp)
        have hS2 := hS.trans (hbm.mono hS.size)
        have b1 := hO.slice.2.2
        replace b0 := b0.below hbm
        refine hK.out _ _ (fun _ => hS2) ?_
        obtain ⟨g1, hn⟩ : ∃ g, Hid (g = (World.heap v0).size) := ⟨_, rfl⟩
        rw [← hn.out] at b1 ⊢
        clear hn hK K hS hO hg hbm
        have hS := hS2
        clear hS2
        try simp only [Act.put, List.setIfInBounds_toArray, List.set_cons_zero, List.set_cons_succ]
        refine wpAnyZ_one (i := 2) (by kernel_rfl) rfl (fun K hK => ?_)
        refine step_make_full rfl _ _ 22 rfl i0 Try.underlying22 hi hz0 hz1 hz2 16 rfl rfl (by decide) (World.heap v1).size (Nat.le_refl _) ?_
        intro v2 hO hg
        have hbm : Below (World.heap v1).size v1 v2 := (Below.refl _ _).grown hg (Nat.le_refl _) (by simp)
        have hS2 := hS.trans (hbm.mono hS.size)
        have b2 := hO.slice.2.2
        replace b0 := b0.below hbm
        replace b1 := b1.below hbm
        refine hK.out _ _ (fun _ => hS2) ?_
        obtain ⟨g2, hn⟩ : ∃ g, Hid (g = (World.heap v1).size) := ⟨_, rfl⟩
        rw [← hn.out] at b2 ⊢
        clear hn hK K hS hO hg hbm
        have hS := hS2
        clear hS2
        try simp only [Act.put, List.setIfInBounds_toArray, List.set_cons_zero, List.set_cons_succ]
        refine wpAnyZ_one (i := 3) (by kernel_rfl) rfl (fun K hK => ?_)
        go_simp
        go_at_call 13
        refine (crypt_noughts g0 g1 g2 _ b0 b1 b2).mono ?_
        rintro e v8 ⟨v, rfl, hv, hb8⟩
        clear b0 b1 b2
        go_wp2_with fail
        have hS2 := hS.trans (hb8.mono hS.size)
        have hv2 := hv.mono hS.size
        refine hK.out _ _ (fun _ => hS2) ?_
        clear hK K hS hv hb8
        have hS := hS2
        have HV := hid hv2
        clear hS2 hv2
        try simp only [Act.put, List.setIfInBounds_toArray, List.set_cons_zero, List.set_cons_succ]
        refine wpAnyZ_take (i := 4) (v := .tuple #[v, .int .i64 0]) rfl (by kernel_rfl) (by kernel_rfl) (by kernel_rfl) (by kernel_rfl) (fun _ _ _ h => h) hS (Or.inl ⟨by kernel_rfl, fun w hS => (by clear hS; go_simp)⟩) ?_
        simp only [Act.put, List.setIfInBounds_toArray, List.set_cons_zero, List.set_cons_succ]
        refine wpAnyZ_take (i := 5) (v := v) rfl (by kernel_rfl) (by kernel_rfl) (by kernel_rfl) (by kernel_rfl) (fun _ _ _ h => h) hS (Or.inl ⟨by kernel_rfl, fun w hS => (by clear hS; go_simp)⟩) ?_
        simp only [Act.put, List.setIfInBounds_toArray, List.set_cons_zero, List.set_cons_succ]
        refine wpAnyZ_take (i := 6) (v := .int .i64 0) rfl (by kernel_rfl) (by kernel_rfl) (by kernel_rfl) (by kernel_rfl) (fun _ _ _ h => h) hS (Or.inl ⟨by kernel_rfl, fun w hS => (by clear hS; go_simp)⟩) ?_
        simp only [Act.put, List.setIfInBounds_toArray, List.set_cons_zero, List.set_cons_succ]
        refine wpAnyZ_one (i := 7) (by kernel_rfl) rfl (fun K hK => ?_)
        go_simp
        refine hK.out _ _ (fun _ => hS) ?_
        clear hK K
        try simp only [Act.put, List.setIfInBounds_toArray, List.set_cons_zero, List.set_cons_succ]
        refine wpAnyZ_one (i := 8) (by kernel_rfl) rfl (fun K hK => ?_)
        go_simp
        refine hK.out _ _ (fun _ => hS) ?_
        clear hK K
        try simp only [Act.put, List.setIfInBounds_toArray, List.set_cons_zero, List.set_cons_succ]
        refine wpAnyZ_done (by kernel_rfl) ?_ _
        go_wp2_with fail
        go_meet
        exact ⟨rfl, HV.out, hS⟩
      · refine step_make_full rfl _ _ 22 rfl i0 Try.underlying22 hi hz0 hz1 hz2 16 rfl rfl (by decide) (World.heap v0).size (Nat.le_refl _) ?_
        intro v1 hO hg
        have hbm : Below (World.heap v0).size v0 v1 := (Below.refl _ _).grown hg (Nat.le_refl _) (by simp)
        have hS2 := hS.trans (hbm.mono hS.size)
        have b2 := hO.slice.2.2
        replace b0 := b0.below hbm
        refine hK.out _ _ (fun _ => hS2) ?_
        obtain ⟨g2, hn⟩ : ∃ g, Hid (g = (World.heap v0).size) := ⟨_, rfl⟩
        rw [← hn.out] at b2 ⊢
        clear hn hK K hS hO hg hbm
        have hS := hS2
        clear hS2
        try simp only [Act.put, List.setIfInBounds_toArray, List.set_cons_zero, List.set_cons_succ]
        refine wpAnyZ_one (i := 1) (by kernel_rfl) rfl (fun K hK => ?_)
        refine step_make_full rfl _ _ 22 rfl i0 Try.underlying22 hi hz0 hz1 hz2 12 rfl rfl (by decide) (World.heap v1).size (Nat.le_refl _) ?_
        intro v2 hO hg
        have hbm : Below (World.heap v1).size v1 v2 := (Below.refl _ _).grown hg (Nat.le_refl _) (by simp)
        have hS2 := hS.trans (hbm.mono hS.size)
        have b1 := hO.slice.2.2
        replace b0 := b0.below hbm
        replace b2 := b2.below hbm
        refine hK.out _ _ (fun _ => hS2) ?_
        obtain ⟨g1, hn⟩ : ∃ g, Hid (g = (World.heap v1).size) := ⟨_, rfl⟩
        rw [← hn.out] at b1 ⊢
        clear hn hK K hS hO hg hbm
        have hS := hS2
        clear hS2
        try simp only [Act.put, List.setIfInBounds_toArray, List.set_cons_zero, List.set_cons_succ]
        refine wpAnyZ_one (i := 3) (by kernel_rfl) rfl (fun K hK => ?_)
        go_simp
        go_at_call 13
        refine (crypt_noughts g0 g1 g2 _ b0 b1 b2).mono ?_
        rintro e v8 ⟨v, rfl, hv, hb8⟩
        clear b0 b1 b2
        go_wp2_with fail
        have hS2 := hS.trans (hb8.mono hS.size)
        have hv2 := hv.mono hS.size
        refine hK.out _ _ (fun _ => hS2) ?_
        clear hK K hS hv hb8
        have hS := hS2
        have HV := hid hv2
        clear hS2 hv2
        try simp only [Act.put, List.setIfInBounds_toArray, List.set_cons_zero, List.set_cons_succ]
        refine wpAnyZ_take (i := 4) (v := .tuple #[v, .int .i64 0]) rfl (by kernel_rfl) (by kernel_rfl) (by kernel_rfl) (by kernel_rfl) (fun _ _ _ h => h) hS (Or.inl ⟨by kernel_rfl, fun w hS => (by clear hS; go_simp)⟩) ?_
        simp only [Act.put, List.setIfInBounds_toArray, List.set_cons_zero, List.set_cons_succ]
        refine wpAnyZ_take (i := 5) (v := v) rfl (by kernel_rfl) (by kernel_rfl) (by kernel_rfl) (by kernel_rfl) (fun _ _ _ h => h) hS (Or.inl ⟨by kernel_rfl, fun w hS => (by clear hS; go_simp)⟩) ?_
        simp only [Act.put, List.setIfInBounds_toArray, List.set_cons_zero, List.set_cons_succ]
        refine wpAnyZ_take (i := 6) (v := .int .i64 0) rfl (by kernel_rfl) (by kernel_rfl) (by kernel_rfl) (by kernel_rfl) (fun _ _ _ h => h) hS (Or.inl ⟨by kernel_rfl, fun w hS => (by clear hS; go_simp)⟩) ?_
        simp only [Act.put, List.setIfInBounds_toArray, List.set_cons_zero, List.set_cons_succ]
        refine wpAnyZ_one (i := 7) (by kernel_rfl) rfl (fun K hK => ?_)
        go_simp
        refine hK.out _ _ (fun _ => hS) ?_
        clear hK K
        try simp only [Act.put, List.setIfInBounds_toArray, List.set_cons_zero, List.set_cons_succ]
        refine wpAnyZ_one (i := 8) (by kernel_rfl) rfl (fun K hK => ?_)
        go_simp
        refine hK.out _ _ (fun _ => hS) ?_
        clear hK K
        try simp only [Act.put, List.setIfInBounds_toArray, List.set_cons_zero, List.set_cons_succ]
        refine wpAnyZ_done (by kernel_rfl) ?_ _
        go_wp2_with fail
        go_meet
        exact ⟨rfl, HV.out, hS⟩
    · refine step_make_full rfl _ _ 22 rfl i0 Try.underlying22 hi hz0 hz1 hz2 12 rfl rfl (by decide) (World.heap w9).size (Nat.le_refl _) ?_
      intro v0 hO hg
      have hbm : Below (World.heap w9).size w9 v0 := (Below.refl _ _).grown hg (Nat.le_refl _) (by simp)
      have hS2 := hS.trans (hbm.mono hS.size)
      have b1 := hO.slice.2.2
      refine hK.out _ _ (fun _ => hS2) ?_
      obtain ⟨g1, hn⟩ : ∃ g, Hid (g = (World.heap w9).size) := ⟨_, rfl⟩
      rw [← hn.out] at b1 ⊢
      clear hn hK K hS hO hg hbm
      have hS := hS2
      clear hS2
      try simp only [Act.put, List.setIfInBounds_toArray, List.set_cons_zero, List.set_cons_succ]
      refine wpAnyZ_two (i := 0) (j := 2) (by kernel_rfl) rfl rfl (fun K hK => ?_) (fun K hK => ?_) 
      · refine step_make_full rfl _ _ 22 rfl i0 Try.underlying22 hi hz0 hz1 hz2 16 rfl rfl (by decide) (World.heap v0).size (Nat.le_refl _) ?_
        intro v1 hO hg
        have hbm : Below (World.heap v0).size v0 v1 := (Below.refl _ _).grown hg (Nat.le_refl _) (by simp)
        have hS2 := hS.trans (hbm.mono hS.size)
        have b0 := hO.slice.2.2
        replace b1 := b1.below hbm
        refine hK.out _ _ (fun _ => hS2) ?_
        obtain ⟨g0, hn⟩ : ∃ g, Hid (g = (World.heap v0).size) := ⟨_, rfl⟩
        rw [← hn.out] at b0 ⊢
        clear hn hK K hS hO hg hbm
        have hS := hS2
        clear hS2
        try simp only [Act.put, List.setIfInBounds_toArray, List.set_cons_zero, List.set_cons_succ]
        refine wpAnyZ_one (i := 2) (by kernel_rfl) rfl (fun K hK => ?_)
        refine step_make_full rfl _ _ 22 rfl i0 Try.underlying22 hi hz0 hz1 hz2 16 rfl rfl (by decide) (World.heap v1).size (Nat.le_refl _) ?_
        intro v2 hO hg
        have hbm : Below (World.heap v1).size v1 v2 := (Below.refl _ _).grown hg (Nat.le_refl _) (by simp)
        have hS2 := hS.trans (hbm.mono hS.size)
        have b2 := hO.slice.2.2
        replace b1 := b1.below hbm
        replace b0 := b0.below hbm
        refine hK.out _ _ (fun _ => hS2) ?_
        obtain ⟨g2, hn⟩ : ∃ g, Hid (g = (World.heap v1).size) := ⟨_, rfl⟩
        rw [← hn.out] at b2 ⊢
        clear hn hK K hS hO hg hbm
        have hS := hS2
        clear hS2
        try simp only [Act.put, List.setIfInBounds_toArray, List.set_cons_zero, List.set_cons_succ]
        refine wpAnyZ_one (i := 3) (by kernel_rfl) rfl (fun K hK => ?_)
        go_simp
        go_at_call 13
        refine (crypt_noughts g0 g1 g2 _ b0 b1 b2).mono ?_
        rintro e v8 ⟨v, rfl, hv, hb8⟩
        clear b0 b1 b2
        go_wp2_with fail
        have hS2 := hS.trans (hb8.mono hS.size)
        have hv2 := hv.mono hS.size
        refine hK.out _ _ (fun _ => hS2) ?_
        clear hK K hS hv hb8
        have hS := hS2
        have HV := hid hv2
        clear hS2 hv2
        try simp only [Act.put, List.setIfInBounds_toArray, List.set_cons_zero, List.set_cons_succ]
        refine wpAnyZ_take (i := 4) (v := .tuple #[v, .int .i64 0]) rfl (by kernel_rfl) (by kernel_rfl) (by kernel_rfl) (by kernel_rfl) (fun _ _ _ h => h) hS (Or.inl ⟨by kernel_rfl, fun w hS => (by clear hS; go_simp)⟩) ?_
        simp only [Act.put, List.setIfInBounds_toArray, List.set_cons_zero, List.set_cons_succ]
        refine wpAnyZ_take (i := 5) (v := v) rfl (by kernel_rfl) (by kernel_rfl) (by kernel_rfl) (by kernel_rfl) (fun _ _ _ h => h) hS (Or.inl ⟨by kernel_rfl, fun w hS => (by clear hS; go_simp)⟩) ?_
        simp only [Act.put, List.setIfInBounds_toArray, List.set_cons_zero, List.set_cons_succ]
        refine wpAnyZ_take (i := 6) (v := .int .i64 0) rfl (by kernel_rfl) (by kernel_rfl) (by kernel_rfl) (by kernel_rfl) (fun _ _ _ h => h) hS (Or.inl ⟨by kernel_rfl, fun w hS => (by clear hS; go_simp)⟩) ?_
        simp only [Act.put, List.setIfInBounds_toArray, List.set_cons_zero, List.set_cons_succ]
        refine wpAnyZ_one (i := 7) (by kernel_rfl) rfl (fun K hK => ?_)
        go_simp
        refine hK.out _ _ (fun _ => hS) ?_
        clear hK K
        try simp only [Act.put, List.setIfInBounds_toArray, List.set_cons_zero, List.set_cons_succ]
        refine wpAnyZ_one (i := 8) (by kernel_rfl) rfl (fun K hK => ?_)
        go_simp
        refine hK.out _ _ (fun _ => hS) ?_
        clear hK K
        try simp only [Act.put, List.setIfInBounds_toArray, List.set_cons_zero, List.set_cons_succ]
        refine wpAnyZ_done (by kernel_rfl) ?_ _
        go_wp2_with fail
        go_meet
        exact ⟨rfl, HV.out, hS⟩
      · refine step_make_full rfl _ _ 22 rfl i0 Try.underlying22 hi hz0 hz1 hz2 16 rfl rfl (by decide) (World.heap v0).size (Nat.le_refl _) ?_
        intro v1 hO hg
        have hbm : Below (World.heap v0).size v0 v1 := (Below.refl _ _).grown hg (Nat.le_refl _) (by simp)
        have hS2 := hS.trans (hbm.mono hS.size)
        have b2 := hO.slice.2.2
        replace b1 := b1.below hbm
        refine hK.out _ _ (fun _ => hS2) ?_
        obtain ⟨g2, hn⟩ : ∃ g, Hid (g = (World.heap v0).size) := ⟨_, rfl⟩
        rw [← hn.out] at b2 ⊢
        clear hn hK K hS hO hg hbm
        have hS := hS2
        clear hS2
        try simp only [Act.put, List.setIfInBounds_toArray, List.set_cons_zero, List.set_cons_succ]
        refine wpAnyZ_one (i := 0) (by kernel_rfl) rfl (fun K hK => ?_)
        refine step_make_full rfl _ _ 22 rfl i0 Try.underlying22 hi hz0 hz1 hz2 16 rfl rfl (by decide) (World.heap v1).size (Nat.le_refl _) ?_
        intro v2 hO hg
        have hbm : Below (World.heap v1).size v1 v2 := (Below.refl _ _).grown hg (Nat.le_refl _) (by simp)
        have hS2 := hS.trans (hbm.mono hS.size)
        have b0 := hO.slice.2.2
        replace b1 := b1.below hbm
        replace b2 := b2.below hbm
        refine hK.out _ _ (fun _ => hS2) ?_
        obtain ⟨g0, hn⟩ : ∃ g, Hid (g = (World.heap v1).size) := ⟨_, rfl⟩
        rw [← hn.out] at b0 ⊢
        clear hn hK K hS hO hg hbm
        have hS := hS2
        clear hS2
        try simp only [Act.put, List.setIfInBounds_toArray, List.set_cons_zero, List.set_cons_succ]
        refine wpAnyZ_one (i := 3) (by kernel_rfl) rfl (fun K hK => ?_)
        go_simp
        go_at_call 13
        refine (crypt_noughts g0 g1 g2 _ b0 b1 b2).mono ?_
        rintro e v8 ⟨v, rfl, hv, hb8⟩
        clear b0 b1 b2
        go_wp2_with fail
        have hS2 := hS.trans (hb8.mono hS.size)
        have hv2 := hv.mono hS.size
        refine hK.out _ _ (fun _ => hS2) ?_
        clear hK K hS hv hb8
        have hS := hS2
        have HV := hid hv2
        clear hS2 hv2
        try simp only [Act.put, List.setIfInBounds_toArray, List.set_cons_zero, List.set_cons_succ]
        refine wpAnyZ_take (i := 4) (v := .tuple #[v, .int .i64 0]) rfl (by kernel_rfl) (by kernel_rfl) (by kernel_rfl) (by kernel_rfl) (fun _ _ _ h => h) hS (Or.inl ⟨by kernel_rfl, fun w hS => (by clear hS; go_simp)⟩) ?_
        simp only [Act.put, List.setIfInBounds_toArray, List.set_cons_zero, List.set_cons_succ]
        refine wpAnyZ_take (i := 5) (v := v) rfl (by kernel_rfl) (by kernel_rfl) (by kernel_rfl) (by kernel_rfl) (fun _ _ _ h => h) hS (Or.inl ⟨by kernel_rfl, fun w hS => (by clear hS; go_simp)⟩) ?_
        simp only [Act.put, List.setIfInBounds_toArray, List.set_cons_zero, List.set_cons_succ]
        refine wpAnyZ_take (i := 6) (v := .int .i64 0) rfl (by kernel_rfl) (by kernel_rfl) (by kernel_rfl) (by kernel_rfl) (fun _ _ _ h => h) hS (Or.inl ⟨by kernel_rfl, fun w hS => (by clear hS; go_simp)⟩) ?_
        simp only [Act.put, List.setIfInBounds_toArray, List.set_cons_zero, List.set_cons_succ]
        refine wpAnyZ_one (i := 7) (by kernel_rfl) rfl (fun K hK => ?_)
        go_simp
        refine hK.out _ _ (fun _ => hS) ?_
        clear hK K
        try simp only [Act.put, List.setIfInBounds_toArray, List.set_cons_zero, List.set_cons_succ]
        refine wpAnyZ_one (i := 8) (by kernel_rfl) rfl (fun K hK => ?_)
        go_simp
        refine hK.out _ _ (fun _ => hS) ?_
        clear hK K
        try simp only [Act.put, List.setIfInBounds_toArray, List.set_cons_zero, List.set_cons_succ]
        refine wpAnyZ_done (by kernel_rfl) ?_ _
        go_wp2_with fail
        go_meet
        exact ⟨rfl, HV.out, hS⟩
    · refine step_make_full rfl _ _ 22 rfl i0 Try.underlying22 hi hz0 hz1 hz2 16 rfl rfl (by decide) (World.heap w9).size (Nat.le_refl _) ?_
      intro v0 hO hg
      have hbm : Below (World.heap w9).size w9 v0 := (Below.refl _ _).grown hg (Nat.le_refl _) (by simp)
      have hS2 := hS.trans (hbm.mono hS.size)
      have b2 := hO.slice.2.2
      refine hK.out _ _ (fun _ => hS2) ?_
      obtain ⟨g2, hn⟩ : ∃ g, Hid (g = (World.heap w9).size) := ⟨_, rfl⟩
      rw [← hn.out] at b2 ⊢
      clear hn hK K hS hO hg hbm
      have hS := hS2
      clear hS2
      try simp only [Act.put, List.setIfInBounds_toArray, List.set_cons_zero, List.set_cons_succ]
      refine wpAnyZ_two (i := 0) (j := 1) (by kernel_rfl) rfl rfl (fun K hK => ?_) (fun K hK => ?_) 
      · refine step_make_full rfl _ _ 22 rfl i0 Try.underlying22 hi hz0 hz1 hz2 16 rfl rfl (by decide) (World.heap v0).size (Nat.le_refl _) ?_
        intro v1 hO hg
        have hbm : Below (World.heap v0).size v0 v1 := (Below.refl _ _).grown hg (Nat.le_refl _) (by simp)
        have hS2 := hS.trans (hbm.mono hS.size)
        have b0 := hO.slice.2.2
        replace b2 := b2.below hbm
        refine hK.out _ _ (fun _ => hS2) ?_
        obtain ⟨g0, hn⟩ : ∃ g, Hid (g = (World.heap v0).size) := ⟨_, rfl⟩
        rw [← hn.out] at b0 ⊢
        clear hn hK K hS hO hg hbm
        have hS := hS2
        clear hS2
        try simp only [Act.put, List.setIfInBounds_toArray, List.set_cons_zero, List.set_cons_succ]
        refine wpAnyZ_one (i := 1) (by kernel_rfl) rfl (fun K hK => ?_)
        refine step_make_full rfl _ _ 22 rfl i0 Try.underlying22 hi hz0 hz1 hz2 12 rfl rfl (by decide) (World.heap v1).size (Nat.le_refl _) ?_
        intro v2 hO hg
        have hbm : Below (World.heap v1).size v1 v2 := (Below.refl _ _).grown hg (Nat.le_refl _) (by simp)
        have hS2 := hS.trans (hbm.mono hS.size)
        have b1 := hO.slice.2.2
        replace b2 := b2.below hbm
        replace b0 := b0.below hbm
        refine hK.out _ _ (fun _ => hS2) ?_
        obtain ⟨g1, hn⟩ : ∃ g, Hid (g = (World.heap v1).size) := ⟨_, rfl⟩
        rw [← hn.out] at b1 ⊢
        clear hn hK K hS hO hg hbm
        have hS := hS2
        clear hS2
        try simp only [Act.put, List.setIfInBounds_toArray, List.set_cons_zero, List.set_cons_succ]
        refine wpAnyZ_one (i := 3) (by kernel_rfl) rfl (fun K hK => ?_)
        go_simp
        go_at_call 13
        refine (crypt_noughts g0 g1 g2 _ b0 b1 b2).mono ?_
        rintro e v8 ⟨v, rfl, hv, hb8⟩
        clear b0 b1 b2
        go_wp2_with fail
        have hS2 := hS.trans (hb8.mono hS.size)
        have hv2 := hv.mono hS.size
        refine hK.out _ _ (fun _ => hS2) ?_
        clear hK K hS hv hb8
        have hS := hS2
        have HV := hid hv2
        clear hS2 hv2
        try simp only [Act.put, List.setIfInBounds_toArray, List.set_cons_zero, List.set_cons_succ]
        refine wpAnyZ_take (i := 4) (v := .tuple #[v, .int .i64 0]) rfl (by kernel_rfl) (by kernel_rfl) (by kernel_rfl) (by kernel_rfl) (fun _ _ _ h => h) hS (Or.inl ⟨by kernel_rfl, fun w hS => (by clear hS; go_simp)⟩) ?_
        simp only [Act.put, List.setIfInBounds_toArray, List.set_cons_zero, List.set_cons_succ]
        refine wpAnyZ_take (i := 5) (v := v) rfl (by kernel_rfl) (by kernel_rfl) (by kernel_rfl) (by kernel_rfl) (fun _ _ _ h => h) hS (Or.inl ⟨by kernel_rfl, fun w hS => (by clear hS; go_simp)⟩) ?_
        simp only [Act.put, List.setIfInBounds_toArray, List.set_cons_zero, List.set_cons_succ]
        refine wpAnyZ_take (i := 6) (v := .int .i64 0) rfl (by kernel_rfl) (by kernel_rfl) (by kernel_rfl) (by kernel_rfl) (fun _ _ _ h => h) hS (Or.inl ⟨by kernel_rfl, fun w hS => (by clear hS; go_simp)⟩) ?_
        simp only [Act.put, List.setIfInBounds_toArray, List.set_cons_zero, List.set_cons_succ]
        refine wpAnyZ_one (i := 7) (by kernel_rfl) rfl (fun K hK => ?_)
        go_simp
        refine hK.out _ _ (fun _ => hS) ?_
        clear hK K
        try simp only [Act.put, List.setIfInBounds_toArray, List.set_cons_zero, List.set_cons_succ]
        refine wpAnyZ_one (i := 8) (by kernel_rfl) rfl (fun K hK => ?_)
        go_simp
        refine hK.out _ _ (fun _ => hS) ?_
        clear hK K
        try simp only [Act.put, List.setIfInBounds_toArray, List.set_cons_zero, List.set_cons_succ]
        refine wpAnyZ_done (by kernel_rfl) ?_ _
        go_wp2_with fail
        go_meet
        exact ⟨rfl, HV.out, hS⟩
      · refine step_make_full rfl _ _ 22 rfl i0 Try.underlying22 hi hz0 hz1 hz2 12 rfl rfl (by decide) (World.heap v0).size (Nat.le_refl _) ?_
        intro v1 hO hg
        have hbm : Below (World.heap v0).size v0 v1 := (Below.refl _ _).grown hg (Nat.le_refl _) (by simp)
        have hS2 := hS.trans (hbm.mono hS.size)
        have b1 := hO.slice.2.2
        replace b2 := b2.below hbm
        refine hK.out _ _ (fun _ => hS2) ?_
        obtain ⟨g1, hn⟩ : ∃ g, Hid (g = (World.heap v0).size) := ⟨_, rfl⟩
        rw [← hn.out] at b1 ⊢
        clear hn hK K hS hO hg hbm
        have hS := hS2
        clear hS2
        try simp only [Act.put, List.setIfInBounds_toArray, List.set_cons_zero, List.set_cons_succ]
        refine wpAnyZ_one (i := 0) (by kernel_rfl) rfl (fun K hK => ?_)
        refine step_make_full rfl _ _ 22 rfl i0 Try.underlying22 hi hz0 hz1 hz2 16 rfl rfl (by decide) (World.heap v1).size (Nat.le_refl _) ?_
        intro v2 hO hg
        have hbm : Below (World.heap v1).size v1 v2 := (Below.refl _ _).grown hg (Nat.le_refl _) (by simp)
        have hS2 := hS.trans (hbm.mono hS.size)
        have b0 := hO.slice.2.2
        replace b2 := b2.below hbm
        replace b1 := b1.below hbm
        refine hK.out _ _ (fun _ => hS2) ?_
        obtain ⟨g0, hn⟩ : ∃ g, Hid (g = (World.heap v1).size) := ⟨_, rfl⟩
        rw [← hn.out] at b0 ⊢
        clear hn hK K hS hO hg hbm
        have hS := hS2
        clear hS2
        try simp only [Act.put, List.setIfInBounds_toArray, List.set_cons_zero, List.set_cons_succ]
        refine wpAnyZ_one (i := 3) (by kernel_rfl) rfl (fun K hK => ?_)
        go_simp
        go_at_call 13
        refine (crypt_noughts g0 g1 g2 _ b0 b1 b2).mono ?_
        rintro e v8 ⟨v, rfl, hv, hb8⟩
        clear b0 b1 b2
        go_wp2_with fail
        have hS2 := hS.trans (hb8.mono hS.size)
        have hv2 := hv.mono hS.size
        refine hK.out _ _ (fun _ => hS2) ?_
        clear hK K hS hv hb8
        have hS := hS2
        have HV := hid hv2
        clear hS2 hv2
        try simp only [Act.put, List.setIfInBounds_toArray, List.set_cons_zero, List.set_cons_succ]
        refine wpAnyZ_take (i := 4) (v := .tuple #[v, .int .i64 0]) rfl (by kernel_rfl) (by kernel_rfl) (by kernel_rfl) (by kernel_rfl) (fun _ _ _ h => h) hS (Or.inl ⟨by kernel_rfl, fun w hS => (by clear hS; go_simp)⟩) ?_
        simp only [Act.put, List.setIfInBounds_toArray, List.set_cons_zero, List.set_cons_succ]
        refine wpAnyZ_take (i := 5) (v := v) rfl (by kernel_rfl) (by kernel_rfl) (by kernel_rfl) (by kernel_rfl) (fun _ _ _ h => h) hS (Or.inl ⟨by kernel_rfl, fun w hS => (by clear hS; go_simp)⟩) ?_
        simp only [Act.put, List.setIfInBounds_toArray, List.set_cons_zero, List.set_cons_succ]
        refine wpAnyZ_take (i := 6) (v := .int .i64 0) rfl (by kernel_rfl) (by kernel_rfl) (by kernel_rfl) (by kernel_rfl) (fun _ _ _ h => h) hS (Or.inl ⟨by kernel_rfl, fun w hS => (by clear hS; go_simp)⟩) ?_
        simp only [Act.put, List.setIfInBounds_toArray, List.set_cons_zero, List.set_cons_succ]
        refine wpAnyZ_one (i := 7) (by kernel_rfl) rfl (fun K hK => ?_)
        go_simp
        refine hK.out _ _ (fun _ => hS) ?_
        clear hK K
        try simp only [Act.put, List.setIfInBounds_toArray, List.set_cons_zero, List.set_cons_succ]
        refine wpAnyZ_one (i := 8) (by kernel_rfl) rfl (fun K hK => ?_)
        go_simp
        refine hK.out _ _ (fun _ => hS) ?_
        clear hK K
        try simp only [Act.put, List.setIfInBounds_toArray, List.set_cons_zero, List.set_cons_succ]
        refine wpAnyZ_done (by kernel_rfl) ?_ _
        go_wp2_with fail
        go_meet
        exact ⟨rfl, HV.out, hS⟩
  case rest =>
    obtain ⟨rfl, hv, hS⟩ := hcut
    obtain ⟨p, cap, rfl, _, hb⟩ := hv.bin
    have hcv := conv_known hb cap
    clear hv hb
    go_wp2_with fail
    go_ret
    exact ⟨rfl, hS⟩
end Go.Proofs.Ytadpnkecdjleiaa
