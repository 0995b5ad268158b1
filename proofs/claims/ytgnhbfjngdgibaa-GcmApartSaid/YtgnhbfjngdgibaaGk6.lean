/-
  'known' of layer 6's statements: nothing sealed under noughts.
-/
import Derived.Test.YtgnhbfjngdgibaaGcm
import Derived.Test.YtgnhbfjngdgibaaGk
import Derived.Test.YtgnhbfjngdgibaaKa
namespace Go.Proofs.Ytgnhbfjngdgibaa
open Go.RowKit
set_option linter.unusedVariables false
set_option linter.unusedSimpArgs false

theorem oct0 (n : Nat) : Oct (List.replicate n 0) := fun x hx => by rw [(List.mem_replicate.1 hx).2]; decide
theorem keyE_zero : keyE 16 (List.replicate 16 0) = zE := rfl
theorem tagL_nothing : tagL zE (List.replicate 12 0) [] [] = row k1 16 := by
  rw [tagL, tag_nothing]
  exact row_sameR fun j hj => by16_el k1_lt j hj
theorem sealL_nothing : sealL zE (List.replicate 12 0) [] [] = row k1 16 := by
  rw [sealL, show cry zE (frs (List.replicate 12 0)) [] = [] from rfl, List.nil_append, tagL_nothing]
theorem seal_nothing (a b : Nat) (w : World) (h1 : Bin w (some ⟨a, 0, none⟩) (List.replicate 16 0)) (h2 : Bin w (some ⟨b, 0, none⟩) (List.replicate 12 0)) :
    Calls Try.prog 20 #[.slice (some ⟨a, 0, none⟩) 16 16, .slice (some ⟨b, 0, none⟩) 12 12, .slice none 0 0, .slice none 0 0] w fun e w' => ∃ v, e = .returned (.tuple #[v, .int .i64 0]) ∧ Own w.heap.size w' v 16 (row k1 16) ∧ Below w.heap.size w w' := by
  have h := seal_of (some ⟨a, 0, none⟩) (some ⟨b, 0, none⟩) none none 16 12 0 0 16 0 0 (List.replicate 16 0) (List.replicate 12 0) [] [] w h1 (oct0 16) List.length_replicate (.inl rfl) (by decide) h2 (oct0 12) List.length_replicate (by decide) (Bin.nil _ _) Oct.nil rfl (by decide) (Bin.nil _ _) Oct.nil rfl (by decide) (by decide) (by decide)
  rw [keyE_zero, sealL_nothing] at h
  exact h
theorem open_nothing (a b : Nat) (p : Option Addr) (cap : Nat) (w : World) (h1 : Bin w (some ⟨a, 0, none⟩) (List.replicate 16 0)) (h2 : Bin w (some ⟨b, 0, none⟩) (List.replicate 12 0)) (h3 : Bin w p (row k1 16)) (hc : 16 ≤ cap) :
    Calls Try.prog 22 #[.slice (some ⟨a, 0, none⟩) 16 16, .slice (some ⟨b, 0, none⟩) 12 12, .slice none 0 0, .slice p 16 cap] w fun e w' => ∃ q d, e = .returned (.tuple #[.slice q 0 d, .int .i64 0]) ∧ Below w.heap.size w w' := by
  have h := open_of (some ⟨a, 0, none⟩) (some ⟨b, 0, none⟩) none p 16 12 0 cap 16 0 0 (List.replicate 16 0) (List.replicate 12 0) [] (row k1 16) w h1 (oct0 16) List.length_replicate (.inl rfl) (by decide) h2 (oct0 12) List.length_replicate (by decide) (Bin.nil _ _) Oct.nil rfl (by decide) h3 (row_oct k1_lt 16) (row_length _ _) hc (by decide) (by decide)
  have hh : holdsB zE (List.replicate 12 0) [] (row k1 16) = true := by rw [← sealL_nothing]; exact seal_holds _ _ _ _
  rw [keyE_zero] at h
  refine h.mono ?_
  rintro e w' ⟨_, h2, hb⟩
  obtain ⟨v, he, hv⟩ := h2 hh
  obtain ⟨q, d, rfl, _, _⟩ := hv.bin
  exact ⟨q, d, he, hb⟩
theorem conv_k1 {w : World} {p : Option Addr} (h : Bin w p (row k1 16)) (cap : Nat) :
    (convert 22 9 (.slice p 16 cap)).run Try.prog w = .ok (.string { data := #[88, 226, 252, 206, 250, 126, 48, 97, 54, 127, 29, 87, 164, 231, 69, 90] }) w := by
  have := conv_str h cap
  rw [row_length] at this
  rw [this]
  rfl

set_option maxHeartbeats 8000000 in
set_option maxRecDepth 100000 in
theorem known6_any (w : World) : Calls Try.prog 19 #[] w fun e w' => e = .returned (.bool true) ∧ Below w.heap.size w w' := by
  obtain ⟨i0, hi, hz0, hz1, hz2⟩ := info_parts Try.infoU8
  go_enter Try.func19, Try.ntmps19
  go_upto_region 1 with fail
  go_cut [1, 2] (fun s1 s2 wx => s2 = .int .i64 0 ∧ Own w.heap.size wx s1 16 (row k1 16) ∧ Below w.heap.size w wx)
  case first =>
    have hSd : Below (World.heap w).size w w.drew := (Below.refl _ _).drew
    refine wp_region_z (fun v => Below (World.heap w).size w v) 8 (by kernel_rfl) hSd (fun hS => ?_)
    clear hSd
    generalize World.drew _ = w9 at hS ⊢
    refine wpAnyZ_two (i := 0) (j := 1) (by kernel_rfl) rfl rfl (fun K hK => ?_) (fun K hK => ?_)
    · refine step_make_full rfl _ _ 22 rfl i0 Try.underlying22 hi hz0 hz1 hz2 16 rfl rfl (by decide) (World.heap w9).size (Nat.le_refl _) ?_
      intro v0 hO hg
      have hbm : Below (World.heap w9).size w9 v0 := (Below.refl _ _).grown hg (Nat.le_refl _) (by simp)
      have hS2 := hS.trans (hbm.mono hS.size)
      have b0 := hO.slice.2.2
      refine hK.out _ _ (fun _ => hS2) ?_
      obtain ⟨g0, hn⟩ : ∃ g, Hid (g = (World.heap w9).size) := ⟨_, rfl⟩
      rw [← hn.out] at b0 ⊢
      clear hn hK K hS hO hg hbm
      have hS := hS2
      clear hS2
      try simp only [Act.put, List.setIfInBounds_toArray, List.set_cons_zero, List.set_cons_succ]
      refine wpAnyZ_one (i := 1) (by kernel_rfl) rfl (fun K hK => ?_)
      refine step_make_full rfl _ _ 22 rfl i0 Try.underlying22 hi hz0 hz1 hz2 12 rfl rfl (by decide) (World.heap v0).size (Nat.le_refl _) ?_
      intro v1 hO hg
      have hbm : Below (World.heap v0).size v0 v1 := (Below.refl _ _).grown hg (Nat.le_refl _) (by simp)
      have hS2 := hS.trans (hbm.mono hS.size)
      have b1 := hO.slice.2.2
      replace b0 := b0.below hbm
      refine hK.out _ _ (fun _ => hS2) ?_
      obtain ⟨g1, hn⟩ : ∃ g, Hid (g = (World.heap v0).size) := ⟨_, rfl⟩
      rw [← hn.out] at b1 ⊢
      clear hn hK K hS hO hg hbm
      have hS := hS2
      clear hS2
      try simp only [Act.put, List.setIfInBounds_toArray, List.set_cons_zero, List.set_cons_succ]
      refine wpAnyZ_one (i := 2) (by kernel_rfl) rfl (fun K hK => ?_)
      go_simp
      go_at_call 20
      refine (seal_nothing g0 g1 _ b0 b1).mono ?_
      rintro e v8 ⟨v, rfl, hv, hb8⟩
      clear b0 b1
      go_wp2_with fail
      have hS2 := hS.trans (hb8.mono hS.size)
      have hv2 := hv.mono hS.size
      refine hK.out _ _ (fun _ => hS2) ?_
      clear hK K hS hv hb8
      have hS := hS2
      have HV := hid hv2
      clear hS2 hv2
      try simp only [Act.put, List.setIfInBounds_toArray, List.set_cons_zero, List.set_cons_succ]
      refine wpAnyZ_take (i := 3) (v := .tuple #[v, .int .i64 0]) rfl (by kernel_rfl) (by kernel_rfl) (by kernel_rfl) (by kernel_rfl) (fun _ _ _ h => h) hS (Or.inl ⟨by kernel_rfl, fun w hS => (by clear hS; go_simp)⟩) ?_
      simp only [Act.put, List.setIfInBounds_toArray, List.set_cons_zero, List.set_cons_succ]
      refine wpAnyZ_take (i := 4) (v := v) rfl (by kernel_rfl) (by kernel_rfl) (by kernel_rfl) (by kernel_rfl) (fun _ _ _ h => h) hS (Or.inl ⟨by kernel_rfl, fun w hS => (by clear hS; go_simp)⟩) ?_
      simp only [Act.put, List.setIfInBounds_toArray, List.set_cons_zero, List.set_cons_succ]
      refine wpAnyZ_take (i := 5) (v := .int .i64 0) rfl (by kernel_rfl) (by kernel_rfl) (by kernel_rfl) (by kernel_rfl) (fun _ _ _ h => h) hS (Or.inl ⟨by kernel_rfl, fun w hS => (by clear hS; go_simp)⟩) ?_
      simp only [Act.put, List.setIfInBounds_toArray, List.set_cons_zero, List.set_cons_succ]
      refine wpAnyZ_one (i := 6) (by kernel_rfl) rfl (fun K hK => ?_)
      go_simp
      refine hK.out _ _ (fun _ => hS) ?_
      clear hK K
      try simp only [Act.put, List.setIfInBounds_toArray, List.set_cons_zero, List.set_cons_succ]
      refine wpAnyZ_one (i := 7) (by kernel_rfl) rfl (fun K hK => ?_)
      go_simp
      refine hK.out _ _ (fun _ => hS) ?_
      clear hK K
      try simp only [Act.put, List.setIfInBounds_toArray, List.set_cons_zero, List.set_cons_succ]
      refine wpAnyZ_done (by kernel_rfl) ?_ _
      go_wp2_with fail
      go_meet
      exact ⟨rfl, HV.out, hS⟩
    · refine step_make_full rfl _ _ 22 rfl i0 Try.underlying22 hi hz0 hz1 hz2 12 rfl rfl (by decide) (World.heap w9).size (Nat.le_refl _) ?_
      intro v0 hO hg
      have hbm : Below (World.heap w9).size w9 v0 := (Below.refl _ _).grown hg (Nat.le_refl _) (by simp)
      have hS2 := hS.trans (hbm.mono hS.size)
      have b1 := hO.slice.2.2
      refine hK.out _ _ (fun _ => hS2) ?_
      obtain ⟨g1, hn⟩ : ∃ g, Hid (g = (World.heap w9).size) := ⟨_, rfl⟩
      rw [← hn.out] at b1 ⊢
      clear hn hK K hS hO hg hbm
      have hS := hS2
      clear hS2
      try simp only [Act.put, List.setIfInBounds_toArray, List.set_cons_zero, List.set_cons_succ]
      refine wpAnyZ_one (i := 0) (by kernel_rfl) rfl (fun K hK => ?_)
      refine step_make_full rfl _ _ 22 rfl i0 Try.underlying22 hi hz0 hz1 hz2 16 rfl rfl (by decide) (World.heap v0).size (Nat.le_refl _) ?_
      intro v1 hO hg
      have hbm : Below (World.heap v0).size v0 v1 := (Below.refl _ _).grown hg (Nat.le_refl _) (by simp)
      have hS2 := hS.trans (hbm.mono hS.size)
      have b0 := hO.slice.2.2
      replace b1 := b1.below hbm
      refine hK.out _ _ (fun _ => hS2) ?_
      obtain ⟨g0, hn⟩ : ∃ g, Hid (g = (World.heap v0).size) := ⟨_, rfl⟩
      rw [← hn.out] at b0 ⊢
      clear hn hK K hS hO hg hbm
      have hS := hS2
      clear hS2
      try simp only [Act.put, List.setIfInBounds_toArray, List.set_cons_zero, List.set_cons_succ]
      refine wpAnyZ_one (i := 2) (by kernel_rfl) rfl (fun K hK => ?_)
      go_simp
      go_at_call 20
      refine (seal_nothing g0 g1 _ b0 b1).mono ?_
      rintro e v8 ⟨v, rfl, hv, hb8⟩
      clear b0 b1
      go_wp2_with fail
      have hS2 := hS.trans (hb8.mono hS.size)
      have hv2 := hv.mono hS.size
      refine hK.out _ _ (fun _ => hS2) ?_
      clear hK K hS hv hb8
      have hS := hS2
      have HV := hid hv2
      clear hS2 hv2
      try simp only [Act.put, List.setIfInBounds_toArray, List.set_cons_zero, List.set_cons_succ]
      refine wpAnyZ_take (i := 3) (v := .tuple #[v, .int .i64 0]) rfl (by kernel_rfl) (by kernel_rfl) (by kernel_rfl) (by kernel_rfl) (fun _ _ _ h => h) hS (Or.inl ⟨by kernel_rfl, fun w hS => (by clear hS; go_simp)⟩) ?_
      simp only [Act.put, List.setIfInBounds_toArray, List.set_cons_zero, List.set_cons_succ]
      refine wpAnyZ_take (i := 4) (v := v) rfl (by kernel_rfl) (by kernel_rfl) (by kernel_rfl) (by kernel_rfl) (fun _ _ _ h => h) hS (Or.inl ⟨by kernel_rfl, fun w hS => (by clear hS; go_simp)⟩) ?_
      simp only [Act.put, List.setIfInBounds_toArray, List.set_cons_zero, List.set_cons_succ]
      refine wpAnyZ_take (i := 5) (v := .int .i64 0) rfl (by kernel_rfl) (by kernel_rfl) (by kernel_rfl) (by kernel_rfl) (fun _ _ _ h => h) hS (Or.inl ⟨by kernel_rfl, fun w hS => (by clear hS; go_simp)⟩) ?_
      simp only [Act.put, List.setIfInBounds_toArray, List.set_cons_zero, List.set_cons_succ]
      refine wpAnyZ_one (i := 6) (by kernel_rfl) rfl (fun K hK => ?_)
      go_simp
      refine hK.out _ _ (fun _ => hS) ?_
      clear hK K
      try simp only [Act.put, List.setIfInBounds_toArray, List.set_cons_zero, List.set_cons_succ]
      refine wpAnyZ_one (i := 7) (by kernel_rfl) rfl (fun K hK => ?_)
      go_simp
      refine hK.out _ _ (fun _ => hS) ?_
      clear hK K
      try simp only [Act.put, List.setIfInBounds_toArray, List.set_cons_zero, List.set_cons_succ]
      refine wpAnyZ_done (by kernel_rfl) ?_ _
      go_wp2_with fail
      go_meet
      exact ⟨rfl, HV.out, hS⟩
  case rest =>
    obtain ⟨rfl, hv, hS1⟩ := hcut
    obtain ⟨w1, hw1⟩ : ∃ w1, w1 = wc := ⟨_, rfl⟩
    rw [← hw1] at hv hS1 ⊢
    clear hw1
    obtain ⟨p, cap, rfl, hcap, hb⟩ := hv.bin
    have HB := hid hb
    clear hv hb
    go_upto_region 2 with fail
    go_cut [3, 4] (fun s3 s4 wx => ∃ q d, s3 = .slice q 0 d ∧ s4 = .int .i64 0 ∧ Below w1.heap.size w1 wx)
    case first =>
      have hSd : Below (World.heap w1).size w1 w1.drew := (Below.refl _ _).drew
      refine wp_region_z (fun v => Below (World.heap w1).size w1 v) 9 (by kernel_rfl) hSd (fun hS => ?_)
      clear hSd
      generalize World.drew _ = w9 at hS ⊢
      refine wpAnyZ_take (i := 2) (v := .slice p 16 cap) rfl (by kernel_rfl) (by kernel_rfl) (by kernel_rfl) (by kernel_rfl) (fun _ _ _ h => h) hS (Or.inl ⟨by kernel_rfl, fun w hS => (by clear hS; go_simp)⟩) ?_
      simp only [Act.put, List.setIfInBounds_toArray, List.set_cons_zero, List.set_cons_succ]
      refine wpAnyZ_two (i := 0) (j := 1) (by kernel_rfl) rfl rfl (fun K hK => ?_) (fun K hK => ?_)
      · refine step_make_full rfl _ _ 22 rfl i0 Try.underlying22 hi hz0 hz1 hz2 16 rfl rfl (by decide) (World.heap w9).size (Nat.le_refl _) ?_
        intro v0 hO hg
        have hbm : Below (World.heap w9).size w9 v0 := (Below.refl _ _).grown hg (Nat.le_refl _) (by simp)
        have hS2 := hS.trans (hbm.mono hS.size)
        have b0 := hO.slice.2.2
        refine hK.out _ _ (fun _ => hS2) ?_
        obtain ⟨g0, hn⟩ : ∃ g, Hid (g = (World.heap w9).size) := ⟨_, rfl⟩
        rw [← hn.out] at b0 ⊢
        clear hn hK K hS hO hg hbm
        have hS := hS2
        clear hS2
        try simp only [Act.put, List.setIfInBounds_toArray, List.set_cons_zero, List.set_cons_succ]
        refine wpAnyZ_one (i := 1) (by kernel_rfl) rfl (fun K hK => ?_)
        refine step_make_full rfl _ _ 22 rfl i0 Try.underlying22 hi hz0 hz1 hz2 12 rfl rfl (by decide) (World.heap v0).size (Nat.le_refl _) ?_
        intro v1 hO hg
        have hbm : Below (World.heap v0).size v0 v1 := (Below.refl _ _).grown hg (Nat.le_refl _) (by simp)
        have hS2 := hS.trans (hbm.mono hS.size)
        have b1 := hO.slice.2.2
        replace b0 := b0.below hbm
        refine hK.out _ _ (fun _ => hS2) ?_
        obtain ⟨g1, hn⟩ : ∃ g, Hid (g = (World.heap v0).size) := ⟨_, rfl⟩
        rw [← hn.out] at b1 ⊢
        clear hn hK K hS hO hg hbm
        have hS := hS2
        clear hS2
        try simp only [Act.put, List.setIfInBounds_toArray, List.set_cons_zero, List.set_cons_succ]
        refine wpAnyZ_one (i := 3) (by kernel_rfl) rfl (fun K hK => ?_)
        go_simp
        go_at_call 22
        refine (open_nothing g0 g1 p cap _ b0 b1 (HB.out.below hS) hcap).mono ?_
        rintro e v8 ⟨q, d, rfl, hb8⟩
        clear b0 b1
        go_wp2_with fail
        have hS2 := hS.trans (hb8.mono hS.size)
        refine hK.out _ _ (fun _ => hS2) ?_
        clear hK K hS hb8
        have hS := hS2
        clear hS2
        try simp only [Act.put, List.setIfInBounds_toArray, List.set_cons_zero, List.set_cons_succ]
        refine wpAnyZ_take (i := 4) (v := .tuple #[.slice q 0 d, .int .i64 0]) rfl (by kernel_rfl) (by kernel_rfl) (by kernel_rfl) (by kernel_rfl) (fun _ _ _ h => h) hS (Or.inl ⟨by kernel_rfl, fun w hS => (by clear hS; go_simp)⟩) ?_
        simp only [Act.put, List.setIfInBounds_toArray, List.set_cons_zero, List.set_cons_succ]
        refine wpAnyZ_take (i := 5) (v := .slice q 0 d) rfl (by kernel_rfl) (by kernel_rfl) (by kernel_rfl) (by kernel_rfl) (fun _ _ _ h => h) hS (Or.inl ⟨by kernel_rfl, fun w hS => (by clear hS; go_simp)⟩) ?_
        simp only [Act.put, List.setIfInBounds_toArray, List.set_cons_zero, List.set_cons_succ]
        refine wpAnyZ_take (i := 6) (v := .int .i64 0) rfl (by kernel_rfl) (by kernel_rfl) (by kernel_rfl) (by kernel_rfl) (fun _ _ _ h => h) hS (Or.inl ⟨by kernel_rfl, fun w hS => (by clear hS; go_simp)⟩) ?_
        simp only [Act.put, List.setIfInBounds_toArray, List.set_cons_zero, List.set_cons_succ]
        refine wpAnyZ_one (i := 7) (by kernel_rfl) rfl (fun K hK => ?_)
        go_simp
        refine hK.out _ _ (fun _ => hS) ?_
        clear hK K
        try simp only [Act.put, List.setIfInBounds_toArray, List.set_cons_zero, List.set_cons_succ]
        refine wpAnyZ_one (i := 8) (by kernel_rfl) rfl (fun K hK => ?_)
        go_simp
        refine hK.out _ _ (fun _ => hS) ?_
        clear hK K
        try simp only [Act.put, List.setIfInBounds_toArray, List.set_cons_zero, List.set_cons_succ]
        refine wpAnyZ_done (by kernel_rfl) ?_ _
        go_wp2_with fail
        go_meet
        exact ⟨q, d, rfl, rfl, hS⟩
      · refine step_make_full rfl _ _ 22 rfl i0 Try.underlying22 hi hz0 hz1 hz2 12 rfl rfl (by decide) (World.heap w9).size (Nat.le_refl _) ?_
        intro v0 hO hg
        have hbm : Below (World.heap w9).size w9 v0 := (Below.refl _ _).grown hg (Nat.le_refl _) (by simp)
        have hS2 := hS.trans (hbm.mono hS.size)
        have b1 := hO.slice.2.2
        refine hK.out _ _ (fun _ => hS2) ?_
        obtain ⟨g1, hn⟩ : ∃ g, Hid (g = (World.heap w9).size) := ⟨_, rfl⟩
        rw [← hn.out] at b1 ⊢
        clear hn hK K hS hO hg hbm
        have hS := hS2
        clear hS2
        try simp only [Act.put, List.setIfInBounds_toArray, List.set_cons_zero, List.set_cons_succ]
        refine wpAnyZ_one (i := 0) (by kernel_rfl) rfl (fun K hK => ?_)
        refine step_make_full rfl _ _ 22 rfl i0 Try.underlying22 hi hz0 hz1 hz2 16 rfl rfl (by decide) (World.heap v0).size (Nat.le_refl _) ?_
        intro v1 hO hg
        have hbm : Below (World.heap v0).size v0 v1 := (Below.refl _ _).grown hg (Nat.le_refl _) (by simp)
        have hS2 := hS.trans (hbm.mono hS.size)
        have b0 := hO.slice.2.2
        replace b1 := b1.below hbm
        refine hK.out _ _ (fun _ => hS2) ?_
        obtain ⟨g0, hn⟩ : ∃ g, Hid (g = (World.heap v0).size) := ⟨_, rfl⟩
        rw [← hn.out] at b0 ⊢
        clear hn hK K hS hO hg hbm
        have hS := hS2
        clear hS2
        try simp only [Act.put, List.setIfInBounds_toArray, List.set_cons_zero, List.set_cons_succ]
        refine wpAnyZ_one (i := 3) (by kernel_rfl) rfl (fun K hK => ?_)
        go_simp
        go_at_call 22
        refine (open_nothing g0 g1 p cap _ b0 b1 (HB.out.below hS) hcap).mono ?_
        rintro e v8 ⟨q, d, rfl, hb8⟩
        clear b0 b1
        go_wp2_with fail
        have hS2 := hS.trans (hb8.mono hS.size)
        refine hK.out _ _ (fun _ => hS2) ?_
        clear hK K hS hb8
        have hS := hS2
        clear hS2
        try simp only [Act.put, List.setIfInBounds_toArray, List.set_cons_zero, List.set_cons_succ]
        refine wpAnyZ_take (i := 4) (v := .tuple #[.slice q 0 d, .int .i64 0]) rfl (by kernel_rfl) (by kernel_rfl) (by kernel_rfl) (by kernel_rfl) (fun _ _ _ h => h) hS (Or.inl ⟨by kernel_rfl, fun w hS => (by clear hS; go_simp)⟩) ?_
        simp only [Act.put, List.setIfInBounds_toArray, List.set_cons_zero, List.set_cons_succ]
        refine wpAnyZ_take (i := 5) (v := .slice q 0 d) rfl (by kernel_rfl) (by kernel_rfl) (by kernel_rfl) (by kernel_rfl) (fun _ _ _ h => h) hS (Or.inl ⟨by kernel_rfl, fun w hS => (by clear hS; go_simp)⟩) ?_
        simp only [Act.put, List.setIfInBounds_toArray, List.set_cons_zero, List.set_cons_succ]
        refine wpAnyZ_take (i := 6) (v := .int .i64 0) rfl (by kernel_rfl) (by kernel_rfl) (by kernel_rfl) (by kernel_rfl) (fun _ _ _ h => h) hS (Or.inl ⟨by kernel_rfl, fun w hS => (by clear hS; go_simp)⟩) ?_
        simp only [Act.put, List.setIfInBounds_toArray, List.set_cons_zero, List.set_cons_succ]
        refine wpAnyZ_one (i := 7) (by kernel_rfl) rfl (fun K hK => ?_)
        go_simp
        refine hK.out _ _ (fun _ => hS) ?_
        clear hK K
        try simp only [Act.put, List.setIfInBounds_toArray, List.set_cons_zero, List.set_cons_succ]
        refine wpAnyZ_one (i := 8) (by kernel_rfl) rfl (fun K hK => ?_)
        go_simp
        refine hK.out _ _ (fun _ => hS) ?_
        clear hK K
        try simp only [Act.put, List.setIfInBounds_toArray, List.set_cons_zero, List.set_cons_succ]
        refine wpAnyZ_done (by kernel_rfl) ?_ _
        go_wp2_with fail
        go_meet
        exact ⟨q, d, rfl, rfl, hS⟩
    case rest =>
      obtain ⟨q, d, rfl, rfl, hS2⟩ := hcut
      have hcv := conv_k1 (HB.out.below hS2) cap
      have hB := hS1.trans (hS2.mono hS1.size)
      clear HB hS1 hS2
      go_wp2_with fail
      go_ret
      exact ⟨rfl, hB⟩
end Go.Proofs.Ytgnhbfjngdgibaa
