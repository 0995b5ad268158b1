/-
  The walk of GhashLengths.
-/
import Derived.Test.YtdifilcgammniaaArn
import Derived.Test.YtdifilcgammniaaGhkn
import Derived.Test.YtdifilcgammniaaGhq
import Derived.Test.YtdifilcgammniaaApz
import Derived.Test.YtdifilcgammniaaOsl
import Derived.Test.YtdifilcgammniaaGhz
namespace Go.Proofs.Ytdifilcgammniaa
open Go.RowKit
set_option linter.unusedVariables false
set_option linter.unusedSimpArgs false

theorem i64_xor_nat (a b : Nat) (ha : a < 4611686018427387904) (hb : b < 4611686018427387904) : bits .xor .i64 (a : Int) (b : Int) = ((a ^^^ b : Nat) : Int) := by
  have hx : a ^^^ b < 2 ^ 62 := Nat.xor_lt_two_pow (by omega) (by omega)
  show IntKind.i64.wrap ((BitVec.ofInt 64 (a : Int) ^^^ BitVec.ofInt 64 (b : Int)).toNat : Int) = _
  rw [BitVec.toNat_xor, ofInt_u64 a (by omega), ofInt_u64 b (by omega), IntKind.wrap_i64]
  omega
/-- The bytes of M behind t rounds. -/
def dzs (M t j : Nat) : Nat := if 15 - t < j then by16 M j else 0
theorem dzs_lt (M t j : Nat) : dzs M t j < 256 := by unfold dzs; split; exact by16_lt _ _; exact Nat.zero_lt_succ _
theorem dzs_zero (M j : Nat) (hj : j < 16) : dzs M 0 j = 0 := by unfold dzs; rw [if_neg (by omega)]
theorem dzs_step (M t j : Nat) (ht : t < 8) (hj : j < 16) : (if j = 15 - t then M / 256 ^ t % 256 else dzs M t j) = dzs M (t + 1) j := by
  by_cases h : j = 15 - t
  · rw [if_pos h]
    unfold dzs
    rw [if_pos (by omega), by16, h, show 15 - (15 - t) = t from by omega]
  · rw [if_neg h]
    unfold dzs
    by_cases h2 : 15 - t < j
    · rw [if_pos h2, if_pos (by omega)]
    · rw [if_neg h2, if_neg (by omega)]
theorem dzs_full (M j : Nat) (hM : M < 256 ^ 8) (hj : j < 16) : dzs M 8 j = by16 M j := by
  unfold dzs
  by_cases h : 15 - 8 < j
  · rw [if_pos h]
  · rw [if_neg h, by16, Nat.div_eq_of_lt (Nat.lt_of_lt_of_le hM (Nat.pow_le_pow_right (by decide) (by omega)))]

set_option maxHeartbeats 20000000 in
set_option maxRecDepth 100000 in
theorem glengths_law (h : Nat → Nat) (p : Option Addr) (c : Nat) (xs : List Int) (w : World) (oh : ∀ j, h j < 256) (hp : Bin w p xs) (hx : Oct xs) (hm1 : xs.length ≤ 140737488351232) (hcap : xs.length ≤ c) :
    Calls Try.prog 10 #[.agg (vals 16 h).toArray, .slice p xs.length c] w fun e w' => e = .returned (.bool true) ∧ Below w.heap.size w w' := by
  have hzb := Try.zeroBlock
  have hub := Try.underlying35
  have hib := Try.sizeBlock
  obtain ⟨i0, hi, hz0, hz1, hz2⟩ := info_parts Try.infoU8
  obtain ⟨w1, hw1, hh1, hB, hsz⟩ := boxes1 w 16 h 35
  obtain ⟨l, hl⟩ : ∃ l, l = xs.length := ⟨_, rfl⟩
  rw [← hl] at hm1 hcap ⊢
  have HL := hid hl.symm
  have HP := hid hp
  obtain ⟨F, hF⟩ : ∃ F, Hid (F = fillN l) := ⟨_, rfl⟩
  have HFd := hid (show F = (16 - l % 16) % 16 from hF.out)
  have hF16 : F < 16 := by have := HFd.out; omega
  have HH1 := hid hh1
  clear hl hp hh1 hsz
  go_enter Try.func10, Try.ntmps10
  go_upto_region 1 with fail
  rw [← hw1.out]
  clear hw1
  by_cases h1 : 4000 < l
  · have i1 : (4000 : Int) < (l : Int) := by omega
    go_wp2_with fail
    refine (gknown_any _).mono ?_
    rintro e w9 ⟨rfl, hb9⟩
    go_wp2_with fail
    go_ret
    exact ⟨rfl, hB.trans (hb9.mono hB.size)⟩
  · have i1 : (l : Int) ≤ 4000 := by omega
    go_upto_region 4 with fail
    rw [show (16 - (l : Int) % 16) % 16 = (F : Int) from by have := HFd.out; omega]
    go_wp2_with (first
  | (at_builtin; refine wpList_append_bin rfl (.tmp 21) (.tmp 22) 22 rfl i0 Try.underlying22 hi hz0 hz1 hz2 w1.heap.size _ 0 [] rfl (by exact World.ownsRow_lit w1 #[] 0 (Nat.le_refl _) (by decide) rfl) p l c xs rfl HL.out ((HP.out.below hB).below ((Below.refl _ _).alloc (Nat.le_refl _) _)) (by omega) (by simp) ?_; intro p4 c4 w4 hO4 hg4 _; have HO4 := hid (show Own w1.heap.size w4 (.slice p4 l c4) l xs from (by simpa using hO4)); have C4 := ((Below.refl w1.heap.size w1).alloc (Nat.le_refl _) _).grown hg4 (by simp) (fun q hq => Nat.le_of_eq (Option.some.inj (show some w1.heap.size = some q from hq))); have hs4 := C4.size; clear hO4 hg4)
  | (at_builtin; refine wpList_append_zeros rfl (.tmp 23) (.tmp 24) 22 3 rfl i0 .i64 Try.underlying22 Try.underlying3 hi hz0 hz1 hz2 w1.heap.size _ l _ rfl (by exact HO4.out) F rfl (by omega) (by omega) hs4 ?_; intro pf cf wf hO5 hg5; have HO5 := hid hO5; have C5 := C4.grown hg5 hs4 (fun q hq => (World.ownsRow.lt HO4.out q hq).1); clear hO5 hg5 HO4 hs4 C4))
    have hO5 := HO5.out
    have hfull : full xs = xs ++ List.replicate F 0 := by rw [hF.out, ← HL.out]; rfl
    rw [← hfull] at hO5
    have HF := hid hO5.slice'.2
    have hcf : l + F ≤ cf := hO5.slice'.1
    have HLF := hid hO5.len
    have HH := hid (HH1.out.below' (HH1.out.lt (by decide)) C5)
    have hhl := HH.out.lt (by decide)
    have hB5 := hB.trans (C5.mono hB.size)
    obtain ⟨X, eX⟩ : ∃ f : Nat → Nat, Hid (f = by16 (sumN (el h) [] xs)) := ⟨_, rfl⟩
    obtain ⟨Y, eY⟩ : ∃ f : Nat → Nat, Hid (f = by16 (sumN (el h) [] (full xs))) := ⟨_, rfl⟩
    have oX : ∀ j, X j < 256 := by rw [eX.out]; exact by16_lt _
    have oY : ∀ j, Y j < 256 := by rw [eY.out]; exact by16_lt _
    clear hO5 HO5 hfull C5 HH1
    try clear hs4
    go_cut [7, 8] (fun s7 s8 wx => ∃ g7 g8 : Nat, s7 = .pointer (some ⟨g7, 0, none⟩) ∧ s8 = .pointer (some ⟨g8, 0, none⟩) ∧ Arn wf [(g7, X), (g8, Y)] wx)
    case first =>
      have hSd : Arn wf [] wf.drew := ⟨⟨fun q hq => by simp at hq, (Below.refl _ _).drew⟩, by simp, fun q hq => by simp at hq⟩
      refine wp_region_z (Arn wf []) 10 (by kernel_rfl) hSd (fun hS => ?_)
      clear hSd
      generalize World.drew _ = w9 at hS ⊢
      refine wpAnyZ_take (i := 0) rfl (by kernel_rfl) (by kernel_rfl) (by kernel_rfl) (by kernel_rfl) (fun _ _ _ h => h) hS (yieldsIf_load_mid (by kernel_rfl) 35 (.tmp 2) rfl w.heap.size 0 (by kernel_rfl) (vals 16 h) _ (fun w hS => (HH.out.below' hhl hS.below).range) hub rfl hib) ?_
      simp only [Act.put, List.setIfInBounds_toArray, List.set_cons_zero, List.set_cons_succ]
      refine wpAnyZ_take (i := 1) (v := .slice p l c) rfl (by kernel_rfl) (by kernel_rfl) (by kernel_rfl) (by kernel_rfl) (fun _ _ _ h => h) hS (Or.inl ⟨by kernel_rfl, fun w hS => (by clear hS; go_simp)⟩) ?_
      simp only [Act.put, List.setIfInBounds_toArray, List.set_cons_zero, List.set_cons_succ]
      refine wpAnyZ_take (i := 3) rfl (by kernel_rfl) (by kernel_rfl) (by kernel_rfl) (by kernel_rfl) (fun _ _ _ h => h) hS (yieldsIf_load_mid (by kernel_rfl) 35 (.tmp 2) rfl w.heap.size 0 (by kernel_rfl) (vals 16 h) _ (fun w hS => (HH.out.below' hhl hS.below).range) hub rfl hib) ?_
      simp only [Act.put, List.setIfInBounds_toArray, List.set_cons_zero, List.set_cons_succ]
      refine wpAnyZ_take (i := 4) (v := .slice pf (l + F) cf) rfl (by kernel_rfl) (by kernel_rfl) (by kernel_rfl) (by kernel_rfl) (fun _ _ _ h => h) hS (Or.inl ⟨by kernel_rfl, fun w hS => (by clear hS; go_simp)⟩) ?_
      simp only [Act.put, List.setIfInBounds_toArray, List.set_cons_zero, List.set_cons_succ]
      refine wpAnyZ_three (i := 2) (j := 6) (k := 7) (by kernel_rfl) rfl rfl rfl (fun K hK => ?_) (fun K hK => ?_) (fun K hK => ?_) 
      · go_simp
        go_at_call 25
        refine (sum_of h none p 0 c 0 l [] xs _ oh rfl HL.out (Bin.nil _ _) ((HP.out.below hB5).below hS.below) Oct.nil hx (by decide) (by omega) (Nat.zero_le _) (hcap)).mono ?_
        rintro e v0 ⟨rfl, hb8⟩
        rw [← eX.out]
        go_wp2_with fail
        refine hK.out _ _ (fun _ => (hS.grow hb8)) ?_
        replace hS := hS.grow hb8
        clear hK K hb8
        try simp only [Act.put, List.setIfInBounds_toArray, List.set_cons_zero, List.set_cons_succ]
        refine wpAnyZ_three (i := 5) (j := 6) (k := 7) (by kernel_rfl) rfl rfl rfl (fun K hK => ?_) (fun K hK => ?_) (fun K hK => ?_) 
        · go_simp
          go_at_call 25
          refine (sum_of h none pf 0 cf 0 (l + F) [] (full xs) _ oh rfl HLF.out (Bin.nil _ _) (HF.out.below hS.below) Oct.nil (full_oct hx) (by decide) (by omega) (Nat.zero_le _) (hcf)).mono ?_
          rintro e v1 ⟨rfl, hb8⟩
          rw [← eY.out]
          go_wp2_with fail
          refine hK.out _ _ (fun _ => (hS.grow hb8)) ?_
          replace hS := hS.grow hb8
          clear hK K hb8
          try simp only [Act.put, List.setIfInBounds_toArray, List.set_cons_zero, List.set_cons_succ]
          refine wpAnyZ_two (i := 6) (j := 7) (by kernel_rfl) rfl rfl (fun K hK => ?_) (fun K hK => ?_) 
          · go_simp
            have hS2 := hS.fresh 35
            refine hK.out _ _ (fun _ => hS2.tail) ?_
            clear hK K hS
            obtain ⟨g7, hn⟩ : ∃ g, Hid (g = v1.heap.size) := ⟨_, rfl⟩
            rw [← hn.out] at hS2 ⊢
            generalize World.alloc v1 (.cells (vals 16 fun _ => 0).toArray 35) = v2 at hS2 ⊢
            clear hn
            have hS := hS2
            clear hS2
            try simp only [Act.put, List.setIfInBounds_toArray, List.set_cons_zero, List.set_cons_succ]
            refine wpAnyZ_one (i := 7) (by kernel_rfl) rfl (fun K hK => ?_)
            go_simp
            have hS2 := hS.fresh 35
            refine hK.out _ _ (fun _ => hS2.tail.tail) ?_
            clear hK K hS
            obtain ⟨g8, hn⟩ : ∃ g, Hid (g = v2.heap.size) := ⟨_, rfl⟩
            rw [← hn.out] at hS2 ⊢
            generalize World.alloc v2 (.cells (vals 16 fun _ => 0).toArray 35) = v3 at hS2 ⊢
            clear hn
            have hS := hS2
            clear hS2
            try simp only [Act.put, List.setIfInBounds_toArray, List.set_cons_zero, List.set_cons_succ]
            refine wpAnyZ_one (i := 8) (by kernel_rfl) rfl (fun K hK => ?_)
            have h0 := hS.at (g := g7) (x := fun _ => 0) (by simp)
            have hT0 := h0.there
            have hS2 := hS.put1 X
            rw [if_pos (by rfl)]
            refine wp_store_arr _ _ _ rfl g7 16 X rfl rfl hT0 hib ?_
            try simp only [Act.put, List.setIfInBounds_toArray, List.set_cons_zero, List.set_cons_succ]
            refine hK.out _ _ (fun _ => hS2.tail.tail) ?_
            generalize World.setCells v3 g7 0 (vals 16 X) = v4 at hS2 ⊢
            clear hK K hS hT0 h0
            have hS := hS2
            clear hS2
            refine wpAnyZ_one (i := 9) (by kernel_rfl) rfl (fun K hK => ?_)
            have h0 := hS.at (g := g8) (x := fun _ => 0) (by simp)
            have hT0 := h0.there
            have hS2 := hS.put0 Y
            rw [if_pos (by rfl)]
            refine wp_store_arr _ _ _ rfl g8 16 Y rfl rfl hT0 hib ?_
            try simp only [Act.put, List.setIfInBounds_toArray, List.set_cons_zero, List.set_cons_succ]
            refine hK.out _ _ (fun _ => hS2.tail.tail) ?_
            generalize World.setCells v4 g8 0 (vals 16 Y) = v5 at hS2 ⊢
            clear hK K hS hT0 h0
            have hS := hS2
            clear hS2
            refine wpAnyZ_done (by kernel_rfl) ?_ _
            go_wp2_with fail
            go_meet
            exact ⟨g7, g8, rfl, rfl, hS.swap⟩
          · go_simp
            have hS2 := hS.fresh 35
            refine hK.out _ _ (fun _ => hS2.tail) ?_
            clear hK K hS
            obtain ⟨g8, hn⟩ : ∃ g, Hid (g = v1.heap.size) := ⟨_, rfl⟩
            rw [← hn.out] at hS2 ⊢
            generalize World.alloc v1 (.cells (vals 16 fun _ => 0).toArray 35) = v2 at hS2 ⊢
            clear hn
            have hS := hS2
            clear hS2
            try simp only [Act.put, List.setIfInBounds_toArray, List.set_cons_zero, List.set_cons_succ]
            refine wpAnyZ_one (i := 6) (by kernel_rfl) rfl (fun K hK => ?_)
            go_simp
            have hS2 := hS.fresh 35
            refine hK.out _ _ (fun _ => hS2.tail.tail) ?_
            clear hK K hS
            obtain ⟨g7, hn⟩ : ∃ g, Hid (g = v2.heap.size) := ⟨_, rfl⟩
            rw [← hn.out] at hS2 ⊢
            generalize World.alloc v2 (.cells (vals 16 fun _ => 0).toArray 35) = v3 at hS2 ⊢
            clear hn
            have hS := hS2
            clear hS2
            try simp only [Act.put, List.setIfInBounds_toArray, List.set_cons_zero, List.set_cons_succ]
            refine wpAnyZ_one (i := 8) (by kernel_rfl) rfl (fun K hK => ?_)
            have h0 := hS.at (g := g7) (x := fun _ => 0) (by simp)
            have hT0 := h0.there
            have hS2 := hS.put0 X
            rw [if_pos (by rfl)]
            refine wp_store_arr _ _ _ rfl g7 16 X rfl rfl hT0 hib ?_
            try simp only [Act.put, List.setIfInBounds_toArray, List.set_cons_zero, List.set_cons_succ]
            refine hK.out _ _ (fun _ => hS2.tail.tail) ?_
            generalize World.setCells v3 g7 0 (vals 16 X) = v4 at hS2 ⊢
            clear hK K hS hT0 h0
            have hS := hS2
            clear hS2
            refine wpAnyZ_one (i := 9) (by kernel_rfl) rfl (fun K hK => ?_)
            have h0 := hS.at (g := g8) (x := fun _ => 0) (by simp)
            have hT0 := h0.there
            have hS2 := hS.put1 Y
            rw [if_pos (by rfl)]
            refine wp_store_arr _ _ _ rfl g8 16 Y rfl rfl hT0 hib ?_
            try simp only [Act.put, List.setIfInBounds_toArray, List.set_cons_zero, List.set_cons_succ]
            refine hK.out _ _ (fun _ => hS2.tail.tail) ?_
            generalize World.setCells v4 g8 0 (vals 16 Y) = v5 at hS2 ⊢
            clear hK K hS hT0 h0
            have hS := hS2
            clear hS2
            refine wpAnyZ_done (by kernel_rfl) ?_ _
            go_wp2_with fail
            go_meet
            exact ⟨g7, g8, rfl, rfl, hS⟩
        · go_simp
          have hS2 := hS.fresh 35
          refine hK.out _ _ (fun _ => hS2.tail) ?_
          clear hK K hS
          obtain ⟨g7, hn⟩ : ∃ g, Hid (g = v0.heap.size) := ⟨_, rfl⟩
          rw [← hn.out] at hS2 ⊢
          generalize World.alloc v0 (.cells (vals 16 fun _ => 0).toArray 35) = v1 at hS2 ⊢
          clear hn
          have hS := hS2
          clear hS2
          try simp only [Act.put, List.setIfInBounds_toArray, List.set_cons_zero, List.set_cons_succ]
          refine wpAnyZ_two (i := 5) (j := 7) (by kernel_rfl) rfl rfl (fun K hK => ?_) (fun K hK => ?_) 
          · go_simp
            go_at_call 25
            refine (sum_of h none pf 0 cf 0 (l + F) [] (full xs) _ oh rfl HLF.out (Bin.nil _ _) (HF.out.below hS.below) Oct.nil (full_oct hx) (by decide) (by omega) (Nat.zero_le _) (hcf)).mono ?_
            rintro e v2 ⟨rfl, hb8⟩
            rw [← eY.out]
            go_wp2_with fail
            refine hK.out _ _ (fun _ => (hS.grow hb8).tail) ?_
            replace hS := hS.grow hb8
            clear hK K hb8
            try simp only [Act.put, List.setIfInBounds_toArray, List.set_cons_zero, List.set_cons_succ]
            refine wpAnyZ_one (i := 7) (by kernel_rfl) rfl (fun K hK => ?_)
            go_simp
            have hS2 := hS.fresh 35
            refine hK.out _ _ (fun _ => hS2.tail.tail) ?_
            clear hK K hS
            obtain ⟨g8, hn⟩ : ∃ g, Hid (g = v2.heap.size) := ⟨_, rfl⟩
            rw [← hn.out] at hS2 ⊢
            generalize World.alloc v2 (.cells (vals 16 fun _ => 0).toArray 35) = v3 at hS2 ⊢
            clear hn
            have hS := hS2
            clear hS2
            try simp only [Act.put, List.setIfInBounds_toArray, List.set_cons_zero, List.set_cons_succ]
            refine wpAnyZ_one (i := 8) (by kernel_rfl) rfl (fun K hK => ?_)
            have h0 := hS.at (g := g7) (x := fun _ => 0) (by simp)
            have hT0 := h0.there
            have hS2 := hS.put1 X
            rw [if_pos (by rfl)]
            refine wp_store_arr _ _ _ rfl g7 16 X rfl rfl hT0 hib ?_
            try simp only [Act.put, List.setIfInBounds_toArray, List.set_cons_zero, List.set_cons_succ]
            refine hK.out _ _ (fun _ => hS2.tail.tail) ?_
            generalize World.setCells v3 g7 0 (vals 16 X) = v4 at hS2 ⊢
            clear hK K hS hT0 h0
            have hS := hS2
            clear hS2
            refine wpAnyZ_one (i := 9) (by kernel_rfl) rfl (fun K hK => ?_)
            have h0 := hS.at (g := g8) (x := fun _ => 0) (by simp)
            have hT0 := h0.there
            have hS2 := hS.put0 Y
            rw [if_pos (by rfl)]
            refine wp_store_arr _ _ _ rfl g8 16 Y rfl rfl hT0 hib ?_
            try simp only [Act.put, List.setIfInBounds_toArray, List.set_cons_zero, List.set_cons_succ]
            refine hK.out _ _ (fun _ => hS2.tail.tail) ?_
            generalize World.setCells v4 g8 0 (vals 16 Y) = v5 at hS2 ⊢
            clear hK K hS hT0 h0
            have hS := hS2
            clear hS2
            refine wpAnyZ_done (by kernel_rfl) ?_ _
            go_wp2_with fail
            go_meet
            exact ⟨g7, g8, rfl, rfl, hS.swap⟩
          · go_simp
            have hS2 := hS.fresh 35
            refine hK.out _ _ (fun _ => hS2.tail.tail) ?_
            clear hK K hS
            obtain ⟨g8, hn⟩ : ∃ g, Hid (g = v1.heap.size) := ⟨_, rfl⟩
            rw [← hn.out] at hS2 ⊢
            generalize World.alloc v1 (.cells (vals 16 fun _ => 0).toArray 35) = v2 at hS2 ⊢
            clear hn
            have hS := hS2
            clear hS2
            try simp only [Act.put, List.setIfInBounds_toArray, List.set_cons_zero, List.set_cons_succ]
            refine wpAnyZ_one (i := 5) (by kernel_rfl) rfl (fun K hK => ?_)
            go_simp
            go_at_call 25
            refine (sum_of h none pf 0 cf 0 (l + F) [] (full xs) _ oh rfl HLF.out (Bin.nil _ _) (HF.out.below hS.below) Oct.nil (full_oct hx) (by decide) (by omega) (Nat.zero_le _) (hcf)).mono ?_
            rintro e v3 ⟨rfl, hb8⟩
            rw [← eY.out]
            go_wp2_with fail
            refine hK.out _ _ (fun _ => (hS.grow hb8).tail.tail) ?_
            replace hS := hS.grow hb8
            clear hK K hb8
            try simp only [Act.put, List.setIfInBounds_toArray, List.set_cons_zero, List.set_cons_succ]
            refine wpAnyZ_one (i := 8) (by kernel_rfl) rfl (fun K hK => ?_)
            have h0 := hS.at (g := g7) (x := fun _ => 0) (by simp)
            have hT0 := h0.there
            have hS2 := hS.put1 X
            rw [if_pos (by rfl)]
            refine wp_store_arr _ _ _ rfl g7 16 X rfl rfl hT0 hib ?_
            try simp only [Act.put, List.setIfInBounds_toArray, List.set_cons_zero, List.set_cons_succ]
            refine hK.out _ _ (fun _ => hS2.tail.tail) ?_
            generalize World.setCells v3 g7 0 (vals 16 X) = v4 at hS2 ⊢
            clear hK K hS hT0 h0
            have hS := hS2
            clear hS2
            refine wpAnyZ_one (i := 9) (by kernel_rfl) rfl (fun K hK => ?_)
            have h0 := hS.at (g := g8) (x := fun _ => 0) (by simp)
            have hT0 := h0.there
            have hS2 := hS.put0 Y
            rw [if_pos (by rfl)]
            refine wp_store_arr _ _ _ rfl g8 16 Y rfl rfl hT0 hib ?_
            try simp only [Act.put, List.setIfInBounds_toArray, List.set_cons_zero, List.set_cons_succ]
            refine hK.out _ _ (fun _ => hS2.tail.tail) ?_
            generalize World.setCells v4 g8 0 (vals 16 Y) = v5 at hS2 ⊢
            clear hK K hS hT0 h0
            have hS := hS2
            clear hS2
            refine wpAnyZ_done (by kernel_rfl) ?_ _
            go_wp2_with fail
            go_meet
            exact ⟨g7, g8, rfl, rfl, hS.swap⟩
        · go_simp
          have hS2 := hS.fresh 35
          refine hK.out _ _ (fun _ => hS2.tail) ?_
          clear hK K hS
          obtain ⟨g8, hn⟩ : ∃ g, Hid (g = v0.heap.size) := ⟨_, rfl⟩
          rw [← hn.out] at hS2 ⊢
          generalize World.alloc v0 (.cells (vals 16 fun _ => 0).toArray 35) = v1 at hS2 ⊢
          clear hn
          have hS := hS2
          clear hS2
          try simp only [Act.put, List.setIfInBounds_toArray, List.set_cons_zero, List.set_cons_succ]
          refine wpAnyZ_two (i := 5) (j := 6) (by kernel_rfl) rfl rfl (fun K hK => ?_) (fun K hK => ?_) 
          · go_simp
            go_at_call 25
            refine (sum_of h none pf 0 cf 0 (l + F) [] (full xs) _ oh rfl HLF.out (Bin.nil _ _) (HF.out.below hS.below) Oct.nil (full_oct hx) (by decide) (by omega) (Nat.zero_le _) (hcf)).mono ?_
            rintro e v2 ⟨rfl, hb8⟩
            rw [← eY.out]
            go_wp2_with fail
            refine hK.out _ _ (fun _ => (hS.grow hb8).tail) ?_
            replace hS := hS.grow hb8
            clear hK K hb8
            try simp only [Act.put, List.setIfInBounds_toArray, List.set_cons_zero, List.set_cons_succ]
            refine wpAnyZ_one (i := 6) (by kernel_rfl) rfl (fun K hK => ?_)
            go_simp
            have hS2 := hS.fresh 35
            refine hK.out _ _ (fun _ => hS2.tail.tail) ?_
            clear hK K hS
            obtain ⟨g7, hn⟩ : ∃ g, Hid (g = v2.heap.size) := ⟨_, rfl⟩
            rw [← hn.out] at hS2 ⊢
            generalize World.alloc v2 (.cells (vals 16 fun _ => 0).toArray 35) = v3 at hS2 ⊢
            clear hn
            have hS := hS2
            clear hS2
            try simp only [Act.put, List.setIfInBounds_toArray, List.set_cons_zero, List.set_cons_succ]
            refine wpAnyZ_one (i := 8) (by kernel_rfl) rfl (fun K hK => ?_)
            have h0 := hS.at (g := g7) (x := fun _ => 0) (by simp)
            have hT0 := h0.there
            have hS2 := hS.put0 X
            rw [if_pos (by rfl)]
            refine wp_store_arr _ _ _ rfl g7 16 X rfl rfl hT0 hib ?_
            try simp only [Act.put, List.setIfInBounds_toArray, List.set_cons_zero, List.set_cons_succ]
            refine hK.out _ _ (fun _ => hS2.tail.tail) ?_
            generalize World.setCells v3 g7 0 (vals 16 X) = v4 at hS2 ⊢
            clear hK K hS hT0 h0
            have hS := hS2
            clear hS2
            refine wpAnyZ_one (i := 9) (by kernel_rfl) rfl (fun K hK => ?_)
            have h0 := hS.at (g := g8) (x := fun _ => 0) (by simp)
            have hT0 := h0.there
            have hS2 := hS.put1 Y
            rw [if_pos (by rfl)]
            refine wp_store_arr _ _ _ rfl g8 16 Y rfl rfl hT0 hib ?_
            try simp only [Act.put, List.setIfInBounds_toArray, List.set_cons_zero, List.set_cons_succ]
            refine hK.out _ _ (fun _ => hS2.tail.tail) ?_
            generalize World.setCells v4 g8 0 (vals 16 Y) = v5 at hS2 ⊢
            clear hK K hS hT0 h0
            have hS := hS2
            clear hS2
            refine wpAnyZ_done (by kernel_rfl) ?_ _
            go_wp2_with fail
            go_meet
            exact ⟨g7, g8, rfl, rfl, hS⟩
          · go_simp
            have hS2 := hS.fresh 35
            refine hK.out _ _ (fun _ => hS2.tail.tail) ?_
            clear hK K hS
            obtain ⟨g7, hn⟩ : ∃ g, Hid (g = v1.heap.size) := ⟨_, rfl⟩
            rw [← hn.out] at hS2 ⊢
            generalize World.alloc v1 (.cells (vals 16 fun _ => 0).toArray 35) = v2 at hS2 ⊢
            clear hn
            have hS := hS2
            clear hS2
            try simp only [Act.put, List.setIfInBounds_toArray, List.set_cons_zero, List.set_cons_succ]
            refine wpAnyZ_one (i := 5) (by kernel_rfl) rfl (fun K hK => ?_)
            go_simp
            go_at_call 25
            refine (sum_of h none pf 0 cf 0 (l + F) [] (full xs) _ oh rfl HLF.out (Bin.nil _ _) (HF.out.below hS.below) Oct.nil (full_oct hx) (by decide) (by omega) (Nat.zero_le _) (hcf)).mono ?_
            rintro e v3 ⟨rfl, hb8⟩
            rw [← eY.out]
            go_wp2_with fail
            refine hK.out _ _ (fun _ => (hS.grow hb8).tail.tail) ?_
            replace hS := hS.grow hb8
            clear hK K hb8
            try simp only [Act.put, List.setIfInBounds_toArray, List.set_cons_zero, List.set_cons_succ]
            refine wpAnyZ_one (i := 8) (by kernel_rfl) rfl (fun K hK => ?_)
            have h0 := hS.at (g := g7) (x := fun _ => 0) (by simp)
            have hT0 := h0.there
            have hS2 := hS.put0 X
            rw [if_pos (by rfl)]
            refine wp_store_arr _ _ _ rfl g7 16 X rfl rfl hT0 hib ?_
            try simp only [Act.put, List.setIfInBounds_toArray, List.set_cons_zero, List.set_cons_succ]
            refine hK.out _ _ (fun _ => hS2.tail.tail) ?_
            generalize World.setCells v3 g7 0 (vals 16 X) = v4 at hS2 ⊢
            clear hK K hS hT0 h0
            have hS := hS2
            clear hS2
            refine wpAnyZ_one (i := 9) (by kernel_rfl) rfl (fun K hK => ?_)
            have h0 := hS.at (g := g8) (x := fun _ => 0) (by simp)
            have hT0 := h0.there
            have hS2 := hS.put1 Y
            rw [if_pos (by rfl)]
            refine wp_store_arr _ _ _ rfl g8 16 Y rfl rfl hT0 hib ?_
            try simp only [Act.put, List.setIfInBounds_toArray, List.set_cons_zero, List.set_cons_succ]
            refine hK.out _ _ (fun _ => hS2.tail.tail) ?_
            generalize World.setCells v4 g8 0 (vals 16 Y) = v5 at hS2 ⊢
            clear hK K hS hT0 h0
            have hS := hS2
            clear hS2
            refine wpAnyZ_done (by kernel_rfl) ?_ _
            go_wp2_with fail
            go_meet
            exact ⟨g7, g8, rfl, rfl, hS⟩
      · go_simp
        have hS2 := hS.fresh 35
        refine hK.out _ _ (fun _ => hS2.tail) ?_
        clear hK K hS
        obtain ⟨g7, hn⟩ : ∃ g, Hid (g = w9.heap.size) := ⟨_, rfl⟩
        rw [← hn.out] at hS2 ⊢
        generalize World.alloc w9 (.cells (vals 16 fun _ => 0).toArray 35) = v0 at hS2 ⊢
        clear hn
        have hS := hS2
        clear hS2
        try simp only [Act.put, List.setIfInBounds_toArray, List.set_cons_zero, List.set_cons_succ]
        refine wpAnyZ_two (i := 2) (j := 7) (by kernel_rfl) rfl rfl (fun K hK => ?_) (fun K hK => ?_) 
        · go_simp
          go_at_call 25
          refine (sum_of h none p 0 c 0 l [] xs _ oh rfl HL.out (Bin.nil _ _) ((HP.out.below hB5).below hS.below) Oct.nil hx (by decide) (by omega) (Nat.zero_le _) (hcap)).mono ?_
          rintro e v1 ⟨rfl, hb8⟩
          rw [← eX.out]
          go_wp2_with fail
          refine hK.out _ _ (fun _ => (hS.grow hb8).tail) ?_
          replace hS := hS.grow hb8
          clear hK K hb8
          try simp only [Act.put, List.setIfInBounds_toArray, List.set_cons_zero, List.set_cons_succ]
          refine wpAnyZ_two (i := 5) (j := 7) (by kernel_rfl) rfl rfl (fun K hK => ?_) (fun K hK => ?_) 
          · go_simp
            go_at_call 25
            refine (sum_of h none pf 0 cf 0 (l + F) [] (full xs) _ oh rfl HLF.out (Bin.nil _ _) (HF.out.below hS.below) Oct.nil (full_oct hx) (by decide) (by omega) (Nat.zero_le _) (hcf)).mono ?_
            rintro e v2 ⟨rfl, hb8⟩
            rw [← eY.out]
            go_wp2_with fail
            refine hK.out _ _ (fun _ => (hS.grow hb8).tail) ?_
            replace hS := hS.grow hb8
            clear hK K hb8
            try simp only [Act.put, List.setIfInBounds_toArray, List.set_cons_zero, List.set_cons_succ]
            refine wpAnyZ_one (i := 7) (by kernel_rfl) rfl (fun K hK => ?_)
            go_simp
            have hS2 := hS.fresh 35
            refine hK.out _ _ (fun _ => hS2.tail.tail) ?_
            clear hK K hS
            obtain ⟨g8, hn⟩ : ∃ g, Hid (g = v2.heap.size) := ⟨_, rfl⟩
            rw [← hn.out] at hS2 ⊢
            generalize World.alloc v2 (.cells (vals 16 fun _ => 0).toArray 35) = v3 at hS2 ⊢
            clear hn
            have hS := hS2
            clear hS2
            try simp only [Act.put, List.setIfInBounds_toArray, List.set_cons_zero, List.set_cons_succ]
            refine wpAnyZ_one (i := 8) (by kernel_rfl) rfl (fun K hK => ?_)
            have h0 := hS.at (g := g7) (x := fun _ => 0) (by simp)
            have hT0 := h0.there
            have hS2 := hS.put1 X
            rw [if_pos (by rfl)]
            refine wp_store_arr _ _ _ rfl g7 16 X rfl rfl hT0 hib ?_
            try simp only [Act.put, List.setIfInBounds_toArray, List.set_cons_zero, List.set_cons_succ]
            refine hK.out _ _ (fun _ => hS2.tail.tail) ?_
            generalize World.setCells v3 g7 0 (vals 16 X) = v4 at hS2 ⊢
            clear hK K hS hT0 h0
            have hS := hS2
            clear hS2
            refine wpAnyZ_one (i := 9) (by kernel_rfl) rfl (fun K hK => ?_)
            have h0 := hS.at (g := g8) (x := fun _ => 0) (by simp)
            have hT0 := h0.there
            have hS2 := hS.put0 Y
            rw [if_pos (by rfl)]
            refine wp_store_arr _ _ _ rfl g8 16 Y rfl rfl hT0 hib ?_
            try simp only [Act.put, List.setIfInBounds_toArray, List.set_cons_zero, List.set_cons_succ]
            refine hK.out _ _ (fun _ => hS2.tail.tail) ?_
            generalize World.setCells v4 g8 0 (vals 16 Y) = v5 at hS2 ⊢
            clear hK K hS hT0 h0
            have hS := hS2
            clear hS2
            refine wpAnyZ_done (by kernel_rfl) ?_ _
            go_wp2_with fail
            go_meet
            exact ⟨g7, g8, rfl, rfl, hS.swap⟩
          · go_simp
            have hS2 := hS.fresh 35
            refine hK.out _ _ (fun _ => hS2.tail.tail) ?_
            clear hK K hS
            obtain ⟨g8, hn⟩ : ∃ g, Hid (g = v1.heap.size) := ⟨_, rfl⟩
            rw [← hn.out] at hS2 ⊢
            generalize World.alloc v1 (.cells (vals 16 fun _ => 0).toArray 35) = v2 at hS2 ⊢
            clear hn
            have hS := hS2
            clear hS2
            try simp only [Act.put, List.setIfInBounds_toArray, List.set_cons_zero, List.set_cons_succ]
            refine wpAnyZ_one (i := 5) (by kernel_rfl) rfl (fun K hK => ?_)
            go_simp
            go_at_call 25
            refine (sum_of h none pf 0 cf 0 (l + F) [] (full xs) _ oh rfl HLF.out (Bin.nil _ _) (HF.out.below hS.below) Oct.nil (full_oct hx) (by decide) (by omega) (Nat.zero_le _) (hcf)).mono ?_
            rintro e v3 ⟨rfl, hb8⟩
            rw [← eY.out]
            go_wp2_with fail
            refine hK.out _ _ (fun _ => (hS.grow hb8).tail.tail) ?_
            replace hS := hS.grow hb8
            clear hK K hb8
            try simp only [Act.put, List.setIfInBounds_toArray, List.set_cons_zero, List.set_cons_succ]
            refine wpAnyZ_one (i := 8) (by kernel_rfl) rfl (fun K hK => ?_)
            have h0 := hS.at (g := g7) (x := fun _ => 0) (by simp)
            have hT0 := h0.there
            have hS2 := hS.put1 X
            rw [if_pos (by rfl)]
            refine wp_store_arr _ _ _ rfl g7 16 X rfl rfl hT0 hib ?_
            try simp only [Act.put, List.setIfInBounds_toArray, List.set_cons_zero, List.set_cons_succ]
            refine hK.out _ _ (fun _ => hS2.tail.tail) ?_
            generalize World.setCells v3 g7 0 (vals 16 X) = v4 at hS2 ⊢
            clear hK K hS hT0 h0
            have hS := hS2
            clear hS2
            refine wpAnyZ_one (i := 9) (by kernel_rfl) rfl (fun K hK => ?_)
            have h0 := hS.at (g := g8) (x := fun _ => 0) (by simp)
            have hT0 := h0.there
            have hS2 := hS.put0 Y
            rw [if_pos (by rfl)]
            refine wp_store_arr _ _ _ rfl g8 16 Y rfl rfl hT0 hib ?_
            try simp only [Act.put, List.setIfInBounds_toArray, List.set_cons_zero, List.set_cons_succ]
            refine hK.out _ _ (fun _ => hS2.tail.tail) ?_
            generalize World.setCells v4 g8 0 (vals 16 Y) = v5 at hS2 ⊢
            clear hK K hS hT0 h0
            have hS := hS2
            clear hS2
            refine wpAnyZ_done (by kernel_rfl) ?_ _
            go_wp2_with fail
            go_meet
            exact ⟨g7, g8, rfl, rfl, hS.swap⟩
        · go_simp
          have hS2 := hS.fresh 35
          refine hK.out _ _ (fun _ => hS2.tail.tail) ?_
          clear hK K hS
          obtain ⟨g8, hn⟩ : ∃ g, Hid (g = v0.heap.size) := ⟨_, rfl⟩
          rw [← hn.out] at hS2 ⊢
          generalize World.alloc v0 (.cells (vals 16 fun _ => 0).toArray 35) = v1 at hS2 ⊢
          clear hn
          have hS := hS2
          clear hS2
          try simp only [Act.put, List.setIfInBounds_toArray, List.set_cons_zero, List.set_cons_succ]
          refine wpAnyZ_one (i := 2) (by kernel_rfl) rfl (fun K hK => ?_)
          go_simp
          go_at_call 25
          refine (sum_of h none p 0 c 0 l [] xs _ oh rfl HL.out (Bin.nil _ _) ((HP.out.below hB5).below hS.below) Oct.nil hx (by decide) (by omega) (Nat.zero_le _) (hcap)).mono ?_
          rintro e v2 ⟨rfl, hb8⟩
          rw [← eX.out]
          go_wp2_with fail
          refine hK.out _ _ (fun _ => (hS.grow hb8).tail.tail) ?_
          replace hS := hS.grow hb8
          clear hK K hb8
          try simp only [Act.put, List.setIfInBounds_toArray, List.set_cons_zero, List.set_cons_succ]
          refine wpAnyZ_one (i := 5) (by kernel_rfl) rfl (fun K hK => ?_)
          go_simp
          go_at_call 25
          refine (sum_of h none pf 0 cf 0 (l + F) [] (full xs) _ oh rfl HLF.out (Bin.nil _ _) (HF.out.below hS.below) Oct.nil (full_oct hx) (by decide) (by omega) (Nat.zero_le _) (hcf)).mono ?_
          rintro e v3 ⟨rfl, hb8⟩
          rw [← eY.out]
          go_wp2_with fail
          refine hK.out _ _ (fun _ => (hS.grow hb8).tail.tail) ?_
          replace hS := hS.grow hb8
          clear hK K hb8
          try simp only [Act.put, List.setIfInBounds_toArray, List.set_cons_zero, List.set_cons_succ]
          refine wpAnyZ_one (i := 8) (by kernel_rfl) rfl (fun K hK => ?_)
          have h0 := hS.at (g := g7) (x := fun _ => 0) (by simp)
          have hT0 := h0.there
          have hS2 := hS.put1 X
          rw [if_pos (by rfl)]
          refine wp_store_arr _ _ _ rfl g7 16 X rfl rfl hT0 hib ?_
          try simp only [Act.put, List.setIfInBounds_toArray, List.set_cons_zero, List.set_cons_succ]
          refine hK.out _ _ (fun _ => hS2.tail.tail) ?_
          generalize World.setCells v3 g7 0 (vals 16 X) = v4 at hS2 ⊢
          clear hK K hS hT0 h0
          have hS := hS2
          clear hS2
          refine wpAnyZ_one (i := 9) (by kernel_rfl) rfl (fun K hK => ?_)
          have h0 := hS.at (g := g8) (x := fun _ => 0) (by simp)
          have hT0 := h0.there
          have hS2 := hS.put0 Y
          rw [if_pos (by rfl)]
          refine wp_store_arr _ _ _ rfl g8 16 Y rfl rfl hT0 hib ?_
          try simp only [Act.put, List.setIfInBounds_toArray, List.set_cons_zero, List.set_cons_succ]
          refine hK.out _ _ (fun _ => hS2.tail.tail) ?_
          generalize World.setCells v4 g8 0 (vals 16 Y) = v5 at hS2 ⊢
          clear hK K hS hT0 h0
          have hS := hS2
          clear hS2
          refine wpAnyZ_done (by kernel_rfl) ?_ _
          go_wp2_with fail
          go_meet
          exact ⟨g7, g8, rfl, rfl, hS.swap⟩
      · go_simp
        have hS2 := hS.fresh 35
        refine hK.out _ _ (fun _ => hS2.tail) ?_
        clear hK K hS
        obtain ⟨g8, hn⟩ : ∃ g, Hid (g = w9.heap.size) := ⟨_, rfl⟩
        rw [← hn.out] at hS2 ⊢
        generalize World.alloc w9 (.cells (vals 16 fun _ => 0).toArray 35) = v0 at hS2 ⊢
        clear hn
        have hS := hS2
        clear hS2
        try simp only [Act.put, List.setIfInBounds_toArray, List.set_cons_zero, List.set_cons_succ]
        refine wpAnyZ_two (i := 2) (j := 6) (by kernel_rfl) rfl rfl (fun K hK => ?_) (fun K hK => ?_) 
        · go_simp
          go_at_call 25
          refine (sum_of h none p 0 c 0 l [] xs _ oh rfl HL.out (Bin.nil _ _) ((HP.out.below hB5).below hS.below) Oct.nil hx (by decide) (by omega) (Nat.zero_le _) (hcap)).mono ?_
          rintro e v1 ⟨rfl, hb8⟩
          rw [← eX.out]
          go_wp2_with fail
          refine hK.out _ _ (fun _ => (hS.grow hb8).tail) ?_
          replace hS := hS.grow hb8
          clear hK K hb8
          try simp only [Act.put, List.setIfInBounds_toArray, List.set_cons_zero, List.set_cons_succ]
          refine wpAnyZ_two (i := 5) (j := 6) (by kernel_rfl) rfl rfl (fun K hK => ?_) (fun K hK => ?_) 
          · go_simp
            go_at_call 25
            refine (sum_of h none pf 0 cf 0 (l + F) [] (full xs) _ oh rfl HLF.out (Bin.nil _ _) (HF.out.below hS.below) Oct.nil (full_oct hx) (by decide) (by omega) (Nat.zero_le _) (hcf)).mono ?_
            rintro e v2 ⟨rfl, hb8⟩
            rw [← eY.out]
            go_wp2_with fail
            refine hK.out _ _ (fun _ => (hS.grow hb8).tail) ?_
            replace hS := hS.grow hb8
            clear hK K hb8
            try simp only [Act.put, List.setIfInBounds_toArray, List.set_cons_zero, List.set_cons_succ]
            refine wpAnyZ_one (i := 6) (by kernel_rfl) rfl (fun K hK => ?_)
            go_simp
            have hS2 := hS.fresh 35
            refine hK.out _ _ (fun _ => hS2.tail.tail) ?_
            clear hK K hS
            obtain ⟨g7, hn⟩ : ∃ g, Hid (g = v2.heap.size) := ⟨_, rfl⟩
            rw [← hn.out] at hS2 ⊢
            generalize World.alloc v2 (.cells (vals 16 fun _ => 0).toArray 35) = v3 at hS2 ⊢
            clear hn
            have hS := hS2
            clear hS2
            try simp only [Act.put, List.setIfInBounds_toArray, List.set_cons_zero, List.set_cons_succ]
            refine wpAnyZ_one (i := 8) (by kernel_rfl) rfl (fun K hK => ?_)
            have h0 := hS.at (g := g7) (x := fun _ => 0) (by simp)
            have hT0 := h0.there
            have hS2 := hS.put0 X
            rw [if_pos (by rfl)]
            refine wp_store_arr _ _ _ rfl g7 16 X rfl rfl hT0 hib ?_
            try simp only [Act.put, List.setIfInBounds_toArray, List.set_cons_zero, List.set_cons_succ]
            refine hK.out _ _ (fun _ => hS2.tail.tail) ?_
            generalize World.setCells v3 g7 0 (vals 16 X) = v4 at hS2 ⊢
            clear hK K hS hT0 h0
            have hS := hS2
            clear hS2
            refine wpAnyZ_one (i := 9) (by kernel_rfl) rfl (fun K hK => ?_)
            have h0 := hS.at (g := g8) (x := fun _ => 0) (by simp)
            have hT0 := h0.there
            have hS2 := hS.put1 Y
            rw [if_pos (by rfl)]
            refine wp_store_arr _ _ _ rfl g8 16 Y rfl rfl hT0 hib ?_
            try simp only [Act.put, List.setIfInBounds_toArray, List.set_cons_zero, List.set_cons_succ]
            refine hK.out _ _ (fun _ => hS2.tail.tail) ?_
            generalize World.setCells v4 g8 0 (vals 16 Y) = v5 at hS2 ⊢
            clear hK K hS hT0 h0
            have hS := hS2
            clear hS2
            refine wpAnyZ_done (by kernel_rfl) ?_ _
            go_wp2_with fail
            go_meet
            exact ⟨g7, g8, rfl, rfl, hS⟩
          · go_simp
            have hS2 := hS.fresh 35
            refine hK.out _ _ (fun _ => hS2.tail.tail) ?_
            clear hK K hS
            obtain ⟨g7, hn⟩ : ∃ g, Hid (g = v1.heap.size) := ⟨_, rfl⟩
            rw [← hn.out] at hS2 ⊢
            generalize World.alloc v1 (.cells (vals 16 fun _ => 0).toArray 35) = v2 at hS2 ⊢
            clear hn
            have hS := hS2
            clear hS2
            try simp only [Act.put, List.setIfInBounds_toArray, List.set_cons_zero, List.set_cons_succ]
            refine wpAnyZ_one (i := 5) (by kernel_rfl) rfl (fun K hK => ?_)
            go_simp
            go_at_call 25
            refine (sum_of h none pf 0 cf 0 (l + F) [] (full xs) _ oh rfl HLF.out (Bin.nil _ _) (HF.out.below hS.below) Oct.nil (full_oct hx) (by decide) (by omega) (Nat.zero_le _) (hcf)).mono ?_
            rintro e v3 ⟨rfl, hb8⟩
            rw [← eY.out]
            go_wp2_with fail
            refine hK.out _ _ (fun _ => (hS.grow hb8).tail.tail) ?_
            replace hS := hS.grow hb8
            clear hK K hb8
            try simp only [Act.put, List.setIfInBounds_toArray, List.set_cons_zero, List.set_cons_succ]
            refine wpAnyZ_one (i := 8) (by kernel_rfl) rfl (fun K hK => ?_)
            have h0 := hS.at (g := g7) (x := fun _ => 0) (by simp)
            have hT0 := h0.there
            have hS2 := hS.put0 X
            rw [if_pos (by rfl)]
            refine wp_store_arr _ _ _ rfl g7 16 X rfl rfl hT0 hib ?_
            try simp only [Act.put, List.setIfInBounds_toArray, List.set_cons_zero, List.set_cons_succ]
            refine hK.out _ _ (fun _ => hS2.tail.tail) ?_
            generalize World.setCells v3 g7 0 (vals 16 X) = v4 at hS2 ⊢
            clear hK K hS hT0 h0
            have hS := hS2
            clear hS2
            refine wpAnyZ_one (i := 9) (by kernel_rfl) rfl (fun K hK => ?_)
            have h0 := hS.at (g := g8) (x := fun _ => 0) (by simp)
            have hT0 := h0.there
            have hS2 := hS.put1 Y
            rw [if_pos (by rfl)]
            refine wp_store_arr _ _ _ rfl g8 16 Y rfl rfl hT0 hib ?_
            try simp only [Act.put, List.setIfInBounds_toArray, List.set_cons_zero, List.set_cons_succ]
            refine hK.out _ _ (fun _ => hS2.tail.tail) ?_
            generalize World.setCells v4 g8 0 (vals 16 Y) = v5 at hS2 ⊢
            clear hK K hS hT0 h0
            have hS := hS2
            clear hS2
            refine wpAnyZ_done (by kernel_rfl) ?_ _
            go_wp2_with fail
            go_meet
            exact ⟨g7, g8, rfl, rfl, hS⟩
        · go_simp
          have hS2 := hS.fresh 35
          refine hK.out _ _ (fun _ => hS2.tail.tail) ?_
          clear hK K hS
          obtain ⟨g7, hn⟩ : ∃ g, Hid (g = v0.heap.size) := ⟨_, rfl⟩
          rw [← hn.out] at hS2 ⊢
          generalize World.alloc v0 (.cells (vals 16 fun _ => 0).toArray 35) = v1 at hS2 ⊢
          clear hn
          have hS := hS2
          clear hS2
          try simp only [Act.put, List.setIfInBounds_toArray, List.set_cons_zero, List.set_cons_succ]
          refine wpAnyZ_one (i := 2) (by kernel_rfl) rfl (fun K hK => ?_)
          go_simp
          go_at_call 25
          refine (sum_of h none p 0 c 0 l [] xs _ oh rfl HL.out (Bin.nil _ _) ((HP.out.below hB5).below hS.below) Oct.nil hx (by decide) (by omega) (Nat.zero_le _) (hcap)).mono ?_
          rintro e v2 ⟨rfl, hb8⟩
          rw [← eX.out]
          go_wp2_with fail
          refine hK.out _ _ (fun _ => (hS.grow hb8).tail.tail) ?_
          replace hS := hS.grow hb8
          clear hK K hb8
          try simp only [Act.put, List.setIfInBounds_toArray, List.set_cons_zero, List.set_cons_succ]
          refine wpAnyZ_one (i := 5) (by kernel_rfl) rfl (fun K hK => ?_)
          go_simp
          go_at_call 25
          refine (sum_of h none pf 0 cf 0 (l + F) [] (full xs) _ oh rfl HLF.out (Bin.nil _ _) (HF.out.below hS.below) Oct.nil (full_oct hx) (by decide) (by omega) (Nat.zero_le _) (hcf)).mono ?_
          rintro e v3 ⟨rfl, hb8⟩
          rw [← eY.out]
          go_wp2_with fail
          refine hK.out _ _ (fun _ => (hS.grow hb8).tail.tail) ?_
          replace hS := hS.grow hb8
          clear hK K hb8
          try simp only [Act.put, List.setIfInBounds_toArray, List.set_cons_zero, List.set_cons_succ]
          refine wpAnyZ_one (i := 8) (by kernel_rfl) rfl (fun K hK => ?_)
          have h0 := hS.at (g := g7) (x := fun _ => 0) (by simp)
          have hT0 := h0.there
          have hS2 := hS.put0 X
          rw [if_pos (by rfl)]
          refine wp_store_arr _ _ _ rfl g7 16 X rfl rfl hT0 hib ?_
          try simp only [Act.put, List.setIfInBounds_toArray, List.set_cons_zero, List.set_cons_succ]
          refine hK.out _ _ (fun _ => hS2.tail.tail) ?_
          generalize World.setCells v3 g7 0 (vals 16 X) = v4 at hS2 ⊢
          clear hK K hS hT0 h0
          have hS := hS2
          clear hS2
          refine wpAnyZ_one (i := 9) (by kernel_rfl) rfl (fun K hK => ?_)
          have h0 := hS.at (g := g8) (x := fun _ => 0) (by simp)
          have hT0 := h0.there
          have hS2 := hS.put1 Y
          rw [if_pos (by rfl)]
          refine wp_store_arr _ _ _ rfl g8 16 Y rfl rfl hT0 hib ?_
          try simp only [Act.put, List.setIfInBounds_toArray, List.set_cons_zero, List.set_cons_succ]
          refine hK.out _ _ (fun _ => hS2.tail.tail) ?_
          generalize World.setCells v4 g8 0 (vals 16 Y) = v5 at hS2 ⊢
          clear hK K hS hT0 h0
          have hS := hS2
          clear hS2
          refine wpAnyZ_done (by kernel_rfl) ?_ _
          go_wp2_with fail
          go_meet
          exact ⟨g7, g8, rfl, rfl, hS⟩
    case rest =>
      obtain ⟨g7, g8, rfl, rfl, hS⟩ := hcut
      have HX0 := hid (hS.at (g := g7) (x := X) (by simp))
      have HY0 := hid (hS.at (g := g8) (x := Y) (by simp))
      have HE0 := hid (HH.out.below' hhl hS.below)
      have hBc := hB5.trans (hS.below.mono hB5.size)
      have hA9 := arr_new wc 16 (fun _ => 0) 35
      have hC9 := (Below.refl wc.heap.size wc).alloc (Nat.le_refl _) (.cells (vals 16 fun _ => 0).toArray 35)
      obtain ⟨M, hM⟩ : ∃ M, Hid (M = 8 * l ^^^ 8 * (l + F)) := ⟨_, rfl⟩
      have hMx := i64_xor_nat (8 * l) (8 * (l + F)) (by omega) (by omega)
      rw [← hM.out] at hMx
      have hM8 : M < 256 ^ 8 := by rw [hM.out]; exact Nat.lt_of_lt_of_le (Nat.xor_lt_two_pow (n := 20) (by omega) (by omega)) (by decide)
      have lx := HX0.out.lt (by decide)
      have ly := HY0.out.lt (by decide)
      have le := HE0.out.lt (by decide)
      have hMb : M ≤ 1152921504606846976 := by have h2 : (256 : Nat) ^ 8 = 18446744073709551616 := rfl; rw [hM.out]; exact Nat.le_of_lt (Nat.lt_of_lt_of_le (Nat.xor_lt_two_pow (n := 20) (by omega) (by omega)) (by decide))
      clear hS
      go_upto_region 8 with fail
      rw [show bits .xor .i64 (8 * (l : Int)) (8 * ((l : Int) + (F : Int))) = (M : Int) from by rw [show 8 * (l : Int) = ((8 * l : Nat) : Int) from by omega, show 8 * ((l : Int) + (F : Int)) = ((8 * (l + F) : Nat) : Int) from by omega]; exact hMx]
      obtain ⟨g9, hg9⟩ : ∃ g, Hid (g = wc.heap.size) := ⟨_, rfl⟩
      have lg9 : g9 = wc.heap.size := hg9.out
      rw [← hg9.out] at hA9 ⊢
      generalize wc.alloc (.cells (vals 16 fun _ => 0).toArray 35) = wd at hA9 hC9 ⊢
      have HA := hid (And.intro hC9 hA9)
      have LG := hid lg9
      clear hMx hA9 hC9 hg9 lg9
      go_wp2_with fail
      go_loopw [10, 11] (fun a i wr => ∃ t mt : Nat, t ≤ 8 ∧ Hid (mt = M / 256 ^ t) ∧ a = .int .i64 (mt : Int) ∧ i = .int .i64 (15 - (t : Int)) ∧ Below wc.heap.size wc wr ∧ Arr wr g9 16 (dzs M t)) (fun _ i _ => (intOf i).toNat)
      case atStart => exact ⟨0, M, by decide, by simp [Hid], rfl, rfl, HA.out.1, HA.out.2.same fun j hj => (dzs_zero M j hj).symm⟩
      case round =>
        clear HA
        obtain ⟨t, mt, ht, hmt, rfl, rfl, hC, hA⟩ := hrel
        by_cases hlt : t < 8
        · have i0 : (7 : Int) < 15 - (t : Int) := by omega
          have i2 : (0 : Int) ≤ 15 - (t : Int) := by omega
          have i3 : 15 - (t : Int) < 16 := by omega
          have i4 : (15 - (t : Int)).toNat = 15 - t := by omega
          obtain ⟨hc, hf⟩ := hA (15 - t) (by omega)
          have HA2 := hid ((hA.set (15 - t) (mt % 256) (by omega)).same (y := dzs M (t + 1)) fun j hj => by rw [hmt.out]; exact dzs_step M t j hlt hj)
          have HC2 := hid (hC.setCell (show wc.heap.size ≤ (⟨g9, 15 - t, none⟩ : Addr).block from by show wc.heap.size ≤ g9; have := LG.out; omega) (.int .u8 (mt % 256 : Nat)))
          have hm2 : Hid (mt / 256 = M / 256 ^ (t + 1)) := by rw [hmt.out, Nat.pow_succ, Nat.div_div_eq_div_mul]; rfl
          have hmb : mt ≤ 1152921504606846976 := by rw [hmt.out]; exact Nat.le_trans (Nat.div_le_self _ _) (by have h := hMb; omega)
          have v1 : (mt : Int) % 256 = ((mt % 256 : Nat) : Int) := by omega
          have v2 : (mt : Int) / 256 = ((mt / 256 : Nat) : Int) := by omega
          have V1 := hid v1
          have V2 := hid v2
          clear hC hA v1 v2
          go_wp2_with fail
          go_roundw
          case rel => exact ⟨t + 1, mt / 256, by omega, hm2, by rw [← V2.out], by go_num, by rw [V1.out]; exact HC2.out, by rw [V1.out]; exact HA2.out⟩
          case measure => simp [intOf]; omega
        · obtain rfl : t = 8 := by omega
          rw [show (15 : Int) - ((8 : Nat) : Int) = 7 from rfl]
          obtain ⟨we, rfl⟩ : ∃ we, we = wr := ⟨_, rfl⟩
          obtain ⟨dz, edz⟩ : ∃ f : Nat → Nat, Hid (f = by16 M) := ⟨_, rfl⟩
          have odz : ∀ j, dz j < 256 := by rw [edz.out]; exact by16_lt _
          have HD := hid (hA.same (y := dz) fun j hj => by rw [edz.out]; exact dzs_full M j hM8 hj)
          have HX := hid (HX0.out.below' lx hC)
          have HY := hid (HY0.out.below' ly hC)
          have HE := hid (HE0.out.below' le hC)
          have hsz := hC.size
          have lx2 : g7 < we.heap.size := by omega
          have ly2 : g8 < we.heap.size := by omega
          have le2 : w.heap.size < we.heap.size := by omega
          have ld9 := HD.out.lt (by decide)
          obtain ⟨XY, eXY⟩ : ∃ f : Nat → Nat, Hid (f = fun j => X j ^^^ Y j) := ⟨_, rfl⟩
          obtain ⟨mm, eM⟩ : ∃ f : Nat → Nat, Hid (f = by16 (G.mul (el dz) (el h))) := ⟨_, rfl⟩
          have oXY : ∀ j, XY j < 256 := by rw [eXY.out]; exact fun j => xor_byte (oX j) (oY j)
          have omm : ∀ j, mm j < 256 := by rw [eM.out]; exact by16_lt _
          have q1 := fun w => cmp_yes oXY omm (by
            rw [eXY.out, el_xor oX oY, eX.out, eY.out, el_by16 (sumN_lt (el_lt oh) _ _), el_by16 (sumN_lt (el_lt oh) _ _), sums_full, HL.out, HLF.out, eM.out, el_by16 (G.mul_lt (el_lt oh)), edz.out, el_by16 (Nat.lt_of_lt_of_le hM8 (by decide)), hM.out]) w
          have hBe := hBc.trans (hC.mono hBc.size)
          have hSd : Below we.heap.size we we.drew := (Below.refl _ _).drew
          clear hA hC hsz
          go_upto_region 13 with fail
          refine wp_region_z (fun v => Below we.heap.size we v) 11 (by kernel_rfl) hSd (fun hS => ?_)
          clear hSd
          generalize World.drew _ = w9 at hS ⊢
          refine wpAnyZ_take (i := 0) rfl (by kernel_rfl) (by kernel_rfl) (by kernel_rfl) (by kernel_rfl) (fun _ _ _ h => h) hS (yieldsIf_load_mid (by kernel_rfl) 35 (.tmp 7) rfl g7 0 (by kernel_rfl) (vals 16 X) _ (fun w hS => (HX.out.below' lx2 hS).range) hub rfl hib) ?_
          simp only [Act.put, List.setIfInBounds_toArray, List.set_cons_zero, List.set_cons_succ]
          refine wpAnyZ_take (i := 1) rfl (by kernel_rfl) (by kernel_rfl) (by kernel_rfl) (by kernel_rfl) (fun _ _ _ h => h) hS (yieldsIf_load_mid (by kernel_rfl) 35 (.tmp 8) rfl g8 0 (by kernel_rfl) (vals 16 Y) _ (fun w hS => (HY.out.below' ly2 hS).range) hub rfl hib) ?_
          simp only [Act.put, List.setIfInBounds_toArray, List.set_cons_zero, List.set_cons_succ]
          refine wpAnyZ_take (i := 3) rfl (by kernel_rfl) (by kernel_rfl) (by kernel_rfl) (by kernel_rfl) (fun _ _ _ h => h) hS (yieldsIf_load_mid (by kernel_rfl) 35 (.tmp 9) rfl g9 0 (by kernel_rfl) (vals 16 dz) _ (fun w hS => (HD.out.below' ld9 hS).range) hub rfl hib) ?_
          simp only [Act.put, List.setIfInBounds_toArray, List.set_cons_zero, List.set_cons_succ]
          refine wpAnyZ_take (i := 4) rfl (by kernel_rfl) (by kernel_rfl) (by kernel_rfl) (by kernel_rfl) (fun _ _ _ h => h) hS (yieldsIf_load_mid (by kernel_rfl) 35 (.tmp 2) rfl w.heap.size 0 (by kernel_rfl) (vals 16 h) _ (fun w hS => (HE.out.below' le2 hS).range) hub rfl hib) ?_
          simp only [Act.put, List.setIfInBounds_toArray, List.set_cons_zero, List.set_cons_succ]
          refine wpAnyZ_one (i := 2) (by kernel_rfl) rfl (fun K hK => ?_)
          go_simp
          go_at_call 27
          refine (sums_of X Y _ oX oY).mono ?_
          rintro e v8 ⟨rfl, hb8⟩
          rw [← eXY.out]
          go_wp2_with fail
          refine hK.out _ _ (fun _ => hS.trans (hb8.mono hS.size)) ?_
          replace hS := hS.trans (hb8.mono hS.size)
          clear hK K
          try simp only [Act.put, List.setIfInBounds_toArray, List.set_cons_zero, List.set_cons_succ]
          refine wpAnyZ_one (i := 5) (by kernel_rfl) rfl (fun K hK => ?_)
          go_simp
          go_at_call 22
          refine (mul_of dz h _ odz oh).mono ?_
          rintro e v8 ⟨rfl, hb8⟩
          rw [← eM.out]
          go_wp2_with fail
          refine hK.out _ _ (fun _ => hS.trans (hb8.mono hS.size)) ?_
          replace hS := hS.trans (hb8.mono hS.size)
          clear hK K
          try simp only [Act.put, List.setIfInBounds_toArray, List.set_cons_zero, List.set_cons_succ]
          refine wpAnyZ_take (i := 6) (v := .bool true) rfl (by kernel_rfl) (by kernel_rfl) (by kernel_rfl) (by kernel_rfl) (fun _ _ _ h => h) hS (Or.inl ⟨by kernel_rfl, fun w hS => (by clear hS; go_simp)⟩) ?_
          simp only [Act.put, List.setIfInBounds_toArray, List.set_cons_zero, List.set_cons_succ]
          refine wpAnyZ_take (i := 7) (v := .bool true) rfl (by kernel_rfl) (by kernel_rfl) (by kernel_rfl) (by kernel_rfl) (fun _ _ _ h => h) hS (Or.inl ⟨by kernel_rfl, fun w hS => (by clear hS; go_simp)⟩) ?_
          simp only [Act.put, List.setIfInBounds_toArray, List.set_cons_zero, List.set_cons_succ]
          refine wpAnyZ_one (i := 8) (by kernel_rfl) rfl (fun K hK => ?_)
          go_simp
          go_at_call 24
          refine (gknown_any _).mono ?_
          rintro e v8 ⟨rfl, hb8⟩
          go_wp2_with fail
          refine hK.out _ _ (fun _ => hS.trans (hb8.mono hS.size)) ?_
          replace hS := hS.trans (hb8.mono hS.size)
          clear hK K
          try simp only [Act.put, List.setIfInBounds_toArray, List.set_cons_zero, List.set_cons_succ]
          refine wpAnyZ_take (i := 9) (v := .bool true) rfl (by kernel_rfl) (by kernel_rfl) (by kernel_rfl) (by kernel_rfl) (fun _ _ _ h => h) hS (Or.inl ⟨by kernel_rfl, fun w hS => (by clear hS; go_simp)⟩) ?_
          simp only [Act.put, List.setIfInBounds_toArray, List.set_cons_zero, List.set_cons_succ]
          refine wpAnyZ_one (i := 10) (by kernel_rfl) rfl (fun K hK => ?_)
          go_simp
          refine hK.out _ _ (fun _ => hS) ?_
          clear hK K
          try simp only [Act.put, List.setIfInBounds_toArray, List.set_cons_zero, List.set_cons_succ]
          refine wpAnyZ_done (by kernel_rfl) ?_ _
          go_wp2_with fail
          go_ret
          exact ⟨rfl, hBe.trans (hS.mono hBe.size)⟩
end Go.Proofs.Ytdifilcgammniaa
