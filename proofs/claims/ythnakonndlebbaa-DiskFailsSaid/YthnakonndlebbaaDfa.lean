/-
  DiskFails' walk.
-/
import Derived.Test.YthnakonndlebbaaDfp
import Derived.Test.YthnakonndlebbaaOrw
import Derived.Test.YthnakonndlebbaaKa
import Derived.Deep.CutRange
import Derived.Deep.DeepCutAuto
namespace Go.Proofs.Ythnakonndlebbaa
open Go.RowKit
set_option linter.unusedVariables false
set_option linter.unusedSimpArgs false

set_option maxHeartbeats 16000000 in
set_option maxRecDepth 100000 in
theorem dfails_law (a : Option Addr) (len cl : Nat) (F0 F1 F2 : Nat → Int) (F3 F4 : Nat → Option Addr × Nat × List Int) (fail cut : Int) (w : World)
    (hlm : len ≤ maxLen) (hlc : len ≤ cl) (hr : Rws w a len [fun i => .int .i64 (F0 i), fun i => .int .i64 (F1 i), fun i => .int .i64 (F2 i), fun i => .slice (F3 i).1 (F3 i).2.2.length (F3 i).2.1, fun i => .slice (F4 i).1 (F4 i).2.2.length (F4 i).2.1])
    (hf0 : ∀ i, i < len → (Lit.int .i64 (F0 i)).wf = true) (hf1 : ∀ i, i < len → (Lit.int .i64 (F1 i)).wf = true) (hf2 : ∀ i, i < len → (Lit.int .i64 (F2 i)).wf = true)
    (hf3 : ∀ i, i < len → Bin w (F3 i).1 (F3 i).2.2 ∧ Oct (F3 i).2.2 ∧ (F3 i).2.2.length ≤ (F3 i).2.1) (hf4 : ∀ i, i < len → Bin w (F4 i).1 (F4 i).2.2 ∧ Oct (F4 i).2.2 ∧ (F4 i).2.2.length ≤ (F4 i).2.1) (hfw : (Lit.int .i64 fail).wf = true) (hcw : (Lit.int .i64 cut).wf = true) :
    Calls Try.prog 7 #[.slice a len cl, .int .i64 fail, .int .i64 cut] w fun e w' => e = .returned (.bool true) ∧ Below w.heap.size w w' := by
  clear hf0 hf1 hf2 hf3 hf4 hlc hlm
  have hfb := i64_of_wf hfw
  have hcb := i64_of_wf hcw
  by_cases hlt : 200 < len
  · have i1 : (200 : Int) < (len : Int) := by omega
    go_enter Try.func7, Try.ntmps7
    go_wp2_with fail
    refine (known8_any w).mono ?_
    rintro e w1 ⟨rfl, hb1⟩
    go_wp2_with fail
    go_ret
    exact ⟨rfl, hb1⟩
  · have i1 : ¬ (200 : Int) < (len : Int) := by omega
    have HR := hid hr
    clear hr
    go_enter Try.func7, Try.ntmps7
    go_wp2_with fail
    refine (dNew_of w 8 (by decide) (by decide)).mono ?_
    rintro e w1 ⟨g, F, rfl, hD, hb1⟩
    have HF := hid (dFail_of _ g F _ w1 hD fail hfw)
    have HD := hid hD
    have HB := hid hb1
    clear hD hb1
    go_wp2_with fail
    refine HF.out.mono ?_
    rintro e w2 ⟨rfl, hs⟩
    obtain ⟨F2', hD2, hB2, -, -⟩ := hs.out (B := 0) HD.out HB.out
    have HC := hid (dCut_of _ g F2' _ w2 hD2 cut hcw)
    have HD2 := hid hD2
    have HB2 := hid hB2
    clear hs HF HD HB hD2 hB2
    go_wp2_with fail
    refine HC.out.mono ?_
    rintro e w3 ⟨rfl, hs⟩
    obtain ⟨F3', hD3, hB3, -, -⟩ := hs.out (B := 0) HD2.out HB2.out
    have HD3 := hid hD3
    have HB3 := hid hB3
    clear hs HC HD2 HB2 hD3 hB3
    have HFS := hid (Fst.start fail cut hfb.2 hcb.2)
    go_wp2_with fail
    go_loopw [41] (fun i wr => ∃ (k : Nat) (S : Dst) (F : Nat → Prop), k ≤ len ∧ i = .int .i64 (k : Int) ∧ Fst fail cut k S ∧ PDk w.heap.size wr g F S ∧ Below w.heap.size w wr) (fun i _ => len - (intOf i).toNat)
    case atStart => exact ⟨0, _, F3', Nat.zero_le _, rfl, HFS.out, HD3.out, HB3.out⟩
    case round =>
      clear HD3 HB3 HFS
      obtain ⟨k, S, F, hk, rfl, hS, hD, hB⟩ := hrel
      have HS := hid hS
      have HD := hid hD
      have HB := hid hB
      clear hS hD hB
      by_cases hkl : k < len
      · have kI : (k : Int) < (len : Int) := by omega
        obtain ⟨b, o, rfl, hbl, hcol⟩ := HR.out.at hkl (Nat.succ_pos _)
        have hc0 : wr.cell? ⟨b, o + k * 5, none⟩ = some (.int .i64 (F0 k)) := (HB.out.cell (p := ⟨b, o + k * 5, none⟩) hbl).trans (hcol 0 _ rfl)
        have hc1 : wr.cell? ⟨b, o + k * 5 + 1, none⟩ = some (.int .i64 (F1 k)) := (HB.out.cell (p := ⟨b, o + k * 5 + 1, none⟩) hbl).trans (hcol 1 _ rfl)
        have hc2 : wr.cell? ⟨b, o + k * 5 + 2, none⟩ = some (.int .i64 (F2 k)) := (HB.out.cell (p := ⟨b, o + k * 5 + 2, none⟩) hbl).trans (hcol 2 _ rfl)
        have hc3 : wr.cell? ⟨b, o + k * 5 + 3, none⟩ = some (.slice (F3 k).1 (F3 k).2.2.length (F3 k).2.1) := (HB.out.cell (p := ⟨b, o + k * 5 + 3, none⟩) hbl).trans (hcol 3 _ rfl)
        have hc4 : wr.cell? ⟨b, o + k * 5 + 4, none⟩ = some (.slice (F4 k).1 (F4 k).2.2.length (F4 k).2.1) := (HB.out.cell (p := ⟨b, o + k * 5 + 4, none⟩) hbl).trans (hcol 4 _ rfl)
        clear hcol
        obtain ⟨f0, hf0⟩ : ∃ v, Hid (v = F0 k) := ⟨_, rfl⟩
        obtain ⟨f1, hf1⟩ : ∃ v, Hid (v = F1 k) := ⟨_, rfl⟩
        obtain ⟨f2, hf2⟩ : ∃ v, Hid (v = F2 k) := ⟨_, rfl⟩
        obtain ⟨p3, n3, d3, hf3⟩ : ∃ p n d, Hid (p = (F3 k).1 ∧ n = (F3 k).2.2.length ∧ d = (F3 k).2.1) := ⟨_, _, _, rfl, rfl, rfl⟩
        obtain ⟨p4, n4, d4, hf4⟩ : ∃ p n d, Hid (p = (F4 k).1 ∧ n = (F4 k).2.2.length ∧ d = (F4 k).2.1) := ⟨_, _, _, rfl, rfl, rfl⟩
        rw [← hf0.out] at hc0
        rw [← hf1.out] at hc1
        rw [← hf2.out] at hc2
        rw [← hf3.out.1, ← hf3.out.2.1, ← hf3.out.2.2] at hc3
        rw [← hf4.out.1, ← hf4.out.2.1, ← hf4.out.2.2] at hc4
        clear hf0 hf1 hf2 hf3 hf4
        obtain ⟨wb, hwb⟩ : ∃ wa, Hid (wa = wr.alloc (.cells #[.int .i64 f0, .int .i64 f1, .int .i64 f2, .slice p3 n3 d3, .slice p4 n4 d4] 36)) := ⟨_, rfl⟩
        have H5 : Hid (Five wb wr.heap.size (.int .i64 f0) (.int .i64 f1) (.int .i64 f2) (.slice p3 n3 d3) (.slice p4 n4 d4)) := hid (by rw [hwb.out]; exact five_new _ _ _ _ _ _ _)
        have HDb : Hid (PDk w.heap.size wb g F S) := hid (by rw [hwb.out]; exact HD.out.below ((Below.refl _ _).alloc (Nat.le_refl _) _))
        have HBb : Hid (Below w.heap.size w wb) := hid (by rw [hwb.out]; exact HB.out.alloc HB.out.size _)
        have HFb : Hid (¬ F wr.heap.size) := hid (fun h => Nat.lt_irrefl _ (HD.out.lt _ h).2)
        obtain ⟨gb, hgb⟩ : ∃ g, Hid (g = wr.heap.size) := ⟨_, rfl⟩
        rw [← hgb.out] at H5 HFb
        go_upto_region 11 with fail
        rw [← hwb.out, ← hgb.out]
        clear hc0 hc1 hc2 hc3 hc4 hwb hgb HD HB
        obtain ⟨r, hr8, hre⟩ : ∃ r : Nat, r < 8 ∧ f1 % 8 = (r : Int) := ⟨(f1 % 8).toNat, by omega, by omega⟩
        have e7 : bits .and .i64 f1 7 = (r : Int) := (i64_and7 f1).trans hre
        have hrd := dRead_of _ g F S wb HDb.out r (by simp [Lit.wf, IntKind.min, IntKind.max, IntKind.signed, IntKind.bits]; omega)
        obtain ⟨L, hL⟩ : ∃ L, Hid (L = S.readL r) := ⟨_, rfl⟩
        obtain ⟨m, hm⟩ : ∃ m, Hid (m = L.length) := ⟨_, rfl⟩
        obtain ⟨E, hE⟩ : ∃ E, Hid (E = S.readE r) := ⟨_, rfl⟩
        rw [← hL.out, ← hm.out, ← hE.out] at hrd
        have HRD := hid hrd
        clear hrd hre
        obtain ⟨c0, c1, c2, c3, c4⟩ := H5.out
        go_wp2_with fail
        refine HRD.out.mono ?_
        rintro e w4 ⟨v, rfl, hO, hb4⟩
        have H54 := hid (H5.out.below hb4)
        have HD4 := hid (HDb.out.below hb4)
        have HB4 := hid (HBb.out.trans (hb4.mono HBb.out.size))
        obtain ⟨pv, cv, rfl, _, _⟩ := hO.bin
        have HV := hid (Ort.mono hO HBb.out.size)
        have HVF := hid (HDb.out.newerO hO)
        have HWT := hid (dWaiting_of _ g F S w4 HD4.out)
        obtain ⟨nw, hnw⟩ : ∃ n, Hid (n = S.ws.length) := ⟨_, rfl⟩
        rw [← hnw.out] at HWT
        clear c0 c1 c2 c3 c4 HRD hO hb4 H5 HDb HBb
        go_wp2_with fail
        refine HWT.out.mono ?_
        rintro e w5 ⟨rfl, hb5⟩
        have H55 := hid (H54.out.below hb5)
        have HD5 := hid (HD4.out.below hb5)
        have HB5 := hid (HB4.out.trans (hb5.mono HB4.out.size))
        have HV5 := hid (HV.out.below hb5)
        clear HWT hb5 H54 HD4 HB4 HV
        have hsteps : S.steps < 9223372036854775807 := by
          have := HS.out.hst
          split at this <;> omega
        have hwsl : S.ws.length < 4294967296 := by have := HS.out.hws; omega
        have HST := hid (And.intro hsteps hwsl)
        clear hsteps hwsl
        obtain ⟨c0, c1, c2, c3, c4⟩ := H55.out
        by_cases hpar : f0 % 2 = 0
        · have e1 : bits .and .i64 f0 1 = 0 := (i64_and1 f0).trans hpar
          obtain ⟨x, hx, hxe⟩ : ∃ x : Int, (0 ≤ x ∧ x ≤ 255) ∧ IntKind.u8.wrap f2 = x := ⟨f2 % 256, by omega, IntKind.wrap_u8' f2⟩
          have hwr := HS.out.write (k := r) (by omega) (fullL_len x) (fullL_oct hx)
          obtain ⟨S2, hS2⟩ : ∃ S2, Hid (S2 = S.write r (fullL x)) := ⟨_, rfl⟩
          rw [← hS2.out, HS.out.err] at hwr
          obtain ⟨hwe, hs2, h80⟩ := hwr
          have HS2 := hid hs2
          obtain ⟨W, HW⟩ : ∃ W, Hid (W = fwant fail cut k) := ⟨_, rfl⟩
          rw [← HW.out] at hwe h80
          have H80 : Hid (W = 80 → S2.readL r = S.readL r ∧ S2.readE r = 0 ∧ S2.ws.length = S.ws.length) := hid (fun h => ⟨(h80 h).1, (h80 h).2.1, by rw [(h80 h).2.2]⟩)
          have HWE := hid hwe
          clear hs2 h80 hwe
          go_upto_region 15 with fail
          clear c0 c1 c2 c3 c4
          have hS0 : (fun v => Five v gb (.int .i64 f0) (.int .i64 f1) (.int .i64 f2) (.slice p3 n3 d3) (.slice p4 n4 d4)) w5.drew := H55.out.below ((Below.refl _ _).drew)
          have HD5d := hid HD5.out.drew
          have HB5d := hid (show Below w.heap.size w w5.drew from HB5.out.trans ((Below.refl w5.heap.size w5).drew.mono HB5.out.size))
          have HV5d := hid (HV5.out.below ((Below.refl _ _).drew))
          clear HD5 HB5 HV5 H55
          refine wp_region_z (fun v => Five v gb (.int .i64 f0) (.int .i64 f1) (.int .i64 f2) (.slice p3 n3 d3) (.slice p4 n4 d4)) 10 (by kernel_rfl) hS0 (fun hS => ?_)
          clear hS0
          generalize World.drew _ = w9 at hS HD5d HB5d HV5d ⊢
          refine wpAnyZ_take (i := 0) (v := .pointer (some ⟨g, 0, none⟩)) rfl (by kernel_rfl) (by kernel_rfl) (by kernel_rfl) (by kernel_rfl) (fun _ _ _ h => h) hS (Or.inl ⟨by kernel_rfl, fun w hS => (by clear hS; go_simp)⟩) ?_
          simp only [Act.put, List.setIfInBounds_toArray, List.set_cons_zero, List.set_cons_succ]
          refine wpAnyZ_take (i := 1) (v := .pointer (some ⟨gb, 1, none⟩)) rfl (by kernel_rfl) (by kernel_rfl) (by kernel_rfl) (by kernel_rfl) (fun _ _ _ h => h) hS (Or.inl ⟨by kernel_rfl, fun w hS => (by clear hS; go_simp)⟩) ?_
          simp only [Act.put, List.setIfInBounds_toArray, List.set_cons_zero, List.set_cons_succ]
          refine wpAnyZ_take (i := 2) (v := .int .i64 f1) rfl (by kernel_rfl) (by kernel_rfl) (by kernel_rfl) (by kernel_rfl) (fun _ _ _ h => h) hS (Or.inl ⟨by kernel_rfl, fun w hS => (by have hc := hS.c1; clear hS; go_simp)⟩) ?_
          simp only [Act.put, List.setIfInBounds_toArray, List.set_cons_zero, List.set_cons_succ]
          refine wpAnyZ_take (i := 3) (v := .int .i64 (r : Nat)) rfl (by kernel_rfl) (by kernel_rfl) (by kernel_rfl) (by kernel_rfl) (fun _ _ _ h => h) hS (Or.inl ⟨by kernel_rfl, fun w hS => (by clear hS; go_simp)⟩) ?_
          simp only [Act.put, List.setIfInBounds_toArray, List.set_cons_zero, List.set_cons_succ]
          refine wpAnyZ_take (i := 4) (v := .pointer (some ⟨gb, 2, none⟩)) rfl (by kernel_rfl) (by kernel_rfl) (by kernel_rfl) (by kernel_rfl) (fun _ _ _ h => h) hS (Or.inl ⟨by kernel_rfl, fun w hS => (by clear hS; go_simp)⟩) ?_
          simp only [Act.put, List.setIfInBounds_toArray, List.set_cons_zero, List.set_cons_succ]
          refine wpAnyZ_take (i := 5) (v := .int .i64 f2) rfl (by kernel_rfl) (by kernel_rfl) (by kernel_rfl) (by kernel_rfl) (fun _ _ _ h => h) hS (Or.inl ⟨by kernel_rfl, fun w hS => (by have hc := hS.c2; clear hS; go_simp)⟩) ?_
          simp only [Act.put, List.setIfInBounds_toArray, List.set_cons_zero, List.set_cons_succ]
          refine wpAnyZ_take (i := 6) (v := .int .u8 x) rfl (by kernel_rfl) (by kernel_rfl) (by kernel_rfl) (by kernel_rfl) (fun _ _ _ h => h) hS (Or.inl ⟨by kernel_rfl, fun w hS => (by clear hS; go_simp)⟩) ?_
          simp only [Act.put, List.setIfInBounds_toArray, List.set_cons_zero, List.set_cons_succ]
          refine wpAnyZ_one (i := 7) (by kernel_rfl) rfl (fun K hK => ?_)
          go_simp
          go_at_call 29
          refine (full_of x _ hx).mono ?_
          rintro e v8 ⟨g8, c8, rfl, hc8, hO8, hb8⟩
          replace hS := hS.below hb8
          have HDF := hid (HD5d.out.newer' hO8)
          have HD8 := hid (HD5d.out.below hb8)
          have HB8 := hid (HB5d.out.trans (hb8.mono HB5d.out.size))
          have HV8 := hid (HV5d.out.below hb8)
          have HO8 := hid hO8
          clear hb8 hO8 HD5d HB5d HV5d
          go_wp2_with fail
          refine hK.out _ _ (fun _ => hS) ?_
          clear hK K
          try simp only [Act.put, List.setIfInBounds_toArray, List.set_cons_zero, List.set_cons_succ]
          refine wpAnyZ_one (i := 8) (by kernel_rfl) rfl (fun K hK => ?_)
          go_simp
          go_at_call 24
          refine (dWrite_of _ g F S v8 HD8.out r (by simp [Lit.wf, IntKind.min, IntKind.max, IntKind.signed, IntKind.bits]; omega) _ c8 256 _ HO8.out.slice'.2 (fullL_oct hx) (fullL_len x) hc8 (by decide) HDF.out HST.out.1 HST.out.2).mono ?_
          rintro e w6 ⟨rfl, hs⟩
          obtain ⟨F6, hD6, hB6, hT6, hF6⟩ := hs.out (B := 0) HD8.out HB8.out
          have HD6 := hid hD6
          have HB6 := hid hB6
          have HV6 := hid (Ort.tb HV8.out hT6 (fun q hq => by obtain ⟨a, ha, rfl⟩ := own_block hq; exact HVF.out a ha))
          replace hS := hS.tb hT6 HFb.out
          rw [HWE.out]
          rw [← hS2.out] at HD6
          clear HD8 HB8 HV8 HO8 hs hD6 hB6 hT6
          go_wp2_with fail
          refine hK.out _ _ (fun _ => hS) ?_
          clear hK K
          try simp only [Act.put, List.setIfInBounds_toArray, List.set_cons_zero, List.set_cons_succ]
          refine wpAnyZ_one (i := 9) (by kernel_rfl) rfl (fun K hK => ?_)
          go_simp
          refine hK.out _ _ (fun _ => hS) ?_
          clear hK K
          try simp only [Act.put, List.setIfInBounds_toArray, List.set_cons_zero, List.set_cons_succ]
          refine wpAnyZ_done (by kernel_rfl) ?_ _
          have H56 := hid hS
          clear hS
          have HDNv := hid HS2.out.hdn
          by_cases hA : 0 ≤ cut ∧ cut ≤ (k : Int)
          · have hw := HW.out
            unfold fwant at hw
            rw [if_pos hA] at hw
            subst hw
            have hdn : S2.down = true := by rw [HDNv.out]; exact decide_eq_true (by omega)
            have iA : (0 : Int) ≤ cut := hA.1
            have iB : cut ≤ (k : Int) := hA.2
            by_cases h3 : (k : Int) + 1 = fail
            · have HDN := hid (dDown_of _ g F6 S2 w6 HD6.out)
              rw [hdn] at HDN
              go_wp2_with fail
              refine HDN.out.mono ?_
              rintro e w7 ⟨rfl, hb7⟩
              have HD7 := hid (HD6.out.below hb7)
              have HB7 := hid (HB6.out.trans (hb7.mono HB6.out.size))
              have HV7 := hid (HV6.out.below hb7)
              have H57 := hid (H56.out.below hb7)
              clear HDN hb7 HD6 HB6 HV6
              go_wp2_with fail
              go_roundw
              case rel => exact ⟨k + 1, S2, F6, by omega, by go_num, HS2.out, HD7.out, HB7.out⟩
              case measure => simp [intOf]; omega
            · have HDN := hid (dDown_of _ g F6 S2 w6 HD6.out)
              rw [hdn] at HDN
              go_wp2_with fail
              refine HDN.out.mono ?_
              rintro e w7 ⟨rfl, hb7⟩
              have HD7 := hid (HD6.out.below hb7)
              have HB7 := hid (HB6.out.trans (hb7.mono HB6.out.size))
              have HV7 := hid (HV6.out.below hb7)
              have H57 := hid (H56.out.below hb7)
              clear HDN hb7 HD6 HB6 HV6
              go_wp2_with fail
              go_roundw
              case rel => exact ⟨k + 1, S2, F6, by omega, by go_num, HS2.out, HD7.out, HB7.out⟩
              case measure => simp [intOf]; omega
          · have hw := HW.out
            unfold fwant at hw
            rw [if_neg hA] at hw
            have hdn : S2.down = false := by rw [HDNv.out]; exact decide_eq_false (by omega)
            by_cases h3 : (k : Int) + 1 = fail
            · rw [if_pos h3] at hw
              subst hw
              obtain ⟨q1, q2, q3⟩ := H80.out rfl
              by_cases hneg : 0 ≤ cut
              · have iB : ¬ cut ≤ (k : Int) := fun h => hA ⟨hneg, h⟩
                have HDN := hid (dDown_of _ g F6 S2 w6 HD6.out)
                rw [hdn] at HDN
                go_wp2_with fail
                refine HDN.out.mono ?_
                rintro e w7 ⟨rfl, hb7⟩
                have HD7 := hid (HD6.out.below hb7)
                have HB7 := hid (HB6.out.trans (hb7.mono HB6.out.size))
                have HV7 := hid (HV6.out.below hb7)
                have H57 := hid (H56.out.below hb7)
                clear HDN hb7 HD6 HB6 HV6
                have HRD2 := hid (dRead_of _ g F6 S2 w7 HD7.out r (by simp [Lit.wf, IntKind.min, IntKind.max, IntKind.signed, IntKind.bits]; omega))
                rw [q1, q2, ← hL.out, ← hm.out] at HRD2
                obtain ⟨c0, c1, c2, c3, c4⟩ := H57.out
                go_wp2_with fail
                refine HRD2.out.mono ?_
                rintro e w8 ⟨v8, rfl, hO8, hb8⟩
                have HD8 := hid (HD7.out.below hb8)
                have HB8 := hid (HB7.out.trans (hb8.mono HB7.out.size))
                obtain ⟨p8, c8, rfl, _, hbin8⟩ := hO8.bin
                have k1 := conv_str' hbin8 hm.out.symm c8
                have k2 := conv_str' (HV7.out.below hb8).slice'.2 hm.out.symm cv
                have HWT2 := hid (dWaiting_of _ g F6 S2 w8 HD8.out)
                rw [q3, ← hnw.out] at HWT2
                clear HRD2 hb8 hO8 HD7 HB7 HV7 hbin8 c0 c1 c2 c3 c4
                go_wp2_with fail
                refine HWT2.out.mono ?_
                rintro e w9 ⟨rfl, hb9⟩
                have HD9 := hid (HD8.out.below hb9)
                have HB9 := hid (HB8.out.trans (hb9.mono HB8.out.size))
                clear HWT2 hb9 HD8 HB8 k1 k2
                go_wp2_with fail
                go_roundw
                case rel => exact ⟨k + 1, S2, F6, by omega, by go_num, HS2.out, HD9.out, HB9.out⟩
                case measure => simp [intOf]; omega
              · have HDN := hid (dDown_of _ g F6 S2 w6 HD6.out)
                rw [hdn] at HDN
                go_wp2_with fail
                refine HDN.out.mono ?_
                rintro e w7 ⟨rfl, hb7⟩
                have HD7 := hid (HD6.out.below hb7)
                have HB7 := hid (HB6.out.trans (hb7.mono HB6.out.size))
                have HV7 := hid (HV6.out.below hb7)
                have H57 := hid (H56.out.below hb7)
                clear HDN hb7 HD6 HB6 HV6
                have HRD2 := hid (dRead_of _ g F6 S2 w7 HD7.out r (by simp [Lit.wf, IntKind.min, IntKind.max, IntKind.signed, IntKind.bits]; omega))
                rw [q1, q2, ← hL.out, ← hm.out] at HRD2
                obtain ⟨c0, c1, c2, c3, c4⟩ := H57.out
                go_wp2_with fail
                refine HRD2.out.mono ?_
                rintro e w8 ⟨v8, rfl, hO8, hb8⟩
                have HD8 := hid (HD7.out.below hb8)
                have HB8 := hid (HB7.out.trans (hb8.mono HB7.out.size))
                obtain ⟨p8, c8, rfl, _, hbin8⟩ := hO8.bin
                have k1 := conv_str' hbin8 hm.out.symm c8
                have k2 := conv_str' (HV7.out.below hb8).slice'.2 hm.out.symm cv
                have HWT2 := hid (dWaiting_of _ g F6 S2 w8 HD8.out)
                rw [q3, ← hnw.out] at HWT2
                clear HRD2 hb8 hO8 HD7 HB7 HV7 hbin8 c0 c1 c2 c3 c4
                go_wp2_with fail
                refine HWT2.out.mono ?_
                rintro e w9 ⟨rfl, hb9⟩
                have HD9 := hid (HD8.out.below hb9)
                have HB9 := hid (HB8.out.trans (hb9.mono HB8.out.size))
                clear HWT2 hb9 HD8 HB8 k1 k2
                go_wp2_with fail
                go_roundw
                case rel => exact ⟨k + 1, S2, F6, by omega, by go_num, HS2.out, HD9.out, HB9.out⟩
                case measure => simp [intOf]; omega
            · rw [if_neg h3] at hw
              subst hw
              by_cases hneg : 0 ≤ cut
              · have iB : ¬ cut ≤ (k : Int) := fun h => hA ⟨hneg, h⟩
                have HDN := hid (dDown_of _ g F6 S2 w6 HD6.out)
                rw [hdn] at HDN
                go_wp2_with fail
                refine HDN.out.mono ?_
                rintro e w7 ⟨rfl, hb7⟩
                have HD7 := hid (HD6.out.below hb7)
                have HB7 := hid (HB6.out.trans (hb7.mono HB6.out.size))
                have HV7 := hid (HV6.out.below hb7)
                have H57 := hid (H56.out.below hb7)
                clear HDN hb7 HD6 HB6 HV6
                go_wp2_with fail
                go_roundw
                case rel => exact ⟨k + 1, S2, F6, by omega, by go_num, HS2.out, HD7.out, HB7.out⟩
                case measure => simp [intOf]; omega
              · have HDN := hid (dDown_of _ g F6 S2 w6 HD6.out)
                rw [hdn] at HDN
                go_wp2_with fail
                refine HDN.out.mono ?_
                rintro e w7 ⟨rfl, hb7⟩
                have HD7 := hid (HD6.out.below hb7)
                have HB7 := hid (HB6.out.trans (hb7.mono HB6.out.size))
                have HV7 := hid (HV6.out.below hb7)
                have H57 := hid (H56.out.below hb7)
                clear HDN hb7 HD6 HB6 HV6
                go_wp2_with fail
                go_roundw
                case rel => exact ⟨k + 1, S2, F6, by omega, by go_num, HS2.out, HD7.out, HB7.out⟩
                case measure => simp [intOf]; omega
        · have e1 : ¬ bits .and .i64 f0 1 = 0 := by rw [i64_and1 f0]; exact hpar
          obtain ⟨S2, hS2⟩ : ∃ S2, Hid (S2 = S.step) := ⟨_, rfl⟩
          have hs2 := HS.out.step
          rw [← hS2.out] at hs2
          have HS2 := hid hs2
          obtain ⟨W, HW⟩ : ∃ W, Hid (W = fwant fail cut k) := ⟨_, rfl⟩
          have hwe := HS.out.err
          rw [← HW.out] at hwe
          have H80 : Hid (W = 80 → S2.readL r = S.readL r ∧ S2.readE r = 0 ∧ S2.ws.length = S.ws.length) := hid (fun h => by rw [hS2.out]; exact Dst.step80 (hwe.trans h) (by have := HS.out.hn; omega))
          have HSP := hid (dStep_of _ g F S w5 HD5.out HST.out.1)
          rw [hwe, ← hS2.out] at HSP
          clear hs2 hwe
          go_wp2_with fail
          refine HSP.out.mono ?_
          rintro e w6 ⟨rfl, hs⟩
          obtain ⟨F6, hD6, hB6, hT6, hF6⟩ := hs.out (B := 0) HD5.out HB5.out
          have HD6 := hid hD6
          have HB6 := hid hB6
          have HV6 := hid (Ort.tb HV5.out hT6 (fun q hq => by obtain ⟨a, ha, rfl⟩ := own_block hq; exact HVF.out a ha))
          have H56 := hid (H55.out.tb hT6 HFb.out)
          clear HSP HD5 HB5 HV5 H55 hs hD6 hB6 hT6 c0 c1 c2 c3 c4
          have HDNv := hid HS2.out.hdn
          by_cases hA : 0 ≤ cut ∧ cut ≤ (k : Int)
          · have hw := HW.out
            unfold fwant at hw
            rw [if_pos hA] at hw
            subst hw
            have hdn : S2.down = true := by rw [HDNv.out]; exact decide_eq_true (by omega)
            have iA : (0 : Int) ≤ cut := hA.1
            have iB : cut ≤ (k : Int) := hA.2
            by_cases h3 : (k : Int) + 1 = fail
            · have HDN := hid (dDown_of _ g F6 S2 w6 HD6.out)
              rw [hdn] at HDN
              go_wp2_with fail
              refine HDN.out.mono ?_
              rintro e w7 ⟨rfl, hb7⟩
              have HD7 := hid (HD6.out.below hb7)
              have HB7 := hid (HB6.out.trans (hb7.mono HB6.out.size))
              have HV7 := hid (HV6.out.below hb7)
              have H57 := hid (H56.out.below hb7)
              clear HDN hb7 HD6 HB6 HV6
              go_wp2_with fail
              go_roundw
              case rel => exact ⟨k + 1, S2, F6, by omega, by go_num, HS2.out, HD7.out, HB7.out⟩
              case measure => simp [intOf]; omega
            · have HDN := hid (dDown_of _ g F6 S2 w6 HD6.out)
              rw [hdn] at HDN
              go_wp2_with fail
              refine HDN.out.mono ?_
              rintro e w7 ⟨rfl, hb7⟩
              have HD7 := hid (HD6.out.below hb7)
              have HB7 := hid (HB6.out.trans (hb7.mono HB6.out.size))
              have HV7 := hid (HV6.out.below hb7)
              have H57 := hid (H56.out.below hb7)
              clear HDN hb7 HD6 HB6 HV6
              go_wp2_with fail
              go_roundw
              case rel => exact ⟨k + 1, S2, F6, by omega, by go_num, HS2.out, HD7.out, HB7.out⟩
              case measure => simp [intOf]; omega
          · have hw := HW.out
            unfold fwant at hw
            rw [if_neg hA] at hw
            have hdn : S2.down = false := by rw [HDNv.out]; exact decide_eq_false (by omega)
            by_cases h3 : (k : Int) + 1 = fail
            · rw [if_pos h3] at hw
              subst hw
              obtain ⟨q1, q2, q3⟩ := H80.out rfl
              by_cases hneg : 0 ≤ cut
              · have iB : ¬ cut ≤ (k : Int) := fun h => hA ⟨hneg, h⟩
                have HDN := hid (dDown_of _ g F6 S2 w6 HD6.out)
                rw [hdn] at HDN
                go_wp2_with fail
                refine HDN.out.mono ?_
                rintro e w7 ⟨rfl, hb7⟩
                have HD7 := hid (HD6.out.below hb7)
                have HB7 := hid (HB6.out.trans (hb7.mono HB6.out.size))
                have HV7 := hid (HV6.out.below hb7)
                have H57 := hid (H56.out.below hb7)
                clear HDN hb7 HD6 HB6 HV6
                have HRD2 := hid (dRead_of _ g F6 S2 w7 HD7.out r (by simp [Lit.wf, IntKind.min, IntKind.max, IntKind.signed, IntKind.bits]; omega))
                rw [q1, q2, ← hL.out, ← hm.out] at HRD2
                obtain ⟨c0, c1, c2, c3, c4⟩ := H57.out
                go_wp2_with fail
                refine HRD2.out.mono ?_
                rintro e w8 ⟨v8, rfl, hO8, hb8⟩
                have HD8 := hid (HD7.out.below hb8)
                have HB8 := hid (HB7.out.trans (hb8.mono HB7.out.size))
                obtain ⟨p8, c8, rfl, _, hbin8⟩ := hO8.bin
                have k1 := conv_str' hbin8 hm.out.symm c8
                have k2 := conv_str' (HV7.out.below hb8).slice'.2 hm.out.symm cv
                have HWT2 := hid (dWaiting_of _ g F6 S2 w8 HD8.out)
                rw [q3, ← hnw.out] at HWT2
                clear HRD2 hb8 hO8 HD7 HB7 HV7 hbin8 c0 c1 c2 c3 c4
                go_wp2_with fail
                refine HWT2.out.mono ?_
                rintro e w9 ⟨rfl, hb9⟩
                have HD9 := hid (HD8.out.below hb9)
                have HB9 := hid (HB8.out.trans (hb9.mono HB8.out.size))
                clear HWT2 hb9 HD8 HB8 k1 k2
                go_wp2_with fail
                go_roundw
                case rel => exact ⟨k + 1, S2, F6, by omega, by go_num, HS2.out, HD9.out, HB9.out⟩
                case measure => simp [intOf]; omega
              · have HDN := hid (dDown_of _ g F6 S2 w6 HD6.out)
                rw [hdn] at HDN
                go_wp2_with fail
                refine HDN.out.mono ?_
                rintro e w7 ⟨rfl, hb7⟩
                have HD7 := hid (HD6.out.below hb7)
                have HB7 := hid (HB6.out.trans (hb7.mono HB6.out.size))
                have HV7 := hid (HV6.out.below hb7)
                have H57 := hid (H56.out.below hb7)
                clear HDN hb7 HD6 HB6 HV6
                have HRD2 := hid (dRead_of _ g F6 S2 w7 HD7.out r (by simp [Lit.wf, IntKind.min, IntKind.max, IntKind.signed, IntKind.bits]; omega))
                rw [q1, q2, ← hL.out, ← hm.out] at HRD2
                obtain ⟨c0, c1, c2, c3, c4⟩ := H57.out
                go_wp2_with fail
                refine HRD2.out.mono ?_
                rintro e w8 ⟨v8, rfl, hO8, hb8⟩
                have HD8 := hid (HD7.out.below hb8)
                have HB8 := hid (HB7.out.trans (hb8.mono HB7.out.size))
                obtain ⟨p8, c8, rfl, _, hbin8⟩ := hO8.bin
                have k1 := conv_str' hbin8 hm.out.symm c8
                have k2 := conv_str' (HV7.out.below hb8).slice'.2 hm.out.symm cv
                have HWT2 := hid (dWaiting_of _ g F6 S2 w8 HD8.out)
                rw [q3, ← hnw.out] at HWT2
                clear HRD2 hb8 hO8 HD7 HB7 HV7 hbin8 c0 c1 c2 c3 c4
                go_wp2_with fail
                refine HWT2.out.mono ?_
                rintro e w9 ⟨rfl, hb9⟩
                have HD9 := hid (HD8.out.below hb9)
                have HB9 := hid (HB8.out.trans (hb9.mono HB8.out.size))
                clear HWT2 hb9 HD8 HB8 k1 k2
                go_wp2_with fail
                go_roundw
                case rel => exact ⟨k + 1, S2, F6, by omega, by go_num, HS2.out, HD9.out, HB9.out⟩
                case measure => simp [intOf]; omega
            · rw [if_neg h3] at hw
              subst hw
              by_cases hneg : 0 ≤ cut
              · have iB : ¬ cut ≤ (k : Int) := fun h => hA ⟨hneg, h⟩
                have HDN := hid (dDown_of _ g F6 S2 w6 HD6.out)
                rw [hdn] at HDN
                go_wp2_with fail
                refine HDN.out.mono ?_
                rintro e w7 ⟨rfl, hb7⟩
                have HD7 := hid (HD6.out.below hb7)
                have HB7 := hid (HB6.out.trans (hb7.mono HB6.out.size))
                have HV7 := hid (HV6.out.below hb7)
                have H57 := hid (H56.out.below hb7)
                clear HDN hb7 HD6 HB6 HV6
                go_wp2_with fail
                go_roundw
                case rel => exact ⟨k + 1, S2, F6, by omega, by go_num, HS2.out, HD7.out, HB7.out⟩
                case measure => simp [intOf]; omega
              · have HDN := hid (dDown_of _ g F6 S2 w6 HD6.out)
                rw [hdn] at HDN
                go_wp2_with fail
                refine HDN.out.mono ?_
                rintro e w7 ⟨rfl, hb7⟩
                have HD7 := hid (HD6.out.below hb7)
                have HB7 := hid (HB6.out.trans (hb7.mono HB6.out.size))
                have HV7 := hid (HV6.out.below hb7)
                have H57 := hid (H56.out.below hb7)
                clear HDN hb7 HD6 HB6 HV6
                go_wp2_with fail
                go_roundw
                case rel => exact ⟨k + 1, S2, F6, by omega, by go_num, HS2.out, HD7.out, HB7.out⟩
                case measure => simp [intOf]; omega
      · obtain rfl : k = len := by omega
        have kI : ¬ (k : Int) < (k : Int) := by omega
        have HSE := hid HS.out.steps_end
        have HSS := hid (dSteps_of _ g F S wr HD.out)
        obtain ⟨sn, hsn⟩ : ∃ s, Hid (s = S.steps) := ⟨_, rfl⟩
        rw [← hsn.out] at HSE HSS
        by_cases hcn : 0 ≤ cut
        · by_cases hck : cut < (k : Int)
          · have hse := HSE.out
            rw [if_pos hcn, if_pos hck] at hse
            have e2 : IntKind.u64.wrap cut = cut := by simp [IntKind.wrap, IntKind.signed, IntKind.bits]; omega
            subst hse
            go_wp2_with fail
            refine HSS.out.mono ?_
            rintro e w4 ⟨rfl, hb4⟩
            have HB4 := hid (HB.out.trans (hb4.mono HB.out.size))
            clear HSS hb4
            go_wp2_with fail
            refine (known8_any _).mono ?_
            rintro e w5 ⟨rfl, hb5⟩
            go_wp2_with fail
            go_ret
            exact ⟨rfl, HB4.out.trans (hb5.mono HB4.out.size)⟩
          · have hse := HSE.out
            rw [if_pos hcn, if_neg hck] at hse
            obtain rfl : sn = k := by omega
            have e2 : IntKind.u64.wrap (sn : Int) = (sn : Int) := by simp [IntKind.wrap, IntKind.signed, IntKind.bits]; omega
            go_wp2_with fail
            refine HSS.out.mono ?_
            rintro e w4 ⟨rfl, hb4⟩
            have HB4 := hid (HB.out.trans (hb4.mono HB.out.size))
            clear HSS hb4
            go_wp2_with fail
            refine (known8_any _).mono ?_
            rintro e w5 ⟨rfl, hb5⟩
            go_wp2_with fail
            go_ret
            exact ⟨rfl, HB4.out.trans (hb5.mono HB4.out.size)⟩
        · have hse := HSE.out
          rw [if_neg hcn] at hse
          obtain rfl : sn = k := by omega
          have e2 : IntKind.u64.wrap (sn : Int) = (sn : Int) := by simp [IntKind.wrap, IntKind.signed, IntKind.bits]; omega
          go_wp2_with fail
          refine HSS.out.mono ?_
          rintro e w4 ⟨rfl, hb4⟩
          have HB4 := hid (HB.out.trans (hb4.mono HB.out.size))
          clear HSS hb4
          go_wp2_with fail
          refine (known8_any _).mono ?_
          rintro e w5 ⟨rfl, hb5⟩
          go_wp2_with fail
          go_ret
          exact ⟨rfl, HB4.out.trans (hb5.mono HB4.out.size)⟩
end Go.Proofs.Ythnakonndlebbaa
