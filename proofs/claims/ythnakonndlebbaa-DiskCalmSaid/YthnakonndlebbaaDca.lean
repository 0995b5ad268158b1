/-
  DiskCalm's walk.
-/
import Derived.Test.YthnakonndlebbaaDcp
import Derived.Test.YthnakonndlebbaaOrw
import Derived.Test.YthnakonndlebbaaKa
import Derived.Deep.CutRange
import Derived.Deep.DeepCutAuto
namespace Go.Proofs.Ythnakonndlebbaa
open Go.RowKit
set_option linter.unusedVariables false
set_option linter.unusedSimpArgs false

/-- j bytes 15 are written. -/
def fifP (n j : Nat) : List Int := List.replicate j 15 ++ List.replicate (n - j) 0
theorem fifP_set {n j : Nat} (h : j < n) : (fifP n j).set j 15 = fifP n (j + 1) := by
  unfold fifP
  rw [show n - j = (n - (j + 1)) + 1 by omega, List.replicate_succ, List.set_append_right _ _ (by simp), List.length_replicate, Nat.sub_self, List.set_cons_zero, List.replicate_succ', List.append_assoc]
  rfl
theorem own_lt {B n c : Nat} {w : World} {b : Nat} {xs : List Int} (h : Own B w (.slice (some ⟨b, 0, none⟩) n c) n xs) : b < w.heap.size := (World.ownsRow.lt h b rfl).2

set_option maxHeartbeats 16000000 in
set_option maxRecDepth 100000 in
theorem dcalm_law (a : Option Addr) (len cl : Nat) (F0 F1 F2 : Nat → Int) (F3 F4 : Nat → Option Addr × Nat × List Int) (sync : Int) (w : World)
    (hlm : len ≤ maxLen) (hlc : len ≤ cl) (hr : Rws w a len [fun i => .int .i64 (F0 i), fun i => .int .i64 (F1 i), fun i => .int .i64 (F2 i), fun i => .slice (F3 i).1 (F3 i).2.2.length (F3 i).2.1, fun i => .slice (F4 i).1 (F4 i).2.2.length (F4 i).2.1])
    (hf0 : ∀ i, i < len → (Lit.int .i64 (F0 i)).wf = true) (hf1 : ∀ i, i < len → (Lit.int .i64 (F1 i)).wf = true) (hf2 : ∀ i, i < len → (Lit.int .i64 (F2 i)).wf = true)
    (hf3 : ∀ i, i < len → Bin w (F3 i).1 (F3 i).2.2 ∧ Oct (F3 i).2.2 ∧ (F3 i).2.2.length ≤ (F3 i).2.1) (hf4 : ∀ i, i < len → Bin w (F4 i).1 (F4 i).2.2 ∧ Oct (F4 i).2.2 ∧ (F4 i).2.2.length ≤ (F4 i).2.1) (hsw : (Lit.int .i64 sync).wf = true) :
    Calls Try.prog 6 #[.slice a len cl, .int .i64 sync] w fun e w' => e = .returned (.bool true) ∧ Below w.heap.size w w' := by
  clear hf0 hf1 hf2 hf3 hf4 hlc hlm hsw
  obtain ⟨i0, hi, hz0, hz1, hz2⟩ := info_parts Try.infoU8
  by_cases hlt : 60 < len
  · have i1 : (60 : Int) < (len : Int) := by omega
    go_enter Try.func6, Try.ntmps6
    go_wp2_with fail
    refine (known8_any w).mono ?_
    rintro e w1 ⟨rfl, hb1⟩
    go_wp2_with fail
    go_ret
    exact ⟨rfl, hb1⟩
  · have i1 : ¬ (60 : Int) < (len : Int) := by omega
    have HR := hid hr
    clear hr
    go_enter Try.func6, Try.ntmps6
    go_wp2_with fail
    refine (dNew_of w 8 (by decide) (by decide)).mono ?_
    rintro e w1 ⟨g, F, rfl, hD, hb1⟩
    have HD := hid hD
    have HB := hid hb1
    clear hD hb1
    go_wp2_with fail
    go_loopw [40] (fun i wr => ∃ (k : Nat) (S : Dst) (F : Nat → Prop), k ≤ len ∧ i = .int .i64 (k : Int) ∧ Cal k S ∧ PDk w.heap.size wr g F S ∧ Below w.heap.size w wr) (fun i _ => len - (intOf i).toNat)
    case atStart => exact ⟨0, _, F, Nat.zero_le _, rfl, Cal.new, HD.out, HB.out⟩
    case round =>
      clear HD HB
      obtain ⟨k, S, F, hk, rfl, hS, hD, hB⟩ := hrel
      have HS := hid hS
      have HD := hid hD
      have HB := hid hB
      clear hS hD hB
      by_cases hkl : k < len
      · have kI : (k : Int) < (len : Int) := by omega
        obtain ⟨b, o, rfl, hbl, hcol⟩ := HR.out.at hkl (Nat.succ_pos _)
        have hc0 : wr.cell? ⟨b, o + k * 5, none⟩ = some (.int .i64 (F0 k)) := (HB.out.cell (p := ⟨b, o + k * 5, none⟩) hbl).trans (hcol 0 _ rfl)
        have hc1 : wr.cell? ⟨b, o + k * 5 + 1, none⟩ = some (.int .i64 (F1 k)) := (HB.out.cell (p := ⟨b, o + k * 5 + 1, none⟩) hbl).trans (hcol 1 _ rfl)
        have hc2 : wr.cell? ⟨b, o + k * 5 + 2, none⟩ = some (.int .i64 (F2 k)) := (HB.out.cell (p := ⟨b, o + k * 5 + 2, none⟩) hbl).trans (hcol 2 _ rfl)
        have hc3 : wr.cell? ⟨b, o + k * 5 + 3, none⟩ = some (.slice (F3 k).1 (F3 k).2.2.length (F3 k).2.1) := (HB.out.cell (p := ⟨b, o + k * 5 + 3, none⟩) hbl).trans (hcol 3 _ rfl)
        have hc4 : wr.cell? ⟨b, o + k * 5 + 4, none⟩ = some (.slice (F4 k).1 (F4 k).2.2.length (F4 k).2.1) := (HB.out.cell (p := ⟨b, o + k * 5 + 4, none⟩) hbl).trans (hcol 4 _ rfl)
        clear hcol
        obtain ⟨f0, hf0⟩ : ∃ v, Hid (v = F0 k) := ⟨_, rfl⟩
        obtain ⟨f1, hf1⟩ : ∃ v, Hid (v = F1 k) := ⟨_, rfl⟩
        obtain ⟨f2, hf2⟩ : ∃ v, Hid (v = F2 k) := ⟨_, rfl⟩
        obtain ⟨p3, n3, d3, hf3⟩ : ∃ p n d, Hid (p = (F3 k).1 ∧ n = (F3 k).2.2.length ∧ d = (F3 k).2.1) := ⟨_, _, _, rfl, rfl, rfl⟩
        obtain ⟨p4, n4, d4, hf4⟩ : ∃ p n d, Hid (p = (F4 k).1 ∧ n = (F4 k).2.2.length ∧ d = (F4 k).2.1) := ⟨_, _, _, rfl, rfl, rfl⟩
        rw [← hf0.out] at hc0
        rw [← hf1.out] at hc1
        rw [← hf2.out] at hc2
        rw [← hf3.out.1, ← hf3.out.2.1, ← hf3.out.2.2] at hc3
        rw [← hf4.out.1, ← hf4.out.2.1, ← hf4.out.2.2] at hc4
        clear hf0 hf1 hf2 hf3 hf4
        obtain ⟨wb, hwb⟩ : ∃ wa, Hid (wa = wr.alloc (.cells #[.int .i64 f0, .int .i64 f1, .int .i64 f2, .slice p3 n3 d3, .slice p4 n4 d4] 36)) := ⟨_, rfl⟩
        have H5 : Hid (Five wb wr.heap.size (.int .i64 f0) (.int .i64 f1) (.int .i64 f2) (.slice p3 n3 d3) (.slice p4 n4 d4)) := hid (by rw [hwb.out]; exact five_new _ _ _ _ _ _ _)
        have HDb : Hid (PDk w.heap.size wb g F S) := hid (by rw [hwb.out]; exact HD.out.below ((Below.refl _ _).alloc (Nat.le_refl _) _))
        have HBb : Hid (Below w.heap.size w wb) := hid (by rw [hwb.out]; exact HB.out.alloc HB.out.size _)
        have HFb : Hid (¬ F wr.heap.size) := hid (fun h => Nat.lt_irrefl _ (HD.out.lt _ h).2)
        obtain ⟨gb, hgb⟩ : ∃ g, Hid (g = wr.heap.size) := ⟨_, rfl⟩
        rw [← hgb.out] at H5 HFb
        obtain ⟨r, hr8, hre⟩ : ∃ r : Nat, r < 8 ∧ f1 % 8 = (r : Int) := ⟨(f1 % 8).toNat, by omega, by omega⟩
        have e7 : bits .and .i64 f1 7 = (r : Int) := (i64_and7 f1).trans hre
        obtain ⟨x, hx, hxe⟩ : ∃ x : Int, (0 ≤ x ∧ x ≤ 255) ∧ IntKind.u8.wrap f2 = x := ⟨f2 % 256, by omega, IntKind.wrap_u8' f2⟩
        obtain ⟨S2, hS2⟩ : ∃ S2, Hid (S2 = S.write r (fullL x)) := ⟨_, rfl⟩
        have hwr := HS.out.write hr8 (fullL_len x) (fullL_oct hx)
        rw [← hS2.out] at hwr
        obtain ⟨hwe, hs2, -, -, hst2, -⟩ := hwr
        have HS2 := hid hs2
        have HWE := hid hwe
        have hst2' : S2.steps + 1 ≤ 2 * (k + 1) := by have := HS.out.hst; omega
        have HST2 := hid hst2'
        have HST : Hid (S.steps < 9223372036854775807 ∧ S.ws.length < 4294967296) := hid (by have := HS.out.hst; have := HS.out.hws; omega)
        clear hs2 hwe hst2 hst2' hre
        go_upto_region 9 with fail
        rw [← hwb.out, ← hgb.out]
        clear hc0 hc1 hc2 hc3 hc4 hwb hgb HD HB
        by_cases hks : (k : Int) = sync
        · have hS0 : (fun v => Five v gb (.int .i64 f0) (.int .i64 f1) (.int .i64 f2) (.slice p3 n3 d3) (.slice p4 n4 d4)) wb.drew := H5.out.below ((Below.refl _ _).drew)
          have HD5d := hid HDb.out.drew
          have HB5d := hid (show Below w.heap.size w wb.drew from HBb.out.trans ((Below.refl wb.heap.size wb).drew.mono HBb.out.size))
          clear HDb HBb H5
          refine wp_region_z (fun v => Five v gb (.int .i64 f0) (.int .i64 f1) (.int .i64 f2) (.slice p3 n3 d3) (.slice p4 n4 d4)) 20 (by kernel_rfl) hS0 (fun hS => ?_)
          clear hS0
          generalize World.drew _ = w9 at hS HD5d HB5d ⊢
          refine wpAnyZ_take (i := 0) (v := .pointer (some ⟨g, 0, none⟩)) rfl (by kernel_rfl) (by kernel_rfl) (by kernel_rfl) (by kernel_rfl) (fun _ _ _ h => h) hS (Or.inl ⟨by kernel_rfl, fun w hS => (by clear hS; go_simp)⟩) ?_
          simp only [Act.put, List.setIfInBounds_toArray, List.set_cons_zero, List.set_cons_succ]
          refine wpAnyZ_take (i := 1) (v := .pointer (some ⟨gb, 1, none⟩)) rfl (by kernel_rfl) (by kernel_rfl) (by kernel_rfl) (by kernel_rfl) (fun _ _ _ h => h) hS (Or.inl ⟨by kernel_rfl, fun w hS => (by clear hS; go_simp)⟩) ?_
          simp only [Act.put, List.setIfInBounds_toArray, List.set_cons_zero, List.set_cons_succ]
          refine wpAnyZ_take (i := 2) (v := .int .i64 f1) rfl (by kernel_rfl) (by kernel_rfl) (by kernel_rfl) (by kernel_rfl) (fun _ _ _ h => h) hS (Or.inl ⟨by kernel_rfl, fun w hS => (by have hc := hS.c1; clear hS; go_simp)⟩) ?_
          simp only [Act.put, List.setIfInBounds_toArray, List.set_cons_zero, List.set_cons_succ]
          refine wpAnyZ_take (i := 3) (v := .int .i64 (r : Nat)) rfl (by kernel_rfl) (by kernel_rfl) (by kernel_rfl) (by kernel_rfl) (fun _ _ _ h => h) hS (Or.inl ⟨by kernel_rfl, fun w hS => (by clear hS; go_simp)⟩) ?_
          simp only [Act.put, List.setIfInBounds_toArray, List.set_cons_zero, List.set_cons_succ]
          refine wpAnyZ_take (i := 4) (v := .pointer (some ⟨gb, 2, none⟩)) rfl (by kernel_rfl) (by kernel_rfl) (by kernel_rfl) (by kernel_rfl) (fun _ _ _ h => h) hS (Or.inl ⟨by kernel_rfl, fun w hS => (by clear hS; go_simp)⟩) ?_
          simp only [Act.put, List.setIfInBounds_toArray, List.set_cons_zero, List.set_cons_succ]
          refine wpAnyZ_take (i := 5) (v := .int .i64 f2) rfl (by kernel_rfl) (by kernel_rfl) (by kernel_rfl) (by kernel_rfl) (fun _ _ _ h => h) hS (Or.inl ⟨by kernel_rfl, fun w hS => (by have hc := hS.c2; clear hS; go_simp)⟩) ?_
          simp only [Act.put, List.setIfInBounds_toArray, List.set_cons_zero, List.set_cons_succ]
          refine wpAnyZ_take (i := 6) (v := .int .u8 x) rfl (by kernel_rfl) (by kernel_rfl) (by kernel_rfl) (by kernel_rfl) (fun _ _ _ h => h) hS (Or.inl ⟨by kernel_rfl, fun w hS => (by clear hS; go_simp)⟩) ?_
          simp only [Act.put, List.setIfInBounds_toArray, List.set_cons_zero, List.set_cons_succ]
          refine wpAnyZ_one (i := 7) (by kernel_rfl) rfl (fun K hK => ?_)
          go_simp
          go_at_call 29
          refine (full_of x _ hx).mono ?_
          rintro e v8 ⟨g8, c8, rfl, hc8, hO8, hb8⟩
          replace hS := hS.below hb8
          have HGL := hid hS.lt
          have HDF := hid (HD5d.out.newer' hO8)
          have HD8 := hid (HD5d.out.below hb8)
          have HB8 := hid (HB5d.out.trans (hb8.mono HB5d.out.size))
          have HO8 := hid hO8
          clear hb8 hO8 HD5d HB5d
          go_wp2_with fail
          refine hK.out _ _ (fun _ => hS) ?_
          clear hK K
          try simp only [Act.put, List.setIfInBounds_toArray, List.set_cons_zero, List.set_cons_succ]
          refine wpAnyZ_one (i := 8) (by kernel_rfl) rfl (fun K hK => ?_)
          go_simp
          go_at_call 24
          refine (dWrite_of _ g F S v8 HD8.out r (by simp [Lit.wf, IntKind.min, IntKind.max, IntKind.signed, IntKind.bits]; omega) _ c8 256 _ HO8.out.slice'.2 (fullL_oct hx) (fullL_len x) hc8 (by decide) HDF.out HST.out.1 HST.out.2).mono ?_
          rintro e w6 ⟨rfl, hs⟩
          obtain ⟨F6, hD6, hB6, hT6, hF6⟩ := hs.out (B := 0) HD8.out HB8.out
          replace hS := hS.tb hT6 HFb.out
          have hfb6 : ¬ F6 gb := fun h => by
            rcases hF6 _ h with h1 | h1
            · exact HFb.out h1
            · have := HGL.out; omega
          have HFB6 := hid hfb6
          rw [← hS2.out] at hD6
          rw [HWE.out]
          have HD6 := hid hD6
          have HB6 := hid hB6
          clear HD8 HB8 HO8 hs hD6 hB6 hT6 hF6 hfb6
          go_wp2_with fail
          refine hK.out _ _ (fun _ => hS) ?_
          clear hK K
          try simp only [Act.put, List.setIfInBounds_toArray, List.set_cons_zero, List.set_cons_succ]
          refine wpAnyZ_take (i := 9) (v := .bool false) rfl (by kernel_rfl) (by kernel_rfl) (by kernel_rfl) (by kernel_rfl) (fun _ _ _ h => h) hS (Or.inl ⟨by kernel_rfl, fun w hS => (by clear hS; go_simp)⟩) ?_
          simp only [Act.put, List.setIfInBounds_toArray, List.set_cons_zero, List.set_cons_succ]
          refine wpAnyZ_take (i := 10) (v := .bool false) rfl (by kernel_rfl) (by kernel_rfl) (by kernel_rfl) (by kernel_rfl) (fun _ _ _ h => h) hS (Or.inl ⟨by kernel_rfl, fun w hS => (by clear hS; go_simp)⟩) ?_
          simp only [Act.put, List.setIfInBounds_toArray, List.set_cons_zero, List.set_cons_succ]
          refine wpAnyZ_take (i := 11) (v := .int .i64 (k : Nat)) rfl (by kernel_rfl) (by kernel_rfl) (by kernel_rfl) (by kernel_rfl) (fun _ _ _ h => h) hS (Or.inl ⟨by kernel_rfl, fun w hS => (by clear hS; go_simp)⟩) ?_
          simp only [Act.put, List.setIfInBounds_toArray, List.set_cons_zero, List.set_cons_succ]; try simp only [List.getElem_toArray, List.getElem_cons_succ, List.getElem_cons_zero]
          refine wpAnyZ_take (i := 12) (v := .int .i64 sync) rfl (by kernel_rfl) (by kernel_rfl) (by kernel_rfl) (by kernel_rfl) (fun _ _ _ h => h) hS (Or.inl ⟨by kernel_rfl, fun w hS => (by clear hS; go_simp)⟩) ?_
          simp only [Act.put, List.setIfInBounds_toArray, List.set_cons_zero, List.set_cons_succ]; try simp only [List.getElem_toArray, List.getElem_cons_succ, List.getElem_cons_zero]
          refine wpAnyZ_take (i := 13) (v := .bool true) rfl (by kernel_rfl) (by kernel_rfl) (by kernel_rfl) (by kernel_rfl) (fun _ _ _ h => h) hS (Or.inl ⟨by kernel_rfl, fun w hS => (by clear hS; go_simp)⟩) ?_
          simp only [Act.put, List.setIfInBounds_toArray, List.set_cons_zero, List.set_cons_succ]; try simp only [List.getElem_toArray, List.getElem_cons_succ, List.getElem_cons_zero]
          refine wpAnyZ_take (i := 14) (v := .bool true) rfl (by kernel_rfl) (by kernel_rfl) (by kernel_rfl) (by kernel_rfl) (fun _ _ _ h => h) hS (Or.inl ⟨by kernel_rfl, fun w hS => (by clear hS; go_simp)⟩) ?_
          simp only [Act.put, List.setIfInBounds_toArray, List.set_cons_zero, List.set_cons_succ]; try simp only [List.getElem_toArray, List.getElem_cons_succ, List.getElem_cons_zero]
          refine wpAnyZ_take (i := 15) (v := .pointer (some ⟨g, 0, none⟩)) rfl (by kernel_rfl) (by kernel_rfl) (by kernel_rfl) (by kernel_rfl) (fun _ _ _ h => h) hS (Or.inl ⟨by kernel_rfl, fun w hS => (by clear hS; go_simp)⟩) ?_
          simp only [Act.put, List.setIfInBounds_toArray, List.set_cons_zero, List.set_cons_succ]; try simp only [List.getElem_toArray, List.getElem_cons_succ, List.getElem_cons_zero]
          refine wpAnyZ_one (i := 16) (by kernel_rfl) rfl (fun K hK => ?_)
          go_simp
          go_at_call 25
          refine (dSync_of _ g F6 S2 w6 HD6.out (by have := HS2.out.hst; omega)).mono ?_
          rintro e w7 ⟨rfl, hs⟩
          obtain ⟨F7, hD7, hB7, hT7, hF7⟩ := hs.out (B := 0) HD6.out HB6.out
          replace hS := hS.tb hT7 HFB6.out
          rw [HS2.out.err]
          have HD7 := hid hD7
          have HB7 := hid hB7
          clear HD6 HB6 hs hD7 hB7 hT7 hF7
          go_wp2_with fail
          refine hK.out _ _ (fun _ => hS) ?_
          clear hK K
          try simp only [Act.put, List.setIfInBounds_toArray, List.set_cons_zero, List.set_cons_succ]
          refine wpAnyZ_take (i := 17) (v := .bool false) rfl (by kernel_rfl) (by kernel_rfl) (by kernel_rfl) (by kernel_rfl) (fun _ _ _ h => h) hS (Or.inl ⟨by kernel_rfl, fun w hS => (by clear hS; go_simp)⟩) ?_
          simp only [Act.put, List.setIfInBounds_toArray, List.set_cons_zero, List.set_cons_succ]; try simp only [List.getElem_toArray, List.getElem_cons_succ, List.getElem_cons_zero]
          refine wpAnyZ_take (i := 18) (v := .bool false) rfl (by kernel_rfl) (by kernel_rfl) (by kernel_rfl) (by kernel_rfl) (fun _ _ _ h => h) hS (Or.inl ⟨by kernel_rfl, fun w hS => (by clear hS; go_simp)⟩) ?_
          simp only [Act.put, List.setIfInBounds_toArray, List.set_cons_zero, List.set_cons_succ]; try simp only [List.getElem_toArray, List.getElem_cons_succ, List.getElem_cons_zero]
          refine wpAnyZ_take (i := 19) (v := .bool false) rfl (by kernel_rfl) (by kernel_rfl) (by kernel_rfl) (by kernel_rfl) (fun _ _ _ h => h) hS (Or.inl ⟨by kernel_rfl, fun w hS => (by clear hS; go_simp)⟩) ?_
          simp only [Act.put, List.setIfInBounds_toArray, List.set_cons_zero, List.set_cons_succ]; try simp only [List.getElem_toArray, List.getElem_cons_succ, List.getElem_cons_zero]
          refine wpAnyZ_done (by kernel_rfl) ?_ _
          clear hS
          go_wp2_with fail
          go_roundw
          case rel => exact ⟨k + 1, S2.sync, F7, by omega, by go_num, (HS2.out.sync HST2.out (Nat.le_refl _)).1, HD7.out, HB7.out⟩
          case measure => simp [intOf]; omega
        · have hS0 : (fun v => Five v gb (.int .i64 f0) (.int .i64 f1) (.int .i64 f2) (.slice p3 n3 d3) (.slice p4 n4 d4)) wb.drew := H5.out.below ((Below.refl _ _).drew)
          have HD5d := hid HDb.out.drew
          have HB5d := hid (show Below w.heap.size w wb.drew from HBb.out.trans ((Below.refl wb.heap.size wb).drew.mono HBb.out.size))
          clear HDb HBb H5
          refine wp_region_z (fun v => Five v gb (.int .i64 f0) (.int .i64 f1) (.int .i64 f2) (.slice p3 n3 d3) (.slice p4 n4 d4)) 20 (by kernel_rfl) hS0 (fun hS => ?_)
          clear hS0
          generalize World.drew _ = w9 at hS HD5d HB5d ⊢
          refine wpAnyZ_take (i := 0) (v := .pointer (some ⟨g, 0, none⟩)) rfl (by kernel_rfl) (by kernel_rfl) (by kernel_rfl) (by kernel_rfl) (fun _ _ _ h => h) hS (Or.inl ⟨by kernel_rfl, fun w hS => (by clear hS; go_simp)⟩) ?_
          simp only [Act.put, List.setIfInBounds_toArray, List.set_cons_zero, List.set_cons_succ]
          refine wpAnyZ_take (i := 1) (v := .pointer (some ⟨gb, 1, none⟩)) rfl (by kernel_rfl) (by kernel_rfl) (by kernel_rfl) (by kernel_rfl) (fun _ _ _ h => h) hS (Or.inl ⟨by kernel_rfl, fun w hS => (by clear hS; go_simp)⟩) ?_
          simp only [Act.put, List.setIfInBounds_toArray, List.set_cons_zero, List.set_cons_succ]
          refine wpAnyZ_take (i := 2) (v := .int .i64 f1) rfl (by kernel_rfl) (by kernel_rfl) (by kernel_rfl) (by kernel_rfl) (fun _ _ _ h => h) hS (Or.inl ⟨by kernel_rfl, fun w hS => (by have hc := hS.c1; clear hS; go_simp)⟩) ?_
          simp only [Act.put, List.setIfInBounds_toArray, List.set_cons_zero, List.set_cons_succ]
          refine wpAnyZ_take (i := 3) (v := .int .i64 (r : Nat)) rfl (by kernel_rfl) (by kernel_rfl) (by kernel_rfl) (by kernel_rfl) (fun _ _ _ h => h) hS (Or.inl ⟨by kernel_rfl, fun w hS => (by clear hS; go_simp)⟩) ?_
          simp only [Act.put, List.setIfInBounds_toArray, List.set_cons_zero, List.set_cons_succ]
          refine wpAnyZ_take (i := 4) (v := .pointer (some ⟨gb, 2, none⟩)) rfl (by kernel_rfl) (by kernel_rfl) (by kernel_rfl) (by kernel_rfl) (fun _ _ _ h => h) hS (Or.inl ⟨by kernel_rfl, fun w hS => (by clear hS; go_simp)⟩) ?_
          simp only [Act.put, List.setIfInBounds_toArray, List.set_cons_zero, List.set_cons_succ]
          refine wpAnyZ_take (i := 5) (v := .int .i64 f2) rfl (by kernel_rfl) (by kernel_rfl) (by kernel_rfl) (by kernel_rfl) (fun _ _ _ h => h) hS (Or.inl ⟨by kernel_rfl, fun w hS => (by have hc := hS.c2; clear hS; go_simp)⟩) ?_
          simp only [Act.put, List.setIfInBounds_toArray, List.set_cons_zero, List.set_cons_succ]
          refine wpAnyZ_take (i := 6) (v := .int .u8 x) rfl (by kernel_rfl) (by kernel_rfl) (by kernel_rfl) (by kernel_rfl) (fun _ _ _ h => h) hS (Or.inl ⟨by kernel_rfl, fun w hS => (by clear hS; go_simp)⟩) ?_
          simp only [Act.put, List.setIfInBounds_toArray, List.set_cons_zero, List.set_cons_succ]
          refine wpAnyZ_one (i := 7) (by kernel_rfl) rfl (fun K hK => ?_)
          go_simp
          go_at_call 29
          refine (full_of x _ hx).mono ?_
          rintro e v8 ⟨g8, c8, rfl, hc8, hO8, hb8⟩
          replace hS := hS.below hb8
          have HGL := hid hS.lt
          have HDF := hid (HD5d.out.newer' hO8)
          have HD8 := hid (HD5d.out.below hb8)
          have HB8 := hid (HB5d.out.trans (hb8.mono HB5d.out.size))
          have HO8 := hid hO8
          clear hb8 hO8 HD5d HB5d
          go_wp2_with fail
          refine hK.out _ _ (fun _ => hS) ?_
          clear hK K
          try simp only [Act.put, List.setIfInBounds_toArray, List.set_cons_zero, List.set_cons_succ]
          refine wpAnyZ_one (i := 8) (by kernel_rfl) rfl (fun K hK => ?_)
          go_simp
          go_at_call 24
          refine (dWrite_of _ g F S v8 HD8.out r (by simp [Lit.wf, IntKind.min, IntKind.max, IntKind.signed, IntKind.bits]; omega) _ c8 256 _ HO8.out.slice'.2 (fullL_oct hx) (fullL_len x) hc8 (by decide) HDF.out HST.out.1 HST.out.2).mono ?_
          rintro e w6 ⟨rfl, hs⟩
          obtain ⟨F6, hD6, hB6, hT6, hF6⟩ := hs.out (B := 0) HD8.out HB8.out
          replace hS := hS.tb hT6 HFb.out
          have hfb6 : ¬ F6 gb := fun h => by
            rcases hF6 _ h with h1 | h1
            · exact HFb.out h1
            · have := HGL.out; omega
          have HFB6 := hid hfb6
          rw [← hS2.out] at hD6
          rw [HWE.out]
          have HD6 := hid hD6
          have HB6 := hid hB6
          clear HD8 HB8 HO8 hs hD6 hB6 hT6 hF6 hfb6
          go_wp2_with fail
          refine hK.out _ _ (fun _ => hS) ?_
          clear hK K
          try simp only [Act.put, List.setIfInBounds_toArray, List.set_cons_zero, List.set_cons_succ]
          refine wpAnyZ_take (i := 9) (v := .bool false) rfl (by kernel_rfl) (by kernel_rfl) (by kernel_rfl) (by kernel_rfl) (fun _ _ _ h => h) hS (Or.inl ⟨by kernel_rfl, fun w hS => (by clear hS; go_simp)⟩) ?_
          simp only [Act.put, List.setIfInBounds_toArray, List.set_cons_zero, List.set_cons_succ]
          refine wpAnyZ_take (i := 10) (v := .bool false) rfl (by kernel_rfl) (by kernel_rfl) (by kernel_rfl) (by kernel_rfl) (fun _ _ _ h => h) hS (Or.inl ⟨by kernel_rfl, fun w hS => (by clear hS; go_simp)⟩) ?_
          simp only [Act.put, List.setIfInBounds_toArray, List.set_cons_zero, List.set_cons_succ]
          refine wpAnyZ_take (i := 11) (v := .int .i64 (k : Nat)) rfl (by kernel_rfl) (by kernel_rfl) (by kernel_rfl) (by kernel_rfl) (fun _ _ _ h => h) hS (Or.inl ⟨by kernel_rfl, fun w hS => (by clear hS; go_simp)⟩) ?_
          simp only [Act.put, List.setIfInBounds_toArray, List.set_cons_zero, List.set_cons_succ]; try simp only [List.getElem_toArray, List.getElem_cons_succ, List.getElem_cons_zero]
          refine wpAnyZ_take (i := 12) (v := .int .i64 sync) rfl (by kernel_rfl) (by kernel_rfl) (by kernel_rfl) (by kernel_rfl) (fun _ _ _ h => h) hS (Or.inl ⟨by kernel_rfl, fun w hS => (by clear hS; go_simp)⟩) ?_
          simp only [Act.put, List.setIfInBounds_toArray, List.set_cons_zero, List.set_cons_succ]; try simp only [List.getElem_toArray, List.getElem_cons_succ, List.getElem_cons_zero]
          refine wpAnyZ_take (i := 13) (v := .bool false) rfl (by kernel_rfl) (by kernel_rfl) (by kernel_rfl) (by kernel_rfl) (fun _ _ _ h => h) hS (Or.inl ⟨by kernel_rfl, fun w hS => (by clear hS; go_simp)⟩) ?_
          simp only [Act.put, List.setIfInBounds_toArray, List.set_cons_zero, List.set_cons_succ]; try simp only [List.getElem_toArray, List.getElem_cons_succ, List.getElem_cons_zero]
          refine wpAnyZ_take (i := 14) (v := .bool false) rfl (by kernel_rfl) (by kernel_rfl) (by kernel_rfl) (by kernel_rfl) (fun _ _ _ h => h) hS (Or.inl ⟨by kernel_rfl, fun w hS => (by clear hS; go_simp)⟩) ?_
          simp only [Act.put, List.setIfInBounds_toArray, List.set_cons_zero, List.set_cons_succ]; try simp only [List.getElem_toArray, List.getElem_cons_succ, List.getElem_cons_zero]
          refine wpAnyZ_take (i := 15) (v := undef) rfl (by kernel_rfl) (by kernel_rfl) (by kernel_rfl) (by kernel_rfl) (fun _ _ _ h => h) hS (Or.inr ⟨by kernel_rfl, rfl⟩) ?_
          simp only [Act.put, List.setIfInBounds_toArray, List.set_cons_zero, List.set_cons_succ]; try simp only [List.getElem_toArray, List.getElem_cons_succ, List.getElem_cons_zero]
          refine wpAnyZ_take (i := 16) (v := undef) rfl (by kernel_rfl) (by kernel_rfl) (by kernel_rfl) (by kernel_rfl) (fun _ _ _ h => h) hS (Or.inr ⟨by kernel_rfl, rfl⟩) ?_
          simp only [Act.put, List.setIfInBounds_toArray, List.set_cons_zero, List.set_cons_succ]; try simp only [List.getElem_toArray, List.getElem_cons_succ, List.getElem_cons_zero]
          refine wpAnyZ_take (i := 17) (v := undef) rfl (by kernel_rfl) (by kernel_rfl) (by kernel_rfl) (by kernel_rfl) (fun _ _ _ h => h) hS (Or.inr ⟨by kernel_rfl, rfl⟩) ?_
          simp only [Act.put, List.setIfInBounds_toArray, List.set_cons_zero, List.set_cons_succ]; try simp only [List.getElem_toArray, List.getElem_cons_succ, List.getElem_cons_zero]
          refine wpAnyZ_take (i := 18) (v := .bool false) rfl (by kernel_rfl) (by kernel_rfl) (by kernel_rfl) (by kernel_rfl) (fun _ _ _ h => h) hS (Or.inl ⟨by kernel_rfl, fun w hS => (by clear hS; go_simp)⟩) ?_
          simp only [Act.put, List.setIfInBounds_toArray, List.set_cons_zero, List.set_cons_succ]; try simp only [List.getElem_toArray, List.getElem_cons_succ, List.getElem_cons_zero]
          refine wpAnyZ_take (i := 19) (v := .bool false) rfl (by kernel_rfl) (by kernel_rfl) (by kernel_rfl) (by kernel_rfl) (fun _ _ _ h => h) hS (Or.inl ⟨by kernel_rfl, fun w hS => (by clear hS; go_simp)⟩) ?_
          simp only [Act.put, List.setIfInBounds_toArray, List.set_cons_zero, List.set_cons_succ]; try simp only [List.getElem_toArray, List.getElem_cons_succ, List.getElem_cons_zero]
          refine wpAnyZ_done (by kernel_rfl) ?_ _
          clear hS
          go_wp2_with fail
          go_roundw
          case rel => exact ⟨k + 1, S2, F6, by omega, by go_num, HS2.out, HD6.out, HB6.out⟩
          case measure => simp [intOf]; omega
      · obtain rfl : k = len := by omega
        have kI : ¬ (k : Int) < (k : Int) := by omega
        have hsb := HB.out.size
        go_wp2_with (at_make; refine wpList_make_cap _ rfl _ _ 34 rfl 5 i0 (.int .u8 0) rfl Try.underlying34 hi hz0 hz1 hz2 .i64 .i64 _ _ k k rfl rfl rfl rfl (Nat.le_refl _) (by omega) ?_; intro wm hrow hgrow; have hO : Hid (Own wr.heap.size wm (.slice (some ⟨wr.heap.size, 0, none⟩) k k) k (fifP k 0)) := hid ⟨by simp [fifP], .inr ⟨wr.heap.size, k, _, rfl, Nat.le_refl _, hrow, Nat.le_refl _, by unfold maxLen; omega, by simp, by simp [fifP]⟩⟩; have hbm : Hid (Below wr.heap.size wr wm) := hid ((Below.refl _ _).grown hgrow (Nat.le_refl _) (by simp)); clear hrow hgrow)
        have HDm := hid (HD.out.below hbm.out)
        have HBm := hid (HB.out.trans (hbm.out.mono hsb))
        obtain ⟨ga, hga⟩ : ∃ g, Hid (g = wr.heap.size) := ⟨_, rfl⟩
        have HFa : Hid (¬ F ga) := hid (fun h => by have := (HD.out.lt _ h).2; rw [hga.out] at this; omega)
        have HGa : Hid (w.heap.size ≤ ga) := hid (by rw [hga.out]; exact hsb)
        rw [← hga.out] at hO ⊢
        clear hbm HD HB hsb hga
        go_loopw [71] (fun i wr => ∃ j : Nat, j ≤ k ∧ i = .int .i64 (j : Int) ∧ Own ga wr (.slice (some ⟨ga, 0, none⟩) k k) k (fifP k j) ∧ PDk w.heap.size wr g F S ∧ Below w.heap.size w wr) (fun i _ => k - (intOf i).toNat)
        case atStart => exact ⟨0, Nat.zero_le _, rfl, hO.out, HDm.out, HBm.out⟩
        case round =>
          clear HDm HBm hO
          obtain ⟨j, hj, rfl, hOj, hD, hB⟩ := hrel
          by_cases hjl : j < k
          · have hS := hid (hOj.stored j 15)
            have hck := hOj.cellAt j hjl
            have hfr := hOj.frozenAt j
            have jI : (j : Int) < (k : Int) := by omega
            have HB2 := hid (hB.setCell (p := ⟨ga, j, none⟩) HGa.out (.int .u8 15))
            have HD2 := hid (hD.tb (F' := fun q => q = ga) (Tb.setCell (F := fun q => q = ga) (b := ga) (Tb.refl _ wr) (.inl rfl) j (.int .u8 15)) (fun q hq e => HFa.out (e ▸ hq)))
            rw [fifP_set hjl] at hS
            clear hOj hD hB
            go_wp2_with fail
            go_roundw
            case rel => exact ⟨j + 1, by omega, by go_num, hS.out, HD2.out, HB2.out⟩
            case measure => simp [intOf]; omega
          · obtain rfl : j = k := by omega
            have jI : ¬ (j : Int) < (j : Int) := by omega
            have HO : Hid (Own ga wr (.slice (some ⟨ga, 0, none⟩) j j) j (List.replicate j 15)) := hid (by have := hOj; unfold fifP at this; rw [Nat.sub_self, List.replicate_zero, List.append_nil] at this; exact this)
            have HD := hid hD
            have HB := hid hB
            have HFK := hid (dFork_of _ g F S wr hD)
            clear hOj hD hB
            go_wp2_with fail
            refine HFK.out.mono ?_
            rintro e wx ⟨gx, Fx, rfl, hX, hbx⟩
            have HSZ1 : Hid (∀ q, F q → q < wr.heap.size) := hid (fun q hq => (HD.out.lt q hq).2)
            have HSZ2 : Hid (∀ q, Fx q → wr.heap.size ≤ q ∧ q < wx.heap.size) := hid (fun q hq => hX.lt q hq)
            have HX := hid (hX.mono HB.out.size)
            have HDx := hid (HD.out.below hbx)
            have HBx := hid (HB.out.trans (hbx.mono HB.out.size))
            have HOx := hid (HO.out.below hbx)
            have HAL : Hid (ga < wr.heap.size ∧ wr.heap.size ≤ wx.heap.size) := hid ⟨own_lt HO.out, hbx.size⟩
            have HFK2 := hid (dFork_of _ g F S wx HDx.out)
            clear HFK hX hbx HD HB HO
            go_wp2_with fail
            refine HFK2.out.mono ?_
            rintro e wy ⟨gy, Fy, rfl, hY, hby⟩
            have HSZ3 : Hid (∀ q, Fy q → wx.heap.size ≤ q ∧ q < wy.heap.size) := hid (fun q hq => hY.lt q hq)
            have HY := hid (hY.mono HBx.out.size)
            have HDy := hid (HDx.out.below hby)
            have HXy := hid (HX.out.below hby)
            have HBy := hid (HBx.out.trans (hby.mono HBx.out.size))
            have HOy := hid (HOx.out.below hby)
            have HCX := hid (dCrash_of _ gx Fx S wy HXy.out (some ⟨ga, 0, none⟩) j j (List.replicate j 15) HOy.out.slice'.2 (fun x hx => by rw [List.eq_of_mem_replicate hx]; decide) List.length_replicate (Nat.le_refl _) (by omega) (fun a ha _ h => by cases ha; have := (HSZ2.out _ h).1; have := HAL.out.1; show False; simp at *; omega))
            have HAL2 := hid hby.size
            clear HFK2 hY hby HDx HX HBx HOx
            go_wp2_with fail
            refine HCX.out.mono ?_
            rintro e w3 ⟨rfl, hs⟩
            obtain ⟨Fx', hX3, hB3, hT3, hF3⟩ := hs.out (B := 0) HXy.out HBy.out
            have HX3 := hid hX3
            have HB3 := hid hB3
            have HD3 := hid (HDy.out.tb hT3 (fun q hq h => by have := HSZ1.out q hq; have := (HSZ2.out q h).1; omega))
            have HY3 := hid (HY.out.tb hT3 (fun q hq h => by have := (HSZ3.out q hq).1; have := (HSZ2.out q h).2; omega))
            have HF3 : Hid (∀ q, Fx' q → ¬ Fy q) := hid (fun q hq h => by
              rcases hF3 q hq with h1 | h1
              · have := (HSZ3.out q h).1; have := (HSZ2.out q h1).2; omega
              · have := (HSZ3.out q h).2; omega)
            have HCY := hid (dCrash_of _ gy Fy S w3 HY3.out none 0 0 [] (Bin.nil _ _) Oct.nil rfl (Nat.le_refl _) (by decide) (fun a ha => by cases ha))
            clear HCX hs hX3 hB3 hT3 hF3 HXy HDy HY HOy HBy
            go_wp2_with fail
            refine HCY.out.mono ?_
            rintro e w4 ⟨rfl, hs⟩
            obtain ⟨Fy', hY4, hB4, hT4, hF4⟩ := hs.out (B := 0) HY3.out HB3.out
            have HY4 := hid hY4
            have HB4 := hid hB4
            have HD4 := hid (HD3.out.tb hT4 (fun q hq h => by have := HSZ1.out q hq; have := (HSZ3.out q h).1; have := HAL.out.2; omega))
            have HX4 := hid (HX3.out.tb hT4 HF3.out)
            obtain ⟨SX, hSX⟩ : ∃ s, Hid (s = S.crash ((List.replicate j (15 : Int)).map Int.toNat)) := ⟨_, rfl⟩
            obtain ⟨SY, hSY⟩ : ∃ s, Hid (s = S.crash (([] : List Int).map Int.toNat)) := ⟨_, rfl⟩
            rw [← hSX.out] at HX4
            rw [← hSY.out] at HY4
            have HR1 : Hid (∀ r : Nat, r < 8 → S.readE r = 0 ∧ S.readL r = S.now r ∧ S.firmE r = 0 ∧ S.firmL r = S.firm r ∧ SX.readE r = 0 ∧ SX.readL r = S.now r ∧ SX.firmE r = 0 ∧ SX.firmL r = S.now r ∧ SY.readE r = 0 ∧ SY.readL r = S.firm r) := hid (fun r hr => by
              obtain ⟨a1, a2, a3, a4⟩ := HS.out.readE hr
              obtain ⟨b1, b2, b3, b4⟩ := HS.out.crash ((List.replicate j (15 : Int)).map Int.toNat) hr
              obtain ⟨c1, c2, -, -⟩ := HS.out.crash (([] : List Int).map Int.toNat) hr
              rw [hSX.out, hSY.out]
              rw [List.map_replicate, show Int.toNat 15 = 15 from rfl, HS.out.crash_all HS.out.hws] at b2 b4
              rw [List.map_nil, crs_nil] at c2
              exact ⟨a1, a2, a3, a4, b1, by rw [List.map_replicate]; exact b2, b3, by rw [List.map_replicate]; exact b4, c1, c2⟩)
            clear HCY hs hY4 hB4 hT4 hF4 HX3 HB3 HD3 HY3 HF3 HSZ1 HSZ2 HSZ3 HAL HAL2 hSX hSY
            go_wp2_with fail
            go_loopw [99] (fun i wr => ∃ r : Nat, r ≤ 8 ∧ i = .int .i64 (r : Int) ∧ PDk w.heap.size wr g F S ∧ PDk w.heap.size wr gx Fx' SX ∧ PDk w.heap.size wr gy Fy' SY ∧ Below w.heap.size w wr) (fun i _ => 8 - (intOf i).toNat)
            case atStart => exact ⟨0, Nat.zero_le _, rfl, HD4.out, HX4.out, HY4.out, HB4.out⟩
            case round =>
              clear HD4 HX4 HY4 HB4
              obtain ⟨r, hr, rfl, hD, hX, hY, hB⟩ := hrel
              have HD := hid hD
              have HX := hid hX
              have HY := hid hY
              have HB := hid hB
              clear hD hX hY hB
              by_cases hr8 : r < 8
              · have rI : (r : Int) < 8 := by omega
                have hrw : (Lit.int .i64 (r : Int)).wf = true := by simp [Lit.wf, IntKind.min, IntKind.max, IntKind.signed, IntKind.bits]; omega
                have HRW := hid hrw
                obtain ⟨a1, a2, a3, a4, b1, b2, b3, b4, c1, c2⟩ := HR1.out r hr8
                have H1 := hid (fun W h => dRead_of w.heap.size g F S W h r HRW.out)
                have H2 := hid (fun W h => dFirm_of w.heap.size g F S W h r HRW.out)
                have H3 := hid (fun W h => dRead_of w.heap.size gx Fx' SX W h r HRW.out)
                have H4 := hid (fun W h => dRead_of w.heap.size gy Fy' SY W h r HRW.out)
                have H5 := hid (fun W h => dFirm_of w.heap.size gx Fx' SX W h r HRW.out)
                obtain ⟨LN, hLN⟩ : ∃ l, Hid (l = S.now r) := ⟨_, rfl⟩
                obtain ⟨LF, hLF⟩ : ∃ l, Hid (l = S.firm r) := ⟨_, rfl⟩
                rw [a1, a2, ← hLN.out] at H1
                rw [a3, a4, ← hLF.out] at H2
                rw [b1, b2, ← hLN.out] at H3
                rw [c1, c2, ← hLF.out] at H4
                rw [b3, b4, ← hLN.out] at H5
                obtain ⟨mN, hmN⟩ : ∃ l, Hid (l = LN.length) := ⟨_, rfl⟩
                obtain ⟨mF, hmF⟩ : ∃ l, Hid (l = LF.length) := ⟨_, rfl⟩
                rw [← hmN.out] at H1 H3 H5
                rw [← hmF.out] at H2 H4
                clear a1 a2 a3 a4 b1 b2 b3 b4 c1 c2 hrw
                go_wp2_with fail
                refine (H1.out _ HD.out).mono ?_
                rintro e v1 ⟨x1, rfl, o1, hb⟩
                have HO1 := hid o1
                have HD1 := hid (HD.out.below hb)
                have HX1 := hid (HX.out.below hb)
                have HY1 := hid (HY.out.below hb)
                have HB1 := hid (HB.out.trans (hb.mono HB.out.size))
                clear o1 hb HD HX HY HB H1
                go_wp2_with fail
                refine (H2.out _ HD1.out).mono ?_
                rintro e v2 ⟨x2, rfl, o2, hb⟩
                have HO2 := hid o2
                have HO12 := hid (HO1.out.below hb)
                have HD2 := hid (HD1.out.below hb)
                have HX2 := hid (HX1.out.below hb)
                have HY2 := hid (HY1.out.below hb)
                have HB2 := hid (HB1.out.trans (hb.mono HB1.out.size))
                clear o2 hb HD1 HX1 HY1 HB1 H2 HO1
                go_wp2_with fail
                refine (H3.out _ HX2.out).mono ?_
                rintro e v3 ⟨x3, rfl, o3, hb⟩
                have HO3 := hid o3
                have HO13 := hid (HO12.out.below hb)
                have HO23 := hid (HO2.out.below hb)
                have HD3 := hid (HD2.out.below hb)
                have HX3 := hid (HX2.out.below hb)
                have HY3 := hid (HY2.out.below hb)
                have HB3 := hid (HB2.out.trans (hb.mono HB2.out.size))
                clear o3 hb HD2 HX2 HY2 HB2 H3 HO12 HO2
                go_wp2_with fail
                refine (H4.out _ HY3.out).mono ?_
                rintro e v4 ⟨x4, rfl, o4, hb⟩
                have HO4 := hid o4
                have HO14 := hid (HO13.out.below hb)
                have HO24 := hid (HO23.out.below hb)
                have HO34 := hid (HO3.out.below hb)
                have HD4 := hid (HD3.out.below hb)
                have HX4 := hid (HX3.out.below hb)
                have HY4 := hid (HY3.out.below hb)
                have HB4 := hid (HB3.out.trans (hb.mono HB3.out.size))
                clear o4 hb HD3 HX3 HY3 HB3 H4 HO13 HO23 HO3
                go_wp2_with fail
                refine (H5.out _ HX4.out).mono ?_
                rintro e v5 ⟨x5, rfl, o5, hb⟩
                have HD5 := hid (HD4.out.below hb)
                have HX5 := hid (HX4.out.below hb)
                have HY5 := hid (HY4.out.below hb)
                have HB5 := hid (HB4.out.trans (hb.mono HB4.out.size))
                obtain ⟨p1, d1, rfl, _, B1⟩ := (HO14.out.below hb).bin
                obtain ⟨p2, d2, rfl, _, B2⟩ := (HO24.out.below hb).bin
                obtain ⟨p3, d3, rfl, _, B3⟩ := (HO34.out.below hb).bin
                obtain ⟨p4, d4, rfl, _, B4⟩ := (HO4.out.below hb).bin
                obtain ⟨p5, d5, rfl, _, B5⟩ := o5.bin
                have k1 := conv_str' B1 hmN.out.symm d1
                have k2 := conv_str' B2 hmF.out.symm d2
                have k3 := conv_str' B3 hmN.out.symm d3
                have k4 := conv_str' B4 hmF.out.symm d4
                have k5 := conv_str' B5 hmN.out.symm d5
                clear o5 hb HD4 HX4 HY4 HB4 H5 HO14 HO24 HO34 HO4 B1 B2 B3 B4 B5
                go_wp2_with fail
                go_roundw
                case rel => exact ⟨r + 1, by omega, by go_num, HD5.out, HX5.out, HY5.out, HB5.out⟩
                case measure => simp [intOf]; omega
              · obtain rfl : r = 8 := by omega
                clear HD HX HY
                go_wp2_with fail
                refine (known8_any _).mono ?_
                rintro e w5 ⟨rfl, hb5⟩
                go_wp2_with fail
                go_ret
                exact ⟨rfl, HB.out.trans (hb5.mono HB.out.size)⟩
end Go.Proofs.Ythnakonndlebbaa
