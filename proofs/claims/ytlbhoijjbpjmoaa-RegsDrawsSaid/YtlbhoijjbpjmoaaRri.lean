/-
  RegsRise.
-/
import Derived.Test.YtlbhoijjbpjmoaaRk
import Derived.Test.YtlbhoijjbpjmoaaRh
namespace Go.Proofs.Ytlbhoijjbpjmoaa
open Go.RowKit
set_option linter.unusedVariables false
set_option linter.unusedSimpArgs false

theorem Bin.below' {w0 w' : World} {p : Option Addr} {xs : List Int} (h : Bin w0 p xs) (hb : Below w0.heap.size w0 w') : Bin w' p xs := h.below hb
theorem bin_lt {w0 : World} {p : Option Addr} {xs : List Int} {a : Addr} (h : Bin w0 p xs) (ha : p = some a) (hn : 0 < xs.length) : a.block < w0.heap.size := by
  obtain ⟨b, o, e, hb, _⟩ := h.at hn
  rw [ha] at e
  rw [Option.some.inj e]
  exact hb

set_option maxHeartbeats 32000000 in
set_option maxRecDepth 100000 in
theorem rrise_law (l0 : Int) (a : Option Addr) (len cl : Nat) (F0 F1 F2 F3 F4 F5 : Nat → Int) (F6 F7 : Nat → Option Addr × Nat × List Int) (w : World) (hlw : (Lit.int .u64 l0).wf = true) (hlm : len ≤ maxLen) (hlc : len ≤ cl) (hr : Rws w a len [fun i => .int .i64 (F0 i), fun i => .int .u64 (F1 i), fun i => .int .i64 (F2 i), fun i => .int .i64 (F3 i), fun i => .int .i64 (F4 i), fun i => .int .i64 (F5 i), fun i => .slice (F6 i).1 (F6 i).2.2.length (F6 i).2.1, fun i => .slice (F7 i).1 (F7 i).2.2.length (F7 i).2.1])
    (g0 : ∀ i, i < len → (Lit.int .i64 (F0 i)).wf = true) (g1 : ∀ i, i < len → (Lit.int .u64 (F1 i)).wf = true) (g2 : ∀ i, i < len → (Lit.int .i64 (F2 i)).wf = true) (g3 : ∀ i, i < len → (Lit.int .i64 (F3 i)).wf = true) (g4 : ∀ i, i < len → (Lit.int .i64 (F4 i)).wf = true) (g5 : ∀ i, i < len → (Lit.int .i64 (F5 i)).wf = true) (g6 : ∀ i, i < len → Bin w (F6 i).1 (F6 i).2.2 ∧ Oct (F6 i).2.2 ∧ (F6 i).2.2.length ≤ (F6 i).2.1 ∧ (F6 i).2.2.length ≤ 140737488351232) (g7 : ∀ i, i < len → Bin w (F7 i).1 (F7 i).2.2 ∧ Oct (F7 i).2.2 ∧ (F7 i).2.2.length ≤ (F7 i).2.1 ∧ (F7 i).2.2.length ≤ 140737488351232) :
    Calls Try.prog 5 #[.int .u64 l0, .slice a len cl] w fun e w' => e = .returned (.bool true) ∧ Below w.heap.size w w' := by
  have HR := hid hr
  have HG0 := hid g0
  have HG1 := hid g1
  have HG2 := hid g2
  have HF7 := hid g7
  have hl63 := hlm
  unfold maxLen at hl63
  obtain ⟨lim, rfl⟩ : ∃ n : Nat, l0 = (n : Int) := ⟨l0.toNat, by have := u64_of_wf hlw; omega⟩
  have hlim : lim ≤ 18446744073709551615 := by have := u64_of_wf hlw; omega
  have HH := hid (heavy9_of none 0 0 (fun _ => (none, 0, [])) a len cl F0 F1 F2 F3 F4 F5 F6 F7 w (by decide) ⟨fun h => absurd h (Nat.lt_irrefl _), fun i hi => absurd hi (Nat.not_lt_zero _)⟩ hlm hr g6 g7)
  clear hr g0 g1 g2 g3 g4 g5 g6 g7 hlm hlw
  go_enter Try.func5, Try.ntmps5
  go_wp2_with fail
  refine HH.out.mono ?_
  rintro e w1 ⟨b, rfl, hb, hb1⟩
  have HB1 := hid hb1
  have HL := hid hb
  clear hb hb1 HH
  cases b with
  | true =>
    go_wp2_with fail
    refine (known9_any w1).mono ?_
    rintro e w2 ⟨rfl, hb⟩
    have HB2 := hid (HB1.out.trans (hb.mono HB1.out.size))
    clear hb HB1
    go_wp2
    go_ret
    exact ⟨rfl, HB2.out⟩
  | false =>
    have hl4 := (HL.out rfl).2
    go_wp2_with fail
    refine (dNew_of w1 8 (by decide) (by decide)).mono ?_
    rintro e w2 ⟨gd, Fd, rfl, hD, hb2⟩
    have HD := hid (hD.mono HB1.out.size)
    have HB2 := hid (HB1.out.trans (hb2.mono HB1.out.size))
    clear hD hb2 HB1
    go_wp2_with fail
    refine (gNew_of gd w2 lim 0 0 none (fun _ => (none, 0, [])) hlim (by decide) ⟨fun h => absurd h (Nat.lt_irrefl _), fun i hi => absurd hi (Nat.not_lt_zero _)⟩).mono ?_
    rintro e w3 ⟨g, F, rfl, hr, hb3⟩
    have HG := hid (rig_made (wd := w2) HD.out HB2.out hr hb3)
    clear hr hb3 HD HB2
    go_wp2_with fail
    go_loopw [9, 10, 43] (fun tp ct i wr => ∃ (k rs cm : Nat) (F Fd : Nat → Prop) (R : Rst) (S : Dst), k ≤ len ∧ i = .int .i64 (k : Int) ∧ tp = .int .u64 (rs : Int) ∧ ct = .int .u64 (cm : Int) ∧ (R.res = rs ∧ R.com = cm ∧ R.lim = lim) ∧ Rig w w.heap.size wr g F gd Fd R S ∧ S.steps ≤ k) (fun _ _ i _ => len - (intOf i).toNat)
    case atStart => exact ⟨0, 0, 0, F, Fd, _, _, Nat.zero_le _, rfl, rfl, rfl, ⟨rfl, rfl, rfl⟩, HG.out, Nat.le_refl _⟩
    case round =>
      clear HG
      obtain ⟨k, rs, cm, F, Fd, R, S, hk, rfl, rfl, rfl, hq, hG, hst⟩ := hrel
      have HG := hid hG
      have HQ := hid hq
      clear hG hq
      by_cases hkl : k < len
      · have kI : (k : Int) < (len : Int) := by omega
        obtain ⟨b, o, rfl, hbl, hcol⟩ := HR.out.at hkl (Nat.succ_pos _)
        obtain ⟨kd, hkd⟩ : ∃ x, Hid (x = F0 k) := ⟨_, rfl⟩
        obtain ⟨nn, hnn⟩ : ∃ x : Nat, Hid ((x : Int) = F1 k) := ⟨(F1 k).toNat, hid (by have := u64_of_wf (HG1.out k hkl); omega)⟩
        have hn64 : nn ≤ 18446744073709551615 := by have := u64_of_wf (HG1.out k hkl); have := hnn.out; omega
        obtain ⟨zz, hzz⟩ : ∃ x, Hid (x = F2 k) := ⟨_, rfl⟩
        have hzw : Hid ((Lit.int .i64 zz).wf = true) := hid (by rw [hzz.out]; exact HG2.out k hkl)
        obtain ⟨pm, nm, dm, hf⟩ : ∃ p n d, Hid (p = (F7 k).1 ∧ n = (F7 k).2.2.length ∧ d = (F7 k).2.1) := ⟨_, _, _, rfl, rfl, rfl⟩
        have HCL : Hid (∀ W, Below w.heap.size w W → W.cell? ⟨b, o + k * 8, none⟩ = some (.int .i64 kd) ∧ W.cell? ⟨b, o + k * 8 + 1, none⟩ = some (.int .u64 (nn : Nat)) ∧ W.cell? ⟨b, o + k * 8 + 2, none⟩ = some (.int .i64 zz) ∧ W.cell? ⟨b, o + k * 8 + 7, none⟩ = some (.slice pm nm dm)) := hid (fun W hW => by
          rw [hkd.out, hnn.out, hzz.out, hf.out.1, hf.out.2.1, hf.out.2.2]
          exact ⟨(hW.cell (p := ⟨b, o + k * 8, none⟩) hbl).trans (hcol 0 _ rfl), (hW.cell (p := ⟨b, o + k * 8 + 1, none⟩) hbl).trans (hcol 1 _ rfl), (hW.cell (p := ⟨b, o + k * 8 + 2, none⟩) hbl).trans (hcol 2 _ rfl), (hW.cell (p := ⟨b, o + k * 8 + 7, none⟩) hbl).trans (hcol 7 _ rfl)⟩)
        have hss : S.steps < 9223372036854775807 := by omega
        clear hcol hbl hkd hzz
        obtain ⟨x0, x1, x2, x7⟩ := HCL.out wr HG.out.b
        by_cases h1 : kd = 1
        · subst h1
          have hrs := gReserve_of _ g gd F Fd R S wr HG.out.r HG.out.d HG.out.x hss
          have hok := HG.out.r.ok
          unfold Rst.resV Rst.resE Rst.resR Rst.resS at hrs
          rw [HQ.out.1, HQ.out.2.2] at hrs
          by_cases hl : rs = lim
          · rw [if_pos hl, if_pos hl, if_pos hl, if_pos hl] at hrs
            have HC := hid hrs
            have HST : Hid (S.steps ≤ k) := hid hst
            clear hrs hok x1 x2 x7 hl
            go_wp2_with fail
            refine HC.out.mono ?_
            rintro e w5 ⟨rfl, hs⟩
            obtain ⟨F5, Fd5, hg⟩ := HG.out.step hs
            have HG5 := hid hg
            clear hs hg HC HG x0
            have HQ5 := hid HQ.out
            have HRD := hid (gReserved_of _ g gd _ _ w5 HG5.out.r)
            rw [HQ5.out.1] at HRD
            go_wp2_with fail
            refine HRD.out.mono ?_
            rintro e w8 ⟨rfl, hb⟩
            have HG8 := hid (HG5.out.below hb)
            have HCM := hid (gCommitted_of _ g gd _ _ w8 HG8.out.r)
            rw [HQ5.out.2.1] at HCM
            clear hb HRD HG5
            go_wp2_with fail
            refine HCM.out.mono ?_
            rintro e w9 ⟨rfl, hb⟩
            have HG9 := hid (HG8.out.below hb)
            clear hb HCM HG8
            go_wp2_with fail
            go_roundw
            case rel => exact ⟨k + 1, rs, cm, _, _, _, _, by omega, by go_num, by go_num, by go_num, HQ5.out, HG9.out, by have := HST.out; omega⟩
            case measure => simp [intOf]; omega
          · rw [if_neg hl, if_neg hl, if_neg hl, if_neg hl] at hrs
            have HST : Hid (S.step.steps ≤ k + 1) := hid (by have := Dst.step_steps S; omega)
            by_cases he : S.err = 0
            · rw [if_pos he, if_pos he, he] at hrs
              have hr1 : rs + 1 ≤ lim := by have := hok.res; rw [HQ.out.1, HQ.out.2.2] at this; omega
              have i1 : IntKind.u64.wrap ((rs : Int) + 1) = (rs : Int) + 1 := by simp [IntKind.wrap, IntKind.signed, IntKind.bits]; omega
              have i2 : ¬ (lim : Int) < (rs : Int) + 1 := by omega
              have i3 : ¬ (lim : Int) < ((rs + 1 : Nat) : Int) := by omega
              have HC := hid hrs
              clear hrs hok x1 x2 x7 hl he
              go_wp2_with fail
              refine HC.out.mono ?_
              rintro e w5 ⟨rfl, hs⟩
              obtain ⟨F5, Fd5, hg⟩ := HG.out.step hs
              obtain ⟨R5, hg, hq5⟩ : ∃ R5, Rig w w.heap.size w5 g F5 gd Fd5 R5 S.step ∧ (R5.res = rs + 1 ∧ R5.com = cm ∧ R5.lim = lim) := ⟨_, hg, rfl, by first | rfl | exact HQ.out.2.1, by first | rfl | exact HQ.out.2.2⟩
              have HG5 := hid hg
              clear hs hg HC HG x0
              have HQ5 := hid hq5
              have HRD := hid (gReserved_of _ g gd _ _ w5 HG5.out.r)
              rw [HQ5.out.1] at HRD
              go_wp2_with fail
              refine HRD.out.mono ?_
              rintro e w8 ⟨rfl, hb⟩
              have HG8 := hid (HG5.out.below hb)
              have HCM := hid (gCommitted_of _ g gd _ _ w8 HG8.out.r)
              rw [HQ5.out.2.1] at HCM
              clear hb HRD HG5
              go_wp2_with fail
              refine HCM.out.mono ?_
              rintro e w9 ⟨rfl, hb⟩
              have HG9 := hid (HG8.out.below hb)
              clear hb HCM HG8
              go_wp2_with fail
              go_roundw
              case rel => exact ⟨k + 1, rs + 1, cm, _, _, _, _, by omega, by go_num, by go_num, by go_num, HQ5.out, HG9.out, by have := HST.out; omega⟩
              case measure => simp [intOf]; omega
            · rw [if_neg he, if_neg he] at hrs
              obtain ⟨er, her⟩ : ∃ e, Hid (e = S.err) := ⟨_, rfl⟩
              rw [← her.out] at hrs he
              have HC := hid hrs
              clear hrs hok x1 x2 x7 hl
              go_wp2_with fail
              refine HC.out.mono ?_
              rintro e w5 ⟨rfl, hs⟩
              obtain ⟨F5, Fd5, hg⟩ := HG.out.step hs
              have HG5 := hid hg
              clear hs hg HC HG x0
              have HQ5 := hid HQ.out
              have HRD := hid (gReserved_of _ g gd _ _ w5 HG5.out.r)
              rw [HQ5.out.1] at HRD
              go_wp2_with fail
              refine HRD.out.mono ?_
              rintro e w8 ⟨rfl, hb⟩
              have HG8 := hid (HG5.out.below hb)
              have HCM := hid (gCommitted_of _ g gd _ _ w8 HG8.out.r)
              rw [HQ5.out.2.1] at HCM
              clear hb HRD HG5
              go_wp2_with fail
              refine HCM.out.mono ?_
              rintro e w9 ⟨rfl, hb⟩
              have HG9 := hid (HG8.out.below hb)
              clear hb HCM HG8
              go_wp2_with fail
              go_roundw
              case rel => exact ⟨k + 1, rs, cm, _, _, _, _, by omega, by go_num, by go_num, by go_num, HQ5.out, HG9.out, by have := HST.out; omega⟩
              case measure => simp [intOf]; omega
        by_cases h2 : kd = 2
        · subst h2
          have hrs := gAdvance_of _ g gd F Fd R S wr HG.out.r HG.out.d HG.out.x hss nn hn64
          unfold Rst.advE Rst.advR Rst.advS at hrs
          rw [HQ.out.1, HQ.out.2.1] at hrs
          by_cases hl : nn ≤ cm ∨ rs < nn
          · rw [if_pos hl, if_pos hl, if_pos hl] at hrs
            have HC := hid hrs
            have HST : Hid (S.steps ≤ k) := hid hst
            clear hrs x2 x7 hl
            go_wp2_with fail
            refine HC.out.mono ?_
            rintro e w5 ⟨rfl, hs⟩
            obtain ⟨F5, Fd5, hg⟩ := HG.out.step hs
            have HG5 := hid hg
            clear hs hg HC HG x0 x1
            have HQ5 := hid HQ.out
            have HRD := hid (gReserved_of _ g gd _ _ w5 HG5.out.r)
            rw [HQ5.out.1] at HRD
            go_wp2_with fail
            refine HRD.out.mono ?_
            rintro e w8 ⟨rfl, hb⟩
            have HG8 := hid (HG5.out.below hb)
            have HCM := hid (gCommitted_of _ g gd _ _ w8 HG8.out.r)
            rw [HQ5.out.2.1] at HCM
            clear hb HRD HG5
            go_wp2_with fail
            refine HCM.out.mono ?_
            rintro e w9 ⟨rfl, hb⟩
            have HG9 := hid (HG8.out.below hb)
            clear hb HCM HG8
            go_wp2_with fail
            go_roundw
            case rel => exact ⟨k + 1, rs, cm, _, _, _, _, by omega, by go_num, by go_num, by go_num, HQ5.out, HG9.out, by have := HST.out; omega⟩
            case measure => simp [intOf]; omega
          · rw [if_neg hl, if_neg hl, if_neg hl] at hrs
            have HST : Hid (S.step.steps ≤ k + 1) := hid (by have := Dst.step_steps S; omega)
            have i1 : ¬ (nn : Int) ≤ (cm : Int) := by omega
            have i2 : ¬ (rs : Int) < (nn : Int) := by omega
            by_cases he : S.err = 0
            · rw [if_pos he, he] at hrs
              have HC := hid hrs
              clear hrs x2 x7 hl he
              go_wp2_with fail
              refine HC.out.mono ?_
              rintro e w5 ⟨rfl, hs⟩
              obtain ⟨F5, Fd5, hg⟩ := HG.out.step hs
              obtain ⟨R5, hg, hq5⟩ : ∃ R5, Rig w w.heap.size w5 g F5 gd Fd5 R5 S.step ∧ (R5.res = rs ∧ R5.com = nn ∧ R5.lim = lim) := ⟨_, hg, by first | rfl | exact HQ.out.1, rfl, by first | rfl | exact HQ.out.2.2⟩
              have HG5 := hid hg
              obtain ⟨x0, x1, x2, x7⟩ := HCL.out w5 hg.b
              clear hs hg HC HG x0 x2 x7
              have HQ5 := hid hq5
              have HRD := hid (gReserved_of _ g gd _ _ w5 HG5.out.r)
              rw [HQ5.out.1] at HRD
              go_wp2_with fail
              refine HRD.out.mono ?_
              rintro e w8 ⟨rfl, hb⟩
              have HG8 := hid (HG5.out.below hb)
              have HCM := hid (gCommitted_of _ g gd _ _ w8 HG8.out.r)
              rw [HQ5.out.2.1] at HCM
              clear hb HRD HG5
              go_wp2_with fail
              refine HCM.out.mono ?_
              rintro e w9 ⟨rfl, hb⟩
              have HG9 := hid (HG8.out.below hb)
              clear hb HCM HG8
              go_wp2_with fail
              go_roundw
              case rel => exact ⟨k + 1, rs, nn, _, _, _, _, by omega, by go_num, by go_num, by go_num, HQ5.out, HG9.out, by have := HST.out; omega⟩
              case measure => simp [intOf]; omega
            · rw [if_neg he] at hrs
              obtain ⟨er, her⟩ : ∃ e, Hid (e = S.err) := ⟨_, rfl⟩
              rw [← her.out] at hrs he
              have HC := hid hrs
              clear hrs x2 x7 hl
              go_wp2_with fail
              refine HC.out.mono ?_
              rintro e w5 ⟨rfl, hs⟩
              obtain ⟨F5, Fd5, hg⟩ := HG.out.step hs
              have HG5 := hid hg
              clear hs hg HC HG x0 x1
              have HQ5 := hid HQ.out
              have HRD := hid (gReserved_of _ g gd _ _ w5 HG5.out.r)
              rw [HQ5.out.1] at HRD
              go_wp2_with fail
              refine HRD.out.mono ?_
              rintro e w8 ⟨rfl, hb⟩
              have HG8 := hid (HG5.out.below hb)
              have HCM := hid (gCommitted_of _ g gd _ _ w8 HG8.out.r)
              rw [HQ5.out.2.1] at HCM
              clear hb HRD HG5
              go_wp2_with fail
              refine HCM.out.mono ?_
              rintro e w9 ⟨rfl, hb⟩
              have HG9 := hid (HG8.out.below hb)
              clear hb HCM HG8
              go_wp2_with fail
              go_roundw
              case rel => exact ⟨k + 1, rs, cm, _, _, _, _, by omega, by go_num, by go_num, by go_num, HQ5.out, HG9.out, by have := HST.out; omega⟩
              case measure => simp [intOf]; omega
        by_cases h3 : kd = 3
        · subst h3
          have HC := hid (dFail_of _ gd Fd S wr HG.out.d zz hzw.out)
          have HST : Hid ((S.setFail zz).steps ≤ k) := hid hst
          clear x1 x7
          go_wp2_with fail
          refine HC.out.mono ?_
          rintro e w5 ⟨rfl, hs⟩
          obtain ⟨Fd5, hg⟩ := HG.out.dstep hs
          have HG5 := hid hg
          clear hs hg HC HG
          have HQ5 := hid HQ.out
          have HRD := hid (gReserved_of _ g gd _ _ w5 HG5.out.r)
          rw [HQ5.out.1] at HRD
          go_wp2_with fail
          refine HRD.out.mono ?_
          rintro e w8 ⟨rfl, hb⟩
          have HG8 := hid (HG5.out.below hb)
          have HCM := hid (gCommitted_of _ g gd _ _ w8 HG8.out.r)
          rw [HQ5.out.2.1] at HCM
          clear hb HRD HG5
          go_wp2_with fail
          refine HCM.out.mono ?_
          rintro e w9 ⟨rfl, hb⟩
          have HG9 := hid (HG8.out.below hb)
          clear hb HCM HG8
          go_wp2_with fail
          go_roundw
          case rel => exact ⟨k + 1, rs, cm, _, _, _, _, by omega, by go_num, by go_num, by go_num, HQ5.out, HG9.out, by have := HST.out; omega⟩
          case measure => simp [intOf]; omega
        by_cases h4 : kd = 4
        · subst h4
          have HC := hid (dCut_of _ gd Fd S wr HG.out.d zz hzw.out)
          have HST : Hid ((S.setCut zz).steps ≤ k) := hid hst
          clear x1 x7
          go_wp2_with fail
          refine HC.out.mono ?_
          rintro e w5 ⟨rfl, hs⟩
          obtain ⟨Fd5, hg⟩ := HG.out.dstep hs
          have HG5 := hid hg
          clear hs hg HC HG
          have HQ5 := hid HQ.out
          have HRD := hid (gReserved_of _ g gd _ _ w5 HG5.out.r)
          rw [HQ5.out.1] at HRD
          go_wp2_with fail
          refine HRD.out.mono ?_
          rintro e w8 ⟨rfl, hb⟩
          have HG8 := hid (HG5.out.below hb)
          have HCM := hid (gCommitted_of _ g gd _ _ w8 HG8.out.r)
          rw [HQ5.out.2.1] at HCM
          clear hb HRD HG5
          go_wp2_with fail
          refine HCM.out.mono ?_
          rintro e w9 ⟨rfl, hb⟩
          have HG9 := hid (HG8.out.below hb)
          clear hb HCM HG8
          go_wp2_with fail
          go_roundw
          case rel => exact ⟨k + 1, rs, cm, _, _, _, _, by omega, by go_num, by go_num, by go_num, HQ5.out, HG9.out, by have := HST.out; omega⟩
          case measure => simp [intOf]; omega
        have HC := hid (dCrash_of _ gd Fd S wr HG.out.d pm dm nm (F7 k).2.2 (by rw [hf.out.1]; exact (HF7.out k hkl).1.below' HG.out.b) (HF7.out k hkl).2.1 hf.out.2.1.symm (by rw [hf.out.2.1, hf.out.2.2]; exact (HF7.out k hkl).2.2.1) (by rw [hf.out.2.1]; exact (HF7.out k hkl).2.2.2) (fun a' ha hn h => by have h8 := (HG.out.d.lt _ h).1; have h9 := bin_lt (by rw [hf.out.1] at ha; exact (HF7.out k hkl).1) (by rw [← hf.out.1]; exact ha) (by rw [← hf.out.2.1]; exact hn); omega))
        have HST : Hid ((S.crash ((F7 k).2.2.map Int.toNat)).steps ≤ k) := hid hst
        clear x1 x2
        go_wp2_with fail
        refine HC.out.mono ?_
        rintro e w5 ⟨rfl, hs⟩
        obtain ⟨Fd5, hg⟩ := HG.out.dstep hs
        have HG5 := hid hg
        clear hs hg HC HG
        have HQ5 := hid HQ.out
        have HRD := hid (gReserved_of _ g gd _ _ w5 HG5.out.r)
        rw [HQ5.out.1] at HRD
        go_wp2_with fail
        refine HRD.out.mono ?_
        rintro e w8 ⟨rfl, hb⟩
        have HG8 := hid (HG5.out.below hb)
        have HCM := hid (gCommitted_of _ g gd _ _ w8 HG8.out.r)
        rw [HQ5.out.2.1] at HCM
        clear hb HRD HG5
        go_wp2_with fail
        refine HCM.out.mono ?_
        rintro e w9 ⟨rfl, hb⟩
        have HG9 := hid (HG8.out.below hb)
        clear hb HCM HG8
        go_wp2_with fail
        go_roundw
        case rel => exact ⟨k + 1, rs, cm, _, _, _, _, by omega, by go_num, by go_num, by go_num, HQ5.out, HG9.out, by have := HST.out; omega⟩
        case measure => simp [intOf]; omega
      · obtain rfl : k = len := by omega
        have kI : ¬ (k : Int) < (k : Int) := by omega
        go_wp2_with fail
        refine (known9_any wr).mono ?_
        rintro e w5 ⟨rfl, hb⟩
        have HB := hid (HG.out.b.trans (hb.mono HG.out.s))
        clear hb
        go_wp2
        go_ret
        exact ⟨rfl, HB.out⟩
end Go.Proofs.Ytlbhoijjbpjmoaa
