/-
  The program's registers: their calls.
-/
import Derived.Test.YtlbhoijjbpjmoaaPrv
namespace Go.Proofs.Ytlbhoijjbpjmoaa
open Go.RowKit
set_option linter.unusedVariables false
set_option linter.unusedSimpArgs false

section
variable {B g gd : Nat} {F Fd : Nat → Prop} {R : Rst} {S : Dst} {w w' : World} {p : Option Addr} {c : Nat} {L : List (List Int)} {x : List Int}
theorem PRg.res (h : PRg B w g F gd R) (y : Nat) (ho : Rst.ok { R with res := y }) : PRg B (w.setCell ⟨g, 2, none⟩ (.int .u64 (y : Nat))) g F gd { R with res := y } := by
  obtain ⟨p, c, hv, hf⟩ := h.stand
  have ht : Tb (fun q => q = g) w (w.setCell ⟨g, 2, none⟩ (.int .u64 (y : Nat))) := Tb.setCell (F := fun q => q = g) (b := g) (Tb.refl _ w) (.inl rfl) 2 _
  have hv' := hv.num 2 (by decide) (.int .u64 (y : Nat)) y R.com p c R.draws (by decide) rfl rfl rfl hv.dr
  exact ⟨hv'.lt, h.fg, ho, p, c, hv', hf.frame hv.dr fun q hq hl => ⟨ht.cell hl hq.2, ht.frozen hl hq.2⟩⟩
theorem PRg.com (h : PRg B w g F gd R) (y : Nat) (ho : Rst.ok { R with com := y }) : PRg B (w.setCell ⟨g, 3, none⟩ (.int .u64 (y : Nat))) g F gd { R with com := y } := by
  obtain ⟨p, c, hv, hf⟩ := h.stand
  have ht : Tb (fun q => q = g) w (w.setCell ⟨g, 3, none⟩ (.int .u64 (y : Nat))) := Tb.setCell (F := fun q => q = g) (b := g) (Tb.refl _ w) (.inl rfl) 3 _
  have hv' := hv.num 3 (by decide) (.int .u64 (y : Nat)) R.res y p c R.draws (by decide) rfl rfl rfl hv.dr
  exact ⟨hv'.lt, h.fg, ho, p, c, hv', hf.frame hv.dr fun q hq hl => ⟨ht.cell hl hq.2, ht.frozen hl hq.2⟩⟩
/-- The first row made nil, and left behind. -/
theorem Drs.dropW (h : Drs w F p c (x :: L)) (hf : Fre w p (x :: L)) : ∃ b o pi ci p', p = some ⟨b, o, none⟩ ∧ F b ∧ w.cell? ⟨b, o, none⟩ = some (.slice pi x.length ci) ∧ w.frozen? ⟨b, o, none⟩ = false ∧ x.length ≤ ci ∧ Bin w pi x ∧ Oct x ∧
    (∀ w0, (Instr.sliceAt 23 (.slice p ((L.length + 1 : Nat)) c) (some (.int .i64 1)) none none).run Try.prog w0 = .ok (.slice p' L.length (c - 1)) w0) ∧ Drs (w.setCell ⟨b, o, none⟩ (.slice none 0 0)) F p' (c - 1) L ∧ Fre (w.setCell ⟨b, o, none⟩ (.slice none 0 0)) p' L := by
  obtain ⟨b, o, pi, ci, rfl, h2, h3, h4, h5, h6, h7⟩ := h.2 0 x rfl
  obtain ⟨g1, g2⟩ := hf 0 x rfl b o rfl
  rw [Nat.add_zero] at h3 g1 g2
  have hc : L.length + 1 ≤ c := h.1
  by_cases h1 : c = 1
  · subst h1
    obtain rfl : L = [] := List.length_eq_zero_iff.1 (by omega)
    exact ⟨b, o, pi, ci, some ⟨b, o, none⟩, rfl, h2, h3, g1, h4, h5, h6, fun w0 => by go_simp, Drs.nil _ _ _ _, fun i x hx => by simp at hx⟩
  · refine ⟨b, o, pi, ci, some ⟨b, o + 1, none⟩, rfl, h2, h3, g1, h4, h5, h6, fun w0 => ?_, ⟨by omega, fun i y hy => ?_⟩, fun i y hy b' o' e => ?_⟩
    · have i1 : (1 : Int) ≤ ((L.length + 1 : Nat) : Int) := by omega
      have i2 : (1 : Int) ≤ (c : Int) := by omega
      generalize L.length = n at *
      have i3 : ¬ (n : Int) + 1 < 1 := by omega
      go_simp
    · obtain ⟨b', o', pi', ci', e, j2, j3, j4, j5, j6, j7⟩ := h.2 (i + 1) y (by simpa using hy)
      injection e with e1
      injection e1 with e2 e3 _
      subst e2
      subst e3
      have hne := (hf (i + 1) y (by simpa using hy) b o rfl).2 _ _ _ j3
      refine ⟨b, o + 1, pi', ci', rfl, j2, ?_, j4, fun hn => ?_, j6, j7⟩
      · rw [World.cell?_setCell_other w _ _ _ (fun e0 => by have := (Addr.mk.inj e0).2.1; omega), show o + 1 + i = o + (i + 1) from by omega]
        exact j3
      · obtain ⟨b2, o2, e4, hlt, hcc⟩ := j5.at hn
        exact ⟨b2, o2, e4, fun k hk => (World.cell?_setCell_other w _ _ _ (fun e0 => hne _ e4 (Addr.mk.inj e0).1.symm)).trans (hcc k hk)⟩
    · injection e with e1
      injection e1 with e2 e3 _
      subst e2
      subst e3
      obtain ⟨k1, k2⟩ := hf (i + 1) y (by simpa using hy) b o rfl
      rw [show o + 1 + i = o + (i + 1) from by omega]
      refine ⟨(World.frozen?_setCell w _ _ _).trans k1, fun pi' n' ci' hcl => k2 pi' n' ci' ?_⟩
      rw [World.cell?_setCell_other w _ _ _ (fun e0 => by have := (Addr.mk.inj e0).2.1; omega)] at hcl
      exact hcl
end

section
variable (B g gd : Nat) (F Fd : Nat → Prop) (R : Rst) (S : Dst) (w : World)
set_option maxHeartbeats 8000000 in
set_option maxRecDepth 100000 in
theorem gReserve_of (h : PRg B w g F gd R) (hd : PDk B w gd Fd S) (hdis : ∀ q, F q → ¬ Fd q) (hs : S.steps < 9223372036854775807) :
    Calls Try.prog 14 #[.pointer (some ⟨g, 0, none⟩)] w fun e w' => e = .returned (.tuple #[.int .u64 (R.resV S : Nat), .int .i64 (R.resE S)]) ∧ PRstep B w g F gd Fd (R.resR S) (R.resS S) w' := by
  have hok := Rst.ok_res h.ok S
  have hlim := h.ok.lim
  have hres := h.ok.res
  have HP := hid h
  have HLT := hid h.lt
  obtain ⟨p, c, hv, _⟩ := h.stand
  have c0 := hv.c0
  have c1 := hv.c1
  have c2 := hv.c2
  have HD := hid hd
  have HDI := hid hdis
  have hst := fun W (h : PDk B W gd Fd S) => dStep_of B gd Fd S W h hs
  clear hv hd hdis h
  obtain ⟨lim, res, com, draws⟩ := R
  simp only at c1 c2 hok hlim hres
  unfold Rst.resV Rst.resE Rst.resR Rst.resS
  unfold Rst.resR at hok
  simp only at hok ⊢
  by_cases h1 : res = lim
  · rw [if_pos h1] at hok
    rw [if_pos h1, if_pos h1, if_pos h1, if_pos h1]
    subst h1
    clear hok hst
    go_enter Try.func14, Try.ntmps14
    go_upto_region 3 with fail
    go_quiet (fail)
    go_wp2
    go_ret2
    have hb := below_drewN (Below.refl w.heap.size w)
    exact ⟨rfl, F, Fd, HP.out.below (hb _), HD.out.below (hb _), HDI.out, Tb.of_below (hb _), fun q hq => .inl hq, fun q hq => .inl hq⟩
  · rw [if_neg h1] at hok
    rw [if_neg h1, if_neg h1, if_neg h1, if_neg h1]
    have hlt : ¬ (res : Int) = (lim : Int) := by omega
    by_cases he : S.err = 0
    · rw [if_pos he] at hok
      rw [if_pos he, if_pos he]
      rw [he] at hst ⊢
      have HO := hid hok
      have i1 : IntKind.u64.wrap ((res : Int) + 1) = (res : Int) + 1 := by simp [IntKind.wrap, IntKind.signed, IntKind.bits]; omega
      have HST := hid hst
      clear hok he hst
      go_enter Try.func14, Try.ntmps14
      go_upto_region 3 with fail
      go_quiet (fail)
      go_wp2_with fail
      refine (HST.out _ (HD.out.below (below_drewN (Below.refl w.heap.size w) _))).mono ?_
      rintro e w1 ⟨rfl, Fd1, hr1, ht1, hn1⟩
      have hp1 := (HP.out.below (below_drewN (Below.refl w.heap.size w) _)).tb ht1 HDI.out
      obtain ⟨p1, cc1, hv1, _⟩ := hp1.stand
      have c2 := hv1.c2
      have z2 := hv1.z 2 (by decide)
      simp only at c2
      have HV2 := hid (hp1.res (res + 1) HO.out)
      have HN : Hid (∀ q, Fd1 q → Fd q ∨ w.heap.size ≤ q) := hid hn1
      have HDJ : Hid (∀ q, F q → ¬ Fd1 q) := hid (fun q hq h2 => by
        rcases hn1 q h2 with h3 | h3
        · exact HDI.out q hq h3
        · exact absurd (HLT.out q hq).2 (Nat.not_lt.2 h3))
      have HR2 := hid (hr1.tb (F' := fun q => q = g) (Tb.setCell (F := fun q => q = g) (b := g) (Tb.refl _ w1) (.inl rfl) 2 (.int .u64 ((res + 1 : Nat) : Int))) (fun q hq e => HDJ.out g HP.out.fg (e ▸ hq)))
      have HT2 := hid (((Tb.of_below (F := fun q => F q ∨ Fd q) (below_drewN (Below.refl w.heap.size w) _)).trans (w2 := w1) ht1 (fun q _ hq => .inr hq)).setCell (b := g) (.inl (.inl HP.out.fg)) 2 (.int .u64 ((res + 1 : Nat) : Int)))
      clear hr1 ht1 hn1 hv1 hp1 c0 c1
      go_wp2
      go_ret2
      exact ⟨rfl, F, Fd1, HV2.out, HR2.out, HDJ.out, HT2.out, fun q hq => .inl hq, HN.out⟩
    · rw [if_neg he] at hok
      rw [if_neg he, if_neg he]
      obtain ⟨er, her⟩ : ∃ e, Hid (e = S.err) := ⟨_, rfl⟩
      rw [← her.out] at he hst ⊢
      have HST := hid hst
      clear hok hst
      go_enter Try.func14, Try.ntmps14
      go_upto_region 3 with fail
      go_quiet (fail)
      go_wp2_with fail
      refine (HST.out _ (HD.out.below (below_drewN (Below.refl w.heap.size w) _))).mono ?_
      rintro e w1 ⟨rfl, Fd1, hr1, ht1, hn1⟩
      have HV2 := hid ((HP.out.below (below_drewN (Below.refl w.heap.size w) _)).tb ht1 HDI.out)
      have HN : Hid (∀ q, Fd1 q → Fd q ∨ w.heap.size ≤ q) := hid hn1
      have HDJ : Hid (∀ q, F q → ¬ Fd1 q) := hid (fun q hq h2 => by
        rcases hn1 q h2 with h3 | h3
        · exact HDI.out q hq h3
        · exact absurd (HLT.out q hq).2 (Nat.not_lt.2 h3))
      have HR2 := hid hr1
      have HT2 := hid ((Tb.of_below (F := fun q => F q ∨ Fd q) (below_drewN (Below.refl w.heap.size w) _)).trans (w2 := w1) ht1 (fun q _ hq => .inr hq))
      clear hr1 ht1 hn1 c0 c1 c2
      go_wp2
      go_ret2
      exact ⟨rfl, F, Fd1, HV2.out, HR2.out, HDJ.out, HT2.out, fun q hq => .inl hq, HN.out⟩
set_option maxHeartbeats 8000000 in
set_option maxRecDepth 100000 in
theorem gAdvance_of (h : PRg B w g F gd R) (hd : PDk B w gd Fd S) (hdis : ∀ q, F q → ¬ Fd q) (hs : S.steps < 9223372036854775807) (n : Nat) (hn : n ≤ 18446744073709551615) :
    Calls Try.prog 16 #[.pointer (some ⟨g, 0, none⟩), .int .u64 (n : Nat)] w fun e w' => e = .returned (.int .i64 (R.advE S n)) ∧ PRstep B w g F gd Fd (R.advR S n) (R.advS S n) w' := by
  have hok := Rst.ok_adv h.ok S n
  have HP := hid h
  have HLT := hid h.lt
  obtain ⟨p, c, hv, _⟩ := h.stand
  have c0 := hv.c0
  have c2 := hv.c2
  have c3 := hv.c3
  have HD := hid hd
  have HDI := hid hdis
  have hst := fun W (h : PDk B W gd Fd S) => dStep_of B gd Fd S W h hs
  clear hv hd hdis h
  obtain ⟨lim, res, com, draws⟩ := R
  simp only at c2 c3 hok
  unfold Rst.advE Rst.advR Rst.advS
  unfold Rst.advR at hok
  simp only at hok ⊢
  by_cases h1 : n ≤ com ∨ res < n
  · rw [if_pos h1] at hok
    rw [if_pos h1, if_pos h1, if_pos h1]
    have post : ∀ w', w' = w → PRstep B w g F gd Fd ⟨lim, res, com, draws⟩ S w' := fun w' e => (by rw [e]; exact ⟨F, Fd, HP.out, HD.out, HDI.out, Tb.refl _ _, fun q hq => .inl hq, fun q hq => .inl hq⟩)
    have HQ := hid post
    clear hok hst post
    by_cases h2 : n ≤ com
    · have i1 : (n : Int) ≤ (com : Int) := by omega
      clear h1 h2
      go_enter Try.func16, Try.ntmps16
      go_wp2
      go_ret
      exact ⟨rfl, HQ.out _ rfl⟩
    · have i1 : ¬ (n : Int) ≤ (com : Int) := by omega
      have i2 : (res : Int) < (n : Int) := by omega
      clear h1 h2
      go_enter Try.func16, Try.ntmps16
      go_wp2
      go_ret
      exact ⟨rfl, HQ.out _ rfl⟩
  · rw [if_neg h1] at hok
    rw [if_neg h1, if_neg h1, if_neg h1]
    have i1 : ¬ (n : Int) ≤ (com : Int) := by omega
    have i2 : ¬ (res : Int) < (n : Int) := by omega
    clear h1
    by_cases he : S.err = 0
    · rw [if_pos he] at hok
      rw [if_pos he]
      rw [he] at hst ⊢
      have HO := hid hok
      have HST := hid hst
      clear hok he hst
      go_enter Try.func16, Try.ntmps16
      go_wp2_with fail
      refine (HST.out _ HD.out).mono ?_
      rintro e w1 ⟨rfl, Fd1, hr1, ht1, hn1⟩
      have hp1 := HP.out.tb ht1 HDI.out
      obtain ⟨p1, cc1, hv1, _⟩ := hp1.stand
      have c3 := hv1.c3
      have z3 := hv1.z 3 (by decide)
      simp only at c3
      have HV2 := hid (hp1.com n HO.out)
      have HN := hid hn1
      have HDJ : Hid (∀ q, F q → ¬ Fd1 q) := hid (fun q hq h2 => by
        rcases hn1 q h2 with h3 | h3
        · exact HDI.out q hq h3
        · exact absurd (HLT.out q hq).2 (Nat.not_lt.2 h3))
      have HR2 := hid (hr1.tb (F' := fun q => q = g) (Tb.setCell (F := fun q => q = g) (b := g) (Tb.refl _ w1) (.inl rfl) 3 (.int .u64 (n : Nat))) (fun q hq e => HDJ.out g HP.out.fg (e ▸ hq)))
      have HT2 := hid ((ht1.mono (F := fun q => F q ∨ Fd q) (fun q _ hq => .inr hq)).setCell (b := g) (.inl (.inl HP.out.fg)) 3 (.int .u64 (n : Nat)))
      clear hr1 ht1 hn1 hv1 hp1 c0 c2
      go_wp2
      go_ret
      exact ⟨rfl, F, Fd1, HV2.out, HR2.out, HDJ.out, HT2.out, fun q hq => .inl hq, HN.out⟩
    · rw [if_neg he] at hok
      rw [if_neg he]
      obtain ⟨er, her⟩ : ∃ e, Hid (e = S.err) := ⟨_, rfl⟩
      rw [← her.out] at he hst ⊢
      have HST := hid hst
      clear hok hst
      go_enter Try.func16, Try.ntmps16
      go_wp2_with fail
      refine (HST.out _ HD.out).mono ?_
      rintro e w1 ⟨rfl, Fd1, hr1, ht1, hn1⟩
      have HV2 := hid (HP.out.tb ht1 HDI.out)
      have HN := hid hn1
      have HDJ : Hid (∀ q, F q → ¬ Fd1 q) := hid (fun q hq h2 => by
        rcases hn1 q h2 with h3 | h3
        · exact HDI.out q hq h3
        · exact absurd (HLT.out q hq).2 (Nat.not_lt.2 h3))
      have HR2 := hid hr1
      have HT2 := hid (ht1.mono (F := fun q => F q ∨ Fd q) (fun q _ hq => .inr hq))
      clear hr1 ht1 hn1 c0 c2 c3
      go_wp2
      go_ret
      exact ⟨rfl, F, Fd1, HV2.out, HR2.out, HDJ.out, HT2.out, fun q hq => .inl hq, HN.out⟩
set_option maxHeartbeats 8000000 in
set_option maxRecDepth 100000 in
theorem gDraw_of (h : PRg B w g F gd R) (z : Int) (hz : (Lit.int .i64 z).wf = true) :
    Calls Try.prog 18 #[.pointer (some ⟨g, 0, none⟩), .int .i64 z] w fun e w' => ∃ v, e = .returned (.tuple #[v, .int .i64 (R.drE z)]) ∧ PRdraw B w g F gd (R.drR z) v (R.drL z) w' := by
  have hok := Rst.ok_dr h.ok z
  have HP := hid h
  have HLT := hid h.lt
  obtain ⟨p, c, hv, hf⟩ := h.stand
  have c4 := hv.c4
  have HV := hid hv
  have HF := hid hf
  clear hv hf h
  obtain ⟨lim, res, com, draws⟩ := R
  simp only at c4 hok HV HF
  unfold Rst.drE Rst.drL Rst.drR
  unfold Rst.drR at hok
  simp only at hok ⊢
  have post : ∀ w', w' = w → PRdraw B w g F gd ⟨lim, res, com, draws⟩ (.slice none 0 0) [] w' := fun w' e => (by rw [e]; exact ⟨F, HP.out, Tb.refl _ _, fun q hq => .inl hq, Ort.nil _ _, fun q e => (by cases e)⟩)
  have HQ := hid post
  clear post
  by_cases h1 : z < 1 ∨ 64 < z
  · rw [if_pos h1, if_pos h1, if_pos h1]
    clear hok
    by_cases h2 : z < 1
    · clear h1
      go_enter Try.func18, Try.ntmps18
      go_wp2
      go_ret2
      exact ⟨_, rfl, HQ.out _ rfl⟩
    · have i2 : 64 < z := by omega
      clear h1
      go_enter Try.func18, Try.ntmps18
      go_wp2
      go_ret2
      exact ⟨_, rfl, HQ.out _ rfl⟩
  · rw [if_neg h1] at hok
    rw [if_neg h1, if_neg h1, if_neg h1]
    have i1 : ¬ z < 1 := by omega
    have i2 : ¬ 64 < z := by omega
    clear h1
    cases draws with
    | nil =>
      clear hok
      rw [List.length_nil] at c4
      go_enter Try.func18, Try.ntmps18
      go_wp2
      go_ret2
      exact ⟨_, rfl, HQ.out _ rfl⟩
    | cons x L =>
      obtain ⟨b, o, pi, ci, p0, rfl, hb2, hcx, hfx, hxc, hbx, hox, hsl, _, _⟩ := HV.out.dr.dropW HF.out
      rw [List.length_cons] at c4
      have hcL := HV.out.dr.1
      rw [List.length_cons] at hcL
      obtain ⟨m, hm⟩ : ∃ m, Hid (m = x.length) := ⟨_, rfl⟩
      obtain ⟨l, hl⟩ : ∃ m, Hid (m = L.length) := ⟨_, rfl⟩
      simp only at hok ⊢
      rw [← hm.out] at hcx hxc hok ⊢
      rw [← hl.out] at c4 hsl hcL
      have i3 : ¬ ((l + 1 : Nat) : Int) = 0 := by omega
      have i4 : (0 : Int) < ((l + 1 : Nat) : Int) := by omega
      by_cases h3 : (m : Int) < z
      · rw [if_pos h3, if_pos h3, if_pos h3]
        clear hok hsl hbx
        go_enter Try.func18, Try.ntmps18
        go_wp2
        go_ret2
        exact ⟨_, rfl, HQ.out _ rfl⟩
      · rw [if_neg h3] at hok
        rw [if_neg h3, if_neg h3, if_neg h3]
        have HO := hid hok
        obtain ⟨t, rfl⟩ : ∃ t : Nat, z = (t : Int) := ⟨z.toNat, by omega⟩
        rw [Int.toNat_natCast]
        have htm : t ≤ m := by omega
        have ht1 : 1 ≤ t := by omega
        have ht64 : t ≤ 64 := by omega
        have i5 : (t : Int) ≤ (m : Int) := by omega
        have hml : t ≤ x.length := by rw [← hm.out]; exact htm
        have hlen : (x.take t).length = t := by rw [List.length_take]; omega
        have hbt : Bin w pi (x.take t) := fun hn => by
          obtain ⟨b', o', e, _, hcc⟩ := hbx.at (by omega)
          refine ⟨b', o', e, fun j hj => ?_⟩
          rw [hcc j (by omega), List.getD_eq_getElem?_getD, List.getD_eq_getElem?_getD, List.getElem?_take, if_pos (by omega)]
        have HCP := hid (clone_of pi ci t (x.take t) w hbt hlen (by omega))
        have HL := hid hlen
        have htc : t ≤ ci := by omega
        have i6 : (t : Int) ≤ (ci : Int) := by omega
        clear hok hbx hbt hml hlen hsl
        go_enter Try.func18, Try.ntmps18
        go_upto_region 8 with (refine HCP.out.mono ?_; rintro e w1 ⟨v1, rfl, hO1, hb1⟩)
        have hv1 := HV.out.tb (F' := fun _ => False) (Tb.of_below hb1) fun _ _ h => h
        have hf1 := HF.out.frame HV.out.dr fun q hq hl => ⟨(Tb.of_below (F := fun _ => False) hb1).cell hl (fun h => h), (Tb.of_below (F := fun _ => False) hb1).frozen hl (fun h => h)⟩
        obtain ⟨b', o', pi', ci', p', e', hb3, hcx, hfx, _, _, _, hsl, hdr, hfr⟩ := hv1.dr.dropW hf1
        injection e' with e1
        injection e1 with e2 e3 _
        subst e2
        subst e3
        rw [← hm.out] at hcx
        rw [← hl.out] at hsl
        have c4 := hv1.c4
        rw [List.length_cons, ← hl.out] at c4
        have z4 := hv1.z 4 (by decide)
        have hbg : ¬ g = b := fun e => hb3.2 e.symm
        have t1 : Tb (fun q => q = b) w1 (w1.setCell ⟨b, o, none⟩ (.slice none 0 0)) := Tb.setCell (F := fun q => q = b) (b := b) (Tb.refl _ w1) (.inl rfl) o _
        have t2 : Tb (fun q => q = g) (w1.setCell ⟨b, o, none⟩ (.slice none 0 0)) ((w1.setCell ⟨b, o, none⟩ (.slice none 0 0)).setCell ⟨g, 4, none⟩ (.slice p' l (c - 1))) := Tb.setCell (F := fun q => q = g) (b := g) (Tb.refl _ _) (.inl rfl) 4 _
        have hgc : ∀ j, (w1.setCell ⟨b, o, none⟩ (.slice none 0 0)).cell? ⟨g, j, none⟩ = w1.cell? ⟨g, j, none⟩ := fun j => t1.cell (p := ⟨g, j, none⟩) (hv1.lt g hv1.fg).2 hbg
        have hgz : ∀ j, (w1.setCell ⟨b, o, none⟩ (.slice none 0 0)).frozen? ⟨g, j, none⟩ = w1.frozen? ⟨g, j, none⟩ := fun j => t1.frozen (p := ⟨g, j, none⟩) (hv1.lt g hv1.fg).2 hbg
        have hvm : RRv B (w1.setCell ⟨b, o, none⟩ (.slice none 0 0)) g F gd p' (c - 1) lim res com L → True := fun _ => trivial
        have hlt3 : ∀ q, F q → B ≤ q ∧ q < ((w1.setCell ⟨b, o, none⟩ (.slice none 0 0)).setCell ⟨g, 4, none⟩ (.slice p' l (c - 1))).heap.size := fun q hq => ⟨(hv1.lt q hq).1, Nat.lt_of_lt_of_le (hv1.lt q hq).2 (Nat.le_trans t1.size t2.size)⟩
        have hoth : ∀ j u, j ≠ 4 → w1.cell? ⟨g, j, none⟩ = some u → ((w1.setCell ⟨b, o, none⟩ (.slice none 0 0)).setCell ⟨g, 4, none⟩ (.slice p' l (c - 1))).cell? ⟨g, j, none⟩ = some u := fun j u hj hu => (World.cell?_setCell_other _ _ _ _ (fun e0 => hj (Addr.mk.inj e0).2.1.symm)).trans ((hgc j).trans hu)
        have hV3 : RRv B ((w1.setCell ⟨b, o, none⟩ (.slice none 0 0)).setCell ⟨g, 4, none⟩ (.slice p' l (c - 1))) g F gd p' (c - 1) lim res com L :=
          ⟨hoth 0 _ (by decide) hv1.c0, hoth 1 _ (by decide) hv1.c1, hoth 2 _ (by decide) hv1.c2, hoth 3 _ (by decide) hv1.c3, by rw [← hl.out]; exact World.cell?_setCell_same _ _ _ ((hgc 4).trans hv1.c4), fun j hj => (World.frozen?_setCell _ _ _ _).trans ((hgz j).trans (hv1.z j hj)), hdr.frame fun q hq hq2 => t2.cell hq2 hq.2, hv1.fg, hlt3⟩
        have HG := hid (show PRg B ((w1.setCell ⟨b, o, none⟩ (.slice none 0 0)).setCell ⟨g, 4, none⟩ (.slice p' l (c - 1))) g F gd ⟨lim, res, com, L⟩ from ⟨hlt3, hv1.fg, HO.out, p', c - 1, hV3, hfr.frame hdr fun q hq hq2 => ⟨t2.cell hq2 hq.2, t2.frozen hq2 hq.2⟩⟩)
        have hnew : ∀ q, v1.ownBlock = some q → w.heap.size ≤ q := fun q hq => (World.ownsRow.lt hO1 q hq).1
        have HNF : Hid (∀ q, v1.ownBlock = some q → (F q ∨ w.heap.size ≤ q) ∧ ¬ F q) := hid fun q hq => ⟨.inr (hnew q hq), fun hF => absurd (HLT.out q hF).2 (Nat.not_lt.2 (hnew q hq))⟩
        have HO2 := hid ((((hO1.tb t1 (fun q hq e => (HNF.out q hq).2 (e ▸ hb3.1))).tb t2 (fun q hq e => (HNF.out q hq).2 (e ▸ HP.out.fg))).mono (Nat.le_of_lt (Nat.lt_of_le_of_lt (HLT.out g HP.out.fg).1 (HLT.out g HP.out.fg).2))).ort)
        have HT2 := hid (((Tb.of_below (F := F) hb1).setCell (b := b) (.inl hb3.1) o (.slice none 0 0)).setCell (b := g) (.inl HP.out.fg) 4 (.slice p' l (c - 1)))
        have c4' := (hgc 4).trans c4
        have z4' := (hgz 4).trans z4
        clear hO1 hb1 hv1 hf1 HCP hdr hfr t1 t2 hgc hgz hvm hlt3 hoth hV3 hnew hb3 hb2
        go_wp2
        go_ret2
        exact ⟨_, rfl, F, HG.out, HT2.out, fun q hq => .inl hq, by rw [HL.out]; exact HO2.out, HNF.out⟩
set_option maxHeartbeats 8000000 in
set_option maxRecDepth 100000 in
theorem gReserved_of (h : PRg B w g F gd R) : Calls Try.prog 22 #[.pointer (some ⟨g, 0, none⟩)] w fun e w' => e = .returned (.int .u64 (R.res : Nat)) ∧ Below w.heap.size w w' := by
  obtain ⟨p, c, hv, _⟩ := h.stand
  have cc := hv.c2
  clear hv h
  obtain ⟨m, hm⟩ : ∃ m, Hid (m = R.res) := ⟨_, rfl⟩
  rw [← hm.out] at cc ⊢
  go_enter Try.func22, Try.ntmps22
  go_wp2
  go_ret
  exact ⟨rfl, Below.refl _ _⟩
set_option maxHeartbeats 8000000 in
set_option maxRecDepth 100000 in
theorem gCommitted_of (h : PRg B w g F gd R) : Calls Try.prog 23 #[.pointer (some ⟨g, 0, none⟩)] w fun e w' => e = .returned (.int .u64 (R.com : Nat)) ∧ Below w.heap.size w w' := by
  obtain ⟨p, c, hv, _⟩ := h.stand
  have cc := hv.c3
  clear hv h
  obtain ⟨m, hm⟩ : ∃ m, Hid (m = R.com) := ⟨_, rfl⟩
  rw [← hm.out] at cc ⊢
  go_enter Try.func23, Try.ntmps23
  go_wp2
  go_ret
  exact ⟨rfl, Below.refl _ _⟩
set_option maxHeartbeats 8000000 in
set_option maxRecDepth 100000 in
theorem gLeft_of (h : PRg B w g F gd R) : Calls Try.prog 24 #[.pointer (some ⟨g, 0, none⟩)] w fun e w' => e = .returned (.int .i64 (R.draws.length : Nat)) ∧ Below w.heap.size w w' := by
  obtain ⟨p, c, hv, _⟩ := h.stand
  have cc := hv.c4
  clear hv h
  obtain ⟨m, hm⟩ : ∃ m, Hid (m = R.draws.length) := ⟨_, rfl⟩
  rw [← hm.out] at cc ⊢
  go_enter Try.func24, Try.ntmps24
  go_wp2
  go_ret
  exact ⟨rfl, Below.refl _ _⟩
set_option maxHeartbeats 8000000 in
set_option maxRecDepth 100000 in
theorem gReserve_nil : Calls Try.prog 14 #[.pointer none] w fun e w' => e = .returned (.tuple #[.int .u64 0, .int .i64 1]) ∧ Below w.heap.size w w' := by
  go_enter Try.func14, Try.ntmps14
  go_wp2
  go_ret2
  exact ⟨rfl, Below.refl _ _⟩
set_option maxHeartbeats 8000000 in
set_option maxRecDepth 100000 in
theorem gAdvance_nil (n : Int) : Calls Try.prog 16 #[.pointer none, .int .u64 n] w fun e w' => e = .returned (.int .i64 1) ∧ Below w.heap.size w w' := by
  go_enter Try.func16, Try.ntmps16
  go_wp2
  go_ret
  exact ⟨rfl, Below.refl _ _⟩
set_option maxHeartbeats 8000000 in
set_option maxRecDepth 100000 in
theorem gDraw_nil (n : Int) : Calls Try.prog 18 #[.pointer none, .int .i64 n] w fun e w' => e = .returned (.tuple #[.slice none 0 0, .int .i64 1]) ∧ Below w.heap.size w w' := by
  go_enter Try.func18, Try.ntmps18
  go_wp2
  go_ret2
  exact ⟨rfl, Below.refl _ _⟩
set_option maxHeartbeats 8000000 in
set_option maxRecDepth 100000 in
theorem gReserved_nil : Calls Try.prog 22 #[.pointer none] w fun e w' => e = .returned (.int .u64 0) ∧ Below w.heap.size w w' := by
  go_enter Try.func22, Try.ntmps22
  go_wp2
  go_ret
  exact ⟨rfl, Below.refl _ _⟩
set_option maxHeartbeats 8000000 in
set_option maxRecDepth 100000 in
theorem gCommitted_nil : Calls Try.prog 23 #[.pointer none] w fun e w' => e = .returned (.int .u64 0) ∧ Below w.heap.size w w' := by
  go_enter Try.func23, Try.ntmps23
  go_wp2
  go_ret
  exact ⟨rfl, Below.refl _ _⟩
set_option maxHeartbeats 8000000 in
set_option maxRecDepth 100000 in
theorem gLeft_nil : Calls Try.prog 24 #[.pointer none] w fun e w' => e = .returned (.int .i64 0) ∧ Below w.heap.size w w' := by
  go_enter Try.func24, Try.ntmps24
  go_wp2
  go_ret
  exact ⟨rfl, Below.refl _ _⟩
end
end Go.Proofs.Ytlbhoijjbpjmoaa
