/-
  The document's registers: Reserve, Advance, Draw.
-/
import Derived.Test.YtlbhoijjbpjmoaaRs
import Derived.Test.YtlbhoijjbpjmoaaRu
import Derived.Test.YtlbhoijjbpjmoaaRdc
import Derived.Test.YtlbhoijjbpjmoaaKa
namespace Go.Proofs.Ytlbhoijjbpjmoaa
open Go.RowKit
set_option linter.unusedVariables false
set_option linter.unusedSimpArgs false

/-- Five cells at the head of block g: the device, three numbers, the draws. -/
structure RRv (B : Nat) (w : World) (g : Nat) (F : Nat → Prop) (gd : Nat) (p : Option Addr) (c : Nat) (lim res com : Nat) (draws : List (List Int)) : Prop where
  c0 : w.cell? ⟨g, 0, none⟩ = some (.pointer (some ⟨gd, 0, none⟩))
  c1 : w.cell? ⟨g, 1, none⟩ = some (.int .u64 (lim : Nat))
  c2 : w.cell? ⟨g, 2, none⟩ = some (.int .u64 (res : Nat))
  c3 : w.cell? ⟨g, 3, none⟩ = some (.int .u64 (com : Nat))
  c4 : w.cell? ⟨g, 4, none⟩ = some (.slice p draws.length c)
  z : ∀ j, j < 5 → w.frozen? ⟨g, j, none⟩ = false
  dr : Drs w (fun q => F q ∧ q ≠ g) p c draws
  fg : F g
  lt : ∀ q, F q → B ≤ q ∧ q < w.heap.size
/-- The document's registers R, in block g, over the blocks F, beside the device in block gd. -/
def RRg (B : Nat) (w : World) (g : Nat) (F : Nat → Prop) (gd : Nat) (R : Rst) : Prop := R.ok ∧ ∃ p c, RRv B w g F gd p c R.lim R.res R.com R.draws
section
variable {B g gd lim res com c : Nat} {F F' : Nat → Prop} {p : Option Addr} {draws : List (List Int)} {R : Rst} {w w' : World}
theorem RRv.tb (h : RRv B w g F gd p c lim res com draws) (ht : Tb F' w w') (hF : ∀ q, F q → ¬ F' q) : RRv B w' g F gd p c lim res com draws := by
  have hg := (h.lt g h.fg).2
  have hn := hF g h.fg
  have hc : ∀ j, w'.cell? ⟨g, j, none⟩ = w.cell? ⟨g, j, none⟩ := fun j => ht.cell (p := ⟨g, j, none⟩) hg hn
  exact ⟨(hc 0).trans h.c0, (hc 1).trans h.c1, (hc 2).trans h.c2, (hc 3).trans h.c3, (hc 4).trans h.c4, fun j hj => (ht.frozen (p := ⟨g, j, none⟩) hg hn).trans (h.z j hj), h.dr.frame fun q hq hl => ht.cell hl (hF _ hq.1), h.fg, fun q hq => ⟨(h.lt q hq).1, Nat.lt_of_lt_of_le (h.lt q hq).2 ht.size⟩⟩
theorem RRg.tb (h : RRg B w g F gd R) (ht : Tb F' w w') (hF : ∀ q, F q → ¬ F' q) : RRg B w' g F gd R := by
  obtain ⟨ho, p, c, hv⟩ := h
  exact ⟨ho, p, c, hv.tb ht hF⟩
theorem RRg.below (h : RRg B w g F gd R) (hb : Below w.heap.size w w') : RRg B w' g F gd R := h.tb (F' := fun _ => False) (Tb.of_below hb) fun _ _ h => h
theorem RRg.lt (h : RRg B w g F gd R) : ∀ q, F q → B ≤ q ∧ q < w.heap.size := by
  obtain ⟨ho, p, c, hv⟩ := h
  exact hv.lt
theorem RRg.fg (h : RRg B w g F gd R) : F g := by
  obtain ⟨ho, p, c, hv⟩ := h
  exact hv.fg
/-- One cell of the five written. -/
theorem RRv.num (h : RRv B w g F gd p c lim res com draws) (j : Nat) (hj7 : j < 5) (u : Value) (res' com' : Nat) (p' : Option Addr) (c' : Nat) (draws' : List (List Int)) (hj : 2 ≤ j)
    (h2 : some (Value.int .u64 (res' : Nat)) = if j = 2 then some u else some (.int .u64 (res : Nat))) (h3 : some (Value.int .u64 (com' : Nat)) = if j = 3 then some u else some (.int .u64 (com : Nat)))
    (h4 : some (Value.slice p' draws'.length c') = if j = 4 then some u else some (.slice p draws.length c)) (hd : Drs w (fun q => F q ∧ q ≠ g) p' c' draws') :
    RRv B (w.setCell ⟨g, j, none⟩ u) g F gd p' c' lim res' com' draws' := by
  have ht : Tb (fun q => q = g) w (w.setCell ⟨g, j, none⟩ u) := Tb.setCell (F := fun q => q = g) (b := g) (Tb.refl _ w) (.inl rfl) j u
  have hc : ∀ k x, w.cell? ⟨g, k, none⟩ = some x → (w.setCell ⟨g, j, none⟩ u).cell? ⟨g, k, none⟩ = if j = k then some u else some x := fun k x hx => by
    by_cases hk : j = k
    · subst hk
      rw [if_pos rfl]
      exact World.cell?_setCell_same w _ _ hx
    · rw [if_neg hk, World.cell?_setCell_other w _ _ _ (fun e0 => hk (Addr.mk.inj e0).2.1)]
      exact hx
  have no : ∀ k, k < 2 → ¬ j = k := fun k hk => by omega
  exact ⟨(hc 0 _ h.c0).trans (if_neg (no 0 (by decide))), (hc 1 _ h.c1).trans (if_neg (no 1 (by decide))), (hc 2 _ h.c2).trans h2.symm, (hc 3 _ h.c3).trans h3.symm, (hc 4 _ h.c4).trans h4.symm,
    fun k hk => (World.frozen?_setCell w _ _ _).trans (h.z k hk), hd.frame fun q hq hl => ht.cell hl hq.2, h.fg, fun q hq => ⟨(h.lt q hq).1, Nat.lt_of_lt_of_le (h.lt q hq).2 ht.size⟩⟩
end
/-- What a call of the registers leaves: the registers over F', the device over Fd'. -/
def RRstep (B : Nat) (w : World) (g : Nat) (F : Nat → Prop) (gd : Nat) (Fd : Nat → Prop) (R' : Rst) (S' : Dst) (w' : World) : Prop :=
  ∃ Fd', RRg B w' g F gd R' ∧ RDs B w' gd Fd' S' ∧ Tb (fun q => F q ∨ Fd q) w w' ∧ ∀ q, Fd' q → Fd q ∨ w.heap.size ≤ q

section
variable {B g gd : Nat} {F Fd : Nat → Prop} {R : Rst} {S : Dst} {w : World}
set_option maxHeartbeats 8000000 in
set_option maxRecDepth 100000 in
theorem rrReserve_of (h : RRg B w g F gd R) (hd : RDs B w gd Fd S) (hdis : ∀ q, F q → ¬ Fd q) (hs : S.steps < 9223372036854775807) :
    Calls Try.prog 15 #[.pointer (some ⟨g, 0, none⟩)] w fun e w' => e = .returned (.tuple #[.int .u64 (R.resV S : Nat), .int .i64 (R.resE S)]) ∧ RRstep B w g F gd Fd (R.resR S) (R.resS S) w' := by
  have hok := Rst.ok_res h.1 S
  have hlim := h.1.lim
  have hres := h.1.res
  obtain ⟨ho, p, c, hv⟩ := h
  have c0 := hv.c0
  have c1 := hv.c1
  have c2 := hv.c2
  have z2 := hv.z 2 (by decide)
  have HV := hid hv
  have HD := hid hd
  have HDI := hid hdis
  have hst := fun W (h : RDs B W gd Fd S) => rStep_of B gd Fd S W h hs
  clear hv hd hdis
  obtain ⟨lim, res, com, draws⟩ := R
  simp only at c1 c2 HV hok hlim hres
  unfold Rst.resV Rst.resE Rst.resR Rst.resS
  unfold Rst.resR at hok
  simp only at hok ⊢
  by_cases h1 : res = lim
  · rw [if_pos h1] at hok
    rw [if_pos h1, if_pos h1, if_pos h1, if_pos h1]
    subst h1
    have hge : decide ((res : Int) ≤ (res : Int)) = true := decide_eq_true (Int.le_refl _)
    have HO := hid hok
    clear hok hst ho
    go_enter Try.func15, Try.ntmps15
    go_upto_region 1 with fail
    go_quiet (fail)
    go_wp2
    go_ret2
    have hb := below_drewN (Below.refl w.heap.size w)
    exact ⟨rfl, Fd, ⟨HO.out, p, c, HV.out.tb (F' := fun _ => False) (Tb.of_below (hb _)) fun _ _ h => h⟩, HD.out.below (hb _), Tb.of_below (hb _), fun q hq => .inl hq⟩
  · rw [if_neg h1] at hok
    rw [if_neg h1, if_neg h1, if_neg h1, if_neg h1]
    have hlt : ¬ (lim : Int) ≤ (res : Int) := by omega
    by_cases he : S.err = 0
    · rw [if_pos he] at hok
      rw [if_pos he, if_pos he]
      rw [he] at hst ⊢
      have HO := hid hok
      have i1 : IntKind.u64.wrap ((res : Int) + 1) = (res : Int) + 1 := by simp [IntKind.wrap, IntKind.signed, IntKind.bits]; omega
      have HST := hid hst
      clear hok he ho hst
      go_enter Try.func15, Try.ntmps15
      go_upto_region 1 with fail
      go_quiet (fail)
      go_wp2_with fail
      refine (HST.out _ (HD.out.drewN _)).mono ?_
      rintro e w1 ⟨rfl, Fd1, hr1, ht1, hn1⟩
      have hv1 := (HV.out.tb (F' := fun _ => False) (Tb.of_below (below_drewN (Below.refl w.heap.size w) _)) fun _ _ h => h).tb ht1 HDI.out
      have c2 := hv1.c2
      have z2 := hv1.z 2 (by decide)
      have HV2 := hid (hv1.num 2 (by decide) (.int .u64 ((res + 1 : Nat) : Int)) (res + 1) com p c draws (by decide) rfl rfl rfl hv1.dr)
      have HR2 := hid (hr1.tb (F' := fun q => q = g) (Tb.setCell (F := fun q => q = g) (b := g) (Tb.refl _ w1) (.inl rfl) 2 (.int .u64 ((res + 1 : Nat) : Int))) (fun q hq e => by
        rcases hn1 q hq with h2 | h2
        · exact HDI.out g HV.out.fg (e ▸ h2)
        · have := (HV.out.lt g HV.out.fg).2
          rw [e] at h2
          exact absurd this (Nat.not_lt.2 h2)))
      have HT2 := hid (((Tb.of_below (F := fun q => F q ∨ Fd q) (below_drewN (Below.refl w.heap.size w) _)).trans (w2 := w1) ht1 (fun q _ hq => .inr hq)).setCell (b := g) (.inl (.inl HV.out.fg)) 2 (.int .u64 ((res + 1 : Nat) : Int)))
      have HN := hid hn1
      clear hr1 ht1 hn1 hv1 c0 c1
      go_wp2
      go_ret2
      exact ⟨rfl, Fd1, ⟨HO.out, p, c, HV2.out⟩, HR2.out, HT2.out, fun q hq => HN.out q hq⟩
    · rw [if_neg he] at hok
      rw [if_neg he, if_neg he]
      obtain ⟨er, her⟩ : ∃ e, Hid (e = S.err) := ⟨_, rfl⟩
      rw [← her.out] at he hst ⊢
      have HO := hid hok
      have HST := hid hst
      clear hok ho hst
      go_enter Try.func15, Try.ntmps15
      go_upto_region 1 with fail
      go_quiet (fail)
      go_wp2_with fail
      refine (HST.out _ (HD.out.drewN _)).mono ?_
      rintro e w1 ⟨rfl, Fd1, hr1, ht1, hn1⟩
      have HV2 := hid ((HV.out.tb (F' := fun _ => False) (Tb.of_below (below_drewN (Below.refl w.heap.size w) _)) fun _ _ h => h).tb ht1 HDI.out)
      have HR2 := hid hr1
      have HT2 := hid ((Tb.of_below (F := fun q => F q ∨ Fd q) (below_drewN (Below.refl w.heap.size w) _)).trans (w2 := w1) ht1 (fun q _ hq => .inr hq))
      have HN := hid hn1
      clear hr1 ht1 hn1 c0 c1 c2 z2
      go_wp2
      go_ret2
      exact ⟨rfl, Fd1, ⟨HO.out, p, c, HV2.out⟩, HR2.out, HT2.out, fun q hq => HN.out q hq⟩
set_option maxHeartbeats 8000000 in
set_option maxRecDepth 100000 in
theorem rrAdvance_of (h : RRg B w g F gd R) (hd : RDs B w gd Fd S) (hdis : ∀ q, F q → ¬ Fd q) (hs : S.steps < 9223372036854775807) (n : Nat) (hn : n ≤ 18446744073709551615) :
    Calls Try.prog 17 #[.pointer (some ⟨g, 0, none⟩), .int .u64 (n : Nat)] w fun e w' => e = .returned (.int .i64 (R.advE S n)) ∧ RRstep B w g F gd Fd (R.advR S n) (R.advS S n) w' := by
  have hok := Rst.ok_adv h.1 S n
  obtain ⟨ho, p, c, hv⟩ := h
  have c0 := hv.c0
  have c2 := hv.c2
  have c3 := hv.c3
  have HV := hid hv
  have HD := hid hd
  have HDI := hid hdis
  have hst := fun W (h : RDs B W gd Fd S) => rStep_of B gd Fd S W h hs
  clear hv hd hdis
  obtain ⟨lim, res, com, draws⟩ := R
  simp only at c2 c3 HV hok
  unfold Rst.advE Rst.advR Rst.advS
  unfold Rst.advR at hok
  simp only at hok ⊢
  by_cases h1 : n ≤ com ∨ res < n
  · rw [if_pos h1] at hok
    rw [if_pos h1, if_pos h1, if_pos h1]
    have HO := hid hok
    have post : ∀ w', w' = w → RRstep B w g F gd Fd ⟨lim, res, com, draws⟩ S w' := fun w' e => (by rw [e]; exact ⟨Fd, ⟨HO.out, p, c, HV.out⟩, HD.out, Tb.refl _ _, fun q hq => .inl hq⟩)
    have HP := hid post
    clear hok hst ho post
    by_cases h2 : n ≤ com
    · have i1 : (n : Int) ≤ (com : Int) := by omega
      clear h1 h2
      go_enter Try.func17, Try.ntmps17
      go_wp2
      go_ret
      exact ⟨rfl, HP.out _ rfl⟩
    · have i1 : ¬ (n : Int) ≤ (com : Int) := by omega
      have i2 : (res : Int) < (n : Int) := by omega
      clear h1 h2
      go_enter Try.func17, Try.ntmps17
      go_wp2
      go_ret
      exact ⟨rfl, HP.out _ rfl⟩
  · rw [if_neg h1] at hok
    rw [if_neg h1, if_neg h1, if_neg h1]
    have i1 : ¬ (n : Int) ≤ (com : Int) := by omega
    have i2 : ¬ (res : Int) < (n : Int) := by omega
    clear h1
    by_cases he : S.err = 0
    · rw [if_pos he] at hok
      rw [if_pos he]
      rw [he] at hst ⊢
      have HO := hid hok
      have HST := hid hst
      clear hok he ho hst
      go_enter Try.func17, Try.ntmps17
      go_wp2_with fail
      refine (HST.out _ HD.out).mono ?_
      rintro e w1 ⟨rfl, Fd1, hr1, ht1, hn1⟩
      have hv1 := HV.out.tb ht1 HDI.out
      have c3 := hv1.c3
      have z3 := hv1.z 3 (by decide)
      have HV2 := hid (hv1.num 3 (by decide) (.int .u64 (n : Nat)) res n p c draws (by decide) rfl rfl rfl hv1.dr)
      have HR2 := hid (hr1.tb (F' := fun q => q = g) (Tb.setCell (F := fun q => q = g) (b := g) (Tb.refl _ w1) (.inl rfl) 3 (.int .u64 (n : Nat))) (fun q hq e => by
        rcases hn1 q hq with h2 | h2
        · exact HDI.out g HV.out.fg (e ▸ h2)
        · have := (HV.out.lt g HV.out.fg).2
          rw [e] at h2
          exact absurd this (Nat.not_lt.2 h2)))
      have HT2 := hid ((ht1.mono (F := fun q => F q ∨ Fd q) (fun q _ hq => .inr hq)).setCell (b := g) (.inl (.inl HV.out.fg)) 3 (.int .u64 (n : Nat)))
      have HN := hid hn1
      clear hr1 ht1 hn1 hv1 c0 c2
      go_wp2
      go_ret
      exact ⟨rfl, Fd1, ⟨HO.out, p, c, HV2.out⟩, HR2.out, HT2.out, fun q hq => HN.out q hq⟩
    · rw [if_neg he] at hok
      rw [if_neg he]
      obtain ⟨er, her⟩ : ∃ e, Hid (e = S.err) := ⟨_, rfl⟩
      rw [← her.out] at he hst ⊢
      have HO := hid hok
      have HST := hid hst
      clear hok ho hst
      go_enter Try.func17, Try.ntmps17
      go_wp2_with fail
      refine (HST.out _ HD.out).mono ?_
      rintro e w1 ⟨rfl, Fd1, hr1, ht1, hn1⟩
      have HV2 := hid (HV.out.tb ht1 HDI.out)
      have HR2 := hid hr1
      have HT2 := hid (ht1.mono (F := fun q => F q ∨ Fd q) (fun q _ hq => .inr hq))
      have HN := hid hn1
      clear hr1 ht1 hn1 c0 c2 c3
      go_wp2
      go_ret
      exact ⟨rfl, Fd1, ⟨HO.out, p, c, HV2.out⟩, HR2.out, HT2.out, fun q hq => HN.out q hq⟩
set_option maxHeartbeats 8000000 in
set_option maxRecDepth 100000 in
theorem rrDraw_of (h : RRg B w g F gd R) (z : Int) (hz : (Lit.int .i64 z).wf = true) :
    Calls Try.prog 19 #[.pointer (some ⟨g, 0, none⟩), .int .i64 z] w fun e w' => ∃ v, e = .returned (.tuple #[v, .int .i64 (R.drE z)]) ∧ Own w.heap.size w' v (R.drL z).length (R.drL z) ∧ RRg B w' g F gd (R.drR z) ∧ Tb F w w' := by
  have hok := Rst.ok_dr h.1 z
  obtain ⟨ho, p, c, hv⟩ := h
  have c4 := hv.c4
  have z4 := hv.z 4 (by decide)
  have HV := hid hv
  have hoct := ho.oct
  clear hv
  obtain ⟨lim, res, com, draws⟩ := R
  simp only at c4 HV hok hoct
  unfold Rst.drE Rst.drL Rst.drR
  unfold Rst.drR at hok
  simp only at hok ⊢
  by_cases h1 : z < 1 ∨ 64 < z
  · rw [if_pos h1] at hok
    rw [if_pos h1, if_pos h1, if_pos h1]
    have HO := hid hok
    have post : ∀ w', w' = w → RRg B w' g F gd ⟨lim, res, com, draws⟩ ∧ Tb F w w' := fun w' e => (by rw [e]; exact ⟨⟨HO.out, p, c, HV.out⟩, Tb.refl _ _⟩)
    have HP := hid post
    clear hok ho post hoct
    by_cases h2 : z < 1
    · clear h1
      go_enter Try.func19, Try.ntmps19
      go_wp2
      go_ret2
      exact ⟨_, rfl, Own.nil _ _, (HP.out _ rfl).1, (HP.out _ rfl).2⟩
    · have i2 : 64 < z := by omega
      clear h1
      go_enter Try.func19, Try.ntmps19
      go_wp2
      go_ret2
      exact ⟨_, rfl, Own.nil _ _, (HP.out _ rfl).1, (HP.out _ rfl).2⟩
  · rw [if_neg h1] at hok
    rw [if_neg h1, if_neg h1, if_neg h1]
    have i1 : ¬ z < 1 := by omega
    have i2 : ¬ 64 < z := by omega
    clear h1
    cases draws with
    | nil =>
      have HO := hid hok
      have post : ∀ w', w' = w → RRg B w' g F gd ⟨lim, res, com, []⟩ ∧ Tb F w w' := fun w' e => (by rw [e]; exact ⟨⟨HO.out, p, c, HV.out⟩, Tb.refl _ _⟩)
      have HP := hid post
      clear hok ho post hoct
      rw [List.length_nil] at c4
      go_enter Try.func19, Try.ntmps19
      go_wp2
      go_ret2
      exact ⟨_, rfl, Own.nil _ _, (HP.out _ rfl).1, (HP.out _ rfl).2⟩
    | cons x L =>
      obtain ⟨b, o, pi, ci, rfl, hb2, hcx, hxc, hbx, hox, _⟩ := HV.out.dr.2 0 x rfl
      obtain ⟨p', hsl, hdr⟩ := HV.out.dr.drop
      rw [List.length_cons] at c4
      have hcL := HV.out.dr.1
      rw [List.length_cons] at hcL
      rw [Nat.add_zero] at hcx
      obtain ⟨m, hm⟩ : ∃ m, Hid (m = x.length) := ⟨_, rfl⟩
      obtain ⟨l, hl⟩ : ∃ m, Hid (m = L.length) := ⟨_, rfl⟩
      simp only at hok ⊢
      rw [← hm.out] at hcx hxc hok ⊢
      rw [← hl.out] at c4 hsl hcL
      have i3 : ¬ ((l + 1 : Nat) : Int) = 0 := by omega
      have i4 : (0 : Int) < ((l + 1 : Nat) : Int) := by omega
      by_cases h3 : (m : Int) < z
      · rw [if_pos h3] at hok
        rw [if_pos h3, if_pos h3, if_pos h3]
        have HO := hid hok
        have post : ∀ w', w' = w → RRg B w' g F gd ⟨lim, res, com, x :: L⟩ ∧ Tb F w w' := fun w' e => (by rw [e]; exact ⟨⟨HO.out, _, c, HV.out⟩, Tb.refl _ _⟩)
        have HP := hid post
        clear hok ho post hoct hsl hdr hbx
        go_enter Try.func19, Try.ntmps19
        go_wp2
        go_ret2
        exact ⟨_, rfl, Own.nil _ _, (HP.out _ rfl).1, (HP.out _ rfl).2⟩
      · rw [if_neg h3] at hok
        rw [if_neg h3, if_neg h3, if_neg h3]
        have HO := hid hok
        obtain ⟨t, rfl⟩ : ∃ t : Nat, z = (t : Int) := ⟨z.toNat, by omega⟩
        rw [Int.toNat_natCast]
        have htm : t ≤ m := by omega
        have ht1 : 1 ≤ t := by omega
        have ht64 : t ≤ 64 := by omega
        have i5 : (t : Int) ≤ (m : Int) := by omega
        have hml : t ≤ x.length := by rw [← hm.out]; exact htm
        have hlen : (x.take t).length = t := by rw [List.length_take]; omega
        have hbt : Bin w pi (x.take t) := fun hn => by
          obtain ⟨b', o', e, _, hcc⟩ := hbx.at (by omega)
          refine ⟨b', o', e, fun j hj => ?_⟩
          rw [hcc j (by omega), List.getD_eq_getElem?_getD, List.getD_eq_getElem?_getD, List.getElem?_take, if_pos (by omega)]
        have HCP := hid (copy_any pi ci (x.take t) w hbt (by omega))
        have hdr' := hid hdr
        rw [hlen] at HCP
        have HL := hid hlen
        have htc : t ≤ ci := by omega
        have i6 : (t : Int) ≤ (ci : Int) := by omega
        clear hok ho hoct hbx hbt hml hdr hlen
        go_enter Try.func19, Try.ntmps19
        go_upto_region 6 with (refine HCP.out.mono ?_; rintro e w1 ⟨g1, c1, rfl, hO1, hb1⟩)
        have hv1 := HV.out.tb (F' := fun _ => False) (Tb.of_below hb1) fun _ _ h => h
        have c4 := hv1.c4
        rw [List.length_cons, ← hl.out] at c4
        have z4 := hv1.z 4 (by decide)
        have hd1 := hdr'.out.below hb1
        have HV2 := hid (hv1.num 4 (by decide) (.slice p' L.length (c - 1)) res com p' (c - 1) L (by decide) rfl rfl rfl hd1)
        rw [← hl.out] at HV2
        have hgl := (World.ownsRow.lt hO1 g1 rfl).1
        have HO2 := hid (hO1.tb (F := fun q => q = g) (w' := w1.setCell ⟨g, 4, none⟩ (.slice p' l (c - 1))) (Tb.setCell (F := fun q => q = g) (b := g) (Tb.refl _ w1) (.inl rfl) 4 _) (fun q hq e => by
          have h8 := (World.ownsRow.lt hO1 q hq).1
          have := (HV.out.lt g HV.out.fg).2
          omega))
        have HT2 := hid (((Tb.of_below (F := F) hb1).setCell (b := g) (.inl HV.out.fg) 4 (.slice p' l (c - 1))))
        clear hO1 hb1 hv1 hd1 HCP hcx hgl
        go_wp2
        go_ret2
        exact ⟨_, rfl, by rw [HL.out]; exact HO2.out, ⟨HO.out, p', c - 1, by rw [← hl.out] at *; exact HV2.out⟩, HT2.out⟩
end
end Go.Proofs.Ytlbhoijjbpjmoaa
