/-
  The program's device: Step, Fail, Cut.
-/
import Derived.Test.YtlbhoijjbpjmoaaPds
namespace Go.Proofs.Ytlbhoijjbpjmoaa
open Go.RowKit
set_option linter.unusedVariables false
set_option linter.unusedSimpArgs false

section
variable {B g : Nat} {F : Nat → Prop} {S : Dst} {w : World}
set_option maxHeartbeats 8000000 in
set_option maxRecDepth 100000 in
theorem dStep_at (h : PDk B w g F S) (hs : S.steps < 9223372036854775807) :
    Calls Try.prog 31 #[.pointer (some ⟨g, 0, none⟩)] w fun e w' => e = .returned (.int .i64 S.err) ∧ Dstep B w g F S.step w' := by
  have hok := Dst.ok_step h.ok
  have hcb := h.ok.cut
  have hfb := h.ok.fail
  have hcalm := h.calm
  have hwl := h.hw
  have hlt := h.lt
  have hfg := h.fg
  obtain ⟨kN, cN, kF, cF, vW, fl, ct, hv, hf, hc⟩ := h.at'
  have HV := hid hv
  have c3 := hv.c3
  have c4 := hv.c4
  have c5 := hv.c5
  have c6 := hv.c6
  have z3 := hv.z 3 (by decide)
  have z4 := hv.z 4 (by decide)
  clear h hv
  obtain ⟨n, now, firm, ws, st, fail, cut, down⟩ := S
  simp only at c3 c4 c5 c6 HV hs hcb hfb hf hc hcalm hwl
  have i1 : IntKind.u64.wrap ((st : Int) + 1) = (st : Int) + 1 := by simp [IntKind.wrap, IntKind.signed, IntKind.bits]; omega
  by_cases hd : down = true ∨ cut = 0
  · have e1 : Dst.err ⟨n, now, firm, ws, st, fail, cut, down⟩ = 81 := if_pos hd
    have e2 : Dst.step ⟨n, now, firm, ws, st, fail, cut, down⟩ = ⟨n, now, firm, ws, st, fail, cut, true⟩ := if_pos hd
    rw [e2] at hok
    rw [e1, e2]
    have HVq : ∀ k, PDv B (w.drewN k) g F n kN cN kF cF vW now firm ws down st fl ct := fun k => HV.out.below (below_drewN (Below.refl _ _) k)
    have h6 := fun k => (HVq k).num 3 (by decide) (by decide) (.bool true) true st fl ct rfl rfl rfl rfl
    have ht : Hid (∀ k, Tb F w ((w.drewN k).setCell ⟨g, 3, none⟩ (.bool true))) := hid fun k => Tb.setCell (F := F) (b := g) ((Tb.refl _ w).drewN k) (.inl HV.out.fg) 3 (.bool true)
    have HK : Hid (∀ k, PDk B ((w.drewN k).setCell ⟨g, 3, none⟩ (.bool true)) g F ⟨n, now, firm, ws, st, fail, cut, true⟩) := hid fun k => ⟨(h6 k).lt, hfg, hok, by show st ≤ _; omega, hwl, hcalm, kN, cN, kF, cF, vW, fl, ct, h6 k, hf, hc⟩
    clear e1 e2 hok hcb hfb hcalm hlt hf h6 HVq
    have hor : down = true ∨ (down = false ∧ cut = 0) := by
      cases down with
      | true => exact .inl rfl
      | false => exact .inr ⟨rfl, by rcases hd with h1 | h1; cases h1; exact h1⟩
    rcases hor with hor | ⟨hor, hcut⟩
    · subst hor
      clear hd hc HV
      go_enter Try.func31, Try.ntmps31
      go_upto_region 3 with fail
      go_quiet (fail)
      go_wp2
      go_ret
      exact ⟨rfl, F, HK.out _, ht.out _, fun q hq => .inl hq⟩
    · subst hor
      have hct : ct = st + 1 := by omega
      subst hct
      clear hd hc HV hcut
      have hdd : decide ((st : Int) + 1 = ((st + 1 : Nat) : Int)) = true := decide_eq_true (by omega)
      go_enter Try.func31, Try.ntmps31
      go_upto_region 3 with fail
      go_quiet (fail)
      go_wp2
      go_ret
      exact ⟨rfl, F, HK.out _, ht.out _, fun q hq => .inl hq⟩
  · have hdn : down = false := by
      cases down with
      | true => exact absurd (.inl rfl) hd
      | false => rfl
    have hc0 : ¬ cut = 0 := fun e => hd (.inr e)
    have e2 : Dst.step ⟨n, now, firm, ws, st, fail, cut, down⟩ = ⟨n, now, firm, ws, st + 1, fail - 1, if 0 < cut then cut - 1 else cut, down⟩ := if_neg hd
    have e1 : Dst.err ⟨n, now, firm, ws, st, fail, cut, down⟩ = if fail = 1 then 80 else 0 := if_neg hd
    rw [e2] at hok
    rw [e1, e2]
    have HVq : ∀ k, PDv B (w.drewN k) g F n kN cN kF cF vW now firm ws down st fl ct := fun k => HV.out.below (below_drewN (Below.refl _ _) k)
    have h6 := fun k k2 => ((HVq k).num 4 (by decide) (by decide) (.int .u64 ((st + 1 : Nat) : Int)) down (st + 1) fl ct rfl rfl rfl rfl).below (below_drewN (Below.refl _ _) k2)
    have ht : Hid (∀ k k2, Tb F w (((w.drewN k).setCell ⟨g, 4, none⟩ (.int .u64 ((st + 1 : Nat) : Int))).drewN k2)) := hid fun k k2 => (Tb.setCell (F := F) (b := g) ((Tb.refl _ w).drewN k) (.inl HV.out.fg) 4 (.int .u64 ((st + 1 : Nat) : Int))).drewN k2
    have HK : Hid (∀ k k2, PDk B (((w.drewN k).setCell ⟨g, 4, none⟩ (.int .u64 ((st + 1 : Nat) : Int))).drewN k2) g F ⟨n, now, firm, ws, st + 1, fail - 1, if 0 < cut then cut - 1 else cut, down⟩) :=
      hid fun k k2 => ⟨(h6 k k2).lt, hfg, hok, by show st + 1 ≤ _; omega, hwl, hcalm, kN, cN, kF, cF, vW, fl, ct, h6 k k2, by show fail - 1 = fl - (st + 1); omega, by
        show (if 0 < cut then cut - 1 else cut) < 0 ∧ ct = 0 ∨ 0 ≤ (if 0 < cut then cut - 1 else cut) ∧ (ct : Int) = ((st + 1 : Nat) : Int) + (if 0 < cut then cut - 1 else cut) + 1
        by_cases h0 : 0 < cut
        · rw [if_pos h0]; omega
        · rw [if_neg h0]; omega⟩
    have hne : ¬ (st : Int) + 1 = (ct : Int) := by omega
    clear e1 e2 hok hcb hcalm hlt h6 hd HVq
    subst hdn
    have hdd : ((st : Int) + 1 == (ct : Int)) = false := by simp; exact hne
    by_cases hf1 : fail = 1
    · rw [if_pos hf1]
      have hfl : fl = st + 1 := by omega
      clear hne hc0 HV hc hf hfb
      generalize (if 0 < cut then cut - 1 else cut) = cut' at HK ⊢
      generalize fail - 1 = fail' at HK ⊢
      subst hfl
      have hde : ((st : Int) + 1 == ((st + 1 : Nat) : Int)) = true := by simp
      go_enter Try.func31, Try.ntmps31
      go_upto_region 3 with fail
      go_quiet (fail)
      go_upto_region 7 with fail
      go_quiet (fail)
      go_wp2
      go_ret
      exact ⟨rfl, F, HK.out _ _, ht.out _ _, fun q hq => .inl hq⟩
    · rw [if_neg hf1]
      have hfl : ¬ (st : Int) + 1 = (fl : Int) := by omega
      have hde : ((st : Int) + 1 == (fl : Int)) = false := by simp; exact hfl
      clear hne hc0 HV hc hf hfb
      generalize (if 0 < cut then cut - 1 else cut) = cut' at HK ⊢
      generalize fail - 1 = fail' at HK ⊢
      go_enter Try.func31, Try.ntmps31
      go_upto_region 3 with fail
      go_quiet (fail)
      go_upto_region 7 with fail
      go_quiet (fail)
      go_wp2
      go_ret
      exact ⟨rfl, F, HK.out _ _, ht.out _ _, fun q hq => .inl hq⟩
set_option maxHeartbeats 8000000 in
set_option maxRecDepth 100000 in
theorem dFail_at (h : PDk B w g F S) (n : Int) (hn : (Lit.int .i64 n).wf = true) :
    Calls Try.prog 27 #[.pointer (some ⟨g, 0, none⟩), .int .i64 n] w fun e w' => e = .returned (.tuple #[]) ∧ Dstep B w g F (S.setFail n) w' := by
  have hn2 := i64_of_wf hn
  have hok := Dst.ok_setFail h.ok hn2.2
  have hss := h.hs
  have hcalm := h.calm
  have hwl := h.hw
  have hfg := h.fg
  obtain ⟨kN, cN, kF, cF, vW, fl, ct, hv, hf, hc⟩ := h.at'
  have HV := hid hv
  have c4 := hv.c4
  have cc := hv.c5
  have zz := hv.z 5 (by decide)
  clear hv h hn
  have q0 := hid (HV.out.num 5 (by decide) (by decide) (.int .u64 ((0 : Nat) : Int)) S.down S.steps (0) ct rfl rfl rfl rfl)
  have t0 := hid (Tb.setCell (F := F) (b := g) (Tb.refl _ w) (.inl HV.out.fg) 5 (.int .u64 ((0 : Nat) : Int)))
  by_cases hp : 0 < n
  · obtain ⟨m, rfl⟩ : ∃ m : Nat, n = (m : Int) := ⟨n.toNat, by omega⟩
    have q1 := hid (q0.out.num 5 (by decide) (by decide) (.int .u64 ((S.steps + m : Nat) : Int)) S.down S.steps (S.steps + m) ct rfl rfl rfl rfl)
    have t1 := hid (Tb.setCell (F := F) (b := g) t0.out (.inl HV.out.fg) 5 (.int .u64 ((S.steps + m : Nat) : Int)))
    have HK : Hid (PDk B ((w.setCell ⟨g, 5, none⟩ (.int .u64 ((0 : Nat) : Int))).setCell ⟨g, 5, none⟩ (.int .u64 ((S.steps + m : Nat) : Int))) g F (S.setFail m)) := hid ⟨q1.out.lt, hfg, hok, hss, hwl, hcalm, kN, cN, kF, cF, vW, S.steps + m, ct, q1.out, by show ((m : Int)).toNat = S.steps + m - S.steps; omega, hc⟩
    have hst : Hid (S.steps = S.steps) := hid rfl
    obtain ⟨st, hst⟩ : ∃ st, Hid (st = S.steps) := ⟨_, rfl⟩
    rw [← hst.out] at HK t1 c4 hss
    have i1 : IntKind.u64.wrap (m : Int) = (m : Int) := by simp [IntKind.wrap, IntKind.signed, IntKind.bits]; omega
    have i2 : IntKind.u64.wrap ((st : Int) + (m : Int)) = (st : Int) + (m : Int) := by simp [IntKind.wrap, IntKind.signed, IntKind.bits]; omega
    skip
    clear q0 q1 t0 HV hok hcalm hf hc
    go_enter Try.func27, Try.ntmps27
    go_wp2
    go_end0
    exact ⟨rfl, F, HK.out, t1.out, fun q hq => .inl hq⟩
  · have HK : Hid (PDk B (w.setCell ⟨g, 5, none⟩ (.int .u64 ((0 : Nat) : Int))) g F (S.setFail n)) := hid ⟨q0.out.lt, hfg, hok, hss, hwl, hcalm, kN, cN, kF, cF, vW, 0, ct, q0.out, by show n.toNat = 0 - S.steps; omega, hc⟩
    have t1 := t0
    clear q0 HV hok hcalm hf hc t0
    go_enter Try.func27, Try.ntmps27
    go_wp2
    go_end0
    exact ⟨rfl, F, HK.out, t1.out, fun q hq => .inl hq⟩
set_option maxHeartbeats 8000000 in
set_option maxRecDepth 100000 in
theorem dCut_at (h : PDk B w g F S) (n : Int) (hn : (Lit.int .i64 n).wf = true) :
    Calls Try.prog 28 #[.pointer (some ⟨g, 0, none⟩), .int .i64 n] w fun e w' => e = .returned (.tuple #[]) ∧ Dstep B w g F (S.setCut n) w' := by
  have hn2 := i64_of_wf hn
  have hok := Dst.ok_setCut h.ok hn2.2
  have hss := h.hs
  have hcalm := h.calm
  have hwl := h.hw
  have hfg := h.fg
  obtain ⟨kN, cN, kF, cF, vW, fl, ct, hv, hf, hc⟩ := h.at'
  have HV := hid hv
  have c4 := hv.c4
  have cc := hv.c6
  have zz := hv.z 6 (by decide)
  clear hv h hn
  have q0 := hid (HV.out.num 6 (by decide) (by decide) (.int .u64 ((0 : Nat) : Int)) S.down S.steps fl (0) rfl rfl rfl rfl)
  have t0 := hid (Tb.setCell (F := F) (b := g) (Tb.refl _ w) (.inl HV.out.fg) 6 (.int .u64 ((0 : Nat) : Int)))
  by_cases hp : 0 ≤ n
  · obtain ⟨m, rfl⟩ : ∃ m : Nat, n = (m : Int) := ⟨n.toNat, by omega⟩
    have q1 := hid (q0.out.num 6 (by decide) (by decide) (.int .u64 ((S.steps + m + 1 : Nat) : Int)) S.down S.steps fl (S.steps + m + 1) rfl rfl rfl rfl)
    have t1 := hid (Tb.setCell (F := F) (b := g) t0.out (.inl HV.out.fg) 6 (.int .u64 ((S.steps + m + 1 : Nat) : Int)))
    have HK : Hid (PDk B ((w.setCell ⟨g, 6, none⟩ (.int .u64 ((0 : Nat) : Int))).setCell ⟨g, 6, none⟩ (.int .u64 ((S.steps + m + 1 : Nat) : Int))) g F (S.setCut m)) := hid ⟨q1.out.lt, hfg, hok, hss, hwl, hcalm, kN, cN, kF, cF, vW, fl, S.steps + m + 1, q1.out, hf, by
      show (if (m : Int) < 0 then -1 else (m : Int)) < 0 ∧ S.steps + m + 1 = 0 ∨ 0 ≤ (if (m : Int) < 0 then -1 else (m : Int)) ∧ ((S.steps + m + 1 : Nat) : Int) = S.steps + (if (m : Int) < 0 then -1 else (m : Int)) + 1
      rw [if_neg (by omega)]; omega⟩
    have hst : Hid (S.steps = S.steps) := hid rfl
    obtain ⟨st, hst⟩ : ∃ st, Hid (st = S.steps) := ⟨_, rfl⟩
    rw [← hst.out] at HK t1 c4 hss
    have i1 : IntKind.u64.wrap (m : Int) = (m : Int) := by simp [IntKind.wrap, IntKind.signed, IntKind.bits]; omega
    have i2 : IntKind.u64.wrap ((st : Int) + (m : Int)) = (st : Int) + (m : Int) := by simp [IntKind.wrap, IntKind.signed, IntKind.bits]; omega
    have i3 : IntKind.u64.wrap ((st : Int) + (m : Int) + 1) = (st : Int) + (m : Int) + 1 := by simp [IntKind.wrap, IntKind.signed, IntKind.bits]; omega
    clear q0 q1 t0 HV hok hcalm hf hc
    go_enter Try.func28, Try.ntmps28
    go_wp2
    go_end0
    exact ⟨rfl, F, HK.out, t1.out, fun q hq => .inl hq⟩
  · have HK : Hid (PDk B (w.setCell ⟨g, 6, none⟩ (.int .u64 ((0 : Nat) : Int))) g F (S.setCut n)) := hid ⟨q0.out.lt, hfg, hok, hss, hwl, hcalm, kN, cN, kF, cF, vW, fl, 0, q0.out, hf, by
      show (if n < 0 then -1 else n) < 0 ∧ 0 = 0 ∨ _
      rw [if_pos (by omega)]; exact .inl ⟨by decide, rfl⟩⟩
    have t1 := t0
    clear q0 HV hok hcalm hf hc t0
    go_enter Try.func28, Try.ntmps28
    go_wp2
    go_end0
    exact ⟨rfl, F, HK.out, t1.out, fun q hq => .inl hq⟩
end
end Go.Proofs.Ytlbhoijjbpjmoaa
