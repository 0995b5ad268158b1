/-
  DiskPlays: Sync, Step, Fail, Cut, Crash.
-/
import Derived.Test.YtlbhoijjbpjmoaaDpk
import Derived.Test.YtlbhoijjbpjmoaaKa
namespace Go.Proofs.Ytlbhoijjbpjmoaa
open Go.RowKit
set_option linter.unusedVariables false
set_option linter.unusedSimpArgs false

theorem max_i64 (a b : Int) {P : Program} (wx : World) : (Builtin.max_ #[3, 3] 3 #[.int .i64 a, .int .i64 b]).run P wx = .ok (.int .i64 (if b > a then b else a)) wx := by simp [Builtin.max_, Builtin.max2]
theorem RDs.setFail {B g : Nat} {F : Nat → Prop} {S : Dst} {w : World} (h : RDs B w g F S) {n : Int} (hn : n ≤ 9223372036854775807) : Rstep B w g F (S.setFail n) (w.setCell ⟨g, 4, none⟩ (.int .i64 (n.toNat : Nat))) := by
  obtain ⟨vN, VN, vF, VF, vW, VW, hv⟩ := h.at'
  exact ⟨F, ⟨Dst.ok_setFail h.ok hn, vN, VN, vF, VF, vW, VW, hv.num 4 (by decide) (by decide) (.int .i64 (n.toNat : Nat)) S.steps n.toNat S.cut S.down rfl rfl rfl rfl⟩, Tb.setCell (F := F) (b := g) (Tb.refl _ w) (.inl h.fg) 4 _, fun q hq => .inl hq⟩
theorem RDs.setCut {B g : Nat} {F : Nat → Prop} {S : Dst} {w : World} (h : RDs B w g F S) {n : Int} (hn : n ≤ 9223372036854775807) : Rstep B w g F (S.setCut n) (w.setCell ⟨g, 5, none⟩ (.int .i64 (if n < 0 then -1 else n))) := by
  obtain ⟨vN, VN, vF, VF, vW, VW, hv⟩ := h.at'
  exact ⟨F, ⟨Dst.ok_setCut h.ok hn, vN, VN, vF, VF, vW, VW, hv.num 5 (by decide) (by decide) (.int .i64 (if n < 0 then -1 else n)) S.steps S.fail (if n < 0 then -1 else n) S.down rfl rfl rfl rfl⟩, Tb.setCell (F := F) (b := g) (Tb.refl _ w) (.inl h.fg) 5 _, fun q hq => .inl hq⟩
theorem RDs.cells {B g : Nat} {F : Nat → Prop} {S : Dst} {w : World} (h : RDs B w g F S) : w.cell? ⟨g, 4, none⟩ = some (.int .i64 (S.fail : Nat)) ∧ w.frozen? ⟨g, 4, none⟩ = false ∧ w.cell? ⟨g, 5, none⟩ = some (.int .i64 S.cut) ∧ w.frozen? ⟨g, 5, none⟩ = false := by
  obtain ⟨vN, VN, vF, VF, vW, VW, hv⟩ := h.at'
  exact ⟨hv.c4, hv.z 4 (by decide), hv.c5, hv.z 5 (by decide)⟩

set_option maxHeartbeats 16000000 in
set_option maxRecDepth 100000 in
theorem does_sync {wR : World} {G : Nat → Prop} (B g g2 : Nat) (F F2 : Nat → Prop) (S : Dst) (i at0 : Int) (p3 : Option Addr) (c3 n3 : Nat) (b3 : List Int) (p4 : Option Addr) (c4 n4 : Nat) (b4 : List Int) (w : World) (hU : Duo wR G B w g g2 F F2 S S) (hBw : B ≤ w.heap.size)
    (hiw : (Lit.int .i64 i).wf = true) (haw : (Lit.int .i64 at0).wf = true) (h3 : Bin w p3 b3) (o3 : Oct b3) (l3 : b3.length = n3) (q3 : n3 ≤ c3) (m3 : n3 ≤ 140737488351232) (e3 : ∀ a, p3 = some a → 0 < n3 → a.block < B) (h4 : Bin w p4 b4) (o4 : Oct b4) (l4 : b4.length = n4) (q4 : n4 ≤ c4) (m4 : n4 ≤ 140737488351232) (e4 : ∀ a, p4 = some a → 0 < n4 → a.block < B) (hs : S.steps < 9223372036854775000) (hw : S.ws.length < 4294967000) :
    Calls Try.prog 21 #[.pointer (some ⟨g, 0, none⟩), .pointer (some ⟨g2, 0, none⟩), .agg #[.int .i64 3, .int .i64 i, .int .i64 at0, .slice p3 n3 c3, .slice p4 n4 c4]] w (PlaysAt wR G B w g g2 S) := by
  obtain ⟨w0, hw0⟩ : ∃ wa, Hid (wa = w.alloc (.cells #[.int .i64 3, .int .i64 i, .int .i64 at0, .slice p3 n3 c3, .slice p4 n4 c4] 41)) := ⟨_, rfl⟩
  have hb0 : Below w.heap.size w w0 := by rw [hw0.out]; exact (Below.refl _ _).alloc (Nat.le_refl _) _
  have H5 : Hid (Five w0 w.heap.size (.int .i64 3) (.int .i64 i) (.int .i64 at0) (.slice p3 n3 c3) (.slice p4 n4 c4)) := hid (by rw [hw0.out]; exact five_new _ _ _ _ _ _ _)
  have HU := hid (hU.below hb0)
  have HB := hid (bel_below (Below.refl B w) hBw hb0)
  have HFb := hid (own_box hU)
  have P3 := hid (h3.below hb0)
  have P4 := hid (h4.below hb0)
  have L3 := hid l3
  have L4 := hid l4
  have E3 := hid e3
  have E4 := hid e4
  have HS := hid (And.intro hs hw)
  obtain ⟨gb, hgb⟩ : ∃ g, Hid (g = w.heap.size) := ⟨_, rfl⟩
  rw [← hgb.out] at H5 HFb
  have HGB : Hid (gb < w0.heap.size) := hid H5.out.lt
  clear hb0 hU h3 h4 l3 l4 e3 e4 hs hw
  go_enter Try.func21, Try.ntmps21
  go_upto_region 1 with fail
  rw [← hw0.out, ← hgb.out]
  clear hw0 hgb
  obtain ⟨d0, d1, d2, d3, d4⟩ := H5.out
  clear d0 d1 d2 d3 d4
  have HP := hid (fun W h => dSync_of B g F S W h (by have := HS.out.1; omega))
  have HR := hid (fun W F h => rSync_of B g2 F S W h (by have := HS.out.1; omega))
  obtain ⟨er, her⟩ : ∃ e, Hid (e = S.err) := ⟨_, rfl⟩
  rw [← her.out] at HP HR
  obtain ⟨d0, d1, d2, d3, d4⟩ := H5.out
  go_wp2_with fail
  refine (HP.out _ HU.out.p).mono ?_
  rintro e w1 ⟨rfl, hs⟩
  obtain ⟨F1, hu, ht, hn⟩ := HU.out.stepP hs
  have HB1 := hid (bel_step HB.out.1 HB.out.2 ht (fun q hq => (HU.out.lt1 q hq).1))
  have HU1 := hid hu
  clear hs hu ht hn d0 d1 d2 d3 d4
  go_wp2_with fail
  refine (HR.out _ _ HU1.out.r).mono ?_
  rintro e w2 ⟨rfl, hs⟩
  obtain ⟨F2, hu, ht, hn⟩ := HU1.out.stepR hs
  have HB2 := hid (bel_step HB1.out.1 HB1.out.2 ht (fun q hq => (HU1.out.lt2 q hq).1))
  have HU2 := hid hu
  clear hs hu ht hn
  go_wp2_with fail
  go_ret2
  exact ⟨_, _, S.sync, rfl, HU2.out, HB2.out.1, HB2.out.2, sync_facts S⟩

set_option maxHeartbeats 16000000 in
set_option maxRecDepth 100000 in
theorem does_step {wR : World} {G : Nat → Prop} (B g g2 : Nat) (F F2 : Nat → Prop) (S : Dst) (i at0 : Int) (p3 : Option Addr) (c3 n3 : Nat) (b3 : List Int) (p4 : Option Addr) (c4 n4 : Nat) (b4 : List Int) (w : World) (hU : Duo wR G B w g g2 F F2 S S) (hBw : B ≤ w.heap.size)
    (hiw : (Lit.int .i64 i).wf = true) (haw : (Lit.int .i64 at0).wf = true) (h3 : Bin w p3 b3) (o3 : Oct b3) (l3 : b3.length = n3) (q3 : n3 ≤ c3) (m3 : n3 ≤ 140737488351232) (e3 : ∀ a, p3 = some a → 0 < n3 → a.block < B) (h4 : Bin w p4 b4) (o4 : Oct b4) (l4 : b4.length = n4) (q4 : n4 ≤ c4) (m4 : n4 ≤ 140737488351232) (e4 : ∀ a, p4 = some a → 0 < n4 → a.block < B) (hs : S.steps < 9223372036854775000) (hw : S.ws.length < 4294967000) :
    Calls Try.prog 21 #[.pointer (some ⟨g, 0, none⟩), .pointer (some ⟨g2, 0, none⟩), .agg #[.int .i64 4, .int .i64 i, .int .i64 at0, .slice p3 n3 c3, .slice p4 n4 c4]] w (PlaysAt wR G B w g g2 S) := by
  obtain ⟨w0, hw0⟩ : ∃ wa, Hid (wa = w.alloc (.cells #[.int .i64 4, .int .i64 i, .int .i64 at0, .slice p3 n3 c3, .slice p4 n4 c4] 41)) := ⟨_, rfl⟩
  have hb0 : Below w.heap.size w w0 := by rw [hw0.out]; exact (Below.refl _ _).alloc (Nat.le_refl _) _
  have H5 : Hid (Five w0 w.heap.size (.int .i64 4) (.int .i64 i) (.int .i64 at0) (.slice p3 n3 c3) (.slice p4 n4 c4)) := hid (by rw [hw0.out]; exact five_new _ _ _ _ _ _ _)
  have HU := hid (hU.below hb0)
  have HB := hid (bel_below (Below.refl B w) hBw hb0)
  have HFb := hid (own_box hU)
  have P3 := hid (h3.below hb0)
  have P4 := hid (h4.below hb0)
  have L3 := hid l3
  have L4 := hid l4
  have E3 := hid e3
  have E4 := hid e4
  have HS := hid (And.intro hs hw)
  obtain ⟨gb, hgb⟩ : ∃ g, Hid (g = w.heap.size) := ⟨_, rfl⟩
  rw [← hgb.out] at H5 HFb
  have HGB : Hid (gb < w0.heap.size) := hid H5.out.lt
  clear hb0 hU h3 h4 l3 l4 e3 e4 hs hw
  go_enter Try.func21, Try.ntmps21
  go_upto_region 1 with fail
  rw [← hw0.out, ← hgb.out]
  clear hw0 hgb
  obtain ⟨d0, d1, d2, d3, d4⟩ := H5.out
  clear d0 d1 d2 d3 d4
  have HP := hid (fun W h => dStep_of B g F S W h (by have := HS.out.1; omega))
  have HR := hid (fun W F h => rStep_of B g2 F S W h (by have := HS.out.1; omega))
  obtain ⟨er, her⟩ : ∃ e, Hid (e = S.err) := ⟨_, rfl⟩
  rw [← her.out] at HP HR
  obtain ⟨d0, d1, d2, d3, d4⟩ := H5.out
  go_wp2_with fail
  refine (HP.out _ HU.out.p).mono ?_
  rintro e w1 ⟨rfl, hs⟩
  obtain ⟨F1, hu, ht, hn⟩ := HU.out.stepP hs
  have HB1 := hid (bel_step HB.out.1 HB.out.2 ht (fun q hq => (HU.out.lt1 q hq).1))
  have HU1 := hid hu
  clear hs hu ht hn d0 d1 d2 d3 d4
  go_wp2_with fail
  refine (HR.out _ _ HU1.out.r).mono ?_
  rintro e w2 ⟨rfl, hs⟩
  obtain ⟨F2, hu, ht, hn⟩ := HU1.out.stepR hs
  have HB2 := hid (bel_step HB1.out.1 HB1.out.2 ht (fun q hq => (HU1.out.lt2 q hq).1))
  have HU2 := hid hu
  clear hs hu ht hn
  go_wp2_with fail
  go_ret2
  exact ⟨_, _, S.step, rfl, HU2.out, HB2.out.1, HB2.out.2, step_facts S⟩

set_option maxHeartbeats 16000000 in
set_option maxRecDepth 100000 in
theorem does_fail {wR : World} {G : Nat → Prop} (B g g2 : Nat) (F F2 : Nat → Prop) (S : Dst) (i at0 : Int) (p3 : Option Addr) (c3 n3 : Nat) (b3 : List Int) (p4 : Option Addr) (c4 n4 : Nat) (b4 : List Int) (w : World) (hU : Duo wR G B w g g2 F F2 S S) (hBw : B ≤ w.heap.size)
    (hiw : (Lit.int .i64 i).wf = true) (haw : (Lit.int .i64 at0).wf = true) (h3 : Bin w p3 b3) (o3 : Oct b3) (l3 : b3.length = n3) (q3 : n3 ≤ c3) (m3 : n3 ≤ 140737488351232) (e3 : ∀ a, p3 = some a → 0 < n3 → a.block < B) (h4 : Bin w p4 b4) (o4 : Oct b4) (l4 : b4.length = n4) (q4 : n4 ≤ c4) (m4 : n4 ≤ 140737488351232) (e4 : ∀ a, p4 = some a → 0 < n4 → a.block < B) (hs : S.steps < 9223372036854775000) (hw : S.ws.length < 4294967000) :
    Calls Try.prog 21 #[.pointer (some ⟨g, 0, none⟩), .pointer (some ⟨g2, 0, none⟩), .agg #[.int .i64 5, .int .i64 i, .int .i64 at0, .slice p3 n3 c3, .slice p4 n4 c4]] w (PlaysAt wR G B w g g2 S) := by
  obtain ⟨w0, hw0⟩ : ∃ wa, Hid (wa = w.alloc (.cells #[.int .i64 5, .int .i64 i, .int .i64 at0, .slice p3 n3 c3, .slice p4 n4 c4] 41)) := ⟨_, rfl⟩
  have hb0 : Below w.heap.size w w0 := by rw [hw0.out]; exact (Below.refl _ _).alloc (Nat.le_refl _) _
  have H5 : Hid (Five w0 w.heap.size (.int .i64 5) (.int .i64 i) (.int .i64 at0) (.slice p3 n3 c3) (.slice p4 n4 c4)) := hid (by rw [hw0.out]; exact five_new _ _ _ _ _ _ _)
  have HU := hid (hU.below hb0)
  have HB := hid (bel_below (Below.refl B w) hBw hb0)
  have HFb := hid (own_box hU)
  have P3 := hid (h3.below hb0)
  have P4 := hid (h4.below hb0)
  have L3 := hid l3
  have L4 := hid l4
  have E3 := hid e3
  have E4 := hid e4
  have HS := hid (And.intro hs hw)
  obtain ⟨gb, hgb⟩ : ∃ g, Hid (g = w.heap.size) := ⟨_, rfl⟩
  rw [← hgb.out] at H5 HFb
  have HGB : Hid (gb < w0.heap.size) := hid H5.out.lt
  clear hb0 hU h3 h4 l3 l4 e3 e4 hs hw
  go_enter Try.func21, Try.ntmps21
  go_upto_region 1 with fail
  rw [← hw0.out, ← hgb.out]
  clear hw0 hgb
  obtain ⟨d0, d1, d2, d3, d4⟩ := H5.out
  have HP := hid (fun W h => dFail_of B g F S W h i hiw)
  have hib := i64_of_wf hiw
  have hmax := fun wx => max_i64 i (0) (P := Try.prog) wx
  obtain ⟨mv, hmv⟩ : ∃ m : Nat, Hid (m = i.toNat) := ⟨_, rfl⟩
  rw [show (if (0 : Int) > i then 0 else i) = ((i.toNat : Nat) : Int) from by split <;> omega, ← hmv.out] at hmax
  go_wp2_with fail
  refine (HP.out _ HU.out.p).mono ?_
  rintro e w1 ⟨rfl, hs⟩
  obtain ⟨F1, hu, ht, hn⟩ := HU.out.stepP hs
  have HB1 := hid (bel_step HB.out.1 HB.out.2 ht (fun q hq => (HU.out.lt1 q hq).1))
  have HU1 := hid hu
  have H51 := hid (H5.out.tb ht HFb.out.1)
  clear hs hu ht hn d0 d1 d2 d3 d4
  obtain ⟨d0, d1, d2, d3, d4⟩ := H51.out
  obtain ⟨x4, z4, x5, z5⟩ := HU1.out.r.cells
  obtain ⟨F9, hu, ht, hn⟩ := HU1.out.stepR (HU1.out.r.setFail (n := i) hib.2)
  rw [← hmv.out] at hu ht
  have HB9 := hid (bel_step HB1.out.1 HB1.out.2 ht (fun q hq => (HU1.out.lt2 q hq).1))
  have HU9 := hid hu
  have H59 := hid (H51.out.tb ht HFb.out.2)
  clear hu ht hn
  go_upto_region 45 with fail
  clear x4 z4 x5 z5 hmax d0 d1 d2 d3 d4 HP hib
  generalize World.setCell w1 _ _ = w8 at HU9 HB9 H59 ⊢
  obtain ⟨d0, d1, d2, d3, d4⟩ := H59.out
  obtain ⟨T, hT⟩ : ∃ T, Hid (T = S.setFail i) := ⟨_, rfl⟩
  rw [← hT.out] at HU9
  have HTF : Hid (T.n = S.n ∧ T.steps ≤ S.steps + 1 ∧ T.ws.length ≤ S.ws.length + 1) := hid (by rw [hT.out]; exact ⟨rfl, Nat.le_succ _, Nat.le_succ _⟩)
  clear hT
  have HFM := hid (dFirm_of B g F1 (T) _ HU9.out.p i hiw)
  have HHS := hid (fun W h => rHas_of B g2 F9 (T) i W h)
  have HNB := hid (And.intro HFb.out HGB.out)
  go_wp2_with fail
  refine HFM.out.mono ?_
  rintro e w20 ⟨v, rfl, hO, hb⟩
  have HU20 := hid (HU9.out.below hb)
  have HB20 := hid (bel_below HB9.out.1 HB9.out.2 hb)
  have H520 := hid (H59.out.below hb)
  have HO := hid hO
  clear hO hb HFM d0 d1 d2 d3 d4
  obtain ⟨d0, d1, d2, d3, d4⟩ := H520.out
  by_cases hh : (T).has i = false
  · have e1 : (T).firmE i = 2 := if_pos hh
    have e2 : (T).firmL i = [] := if_pos hh
    have hO := HO.out
    rw [e2, List.length_nil] at hO
    obtain ⟨pv, cv, rfl, _, _⟩ := hO.bin
    rw [e1]
    rw [hh] at HHS
    clear e1 e2 hO HO
    go_wp2_with fail
    refine (HHS.out _ HU20.out.r).mono ?_
    rintro e w' ⟨rfl, rfl⟩
    clear d0 d1 d2 d3 d4
    go_wp2_with fail
    go_ret2
    exact ⟨_, _, T, rfl, HU20.out, HB20.out.1, HB20.out.2, HTF.out⟩
  · have hht : (T).has i = true := by simpa using hh
    rw [hht] at HHS
    obtain ⟨hi0, hi1, hi2⟩ := Dst.has_lt hh
    obtain ⟨k, rfl⟩ : ∃ k : Nat, i = (k : Int) := ⟨i.toNat, by omega⟩
    rw [Int.toNat_natCast] at hi2
    have e1 : (T).firmE (k : Int) = 0 := if_neg hh
    have e2 : (T).firmL (k : Int) = (T).firm k := by unfold Dst.firmL; rw [if_neg hh, Int.toNat_natCast]
    have hl := (HU20.out.p.ok.firm k hi2)
    obtain ⟨L, hL⟩ : ∃ l, Hid (l = (T).firm k) := ⟨_, rfl⟩
    have hO := HO.out
    rw [e2, ← hL.out] at hO
    rw [← hL.out] at hl
    rw [e1]
    rw [hl.1] at hO
    obtain ⟨pv, cv, rfl, _, hbv⟩ := hO.bin
    have HBV := hid hbv
    have HL := hid hl
    have hl1 := hl.1
    clear e1 e2 hO HO hbv hl
    try rw [hl1]
    clear hl1
    go_wp2_with fail
    refine (HHS.out _ HU20.out.r).mono ?_
    rintro e w' ⟨rfl, rfl⟩
    clear d0 d1 d2 d3 d4
    go_upto_region 48 with fail
    have HUd := hid (HU20.out.below ((Below.refl _ _).drew))
    have HBd := hid (bel_below HB20.out.1 HB20.out.2 ((Below.refl _ _).drew))
    have H5d := hid (H520.out.below ((Below.refl _ _).drew))
    have HVd := hid (HBV.out.below ((Below.refl _ _).drew))
    obtain ⟨vN, VN, vF, VF, vW, VW, hv⟩ := HUd.out.r.at'
    obtain ⟨bF, cF, rfl, _⟩ := hv.rF.isSlice (by omega)
    obtain ⟨bk, ck, hVk, _, hbk⟩ := (hv.rF.row k hi2).isSlice (by decide)
    rw [← hL.out] at hbk
    obtain ⟨N, hN⟩ : ∃ n, Hid (n = (T).n) := ⟨_, rfl⟩
    have hcF := hv.c1
    have hck := (hv.rF.cellAt k hi2).trans (congrArg some hVk)
    rw [show (T).n = N from hN.out.symm] at hcF hi1
    have hS0 : (fun v => (v.cell? ⟨g2, 1, none⟩ = some (.slice (some ⟨bF, 0, none⟩) N cF) ∧ v.cell? ⟨bF, k, none⟩ = some (.slice (some ⟨bk, 0, none⟩) 256 ck)) ∧ v.cell? ⟨gb, 1, none⟩ = some (.int .i64 (k : Nat))) w20.drew := ⟨⟨hcF, hck⟩, H5d.out.c1⟩
    have HBK := hid hbk
    clear hv hbk hcF hck hVk
    refine wp_region_z (fun v => (v.cell? ⟨g2, 1, none⟩ = some (.slice (some ⟨bF, 0, none⟩) N cF) ∧ v.cell? ⟨bF, k, none⟩ = some (.slice (some ⟨bk, 0, none⟩) 256 ck)) ∧ v.cell? ⟨gb, 1, none⟩ = some (.int .i64 (k : Nat))) 17 (by kernel_rfl) hS0 (fun hS => ?_)
    clear hS0
    generalize World.drew _ = w9 at hS HUd HBd HVd HBK ⊢
    refine wpAnyZ_take (i := 0) (v := .pointer (some ⟨g, 0, none⟩)) rfl (by kernel_rfl) (by kernel_rfl) (by kernel_rfl) (by kernel_rfl) (fun _ _ _ h => h) hS (Or.inl ⟨by kernel_rfl, fun w hS => (by clear hS; go_simp)⟩) ?_
    simp only [Act.put, List.setIfInBounds_toArray, List.set_cons_zero, List.set_cons_succ]
    refine wpAnyZ_take (i := 1) (v := .int .i64 0) rfl (by kernel_rfl) (by kernel_rfl) (by kernel_rfl) (by kernel_rfl) (fun _ _ _ h => h) hS (Or.inl ⟨by kernel_rfl, fun w hS => (by clear hS; go_simp)⟩) ?_
    simp only [Act.put, List.setIfInBounds_toArray, List.set_cons_zero, List.set_cons_succ]
    refine wpAnyZ_take (i := 2) (v := .bool true) rfl (by kernel_rfl) (by kernel_rfl) (by kernel_rfl) (by kernel_rfl) (fun _ _ _ h => h) hS (Or.inl ⟨by kernel_rfl, fun w hS => (by clear hS; go_simp)⟩) ?_
    simp only [Act.put, List.setIfInBounds_toArray, List.set_cons_zero, List.set_cons_succ]
    refine wpAnyZ_take (i := 3) (v := .bool true) rfl (by kernel_rfl) (by kernel_rfl) (by kernel_rfl) (by kernel_rfl) (fun _ _ _ h => h) hS (Or.inl ⟨by kernel_rfl, fun w hS => (by clear hS; go_simp)⟩) ?_
    simp only [Act.put, List.setIfInBounds_toArray, List.set_cons_zero, List.set_cons_succ]
    refine wpAnyZ_take (i := 4) (v := .slice pv 256 cv) rfl (by kernel_rfl) (by kernel_rfl) (by kernel_rfl) (by kernel_rfl) (fun _ _ _ h => h) hS (Or.inl ⟨by kernel_rfl, fun w hS => (by clear hS; go_simp)⟩) ?_
    simp only [Act.put, List.setIfInBounds_toArray, List.set_cons_zero, List.set_cons_succ]
    refine wpAnyZ_take (i := 5) (v := .pointer (some ⟨g2, 0, none⟩)) rfl (by kernel_rfl) (by kernel_rfl) (by kernel_rfl) (by kernel_rfl) (fun _ _ _ h => h) hS (Or.inl ⟨by kernel_rfl, fun w hS => (by clear hS; go_simp)⟩) ?_
    simp only [Act.put, List.setIfInBounds_toArray, List.set_cons_zero, List.set_cons_succ]
    refine wpAnyZ_take (i := 6) (v := .pointer (some ⟨g2, 0, none⟩)) rfl (by kernel_rfl) (by kernel_rfl) (by kernel_rfl) (by kernel_rfl) (fun _ _ _ h => h) hS (Or.inl ⟨by kernel_rfl, fun w hS => (by clear hS; go_simp)⟩) ?_
    simp only [Act.put, List.setIfInBounds_toArray, List.set_cons_zero, List.set_cons_succ]
    refine wpAnyZ_take (i := 7) (v := .pointer (some ⟨g2, 1, none⟩)) rfl (by kernel_rfl) (by kernel_rfl) (by kernel_rfl) (by kernel_rfl) (fun _ _ _ h => h) hS (Or.inl ⟨by kernel_rfl, fun w hS => (by clear hS; go_simp)⟩) ?_
    simp only [Act.put, List.setIfInBounds_toArray, List.set_cons_zero, List.set_cons_succ]
    refine wpAnyZ_take (i := 8) (v := .slice (some ⟨bF, 0, none⟩) N cF) rfl (by kernel_rfl) (by kernel_rfl) (by kernel_rfl) (by kernel_rfl) (fun _ _ _ h => h) hS (Or.inl ⟨by kernel_rfl, fun w hS => (by have hc := hS.1.1; clear hS; go_simp)⟩) ?_
    simp only [Act.put, List.setIfInBounds_toArray, List.set_cons_zero, List.set_cons_succ]
    refine wpAnyZ_take (i := 9) (v := .pointer (some ⟨gb, 1, none⟩)) rfl (by kernel_rfl) (by kernel_rfl) (by kernel_rfl) (by kernel_rfl) (fun _ _ _ h => h) hS (Or.inl ⟨by kernel_rfl, fun w hS => (by clear hS; go_simp)⟩) ?_
    simp only [Act.put, List.setIfInBounds_toArray, List.set_cons_zero, List.set_cons_succ]; try simp only [List.getElem_toArray, List.getElem_cons_succ, List.getElem_cons_zero]
    refine wpAnyZ_take (i := 10) (v := .int .i64 (k : Nat)) rfl (by kernel_rfl) (by kernel_rfl) (by kernel_rfl) (by kernel_rfl) (fun _ _ _ h => h) hS (Or.inl ⟨by kernel_rfl, fun w hS => (by have hc := hS.2; clear hS; go_simp)⟩) ?_
    simp only [Act.put, List.setIfInBounds_toArray, List.set_cons_zero, List.set_cons_succ]; try simp only [List.getElem_toArray, List.getElem_cons_succ, List.getElem_cons_zero]
    refine wpAnyZ_take (i := 11) (v := .pointer (some ⟨bF, k, none⟩)) rfl (by kernel_rfl) (by kernel_rfl) (by kernel_rfl) (by kernel_rfl) (fun _ _ _ h => h) hS (Or.inl ⟨by kernel_rfl, fun w hS => (by clear hS; go_simp)⟩) ?_
    simp only [Act.put, List.setIfInBounds_toArray, List.set_cons_zero, List.set_cons_succ]; try simp only [List.getElem_toArray, List.getElem_cons_succ, List.getElem_cons_zero]
    refine wpAnyZ_take (i := 12) (v := .slice (some ⟨bk, 0, none⟩) 256 ck) rfl (by kernel_rfl) (by kernel_rfl) (by kernel_rfl) (by kernel_rfl) (fun _ _ _ h => h) hS (Or.inl ⟨by kernel_rfl, fun w hS => (by have hc := hS.1.2; clear hS; go_simp)⟩) ?_
    simp only [Act.put, List.setIfInBounds_toArray, List.set_cons_zero, List.set_cons_succ]; try simp only [List.getElem_toArray, List.getElem_cons_succ, List.getElem_cons_zero]
    refine wpAnyZ_one (i := 13) (by kernel_rfl) rfl (fun K hK => ?_)
    go_simp
    go_at_call 20
    refine (refSame_yes pv (some ⟨bk, 0, none⟩) cv ck 256 L w9 HL.out.1 HVd.out HBK.out HL.out.2).mono ?_
    rintro e v8 ⟨rfl, rfl⟩
    go_wp2_with fail
    refine hK.out _ _ (fun _ => hS) ?_
    clear hK K
    try simp only [Act.put, List.setIfInBounds_toArray, List.set_cons_zero, List.set_cons_succ]; try simp only [List.getElem_toArray, List.getElem_cons_succ, List.getElem_cons_zero]
    refine wpAnyZ_take (i := 14) (v := .bool true) rfl (by kernel_rfl) (by kernel_rfl) (by kernel_rfl) (by kernel_rfl) (fun _ _ _ h => h) hS (Or.inl ⟨by kernel_rfl, fun w hS => (by clear hS; go_simp)⟩) ?_
    simp only [Act.put, List.setIfInBounds_toArray, List.set_cons_zero, List.set_cons_succ]; try simp only [List.getElem_toArray, List.getElem_cons_succ, List.getElem_cons_zero]
    refine wpAnyZ_one (i := 15) (by kernel_rfl) rfl (fun K hK => ?_)
    go_simp
    refine hK.out _ _ (fun _ => hS) ?_
    clear hK K
    try simp only [Act.put, List.setIfInBounds_toArray, List.set_cons_zero, List.set_cons_succ]; try simp only [List.getElem_toArray, List.getElem_cons_succ, List.getElem_cons_zero]
    refine wpAnyZ_one (i := 16) (by kernel_rfl) rfl (fun K hK => ?_)
    go_simp
    refine hK.out _ _ (fun _ => hS) ?_
    clear hK K
    try simp only [Act.put, List.setIfInBounds_toArray, List.set_cons_zero, List.set_cons_succ]; try simp only [List.getElem_toArray, List.getElem_cons_succ, List.getElem_cons_zero]
    refine wpAnyZ_done (by kernel_rfl) ?_ _
    clear hS
    go_wp2_with fail
    go_ret2
    exact ⟨_, _, T, rfl, HUd.out, HBd.out.1, HBd.out.2, HTF.out⟩

set_option maxHeartbeats 16000000 in
set_option maxRecDepth 100000 in
theorem does_cut {wR : World} {G : Nat → Prop} (B g g2 : Nat) (F F2 : Nat → Prop) (S : Dst) (i at0 : Int) (p3 : Option Addr) (c3 n3 : Nat) (b3 : List Int) (p4 : Option Addr) (c4 n4 : Nat) (b4 : List Int) (w : World) (hU : Duo wR G B w g g2 F F2 S S) (hBw : B ≤ w.heap.size)
    (hiw : (Lit.int .i64 i).wf = true) (haw : (Lit.int .i64 at0).wf = true) (h3 : Bin w p3 b3) (o3 : Oct b3) (l3 : b3.length = n3) (q3 : n3 ≤ c3) (m3 : n3 ≤ 140737488351232) (e3 : ∀ a, p3 = some a → 0 < n3 → a.block < B) (h4 : Bin w p4 b4) (o4 : Oct b4) (l4 : b4.length = n4) (q4 : n4 ≤ c4) (m4 : n4 ≤ 140737488351232) (e4 : ∀ a, p4 = some a → 0 < n4 → a.block < B) (hs : S.steps < 9223372036854775000) (hw : S.ws.length < 4294967000) :
    Calls Try.prog 21 #[.pointer (some ⟨g, 0, none⟩), .pointer (some ⟨g2, 0, none⟩), .agg #[.int .i64 6, .int .i64 i, .int .i64 at0, .slice p3 n3 c3, .slice p4 n4 c4]] w (PlaysAt wR G B w g g2 S) := by
  obtain ⟨w0, hw0⟩ : ∃ wa, Hid (wa = w.alloc (.cells #[.int .i64 6, .int .i64 i, .int .i64 at0, .slice p3 n3 c3, .slice p4 n4 c4] 41)) := ⟨_, rfl⟩
  have hb0 : Below w.heap.size w w0 := by rw [hw0.out]; exact (Below.refl _ _).alloc (Nat.le_refl _) _
  have H5 : Hid (Five w0 w.heap.size (.int .i64 6) (.int .i64 i) (.int .i64 at0) (.slice p3 n3 c3) (.slice p4 n4 c4)) := hid (by rw [hw0.out]; exact five_new _ _ _ _ _ _ _)
  have HU := hid (hU.below hb0)
  have HB := hid (bel_below (Below.refl B w) hBw hb0)
  have HFb := hid (own_box hU)
  have P3 := hid (h3.below hb0)
  have P4 := hid (h4.below hb0)
  have L3 := hid l3
  have L4 := hid l4
  have E3 := hid e3
  have E4 := hid e4
  have HS := hid (And.intro hs hw)
  obtain ⟨gb, hgb⟩ : ∃ g, Hid (g = w.heap.size) := ⟨_, rfl⟩
  rw [← hgb.out] at H5 HFb
  have HGB : Hid (gb < w0.heap.size) := hid H5.out.lt
  clear hb0 hU h3 h4 l3 l4 e3 e4 hs hw
  go_enter Try.func21, Try.ntmps21
  go_upto_region 1 with fail
  rw [← hw0.out, ← hgb.out]
  clear hw0 hgb
  obtain ⟨d0, d1, d2, d3, d4⟩ := H5.out
  have HP := hid (fun W h => dCut_of B g F S W h i hiw)
  have hib := i64_of_wf hiw
  have hmax := fun wx => max_i64 i (-1) (P := Try.prog) wx
  obtain ⟨mv, hmv⟩ : ∃ m : Int, Hid (m = if i < 0 then -1 else i) := ⟨_, rfl⟩
  rw [show (if (-1 : Int) > i then -1 else i) = (if i < 0 then -1 else i) from by split <;> split <;> omega, ← hmv.out] at hmax
  go_wp2_with fail
  refine (HP.out _ HU.out.p).mono ?_
  rintro e w1 ⟨rfl, hs⟩
  obtain ⟨F1, hu, ht, hn⟩ := HU.out.stepP hs
  have HB1 := hid (bel_step HB.out.1 HB.out.2 ht (fun q hq => (HU.out.lt1 q hq).1))
  have HU1 := hid hu
  have H51 := hid (H5.out.tb ht HFb.out.1)
  clear hs hu ht hn d0 d1 d2 d3 d4
  obtain ⟨d0, d1, d2, d3, d4⟩ := H51.out
  obtain ⟨x4, z4, x5, z5⟩ := HU1.out.r.cells
  obtain ⟨F9, hu, ht, hn⟩ := HU1.out.stepR (HU1.out.r.setCut (n := i) hib.2)
  rw [← hmv.out] at hu ht
  have HB9 := hid (bel_step HB1.out.1 HB1.out.2 ht (fun q hq => (HU1.out.lt2 q hq).1))
  have HU9 := hid hu
  have H59 := hid (H51.out.tb ht HFb.out.2)
  clear hu ht hn
  go_upto_region 45 with fail
  clear x4 z4 x5 z5 hmax d0 d1 d2 d3 d4 HP hib
  generalize World.setCell w1 _ _ = w8 at HU9 HB9 H59 ⊢
  obtain ⟨d0, d1, d2, d3, d4⟩ := H59.out
  obtain ⟨T, hT⟩ : ∃ T, Hid (T = S.setCut i) := ⟨_, rfl⟩
  rw [← hT.out] at HU9
  have HTF : Hid (T.n = S.n ∧ T.steps ≤ S.steps + 1 ∧ T.ws.length ≤ S.ws.length + 1) := hid (by rw [hT.out]; exact ⟨rfl, Nat.le_succ _, Nat.le_succ _⟩)
  clear hT
  have HFM := hid (dFirm_of B g F1 (T) _ HU9.out.p i hiw)
  have HHS := hid (fun W h => rHas_of B g2 F9 (T) i W h)
  have HNB := hid (And.intro HFb.out HGB.out)
  go_wp2_with fail
  refine HFM.out.mono ?_
  rintro e w20 ⟨v, rfl, hO, hb⟩
  have HU20 := hid (HU9.out.below hb)
  have HB20 := hid (bel_below HB9.out.1 HB9.out.2 hb)
  have H520 := hid (H59.out.below hb)
  have HO := hid hO
  clear hO hb HFM d0 d1 d2 d3 d4
  obtain ⟨d0, d1, d2, d3, d4⟩ := H520.out
  by_cases hh : (T).has i = false
  · have e1 : (T).firmE i = 2 := if_pos hh
    have e2 : (T).firmL i = [] := if_pos hh
    have hO := HO.out
    rw [e2, List.length_nil] at hO
    obtain ⟨pv, cv, rfl, _, _⟩ := hO.bin
    rw [e1]
    rw [hh] at HHS
    clear e1 e2 hO HO
    go_wp2_with fail
    refine (HHS.out _ HU20.out.r).mono ?_
    rintro e w' ⟨rfl, rfl⟩
    clear d0 d1 d2 d3 d4
    go_wp2_with fail
    go_ret2
    exact ⟨_, _, T, rfl, HU20.out, HB20.out.1, HB20.out.2, HTF.out⟩
  · have hht : (T).has i = true := by simpa using hh
    rw [hht] at HHS
    obtain ⟨hi0, hi1, hi2⟩ := Dst.has_lt hh
    obtain ⟨k, rfl⟩ : ∃ k : Nat, i = (k : Int) := ⟨i.toNat, by omega⟩
    rw [Int.toNat_natCast] at hi2
    have e1 : (T).firmE (k : Int) = 0 := if_neg hh
    have e2 : (T).firmL (k : Int) = (T).firm k := by unfold Dst.firmL; rw [if_neg hh, Int.toNat_natCast]
    have hl := (HU20.out.p.ok.firm k hi2)
    obtain ⟨L, hL⟩ : ∃ l, Hid (l = (T).firm k) := ⟨_, rfl⟩
    have hO := HO.out
    rw [e2, ← hL.out] at hO
    rw [← hL.out] at hl
    rw [e1]
    rw [hl.1] at hO
    obtain ⟨pv, cv, rfl, _, hbv⟩ := hO.bin
    have HBV := hid hbv
    have HL := hid hl
    have hl1 := hl.1
    clear e1 e2 hO HO hbv hl
    try rw [hl1]
    clear hl1
    go_wp2_with fail
    refine (HHS.out _ HU20.out.r).mono ?_
    rintro e w' ⟨rfl, rfl⟩
    clear d0 d1 d2 d3 d4
    go_upto_region 48 with fail
    have HUd := hid (HU20.out.below ((Below.refl _ _).drew))
    have HBd := hid (bel_below HB20.out.1 HB20.out.2 ((Below.refl _ _).drew))
    have H5d := hid (H520.out.below ((Below.refl _ _).drew))
    have HVd := hid (HBV.out.below ((Below.refl _ _).drew))
    obtain ⟨vN, VN, vF, VF, vW, VW, hv⟩ := HUd.out.r.at'
    obtain ⟨bF, cF, rfl, _⟩ := hv.rF.isSlice (by omega)
    obtain ⟨bk, ck, hVk, _, hbk⟩ := (hv.rF.row k hi2).isSlice (by decide)
    rw [← hL.out] at hbk
    obtain ⟨N, hN⟩ : ∃ n, Hid (n = (T).n) := ⟨_, rfl⟩
    have hcF := hv.c1
    have hck := (hv.rF.cellAt k hi2).trans (congrArg some hVk)
    rw [show (T).n = N from hN.out.symm] at hcF hi1
    have hS0 : (fun v => (v.cell? ⟨g2, 1, none⟩ = some (.slice (some ⟨bF, 0, none⟩) N cF) ∧ v.cell? ⟨bF, k, none⟩ = some (.slice (some ⟨bk, 0, none⟩) 256 ck)) ∧ v.cell? ⟨gb, 1, none⟩ = some (.int .i64 (k : Nat))) w20.drew := ⟨⟨hcF, hck⟩, H5d.out.c1⟩
    have HBK := hid hbk
    clear hv hbk hcF hck hVk
    refine wp_region_z (fun v => (v.cell? ⟨g2, 1, none⟩ = some (.slice (some ⟨bF, 0, none⟩) N cF) ∧ v.cell? ⟨bF, k, none⟩ = some (.slice (some ⟨bk, 0, none⟩) 256 ck)) ∧ v.cell? ⟨gb, 1, none⟩ = some (.int .i64 (k : Nat))) 17 (by kernel_rfl) hS0 (fun hS => ?_)
    clear hS0
    generalize World.drew _ = w9 at hS HUd HBd HVd HBK ⊢
    refine wpAnyZ_take (i := 0) (v := .pointer (some ⟨g, 0, none⟩)) rfl (by kernel_rfl) (by kernel_rfl) (by kernel_rfl) (by kernel_rfl) (fun _ _ _ h => h) hS (Or.inl ⟨by kernel_rfl, fun w hS => (by clear hS; go_simp)⟩) ?_
    simp only [Act.put, List.setIfInBounds_toArray, List.set_cons_zero, List.set_cons_succ]
    refine wpAnyZ_take (i := 1) (v := .int .i64 0) rfl (by kernel_rfl) (by kernel_rfl) (by kernel_rfl) (by kernel_rfl) (fun _ _ _ h => h) hS (Or.inl ⟨by kernel_rfl, fun w hS => (by clear hS; go_simp)⟩) ?_
    simp only [Act.put, List.setIfInBounds_toArray, List.set_cons_zero, List.set_cons_succ]
    refine wpAnyZ_take (i := 2) (v := .bool true) rfl (by kernel_rfl) (by kernel_rfl) (by kernel_rfl) (by kernel_rfl) (fun _ _ _ h => h) hS (Or.inl ⟨by kernel_rfl, fun w hS => (by clear hS; go_simp)⟩) ?_
    simp only [Act.put, List.setIfInBounds_toArray, List.set_cons_zero, List.set_cons_succ]
    refine wpAnyZ_take (i := 3) (v := .bool true) rfl (by kernel_rfl) (by kernel_rfl) (by kernel_rfl) (by kernel_rfl) (fun _ _ _ h => h) hS (Or.inl ⟨by kernel_rfl, fun w hS => (by clear hS; go_simp)⟩) ?_
    simp only [Act.put, List.setIfInBounds_toArray, List.set_cons_zero, List.set_cons_succ]
    refine wpAnyZ_take (i := 4) (v := .slice pv 256 cv) rfl (by kernel_rfl) (by kernel_rfl) (by kernel_rfl) (by kernel_rfl) (fun _ _ _ h => h) hS (Or.inl ⟨by kernel_rfl, fun w hS => (by clear hS; go_simp)⟩) ?_
    simp only [Act.put, List.setIfInBounds_toArray, List.set_cons_zero, List.set_cons_succ]
    refine wpAnyZ_take (i := 5) (v := .pointer (some ⟨g2, 0, none⟩)) rfl (by kernel_rfl) (by kernel_rfl) (by kernel_rfl) (by kernel_rfl) (fun _ _ _ h => h) hS (Or.inl ⟨by kernel_rfl, fun w hS => (by clear hS; go_simp)⟩) ?_
    simp only [Act.put, List.setIfInBounds_toArray, List.set_cons_zero, List.set_cons_succ]
    refine wpAnyZ_take (i := 6) (v := .pointer (some ⟨g2, 0, none⟩)) rfl (by kernel_rfl) (by kernel_rfl) (by kernel_rfl) (by kernel_rfl) (fun _ _ _ h => h) hS (Or.inl ⟨by kernel_rfl, fun w hS => (by clear hS; go_simp)⟩) ?_
    simp only [Act.put, List.setIfInBounds_toArray, List.set_cons_zero, List.set_cons_succ]
    refine wpAnyZ_take (i := 7) (v := .pointer (some ⟨g2, 1, none⟩)) rfl (by kernel_rfl) (by kernel_rfl) (by kernel_rfl) (by kernel_rfl) (fun _ _ _ h => h) hS (Or.inl ⟨by kernel_rfl, fun w hS => (by clear hS; go_simp)⟩) ?_
    simp only [Act.put, List.setIfInBounds_toArray, List.set_cons_zero, List.set_cons_succ]
    refine wpAnyZ_take (i := 8) (v := .slice (some ⟨bF, 0, none⟩) N cF) rfl (by kernel_rfl) (by kernel_rfl) (by kernel_rfl) (by kernel_rfl) (fun _ _ _ h => h) hS (Or.inl ⟨by kernel_rfl, fun w hS => (by have hc := hS.1.1; clear hS; go_simp)⟩) ?_
    simp only [Act.put, List.setIfInBounds_toArray, List.set_cons_zero, List.set_cons_succ]
    refine wpAnyZ_take (i := 9) (v := .pointer (some ⟨gb, 1, none⟩)) rfl (by kernel_rfl) (by kernel_rfl) (by kernel_rfl) (by kernel_rfl) (fun _ _ _ h => h) hS (Or.inl ⟨by kernel_rfl, fun w hS => (by clear hS; go_simp)⟩) ?_
    simp only [Act.put, List.setIfInBounds_toArray, List.set_cons_zero, List.set_cons_succ]; try simp only [List.getElem_toArray, List.getElem_cons_succ, List.getElem_cons_zero]
    refine wpAnyZ_take (i := 10) (v := .int .i64 (k : Nat)) rfl (by kernel_rfl) (by kernel_rfl) (by kernel_rfl) (by kernel_rfl) (fun _ _ _ h => h) hS (Or.inl ⟨by kernel_rfl, fun w hS => (by have hc := hS.2; clear hS; go_simp)⟩) ?_
    simp only [Act.put, List.setIfInBounds_toArray, List.set_cons_zero, List.set_cons_succ]; try simp only [List.getElem_toArray, List.getElem_cons_succ, List.getElem_cons_zero]
    refine wpAnyZ_take (i := 11) (v := .pointer (some ⟨bF, k, none⟩)) rfl (by kernel_rfl) (by kernel_rfl) (by kernel_rfl) (by kernel_rfl) (fun _ _ _ h => h) hS (Or.inl ⟨by kernel_rfl, fun w hS => (by clear hS; go_simp)⟩) ?_
    simp only [Act.put, List.setIfInBounds_toArray, List.set_cons_zero, List.set_cons_succ]; try simp only [List.getElem_toArray, List.getElem_cons_succ, List.getElem_cons_zero]
    refine wpAnyZ_take (i := 12) (v := .slice (some ⟨bk, 0, none⟩) 256 ck) rfl (by kernel_rfl) (by kernel_rfl) (by kernel_rfl) (by kernel_rfl) (fun _ _ _ h => h) hS (Or.inl ⟨by kernel_rfl, fun w hS => (by have hc := hS.1.2; clear hS; go_simp)⟩) ?_
    simp only [Act.put, List.setIfInBounds_toArray, List.set_cons_zero, List.set_cons_succ]; try simp only [List.getElem_toArray, List.getElem_cons_succ, List.getElem_cons_zero]
    refine wpAnyZ_one (i := 13) (by kernel_rfl) rfl (fun K hK => ?_)
    go_simp
    go_at_call 20
    refine (refSame_yes pv (some ⟨bk, 0, none⟩) cv ck 256 L w9 HL.out.1 HVd.out HBK.out HL.out.2).mono ?_
    rintro e v8 ⟨rfl, rfl⟩
    go_wp2_with fail
    refine hK.out _ _ (fun _ => hS) ?_
    clear hK K
    try simp only [Act.put, List.setIfInBounds_toArray, List.set_cons_zero, List.set_cons_succ]; try simp only [List.getElem_toArray, List.getElem_cons_succ, List.getElem_cons_zero]
    refine wpAnyZ_take (i := 14) (v := .bool true) rfl (by kernel_rfl) (by kernel_rfl) (by kernel_rfl) (by kernel_rfl) (fun _ _ _ h => h) hS (Or.inl ⟨by kernel_rfl, fun w hS => (by clear hS; go_simp)⟩) ?_
    simp only [Act.put, List.setIfInBounds_toArray, List.set_cons_zero, List.set_cons_succ]; try simp only [List.getElem_toArray, List.getElem_cons_succ, List.getElem_cons_zero]
    refine wpAnyZ_one (i := 15) (by kernel_rfl) rfl (fun K hK => ?_)
    go_simp
    refine hK.out _ _ (fun _ => hS) ?_
    clear hK K
    try simp only [Act.put, List.setIfInBounds_toArray, List.set_cons_zero, List.set_cons_succ]; try simp only [List.getElem_toArray, List.getElem_cons_succ, List.getElem_cons_zero]
    refine wpAnyZ_one (i := 16) (by kernel_rfl) rfl (fun K hK => ?_)
    go_simp
    refine hK.out _ _ (fun _ => hS) ?_
    clear hK K
    try simp only [Act.put, List.setIfInBounds_toArray, List.set_cons_zero, List.set_cons_succ]; try simp only [List.getElem_toArray, List.getElem_cons_succ, List.getElem_cons_zero]
    refine wpAnyZ_done (by kernel_rfl) ?_ _
    clear hS
    go_wp2_with fail
    go_ret2
    exact ⟨_, _, T, rfl, HUd.out, HBd.out.1, HBd.out.2, HTF.out⟩

set_option maxHeartbeats 16000000 in
set_option maxRecDepth 100000 in
theorem does_else {wR : World} {G : Nat → Prop} (B g g2 : Nat) (F F2 : Nat → Prop) (S : Dst) (kd : Int) (i at0 : Int) (p3 : Option Addr) (c3 n3 : Nat) (b3 : List Int) (p4 : Option Addr) (c4 n4 : Nat) (b4 : List Int) (w : World) (hU : Duo wR G B w g g2 F F2 S S) (hBw : B ≤ w.heap.size) (hk : ∀ j : Int, 1 ≤ j → j ≤ 10 → ¬ kd = j)
    (hiw : (Lit.int .i64 i).wf = true) (haw : (Lit.int .i64 at0).wf = true) (h3 : Bin w p3 b3) (o3 : Oct b3) (l3 : b3.length = n3) (q3 : n3 ≤ c3) (m3 : n3 ≤ 140737488351232) (e3 : ∀ a, p3 = some a → 0 < n3 → a.block < B) (h4 : Bin w p4 b4) (o4 : Oct b4) (l4 : b4.length = n4) (q4 : n4 ≤ c4) (m4 : n4 ≤ 140737488351232) (e4 : ∀ a, p4 = some a → 0 < n4 → a.block < B) (hs : S.steps < 9223372036854775000) (hw : S.ws.length < 4294967000) :
    Calls Try.prog 21 #[.pointer (some ⟨g, 0, none⟩), .pointer (some ⟨g2, 0, none⟩), .agg #[.int .i64 kd, .int .i64 i, .int .i64 at0, .slice p3 n3 c3, .slice p4 n4 c4]] w (PlaysAt wR G B w g g2 S) := by
  obtain ⟨w0, hw0⟩ : ∃ wa, Hid (wa = w.alloc (.cells #[.int .i64 kd, .int .i64 i, .int .i64 at0, .slice p3 n3 c3, .slice p4 n4 c4] 41)) := ⟨_, rfl⟩
  have hb0 : Below w.heap.size w w0 := by rw [hw0.out]; exact (Below.refl _ _).alloc (Nat.le_refl _) _
  have H5 : Hid (Five w0 w.heap.size (.int .i64 kd) (.int .i64 i) (.int .i64 at0) (.slice p3 n3 c3) (.slice p4 n4 c4)) := hid (by rw [hw0.out]; exact five_new _ _ _ _ _ _ _)
  have HU := hid (hU.below hb0)
  have HB := hid (bel_below (Below.refl B w) hBw hb0)
  have HFb := hid (own_box hU)
  have P3 := hid (h3.below hb0)
  have P4 := hid (h4.below hb0)
  have L3 := hid l3
  have L4 := hid l4
  have E3 := hid e3
  have E4 := hid e4
  have HS := hid (And.intro hs hw)
  obtain ⟨gb, hgb⟩ : ∃ g, Hid (g = w.heap.size) := ⟨_, rfl⟩
  rw [← hgb.out] at H5 HFb
  have HGB : Hid (gb < w0.heap.size) := hid H5.out.lt
  clear hb0 hU h3 h4 l3 l4 e3 e4 hs hw
  go_enter Try.func21, Try.ntmps21
  go_upto_region 1 with fail
  rw [← hw0.out, ← hgb.out]
  clear hw0 hgb
  obtain ⟨d0, d1, d2, d3, d4⟩ := H5.out
  obtain ⟨j1, j2, j3, j4, j5, j6, j7, j8, j9, j10⟩ := And.intro (hk 1 (by decide) (by decide)) (And.intro (hk 2 (by decide) (by decide)) (And.intro (hk 3 (by decide) (by decide)) (And.intro (hk 4 (by decide) (by decide)) (And.intro (hk 5 (by decide) (by decide)) (And.intro (hk 6 (by decide) (by decide)) (And.intro (hk 7 (by decide) (by decide)) (And.intro (hk 8 (by decide) (by decide)) (And.intro (hk 9 (by decide) (by decide)) (hk 10 (by decide) (by decide))))))))))
  clear hk
  have HFM := hid (dFirm_of B g F (S) _ HU.out.p i hiw)
  have HHS := hid (fun W h => rHas_of B g2 F2 (S) i W h)
  have HNB := hid (And.intro HFb.out HGB.out)
  go_wp2_with fail
  refine HFM.out.mono ?_
  rintro e w20 ⟨v, rfl, hO, hb⟩
  have HU20 := hid (HU.out.below hb)
  have HB20 := hid (bel_below HB.out.1 HB.out.2 hb)
  have H520 := hid (H5.out.below hb)
  have HO := hid hO
  clear hO hb HFM d0 d1 d2 d3 d4
  obtain ⟨d0, d1, d2, d3, d4⟩ := H520.out
  by_cases hh : (S).has i = false
  · have e1 : (S).firmE i = 2 := if_pos hh
    have e2 : (S).firmL i = [] := if_pos hh
    have hO := HO.out
    rw [e2, List.length_nil] at hO
    obtain ⟨pv, cv, rfl, _, _⟩ := hO.bin
    rw [e1]
    rw [hh] at HHS
    clear e1 e2 hO HO
    go_wp2_with fail
    refine (HHS.out _ HU20.out.r).mono ?_
    rintro e w' ⟨rfl, rfl⟩
    clear d0 d1 d2 d3 d4
    go_wp2_with fail
    go_ret2
    exact ⟨_, _, S, rfl, HU20.out, HB20.out.1, HB20.out.2, rfl, Nat.le_succ _, Nat.le_succ _⟩
  · have hht : (S).has i = true := by simpa using hh
    rw [hht] at HHS
    obtain ⟨hi0, hi1, hi2⟩ := Dst.has_lt hh
    obtain ⟨k, rfl⟩ : ∃ k : Nat, i = (k : Int) := ⟨i.toNat, by omega⟩
    rw [Int.toNat_natCast] at hi2
    have e1 : (S).firmE (k : Int) = 0 := if_neg hh
    have e2 : (S).firmL (k : Int) = (S).firm k := by unfold Dst.firmL; rw [if_neg hh, Int.toNat_natCast]
    have hl := (HU20.out.p.ok.firm k hi2)
    obtain ⟨L, hL⟩ : ∃ l, Hid (l = (S).firm k) := ⟨_, rfl⟩
    have hO := HO.out
    rw [e2, ← hL.out] at hO
    rw [← hL.out] at hl
    rw [e1]
    rw [hl.1] at hO
    obtain ⟨pv, cv, rfl, _, hbv⟩ := hO.bin
    have HBV := hid hbv
    have HL := hid hl
    have hl1 := hl.1
    clear e1 e2 hO HO hbv hl
    try rw [hl1]
    clear hl1
    go_wp2_with fail
    refine (HHS.out _ HU20.out.r).mono ?_
    rintro e w' ⟨rfl, rfl⟩
    clear d0 d1 d2 d3 d4
    go_upto_region 48 with fail
    have HUd := hid (HU20.out.below ((Below.refl _ _).drew))
    have HBd := hid (bel_below HB20.out.1 HB20.out.2 ((Below.refl _ _).drew))
    have H5d := hid (H520.out.below ((Below.refl _ _).drew))
    have HVd := hid (HBV.out.below ((Below.refl _ _).drew))
    obtain ⟨vN, VN, vF, VF, vW, VW, hv⟩ := HUd.out.r.at'
    obtain ⟨bF, cF, rfl, _⟩ := hv.rF.isSlice (by omega)
    obtain ⟨bk, ck, hVk, _, hbk⟩ := (hv.rF.row k hi2).isSlice (by decide)
    rw [← hL.out] at hbk
    obtain ⟨N, hN⟩ : ∃ n, Hid (n = (S).n) := ⟨_, rfl⟩
    have hcF := hv.c1
    have hck := (hv.rF.cellAt k hi2).trans (congrArg some hVk)
    rw [show (S).n = N from hN.out.symm] at hcF hi1
    have hS0 : (fun v => (v.cell? ⟨g2, 1, none⟩ = some (.slice (some ⟨bF, 0, none⟩) N cF) ∧ v.cell? ⟨bF, k, none⟩ = some (.slice (some ⟨bk, 0, none⟩) 256 ck)) ∧ v.cell? ⟨gb, 1, none⟩ = some (.int .i64 (k : Nat))) w20.drew := ⟨⟨hcF, hck⟩, H5d.out.c1⟩
    have HBK := hid hbk
    clear hv hbk hcF hck hVk
    refine wp_region_z (fun v => (v.cell? ⟨g2, 1, none⟩ = some (.slice (some ⟨bF, 0, none⟩) N cF) ∧ v.cell? ⟨bF, k, none⟩ = some (.slice (some ⟨bk, 0, none⟩) 256 ck)) ∧ v.cell? ⟨gb, 1, none⟩ = some (.int .i64 (k : Nat))) 17 (by kernel_rfl) hS0 (fun hS => ?_)
    clear hS0
    generalize World.drew _ = w9 at hS HUd HBd HVd HBK ⊢
    refine wpAnyZ_take (i := 0) (v := .pointer (some ⟨g, 0, none⟩)) rfl (by kernel_rfl) (by kernel_rfl) (by kernel_rfl) (by kernel_rfl) (fun _ _ _ h => h) hS (Or.inl ⟨by kernel_rfl, fun w hS => (by clear hS; go_simp)⟩) ?_
    simp only [Act.put, List.setIfInBounds_toArray, List.set_cons_zero, List.set_cons_succ]
    refine wpAnyZ_take (i := 1) (v := .int .i64 0) rfl (by kernel_rfl) (by kernel_rfl) (by kernel_rfl) (by kernel_rfl) (fun _ _ _ h => h) hS (Or.inl ⟨by kernel_rfl, fun w hS => (by clear hS; go_simp)⟩) ?_
    simp only [Act.put, List.setIfInBounds_toArray, List.set_cons_zero, List.set_cons_succ]
    refine wpAnyZ_take (i := 2) (v := .bool true) rfl (by kernel_rfl) (by kernel_rfl) (by kernel_rfl) (by kernel_rfl) (fun _ _ _ h => h) hS (Or.inl ⟨by kernel_rfl, fun w hS => (by clear hS; go_simp)⟩) ?_
    simp only [Act.put, List.setIfInBounds_toArray, List.set_cons_zero, List.set_cons_succ]
    refine wpAnyZ_take (i := 3) (v := .bool true) rfl (by kernel_rfl) (by kernel_rfl) (by kernel_rfl) (by kernel_rfl) (fun _ _ _ h => h) hS (Or.inl ⟨by kernel_rfl, fun w hS => (by clear hS; go_simp)⟩) ?_
    simp only [Act.put, List.setIfInBounds_toArray, List.set_cons_zero, List.set_cons_succ]
    refine wpAnyZ_take (i := 4) (v := .slice pv 256 cv) rfl (by kernel_rfl) (by kernel_rfl) (by kernel_rfl) (by kernel_rfl) (fun _ _ _ h => h) hS (Or.inl ⟨by kernel_rfl, fun w hS => (by clear hS; go_simp)⟩) ?_
    simp only [Act.put, List.setIfInBounds_toArray, List.set_cons_zero, List.set_cons_succ]
    refine wpAnyZ_take (i := 5) (v := .pointer (some ⟨g2, 0, none⟩)) rfl (by kernel_rfl) (by kernel_rfl) (by kernel_rfl) (by kernel_rfl) (fun _ _ _ h => h) hS (Or.inl ⟨by kernel_rfl, fun w hS => (by clear hS; go_simp)⟩) ?_
    simp only [Act.put, List.setIfInBounds_toArray, List.set_cons_zero, List.set_cons_succ]
    refine wpAnyZ_take (i := 6) (v := .pointer (some ⟨g2, 0, none⟩)) rfl (by kernel_rfl) (by kernel_rfl) (by kernel_rfl) (by kernel_rfl) (fun _ _ _ h => h) hS (Or.inl ⟨by kernel_rfl, fun w hS => (by clear hS; go_simp)⟩) ?_
    simp only [Act.put, List.setIfInBounds_toArray, List.set_cons_zero, List.set_cons_succ]
    refine wpAnyZ_take (i := 7) (v := .pointer (some ⟨g2, 1, none⟩)) rfl (by kernel_rfl) (by kernel_rfl) (by kernel_rfl) (by kernel_rfl) (fun _ _ _ h => h) hS (Or.inl ⟨by kernel_rfl, fun w hS => (by clear hS; go_simp)⟩) ?_
    simp only [Act.put, List.setIfInBounds_toArray, List.set_cons_zero, List.set_cons_succ]
    refine wpAnyZ_take (i := 8) (v := .slice (some ⟨bF, 0, none⟩) N cF) rfl (by kernel_rfl) (by kernel_rfl) (by kernel_rfl) (by kernel_rfl) (fun _ _ _ h => h) hS (Or.inl ⟨by kernel_rfl, fun w hS => (by have hc := hS.1.1; clear hS; go_simp)⟩) ?_
    simp only [Act.put, List.setIfInBounds_toArray, List.set_cons_zero, List.set_cons_succ]
    refine wpAnyZ_take (i := 9) (v := .pointer (some ⟨gb, 1, none⟩)) rfl (by kernel_rfl) (by kernel_rfl) (by kernel_rfl) (by kernel_rfl) (fun _ _ _ h => h) hS (Or.inl ⟨by kernel_rfl, fun w hS => (by clear hS; go_simp)⟩) ?_
    simp only [Act.put, List.setIfInBounds_toArray, List.set_cons_zero, List.set_cons_succ]; try simp only [List.getElem_toArray, List.getElem_cons_succ, List.getElem_cons_zero]
    refine wpAnyZ_take (i := 10) (v := .int .i64 (k : Nat)) rfl (by kernel_rfl) (by kernel_rfl) (by kernel_rfl) (by kernel_rfl) (fun _ _ _ h => h) hS (Or.inl ⟨by kernel_rfl, fun w hS => (by have hc := hS.2; clear hS; go_simp)⟩) ?_
    simp only [Act.put, List.setIfInBounds_toArray, List.set_cons_zero, List.set_cons_succ]; try simp only [List.getElem_toArray, List.getElem_cons_succ, List.getElem_cons_zero]
    refine wpAnyZ_take (i := 11) (v := .pointer (some ⟨bF, k, none⟩)) rfl (by kernel_rfl) (by kernel_rfl) (by kernel_rfl) (by kernel_rfl) (fun _ _ _ h => h) hS (Or.inl ⟨by kernel_rfl, fun w hS => (by clear hS; go_simp)⟩) ?_
    simp only [Act.put, List.setIfInBounds_toArray, List.set_cons_zero, List.set_cons_succ]; try simp only [List.getElem_toArray, List.getElem_cons_succ, List.getElem_cons_zero]
    refine wpAnyZ_take (i := 12) (v := .slice (some ⟨bk, 0, none⟩) 256 ck) rfl (by kernel_rfl) (by kernel_rfl) (by kernel_rfl) (by kernel_rfl) (fun _ _ _ h => h) hS (Or.inl ⟨by kernel_rfl, fun w hS => (by have hc := hS.1.2; clear hS; go_simp)⟩) ?_
    simp only [Act.put, List.setIfInBounds_toArray, List.set_cons_zero, List.set_cons_succ]; try simp only [List.getElem_toArray, List.getElem_cons_succ, List.getElem_cons_zero]
    refine wpAnyZ_one (i := 13) (by kernel_rfl) rfl (fun K hK => ?_)
    go_simp
    go_at_call 20
    refine (refSame_yes pv (some ⟨bk, 0, none⟩) cv ck 256 L w9 HL.out.1 HVd.out HBK.out HL.out.2).mono ?_
    rintro e v8 ⟨rfl, rfl⟩
    go_wp2_with fail
    refine hK.out _ _ (fun _ => hS) ?_
    clear hK K
    try simp only [Act.put, List.setIfInBounds_toArray, List.set_cons_zero, List.set_cons_succ]; try simp only [List.getElem_toArray, List.getElem_cons_succ, List.getElem_cons_zero]
    refine wpAnyZ_take (i := 14) (v := .bool true) rfl (by kernel_rfl) (by kernel_rfl) (by kernel_rfl) (by kernel_rfl) (fun _ _ _ h => h) hS (Or.inl ⟨by kernel_rfl, fun w hS => (by clear hS; go_simp)⟩) ?_
    simp only [Act.put, List.setIfInBounds_toArray, List.set_cons_zero, List.set_cons_succ]; try simp only [List.getElem_toArray, List.getElem_cons_succ, List.getElem_cons_zero]
    refine wpAnyZ_one (i := 15) (by kernel_rfl) rfl (fun K hK => ?_)
    go_simp
    refine hK.out _ _ (fun _ => hS) ?_
    clear hK K
    try simp only [Act.put, List.setIfInBounds_toArray, List.set_cons_zero, List.set_cons_succ]; try simp only [List.getElem_toArray, List.getElem_cons_succ, List.getElem_cons_zero]
    refine wpAnyZ_one (i := 16) (by kernel_rfl) rfl (fun K hK => ?_)
    go_simp
    refine hK.out _ _ (fun _ => hS) ?_
    clear hK K
    try simp only [Act.put, List.setIfInBounds_toArray, List.set_cons_zero, List.set_cons_succ]; try simp only [List.getElem_toArray, List.getElem_cons_succ, List.getElem_cons_zero]
    refine wpAnyZ_done (by kernel_rfl) ?_ _
    clear hS
    go_wp2_with fail
    go_ret2
    exact ⟨_, _, S, rfl, HUd.out, HBd.out.1, HBd.out.2, rfl, Nat.le_succ _, Nat.le_succ _⟩

theorem bin_elder {w w' : World} {F : Nat → Prop} {p : Option Addr} {xs : List Int} {n : Nat} (h : Bin w p xs) (hl : xs.length = n) (ht : Tb F w w') (hne : ∀ a, p = some a → 0 < n → ¬ F a.block) : Bin w' p xs := fun hn => by
  obtain ⟨b, o, rfl, hlt, hc⟩ := h.at hn
  exact ⟨b, o, rfl, fun i hi => (ht.cell (p := ⟨b, o + i, none⟩) hlt (hne ⟨b, o, none⟩ rfl (by omega))).trans (hc i hi)⟩

set_option maxHeartbeats 16000000 in
set_option maxRecDepth 100000 in
theorem does_crash {wR : World} {G : Nat → Prop} (B g g2 : Nat) (F F2 : Nat → Prop) (S : Dst) (i at0 : Int) (p3 : Option Addr) (c3 n3 : Nat) (b3 : List Int) (p4 : Option Addr) (c4 n4 : Nat) (b4 : List Int) (w : World) (hU : Duo wR G B w g g2 F F2 S S) (hBw : B ≤ w.heap.size)
    (hiw : (Lit.int .i64 i).wf = true) (haw : (Lit.int .i64 at0).wf = true) (h3 : Bin w p3 b3) (o3 : Oct b3) (l3 : b3.length = n3) (q3 : n3 ≤ c3) (m3 : n3 ≤ 140737488351232) (e3 : ∀ a, p3 = some a → 0 < n3 → a.block < B) (h4 : Bin w p4 b4) (o4 : Oct b4) (l4 : b4.length = n4) (q4 : n4 ≤ c4) (m4 : n4 ≤ 140737488351232) (e4 : ∀ a, p4 = some a → 0 < n4 → a.block < B) (hs : S.steps < 9223372036854775000) (hw : S.ws.length < 4294967000) :
    Calls Try.prog 21 #[.pointer (some ⟨g, 0, none⟩), .pointer (some ⟨g2, 0, none⟩), .agg #[.int .i64 7, .int .i64 i, .int .i64 at0, .slice p3 n3 c3, .slice p4 n4 c4]] w (PlaysAt wR G B w g g2 S) := by
  obtain ⟨w0, hw0⟩ : ∃ wa, Hid (wa = w.alloc (.cells #[.int .i64 7, .int .i64 i, .int .i64 at0, .slice p3 n3 c3, .slice p4 n4 c4] 41)) := ⟨_, rfl⟩
  have hb0 : Below w.heap.size w w0 := by rw [hw0.out]; exact (Below.refl _ _).alloc (Nat.le_refl _) _
  have H5 : Hid (Five w0 w.heap.size (.int .i64 7) (.int .i64 i) (.int .i64 at0) (.slice p3 n3 c3) (.slice p4 n4 c4)) := hid (by rw [hw0.out]; exact five_new _ _ _ _ _ _ _)
  have HU := hid (hU.below hb0)
  have HB := hid (bel_below (Below.refl B w) hBw hb0)
  have HFb := hid (own_box hU)
  have P3 := hid (h3.below hb0)
  have P4 := hid (h4.below hb0)
  have L3 := hid l3
  have L4 := hid l4
  have E3 := hid e3
  have E4 := hid e4
  have HS := hid (And.intro hs hw)
  obtain ⟨gb, hgb⟩ : ∃ g, Hid (g = w.heap.size) := ⟨_, rfl⟩
  rw [← hgb.out] at H5 HFb
  have HGB : Hid (gb < w0.heap.size) := hid H5.out.lt
  clear hb0 hU h3 h4 l3 l4 e3 e4 hs hw
  go_enter Try.func21, Try.ntmps21
  go_upto_region 1 with fail
  rw [← hw0.out, ← hgb.out]
  clear hw0 hgb
  obtain ⟨d0, d1, d2, d3, d4⟩ := H5.out
  have HR := hid (fun W h hp hF => rCrash_of B g2 F2 S p4 c4 n4 b4 W h hp o4 L4.out m4 hF (by have := HS.out.2; omega))
  have HP := hid (fun W h hp hF => dCrash_of B g F S W h p4 c4 n4 b4 hp o4 L4.out q4 m4 hF)
  go_wp2_with fail
  refine (HR.out _ HU.out.r P4.out (fun a ha hn h => by have := E4.out a ha hn; have := (HU.out.lt2 _ h).1; omega)).mono ?_
  rintro e w1 ⟨rfl, hs⟩
  obtain ⟨F1, hu, ht, hn⟩ := HU.out.stepR hs
  have HB1 := hid (bel_step HB.out.1 HB.out.2 ht (fun q hq => (HU.out.lt2 q hq).1))
  have HU1 := hid hu
  have H51 := hid (H5.out.tb ht HFb.out.2)
  have P41 := hid (bin_elder P4.out L4.out ht (fun a ha hn h => by have := E4.out a ha hn; have := (HU.out.lt2 _ h).1; omega))
  clear hs hu ht hn d0 d1 d2 d3 d4
  obtain ⟨d0, d1, d2, d3, d4⟩ := H51.out
  go_wp2_with fail
  refine (HP.out _ HU1.out.p P41.out (fun a ha hn h => by have := E4.out a ha hn; have := (HU1.out.lt1 _ h).1; omega)).mono ?_
  rintro e w2 ⟨rfl, hs⟩
  obtain ⟨F2, hu, ht, hn⟩ := HU1.out.stepP hs
  have HB2 := hid (bel_step HB1.out.1 HB1.out.2 ht (fun q hq => (HU1.out.lt1 q hq).1))
  have HU2 := hid hu
  clear hs hu ht hn d0 d1 d2 d3 d4
  go_wp2_with fail
  go_ret2
  exact ⟨_, _, S.crash (b4.map Int.toNat), rfl, HU2.out, HB2.out.1, HB2.out.2, rfl, Nat.le_succ _, Nat.zero_le _⟩
end Go.Proofs.Ytlbhoijjbpjmoaa
