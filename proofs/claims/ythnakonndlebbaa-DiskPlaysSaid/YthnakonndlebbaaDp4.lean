/-
  DiskPlays: the walk.
-/
import Derived.Test.YthnakonndlebbaaDp3
import Derived.Deep.CutRange
import Derived.Deep.DeepCutAuto
namespace Go.Proofs.Ythnakonndlebbaa
open Go.RowKit
set_option linter.unusedVariables false
set_option linter.unusedSimpArgs false

theorem rdk_mono {e : TypeId} {B B' g n steps fail : Nat} {w : World} {F : Nat → Prop} {now firm : Nat → List Int} {ws : List (Nat × List Int)} {cut : Int} {down : Bool} (h : RDk e B w g F n now firm ws steps fail cut down) (hB : B' ≤ B) : RDk e B' w g F n now firm ws steps fail cut down := by
  obtain ⟨vN, VN, vF, VF, vW, VW, hv⟩ := h
  have om : ∀ {v : Value} {m : Nat} {xs : List Int}, Own B w v m xs → Own B' w v m xs := fun h => h.mono hB
  refine ⟨vN, VN, vF, VF, vW, VW, hv.c0, hv.c1, hv.c2, hv.c3, hv.c4, hv.c5, hv.c6, hv.z, hv.rN.mono hB, hv.rF.mono hB, ⟨⟨hv.rW.out.1, ?_⟩, fun i hi => om (hv.rW.row i hi), hv.rW.ap0, hv.rW.ap⟩, hv.fg, hv.fN, hv.fF, hv.fW, hv.dNF, hv.dNW, hv.dFW, fun q hq => ⟨Nat.le_trans hB (hv.lt q hq).1, (hv.lt q hq).2⟩⟩
  rcases hv.rW.out.2 with h2 | ⟨k, cap, cur, h1, h2, h3⟩
  · exact .inl h2
  · exact .inr ⟨k, cap, cur, h1, Nat.le_trans hB h2, h3⟩
theorem wtz_val {e : TypeId} {B n m : Nat} {w : World} {v : Value} {A : Nat → Int} {V : Nat → Value} {D : Nat → List Int} (h : Wtz e B w v n m A V D) : ∃ q c, v = .slice q n c := by
  rcases h.shape with ⟨e, h0⟩ | ⟨b, c, e, _, _⟩
  · exact ⟨none, 0, by rw [e, h0]⟩
  · exact ⟨_, _, e⟩
theorem sat3 {g2 St M cW : Nat} {qW : Option Addr} {dn : Bool} {w w' : World} (h : (w.cell? ⟨g2, 3, none⟩ = some (.int .u64 (St : Nat)) ∧ w.cell? ⟨g2, 2, none⟩ = some (.slice qW M cW)) ∧ w.cell? ⟨g2, 6, none⟩ = some (.bool dn)) (hb : Below w.heap.size w w') :
    (w'.cell? ⟨g2, 3, none⟩ = some (.int .u64 (St : Nat)) ∧ w'.cell? ⟨g2, 2, none⟩ = some (.slice qW M cW)) ∧ w'.cell? ⟨g2, 6, none⟩ = some (.bool dn) := by
  have hl := World.block_lt_of_cell? w _ h.2
  exact ⟨⟨(hb.cell (p := ⟨g2, 3, none⟩) hl).trans h.1.1, (hb.cell (p := ⟨g2, 2, none⟩) hl).trans h.1.2⟩, (hb.cell (p := ⟨g2, 6, none⟩) hl).trans h.2⟩

set_option maxHeartbeats 32000000 in
set_option maxRecDepth 100000 in
theorem dplays_law (n0 : Int) (a : Option Addr) (len cl : Nat) (F0 F1 F2' : Nat → Int) (F3 F4 : Nat → Option Addr × Nat × List Int) (w : World) (hnw : (Lit.int .i64 n0).wf = true) (hlm : len ≤ maxLen) (hlc : len ≤ cl) (hr : Rws w a len [fun i => .int .i64 (F0 i), fun i => .int .i64 (F1 i), fun i => .int .i64 (F2' i), fun i => .slice (F3 i).1 (F3 i).2.2.length (F3 i).2.1, fun i => .slice (F4 i).1 (F4 i).2.2.length (F4 i).2.1])
    (hf0 : ∀ i, i < len → (Lit.int .i64 (F0 i)).wf = true) (hf1 : ∀ i, i < len → (Lit.int .i64 (F1 i)).wf = true) (hf2 : ∀ i, i < len → (Lit.int .i64 (F2' i)).wf = true) (hf3 : ∀ i, i < len → Bin w (F3 i).1 (F3 i).2.2 ∧ Oct (F3 i).2.2 ∧ (F3 i).2.2.length ≤ (F3 i).2.1 ∧ (F3 i).2.2.length ≤ 140737488351232) (hf4 : ∀ i, i < len → Bin w (F4 i).1 (F4 i).2.2 ∧ Oct (F4 i).2.2 ∧ (F4 i).2.2.length ≤ (F4 i).2.1 ∧ (F4 i).2.2.length ≤ 140737488351232) :
    Calls Try.prog 3 #[.int .i64 n0, .slice a len cl] w fun e w' => e = .returned (.bool true) ∧ Below w.heap.size w w' := by
  have HM := hid (fun W => refMay8_of n0 W)
  have HH := hid (heavy_of a len cl F0 F1 F2' F3 F4 w hlm hr (fun i hi => hf3 i hi) (fun i hi => hf4 i hi))
  have hnb := i64_of_wf hnw
  unfold maxLen at hlm
  by_cases hmay : 8 ≤ n0 ∧ n0 ≤ 4096
  · rw [decide_eq_true hmay] at HM
    obtain ⟨n, rfl⟩ : ∃ n : Nat, n0 = (n : Int) := ⟨n0.toNat, by omega⟩
    have hn8 : 8 ≤ n := by omega
    have hn4 : n ≤ 4096 := by omega
    by_cases h64 : 64 < n
    · have i64' : (64 : Int) < (n : Int) := by omega
      go_enter Try.func3, Try.ntmps3
      go_wp2_with fail
      refine (HM.out _).mono ?_
      rintro e w' ⟨rfl, rfl⟩
      go_wp2_with fail
      refine (known8_any _).mono ?_
      rintro e w9 ⟨rfl, hb9⟩
      go_wp2_with fail
      go_ret
      exact ⟨rfl, hb9⟩
    · have i64' : ¬ (64 : Int) < (n : Int) := by omega
      have HR := hid hr
      have H0 := hid hf0
      have H1 := hid hf1
      have H2 := hid hf2
      have H3 := hid hf3
      have H4 := hid hf4
      clear hr hf0 hf1 hf2 hf3 hf4
      go_enter Try.func3, Try.ntmps3
      go_wp2_with fail
      refine (HM.out _).mono ?_
      rintro e w' ⟨rfl, rfl⟩
      go_wp2_with fail
      refine HH.out.mono ?_
      rintro e w1 ⟨hv, rfl, hlen, hb1⟩
      have HL := hid hlen
      have HB1 := hid hb1
      clear hlen hb1
      cases hv with
      | true =>
        go_wp2_with fail
        refine (known8_any _).mono ?_
        rintro e w9 ⟨rfl, hb9⟩
        go_wp2_with fail
        go_ret
        exact ⟨rfl, HB1.out.trans (hb9.mono HB1.out.size)⟩
      | false =>
        have hl4 := HL.out rfl
        go_wp2_with fail
        refine (dNew_of w1 n hn8 hn4).mono ?_
        rintro e w2 ⟨g, F, rfl, hD, hb2⟩
        have HP2 := hid hD
        have HB2 := hid (HB1.out.trans (hb2.mono HB1.out.size))
        have HS1 := hid (And.intro HB1.out.size hb2.size)
        clear hD hb2 HB1
        go_wp2_with fail
        refine (HM.out _).mono ?_
        rintro e w' ⟨rfl, rfl⟩
        go_wp2_with fail
        refine (rNew_of n w2 hn8 hn4).mono ?_
        rintro e w3 ⟨g2, F2, rfl, hR, hb3⟩
        have HU3 : Hid (Duo w.heap.size w3 g g2 F F2 (Dst.new n) (Dst.new n)) := hid ⟨(HP2.out.below hb3).mono HS1.out.1, ⟨hR.ok, rdk_mono hR.at' (Nat.le_trans HS1.out.1 HS1.out.2)⟩, fun q h1 h2 => by have := (HP2.out.lt q h1).2; have := (hR.lt q h2).1; omega⟩
        have HB3 := hid (bel_below HB2.out HB2.out.size hb3)
        clear hR hb3 HP2 HB2 HS1
        go_wp2_with fail
        go_loopw [5, 51] (fun d i wr => ∃ (k g : Nat) (F F2 : Nat → Prop) (S : Dst), k ≤ len ∧ i = .int .i64 (k : Int) ∧ d = .pointer (some ⟨g, 0, none⟩) ∧ Duo w.heap.size wr g g2 F F2 S S ∧ Below w.heap.size w wr ∧ w.heap.size ≤ wr.heap.size ∧ S.n = n ∧ S.steps ≤ k ∧ S.ws.length ≤ k) (fun _ i _ => len - (intOf i).toNat)
        case atStart => exact ⟨0, g, F, F2, Dst.new n, Nat.zero_le _, rfl, rfl, HU3.out, HB3.out.1, HB3.out.2, rfl, Nat.le_refl _, Nat.le_refl _⟩
        case round =>
          clear HU3 HB3
          obtain ⟨k, g, F, F2, S, hk, rfl, rfl, hU, hB, hB2, hSn, hSs, hSw⟩ := hrel
          have HU := hid hU
          have HB := hid (And.intro hB hB2)
          have HSS := hid (And.intro hSn (And.intro hSs hSw))
          clear hU hB hB2 hSn hSs hSw
          by_cases hkl : k < len
          · have kI : (k : Int) < (len : Int) := by omega
            obtain ⟨b, o, rfl, hbl, hcol⟩ := HR.out.at hkl (Nat.succ_pos _)
            have hc0 : wr.cell? ⟨b, o + k * 5, none⟩ = some (.int .i64 (F0 k)) := (HB.out.1.cell (p := ⟨b, o + k * 5, none⟩) hbl).trans (hcol 0 _ rfl)
            have hc1 : wr.cell? ⟨b, o + k * 5 + 1, none⟩ = some (.int .i64 (F1 k)) := (HB.out.1.cell (p := ⟨b, o + k * 5 + 1, none⟩) hbl).trans (hcol 1 _ rfl)
            have hc2 : wr.cell? ⟨b, o + k * 5 + 2, none⟩ = some (.int .i64 (F2' k)) := (HB.out.1.cell (p := ⟨b, o + k * 5 + 2, none⟩) hbl).trans (hcol 2 _ rfl)
            have hc3 : wr.cell? ⟨b, o + k * 5 + 3, none⟩ = some (.slice (F3 k).1 (F3 k).2.2.length (F3 k).2.1) := (HB.out.1.cell (p := ⟨b, o + k * 5 + 3, none⟩) hbl).trans (hcol 3 _ rfl)
            have hc4 : wr.cell? ⟨b, o + k * 5 + 4, none⟩ = some (.slice (F4 k).1 (F4 k).2.2.length (F4 k).2.1) := (HB.out.1.cell (p := ⟨b, o + k * 5 + 4, none⟩) hbl).trans (hcol 4 _ rfl)
            clear hcol
            obtain ⟨b3, o3, q3, m3⟩ := H3.out k hkl
            obtain ⟨b4, o4, q4, m4⟩ := H4.out k hkl
            have HDO := hid (does_of w.heap.size g g2 F F2 S (F0 k) (F1 k) (F2' k) (F3 k).1 (F3 k).2.1 (F3 k).2.2.length (F3 k).2.2 (F4 k).1 (F4 k).2.1 (F4 k).2.2.length (F4 k).2.2 wr HU.out HB.out.2 (H1.out k hkl) (H2.out k hkl) (b3.below HB.out.1) o3 rfl q3 m3 (fun ad hd hn => by obtain ⟨x, y, e, hx, _⟩ := b3.at hn; rw [hd] at e; injection e with e; rw [e]; exact hx) (b4.below HB.out.1) o4 rfl q4 m4 (fun ad hd hn => by obtain ⟨x, y, e, hx, _⟩ := b4.at hn; rw [hd] at e; injection e with e; rw [e]; exact hx) (by have := HSS.out; omega) (by have := HSS.out; omega))
            clear b3 o3 q3 m3 b4 o4 q4 m4
            obtain ⟨f0, hf0⟩ : ∃ v, Hid (v = F0 k) := ⟨_, rfl⟩
            obtain ⟨f1, hf1⟩ : ∃ v, Hid (v = F1 k) := ⟨_, rfl⟩
            obtain ⟨f2, hf2⟩ : ∃ v, Hid (v = F2' k) := ⟨_, rfl⟩
            obtain ⟨p3, n3, d3, hf3⟩ : ∃ p n d, Hid (p = (F3 k).1 ∧ n = (F3 k).2.2.length ∧ d = (F3 k).2.1) := ⟨_, _, _, rfl, rfl, rfl⟩
            obtain ⟨p4, n4, d4, hf4⟩ : ∃ p n d, Hid (p = (F4 k).1 ∧ n = (F4 k).2.2.length ∧ d = (F4 k).2.1) := ⟨_, _, _, rfl, rfl, rfl⟩
            rw [← hf0.out] at hc0 HDO
            rw [← hf1.out] at hc1 HDO
            rw [← hf2.out] at hc2 HDO
            rw [← hf3.out.1, ← hf3.out.2.1, ← hf3.out.2.2] at hc3 HDO
            rw [← hf4.out.1, ← hf4.out.2.1, ← hf4.out.2.2] at hc4 HDO
            clear hf0 hf1 hf2 hf3 hf4
            go_wp2_with fail
            refine HDO.out.mono ?_
            rintro e w5 ⟨g', F', F2x, T, rfl, hu, hb, hbw, t1, t2, t3⟩
            have HU5 := hid hu
            have HB5 := hid (And.intro (HB.out.1.trans hb) hbw)
            have HTN : Hid (T.n = n) := hid (t1.trans HSS.out.1)
            have HTS : Hid (T.steps ≤ k + 1 ∧ T.ws.length ≤ k + 1) := hid (by have := HSS.out; omega)
            clear hu hb hbw t1 t2 t3 HDO hc0 hc1 hc2 hc3 hc4 HU HB HSS
            go_upto_region 14 with fail
            have HUd := hid (HU5.out.below ((Below.refl _ _).drew))
            have HBd := hid (bel_below HB5.out.1 HB5.out.2 ((Below.refl _ _).drew))
            obtain ⟨vN, VN, vF, VF, vW, VW, hv9⟩ := HUd.out.r.at'
            obtain ⟨qW, cW, hqw⟩ : ∃ q c, vW = .slice q T.ws.length c := wtz_val hv9.rW
            obtain ⟨St, hSt⟩ : ∃ s, Hid (s = T.steps) := ⟨_, rfl⟩
            obtain ⟨M, hM⟩ : ∃ s, Hid (s = T.ws.length) := ⟨_, rfl⟩
            obtain ⟨dn, hdn⟩ : ∃ s, Hid (s = T.down) := ⟨_, rfl⟩
            have q3 := hv9.c3
            have q2 := hv9.c2
            have q6 := hv9.c6
            rw [hqw, ← hM.out] at q2
            rw [← hSt.out] at q3
            rw [← hdn.out] at q6
            have hS0 : (fun v => (v.cell? ⟨g2, 3, none⟩ = some (.int .u64 (St : Nat)) ∧ v.cell? ⟨g2, 2, none⟩ = some (.slice qW M cW)) ∧ v.cell? ⟨g2, 6, none⟩ = some (.bool dn)) w5.drew := ⟨⟨q3, q2⟩, q6⟩
            clear hv9 q2 q3 q6 hqw HU5 HB5
            have C1 := hid (fun W h => dSteps_of w.heap.size g' F' T W h)
            have C2 := hid (fun W h => dWaiting_of w.heap.size g' F' T W h)
            have C3 := hid (fun W h => dDown_of w.heap.size g' F' T W h)
            have C4 := hid (fun W h => dBlocks_of w.heap.size g' F' T W h)
            rw [← hSt.out] at C1
            rw [← hM.out] at C2
            rw [← hdn.out] at C3
            rw [HTN.out] at C4
            refine wp_region_z (fun v => (v.cell? ⟨g2, 3, none⟩ = some (.int .u64 (St : Nat)) ∧ v.cell? ⟨g2, 2, none⟩ = some (.slice qW M cW)) ∧ v.cell? ⟨g2, 6, none⟩ = some (.bool dn)) 36 (by kernel_rfl) hS0 (fun hS => ?_)
            clear hS0
            generalize World.drew _ = w6 at hS HUd HBd ⊢
            refine wpAnyZ_take (i := 0) (v := .bool true) rfl (by kernel_rfl) (by kernel_rfl) (by kernel_rfl) (by kernel_rfl) (fun _ _ _ h => h) hS (Or.inl ⟨by kernel_rfl, fun w hS => (by clear hS; go_simp)⟩) ?_
            simp only [Act.put, List.setIfInBounds_toArray, List.set_cons_zero, List.set_cons_succ]
            refine wpAnyZ_take (i := 1) (v := .bool false) rfl (by kernel_rfl) (by kernel_rfl) (by kernel_rfl) (by kernel_rfl) (fun _ _ _ h => h) hS (Or.inl ⟨by kernel_rfl, fun w hS => (by clear hS; go_simp)⟩) ?_
            simp only [Act.put, List.setIfInBounds_toArray, List.set_cons_zero, List.set_cons_succ]
            refine wpAnyZ_take (i := 2) (v := .bool false) rfl (by kernel_rfl) (by kernel_rfl) (by kernel_rfl) (by kernel_rfl) (fun _ _ _ h => h) hS (Or.inl ⟨by kernel_rfl, fun w hS => (by clear hS; go_simp)⟩) ?_
            simp only [Act.put, List.setIfInBounds_toArray, List.set_cons_zero, List.set_cons_succ]
            refine wpAnyZ_take (i := 3) (v := .pointer (some ⟨g', 0, none⟩)) rfl (by kernel_rfl) (by kernel_rfl) (by kernel_rfl) (by kernel_rfl) (fun _ _ _ h => h) hS (Or.inl ⟨by kernel_rfl, fun w hS => (by clear hS; go_simp)⟩) ?_
            simp only [Act.put, List.setIfInBounds_toArray, List.set_cons_zero, List.set_cons_succ]
            refine wpAnyZ_take (i := 5) (v := .pointer (some ⟨g2, 0, none⟩)) rfl (by kernel_rfl) (by kernel_rfl) (by kernel_rfl) (by kernel_rfl) (fun _ _ _ h => h) hS (Or.inl ⟨by kernel_rfl, fun w hS => (by clear hS; go_simp)⟩) ?_
            simp only [Act.put, List.setIfInBounds_toArray, List.set_cons_zero, List.set_cons_succ]
            refine wpAnyZ_take (i := 6) (v := .pointer (some ⟨g2, 0, none⟩)) rfl (by kernel_rfl) (by kernel_rfl) (by kernel_rfl) (by kernel_rfl) (fun _ _ _ h => h) hS (Or.inl ⟨by kernel_rfl, fun w hS => (by clear hS; go_simp)⟩) ?_
            simp only [Act.put, List.setIfInBounds_toArray, List.set_cons_zero, List.set_cons_succ]
            refine wpAnyZ_take (i := 7) (v := .pointer (some ⟨g2, 3, none⟩)) rfl (by kernel_rfl) (by kernel_rfl) (by kernel_rfl) (by kernel_rfl) (fun _ _ _ h => h) hS (Or.inl ⟨by kernel_rfl, fun w hS => (by clear hS; go_simp)⟩) ?_
            simp only [Act.put, List.setIfInBounds_toArray, List.set_cons_zero, List.set_cons_succ]
            refine wpAnyZ_take (i := 8) (v := .int .u64 (St : Nat)) rfl (by kernel_rfl) (by kernel_rfl) (by kernel_rfl) (by kernel_rfl) (fun _ _ _ h => h) hS (Or.inl ⟨by kernel_rfl, fun w hS => (by have hc := hS.1.1; clear hS; go_simp)⟩) ?_
            simp only [Act.put, List.setIfInBounds_toArray, List.set_cons_zero, List.set_cons_succ]
            refine wpAnyZ_one (i := 4) (by kernel_rfl) rfl (fun K hK => ?_)
            go_simp
            go_at_call 14
            refine (C1.out _ HUd.out.p).mono ?_
            rintro e v1 ⟨rfl, hb⟩
            have HUn := hid (HUd.out.below hb)
            have HBn := hid (bel_below HBd.out.1 HBd.out.2 hb)
            have hSn : (fun v => (v.cell? ⟨g2, 3, none⟩ = some (.int .u64 (St : Nat)) ∧ v.cell? ⟨g2, 2, none⟩ = some (.slice qW M cW)) ∧ v.cell? ⟨g2, 6, none⟩ = some (.bool dn)) v1 := sat3 hS hb
            clear hb HUd HBd hS
            have HUd := HUn
            have HBd := HBn
            have hS := hSn
            clear HUn HBn hSn
            go_wp2_with fail
            refine hK.out _ _ (fun _ => hS) ?_
            clear hK K
            try simp only [Act.put, List.setIfInBounds_toArray, List.set_cons_zero, List.set_cons_succ]; try simp only [List.getElem_toArray, List.getElem_cons_succ, List.getElem_cons_zero]
            refine wpAnyZ_take (i := 9) (v := .bool false) rfl (by kernel_rfl) (by kernel_rfl) (by kernel_rfl) (by kernel_rfl) (fun _ _ _ h => h) hS (Or.inl ⟨by kernel_rfl, fun w hS => (by clear hS; go_simp)⟩) ?_
            simp only [Act.put, List.setIfInBounds_toArray, List.set_cons_zero, List.set_cons_succ]; try simp only [List.getElem_toArray, List.getElem_cons_succ, List.getElem_cons_zero]
            refine wpAnyZ_take (i := 10) (v := .bool false) rfl (by kernel_rfl) (by kernel_rfl) (by kernel_rfl) (by kernel_rfl) (fun _ _ _ h => h) hS (Or.inl ⟨by kernel_rfl, fun w hS => (by clear hS; go_simp)⟩) ?_
            simp only [Act.put, List.setIfInBounds_toArray, List.set_cons_zero, List.set_cons_succ]; try simp only [List.getElem_toArray, List.getElem_cons_succ, List.getElem_cons_zero]
            refine wpAnyZ_take (i := 11) (v := .bool false) rfl (by kernel_rfl) (by kernel_rfl) (by kernel_rfl) (by kernel_rfl) (fun _ _ _ h => h) hS (Or.inl ⟨by kernel_rfl, fun w hS => (by clear hS; go_simp)⟩) ?_
            simp only [Act.put, List.setIfInBounds_toArray, List.set_cons_zero, List.set_cons_succ]; try simp only [List.getElem_toArray, List.getElem_cons_succ, List.getElem_cons_zero]
            refine wpAnyZ_take (i := 12) (v := .pointer (some ⟨g', 0, none⟩)) rfl (by kernel_rfl) (by kernel_rfl) (by kernel_rfl) (by kernel_rfl) (fun _ _ _ h => h) hS (Or.inl ⟨by kernel_rfl, fun w hS => (by clear hS; go_simp)⟩) ?_
            simp only [Act.put, List.setIfInBounds_toArray, List.set_cons_zero, List.set_cons_succ]; try simp only [List.getElem_toArray, List.getElem_cons_succ, List.getElem_cons_zero]
            refine wpAnyZ_take (i := 14) (v := .pointer (some ⟨g2, 0, none⟩)) rfl (by kernel_rfl) (by kernel_rfl) (by kernel_rfl) (by kernel_rfl) (fun _ _ _ h => h) hS (Or.inl ⟨by kernel_rfl, fun w hS => (by clear hS; go_simp)⟩) ?_
            simp only [Act.put, List.setIfInBounds_toArray, List.set_cons_zero, List.set_cons_succ]; try simp only [List.getElem_toArray, List.getElem_cons_succ, List.getElem_cons_zero]
            refine wpAnyZ_take (i := 15) (v := .pointer (some ⟨g2, 0, none⟩)) rfl (by kernel_rfl) (by kernel_rfl) (by kernel_rfl) (by kernel_rfl) (fun _ _ _ h => h) hS (Or.inl ⟨by kernel_rfl, fun w hS => (by clear hS; go_simp)⟩) ?_
            simp only [Act.put, List.setIfInBounds_toArray, List.set_cons_zero, List.set_cons_succ]; try simp only [List.getElem_toArray, List.getElem_cons_succ, List.getElem_cons_zero]
            refine wpAnyZ_take (i := 16) (v := .pointer (some ⟨g2, 2, none⟩)) rfl (by kernel_rfl) (by kernel_rfl) (by kernel_rfl) (by kernel_rfl) (fun _ _ _ h => h) hS (Or.inl ⟨by kernel_rfl, fun w hS => (by clear hS; go_simp)⟩) ?_
            simp only [Act.put, List.setIfInBounds_toArray, List.set_cons_zero, List.set_cons_succ]; try simp only [List.getElem_toArray, List.getElem_cons_succ, List.getElem_cons_zero]
            refine wpAnyZ_take (i := 17) (v := .slice qW M cW) rfl (by kernel_rfl) (by kernel_rfl) (by kernel_rfl) (by kernel_rfl) (fun _ _ _ h => h) hS (Or.inl ⟨by kernel_rfl, fun w hS => (by have hc := hS.1.2; clear hS; go_simp)⟩) ?_
            simp only [Act.put, List.setIfInBounds_toArray, List.set_cons_zero, List.set_cons_succ]; try simp only [List.getElem_toArray, List.getElem_cons_succ, List.getElem_cons_zero]
            refine wpAnyZ_take (i := 18) (v := .int .i64 (M : Nat)) rfl (by kernel_rfl) (by kernel_rfl) (by kernel_rfl) (by kernel_rfl) (fun _ _ _ h => h) hS (Or.inl ⟨by kernel_rfl, fun w hS => (by clear hS; go_simp)⟩) ?_
            simp only [Act.put, List.setIfInBounds_toArray, List.set_cons_zero, List.set_cons_succ]; try simp only [List.getElem_toArray, List.getElem_cons_succ, List.getElem_cons_zero]
            refine wpAnyZ_one (i := 13) (by kernel_rfl) rfl (fun K hK => ?_)
            go_simp
            go_at_call 15
            refine (C2.out _ HUd.out.p).mono ?_
            rintro e v2 ⟨rfl, hb⟩
            have HUn := hid (HUd.out.below hb)
            have HBn := hid (bel_below HBd.out.1 HBd.out.2 hb)
            have hSn : (fun v => (v.cell? ⟨g2, 3, none⟩ = some (.int .u64 (St : Nat)) ∧ v.cell? ⟨g2, 2, none⟩ = some (.slice qW M cW)) ∧ v.cell? ⟨g2, 6, none⟩ = some (.bool dn)) v2 := sat3 hS hb
            clear hb HUd HBd hS
            have HUd := HUn
            have HBd := HBn
            have hS := hSn
            clear HUn HBn hSn
            go_wp2_with fail
            refine hK.out _ _ (fun _ => hS) ?_
            clear hK K
            try simp only [Act.put, List.setIfInBounds_toArray, List.set_cons_zero, List.set_cons_succ]; try simp only [List.getElem_toArray, List.getElem_cons_succ, List.getElem_cons_zero]
            refine wpAnyZ_take (i := 19) (v := .bool false) rfl (by kernel_rfl) (by kernel_rfl) (by kernel_rfl) (by kernel_rfl) (fun _ _ _ h => h) hS (Or.inl ⟨by kernel_rfl, fun w hS => (by clear hS; go_simp)⟩) ?_
            simp only [Act.put, List.setIfInBounds_toArray, List.set_cons_zero, List.set_cons_succ]; try simp only [List.getElem_toArray, List.getElem_cons_succ, List.getElem_cons_zero]
            refine wpAnyZ_take (i := 20) (v := .bool false) rfl (by kernel_rfl) (by kernel_rfl) (by kernel_rfl) (by kernel_rfl) (fun _ _ _ h => h) hS (Or.inl ⟨by kernel_rfl, fun w hS => (by clear hS; go_simp)⟩) ?_
            simp only [Act.put, List.setIfInBounds_toArray, List.set_cons_zero, List.set_cons_succ]; try simp only [List.getElem_toArray, List.getElem_cons_succ, List.getElem_cons_zero]
            refine wpAnyZ_take (i := 21) (v := .bool false) rfl (by kernel_rfl) (by kernel_rfl) (by kernel_rfl) (by kernel_rfl) (fun _ _ _ h => h) hS (Or.inl ⟨by kernel_rfl, fun w hS => (by clear hS; go_simp)⟩) ?_
            simp only [Act.put, List.setIfInBounds_toArray, List.set_cons_zero, List.set_cons_succ]; try simp only [List.getElem_toArray, List.getElem_cons_succ, List.getElem_cons_zero]
            refine wpAnyZ_take (i := 22) (v := .pointer (some ⟨g', 0, none⟩)) rfl (by kernel_rfl) (by kernel_rfl) (by kernel_rfl) (by kernel_rfl) (fun _ _ _ h => h) hS (Or.inl ⟨by kernel_rfl, fun w hS => (by clear hS; go_simp)⟩) ?_
            simp only [Act.put, List.setIfInBounds_toArray, List.set_cons_zero, List.set_cons_succ]; try simp only [List.getElem_toArray, List.getElem_cons_succ, List.getElem_cons_zero]
            refine wpAnyZ_take (i := 24) (v := .pointer (some ⟨g2, 0, none⟩)) rfl (by kernel_rfl) (by kernel_rfl) (by kernel_rfl) (by kernel_rfl) (fun _ _ _ h => h) hS (Or.inl ⟨by kernel_rfl, fun w hS => (by clear hS; go_simp)⟩) ?_
            simp only [Act.put, List.setIfInBounds_toArray, List.set_cons_zero, List.set_cons_succ]; try simp only [List.getElem_toArray, List.getElem_cons_succ, List.getElem_cons_zero]
            refine wpAnyZ_take (i := 25) (v := .pointer (some ⟨g2, 0, none⟩)) rfl (by kernel_rfl) (by kernel_rfl) (by kernel_rfl) (by kernel_rfl) (fun _ _ _ h => h) hS (Or.inl ⟨by kernel_rfl, fun w hS => (by clear hS; go_simp)⟩) ?_
            simp only [Act.put, List.setIfInBounds_toArray, List.set_cons_zero, List.set_cons_succ]; try simp only [List.getElem_toArray, List.getElem_cons_succ, List.getElem_cons_zero]
            refine wpAnyZ_take (i := 26) (v := .pointer (some ⟨g2, 6, none⟩)) rfl (by kernel_rfl) (by kernel_rfl) (by kernel_rfl) (by kernel_rfl) (fun _ _ _ h => h) hS (Or.inl ⟨by kernel_rfl, fun w hS => (by clear hS; go_simp)⟩) ?_
            simp only [Act.put, List.setIfInBounds_toArray, List.set_cons_zero, List.set_cons_succ]; try simp only [List.getElem_toArray, List.getElem_cons_succ, List.getElem_cons_zero]
            refine wpAnyZ_take (i := 27) (v := .bool dn) rfl (by kernel_rfl) (by kernel_rfl) (by kernel_rfl) (by kernel_rfl) (fun _ _ _ h => h) hS (Or.inl ⟨by kernel_rfl, fun w hS => (by have hc := hS.2; clear hS; go_simp)⟩) ?_
            simp only [Act.put, List.setIfInBounds_toArray, List.set_cons_zero, List.set_cons_succ]; try simp only [List.getElem_toArray, List.getElem_cons_succ, List.getElem_cons_zero]
            refine wpAnyZ_one (i := 23) (by kernel_rfl) rfl (fun K hK => ?_)
            go_simp
            go_at_call 16
            refine (C3.out _ HUd.out.p).mono ?_
            rintro e v3 ⟨rfl, hb⟩
            have HUn := hid (HUd.out.below hb)
            have HBn := hid (bel_below HBd.out.1 HBd.out.2 hb)
            have hSn : (fun v => (v.cell? ⟨g2, 3, none⟩ = some (.int .u64 (St : Nat)) ∧ v.cell? ⟨g2, 2, none⟩ = some (.slice qW M cW)) ∧ v.cell? ⟨g2, 6, none⟩ = some (.bool dn)) v3 := sat3 hS hb
            clear hb HUd HBd hS
            have HUd := HUn
            have HBd := HBn
            have hS := hSn
            clear HUn HBn hSn
            go_wp2_with fail
            refine hK.out _ _ (fun _ => hS) ?_
            clear hK K
            try simp only [Act.put, List.setIfInBounds_toArray, List.set_cons_zero, List.set_cons_succ]; try simp only [List.getElem_toArray, List.getElem_cons_succ, List.getElem_cons_zero]
            refine wpAnyZ_take (i := 28) (v := .bool false) rfl (by kernel_rfl) (by kernel_rfl) (by kernel_rfl) (by kernel_rfl) (fun _ _ _ h => h) hS (Or.inl ⟨by kernel_rfl, fun w hS => (by clear hS; go_simp)⟩) ?_
            simp only [Act.put, List.setIfInBounds_toArray, List.set_cons_zero, List.set_cons_succ]; try simp only [List.getElem_toArray, List.getElem_cons_succ, List.getElem_cons_zero]
            refine wpAnyZ_take (i := 29) (v := .bool false) rfl (by kernel_rfl) (by kernel_rfl) (by kernel_rfl) (by kernel_rfl) (fun _ _ _ h => h) hS (Or.inl ⟨by kernel_rfl, fun w hS => (by clear hS; go_simp)⟩) ?_
            simp only [Act.put, List.setIfInBounds_toArray, List.set_cons_zero, List.set_cons_succ]; try simp only [List.getElem_toArray, List.getElem_cons_succ, List.getElem_cons_zero]
            refine wpAnyZ_take (i := 30) (v := .bool false) rfl (by kernel_rfl) (by kernel_rfl) (by kernel_rfl) (by kernel_rfl) (fun _ _ _ h => h) hS (Or.inl ⟨by kernel_rfl, fun w hS => (by clear hS; go_simp)⟩) ?_
            simp only [Act.put, List.setIfInBounds_toArray, List.set_cons_zero, List.set_cons_succ]; try simp only [List.getElem_toArray, List.getElem_cons_succ, List.getElem_cons_zero]
            refine wpAnyZ_take (i := 31) (v := .pointer (some ⟨g', 0, none⟩)) rfl (by kernel_rfl) (by kernel_rfl) (by kernel_rfl) (by kernel_rfl) (fun _ _ _ h => h) hS (Or.inl ⟨by kernel_rfl, fun w hS => (by clear hS; go_simp)⟩) ?_
            simp only [Act.put, List.setIfInBounds_toArray, List.set_cons_zero, List.set_cons_succ]; try simp only [List.getElem_toArray, List.getElem_cons_succ, List.getElem_cons_zero]
            refine wpAnyZ_take (i := 33) (v := .int .i64 (n : Nat)) rfl (by kernel_rfl) (by kernel_rfl) (by kernel_rfl) (by kernel_rfl) (fun _ _ _ h => h) hS (Or.inl ⟨by kernel_rfl, fun w hS => (by clear hS; go_simp)⟩) ?_
            simp only [Act.put, List.setIfInBounds_toArray, List.set_cons_zero, List.set_cons_succ]; try simp only [List.getElem_toArray, List.getElem_cons_succ, List.getElem_cons_zero]
            refine wpAnyZ_one (i := 32) (by kernel_rfl) rfl (fun K hK => ?_)
            go_simp
            go_at_call 17
            refine (C4.out _ HUd.out.p).mono ?_
            rintro e v4 ⟨rfl, hb⟩
            have HUn := hid (HUd.out.below hb)
            have HBn := hid (bel_below HBd.out.1 HBd.out.2 hb)
            have hSn : (fun v => (v.cell? ⟨g2, 3, none⟩ = some (.int .u64 (St : Nat)) ∧ v.cell? ⟨g2, 2, none⟩ = some (.slice qW M cW)) ∧ v.cell? ⟨g2, 6, none⟩ = some (.bool dn)) v4 := sat3 hS hb
            clear hb HUd HBd hS
            have HUd := HUn
            have HBd := HBn
            have hS := hSn
            clear HUn HBn hSn
            go_wp2_with fail
            refine hK.out _ _ (fun _ => hS) ?_
            clear hK K
            try simp only [Act.put, List.setIfInBounds_toArray, List.set_cons_zero, List.set_cons_succ]; try simp only [List.getElem_toArray, List.getElem_cons_succ, List.getElem_cons_zero]
            refine wpAnyZ_take (i := 34) (v := .bool false) rfl (by kernel_rfl) (by kernel_rfl) (by kernel_rfl) (by kernel_rfl) (fun _ _ _ h => h) hS (Or.inl ⟨by kernel_rfl, fun w hS => (by clear hS; go_simp)⟩) ?_
            simp only [Act.put, List.setIfInBounds_toArray, List.set_cons_zero, List.set_cons_succ]; try simp only [List.getElem_toArray, List.getElem_cons_succ, List.getElem_cons_zero]
            refine wpAnyZ_take (i := 35) (v := .bool false) rfl (by kernel_rfl) (by kernel_rfl) (by kernel_rfl) (by kernel_rfl) (fun _ _ _ h => h) hS (Or.inl ⟨by kernel_rfl, fun w hS => (by clear hS; go_simp)⟩) ?_
            simp only [Act.put, List.setIfInBounds_toArray, List.set_cons_zero, List.set_cons_succ]; try simp only [List.getElem_toArray, List.getElem_cons_succ, List.getElem_cons_zero]
            refine wpAnyZ_done (by kernel_rfl) ?_ _
            clear hS C1 C2 C3 C4
            go_wp2_with fail
            go_roundw
            case rel => exact ⟨k + 1, g', F', F2x, T, by omega, by go_num, rfl, HUd.out, HBd.out.1, HBd.out.2, HTN.out, HTS.out.1, HTS.out.2⟩
            case measure => simp [intOf]; omega
          · obtain rfl : k = len := by omega
            have kI : ¬ (k : Int) < (k : Int) := by omega
            obtain ⟨vN, VN, vF, VF, vW, VW, hv9⟩ := HU.out.r.at'
            rw [HSS.out.1] at hv9
            obtain ⟨bF, cF, rfl, _⟩ := hv9.rF.isSlice (by omega)
            have c1 := hv9.c1
            clear hv9
            go_wp2_with fail
            go_loopw [106] (fun i wr => ∃ r : Nat, r ≤ n ∧ i = .int .i64 (r : Int) ∧ Duo w.heap.size wr g g2 F F2 S S ∧ Below w.heap.size w wr ∧ w.heap.size ≤ wr.heap.size) (fun i _ => n - (intOf i).toNat)
            case atStart => exact ⟨0, Nat.zero_le _, rfl, HU.out, HB.out.1, HB.out.2⟩
            case round =>
              clear HU HB c1
              obtain ⟨r, hr, rfl, hU, hB, hB2⟩ := hrel
              have HU := hid hU
              have HB := hid (And.intro hB hB2)
              clear hU hB hB2
              by_cases hrn : r < n
              · have rI : (r : Int) < (n : Int) := by omega
                have hhs : ¬ S.has (r : Int) = false := by have h1 := HSS.out.1; unfold Dst.has; rw [decide_eq_true (show (0 : Int) ≤ (r : Int) by omega), decide_eq_true (show (r : Int) < ((S.n : Nat) : Int) by omega)]; simp
                have e1 : S.firmE (r : Int) = 0 := if_neg hhs
                have e2 : S.firmL (r : Int) = S.firm r := by unfold Dst.firmL; rw [if_neg hhs, Int.toNat_natCast]
                have hl := HU.out.p.ok.firm r (by rw [HSS.out.1]; exact hrn)
                have HF := hid (dFirm_of w.heap.size g F S wr HU.out.p r (by simp [Lit.wf, IntKind.min, IntKind.max, IntKind.signed, IntKind.bits]; omega))
                rw [e1, e2, hl.1] at HF
                have HLL := hid hl
                clear e1 e2 hhs hl
                go_wp2_with fail
                refine HF.out.mono ?_
                rintro e w5 ⟨v, rfl, hO, hb⟩
                have HU5 := hid (HU.out.below hb)
                have HB5 := hid (bel_below HB.out.1 HB.out.2 hb)
                obtain ⟨pv, cv, rfl, _, hbv⟩ := hO.bin
                obtain ⟨vN, VN, vF, VF, vW, VW, hv9⟩ := HU5.out.r.at'
                rw [HSS.out.1] at hv9
                obtain ⟨bF, cF, rfl, _⟩ := hv9.rF.isSlice (by omega)
                have c1 := hv9.c1
                obtain ⟨bk, ck, hVk, _, hbk⟩ := (hv9.rF.row r hrn).isSlice (by decide)
                have hck := (hv9.rF.cellAt r hrn).trans (congrArg some hVk)
                have HSM := hid (refSame_yes pv (some ⟨bk, 0, none⟩) cv ck 256 (S.firm r) w5 HLL.out.1 hbv hbk HLL.out.2)
                clear hO hb hv9 hVk hbk hbv HU HB HF
                go_wp2_with fail
                refine HSM.out.mono ?_
                rintro e w' ⟨rfl, rfl⟩
                clear HSM c1 hck
                go_wp2_with fail
                go_roundw
                case rel => exact ⟨r + 1, by omega, by go_num, HU5.out, HB5.out.1, HB5.out.2⟩
                case measure => simp [intOf]; omega
              · obtain rfl : r = n := by omega
                have rI : ¬ (r : Int) < (r : Int) := by omega
                go_wp2_with fail
                refine (known8_any _).mono ?_
                rintro e w9 ⟨rfl, hb9⟩
                go_wp2_with fail
                go_ret
                exact ⟨rfl, HB.out.1.trans (hb9.mono HB.out.2)⟩
  · rw [decide_eq_false hmay] at HM
    have HNN := hid (fun W => dNew_no W n0 (by omega))
    go_enter Try.func3, Try.ntmps3
    go_wp2_with fail
    refine (HM.out _).mono ?_
    rintro e w' ⟨rfl, rfl⟩
    go_wp2_with fail
    refine HH.out.mono ?_
    rintro e w1 ⟨hv, rfl, hlen, hb1⟩
    have HL := hid hlen
    have HB1 := hid hb1
    clear hlen hb1
    cases hv with
    | true =>
      go_wp2_with fail
      refine (known8_any _).mono ?_
      rintro e w9 ⟨rfl, hb9⟩
      go_wp2_with fail
      go_ret
      exact ⟨rfl, HB1.out.trans (hb9.mono HB1.out.size)⟩
    | false =>
      go_wp2_with fail
      refine (HNN.out _).mono ?_
      rintro e w2 ⟨rfl, hb2⟩
      have HB2 := hid (HB1.out.trans (hb2.mono HB1.out.size))
      clear hb2
      go_wp2_with fail
      refine (HM.out _).mono ?_
      rintro e w' ⟨rfl, rfl⟩
      go_wp2_with fail
      refine (known8_any _).mono ?_
      rintro e w9 ⟨rfl, hb9⟩
      go_wp2_with fail
      go_ret
      exact ⟨rfl, HB2.out.trans (hb9.mono HB2.out.size)⟩
end Go.Proofs.Ythnakonndlebbaa
