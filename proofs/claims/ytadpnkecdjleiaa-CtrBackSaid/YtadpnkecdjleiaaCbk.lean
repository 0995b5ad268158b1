/-
  The walk of CtrBack.
-/
import Derived.Test.YtadpnkecdjleiaaCcl
namespace Go.Proofs.Ytadpnkecdjleiaa
open Go.RowKit
set_option linter.unusedVariables false
set_option linter.unusedSimpArgs false

/-- A slice's beginning. -/
theorem Bin.begin {p : Option Addr} {w : World} {xs : List Int} (h : Bin w p xs) (n : Nat) : Bin w p (xs.take n) := fun hl => by
  rw [List.length_take] at hl
  obtain ⟨b, o, rfl, hc⟩ := h (by omega)
  refine ⟨b, o, rfl, fun i hi => ?_⟩
  rw [List.length_take] at hi
  rw [hc i (by omega), List.getD_eq_getElem?_getD, List.getD_eq_getElem?_getD, List.getElem?_take, if_pos (by omega)]
theorem crypt_at (pk pn pt : Option Addr) (ck cn ct nk nt : Nat) (ks ns ts : List Int) (w : World) (hkp : Bin w pk ks) (hks : Oct ks) (hkl : ks.length = nk) (hnk : nk = 16 ∨ nk = 32) (hkc : nk ≤ ck)
    (hnp : Bin w pn ns) (hns : Oct ns) (hnl : ns.length = 12) (htp : Bin w pt ts) (hts : Oct ts) (hl : ts.length = nt) (hm : nt ≤ 65536) (htc : nt ≤ ct) :
    Calls Try.prog 13 #[.slice pk nk ck, .slice pn (12 : Nat) cn, .slice pt nt ct] w fun e w' => ∃ v, e = .returned (.tuple #[v, .int .i64 0]) ∧
      Own w.heap.size w' v nt (cry (enc (wordB (nk / 4) (nats ks)) (nk / 4 + 6)) (frs ns) ts) ∧ Below w.heap.size w w' := by
  subst hl
  exact crypt_of pk pn pt ck cn ct nk ks ns ts w hkp hks hkl hnk hkc hnp hns hnl htp hts hm htc

set_option maxHeartbeats 16000000 in
set_option maxRecDepth 100000 in
theorem cback_law (pk : Option Addr) (ck : Nat) (ks : List Int) (pn : Option Addr) (cn : Nat) (ns : List Int) (pt : Option Addr) (ct : Nat) (ts : List Int) (cut : Int) (w : World)
    (hkp : Bin w pk ks) (hks : Oct ks) (hkm : ks.length ≤ 140737488351232) (hck : ks.length ≤ ck) (hnp : Bin w pn ns) (hns : Oct ns) (hnm : ns.length ≤ 140737488351232) (hcn : ns.length ≤ cn) (htp : Bin w pt ts) (hts : Oct ts) (htm : ts.length ≤ 140737488351232) (hct : ts.length ≤ ct) (hcw : (Lit.int .i64 cut).wf = true) :
    Calls Try.prog 5 #[.slice pk ks.length ck, .slice pn ns.length cn, .slice pt ts.length ct, .int .i64 cut] w fun e w' => e = .returned (.bool true) ∧ Below w.heap.size w w' := by
  have hcb := i64_of_wf hcw
  clear hcw
  obtain ⟨nk, hnk⟩ : ∃ n, n = ks.length := ⟨_, rfl⟩
  obtain ⟨nn, hnn⟩ : ∃ n, n = ns.length := ⟨_, rfl⟩
  obtain ⟨nt, hnt⟩ : ∃ n, n = ts.length := ⟨_, rfl⟩
  rw [← hnk] at hkm hck ⊢
  rw [← hnn] at hnm hcn ⊢
  rw [← hnt] at htm hct ⊢
  have HK := hid hnk.symm
  have HN := hid hnn.symm
  have HT := hid hnt.symm
  have KP := hid hkp
  have NP := hid hnp
  have TP := hid htp
  clear hnk hnn hnt hkp hnp htp
  by_cases hbig : 2000 < nt
  · have i1 : (2000 : Int) < (nt : Int) := by omega
    go_enter Try.func5, Try.ntmps5
    go_wp2_with fail
    refine (cknown_any _).mono ?_
    rintro e w1 ⟨rfl, hb1⟩
    go_wp2_with fail
    go_ret
    exact ⟨rfl, hb1⟩
  · have i1 : ¬ (2000 : Int) < (nt : Int) := by omega
    by_cases h0 : opensN nk nn nt = 0
    · go_enter Try.func5, Try.ntmps5
      obtain ⟨hk, hn, _⟩ := opens_yes h0
      subst hn
      have hcr := fun w' h1 h2 h3 => crypt_of pk pn pt ck cn ct nk ks ns ts w' h1 hks HK.out hk hck h2 hns HN.out h3 hts (by rw [HT.out]; omega) (by rw [HT.out]; exact hct)
      obtain ⟨E, hE⟩ : ∃ E, Hid (E = enc (wordB (nk / 4) (nats ks)) (nk / 4 + 6)) := ⟨_, rfl⟩
      have oE : ∀ x, (∀ j, x j < 256) → ∀ j, E x j < 256 := by rw [hE.out]; exact fun x ox j => enc_lt (wordB_lt (nats_lt hks)) ox _ j
      have oc := frs_lt hns
      have HCR := hid (fun (p : Option Addr) (c : Nat) (xs : List Int) (n : Nat) w' h1 h2 h3 hx hl hn hc => crypt_at pk pn p ck cn c nk n ks ns xs w' h1 hks HK.out hk hck h2 hns HN.out h3 hx hl hn hc)
      rw [← hE.out] at HCR
      obtain ⟨Y, hY⟩ : ∃ Y, Hid (Y = cry E (frs ns) ts) := ⟨_, rfl⟩
      have hYl : Y.length = nt := by rw [hY.out, cry_length, HT.out]
      have oY : Oct Y := by rw [hY.out]; exact cry_oct oE oc hts
      have hYY : cry E (frs ns) Y = ts := by rw [hY.out]; exact cry_cry hts
      clear hcr
      go_wp2_with fail
      refine (HCR.out pt ct ts nt w KP.out NP.out TP.out hts HT.out (by omega) hct).mono ?_
      rintro e w1 ⟨v1, rfl, hv1, hb1⟩
      rw [← hY.out] at hv1
      obtain ⟨p1, c1, rfl, hc1, vb1⟩ := hv1.bin
      clear hv1
      go_wp2_with fail
      refine (HCR.out p1 c1 Y nt w1 (KP.out.below hb1) (NP.out.below hb1) vb1 oY hYl (by omega) hc1).mono ?_
      rintro e w2 ⟨v2, rfl, hv2, hb2⟩
      rw [hYY] at hv2
      obtain ⟨p2, c2, rfl, hc2, vb2⟩ := hv2.bin
      have hB2 := hb1.trans (hb2.mono hb1.size)
      have vb1' := vb1.below hb2
      clear hv2 hb1 hb2 vb1
      obtain ⟨m, hm⟩ : ∃ m : Nat, Hid (m = if 0 < cut then (cut % ((nt : Int) + 1)).toNat else 0) := ⟨_, rfl⟩
      have hmn : m ≤ nt := by
        rw [hm.out]
        split
        · have := Int.emod_lt_of_pos cut (show (0 : Int) < (nt : Int) + 1 from by omega)
          omega
        · omega
      go_upto_if 58 with fail
      go_cut [13] from 57 (fun s13 wx => s13 = .int .i64 (m : Int) ∧ wx = w2)
      case first =>
        by_cases h : 0 < cut
        · have htm : cut.tmod ((nt : Int) + 1) = (m : Int) := by
            rw [Int.tmod_eq_emod_of_nonneg (by omega), hm.out, if_pos h]
            have := Int.emod_nonneg cut (show ((nt : Int) + 1) ≠ 0 from by omega)
            omega
          have hw0 : ¬ ((nt : Int) + 1 = 0) := by omega
          go_wp2_with fail
          go_meet
          exact ⟨rfl, rfl⟩
        · have hm0 : m = 0 := by rw [hm.out, if_neg h]
          go_wp2_with fail
          go_meet
          exact ⟨by rw [hm0]; rfl, rfl⟩
      case rest =>
        obtain ⟨rfl, hw⟩ := hcut
        rw [hw]
        clear hw
        have hT3 := TP.out.below hB2
        have hpa := hT3.begin m
        have kI : (m : Int) ≤ (nt : Int) := by omega
        have kC : (m : Int) ≤ (ct : Int) := by omega
        go_wp2_with fail
        refine (HCR.out pt ct (ts.take m) m w2 (KP.out.below hB2) (NP.out.below hB2) hpa (hts.take m) (by rw [List.length_take, HT.out]; omega) (by omega) (by omega)).mono ?_
        rintro e w3 ⟨v3, rfl, hv3, hb3⟩
        rw [cry_take _ _ _ _ (by rw [HT.out]; exact hmn), ← hY.out] at hv3
        obtain ⟨p3, c3, rfl, hc3, vb3⟩ := hv3.bin
        have hB3 := hB2.trans (hb3.mono hB2.size)
        have vb2' := vb2.below hb3
        have vb1'' := vb1'.below hb3
        have vbt := TP.out.below hB3
        have hpb := vb1''.begin m
        have kD : (m : Int) ≤ (c1 : Int) := by omega
        obtain ⟨S1, hS1⟩ : ∃ s, Hid (s = strOfNums ts) := ⟨_, rfl⟩
        obtain ⟨S2, hS2⟩ : ∃ s, Hid (s = strOfNums (Y.take m)) := ⟨_, rfl⟩
        have hyt : (Y.take m).length = m := by rw [List.length_take, hYl]; omega
        have CV2 := hid (show ∀ w, Below w3.heap.size w3 w → (convert 22 9 (.slice p2 nt c2)).run Try.prog w = .ok (.string S1) w from fun w h => by
          have := conv_str (vb2'.below h) c2
          rw [HT.out, ← hS1.out] at this; exact this)
        have CVT := hid (show ∀ w, Below w3.heap.size w3 w → (convert 22 9 (.slice pt nt ct)).run Try.prog w = .ok (.string S1) w from fun w h => by
          have := conv_str (vbt.below h) ct
          rw [HT.out, ← hS1.out] at this; exact this)
        have CV3 := hid (show ∀ w, Below w3.heap.size w3 w → (convert 22 9 (.slice p3 m c3)).run Try.prog w = .ok (.string S2) w from fun w h => by
          have := conv_str (vb3.below h) c3
          rw [hyt, ← hS2.out] at this; exact this)
        have CVB := hid (show ∀ w, Below w3.heap.size w3 w → (convert 22 9 (.slice p1 m c1)).run Try.prog w = .ok (.string S2) w from fun w h => by
          have := conv_str (hpb.below h) c1
          rw [hyt, ← hS2.out] at this; exact this)
        have HB := hid hB3
        clear hB2 hB3 hb3 hv3 hT3 hpa vb1' vb1'' vb2 vb2' vb3 vbt hpb
        go_upto_region 11 with fail
        have hSd : Below w3.heap.size w3 w3.drew := (Below.refl _ _).drew
        refine wp_region_z (fun v => Below w3.heap.size w3 v) 33 (by kernel_rfl) hSd (fun hS => ?_)
        clear hSd
        generalize World.drew _ = w9 at hS ⊢
        refine wpAnyZ_take (i := 0) (v := .int .i64 0) rfl (by kernel_rfl) (by kernel_rfl) (by kernel_rfl) (by kernel_rfl) (fun _ _ _ h => h) hS (Or.inl ⟨by kernel_rfl, fun w hS => (by clear hS; go_simp)⟩) ?_
        simp only [Act.put, List.setIfInBounds_toArray, List.set_cons_zero, List.set_cons_succ]
        refine wpAnyZ_take (i := 1) (v := .bool true) rfl (by kernel_rfl) (by kernel_rfl) (by kernel_rfl) (by kernel_rfl) (fun _ _ _ h => h) hS (Or.inl ⟨by kernel_rfl, fun w hS => (by clear hS; go_simp)⟩) ?_
        simp only [Act.put, List.setIfInBounds_toArray, List.set_cons_zero, List.set_cons_succ]
        refine wpAnyZ_take (i := 2) (v := .bool true) rfl (by kernel_rfl) (by kernel_rfl) (by kernel_rfl) (by kernel_rfl) (fun _ _ _ h => h) hS (Or.inl ⟨by kernel_rfl, fun w hS => (by clear hS; go_simp)⟩) ?_
        simp only [Act.put, List.setIfInBounds_toArray, List.set_cons_zero, List.set_cons_succ]
        refine wpAnyZ_take (i := 3) (v := .int .i64 0) rfl (by kernel_rfl) (by kernel_rfl) (by kernel_rfl) (by kernel_rfl) (fun _ _ _ h => h) hS (Or.inl ⟨by kernel_rfl, fun w hS => (by clear hS; go_simp)⟩) ?_
        simp only [Act.put, List.setIfInBounds_toArray, List.set_cons_zero, List.set_cons_succ]
        refine wpAnyZ_take (i := 4) (v := .bool true) rfl (by kernel_rfl) (by kernel_rfl) (by kernel_rfl) (by kernel_rfl) (fun _ _ _ h => h) hS (Or.inl ⟨by kernel_rfl, fun w hS => (by clear hS; go_simp)⟩) ?_
        simp only [Act.put, List.setIfInBounds_toArray, List.set_cons_zero, List.set_cons_succ]
        refine wpAnyZ_take (i := 5) (v := .bool true) rfl (by kernel_rfl) (by kernel_rfl) (by kernel_rfl) (by kernel_rfl) (fun _ _ _ h => h) hS (Or.inl ⟨by kernel_rfl, fun w hS => (by clear hS; go_simp)⟩) ?_
        simp only [Act.put, List.setIfInBounds_toArray, List.set_cons_zero, List.set_cons_succ]
        refine wpAnyZ_take (i := 6) (v := .bool true) rfl (by kernel_rfl) (by kernel_rfl) (by kernel_rfl) (by kernel_rfl) (fun _ _ _ h => h) hS (Or.inl ⟨by kernel_rfl, fun w hS => (by clear hS; go_simp)⟩) ?_
        simp only [Act.put, List.setIfInBounds_toArray, List.set_cons_zero, List.set_cons_succ]
        refine wpAnyZ_take (i := 7) (v := .slice p2 nt c2) rfl (by kernel_rfl) (by kernel_rfl) (by kernel_rfl) (by kernel_rfl) (fun _ _ _ h => h) hS (Or.inl ⟨by kernel_rfl, fun w hS => (by clear hS; go_simp)⟩) ?_
        simp only [Act.put, List.setIfInBounds_toArray, List.set_cons_zero, List.set_cons_succ]
        refine wpAnyZ_take (i := 8) (v := .string S1) rfl (by kernel_rfl) (by kernel_rfl) (by kernel_rfl) (by kernel_rfl) (fun _ _ _ h => h) hS (Or.inl ⟨by kernel_rfl, fun w hS => (by have hcv := CV2.out w hS; clear hS; go_simp)⟩) ?_
        simp only [Act.put, List.setIfInBounds_toArray, List.set_cons_zero, List.set_cons_succ]
        refine wpAnyZ_take (i := 9) (v := .slice pt nt ct) rfl (by kernel_rfl) (by kernel_rfl) (by kernel_rfl) (by kernel_rfl) (fun _ _ _ h => h) hS (Or.inl ⟨by kernel_rfl, fun w hS => (by clear hS; go_simp)⟩) ?_
        simp only [Act.put, List.setIfInBounds_toArray, List.set_cons_zero, List.set_cons_succ]
        refine wpAnyZ_take (i := 10) (v := .string S1) rfl (by kernel_rfl) (by kernel_rfl) (by kernel_rfl) (by kernel_rfl) (fun _ _ _ h => h) hS (Or.inl ⟨by kernel_rfl, fun w hS => (by have hcv := CVT.out w hS; clear hS; go_simp)⟩) ?_
        simp only [Act.put, List.setIfInBounds_toArray, List.set_cons_zero, List.set_cons_succ]
        refine wpAnyZ_take (i := 11) (v := .bool true) rfl (by kernel_rfl) (by kernel_rfl) (by kernel_rfl) (by kernel_rfl) (fun _ _ _ h => h) hS (Or.inl ⟨by kernel_rfl, fun w hS => (by clear hS; go_simp)⟩) ?_
        simp only [Act.put, List.setIfInBounds_toArray, List.set_cons_zero, List.set_cons_succ]
        refine wpAnyZ_take (i := 12) (v := .bool true) rfl (by kernel_rfl) (by kernel_rfl) (by kernel_rfl) (by kernel_rfl) (fun _ _ _ h => h) hS (Or.inl ⟨by kernel_rfl, fun w hS => (by clear hS; go_simp)⟩) ?_
        simp only [Act.put, List.setIfInBounds_toArray, List.set_cons_zero, List.set_cons_succ]
        refine wpAnyZ_take (i := 13) (v := .bool true) rfl (by kernel_rfl) (by kernel_rfl) (by kernel_rfl) (by kernel_rfl) (fun _ _ _ h => h) hS (Or.inl ⟨by kernel_rfl, fun w hS => (by clear hS; go_simp)⟩) ?_
        simp only [Act.put, List.setIfInBounds_toArray, List.set_cons_zero, List.set_cons_succ]
        refine wpAnyZ_take (i := 14) (v := .slice p1 nt c1) rfl (by kernel_rfl) (by kernel_rfl) (by kernel_rfl) (by kernel_rfl) (fun _ _ _ h => h) hS (Or.inl ⟨by kernel_rfl, fun w hS => (by clear hS; go_simp)⟩) ?_
        simp only [Act.put, List.setIfInBounds_toArray, List.set_cons_zero, List.set_cons_succ]
        refine wpAnyZ_take (i := 15) (v := .int .i64 (nt : Int)) rfl (by kernel_rfl) (by kernel_rfl) (by kernel_rfl) (by kernel_rfl) (fun _ _ _ h => h) hS (Or.inl ⟨by kernel_rfl, fun w hS => (by clear hS; go_simp)⟩) ?_
        simp only [Act.put, List.setIfInBounds_toArray, List.set_cons_zero, List.set_cons_succ]
        refine wpAnyZ_take (i := 16) (v := .slice pt nt ct) rfl (by kernel_rfl) (by kernel_rfl) (by kernel_rfl) (by kernel_rfl) (fun _ _ _ h => h) hS (Or.inl ⟨by kernel_rfl, fun w hS => (by clear hS; go_simp)⟩) ?_
        simp only [Act.put, List.setIfInBounds_toArray, List.set_cons_zero, List.set_cons_succ]
        refine wpAnyZ_take (i := 17) (v := .int .i64 (nt : Int)) rfl (by kernel_rfl) (by kernel_rfl) (by kernel_rfl) (by kernel_rfl) (fun _ _ _ h => h) hS (Or.inl ⟨by kernel_rfl, fun w hS => (by clear hS; go_simp)⟩) ?_
        simp only [Act.put, List.setIfInBounds_toArray, List.set_cons_zero, List.set_cons_succ]
        refine wpAnyZ_take (i := 18) (v := .bool true) rfl (by kernel_rfl) (by kernel_rfl) (by kernel_rfl) (by kernel_rfl) (fun _ _ _ h => h) hS (Or.inl ⟨by kernel_rfl, fun w hS => (by clear hS; go_simp)⟩) ?_
        simp only [Act.put, List.setIfInBounds_toArray, List.set_cons_zero, List.set_cons_succ]
        refine wpAnyZ_take (i := 19) (v := .bool true) rfl (by kernel_rfl) (by kernel_rfl) (by kernel_rfl) (by kernel_rfl) (fun _ _ _ h => h) hS (Or.inl ⟨by kernel_rfl, fun w hS => (by clear hS; go_simp)⟩) ?_
        simp only [Act.put, List.setIfInBounds_toArray, List.set_cons_zero, List.set_cons_succ]
        refine wpAnyZ_take (i := 20) (v := .bool true) rfl (by kernel_rfl) (by kernel_rfl) (by kernel_rfl) (by kernel_rfl) (fun _ _ _ h => h) hS (Or.inl ⟨by kernel_rfl, fun w hS => (by clear hS; go_simp)⟩) ?_
        simp only [Act.put, List.setIfInBounds_toArray, List.set_cons_zero, List.set_cons_succ]
        refine wpAnyZ_take (i := 21) (v := .slice p3 m c3) rfl (by kernel_rfl) (by kernel_rfl) (by kernel_rfl) (by kernel_rfl) (fun _ _ _ h => h) hS (Or.inl ⟨by kernel_rfl, fun w hS => (by clear hS; go_simp)⟩) ?_
        simp only [Act.put, List.setIfInBounds_toArray, List.set_cons_zero, List.set_cons_succ]
        refine wpAnyZ_take (i := 22) (v := .string S2) rfl (by kernel_rfl) (by kernel_rfl) (by kernel_rfl) (by kernel_rfl) (fun _ _ _ h => h) hS (Or.inl ⟨by kernel_rfl, fun w hS => (by have hcv := CV3.out w hS; clear hS; go_simp)⟩) ?_
        simp only [Act.put, List.setIfInBounds_toArray, List.set_cons_zero, List.set_cons_succ]
        refine wpAnyZ_take (i := 23) (v := .slice p1 nt c1) rfl (by kernel_rfl) (by kernel_rfl) (by kernel_rfl) (by kernel_rfl) (fun _ _ _ h => h) hS (Or.inl ⟨by kernel_rfl, fun w hS => (by clear hS; go_simp)⟩) ?_
        simp only [Act.put, List.setIfInBounds_toArray, List.set_cons_zero, List.set_cons_succ]
        refine wpAnyZ_take (i := 24) (v := .int .i64 (m : Int)) rfl (by kernel_rfl) (by kernel_rfl) (by kernel_rfl) (by kernel_rfl) (fun _ _ _ h => h) hS (Or.inl ⟨by kernel_rfl, fun w hS => (by clear hS; go_simp)⟩) ?_
        simp only [Act.put, List.setIfInBounds_toArray, List.set_cons_zero, List.set_cons_succ]
        refine wpAnyZ_take (i := 25) (v := .slice p1 m c1) rfl (by kernel_rfl) (by kernel_rfl) (by kernel_rfl) (by kernel_rfl) (fun _ _ _ h => h) hS (Or.inl ⟨by kernel_rfl, fun w hS => (by clear hS; go_simp)⟩) ?_
        simp only [Act.put, List.setIfInBounds_toArray, List.set_cons_zero, List.set_cons_succ]
        refine wpAnyZ_take (i := 26) (v := .string S2) rfl (by kernel_rfl) (by kernel_rfl) (by kernel_rfl) (by kernel_rfl) (fun _ _ _ h => h) hS (Or.inl ⟨by kernel_rfl, fun w hS => (by have hcv := CVB.out w hS; clear hS; go_simp)⟩) ?_
        simp only [Act.put, List.setIfInBounds_toArray, List.set_cons_zero, List.set_cons_succ]
        refine wpAnyZ_take (i := 27) (v := .bool true) rfl (by kernel_rfl) (by kernel_rfl) (by kernel_rfl) (by kernel_rfl) (fun _ _ _ h => h) hS (Or.inl ⟨by kernel_rfl, fun w hS => (by clear hS; go_simp)⟩) ?_
        simp only [Act.put, List.setIfInBounds_toArray, List.set_cons_zero, List.set_cons_succ]
        refine wpAnyZ_take (i := 28) (v := .bool true) rfl (by kernel_rfl) (by kernel_rfl) (by kernel_rfl) (by kernel_rfl) (fun _ _ _ h => h) hS (Or.inl ⟨by kernel_rfl, fun w hS => (by clear hS; go_simp)⟩) ?_
        simp only [Act.put, List.setIfInBounds_toArray, List.set_cons_zero, List.set_cons_succ]
        refine wpAnyZ_take (i := 29) (v := .bool true) rfl (by kernel_rfl) (by kernel_rfl) (by kernel_rfl) (by kernel_rfl) (fun _ _ _ h => h) hS (Or.inl ⟨by kernel_rfl, fun w hS => (by clear hS; go_simp)⟩) ?_
        simp only [Act.put, List.setIfInBounds_toArray, List.set_cons_zero, List.set_cons_succ]
        refine wpAnyZ_one (i := 30) (by kernel_rfl) rfl (fun K hK => ?_)
        go_simp
        go_at_call 12
        refine (cknown_any _).mono ?_
        rintro e v8 ⟨rfl, hb8⟩
        go_wp2_with fail
        refine hK.out _ _ (fun _ => hS.trans (hb8.mono hS.size)) ?_
        replace hS := hS.trans (hb8.mono hS.size)
        clear hK K
        try simp only [Act.put, List.setIfInBounds_toArray, List.set_cons_zero, List.set_cons_succ]
        refine wpAnyZ_take (i := 31) (v := .bool true) rfl (by kernel_rfl) (by kernel_rfl) (by kernel_rfl) (by kernel_rfl) (fun _ _ _ h => h) hS (Or.inl ⟨by kernel_rfl, fun w hS => (by clear hS; go_simp)⟩) ?_
        simp only [Act.put, List.setIfInBounds_toArray, List.set_cons_zero, List.set_cons_succ]
        refine wpAnyZ_one (i := 32) (by kernel_rfl) rfl (fun K hK => ?_)
        go_simp
        refine hK.out _ _ (fun _ => hS) ?_
        clear hK K
        try simp only [Act.put, List.setIfInBounds_toArray, List.set_cons_zero, List.set_cons_succ]
        refine wpAnyZ_done (by kernel_rfl) ?_ _
        go_wp2_with fail
        go_ret
        exact ⟨rfl, HB.out.trans (hS.mono HB.out.size)⟩
    · go_enter Try.func5, Try.ntmps5
      have hcr := crypt_no pk pn pt ck cn ct nk nn nt ks ns w KP.out hks HK.out hck NP.out hns HN.out h0
      have h2 : opensN nk nn nt = 2 := by
        unfold opensN at h0 ⊢
        by_cases h : mayB nk = false ∨ nn ≠ 12
        · rw [if_pos h]
        · rw [if_neg h, if_neg (by omega)] at h0
          exact absurd rfl h0
      have h3 : mayB nk = false ∨ nn ≠ 12 := Classical.not_not.1 fun h => h0 (by unfold opensN; rw [if_neg h, if_neg (by omega)])
      rw [h2] at hcr
      clear h0 h2
      go_wp2_with fail
      refine hcr.mono ?_
      rintro e w1 ⟨rfl, hb1⟩
      clear hcr
      rcases h3 with h3 | h3
      · obtain ⟨n1, n2⟩ := mayB_no h3
        have e1 : ((nk : Int) != 16) = true := by simp; omega
        have e2 : ((nk : Int) != 32) = true := by simp; omega
        go_wp2_with fail
        refine (cknown_any _).mono ?_
        rintro e w2 ⟨rfl, hb2⟩
        go_wp2_with fail
        go_ret
        exact ⟨rfl, hb1.trans (hb2.mono hb1.size)⟩
      · have e3 : ((nn : Int) != 12) = true := by simp; omega
        by_cases k1 : nk = 16
        · have e1 : ((nk : Int) != 16) = false := by rw [k1]; rfl
          go_wp2_with fail
          refine (cknown_any _).mono ?_
          rintro e w2 ⟨rfl, hb2⟩
          go_wp2_with fail
          go_ret
          exact ⟨rfl, hb1.trans (hb2.mono hb1.size)⟩
        · have e1 : ((nk : Int) != 16) = true := by simp; omega
          by_cases k2 : nk = 32
          · have e2 : ((nk : Int) != 32) = false := by rw [k2]; rfl
            go_wp2_with fail
            refine (cknown_any _).mono ?_
            rintro e w2 ⟨rfl, hb2⟩
            go_wp2_with fail
            go_ret
            exact ⟨rfl, hb1.trans (hb2.mono hb1.size)⟩
          · have e2 : ((nk : Int) != 32) = true := by simp; omega
            go_wp2_with fail
            refine (cknown_any _).mono ?_
            rintro e w2 ⟨rfl, hb2⟩
            go_wp2_with fail
            go_ret
            exact ⟨rfl, hb1.trans (hb2.mono hb1.size)⟩
end Go.Proofs.Ytadpnkecdjleiaa
