/-
  The document's device: Sync.
-/
import Derived.Test.YtlbhoijjbpjmoaaRdw
import Derived.Test.YtlbhoijjbpjmoaaKa
import Derived.Deep.AppendLies
namespace Go.Proofs.Ytlbhoijjbpjmoaa
open Go.RowKit
set_option linter.unusedVariables false
set_option linter.unusedSimpArgs false

section
variable {e : TypeId} {B g n steps fail : Nat} {w : World} {F : Nat → Prop} {vN vF vW : Value} {VN VF VW : Nat → Value} {now now' firm firm' : Nat → List Int} {ws : List (Nat × List Int)} {cut : Int} {down : Bool}
theorem Rowz.same {B n m : Nat} {w : World} {v : Value} {V : Nat → Value} {D D' : Nat → List Int} (h : Rowz B w v n m V D) (hd : ∀ i, i < n → D i = D' i) : Rowz B w v n m V D' := ⟨h.out, fun i hi => by rw [← hd i hi]; exact h.row i hi, h.ap0, h.ap⟩
theorem RDv.sameF (h : RDv e B w g F n vN VN now vF VF firm vW VW ws steps fail cut down) (hf : ∀ j, j < n → firm j = firm' j) : RDv e B w g F n vN VN now vF VF firm' vW VW ws steps fail cut down :=
  ⟨h.c0, h.c1, h.c2, h.c3, h.c4, h.c5, h.c6, h.z, h.rN, h.rF.same hf, h.rW, h.fg, h.fN, h.fF, h.fW, h.dNF, h.dNW, h.dFW, h.lt⟩
theorem RDv.sameN (h : RDv e B w g F n vN VN now vF VF firm vW VW ws steps fail cut down) (hf : ∀ j, j < n → now j = now' j) : RDv e B w g F n vN VN now' vF VF firm vW VW ws steps fail cut down :=
  ⟨h.c0, h.c1, h.c2, h.c3, h.c4, h.c5, h.c6, h.z, h.rN.same hf, h.rF, h.rW, h.fg, h.fN, h.fF, h.fW, h.dNF, h.dNW, h.dFW, h.lt⟩
end

set_option maxHeartbeats 16000000 in
set_option maxRecDepth 100000 in
theorem rSync_of (B g : Nat) (F : Nat → Prop) (S : Dst) (w : World) (h : RDs B w g F S) (hs : S.steps < 9223372036854775807) :
    Calls Try.prog 40 #[.pointer (some ⟨g, 0, none⟩)] w fun e w' => e = .returned (.int .i64 S.err) ∧ Rstep B w g F S.sync w' := by
  have hst := rStep_of B g F S w h hs
  by_cases he : S.err ≠ 0
  · rw [show S.sync = S.step from if_pos he]
    obtain ⟨er, her⟩ : ∃ e, Hid (e = S.err) := ⟨_, rfl⟩
    rw [← her.out] at he hst ⊢
    go_enter Try.func40, Try.ntmps40
    go_wp2_with fail
    refine hst.mono ?_
    rintro e w1 ⟨rfl, hr⟩
    have HR := hid hr
    clear hst hr
    go_wp2
    go_ret
    exact ⟨rfl, HR.out⟩
  · have he0 : S.err = 0 := by simpa using he
    have hok := Dst.ok_sync h.ok
    have hsy : S.sync = S.step.calm := if_neg he
    rw [hsy] at hok ⊢
    rw [he0] at hst ⊢
    have HOK := hid hok
    have HOS := hid (Dst.ok_step h.ok)
    have HH := hid h
    have HTB : Hid (∀ (W : World), Tb F w W → B ≤ W.heap.size) := hid (fun W t => Nat.le_trans (HH.out.le) t.size)
    clear he he0 hok hsy h
    obtain ⟨T, hT⟩ : ∃ T, Hid (T = S.step) := ⟨_, rfl⟩
    rw [← hT.out] at hst HOK HOS ⊢
    go_enter Try.func40, Try.ntmps40
    go_wp2_with fail
    refine hst.mono ?_
    rintro e w1 ⟨rfl, F1, hr1, ht1, hn1⟩
    obtain ⟨vN, VN, vF, VF, vW, VW, hv⟩ := hr1.at'
    have h8 := HOS.out.n8
    obtain ⟨bN, cN, rfl, _⟩ := hv.rN.isSlice (by omega)
    obtain ⟨bF, cF, rfl, _⟩ := hv.rF.isSlice (by omega)
    have HOK1 := hid HOS.out.now
    obtain ⟨N, hN⟩ : ∃ n, Hid (n = T.n) := ⟨_, rfl⟩
    have hv2 := hv
    rw [← hN.out] at hv2 HOK1 h8
    have h4 : N ≤ 4096 := by rw [hN.out]; exact HOS.out.n4
    have HV1 := hid hv2
    have HT1 := hid ht1
    have HN1 := hid hn1
    clear hst hv hv2 hr1 ht1 hn1
    go_wp2_with fail
    go_loopw [4] (fun i wr => ∃ (k : Nat) (F1 : Nat → Prop) (VF : Nat → Value), k ≤ N ∧ i = .int .i64 (k : Int) ∧ RDv 86 B wr g F1 N (.slice (some ⟨bN, 0, none⟩) N cN) VN T.now (.slice (some ⟨bF, 0, none⟩) N cF) VF (fun j => if j < k then T.now j else T.firm j) vW VW T.ws T.steps T.fail T.cut T.down ∧ Tb F w wr ∧ (∀ q, F1 q → F q ∨ w.heap.size ≤ q)) (fun i _ => N - (intOf i).toNat)
    case atStart => exact ⟨0, F1, VF, Nat.zero_le _, rfl, HV1.out.sameF (fun j _ => by rw [if_neg (Nat.not_lt_zero _)]), HT1.out, HN1.out⟩
    case round =>
      clear HV1 HT1 HN1
      obtain ⟨k, F1, VF, hk, rfl, hv, ht, hn⟩ := hrel
      have HV := hid hv
      have HT := hid ht
      have HN := hid hn
      have c0 := hv.c0
      clear hv ht hn
      by_cases hkN : k < N
      · have kI : (k : Int) < (N : Int) := by omega
        obtain ⟨bk, ck, hVk, _, hbk⟩ := (HV.out.rN.row k hkN).isSlice (by decide)
        have HVK := hid hVk
        have HBK := hid hbk
        have HLK := hid (HOK1.out k hkN).1
        clear hVk hbk
        go_upto_region 7 with fail
        clear c0
        have hS0 : (fun v => (v.cell? ⟨g, 1, none⟩ = some (.slice (some ⟨bF, 0, none⟩) N cF) ∧ v.cell? ⟨g, 0, none⟩ = some (.slice (some ⟨bN, 0, none⟩) N cN)) ∧ v.cell? ⟨bN, k, none⟩ = some (.slice (some ⟨bk, 0, none⟩) 256 ck)) wr.drew := ⟨⟨(HV.out.below ((Below.refl _ _).drew)).c1, (HV.out.below ((Below.refl _ _).drew)).c0⟩, ((HV.out.below ((Below.refl _ _).drew)).rN.cellAt k hkN).trans (congrArg some HVK.out)⟩
        have HV2 := hid (HV.out.below ((Below.refl _ _).drew))
        have HB2 := hid (HBK.out.below ((Below.refl _ _).drew))
        have HT2 := hid (HT.out.drew)
        clear HV HT HBK
        refine wp_region_z (fun v => (v.cell? ⟨g, 1, none⟩ = some (.slice (some ⟨bF, 0, none⟩) N cF) ∧ v.cell? ⟨g, 0, none⟩ = some (.slice (some ⟨bN, 0, none⟩) N cN)) ∧ v.cell? ⟨bN, k, none⟩ = some (.slice (some ⟨bk, 0, none⟩) 256 ck)) 15 (by kernel_rfl) hS0 (fun hS => ?_)
        clear hS0
        generalize World.drew _ = w2 at hS HV2 HB2 HT2 ⊢
        refine wpAnyZ_take (i := 0) (v := .pointer (some ⟨g, 0, none⟩)) rfl (by kernel_rfl) (by kernel_rfl) (by kernel_rfl) (by kernel_rfl) (fun _ _ _ h => h) hS (Or.inl ⟨by kernel_rfl, fun w hS => (by clear hS; go_simp)⟩) ?_
        simp only [Act.put, List.setIfInBounds_toArray, List.set_cons_zero, List.set_cons_succ]
        refine wpAnyZ_take (i := 1) (v := .pointer (some ⟨g, 0, none⟩)) rfl (by kernel_rfl) (by kernel_rfl) (by kernel_rfl) (by kernel_rfl) (fun _ _ _ h => h) hS (Or.inl ⟨by kernel_rfl, fun w hS => (by clear hS; go_simp)⟩) ?_
        simp only [Act.put, List.setIfInBounds_toArray, List.set_cons_zero, List.set_cons_succ]
        refine wpAnyZ_take (i := 2) (v := .pointer (some ⟨g, 1, none⟩)) rfl (by kernel_rfl) (by kernel_rfl) (by kernel_rfl) (by kernel_rfl) (fun _ _ _ h => h) hS (Or.inl ⟨by kernel_rfl, fun w hS => (by clear hS; go_simp)⟩) ?_
        simp only [Act.put, List.setIfInBounds_toArray, List.set_cons_zero, List.set_cons_succ]
        refine wpAnyZ_take (i := 3) (v := .slice (some ⟨bF, 0, none⟩) N cF) rfl (by kernel_rfl) (by kernel_rfl) (by kernel_rfl) (by kernel_rfl) (fun _ _ _ h => h) hS (Or.inl ⟨by kernel_rfl, fun w hS => (by have hc := hS.1.1; clear hS; go_simp)⟩) ?_
        simp only [Act.put, List.setIfInBounds_toArray, List.set_cons_zero, List.set_cons_succ]
        refine wpAnyZ_take (i := 4) (v := .int .i64 (k : Nat)) rfl (by kernel_rfl) (by kernel_rfl) (by kernel_rfl) (by kernel_rfl) (fun _ _ _ h => h) hS (Or.inl ⟨by kernel_rfl, fun w hS => (by clear hS; go_simp)⟩) ?_
        simp only [Act.put, List.setIfInBounds_toArray, List.set_cons_zero, List.set_cons_succ]
        refine wpAnyZ_take (i := 5) (v := .pointer (some ⟨g, 0, none⟩)) rfl (by kernel_rfl) (by kernel_rfl) (by kernel_rfl) (by kernel_rfl) (fun _ _ _ h => h) hS (Or.inl ⟨by kernel_rfl, fun w hS => (by clear hS; go_simp)⟩) ?_
        simp only [Act.put, List.setIfInBounds_toArray, List.set_cons_zero, List.set_cons_succ]
        refine wpAnyZ_take (i := 6) (v := .pointer (some ⟨g, 0, none⟩)) rfl (by kernel_rfl) (by kernel_rfl) (by kernel_rfl) (by kernel_rfl) (fun _ _ _ h => h) hS (Or.inl ⟨by kernel_rfl, fun w hS => (by clear hS; go_simp)⟩) ?_
        simp only [Act.put, List.setIfInBounds_toArray, List.set_cons_zero, List.set_cons_succ]
        refine wpAnyZ_take (i := 7) (v := .pointer (some ⟨g, 0, none⟩)) rfl (by kernel_rfl) (by kernel_rfl) (by kernel_rfl) (by kernel_rfl) (fun _ _ _ h => h) hS (Or.inl ⟨by kernel_rfl, fun w hS => (by clear hS; go_simp)⟩) ?_
        simp only [Act.put, List.setIfInBounds_toArray, List.set_cons_zero, List.set_cons_succ]
        refine wpAnyZ_take (i := 8) (v := .slice (some ⟨bN, 0, none⟩) N cN) rfl (by kernel_rfl) (by kernel_rfl) (by kernel_rfl) (by kernel_rfl) (fun _ _ _ h => h) hS (Or.inl ⟨by kernel_rfl, fun w hS => (by have hc := hS.1.2; clear hS; go_simp)⟩) ?_
        simp only [Act.put, List.setIfInBounds_toArray, List.set_cons_zero, List.set_cons_succ]
        refine wpAnyZ_take (i := 9) (v := .int .i64 (k : Nat)) rfl (by kernel_rfl) (by kernel_rfl) (by kernel_rfl) (by kernel_rfl) (fun _ _ _ h => h) hS (Or.inl ⟨by kernel_rfl, fun w hS => (by clear hS; go_simp)⟩) ?_
        simp only [Act.put, List.setIfInBounds_toArray, List.set_cons_zero, List.set_cons_succ]; try simp only [List.getElem_toArray, List.getElem_cons_succ, List.getElem_cons_zero]
        refine wpAnyZ_take (i := 10) (v := .pointer (some ⟨bN, k, none⟩)) rfl (by kernel_rfl) (by kernel_rfl) (by kernel_rfl) (by kernel_rfl) (fun _ _ _ h => h) hS (Or.inl ⟨by kernel_rfl, fun w hS => (by clear hS; go_simp)⟩) ?_
        simp only [Act.put, List.setIfInBounds_toArray, List.set_cons_zero, List.set_cons_succ]; try simp only [List.getElem_toArray, List.getElem_cons_succ, List.getElem_cons_zero]
        refine wpAnyZ_take (i := 11) (v := .slice (some ⟨bk, 0, none⟩) 256 ck) rfl (by kernel_rfl) (by kernel_rfl) (by kernel_rfl) (by kernel_rfl) (fun _ _ _ h => h) hS (Or.inl ⟨by kernel_rfl, fun w hS => (by have hc := hS.2; clear hS; go_simp)⟩) ?_
        simp only [Act.put, List.setIfInBounds_toArray, List.set_cons_zero, List.set_cons_succ]; try simp only [List.getElem_toArray, List.getElem_cons_succ, List.getElem_cons_zero]
        refine wpAnyZ_one (i := 12) (by kernel_rfl) rfl (fun K hK => ?_)
        go_simp
        go_at_call 10
        refine (copy_256 (some ⟨bk, 0, none⟩) ck _ w2 HB2.out HLK.out).mono ?_
        rintro e v8 ⟨g8, c8, rfl, hO8, hb8⟩
        have hg8 := World.ownsRow.lt hO8 g8 rfl
        have hn8 : ¬ F1 g8 := fun h => by have := (HV2.out.lt g8 h).2; omega
        have hv8 := HV2.out.below hb8
        have HV3 := hid (hv8.putF (k := k) rfl hkN (hO8.mono (HTB.out _ HT2.out)) rfl hn8)
        have HC3 := hid (And.intro (hv8.rF.cellAt k hkN) (World.ownsRow.frozenAt hv8.rF.out k))
        have hS8 : (fun v => (v.cell? ⟨g, 1, none⟩ = some (.slice (some ⟨bF, 0, none⟩) N cF) ∧ v.cell? ⟨g, 0, none⟩ = some (.slice (some ⟨bN, 0, none⟩) N cN)) ∧ v.cell? ⟨bN, k, none⟩ = some (.slice (some ⟨bk, 0, none⟩) 256 ck)) v8 := ⟨⟨(hv8).c1, (hv8).c0⟩, ((hv8).rN.cellAt k hkN).trans (congrArg some HVK.out)⟩
        have HT3 := hid ((HT2.out.below hb8).setCell (b := bF) (HN.out bF (HV2.out.fF bF (.inl rfl)).1) k (.slice (some ⟨g8, 0, none⟩) 256 c8))
        have HN3 : Hid (∀ q, (F1 q ∨ q = g8) → F q ∨ w.heap.size ≤ q) := hid (fun q hq => by
          rcases hq with h1 | rfl
          · exact HN.out q h1
          · have := HT2.out.size; exact .inr (by omega))
        have HS3 : Hid ((fun v => (v.cell? ⟨g, 1, none⟩ = some (.slice (some ⟨bF, 0, none⟩) N cF) ∧ v.cell? ⟨g, 0, none⟩ = some (.slice (some ⟨bN, 0, none⟩) N cN)) ∧ v.cell? ⟨bN, k, none⟩ = some (.slice (some ⟨bk, 0, none⟩) 256 ck)) (World.setCell v8 ⟨bF, k, none⟩ (.slice (some ⟨g8, 0, none⟩) 256 c8))) := hid ⟨⟨HV3.out.c1, HV3.out.c0⟩, (HV3.out.rN.cellAt k hkN).trans (congrArg some HVK.out)⟩
        clear hO8 hb8 HV2 HB2 HT2 hg8 hn8 hv8 hS
        have hS := hS8
        clear hS8
        go_wp2_with fail
        refine hK.out _ _ (fun _ => hS) ?_
        clear hK K
        try simp only [Act.put, List.setIfInBounds_toArray, List.set_cons_zero, List.set_cons_succ]
        refine wpAnyZ_take (i := 13) (v := .pointer (some ⟨bF, k, none⟩)) rfl (by kernel_rfl) (by kernel_rfl) (by kernel_rfl) (by kernel_rfl) (fun _ _ _ h => h) hS (Or.inl ⟨by kernel_rfl, fun w hS => (by clear hS; go_simp)⟩) ?_
        simp only [Act.put, List.setIfInBounds_toArray, List.set_cons_zero, List.set_cons_succ]; try simp only [List.getElem_toArray, List.getElem_cons_succ, List.getElem_cons_zero]
        refine wpAnyZ_one (i := 14) (by kernel_rfl) rfl (fun K hK => ?_)
        obtain ⟨hcc, hff⟩ := HC3.out
        go_simp
        refine hK.out _ _ (fun _ => HS3.out) ?_
        clear hK K hcc hff
        try simp only [Act.put, List.setIfInBounds_toArray, List.set_cons_zero, List.set_cons_succ]
        refine wpAnyZ_done (by kernel_rfl) ?_ _
        clear hS HC3 HS3
        have HV4 := hid (HV3.out.sameF (firm' := fun j => if j < k + 1 then T.now j else T.firm j) (fun j hj => by
          unfold putB
          by_cases e : j = k
          · subst e; rw [if_pos rfl, if_pos (Nat.lt_succ_self _)]
          · rw [if_neg e]; show (if j < k then T.now j else T.firm j) = _; by_cases h2 : j < k
            · rw [if_pos h2, if_pos (by omega)]
            · rw [if_neg h2, if_neg (by omega)]))
        clear HV3
        go_wp2_with fail
        go_roundw
        case rel => exact ⟨k + 1, _, _, by omega, by go_num, HV4.out, HT3.out, HN3.out⟩
        case measure => simp [intOf]; omega
      · obtain rfl : k = N := by omega
        have kI : ¬ (k : Int) < (k : Int) := by omega
        have HV5 := hid ((HV.out.sameF (firm' := T.now) (fun j hj => if_pos hj)).calm)
        have HT5 := hid (HT.out.setCell (b := g) (HN.out g HV.out.fg) 2 (.slice none 0 0))
        have c2 := HV.out.c2
        have z2 := HV.out.z 2 (by decide)
        clear HV HT
        go_wp2_with fail
        go_ret
        have hf := HV5.out.rdk
        rw [hN.out] at hf
        exact ⟨rfl, F1, ⟨HOK.out, hf⟩, HT5.out, HN.out⟩
end Go.Proofs.Ytlbhoijjbpjmoaa
