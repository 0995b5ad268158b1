/-
  The document's device: Foreign.
-/
import Derived.Test.YtlbhoijjbpjmoaaRdy
namespace Go.Proofs.Ytlbhoijjbpjmoaa
open Go.RowKit
set_option linter.unusedVariables false
set_option linter.unusedSimpArgs false

theorem lay_nil (f : List Int) (t : Nat) : Dst.lay f t [] = f := by
  unfold Dst.lay
  rw [List.append_nil, List.length_nil, Nat.add_zero, List.take_append_drop]
theorem putB_self (s : Nat → List Int) (i j : Nat) : s j = putB s i (s i) j := by
  unfold putB
  split
  · rename_i h; rw [h]
  · rfl
theorem putB_twice (s : Nat → List Int) (i : Nat) (a : List Int) (f : List Int → List Int) (j : Nat) : putB (putB s i a) i (f (putB s i a i)) j = putB s i (f a) j := by
  have e : putB s i a i = a := if_pos rfl
  rw [e]
  unfold putB
  split <;> rfl
theorem putB_set (s : Nat → List Int) (i : Nat) (a : List Int) (q : Nat) (x : Int) (j : Nat) : putB (putB s i a) i ((putB s i a i).set q x) j = putB s i (a.set q x) j := putB_twice s i a (fun l => l.set q x) j
theorem lay_at (f b : List Int) (t j : Nat) (hf : f.length = 256) (ht : t + b.length ≤ 256) (hj : j < 256) : (Dst.lay f t b).getD j 0 = if t ≤ j ∧ j < t + b.length then b.getD (j - t) 0 else f.getD j 0 := by
  unfold Dst.lay
  rw [List.getD_eq_getElem?_getD, List.append_assoc]
  by_cases h1 : j < t
  · rw [List.getElem?_append_left (by rw [List.length_take]; omega), List.getElem?_take, if_pos h1, if_neg (by omega), List.getD_eq_getElem?_getD]
  · rw [List.getElem?_append_right (by rw [List.length_take]; omega), List.length_take, Nat.min_eq_left (by omega)]
    by_cases h2 : j < t + b.length
    · rw [List.getElem?_append_left (by omega), if_pos (by omega), List.getD_eq_getElem?_getD]
    · rw [List.getElem?_append_right (by omega), List.getElem?_drop, if_neg (by omega), List.getD_eq_getElem?_getD]
      congr 2
      omega
theorem lay_len (f b : List Int) (t : Nat) (hf : f.length = 256) (ht : t + b.length ≤ 256) : (Dst.lay f t b).length = 256 := by
  unfold Dst.lay
  rw [List.length_append, List.length_append, List.length_take, List.length_drop]
  omega
theorem set_at (l : List Int) (i j : Nat) (x : Int) (hi : i < l.length) : (l.set i x).getD j 0 = if j = i then x else l.getD j 0 := by
  rw [List.getD_eq_getElem?_getD, List.getElem?_set, List.getD_eq_getElem?_getD]
  by_cases h : i = j
  · subst h
    rw [if_pos rfl, if_pos hi, if_pos rfl]
    rfl
  · rw [if_neg h, if_neg (fun e => h e.symm)]
theorem lay_step {f b : List Int} {t k : Nat} (hf : f.length = 256) (hk : k < b.length) (ht : t + k < 256) : Dst.lay f t (b.take (k + 1)) = (Dst.lay f t (b.take k)).set (t + k) (b.getD k 0) := by
  have l1 : (b.take (k + 1)).length = k + 1 := by rw [List.length_take]; omega
  have l2 : (b.take k).length = k := by rw [List.length_take]; omega
  refine list_same (lay_len _ _ _ hf (by omega)) (by rw [List.length_set]; exact lay_len _ _ _ hf (by omega)) fun j hj => ?_
  rw [set_at _ _ _ _ (by rw [lay_len _ _ _ hf (by omega)]; exact ht), lay_at _ _ _ _ hf (by omega) hj, lay_at _ _ _ _ hf (by omega) hj, l1, l2]
  have tk : ∀ (m q : Nat), q < m → (b.take m).getD q 0 = b.getD q 0 := fun m q h => by rw [List.getD_eq_getElem?_getD, List.getElem?_take, if_pos h, List.getD_eq_getElem?_getD]
  by_cases e : j = t + k
  · rw [if_pos (by omega), if_pos e, tk _ _ (by omega)]
    congr 1
    omega
  · rw [if_neg e]
    by_cases h1 : t ≤ j ∧ j < t + k
    · rw [if_pos (by omega), if_pos h1, tk _ _ (by omega), tk _ _ (by omega)]
    · rw [if_neg (by omega), if_neg h1]

set_option maxHeartbeats 16000000 in
set_option maxRecDepth 100000 in
theorem rForeign_of (B g : Nat) (F : Nat → Prop) (S : Dst) (i0 at0 : Int) (p : Option Addr) (c n : Nat) (bs : List Int) (w : World) (h : RDs B w g F S) (ha : (Lit.int .i64 at0).wf = true) (hp : Bin w p bs) (ho : Oct bs) (hl : bs.length = n) (hm : n ≤ 140737488351232) (hF : ∀ a, p = some a → 0 < n → ¬ F a.block) :
    Calls Try.prog 43 #[.pointer (some ⟨g, 0, none⟩), .int .i64 i0, .int .i64 at0, .slice p n c] w fun e w' => e = .returned (.int .i64 (S.foreignE i0 at0 bs)) ∧ Rstep B w g F (S.foreign i0 at0 bs) w' := by
  have hh := rHas_of B g F S i0 w h
  have hab := i64_of_wf ha
  by_cases h1 : S.has i0 = false
  · rw [h1] at hh
    have H := hid h
    rw [show S.foreignE i0 at0 bs = 2 from if_pos (Or.inl h1), show S.foreign i0 at0 bs = S from if_pos (Or.inl h1)]
    go_enter Try.func43, Try.ntmps43
    go_wp2_with fail
    refine hh.mono ?_
    rintro e w1 ⟨rfl, rfl⟩
    go_wp2
    go_ret
    exact ⟨rfl, F, H.out, Tb.refl _ _, fun q hq => .inl hq⟩
  · have h1t : S.has i0 = true := by simpa using h1
    rw [h1t] at hh
    by_cases h2 : at0 < 0
    · have H := hid h
      rw [show S.foreignE i0 at0 bs = 2 from if_pos (Or.inr (Or.inl h2)), show S.foreign i0 at0 bs = S from if_pos (Or.inr (Or.inl h2))]
      go_enter Try.func43, Try.ntmps43
      go_wp2_with fail
      refine hh.mono ?_
      rintro e w1 ⟨rfl, rfl⟩
      go_wp2
      go_ret
      exact ⟨rfl, F, H.out, Tb.refl _ _, fun q hq => .inl hq⟩
    · by_cases h3 : 256 < at0
      · have h3' : S.has i0 = false ∨ at0 < 0 ∨ 256 < at0 + (bs.length : Int) := .inr (.inr (by omega))
        have H := hid h
        rw [show S.foreignE i0 at0 bs = 2 from if_pos h3', show S.foreign i0 at0 bs = S from if_pos h3']
        go_enter Try.func43, Try.ntmps43
        go_wp2_with fail
        refine hh.mono ?_
        rintro e w1 ⟨rfl, rfl⟩
        go_wp2
        go_ret
        exact ⟨rfl, F, H.out, Tb.refl _ _, fun q hq => .inl hq⟩
      · have iw : IntKind.i64.wrap (256 - at0) = 256 - at0 := by simp [IntKind.wrap, IntKind.signed, IntKind.bits]; omega
        by_cases h4 : 256 - at0 < (n : Int)
        · have h4' : S.has i0 = false ∨ at0 < 0 ∨ 256 < at0 + (bs.length : Int) := .inr (.inr (by omega))
          have H := hid h
          rw [show S.foreignE i0 at0 bs = 2 from if_pos h4', show S.foreign i0 at0 bs = S from if_pos h4']
          go_enter Try.func43, Try.ntmps43
          go_wp2_with fail
          refine hh.mono ?_
          rintro e w1 ⟨rfl, rfl⟩
          go_wp2
          go_ret
          exact ⟨rfl, F, H.out, Tb.refl _ _, fun q hq => .inl hq⟩
        · have hno : ¬ (S.has i0 = false ∨ at0 < 0 ∨ 256 < at0 + (bs.length : Int)) := by rintro (h5 | h5 | h5); exact h1 h5; exact h2 h5; omega
          have hok := Dst.ok_foreign h.ok i0 at0 ho
          have hfe : S.foreign i0 at0 bs = _ := if_neg hno
          rw [show S.foreignE i0 at0 bs = 0 from if_neg hno]
          rw [hfe] at hok ⊢
          obtain ⟨hi0, hi1, hi2⟩ := Dst.has_lt h1
          obtain ⟨i, rfl⟩ : ∃ i : Nat, i0 = (i : Int) := ⟨i0.toNat, by omega⟩
          obtain ⟨t, rfl⟩ : ∃ t : Nat, at0 = (t : Int) := ⟨at0.toNat, by omega⟩
          rw [Int.toNat_natCast] at hi2
          rw [Int.toNat_natCast, Int.toNat_natCast] at hok ⊢
          have HOK := hid hok
          have hnF := (h.ok.now i hi2).1
          have hfF := (h.ok.firm i hi2).1
          have HLN := hid hnF
          have HLF := hid hfF
          obtain ⟨vN, VN, vF, VF, vW, VW, hv⟩ := h.at'
          have h8 := h.ok.n8
          obtain ⟨bN, cN, rfl, _⟩ := hv.rN.isSlice (by omega)
          obtain ⟨bF, cF, rfl, _⟩ := hv.rF.isSlice (by omega)
          obtain ⟨b0, c0', hVN, _, _⟩ := (hv.rN.row i hi2).isSlice (by decide)
          obtain ⟨b1, c1', hVF, _, _⟩ := (hv.rF.row i hi2).isSlice (by decide)
          obtain ⟨c0, hc0'⟩ : ∃ c, c = c0' := ⟨_, rfl⟩
          obtain ⟨c1, hc1'⟩ : ∃ c, c = c1' := ⟨_, rfl⟩
          rw [← hc0'] at hVN
          rw [← hc1'] at hVF
          clear hc0' hc1'
          have HV0K := hid hVN
          have HV1K := hid hVF
          obtain ⟨N, hN⟩ : ∃ n, Hid (n = S.n) := ⟨_, rfl⟩
          rw [← hN.out] at hv hi2 hi1
          have hiN := hi2
          have HV1 := hid hv
          have HP0 := hid hp
          have HBL := hid hl
          have HF := hid hF
          have i4 : ¬ 256 - (t : Int) < (n : Int) := h4
          have htn : t + n ≤ 256 := by omega
          clear hok hfe hno hnF hfF hv hVN hVF hp hl hF h h4 h1 h1t hi0 h2 hab
          go_enter Try.func43, Try.ntmps43
          go_wp2_with fail
          refine hh.mono ?_
          rintro e w1 ⟨rfl, rfl⟩
          clear hh
          go_wp2_with fail
          go_loopw [9] (fun j wr => ∃ k : Nat, k ≤ n ∧ j = .int .i64 (k : Int) ∧ RDv 86 B wr g F N (.slice (some ⟨bN, 0, none⟩) N cN) VN (putB S.now i (Dst.lay (S.now i) t (bs.take k))) (.slice (some ⟨bF, 0, none⟩) N cF) VF (putB S.firm i (Dst.lay (S.firm i) t (bs.take k))) vW VW S.ws S.steps S.fail S.cut S.down ∧ Tb F w wr ∧ Bin wr p bs) (fun j _ => n - (intOf j).toNat)
          case atStart => exact ⟨0, Nat.zero_le _, rfl, (HV1.out.sameN (fun j _ => by rw [List.take_zero, lay_nil]; exact putB_self _ _ _)).sameF (fun j _ => by rw [List.take_zero, lay_nil]; exact putB_self _ _ _), Tb.refl _ _, HP0.out⟩
          case round =>
            clear HV1
            obtain ⟨k, hk, rfl, hv, ht, hpk⟩ := hrel
            have HV := hid hv
            have HT := hid ht
            have HP := hid hpk
            clear hv ht hpk
            by_cases hkn : k < n
            · have kI : (k : Int) < (n : Int) := by omega
              obtain ⟨bp, op, rfl, hbp, hcp⟩ := HP0.out.at (by rw [HBL.out]; omega)
              have HPF : Hid (¬ F bp) := hid (HF.out ⟨bp, op, none⟩ rfl (by omega))
              obtain ⟨b', o', e', _, hcw⟩ := HP.out.at (by rw [HBL.out]; omega)
              cases e'
              have hck := hcw k (by rw [HBL.out]; exact hkn)
              clear hcp hcw hbp
              obtain ⟨x, hx⟩ : ∃ x, Hid (x = bs.getD k 0) := ⟨_, rfl⟩
              rw [← hx.out] at hck
              obtain ⟨q, hq⟩ : ∃ q, Hid (q = t + k) := ⟨_, rfl⟩
              have htk : q < 256 := by rw [hq.out]; omega
              have itk : IntKind.i64.wrap (q : Int) = (q : Int) := by have := hq.out; simp [IntKind.wrap, IntKind.signed, IntKind.bits]; omega
              have itk2 : (t : Int) + (k : Int) = (q : Int) := by have := hq.out; omega
              have htkI : (q : Int) < 256 := by omega
              go_upto_region 6 with fail
              have hS0 : (fun v => (v.cell? ⟨g, 0, none⟩ = some (.slice (some ⟨bN, 0, none⟩) N cN) ∧ v.cell? ⟨bN, i, none⟩ = some (.slice (some ⟨b0, 0, none⟩) 256 c0)) ∧ v.cell? ⟨bp, op + k, none⟩ = some (.int .u8 x)) wr.drew := ⟨⟨(HV.out.below ((Below.refl _ _).drew)).c0, ((HV.out.below ((Below.refl _ _).drew)).rN.cellAt i hiN).trans (congrArg some HV0K.out)⟩, (by exact hck)⟩
              have HV2 := hid (HV.out.below ((Below.refl _ _).drew))
              have HP2 := hid (HP.out.below ((Below.refl _ _).drew))
              have HT2 := hid (HT.out.drew)
              have HCK : Hid (wr.drew.cell? ⟨bp, op + k, none⟩ = some (.int .u8 x)) := hid hck
              clear HV HT HP hck
              refine wp_region_z (fun v => (v.cell? ⟨g, 0, none⟩ = some (.slice (some ⟨bN, 0, none⟩) N cN) ∧ v.cell? ⟨bN, i, none⟩ = some (.slice (some ⟨b0, 0, none⟩) 256 c0)) ∧ v.cell? ⟨bp, op + k, none⟩ = some (.int .u8 x)) 16 (by kernel_rfl) hS0 (fun hS => ?_)
              clear hS0
              generalize World.drew _ = w2 at hS HV2 HP2 HT2 HCK ⊢
              refine wpAnyZ_take (i := 0) (v := .pointer (some ⟨g, 0, none⟩)) rfl (by kernel_rfl) (by kernel_rfl) (by kernel_rfl) (by kernel_rfl) (fun _ _ _ h => h) hS (Or.inl ⟨by kernel_rfl, fun w hS => (by clear hS; go_simp)⟩) ?_
              simp only [Act.put, List.setIfInBounds_toArray, List.set_cons_zero, List.set_cons_succ]
              refine wpAnyZ_take (i := 1) (v := .pointer (some ⟨g, 0, none⟩)) rfl (by kernel_rfl) (by kernel_rfl) (by kernel_rfl) (by kernel_rfl) (fun _ _ _ h => h) hS (Or.inl ⟨by kernel_rfl, fun w hS => (by clear hS; go_simp)⟩) ?_
              simp only [Act.put, List.setIfInBounds_toArray, List.set_cons_zero, List.set_cons_succ]
              refine wpAnyZ_take (i := 2) (v := .pointer (some ⟨g, 0, none⟩)) rfl (by kernel_rfl) (by kernel_rfl) (by kernel_rfl) (by kernel_rfl) (fun _ _ _ h => h) hS (Or.inl ⟨by kernel_rfl, fun w hS => (by clear hS; go_simp)⟩) ?_
              simp only [Act.put, List.setIfInBounds_toArray, List.set_cons_zero, List.set_cons_succ]
              refine wpAnyZ_take (i := 3) (v := .slice (some ⟨bN, 0, none⟩) N cN) rfl (by kernel_rfl) (by kernel_rfl) (by kernel_rfl) (by kernel_rfl) (fun _ _ _ h => h) hS (Or.inl ⟨by kernel_rfl, fun w hS => (by have hc := hS.1.1; clear hS; go_simp)⟩) ?_
              simp only [Act.put, List.setIfInBounds_toArray, List.set_cons_zero, List.set_cons_succ]
              refine wpAnyZ_take (i := 4) (v := .int .i64 (i : Nat)) rfl (by kernel_rfl) (by kernel_rfl) (by kernel_rfl) (by kernel_rfl) (fun _ _ _ h => h) hS (Or.inl ⟨by kernel_rfl, fun w hS => (by clear hS; go_simp)⟩) ?_
              simp only [Act.put, List.setIfInBounds_toArray, List.set_cons_zero, List.set_cons_succ]
              refine wpAnyZ_take (i := 5) (v := .pointer (some ⟨bN, i, none⟩)) rfl (by kernel_rfl) (by kernel_rfl) (by kernel_rfl) (by kernel_rfl) (fun _ _ _ h => h) hS (Or.inl ⟨by kernel_rfl, fun w hS => (by clear hS; go_simp)⟩) ?_
              simp only [Act.put, List.setIfInBounds_toArray, List.set_cons_zero, List.set_cons_succ]
              refine wpAnyZ_take (i := 6) (v := .slice (some ⟨b0, 0, none⟩) 256 c0) rfl (by kernel_rfl) (by kernel_rfl) (by kernel_rfl) (by kernel_rfl) (fun _ _ _ h => h) hS (Or.inl ⟨by kernel_rfl, fun w hS => (by have hc := hS.1.2; clear hS; go_simp)⟩) ?_
              simp only [Act.put, List.setIfInBounds_toArray, List.set_cons_zero, List.set_cons_succ]
              refine wpAnyZ_take (i := 7) (v := .int .i64 (t : Nat)) rfl (by kernel_rfl) (by kernel_rfl) (by kernel_rfl) (by kernel_rfl) (fun _ _ _ h => h) hS (Or.inl ⟨by kernel_rfl, fun w hS => (by clear hS; go_simp)⟩) ?_
              simp only [Act.put, List.setIfInBounds_toArray, List.set_cons_zero, List.set_cons_succ]
              refine wpAnyZ_take (i := 8) (v := .int .i64 (k : Nat)) rfl (by kernel_rfl) (by kernel_rfl) (by kernel_rfl) (by kernel_rfl) (fun _ _ _ h => h) hS (Or.inl ⟨by kernel_rfl, fun w hS => (by clear hS; go_simp)⟩) ?_
              simp only [Act.put, List.setIfInBounds_toArray, List.set_cons_zero, List.set_cons_succ]
              refine wpAnyZ_take (i := 9) (v := .int .i64 (q : Nat)) rfl (by kernel_rfl) (by kernel_rfl) (by kernel_rfl) (by kernel_rfl) (fun _ _ _ h => h) hS (Or.inl ⟨by kernel_rfl, fun w hS => (by clear hS; go_simp)⟩) ?_
              simp only [Act.put, List.setIfInBounds_toArray, List.set_cons_zero, List.set_cons_succ]; try simp only [List.getElem_toArray, List.getElem_cons_succ, List.getElem_cons_zero]
              refine wpAnyZ_take (i := 10) (v := .slice (some ⟨bp, op, none⟩) n c) rfl (by kernel_rfl) (by kernel_rfl) (by kernel_rfl) (by kernel_rfl) (fun _ _ _ h => h) hS (Or.inl ⟨by kernel_rfl, fun w hS => (by clear hS; go_simp)⟩) ?_
              simp only [Act.put, List.setIfInBounds_toArray, List.set_cons_zero, List.set_cons_succ]; try simp only [List.getElem_toArray, List.getElem_cons_succ, List.getElem_cons_zero]
              refine wpAnyZ_take (i := 11) (v := .int .i64 (k : Nat)) rfl (by kernel_rfl) (by kernel_rfl) (by kernel_rfl) (by kernel_rfl) (fun _ _ _ h => h) hS (Or.inl ⟨by kernel_rfl, fun w hS => (by clear hS; go_simp)⟩) ?_
              simp only [Act.put, List.setIfInBounds_toArray, List.set_cons_zero, List.set_cons_succ]; try simp only [List.getElem_toArray, List.getElem_cons_succ, List.getElem_cons_zero]
              refine wpAnyZ_take (i := 12) (v := .pointer (some ⟨bp, op + k, none⟩)) rfl (by kernel_rfl) (by kernel_rfl) (by kernel_rfl) (by kernel_rfl) (fun _ _ _ h => h) hS (Or.inl ⟨by kernel_rfl, fun w hS => (by clear hS; go_simp)⟩) ?_
              simp only [Act.put, List.setIfInBounds_toArray, List.set_cons_zero, List.set_cons_succ]; try simp only [List.getElem_toArray, List.getElem_cons_succ, List.getElem_cons_zero]
              refine wpAnyZ_take (i := 13) (v := .int .u8 x) rfl (by kernel_rfl) (by kernel_rfl) (by kernel_rfl) (by kernel_rfl) (fun _ _ _ h => h) hS (Or.inl ⟨by kernel_rfl, fun w hS => (by have hc := hS.2; clear hS; go_simp)⟩) ?_
              simp only [Act.put, List.setIfInBounds_toArray, List.set_cons_zero, List.set_cons_succ]; try simp only [List.getElem_toArray, List.getElem_cons_succ, List.getElem_cons_zero]
              refine wpAnyZ_take (i := 14) (v := .pointer (some ⟨b0, q, none⟩)) rfl (by kernel_rfl) (by kernel_rfl) (by kernel_rfl) (by kernel_rfl) (fun _ _ _ h => h) hS (Or.inl ⟨by kernel_rfl, fun w hS => (by clear hS; go_simp)⟩) ?_
              simp only [Act.put, List.setIfInBounds_toArray, List.set_cons_zero, List.set_cons_succ]; try simp only [List.getElem_toArray, List.getElem_cons_succ, List.getElem_cons_zero]
              have hrow := HV2.out.rN.row i hiN
              rw [HV0K.out] at hrow
              have HC3 := hid (And.intro (hrow.cellAt q htk) (hrow.frozenAt q))
              have HV3 := hid (HV2.out.byteN (j := q) (x := x) hiN HV0K.out)
              have hbF : F b0 := (HV2.out.fN b0 (.inr ⟨i, hiN, by rw [HV0K.out]; rfl⟩)).1
              have HT3 := hid (HT2.out.setCell (b := b0) (.inl hbF) q (.int .u8 x))
              have hpb : ∀ a, some (⟨bp, op, none⟩ : Addr) = some a → ¬ a.block = b0 := fun a ha e => by cases ha; have e2 : bp = b0 := e; exact HPF.out (by rw [e2]; exact hbF)
              have HP3 := hid (HP2.out.tb (F := fun q => q = b0) (w' := w2.setCell ⟨b0, q, none⟩ (.int .u8 x)) (Tb.setCell (F := fun q => q = b0) (b := b0) (Tb.refl _ w2) (.inl rfl) q (.int .u8 x)) hpb)
              have HCK3 : Hid ((w2.setCell ⟨b0, q, none⟩ (.int .u8 x)).cell? ⟨bp, op + k, none⟩ = some (.int .u8 x)) := hid ((World.cell?_setCell_other w2 _ _ _ (fun e0 => hpb _ rfl (Addr.mk.inj e0).1.symm)).trans HCK.out)
              have HS3 : Hid ((fun v => (v.cell? ⟨g, 0, none⟩ = some (.slice (some ⟨bN, 0, none⟩) N cN) ∧ v.cell? ⟨bN, i, none⟩ = some (.slice (some ⟨b0, 0, none⟩) 256 c0)) ∧ v.cell? ⟨bp, op + k, none⟩ = some (.int .u8 x)) (w2.setCell ⟨b0, q, none⟩ (.int .u8 x))) := hid ⟨⟨(HV3.out).c0, ((HV3.out).rN.cellAt i hiN).trans (congrArg some HV0K.out)⟩, HCK3.out⟩
              clear hrow hbF hpb HV2 HT2 HP2 HCK
              refine wpAnyZ_one (i := 15) (by kernel_rfl) rfl (fun K hK => ?_)
              obtain ⟨hcc, hff⟩ := HC3.out
              clear hS
              go_simp
              refine hK.out _ _ (fun _ => HS3.out) ?_
              clear hK K hcc hff
              try simp only [Act.put, List.setIfInBounds_toArray, List.set_cons_zero, List.set_cons_succ]
              refine wpAnyZ_done (by kernel_rfl) ?_ _
              clear HC3 HS3
              generalize World.setCell w2 ⟨b0, q, none⟩ (.int .u8 x) = wr at HV3 HT3 HP3 HCK3 ⊢
              have hck := HCK3.out
              have HV := HV3
              have HT := HT3
              have HP := HP3
              clear HV3 HT3 HP3 HCK3
              have c1h := HV.out.c1
              clear c1h
              go_upto_region 7 with fail
              have hS0 : (fun v => (v.cell? ⟨g, 1, none⟩ = some (.slice (some ⟨bF, 0, none⟩) N cF) ∧ v.cell? ⟨bF, i, none⟩ = some (.slice (some ⟨b1, 0, none⟩) 256 c1)) ∧ v.cell? ⟨bp, op + k, none⟩ = some (.int .u8 x)) wr.drew := ⟨⟨(HV.out.below ((Below.refl _ _).drew)).c1, ((HV.out.below ((Below.refl _ _).drew)).rF.cellAt i hiN).trans (congrArg some HV1K.out)⟩, (by exact hck)⟩
              have HV2 := hid (HV.out.below ((Below.refl _ _).drew))
              have HP2 := hid (HP.out.below ((Below.refl _ _).drew))
              have HT2 := hid (HT.out.drew)
              have HCK : Hid (wr.drew.cell? ⟨bp, op + k, none⟩ = some (.int .u8 x)) := hid hck
              clear HV HT HP hck
              refine wp_region_z (fun v => (v.cell? ⟨g, 1, none⟩ = some (.slice (some ⟨bF, 0, none⟩) N cF) ∧ v.cell? ⟨bF, i, none⟩ = some (.slice (some ⟨b1, 0, none⟩) 256 c1)) ∧ v.cell? ⟨bp, op + k, none⟩ = some (.int .u8 x)) 16 (by kernel_rfl) hS0 (fun hS => ?_)
              clear hS0
              generalize World.drew _ = w2 at hS HV2 HP2 HT2 HCK ⊢
              refine wpAnyZ_take (i := 0) (v := .pointer (some ⟨g, 0, none⟩)) rfl (by kernel_rfl) (by kernel_rfl) (by kernel_rfl) (by kernel_rfl) (fun _ _ _ h => h) hS (Or.inl ⟨by kernel_rfl, fun w hS => (by clear hS; go_simp)⟩) ?_
              simp only [Act.put, List.setIfInBounds_toArray, List.set_cons_zero, List.set_cons_succ]
              refine wpAnyZ_take (i := 1) (v := .pointer (some ⟨g, 0, none⟩)) rfl (by kernel_rfl) (by kernel_rfl) (by kernel_rfl) (by kernel_rfl) (fun _ _ _ h => h) hS (Or.inl ⟨by kernel_rfl, fun w hS => (by clear hS; go_simp)⟩) ?_
              simp only [Act.put, List.setIfInBounds_toArray, List.set_cons_zero, List.set_cons_succ]
              refine wpAnyZ_take (i := 2) (v := .pointer (some ⟨g, 1, none⟩)) rfl (by kernel_rfl) (by kernel_rfl) (by kernel_rfl) (by kernel_rfl) (fun _ _ _ h => h) hS (Or.inl ⟨by kernel_rfl, fun w hS => (by clear hS; go_simp)⟩) ?_
              simp only [Act.put, List.setIfInBounds_toArray, List.set_cons_zero, List.set_cons_succ]
              refine wpAnyZ_take (i := 3) (v := .slice (some ⟨bF, 0, none⟩) N cF) rfl (by kernel_rfl) (by kernel_rfl) (by kernel_rfl) (by kernel_rfl) (fun _ _ _ h => h) hS (Or.inl ⟨by kernel_rfl, fun w hS => (by have hc := hS.1.1; clear hS; go_simp)⟩) ?_
              simp only [Act.put, List.setIfInBounds_toArray, List.set_cons_zero, List.set_cons_succ]
              refine wpAnyZ_take (i := 4) (v := .int .i64 (i : Nat)) rfl (by kernel_rfl) (by kernel_rfl) (by kernel_rfl) (by kernel_rfl) (fun _ _ _ h => h) hS (Or.inl ⟨by kernel_rfl, fun w hS => (by clear hS; go_simp)⟩) ?_
              simp only [Act.put, List.setIfInBounds_toArray, List.set_cons_zero, List.set_cons_succ]
              refine wpAnyZ_take (i := 5) (v := .pointer (some ⟨bF, i, none⟩)) rfl (by kernel_rfl) (by kernel_rfl) (by kernel_rfl) (by kernel_rfl) (fun _ _ _ h => h) hS (Or.inl ⟨by kernel_rfl, fun w hS => (by clear hS; go_simp)⟩) ?_
              simp only [Act.put, List.setIfInBounds_toArray, List.set_cons_zero, List.set_cons_succ]
              refine wpAnyZ_take (i := 6) (v := .slice (some ⟨b1, 0, none⟩) 256 c1) rfl (by kernel_rfl) (by kernel_rfl) (by kernel_rfl) (by kernel_rfl) (fun _ _ _ h => h) hS (Or.inl ⟨by kernel_rfl, fun w hS => (by have hc := hS.1.2; clear hS; go_simp)⟩) ?_
              simp only [Act.put, List.setIfInBounds_toArray, List.set_cons_zero, List.set_cons_succ]
              refine wpAnyZ_take (i := 7) (v := .int .i64 (t : Nat)) rfl (by kernel_rfl) (by kernel_rfl) (by kernel_rfl) (by kernel_rfl) (fun _ _ _ h => h) hS (Or.inl ⟨by kernel_rfl, fun w hS => (by clear hS; go_simp)⟩) ?_
              simp only [Act.put, List.setIfInBounds_toArray, List.set_cons_zero, List.set_cons_succ]
              refine wpAnyZ_take (i := 8) (v := .int .i64 (k : Nat)) rfl (by kernel_rfl) (by kernel_rfl) (by kernel_rfl) (by kernel_rfl) (fun _ _ _ h => h) hS (Or.inl ⟨by kernel_rfl, fun w hS => (by clear hS; go_simp)⟩) ?_
              simp only [Act.put, List.setIfInBounds_toArray, List.set_cons_zero, List.set_cons_succ]
              refine wpAnyZ_take (i := 9) (v := .int .i64 (q : Nat)) rfl (by kernel_rfl) (by kernel_rfl) (by kernel_rfl) (by kernel_rfl) (fun _ _ _ h => h) hS (Or.inl ⟨by kernel_rfl, fun w hS => (by clear hS; go_simp)⟩) ?_
              simp only [Act.put, List.setIfInBounds_toArray, List.set_cons_zero, List.set_cons_succ]; try simp only [List.getElem_toArray, List.getElem_cons_succ, List.getElem_cons_zero]
              refine wpAnyZ_take (i := 10) (v := .slice (some ⟨bp, op, none⟩) n c) rfl (by kernel_rfl) (by kernel_rfl) (by kernel_rfl) (by kernel_rfl) (fun _ _ _ h => h) hS (Or.inl ⟨by kernel_rfl, fun w hS => (by clear hS; go_simp)⟩) ?_
              simp only [Act.put, List.setIfInBounds_toArray, List.set_cons_zero, List.set_cons_succ]; try simp only [List.getElem_toArray, List.getElem_cons_succ, List.getElem_cons_zero]
              refine wpAnyZ_take (i := 11) (v := .int .i64 (k : Nat)) rfl (by kernel_rfl) (by kernel_rfl) (by kernel_rfl) (by kernel_rfl) (fun _ _ _ h => h) hS (Or.inl ⟨by kernel_rfl, fun w hS => (by clear hS; go_simp)⟩) ?_
              simp only [Act.put, List.setIfInBounds_toArray, List.set_cons_zero, List.set_cons_succ]; try simp only [List.getElem_toArray, List.getElem_cons_succ, List.getElem_cons_zero]
              refine wpAnyZ_take (i := 12) (v := .pointer (some ⟨bp, op + k, none⟩)) rfl (by kernel_rfl) (by kernel_rfl) (by kernel_rfl) (by kernel_rfl) (fun _ _ _ h => h) hS (Or.inl ⟨by kernel_rfl, fun w hS => (by clear hS; go_simp)⟩) ?_
              simp only [Act.put, List.setIfInBounds_toArray, List.set_cons_zero, List.set_cons_succ]; try simp only [List.getElem_toArray, List.getElem_cons_succ, List.getElem_cons_zero]
              refine wpAnyZ_take (i := 13) (v := .int .u8 x) rfl (by kernel_rfl) (by kernel_rfl) (by kernel_rfl) (by kernel_rfl) (fun _ _ _ h => h) hS (Or.inl ⟨by kernel_rfl, fun w hS => (by have hc := hS.2; clear hS; go_simp)⟩) ?_
              simp only [Act.put, List.setIfInBounds_toArray, List.set_cons_zero, List.set_cons_succ]; try simp only [List.getElem_toArray, List.getElem_cons_succ, List.getElem_cons_zero]
              refine wpAnyZ_take (i := 14) (v := .pointer (some ⟨b1, q, none⟩)) rfl (by kernel_rfl) (by kernel_rfl) (by kernel_rfl) (by kernel_rfl) (fun _ _ _ h => h) hS (Or.inl ⟨by kernel_rfl, fun w hS => (by clear hS; go_simp)⟩) ?_
              simp only [Act.put, List.setIfInBounds_toArray, List.set_cons_zero, List.set_cons_succ]; try simp only [List.getElem_toArray, List.getElem_cons_succ, List.getElem_cons_zero]
              have hrow := HV2.out.rF.row i hiN
              rw [HV1K.out] at hrow
              have HC3 := hid (And.intro (hrow.cellAt q htk) (hrow.frozenAt q))
              have HV3 := hid (HV2.out.byteF (j := q) (x := x) hiN HV1K.out)
              have hbF : F b1 := (HV2.out.fF b1 (.inr ⟨i, hiN, by rw [HV1K.out]; rfl⟩)).1
              have HT3 := hid (HT2.out.setCell (b := b1) (.inl hbF) q (.int .u8 x))
              have hpb : ∀ a, some (⟨bp, op, none⟩ : Addr) = some a → ¬ a.block = b1 := fun a ha e => by cases ha; have e2 : bp = b1 := e; exact HPF.out (by rw [e2]; exact hbF)
              have HP3 := hid (HP2.out.tb (F := fun q => q = b1) (w' := w2.setCell ⟨b1, q, none⟩ (.int .u8 x)) (Tb.setCell (F := fun q => q = b1) (b := b1) (Tb.refl _ w2) (.inl rfl) q (.int .u8 x)) hpb)
              have HCK3 : Hid ((w2.setCell ⟨b1, q, none⟩ (.int .u8 x)).cell? ⟨bp, op + k, none⟩ = some (.int .u8 x)) := hid ((World.cell?_setCell_other w2 _ _ _ (fun e0 => hpb _ rfl (Addr.mk.inj e0).1.symm)).trans HCK.out)
              have HS3 : Hid ((fun v => (v.cell? ⟨g, 1, none⟩ = some (.slice (some ⟨bF, 0, none⟩) N cF) ∧ v.cell? ⟨bF, i, none⟩ = some (.slice (some ⟨b1, 0, none⟩) 256 c1)) ∧ v.cell? ⟨bp, op + k, none⟩ = some (.int .u8 x)) (w2.setCell ⟨b1, q, none⟩ (.int .u8 x))) := hid ⟨⟨(HV3.out).c1, ((HV3.out).rF.cellAt i hiN).trans (congrArg some HV1K.out)⟩, HCK3.out⟩
              clear hrow hbF hpb HV2 HT2 HP2 HCK
              refine wpAnyZ_one (i := 15) (by kernel_rfl) rfl (fun K hK => ?_)
              obtain ⟨hcc, hff⟩ := HC3.out
              clear hS
              go_simp
              refine hK.out _ _ (fun _ => HS3.out) ?_
              clear hK K hcc hff
              try simp only [Act.put, List.setIfInBounds_toArray, List.set_cons_zero, List.set_cons_succ]
              refine wpAnyZ_done (by kernel_rfl) ?_ _
              clear HC3 HS3
              generalize World.setCell w2 ⟨b1, q, none⟩ (.int .u8 x) = wr at HV3 HT3 HP3 HCK3 ⊢
              have hck := HCK3.out
              have HV := HV3
              have HT := HT3
              have HP := HP3
              clear HV3 HT3 HP3 HCK3
              have HV4 := hid ((HV.out.sameN (now' := putB S.now i (Dst.lay (S.now i) t (bs.take (k + 1)))) (fun j hj => by rw [putB_set, lay_step HLN.out (by rw [HBL.out]; exact hkn) (by omega), ← hx.out, ← hq.out])).sameF (firm' := putB S.firm i (Dst.lay (S.firm i) t (bs.take (k + 1)))) (fun j hj => by rw [putB_set, lay_step HLF.out (by rw [HBL.out]; exact hkn) (by omega), ← hx.out, ← hq.out]))
              clear HV hck
              go_wp2_with fail
              go_roundw
              case rel => exact ⟨k + 1, by omega, by go_num, HV4.out, HT.out, HP.out⟩
              case measure => simp [intOf]; omega
            · obtain rfl : k = n := by omega
              have kI : ¬ (k : Int) < (k : Int) := by omega
              have hf := HV.out
              rw [show bs.take k = bs from List.take_of_length_le (by rw [HBL.out]; exact Nat.le_refl _)] at hf
              have hf2 := hf.rdk
              rw [hN.out] at hf2
              have HF2 := hid hf2
              clear hf hf2 HV
              go_wp2_with fail
              go_ret
              exact ⟨rfl, F, ⟨HOK.out, HF2.out⟩, HT.out, fun q hq => .inl hq⟩
end Go.Proofs.Ytlbhoijjbpjmoaa
