/-
  The document's device: Crash.
-/
import Derived.Test.YtlbhoijjbpjmoaaRdn
namespace Go.Proofs.Ytlbhoijjbpjmoaa
open Go.RowKit
set_option linter.unusedVariables false
set_option linter.unusedSimpArgs false

/-- The first i bytes are merged. -/
def prt (m : Nat) (b f : List Int) (i : Nat) : List Int := (List.range 256).map fun j => if j < i ∧ m / 2 ^ (j / 64) % 2 = 1 then b.getD j 0 else f.getD j 0
theorem prt_length (m : Nat) (b f : List Int) (i : Nat) : (prt m b f i).length = 256 := by simp [prt]
theorem prt_at (m : Nat) (b f : List Int) (i j : Nat) (h : j < 256) : (prt m b f i).getD j 0 = if j < i ∧ m / 2 ^ (j / 64) % 2 = 1 then b.getD j 0 else f.getD j 0 := by
  rw [prt, List.getD_eq_getElem?_getD, List.getElem?_map, List.getElem?_range h]
  rfl
theorem prt_zero (m : Nat) (b : List Int) {f : List Int} (hf : f.length = 256) : prt m b f 0 = f :=
  list_same (prt_length _ _ _ _) hf fun j hj => by rw [prt_at _ _ _ _ _ hj, if_neg (fun h => absurd h.1 (Nat.not_lt_zero _))]
theorem prt_all (m : Nat) (b f : List Int) : prt m b f 256 = mrg m b f :=
  list_same (prt_length _ _ _ _) (mrg_length _ _ _) fun j hj => by
    rw [prt_at _ _ _ _ _ hj, mrg_at _ _ _ _ hj]
    by_cases h : m / 2 ^ (j / 64) % 2 = 1
    · rw [if_pos ⟨hj, h⟩, if_pos h]
    · rw [if_neg (fun e => h e.2), if_neg h]
theorem prt_yes {m i : Nat} {b f : List Int} (hf : f.length = 256) (hi : i < 256) (h : m / 2 ^ (i / 64) % 2 = 1) : prt m b f (i + 1) = (prt m b f i).set i (b.getD i 0) := by
  refine list_same (prt_length _ _ _ _) (by rw [List.length_set]; exact prt_length _ _ _ _) fun j hj => ?_
  rw [set_at _ _ _ _ (by rw [prt_length]; exact hi), prt_at _ _ _ _ _ hj, prt_at _ _ _ _ _ hj]
  by_cases e : j = i
  · subst e
    rw [if_pos ⟨Nat.lt_succ_self _, h⟩, if_pos rfl]
  · rw [if_neg e]
    by_cases h2 : j < i ∧ m / 2 ^ (j / 64) % 2 = 1
    · rw [if_pos h2, if_pos ⟨by omega, h2.2⟩]
    · rw [if_neg h2, if_neg (fun h3 => h2 ⟨by omega, h3.2⟩)]
theorem prt_no {m i : Nat} {b f : List Int} (hi : i < 256) (h : ¬ m / 2 ^ (i / 64) % 2 = 1) : prt m b f (i + 1) = prt m b f i := by
  refine list_same (prt_length _ _ _ _) (prt_length _ _ _ _) fun j hj => ?_
  rw [prt_at _ _ _ _ _ hj, prt_at _ _ _ _ _ hj]
  by_cases e : j = i
  · subst e
    rw [if_neg (fun h2 => h h2.2), if_neg (fun h2 => h h2.2)]
  · by_cases h2 : j < i ∧ m / 2 ^ (j / 64) % 2 = 1
    · rw [if_pos h2, if_pos ⟨by omega, h2.2⟩]
    · rw [if_neg h2, if_neg (fun h3 => h2 ⟨by omega, h3.2⟩)]
theorem wtz_some {e : TypeId} {B n m : Nat} {w : World} {v : Value} {A : Nat → Int} {V : Nat → Value} {D : Nat → List Int} (h : Wtz e B w v n m A V D) (hn : 0 < n) : ∃ b c, v = .slice (some ⟨b, 0, none⟩) n c ∧ B ≤ b ∧ n ≤ c := by
  rcases h.shape with ⟨_, h0⟩ | ⟨b, c, e, h1, h2⟩
  · omega
  · exact ⟨b, c, e, h1, h2⟩
/-- The cells that a byte's way goes over. -/
theorem rcd_sat {B g N M k a i steps fail bF cF bN cN bW cW bw cw b1 c1 : Nat} {w : World} {F : Nat → Prop} {VN VF VW : Nat → Value} {now firm : Nat → List Int} {ws : List (Nat × List Int)} {cut : Int} {down : Bool} {b : List Int} {x : Int}
    (h : RDv 86 B w g F N (.slice (some ⟨bN, 0, none⟩) N cN) VN now (.slice (some ⟨bF, 0, none⟩) N cF) VF firm (.slice (some ⟨bW, 0, none⟩) M cW) VW ws steps fail cut down) (hw : M = ws.length ∧ ws.getD k (0, []) = (a, b)) (hk : k < M) (ha : a < N) (hV : VF a = .slice (some ⟨b1, 0, none⟩) 256 c1) (hW : VW k = .slice (some ⟨bw, 0, none⟩) 256 cw) (hx : x = b.getD i 0 ∧ b.length = 256) (hi : i < 256) :
    (((w.cell? ⟨g, 1, none⟩ = some (.slice (some ⟨bF, 0, none⟩) N cF) ∧ w.cell? ⟨g, 2, none⟩ = some (.slice (some ⟨bW, 0, none⟩) M cW)) ∧ (w.cell? ⟨bW, k * 2, none⟩ = some (.int .i64 (a : Nat)) ∧ w.cell? ⟨bW, k * 2 + 1, none⟩ = some (.slice (some ⟨bw, 0, none⟩) 256 cw))) ∧ w.cell? ⟨bF, a, none⟩ = some (.slice (some ⟨b1, 0, none⟩) 256 c1)) ∧ w.cell? ⟨bw, i, none⟩ = some (.int .u8 x) := by
  have hw1 := hw.1
  subst hw1
  obtain ⟨e1, e2⟩ := h.rW.cells k hk
  rw [hw.2] at e1
  rw [hW] at e2
  have hr := h.rW.row k hk
  rw [hW, hw.2] at hr
  exact ⟨⟨⟨⟨h.c1, h.c2⟩, e1, e2⟩, (h.rF.cellAt a ha).trans (congrArg some hV)⟩, by rw [hx.1]; exact hr.cellAt i hi⟩
theorem tb_bit (m s : Nat) (hm : m < 256) (h : m / 2 ^ s % 2 = 1) : Int.tmod ((m : Int) / 2 ^ s) 2 = 1 := by
  have e : ((m : Int) / 2 ^ s) = ((m / 2 ^ s : Nat) : Int) := by simp
  rw [e]
  show (((m / 2 ^ s) % 2 : Nat) : Int) = 1
  omega
theorem tb_nobit (m s : Nat) (hm : m < 256) (h : ¬ m / 2 ^ s % 2 = 1) : ¬ Int.tmod ((m : Int) / 2 ^ s) 2 = 1 := by
  have e : ((m : Int) / 2 ^ s) = ((m / 2 ^ s : Nat) : Int) := by simp
  rw [e]
  show ¬ (((m / 2 ^ s) % 2 : Nat) : Int) = 1
  omega

set_option maxHeartbeats 32000000 in
set_option maxRecDepth 100000 in
theorem rCrash_of (B g : Nat) (F : Nat → Prop) (S : Dst) (p : Option Addr) (c n : Nat) (ms : List Int) (w : World) (h : RDs B w g F S) (hp : Bin w p ms) (ho : Oct ms) (hl : ms.length = n) (hm0 : n ≤ 140737488351232) (hF : ∀ a, p = some a → 0 < n → ¬ F a.block) (hwl : S.ws.length < 4294967296) :
    Calls Try.prog 41 #[.pointer (some ⟨g, 0, none⟩), .slice p n c] w fun e w' => e = .returned (.tuple #[]) ∧ Rstep B w g F (S.crash (ms.map Int.toNat)) w' := by
  have hok := Dst.ok_crash h.ok (ms.map Int.toNat)
  have HOK := hid hok
  have HSO := hid h.ok
  have HH := hid h
  obtain ⟨vN, VN, vF, VF, vW, VW, hv⟩ := h.at'
  have h8 := h.ok.n8
  have h4 := h.ok.n4
  obtain ⟨bN, cN, rfl, _⟩ := hv.rN.isSlice (by omega)
  obtain ⟨bF, cF, rfl, _⟩ := hv.rF.isSlice (by omega)
  obtain ⟨N, hN⟩ : ∃ n, Hid (n = S.n) := ⟨_, rfl⟩
  obtain ⟨M, hM⟩ : ∃ n, Hid (n = S.ws.length) := ⟨_, rfl⟩
  have hqw : ∃ q c, vW = .slice q M c := by
    rw [hM.out]
    rcases hv.rW.shape with ⟨e, h0⟩ | ⟨b, c, e, _, _⟩
    · exact ⟨none, 0, by rw [e, h0]⟩
    · exact ⟨_, _, e⟩
  obtain ⟨qW, cW, rfl⟩ := hqw
  rw [← hN.out] at hv h8 h4
  have HV1 := hid hv
  have HP0 := hid hp
  have HBL := hid hl
  have HF := hid hF
  have HTB : Hid (∀ (W : World), Tb F w W → B ≤ W.heap.size) := hid (fun W t => Nat.le_trans (HH.out.le) t.size)
  have HML : Hid ((ms.map Int.toNat).length = n) := hid (by rw [List.length_map]; exact hl)
  obtain ⟨mn, hmn⟩ : ∃ l, Hid (l = ms.map Int.toNat) := ⟨_, rfl⟩
  rw [← hmn.out] at HOK HML ⊢
  have HMM : Hid (M ≤ 9223372036854775807) := hid (by rw [hM.out]; omega)
  have hMM := HMM.out
  clear hok h hv hp hl hF
  go_enter Try.func41, Try.ntmps41
  go_wp2_with fail
  go_loopw [4] (fun j wr => ∃ k : Nat, k ≤ M ∧ k ≤ n ∧ j = .int .i64 (k : Int) ∧ RDv 86 B wr g F N (.slice (some ⟨bN, 0, none⟩) N cN) VN (S.now) (.slice (some ⟨bF, 0, none⟩) N cF) VF (crs S.firm (S.ws.take k) mn) (.slice qW M cW) VW S.ws S.steps S.fail S.cut S.down ∧ Tb F w wr ∧ Bin wr p ms) (fun j _ => M - (intOf j).toNat)
  case atStart => exact ⟨0, Nat.zero_le _, Nat.zero_le _, rfl, HV1.out, Tb.refl _ _, HP0.out⟩
  case round =>
    clear HV1
    obtain ⟨k, hkM', hkn', rfl, hv, ht, hpk⟩ := hrel
    have HV := hid hv
    have HT := hid ht
    have HP := hid hpk
    have c2 := hv.c2
    clear hv ht hpk
    by_cases hkM : k < M
    · have kI : (k : Int) < (M : Int) := by omega
      by_cases hkn : k < n
      · have kI2 : (k : Int) < (n : Int) := by omega
        have hn0 : 0 < n := by omega
        obtain ⟨X, hX⟩ : ∃ X, Hid (X = crs S.firm (S.ws.take k) mn) := ⟨_, rfl⟩
        have hv0 := HV.out
        rw [← hX.out] at hv0
        have HV0 := hid hv0
        clear hv0 HV
        obtain ⟨bW, cW', hqe, _, _⟩ := wtz_some HV0.out.rW (by rw [← hM.out]; omega)
        have hqe2 : qW = some ⟨bW, 0, none⟩ := by injection hqe
        subst hqe2
        clear hqe
        obtain ⟨a, b, hab⟩ : ∃ a b, Hid (S.ws.getD k (0, []) = (a, b)) := ⟨_, _, rfl⟩
        have HKW : Hid (S.ws[k]? = some (a, b)) := hid (by rw [← hab.out, List.getD_eq_getElem?_getD, List.getElem?_eq_getElem (show k < S.ws.length by rw [← hM.out]; exact hkM)]; rfl)
        obtain ⟨haN', hbl, hbo⟩ := HSO.out.ws (a, b) (List.mem_of_getElem? HKW.out)
        have haN : a < N := by rw [hN.out]; exact haN'
        have HLB := hid hbl
        simp only at hbl hbo
        obtain ⟨bw, cw, hVw, _, _⟩ := (HV0.out.rW.row k (by rw [← hM.out]; exact hkM)).isSlice (by decide)
        have HBW := hid hVw
        have HW2K : Hid (M = S.ws.length ∧ S.ws.getD k (0, []) = (a, b)) := hid ⟨hM.out, hab.out⟩
        obtain ⟨b1, c1, hV1, _, _⟩ := (HV0.out.rF.row a haN).isSlice (by decide)
        have HV1K := hid hV1
        clear hVw hV1 haN'
        have HXL : Hid ((X a).length = 256) := hid (by rw [hX.out]; exact (Dst.crs_ok _ _ _ _ HSO.out.firm (fun q hq => HSO.out.ws q (List.mem_of_mem_take hq)) a (by rw [← hN.out]; exact haN)).1)
        obtain ⟨m, hm⟩ : ∃ m, Hid (m = mn.getD k 0) := ⟨_, rfl⟩
        have hm8 : m < 256 ∧ ms.getD k 0 = (m : Int) := by
          have e1 := ho.at k
          rw [hm.out, hmn.out, List.getD_eq_getElem?_getD, List.getElem?_map]
          rw [List.getD_eq_getElem?_getD] at e1 ⊢
          have hkl : k < ms.length := by rw [HBL.out]; exact hkn
          rw [List.getElem?_eq_getElem hkl] at e1 ⊢
          simp only [Option.map_some, Option.getD_some] at e1 ⊢
          omega
        have HM8 := hid hm8
        clear hm8
        go_wp2_with fail
        go_loopw [5] (fun j wr => ∃ i : Nat, i ≤ 256 ∧ j = .int .i64 (i : Int) ∧ RDv 86 B wr g F N (.slice (some ⟨bN, 0, none⟩) N cN) VN (S.now) (.slice (some ⟨bF, 0, none⟩) N cF) VF (putB X a (prt m b (X a) i)) (.slice (some ⟨bW, 0, none⟩) M cW) VW S.ws S.steps S.fail S.cut S.down ∧ Tb F w wr ∧ Bin wr p ms) (fun j _ => 256 - (intOf j).toNat)
        case atStart => exact ⟨0, Nat.zero_le _, rfl, HV0.out.sameF (fun j _ => by rw [prt_zero _ _ HXL.out]; exact putB_self _ _ _), HT.out, HP.out⟩
        case round =>
          clear HV0 HT HP c2
          obtain ⟨i, hi, rfl, hv, ht, hpk⟩ := hrel
          have HV := hid hv
          have HT := hid ht
          have HP := hid hpk
          clear hv ht hpk
          by_cases hi8 : i < 256
          · have iI : (i : Int) < 256 := by omega
            obtain ⟨bp, op, e', _, hcp⟩ := HP.out.at (by rw [HBL.out]; omega)
            subst e'
            have hck := hcp k (by rw [HBL.out]; exact hkn)
            rw [HM8.out.2] at hck
            clear hcp
            obtain ⟨s, hs⟩ : ∃ s, Hid (s = i / 64) := ⟨_, rfl⟩
            have hs4 : s < 4 := by rw [hs.out]; omega
            have t1 : Int.tdiv (i : Int) 64 = (s : Int) := by rw [hs.out]; rfl
            have t2 : (i : Int) / 64 = (s : Int) := by rw [hs.out]; rfl
            have t3 : (0 : Int) ≤ (s : Int) := by omega
            by_cases hbit : m / 2 ^ s % 2 = 1
            · have t4 := tb_bit m s HM8.out.1 hbit
              obtain ⟨x, hx⟩ : ∃ x, Hid (x = b.getD i 0) := ⟨_, rfl⟩
              have HX := hid (And.intro hx.out HLB.out)
              go_upto_region 7 with fail
              have hS0 : (fun v => (((v.cell? ⟨g, 1, none⟩ = some (.slice (some ⟨bF, 0, none⟩) N cF) ∧ v.cell? ⟨g, 2, none⟩ = some (.slice (some ⟨bW, 0, none⟩) M cW)) ∧ (v.cell? ⟨bW, k * 2, none⟩ = some (.int .i64 (a : Nat)) ∧ v.cell? ⟨bW, k * 2 + 1, none⟩ = some (.slice (some ⟨bw, 0, none⟩) 256 cw))) ∧ v.cell? ⟨bF, a, none⟩ = some (.slice (some ⟨b1, 0, none⟩) 256 c1)) ∧ v.cell? ⟨bw, i, none⟩ = some (.int .u8 x)) wr.drew := (rcd_sat (HV.out.below ((Below.refl _ _).drew)) HW2K.out hkM haN HV1K.out HBW.out HX.out hi8)
              have HV2 := hid (HV.out.below ((Below.refl _ _).drew))
              have HP2 := hid (HP.out.below ((Below.refl _ _).drew))
              have HT2 := hid (HT.out.drew)
              clear HV HT HP
              refine wp_region_z (fun v => (((v.cell? ⟨g, 1, none⟩ = some (.slice (some ⟨bF, 0, none⟩) N cF) ∧ v.cell? ⟨g, 2, none⟩ = some (.slice (some ⟨bW, 0, none⟩) M cW)) ∧ (v.cell? ⟨bW, k * 2, none⟩ = some (.int .i64 (a : Nat)) ∧ v.cell? ⟨bW, k * 2 + 1, none⟩ = some (.slice (some ⟨bw, 0, none⟩) 256 cw))) ∧ v.cell? ⟨bF, a, none⟩ = some (.slice (some ⟨b1, 0, none⟩) 256 c1)) ∧ v.cell? ⟨bw, i, none⟩ = some (.int .u8 x)) 28 (by kernel_rfl) hS0 (fun hS => ?_)
              clear hS0
              generalize World.drew _ = w2 at hS HV2 HP2 HT2 ⊢
              refine wpAnyZ_take (i := 0) (v := .pointer (some ⟨g, 0, none⟩)) rfl (by kernel_rfl) (by kernel_rfl) (by kernel_rfl) (by kernel_rfl) (fun _ _ _ h => h) hS (Or.inl ⟨by kernel_rfl, fun w hS => (by clear hS; go_simp)⟩) ?_
              simp only [Act.put, List.setIfInBounds_toArray, List.set_cons_zero, List.set_cons_succ]
              refine wpAnyZ_take (i := 1) (v := .pointer (some ⟨g, 0, none⟩)) rfl (by kernel_rfl) (by kernel_rfl) (by kernel_rfl) (by kernel_rfl) (fun _ _ _ h => h) hS (Or.inl ⟨by kernel_rfl, fun w hS => (by clear hS; go_simp)⟩) ?_
              simp only [Act.put, List.setIfInBounds_toArray, List.set_cons_zero, List.set_cons_succ]
              refine wpAnyZ_take (i := 2) (v := .pointer (some ⟨g, 1, none⟩)) rfl (by kernel_rfl) (by kernel_rfl) (by kernel_rfl) (by kernel_rfl) (fun _ _ _ h => h) hS (Or.inl ⟨by kernel_rfl, fun w hS => (by clear hS; go_simp)⟩) ?_
              simp only [Act.put, List.setIfInBounds_toArray, List.set_cons_zero, List.set_cons_succ]
              refine wpAnyZ_take (i := 3) (v := .slice (some ⟨bF, 0, none⟩) N cF) rfl (by kernel_rfl) (by kernel_rfl) (by kernel_rfl) (by kernel_rfl) (fun _ _ _ h => h) hS (Or.inl ⟨by kernel_rfl, fun w hS => (by have hc := hS.1.1.1.1; clear hS; go_simp)⟩) ?_
              simp only [Act.put, List.setIfInBounds_toArray, List.set_cons_zero, List.set_cons_succ]
              refine wpAnyZ_take (i := 4) (v := .pointer (some ⟨g, 0, none⟩)) rfl (by kernel_rfl) (by kernel_rfl) (by kernel_rfl) (by kernel_rfl) (fun _ _ _ h => h) hS (Or.inl ⟨by kernel_rfl, fun w hS => (by clear hS; go_simp)⟩) ?_
              simp only [Act.put, List.setIfInBounds_toArray, List.set_cons_zero, List.set_cons_succ]
              refine wpAnyZ_take (i := 5) (v := .pointer (some ⟨g, 0, none⟩)) rfl (by kernel_rfl) (by kernel_rfl) (by kernel_rfl) (by kernel_rfl) (fun _ _ _ h => h) hS (Or.inl ⟨by kernel_rfl, fun w hS => (by clear hS; go_simp)⟩) ?_
              simp only [Act.put, List.setIfInBounds_toArray, List.set_cons_zero, List.set_cons_succ]
              refine wpAnyZ_take (i := 6) (v := .pointer (some ⟨g, 2, none⟩)) rfl (by kernel_rfl) (by kernel_rfl) (by kernel_rfl) (by kernel_rfl) (fun _ _ _ h => h) hS (Or.inl ⟨by kernel_rfl, fun w hS => (by clear hS; go_simp)⟩) ?_
              simp only [Act.put, List.setIfInBounds_toArray, List.set_cons_zero, List.set_cons_succ]
              refine wpAnyZ_take (i := 7) (v := .slice (some ⟨bW, 0, none⟩) M cW) rfl (by kernel_rfl) (by kernel_rfl) (by kernel_rfl) (by kernel_rfl) (fun _ _ _ h => h) hS (Or.inl ⟨by kernel_rfl, fun w hS => (by have hc := hS.1.1.1.2; clear hS; go_simp)⟩) ?_
              simp only [Act.put, List.setIfInBounds_toArray, List.set_cons_zero, List.set_cons_succ]
              refine wpAnyZ_take (i := 8) (v := .int .i64 (k : Nat)) rfl (by kernel_rfl) (by kernel_rfl) (by kernel_rfl) (by kernel_rfl) (fun _ _ _ h => h) hS (Or.inl ⟨by kernel_rfl, fun w hS => (by clear hS; go_simp)⟩) ?_
              simp only [Act.put, List.setIfInBounds_toArray, List.set_cons_zero, List.set_cons_succ]
              refine wpAnyZ_take (i := 9) (v := .pointer (some ⟨bW, k * 2, none⟩)) rfl (by kernel_rfl) (by kernel_rfl) (by kernel_rfl) (by kernel_rfl) (fun _ _ _ h => h) hS (Or.inl ⟨by kernel_rfl, fun w hS => (by clear hS; go_simp)⟩) ?_
              simp only [Act.put, List.setIfInBounds_toArray, List.set_cons_zero, List.set_cons_succ]; try simp only [List.getElem_toArray, List.getElem_cons_succ, List.getElem_cons_zero]
              refine wpAnyZ_take (i := 10) (v := .pointer (some ⟨bW, k * 2, none⟩)) rfl (by kernel_rfl) (by kernel_rfl) (by kernel_rfl) (by kernel_rfl) (fun _ _ _ h => h) hS (Or.inl ⟨by kernel_rfl, fun w hS => (by clear hS; go_simp)⟩) ?_
              simp only [Act.put, List.setIfInBounds_toArray, List.set_cons_zero, List.set_cons_succ]; try simp only [List.getElem_toArray, List.getElem_cons_succ, List.getElem_cons_zero]
              refine wpAnyZ_take (i := 11) (v := .int .i64 (a : Nat)) rfl (by kernel_rfl) (by kernel_rfl) (by kernel_rfl) (by kernel_rfl) (fun _ _ _ h => h) hS (Or.inl ⟨by kernel_rfl, fun w hS => (by have hc := hS.1.1.2.1; clear hS; go_simp)⟩) ?_
              simp only [Act.put, List.setIfInBounds_toArray, List.set_cons_zero, List.set_cons_succ]; try simp only [List.getElem_toArray, List.getElem_cons_succ, List.getElem_cons_zero]
              refine wpAnyZ_take (i := 12) (v := .pointer (some ⟨bF, a, none⟩)) rfl (by kernel_rfl) (by kernel_rfl) (by kernel_rfl) (by kernel_rfl) (fun _ _ _ h => h) hS (Or.inl ⟨by kernel_rfl, fun w hS => (by clear hS; go_simp)⟩) ?_
              simp only [Act.put, List.setIfInBounds_toArray, List.set_cons_zero, List.set_cons_succ]; try simp only [List.getElem_toArray, List.getElem_cons_succ, List.getElem_cons_zero]
              refine wpAnyZ_take (i := 13) (v := .slice (some ⟨b1, 0, none⟩) 256 c1) rfl (by kernel_rfl) (by kernel_rfl) (by kernel_rfl) (by kernel_rfl) (fun _ _ _ h => h) hS (Or.inl ⟨by kernel_rfl, fun w hS => (by have hc := hS.1.2; clear hS; go_simp)⟩) ?_
              simp only [Act.put, List.setIfInBounds_toArray, List.set_cons_zero, List.set_cons_succ]; try simp only [List.getElem_toArray, List.getElem_cons_succ, List.getElem_cons_zero]
              refine wpAnyZ_take (i := 14) (v := .int .i64 (i : Nat)) rfl (by kernel_rfl) (by kernel_rfl) (by kernel_rfl) (by kernel_rfl) (fun _ _ _ h => h) hS (Or.inl ⟨by kernel_rfl, fun w hS => (by clear hS; go_simp)⟩) ?_
              simp only [Act.put, List.setIfInBounds_toArray, List.set_cons_zero, List.set_cons_succ]; try simp only [List.getElem_toArray, List.getElem_cons_succ, List.getElem_cons_zero]
              refine wpAnyZ_take (i := 15) (v := .pointer (some ⟨g, 0, none⟩)) rfl (by kernel_rfl) (by kernel_rfl) (by kernel_rfl) (by kernel_rfl) (fun _ _ _ h => h) hS (Or.inl ⟨by kernel_rfl, fun w hS => (by clear hS; go_simp)⟩) ?_
              simp only [Act.put, List.setIfInBounds_toArray, List.set_cons_zero, List.set_cons_succ]; try simp only [List.getElem_toArray, List.getElem_cons_succ, List.getElem_cons_zero]
              refine wpAnyZ_take (i := 16) (v := .pointer (some ⟨g, 0, none⟩)) rfl (by kernel_rfl) (by kernel_rfl) (by kernel_rfl) (by kernel_rfl) (fun _ _ _ h => h) hS (Or.inl ⟨by kernel_rfl, fun w hS => (by clear hS; go_simp)⟩) ?_
              simp only [Act.put, List.setIfInBounds_toArray, List.set_cons_zero, List.set_cons_succ]; try simp only [List.getElem_toArray, List.getElem_cons_succ, List.getElem_cons_zero]
              refine wpAnyZ_take (i := 17) (v := .pointer (some ⟨g, 2, none⟩)) rfl (by kernel_rfl) (by kernel_rfl) (by kernel_rfl) (by kernel_rfl) (fun _ _ _ h => h) hS (Or.inl ⟨by kernel_rfl, fun w hS => (by clear hS; go_simp)⟩) ?_
              simp only [Act.put, List.setIfInBounds_toArray, List.set_cons_zero, List.set_cons_succ]; try simp only [List.getElem_toArray, List.getElem_cons_succ, List.getElem_cons_zero]
              refine wpAnyZ_take (i := 18) (v := .slice (some ⟨bW, 0, none⟩) M cW) rfl (by kernel_rfl) (by kernel_rfl) (by kernel_rfl) (by kernel_rfl) (fun _ _ _ h => h) hS (Or.inl ⟨by kernel_rfl, fun w hS => (by have hc := hS.1.1.1.2; clear hS; go_simp)⟩) ?_
              simp only [Act.put, List.setIfInBounds_toArray, List.set_cons_zero, List.set_cons_succ]; try simp only [List.getElem_toArray, List.getElem_cons_succ, List.getElem_cons_zero]
              refine wpAnyZ_take (i := 19) (v := .int .i64 (k : Nat)) rfl (by kernel_rfl) (by kernel_rfl) (by kernel_rfl) (by kernel_rfl) (fun _ _ _ h => h) hS (Or.inl ⟨by kernel_rfl, fun w hS => (by clear hS; go_simp)⟩) ?_
              simp only [Act.put, List.setIfInBounds_toArray, List.set_cons_zero, List.set_cons_succ]; try simp only [List.getElem_toArray, List.getElem_cons_succ, List.getElem_cons_zero]
              refine wpAnyZ_take (i := 20) (v := .pointer (some ⟨bW, k * 2, none⟩)) rfl (by kernel_rfl) (by kernel_rfl) (by kernel_rfl) (by kernel_rfl) (fun _ _ _ h => h) hS (Or.inl ⟨by kernel_rfl, fun w hS => (by clear hS; go_simp)⟩) ?_
              simp only [Act.put, List.setIfInBounds_toArray, List.set_cons_zero, List.set_cons_succ]; try simp only [List.getElem_toArray, List.getElem_cons_succ, List.getElem_cons_zero]
              refine wpAnyZ_take (i := 21) (v := .pointer (some ⟨bW, k * 2 + 1, none⟩)) rfl (by kernel_rfl) (by kernel_rfl) (by kernel_rfl) (by kernel_rfl) (fun _ _ _ h => h) hS (Or.inl ⟨by kernel_rfl, fun w hS => (by clear hS; go_simp)⟩) ?_
              simp only [Act.put, List.setIfInBounds_toArray, List.set_cons_zero, List.set_cons_succ]; try simp only [List.getElem_toArray, List.getElem_cons_succ, List.getElem_cons_zero]
              refine wpAnyZ_take (i := 22) (v := .slice (some ⟨bw, 0, none⟩) 256 cw) rfl (by kernel_rfl) (by kernel_rfl) (by kernel_rfl) (by kernel_rfl) (fun _ _ _ h => h) hS (Or.inl ⟨by kernel_rfl, fun w hS => (by have hc := hS.1.1.2.2; clear hS; go_simp)⟩) ?_
              simp only [Act.put, List.setIfInBounds_toArray, List.set_cons_zero, List.set_cons_succ]; try simp only [List.getElem_toArray, List.getElem_cons_succ, List.getElem_cons_zero]
              refine wpAnyZ_take (i := 23) (v := .int .i64 (i : Nat)) rfl (by kernel_rfl) (by kernel_rfl) (by kernel_rfl) (by kernel_rfl) (fun _ _ _ h => h) hS (Or.inl ⟨by kernel_rfl, fun w hS => (by clear hS; go_simp)⟩) ?_
              simp only [Act.put, List.setIfInBounds_toArray, List.set_cons_zero, List.set_cons_succ]; try simp only [List.getElem_toArray, List.getElem_cons_succ, List.getElem_cons_zero]
              refine wpAnyZ_take (i := 24) (v := .pointer (some ⟨bw, i, none⟩)) rfl (by kernel_rfl) (by kernel_rfl) (by kernel_rfl) (by kernel_rfl) (fun _ _ _ h => h) hS (Or.inl ⟨by kernel_rfl, fun w hS => (by clear hS; go_simp)⟩) ?_
              simp only [Act.put, List.setIfInBounds_toArray, List.set_cons_zero, List.set_cons_succ]; try simp only [List.getElem_toArray, List.getElem_cons_succ, List.getElem_cons_zero]
              refine wpAnyZ_take (i := 25) (v := .int .u8 x) rfl (by kernel_rfl) (by kernel_rfl) (by kernel_rfl) (by kernel_rfl) (fun _ _ _ h => h) hS (Or.inl ⟨by kernel_rfl, fun w hS => (by have hc := hS.2; clear hS; go_simp)⟩) ?_
              simp only [Act.put, List.setIfInBounds_toArray, List.set_cons_zero, List.set_cons_succ]; try simp only [List.getElem_toArray, List.getElem_cons_succ, List.getElem_cons_zero]
              refine wpAnyZ_take (i := 26) (v := .pointer (some ⟨b1, i, none⟩)) rfl (by kernel_rfl) (by kernel_rfl) (by kernel_rfl) (by kernel_rfl) (fun _ _ _ h => h) hS (Or.inl ⟨by kernel_rfl, fun w hS => (by clear hS; go_simp)⟩) ?_
              simp only [Act.put, List.setIfInBounds_toArray, List.set_cons_zero, List.set_cons_succ]; try simp only [List.getElem_toArray, List.getElem_cons_succ, List.getElem_cons_zero]
              have hrow := HV2.out.rF.row a haN
              rw [HV1K.out] at hrow
              have HC3 := hid (And.intro (hrow.cellAt i hi8) (hrow.frozenAt i))
              have HV3 := hid (HV2.out.byteF (j := i) (x := x) haN HV1K.out)
              have hbF : F b1 := (HV2.out.fF b1 (.inr ⟨a, haN, by rw [HV1K.out]; rfl⟩)).1
              have HT3 := hid (HT2.out.setCell (b := b1) (.inl hbF) i (.int .u8 x))
              have HP3 := hid (HP2.out.tb (F := fun q => q = b1) (w' := w2.setCell ⟨b1, i, none⟩ (.int .u8 x)) (Tb.setCell (F := fun q => q = b1) (b := b1) (Tb.refl _ w2) (.inl rfl) i (.int .u8 x)) (fun ad hd e => HF.out ad hd hn0 (by have e2 : ad.block = b1 := e; rw [e2]; exact hbF)))
              have HS3 : Hid ((fun v => (((v.cell? ⟨g, 1, none⟩ = some (.slice (some ⟨bF, 0, none⟩) N cF) ∧ v.cell? ⟨g, 2, none⟩ = some (.slice (some ⟨bW, 0, none⟩) M cW)) ∧ (v.cell? ⟨bW, k * 2, none⟩ = some (.int .i64 (a : Nat)) ∧ v.cell? ⟨bW, k * 2 + 1, none⟩ = some (.slice (some ⟨bw, 0, none⟩) 256 cw))) ∧ v.cell? ⟨bF, a, none⟩ = some (.slice (some ⟨b1, 0, none⟩) 256 c1)) ∧ v.cell? ⟨bw, i, none⟩ = some (.int .u8 x)) (w2.setCell ⟨b1, i, none⟩ (.int .u8 x))) := hid (rcd_sat HV3.out HW2K.out hkM haN HV1K.out HBW.out HX.out hi8)
              clear hrow hbF HV2 HT2 HP2
              refine wpAnyZ_one (i := 27) (by kernel_rfl) rfl (fun K hK => ?_)
              obtain ⟨hcc, hff⟩ := HC3.out
              clear hS
              go_simp
              refine hK.out _ _ (fun _ => HS3.out) ?_
              clear hK K hcc hff
              try simp only [Act.put, List.setIfInBounds_toArray, List.set_cons_zero, List.set_cons_succ]
              refine wpAnyZ_done (by kernel_rfl) ?_ _
              clear HC3 HS3
              generalize World.setCell w2 ⟨b1, i, none⟩ (.int .u8 x) = wr at HV3 HT3 HP3 ⊢
              have HV := HV3
              have HT := HT3
              have HP := HP3
              clear HV3 HT3 HP3
              have HV4 := hid (HV.out.sameF (firm' := putB X a (prt m b (X a) (i + 1))) (fun j hj => by rw [putB_set, prt_yes HXL.out hi8 (by rw [← hs.out]; exact hbit), ← hx.out]))
              clear HV
              go_wp2_with fail
              go_roundw
              case rel => exact ⟨i + 1, by omega, by go_num, HV4.out, HT.out, HP.out⟩
              case measure => simp [intOf]; omega
            · have t4 := tb_nobit m s HM8.out.1 hbit
              have HV4 := hid (HV.out.sameF (firm' := putB X a (prt m b (X a) (i + 1))) (fun j hj => by rw [prt_no hi8 (by rw [← hs.out]; exact hbit)]))
              clear HV
              go_wp2_with fail
              go_roundw
              case rel => exact ⟨i + 1, by omega, by go_num, HV4.out, HT.out, HP.out⟩
              case measure => simp [intOf]; omega
          · obtain rfl : i = 256 := by omega
            have iI : ¬ ((256 : Nat) : Int) < 256 := by omega
            have HV4 := hid (HV.out.sameF (firm' := crs S.firm (S.ws.take (k + 1)) mn) (fun j hj => by rw [prt_all, crs_succ S.firm HKW.out (by rw [HML.out]; exact hkn), ← hX.out, ← hm.out]))
            clear HV
            go_wp2_with fail
            go_roundw
            case rel => exact ⟨k + 1, by omega, by omega, by go_num, HV4.out, HT.out, HP.out⟩
            case measure => simp [intOf]; omega
      · have kI2 : ¬ (k : Int) < (n : Int) := by omega
        have hv9 := HV.out
        rw [show crs S.firm (S.ws.take k) mn = crs S.firm S.ws mn from crs_short _ _ (by rw [HML.out]; omega)] at hv9
        have HV9 := hid hv9
        clear hv9 HV HP
        obtain ⟨Y, hY⟩ : ∃ Y, Hid (Y = crs S.firm S.ws mn) := ⟨_, rfl⟩
        have hvy := HV9.out
        rw [← hY.out] at hvy
        have HVY := hid hvy
        clear hvy HV9
        have HYO : Hid (∀ j, j < N → (Y j).length = 256 ∧ Oct (Y j)) := hid (fun j hj => by rw [hY.out]; exact Dst.crs_ok _ _ _ _ HSO.out.firm HSO.out.ws j (by rw [← hN.out]; exact hj))
        go_wp2_with fail
        go_loopw [6] (fun j wr => ∃ (k : Nat) (F1 : Nat → Prop) (VN : Nat → Value), k ≤ N ∧ j = .int .i64 (k : Int) ∧ RDv 86 B wr g F1 N (.slice (some ⟨bN, 0, none⟩) N cN) VN (fun j => if j < k then Y j else S.now j) (.slice (some ⟨bF, 0, none⟩) N cF) VF (Y) (.slice qW M cW) VW S.ws S.steps S.fail S.cut S.down ∧ Tb F w wr ∧ (∀ q, F1 q → F q ∨ w.heap.size ≤ q)) (fun j _ => N - (intOf j).toNat)
        case atStart => exact ⟨0, F, VN, Nat.zero_le _, rfl, HVY.out.sameN (fun j _ => by rw [if_neg (Nat.not_lt_zero _)]), HT.out, fun q hq => .inl hq⟩
        case round =>
          clear HVY HT
          try clear c2
          obtain ⟨k, F1, VN, hk, rfl, hv, ht, hn⟩ := hrel
          have HV := hid hv
          have HT := hid ht
          have HN := hid hn
          have c0 := hv.c0
          clear hv ht hn
          by_cases hkN : k < N
          · have kI : (k : Int) < (N : Int) := by omega
            obtain ⟨bk, ck, hVk, _, hbk⟩ := (HV.out.rF.row k hkN).isSlice (by decide)
            have HVK := hid hVk
            have HBK := hid hbk
            have HLK := hid (HYO.out k hkN).1
            clear hVk hbk
            go_upto_region 11 with fail
            clear c0
            have hS0 : (fun v => (v.cell? ⟨g, 0, none⟩ = some (.slice (some ⟨bN, 0, none⟩) N cN) ∧ v.cell? ⟨g, 1, none⟩ = some (.slice (some ⟨bF, 0, none⟩) N cF)) ∧ v.cell? ⟨bF, k, none⟩ = some (.slice (some ⟨bk, 0, none⟩) 256 ck)) wr.drew := ⟨⟨(HV.out.below ((Below.refl _ _).drew)).c0, (HV.out.below ((Below.refl _ _).drew)).c1⟩, ((HV.out.below ((Below.refl _ _).drew)).rF.cellAt k hkN).trans (congrArg some HVK.out)⟩
            have HV2 := hid (HV.out.below ((Below.refl _ _).drew))
            have HB2 := hid (HBK.out.below ((Below.refl _ _).drew))
            have HT2 := hid (HT.out.drew)
            clear HV HT HBK
            refine wp_region_z (fun v => (v.cell? ⟨g, 0, none⟩ = some (.slice (some ⟨bN, 0, none⟩) N cN) ∧ v.cell? ⟨g, 1, none⟩ = some (.slice (some ⟨bF, 0, none⟩) N cF)) ∧ v.cell? ⟨bF, k, none⟩ = some (.slice (some ⟨bk, 0, none⟩) 256 ck)) 15 (by kernel_rfl) hS0 (fun hS => ?_)
            clear hS0
            generalize World.drew _ = w2 at hS HV2 HB2 HT2 ⊢
            refine wpAnyZ_take (i := 0) (v := .pointer (some ⟨g, 0, none⟩)) rfl (by kernel_rfl) (by kernel_rfl) (by kernel_rfl) (by kernel_rfl) (fun _ _ _ h => h) hS (Or.inl ⟨by kernel_rfl, fun w hS => (by clear hS; go_simp)⟩) ?_
            simp only [Act.put, List.setIfInBounds_toArray, List.set_cons_zero, List.set_cons_succ]
            refine wpAnyZ_take (i := 1) (v := .pointer (some ⟨g, 0, none⟩)) rfl (by kernel_rfl) (by kernel_rfl) (by kernel_rfl) (by kernel_rfl) (fun _ _ _ h => h) hS (Or.inl ⟨by kernel_rfl, fun w hS => (by clear hS; go_simp)⟩) ?_
            simp only [Act.put, List.setIfInBounds_toArray, List.set_cons_zero, List.set_cons_succ]
            refine wpAnyZ_take (i := 2) (v := .pointer (some ⟨g, 0, none⟩)) rfl (by kernel_rfl) (by kernel_rfl) (by kernel_rfl) (by kernel_rfl) (fun _ _ _ h => h) hS (Or.inl ⟨by kernel_rfl, fun w hS => (by clear hS; go_simp)⟩) ?_
            simp only [Act.put, List.setIfInBounds_toArray, List.set_cons_zero, List.set_cons_succ]
            refine wpAnyZ_take (i := 3) (v := .slice (some ⟨bN, 0, none⟩) N cN) rfl (by kernel_rfl) (by kernel_rfl) (by kernel_rfl) (by kernel_rfl) (fun _ _ _ h => h) hS (Or.inl ⟨by kernel_rfl, fun w hS => (by have hc := hS.1.1; clear hS; go_simp)⟩) ?_
            simp only [Act.put, List.setIfInBounds_toArray, List.set_cons_zero, List.set_cons_succ]
            refine wpAnyZ_take (i := 4) (v := .int .i64 (k : Nat)) rfl (by kernel_rfl) (by kernel_rfl) (by kernel_rfl) (by kernel_rfl) (fun _ _ _ h => h) hS (Or.inl ⟨by kernel_rfl, fun w hS => (by clear hS; go_simp)⟩) ?_
            simp only [Act.put, List.setIfInBounds_toArray, List.set_cons_zero, List.set_cons_succ]
            refine wpAnyZ_take (i := 5) (v := .pointer (some ⟨g, 0, none⟩)) rfl (by kernel_rfl) (by kernel_rfl) (by kernel_rfl) (by kernel_rfl) (fun _ _ _ h => h) hS (Or.inl ⟨by kernel_rfl, fun w hS => (by clear hS; go_simp)⟩) ?_
            simp only [Act.put, List.setIfInBounds_toArray, List.set_cons_zero, List.set_cons_succ]
            refine wpAnyZ_take (i := 6) (v := .pointer (some ⟨g, 0, none⟩)) rfl (by kernel_rfl) (by kernel_rfl) (by kernel_rfl) (by kernel_rfl) (fun _ _ _ h => h) hS (Or.inl ⟨by kernel_rfl, fun w hS => (by clear hS; go_simp)⟩) ?_
            simp only [Act.put, List.setIfInBounds_toArray, List.set_cons_zero, List.set_cons_succ]
            refine wpAnyZ_take (i := 7) (v := .pointer (some ⟨g, 1, none⟩)) rfl (by kernel_rfl) (by kernel_rfl) (by kernel_rfl) (by kernel_rfl) (fun _ _ _ h => h) hS (Or.inl ⟨by kernel_rfl, fun w hS => (by clear hS; go_simp)⟩) ?_
            simp only [Act.put, List.setIfInBounds_toArray, List.set_cons_zero, List.set_cons_succ]
            refine wpAnyZ_take (i := 8) (v := .slice (some ⟨bF, 0, none⟩) N cF) rfl (by kernel_rfl) (by kernel_rfl) (by kernel_rfl) (by kernel_rfl) (fun _ _ _ h => h) hS (Or.inl ⟨by kernel_rfl, fun w hS => (by have hc := hS.1.2; clear hS; go_simp)⟩) ?_
            simp only [Act.put, List.setIfInBounds_toArray, List.set_cons_zero, List.set_cons_succ]
            refine wpAnyZ_take (i := 9) (v := .int .i64 (k : Nat)) rfl (by kernel_rfl) (by kernel_rfl) (by kernel_rfl) (by kernel_rfl) (fun _ _ _ h => h) hS (Or.inl ⟨by kernel_rfl, fun w hS => (by clear hS; go_simp)⟩) ?_
            simp only [Act.put, List.setIfInBounds_toArray, List.set_cons_zero, List.set_cons_succ]; try simp only [List.getElem_toArray, List.getElem_cons_succ, List.getElem_cons_zero]
            refine wpAnyZ_take (i := 10) (v := .pointer (some ⟨bF, k, none⟩)) rfl (by kernel_rfl) (by kernel_rfl) (by kernel_rfl) (by kernel_rfl) (fun _ _ _ h => h) hS (Or.inl ⟨by kernel_rfl, fun w hS => (by clear hS; go_simp)⟩) ?_
            simp only [Act.put, List.setIfInBounds_toArray, List.set_cons_zero, List.set_cons_succ]; try simp only [List.getElem_toArray, List.getElem_cons_succ, List.getElem_cons_zero]
            refine wpAnyZ_take (i := 11) (v := .slice (some ⟨bk, 0, none⟩) 256 ck) rfl (by kernel_rfl) (by kernel_rfl) (by kernel_rfl) (by kernel_rfl) (fun _ _ _ h => h) hS (Or.inl ⟨by kernel_rfl, fun w hS => (by have hc := hS.2; clear hS; go_simp)⟩) ?_
            simp only [Act.put, List.setIfInBounds_toArray, List.set_cons_zero, List.set_cons_succ]; try simp only [List.getElem_toArray, List.getElem_cons_succ, List.getElem_cons_zero]
            refine wpAnyZ_one (i := 12) (by kernel_rfl) rfl (fun K hK => ?_)
            go_simp
            go_at_call 10
            refine (copy_256 (some ⟨bk, 0, none⟩) ck _ w2 HB2.out HLK.out).mono ?_
            rintro e v8 ⟨g8, c8, rfl, hO8, hb8⟩
            have hg8 := World.ownsRow.lt hO8 g8 rfl
            have hn8 : ¬ F1 g8 := fun h => by have := (HV2.out.lt g8 h).2; omega
            have hv8 := HV2.out.below hb8
            have HV3 := hid (hv8.putN (k := k) rfl hkN (hO8.mono (HTB.out _ HT2.out)) rfl hn8)
            have HC3 := hid (And.intro (hv8.rN.cellAt k hkN) (World.ownsRow.frozenAt hv8.rN.out k))
            have hS8 : (fun v => (v.cell? ⟨g, 0, none⟩ = some (.slice (some ⟨bN, 0, none⟩) N cN) ∧ v.cell? ⟨g, 1, none⟩ = some (.slice (some ⟨bF, 0, none⟩) N cF)) ∧ v.cell? ⟨bF, k, none⟩ = some (.slice (some ⟨bk, 0, none⟩) 256 ck)) v8 := ⟨⟨(hv8).c0, (hv8).c1⟩, ((hv8).rF.cellAt k hkN).trans (congrArg some HVK.out)⟩
            have HT3 := hid ((HT2.out.below hb8).setCell (b := bN) (HN.out bN (HV2.out.fN bN (.inl rfl)).1) k (.slice (some ⟨g8, 0, none⟩) 256 c8))
            have HN3 : Hid (∀ q, (F1 q ∨ q = g8) → F q ∨ w.heap.size ≤ q) := hid (fun q hq => by
              rcases hq with h1 | rfl
              · exact HN.out q h1
              · have := HT2.out.size; exact .inr (by omega))
            have HS3 : Hid ((fun v => (v.cell? ⟨g, 0, none⟩ = some (.slice (some ⟨bN, 0, none⟩) N cN) ∧ v.cell? ⟨g, 1, none⟩ = some (.slice (some ⟨bF, 0, none⟩) N cF)) ∧ v.cell? ⟨bF, k, none⟩ = some (.slice (some ⟨bk, 0, none⟩) 256 ck)) (World.setCell v8 ⟨bN, k, none⟩ (.slice (some ⟨g8, 0, none⟩) 256 c8))) := hid ⟨⟨HV3.out.c0, HV3.out.c1⟩, (HV3.out.rF.cellAt k hkN).trans (congrArg some HVK.out)⟩
            clear hO8 hb8 HV2 HB2 HT2 hg8 hn8 hv8 hS
            have hS := hS8
            clear hS8
            go_wp2_with fail
            refine hK.out _ _ (fun _ => hS) ?_
            clear hK K
            try simp only [Act.put, List.setIfInBounds_toArray, List.set_cons_zero, List.set_cons_succ]
            refine wpAnyZ_take (i := 13) (v := .pointer (some ⟨bN, k, none⟩)) rfl (by kernel_rfl) (by kernel_rfl) (by kernel_rfl) (by kernel_rfl) (fun _ _ _ h => h) hS (Or.inl ⟨by kernel_rfl, fun w hS => (by clear hS; go_simp)⟩) ?_
            simp only [Act.put, List.setIfInBounds_toArray, List.set_cons_zero, List.set_cons_succ]; try simp only [List.getElem_toArray, List.getElem_cons_succ, List.getElem_cons_zero]
            refine wpAnyZ_one (i := 14) (by kernel_rfl) rfl (fun K hK => ?_)
            obtain ⟨hcc, hff⟩ := HC3.out
            go_simp
            refine hK.out _ _ (fun _ => HS3.out) ?_
            clear hK K hcc hff
            try simp only [Act.put, List.setIfInBounds_toArray, List.set_cons_zero, List.set_cons_succ]
            refine wpAnyZ_done (by kernel_rfl) ?_ _
            clear hS HC3 HS3
            have HV4 := hid (HV3.out.sameN (now' := fun j => if j < k + 1 then Y j else S.now j) (fun j hj => by
              unfold putB
              by_cases e : j = k
              · subst e; rw [if_pos rfl, if_pos (Nat.lt_succ_self _)]
              · rw [if_neg e]; show (if j < k then Y j else S.now j) = _; by_cases h2 : j < k
                · rw [if_pos h2, if_pos (by omega)]
                · rw [if_neg h2, if_neg (by omega)]))
            clear HV3
            go_wp2_with fail
            go_roundw
            case rel => exact ⟨k + 1, _, _, by omega, by go_num, HV4.out, HT3.out, HN3.out⟩
            case measure => simp [intOf]; omega
          · obtain rfl : k = N := by omega
            have kI : ¬ (k : Int) < (k : Int) := by omega
            have q2 := hid ((HV.out.sameN (now' := Y) (fun j hj => if_pos hj)).calm)
            have q4 := hid (q2.out.num 4 (by decide) (by decide) (.int .i64 0) S.steps 0 S.cut S.down rfl rfl rfl rfl)
            have q5 := hid (q4.out.num 5 (by decide) (by decide) (.int .i64 (-1)) S.steps 0 (-1) S.down rfl rfl rfl rfl)
            have q6 := hid (q5.out.num 6 (by decide) (by decide) (.bool false) S.steps 0 (-1) false rfl rfl rfl rfl)
            have hgF := HN.out g HV.out.fg
            have HT6 := hid ((((HT.out.setCell (b := g) hgF 2 (.slice none 0 0)).setCell (b := g) hgF 4 (.int .i64 0)).setCell (b := g) hgF 5 (.int .i64 (-1))).setCell (b := g) hgF 6 (.bool false))
            have c2 := HV.out.c2
            have z2 := HV.out.z 2 (by decide)
            have c4 := HV.out.c4
            have c5 := HV.out.c5
            have c6 := HV.out.c6
            have z4 := HV.out.z 4 (by decide)
            have z5 := HV.out.z 5 (by decide)
            have z6 := HV.out.z 6 (by decide)
            have hf := q6.out.rdk
            rw [hN.out, hY.out] at hf
            have HFI := hid hf
            clear hf q2 q4 q5 q6 HV HT hgF
            go_wp2_with fail
            go_end0
            exact ⟨rfl, F1, ⟨HOK.out, HFI.out⟩, HT6.out, HN.out⟩
    · have kI : ¬ (k : Int) < (M : Int) := by omega
      have hv9 := HV.out
      rw [show crs S.firm (S.ws.take k) mn = crs S.firm S.ws mn from by rw [List.take_of_length_le (by rw [← hM.out]; omega)]] at hv9
      have HV9 := hid hv9
      clear hv9 HV HP
      obtain ⟨Y, hY⟩ : ∃ Y, Hid (Y = crs S.firm S.ws mn) := ⟨_, rfl⟩
      have hvy := HV9.out
      rw [← hY.out] at hvy
      have HVY := hid hvy
      clear hvy HV9
      have HYO : Hid (∀ j, j < N → (Y j).length = 256 ∧ Oct (Y j)) := hid (fun j hj => by rw [hY.out]; exact Dst.crs_ok _ _ _ _ HSO.out.firm HSO.out.ws j (by rw [← hN.out]; exact hj))
      go_wp2_with fail
      go_loopw [6] (fun j wr => ∃ (k : Nat) (F1 : Nat → Prop) (VN : Nat → Value), k ≤ N ∧ j = .int .i64 (k : Int) ∧ RDv 86 B wr g F1 N (.slice (some ⟨bN, 0, none⟩) N cN) VN (fun j => if j < k then Y j else S.now j) (.slice (some ⟨bF, 0, none⟩) N cF) VF (Y) (.slice qW M cW) VW S.ws S.steps S.fail S.cut S.down ∧ Tb F w wr ∧ (∀ q, F1 q → F q ∨ w.heap.size ≤ q)) (fun j _ => N - (intOf j).toNat)
      case atStart => exact ⟨0, F, VN, Nat.zero_le _, rfl, HVY.out.sameN (fun j _ => by rw [if_neg (Nat.not_lt_zero _)]), HT.out, fun q hq => .inl hq⟩
      case round =>
        clear HVY HT
        try clear c2
        obtain ⟨k, F1, VN, hk, rfl, hv, ht, hn⟩ := hrel
        have HV := hid hv
        have HT := hid ht
        have HN := hid hn
        have c0 := hv.c0
        clear hv ht hn
        by_cases hkN : k < N
        · have kI : (k : Int) < (N : Int) := by omega
          obtain ⟨bk, ck, hVk, _, hbk⟩ := (HV.out.rF.row k hkN).isSlice (by decide)
          have HVK := hid hVk
          have HBK := hid hbk
          have HLK := hid (HYO.out k hkN).1
          clear hVk hbk
          go_upto_region 11 with fail
          clear c0
          have hS0 : (fun v => (v.cell? ⟨g, 0, none⟩ = some (.slice (some ⟨bN, 0, none⟩) N cN) ∧ v.cell? ⟨g, 1, none⟩ = some (.slice (some ⟨bF, 0, none⟩) N cF)) ∧ v.cell? ⟨bF, k, none⟩ = some (.slice (some ⟨bk, 0, none⟩) 256 ck)) wr.drew := ⟨⟨(HV.out.below ((Below.refl _ _).drew)).c0, (HV.out.below ((Below.refl _ _).drew)).c1⟩, ((HV.out.below ((Below.refl _ _).drew)).rF.cellAt k hkN).trans (congrArg some HVK.out)⟩
          have HV2 := hid (HV.out.below ((Below.refl _ _).drew))
          have HB2 := hid (HBK.out.below ((Below.refl _ _).drew))
          have HT2 := hid (HT.out.drew)
          clear HV HT HBK
          refine wp_region_z (fun v => (v.cell? ⟨g, 0, none⟩ = some (.slice (some ⟨bN, 0, none⟩) N cN) ∧ v.cell? ⟨g, 1, none⟩ = some (.slice (some ⟨bF, 0, none⟩) N cF)) ∧ v.cell? ⟨bF, k, none⟩ = some (.slice (some ⟨bk, 0, none⟩) 256 ck)) 15 (by kernel_rfl) hS0 (fun hS => ?_)
          clear hS0
          generalize World.drew _ = w2 at hS HV2 HB2 HT2 ⊢
          refine wpAnyZ_take (i := 0) (v := .pointer (some ⟨g, 0, none⟩)) rfl (by kernel_rfl) (by kernel_rfl) (by kernel_rfl) (by kernel_rfl) (fun _ _ _ h => h) hS (Or.inl ⟨by kernel_rfl, fun w hS => (by clear hS; go_simp)⟩) ?_
          simp only [Act.put, List.setIfInBounds_toArray, List.set_cons_zero, List.set_cons_succ]
          refine wpAnyZ_take (i := 1) (v := .pointer (some ⟨g, 0, none⟩)) rfl (by kernel_rfl) (by kernel_rfl) (by kernel_rfl) (by kernel_rfl) (fun _ _ _ h => h) hS (Or.inl ⟨by kernel_rfl, fun w hS => (by clear hS; go_simp)⟩) ?_
          simp only [Act.put, List.setIfInBounds_toArray, List.set_cons_zero, List.set_cons_succ]
          refine wpAnyZ_take (i := 2) (v := .pointer (some ⟨g, 0, none⟩)) rfl (by kernel_rfl) (by kernel_rfl) (by kernel_rfl) (by kernel_rfl) (fun _ _ _ h => h) hS (Or.inl ⟨by kernel_rfl, fun w hS => (by clear hS; go_simp)⟩) ?_
          simp only [Act.put, List.setIfInBounds_toArray, List.set_cons_zero, List.set_cons_succ]
          refine wpAnyZ_take (i := 3) (v := .slice (some ⟨bN, 0, none⟩) N cN) rfl (by kernel_rfl) (by kernel_rfl) (by kernel_rfl) (by kernel_rfl) (fun _ _ _ h => h) hS (Or.inl ⟨by kernel_rfl, fun w hS => (by have hc := hS.1.1; clear hS; go_simp)⟩) ?_
          simp only [Act.put, List.setIfInBounds_toArray, List.set_cons_zero, List.set_cons_succ]
          refine wpAnyZ_take (i := 4) (v := .int .i64 (k : Nat)) rfl (by kernel_rfl) (by kernel_rfl) (by kernel_rfl) (by kernel_rfl) (fun _ _ _ h => h) hS (Or.inl ⟨by kernel_rfl, fun w hS => (by clear hS; go_simp)⟩) ?_
          simp only [Act.put, List.setIfInBounds_toArray, List.set_cons_zero, List.set_cons_succ]
          refine wpAnyZ_take (i := 5) (v := .pointer (some ⟨g, 0, none⟩)) rfl (by kernel_rfl) (by kernel_rfl) (by kernel_rfl) (by kernel_rfl) (fun _ _ _ h => h) hS (Or.inl ⟨by kernel_rfl, fun w hS => (by clear hS; go_simp)⟩) ?_
          simp only [Act.put, List.setIfInBounds_toArray, List.set_cons_zero, List.set_cons_succ]
          refine wpAnyZ_take (i := 6) (v := .pointer (some ⟨g, 0, none⟩)) rfl (by kernel_rfl) (by kernel_rfl) (by kernel_rfl) (by kernel_rfl) (fun _ _ _ h => h) hS (Or.inl ⟨by kernel_rfl, fun w hS => (by clear hS; go_simp)⟩) ?_
          simp only [Act.put, List.setIfInBounds_toArray, List.set_cons_zero, List.set_cons_succ]
          refine wpAnyZ_take (i := 7) (v := .pointer (some ⟨g, 1, none⟩)) rfl (by kernel_rfl) (by kernel_rfl) (by kernel_rfl) (by kernel_rfl) (fun _ _ _ h => h) hS (Or.inl ⟨by kernel_rfl, fun w hS => (by clear hS; go_simp)⟩) ?_
          simp only [Act.put, List.setIfInBounds_toArray, List.set_cons_zero, List.set_cons_succ]
          refine wpAnyZ_take (i := 8) (v := .slice (some ⟨bF, 0, none⟩) N cF) rfl (by kernel_rfl) (by kernel_rfl) (by kernel_rfl) (by kernel_rfl) (fun _ _ _ h => h) hS (Or.inl ⟨by kernel_rfl, fun w hS => (by have hc := hS.1.2; clear hS; go_simp)⟩) ?_
          simp only [Act.put, List.setIfInBounds_toArray, List.set_cons_zero, List.set_cons_succ]
          refine wpAnyZ_take (i := 9) (v := .int .i64 (k : Nat)) rfl (by kernel_rfl) (by kernel_rfl) (by kernel_rfl) (by kernel_rfl) (fun _ _ _ h => h) hS (Or.inl ⟨by kernel_rfl, fun w hS => (by clear hS; go_simp)⟩) ?_
          simp only [Act.put, List.setIfInBounds_toArray, List.set_cons_zero, List.set_cons_succ]; try simp only [List.getElem_toArray, List.getElem_cons_succ, List.getElem_cons_zero]
          refine wpAnyZ_take (i := 10) (v := .pointer (some ⟨bF, k, none⟩)) rfl (by kernel_rfl) (by kernel_rfl) (by kernel_rfl) (by kernel_rfl) (fun _ _ _ h => h) hS (Or.inl ⟨by kernel_rfl, fun w hS => (by clear hS; go_simp)⟩) ?_
          simp only [Act.put, List.setIfInBounds_toArray, List.set_cons_zero, List.set_cons_succ]; try simp only [List.getElem_toArray, List.getElem_cons_succ, List.getElem_cons_zero]
          refine wpAnyZ_take (i := 11) (v := .slice (some ⟨bk, 0, none⟩) 256 ck) rfl (by kernel_rfl) (by kernel_rfl) (by kernel_rfl) (by kernel_rfl) (fun _ _ _ h => h) hS (Or.inl ⟨by kernel_rfl, fun w hS => (by have hc := hS.2; clear hS; go_simp)⟩) ?_
          simp only [Act.put, List.setIfInBounds_toArray, List.set_cons_zero, List.set_cons_succ]; try simp only [List.getElem_toArray, List.getElem_cons_succ, List.getElem_cons_zero]
          refine wpAnyZ_one (i := 12) (by kernel_rfl) rfl (fun K hK => ?_)
          go_simp
          go_at_call 10
          refine (copy_256 (some ⟨bk, 0, none⟩) ck _ w2 HB2.out HLK.out).mono ?_
          rintro e v8 ⟨g8, c8, rfl, hO8, hb8⟩
          have hg8 := World.ownsRow.lt hO8 g8 rfl
          have hn8 : ¬ F1 g8 := fun h => by have := (HV2.out.lt g8 h).2; omega
          have hv8 := HV2.out.below hb8
          have HV3 := hid (hv8.putN (k := k) rfl hkN (hO8.mono (HTB.out _ HT2.out)) rfl hn8)
          have HC3 := hid (And.intro (hv8.rN.cellAt k hkN) (World.ownsRow.frozenAt hv8.rN.out k))
          have hS8 : (fun v => (v.cell? ⟨g, 0, none⟩ = some (.slice (some ⟨bN, 0, none⟩) N cN) ∧ v.cell? ⟨g, 1, none⟩ = some (.slice (some ⟨bF, 0, none⟩) N cF)) ∧ v.cell? ⟨bF, k, none⟩ = some (.slice (some ⟨bk, 0, none⟩) 256 ck)) v8 := ⟨⟨(hv8).c0, (hv8).c1⟩, ((hv8).rF.cellAt k hkN).trans (congrArg some HVK.out)⟩
          have HT3 := hid ((HT2.out.below hb8).setCell (b := bN) (HN.out bN (HV2.out.fN bN (.inl rfl)).1) k (.slice (some ⟨g8, 0, none⟩) 256 c8))
          have HN3 : Hid (∀ q, (F1 q ∨ q = g8) → F q ∨ w.heap.size ≤ q) := hid (fun q hq => by
            rcases hq with h1 | rfl
            · exact HN.out q h1
            · have := HT2.out.size; exact .inr (by omega))
          have HS3 : Hid ((fun v => (v.cell? ⟨g, 0, none⟩ = some (.slice (some ⟨bN, 0, none⟩) N cN) ∧ v.cell? ⟨g, 1, none⟩ = some (.slice (some ⟨bF, 0, none⟩) N cF)) ∧ v.cell? ⟨bF, k, none⟩ = some (.slice (some ⟨bk, 0, none⟩) 256 ck)) (World.setCell v8 ⟨bN, k, none⟩ (.slice (some ⟨g8, 0, none⟩) 256 c8))) := hid ⟨⟨HV3.out.c0, HV3.out.c1⟩, (HV3.out.rF.cellAt k hkN).trans (congrArg some HVK.out)⟩
          clear hO8 hb8 HV2 HB2 HT2 hg8 hn8 hv8 hS
          have hS := hS8
          clear hS8
          go_wp2_with fail
          refine hK.out _ _ (fun _ => hS) ?_
          clear hK K
          try simp only [Act.put, List.setIfInBounds_toArray, List.set_cons_zero, List.set_cons_succ]
          refine wpAnyZ_take (i := 13) (v := .pointer (some ⟨bN, k, none⟩)) rfl (by kernel_rfl) (by kernel_rfl) (by kernel_rfl) (by kernel_rfl) (fun _ _ _ h => h) hS (Or.inl ⟨by kernel_rfl, fun w hS => (by clear hS; go_simp)⟩) ?_
          simp only [Act.put, List.setIfInBounds_toArray, List.set_cons_zero, List.set_cons_succ]; try simp only [List.getElem_toArray, List.getElem_cons_succ, List.getElem_cons_zero]
          refine wpAnyZ_one (i := 14) (by kernel_rfl) rfl (fun K hK => ?_)
          obtain ⟨hcc, hff⟩ := HC3.out
          go_simp
          refine hK.out _ _ (fun _ => HS3.out) ?_
          clear hK K hcc hff
          try simp only [Act.put, List.setIfInBounds_toArray, List.set_cons_zero, List.set_cons_succ]
          refine wpAnyZ_done (by kernel_rfl) ?_ _
          clear hS HC3 HS3
          have HV4 := hid (HV3.out.sameN (now' := fun j => if j < k + 1 then Y j else S.now j) (fun j hj => by
            unfold putB
            by_cases e : j = k
            · subst e; rw [if_pos rfl, if_pos (Nat.lt_succ_self _)]
            · rw [if_neg e]; show (if j < k then Y j else S.now j) = _; by_cases h2 : j < k
              · rw [if_pos h2, if_pos (by omega)]
              · rw [if_neg h2, if_neg (by omega)]))
          clear HV3
          go_wp2_with fail
          go_roundw
          case rel => exact ⟨k + 1, _, _, by omega, by go_num, HV4.out, HT3.out, HN3.out⟩
          case measure => simp [intOf]; omega
        · obtain rfl : k = N := by omega
          have kI : ¬ (k : Int) < (k : Int) := by omega
          have q2 := hid ((HV.out.sameN (now' := Y) (fun j hj => if_pos hj)).calm)
          have q4 := hid (q2.out.num 4 (by decide) (by decide) (.int .i64 0) S.steps 0 S.cut S.down rfl rfl rfl rfl)
          have q5 := hid (q4.out.num 5 (by decide) (by decide) (.int .i64 (-1)) S.steps 0 (-1) S.down rfl rfl rfl rfl)
          have q6 := hid (q5.out.num 6 (by decide) (by decide) (.bool false) S.steps 0 (-1) false rfl rfl rfl rfl)
          have hgF := HN.out g HV.out.fg
          have HT6 := hid ((((HT.out.setCell (b := g) hgF 2 (.slice none 0 0)).setCell (b := g) hgF 4 (.int .i64 0)).setCell (b := g) hgF 5 (.int .i64 (-1))).setCell (b := g) hgF 6 (.bool false))
          have c2 := HV.out.c2
          have z2 := HV.out.z 2 (by decide)
          have c4 := HV.out.c4
          have c5 := HV.out.c5
          have c6 := HV.out.c6
          have z4 := HV.out.z 4 (by decide)
          have z5 := HV.out.z 5 (by decide)
          have z6 := HV.out.z 6 (by decide)
          have hf := q6.out.rdk
          rw [hN.out, hY.out] at hf
          have HFI := hid hf
          clear hf q2 q4 q5 q6 HV HT hgF
          go_wp2_with fail
          go_end0
          exact ⟨rfl, F1, ⟨HOK.out, HFI.out⟩, HT6.out, HN.out⟩
end Go.Proofs.Ytlbhoijjbpjmoaa
