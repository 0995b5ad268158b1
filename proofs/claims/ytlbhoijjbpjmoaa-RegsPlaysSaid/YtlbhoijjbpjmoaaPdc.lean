/-
  The program's device: Crash.
-/
import Derived.Test.YtlbhoijjbpjmoaaPsy
import Derived.Test.YtlbhoijjbpjmoaaPtn
namespace Go.Proofs.Ytlbhoijjbpjmoaa
open Go.RowKit
set_option linter.unusedVariables false
set_option linter.unusedSimpArgs false

section
variable {B g : Nat} {F : Nat → Prop} {S : Dst} {w : World}
set_option maxHeartbeats 16000000 in
set_option maxRecDepth 100000 in
theorem dCrash_at (h : PDk B w g F S) (p : Option Addr) (c n : Nat) (ms : List Int) (hp : Bin w p ms) (ho : Oct ms) (hl : ms.length = n) (hc : n ≤ c) (hm : n ≤ 140737488351232) (hF : ∀ a, p = some a → 0 < n → ¬ F a.block) :
    Calls Try.prog 29 #[.pointer (some ⟨g, 0, none⟩), .slice p n c] w fun e w' => e = .returned (.int .i64 0) ∧ Dstep B w g F (S.crash (ms.map Int.toNat)) w' := by
  have HOS := hid h.ok
  have HOK := hid (Dst.ok_crash h.ok (ms.map Int.toNat))
  have HK1 := hid h
  obtain ⟨kN, cN, kF, cF, vW, fl, ct, hv, hrel⟩ := h.at'
  have hn8 := HOS.out.n8
  have hlw : ∀ q ∈ S.ws, q.2.length = 256 := fun q hq => (HOS.out.ws q hq).2.1
  have HLN := hid hlw
  have HWL : Hid (∀ q : Nat × List Int, ∀ {k : Nat}, S.ws[k]? = some q → q.1 < S.n ∧ q.2.length = 256 ∧ Oct q.2) := hid (fun q k h => HOS.out.ws q (List.mem_of_getElem? h))
  clear hlw
  obtain ⟨N, hN⟩ : ∃ n, Hid (n = S.n) := ⟨_, rfl⟩
  obtain ⟨M, hM⟩ : ∃ n, Hid (n = S.ws.length) := ⟨_, rfl⟩
  have hML := hM.out
  have hM4 : M ≤ 4294967296 := by rw [hM.out]; exact HK1.out.hw
  obtain ⟨p0, cW, hvW, hkW⟩ : ∃ p c, vW = .slice p M c ∧ (0 < M → ∃ kW, p = some ⟨kW, 0, none⟩) := by
    rcases hv.rW.2 with ⟨h1, h2⟩ | ⟨k, c, _, h1, _⟩
    · rw [hM.out, h2]; exact ⟨_, _, h1, fun h => absurd h (Nat.lt_irrefl _)⟩
    · rw [hM.out]; exact ⟨_, _, h1, fun _ => ⟨k, rfl⟩⟩
  subst hvW
  have hub := Try.underlying81
  have hib := Try.sizeBlk
  have huw := Try.underlying83
  have hiw := Try.sizeWr
  obtain ⟨mn, hmn⟩ : ∃ x, Hid (x = ms.map Int.toNat) := ⟨_, rfl⟩
  have hmL : mn.length = n := by rw [hmn.out, List.length_map]; exact hl
  have HMM : Hid (∀ k, k < n → ∃ m : Nat, m < 256 ∧ ms.getD k 0 = (m : Int) ∧ mn.getD k 0 = m) := hid (fun k hk => by
    have h1 := ho.at k
    refine ⟨(ms.getD k 0).toNat, by omega, by omega, ?_⟩
    rw [hmn.out, List.getD_eq_getElem?_getD, List.getD_eq_getElem?_getD, List.getElem?_map, List.getElem?_eq_getElem (by omega)]
    rfl)
  rw [show ms.map Int.toNat = mn from hmn.out.symm] at HOK ⊢
  have HBF : Hid (∀ a, p = some a → ¬ F a.block ∨ n = 0) := hid (fun a ha => by
    by_cases hn0 : 0 < n
    · exact .inl (hF a ha hn0)
    · exact .inr (by omega))
  obtain ⟨F1, hF1⟩ : ∃ f, f = F := ⟨_, rfl⟩
  have HN1 : Hid (∀ q, F1 q → F q ∨ w.heap.size ≤ q) := hid (fun q hq => .inl (hF1 ▸ hq))
  rw [← hF1] at hv
  have c2 := hv.c2
  have HV1 := hid hv
  have HP1 := hid hp
  have HL := hid hl
  clear hv h hrel hp ho hF hmn hl
  go_enter Try.func29, Try.ntmps29
  go_wp2_with fail
  clear c2
  go_loopw [16] (fun i wr => ∃ k : Nat, k ≤ M ∧ i = .int .i64 (k : Int) ∧ PDv B wr g F1 S.n kN cN kF cF (.slice p0 M cW) S.now (crs S.firm (S.ws.take k) mn) S.ws S.down S.steps fl ct ∧ Tb F w wr ∧ (0 < n → Bin wr p ms)) (fun i _ => M - (intOf i).toNat)
  case atStart => exact ⟨0, Nat.zero_le _, rfl, HV1.out, Tb.refl _ _, fun _ => HP1.out⟩
  case round =>
    clear HV1 HP1
    obtain ⟨k, hk, rfl, hv, ht, hp⟩ := hrel
    have HV := hid hv
    have HT := hid ht
    have HP := hid hp
    have c2 := hv.c2
    clear hv ht hp
    by_cases hkM : k < M
    · clear c2
      have kI : (k : Int) < (M : Int) := by omega
      obtain ⟨kW, rfl⟩ := hkW (by omega)
      obtain ⟨⟨a, bs⟩, hq⟩ : ∃ q, S.ws[k]? = some q := ⟨_, List.getElem?_eq_getElem (by omega)⟩
      have hzw := Try.zeroWr
      have hwl := HWL.out (a, bs) hq
      obtain ⟨q0, q1, q2⟩ := wbox2 wr (a, bs) hwl.2.1 83
      have hsz : (wcell (a, bs)).toArray.size = 257 := List.size_toArray.trans (wcell_length (q := (a, bs)) hwl.2.1)
      have Q0 : Hid ((wr.alloc (.cells (wcell (0, Dst.zeros)).toArray 83)).there wr.heap.size 0 (wcell (a, bs)).toArray.size) := hid (by rw [hsz]; exact q0)
      have QS : Hid ((Try.prog.info? 83).map (·.size) = some (wcell (a, bs)).toArray.size) := hid (by rw [hsz]; exact hiw)
      have QA : Hid ((wcell (a, bs)).toArray.all (·.oneCell') = true) := hid (all_oneCell_toArray (wcell_one _))
      have QL : Hid ((Try.prog.info? 83).map (·.size) = some (wcell (a, bs)).length) := hid (by rw [wcell_length (q := (a, bs)) hwl.2.1]; exact hiw)
      have QW : Hid (wr.rangeAt kW (k * 257) (wcell (a, bs))) := hid (wait_at (n := M) (c := cW) HV.out.rW HLN.out hq)
      have hv3 := HV.out.below q2
      have ht3 := HT.out.below q2
      have hgn : ¬ F1 wr.heap.size := fun h => by have := (HV.out.lt _ h).2; omega
      have hrp := range_part q1 hwl.2
      clear HV HT q0 hsz q1
      go_upto_region 6 with (first | (refine wpList_load_mid rfl 83 (.tmp 19) rfl kW (k * 257) rfl (wcell (a, bs)) _ (by exact QW.out) huw rfl (by exact QL.out) ?_) | (refine wpList_store_mid rfl 83 (.tmp 6) (.tmp 20) rfl wr.heap.size 0 (wcell (a, bs)).toArray rfl rfl (by exact Q0.out) (by exact QS.out) (by exact QA.out) ?_))
      clear Q0 QS QA QL QW hzw
      obtain ⟨gb, hgb⟩ : ∃ k, Hid (k = wr.heap.size) := ⟨_, rfl⟩
      rw [← hgb.out] at hv3 ht3 hgn hrp ⊢
      have hp3 : 0 < n → Bin ((wr.alloc (.cells (wcell (0, Dst.zeros)).toArray 83)).setCells gb 0 (wcell (a, bs))) p ms := fun hn => (HP.out hn).below (by have q3 := q2; rw [← hgb.out] at q3 ⊢; exact q3)
      generalize (wr.alloc (.cells (wcell (0, Dst.zeros)).toArray 83)).setCells gb 0 (wcell (a, bs)) = w3 at hv3 ht3 hrp hp3 ⊢
      clear q2 hgb
      clear HP
      by_cases hkn : k < n
      · have hnI : (k : Int) < (n : Int) := by omega
        have hbin := hp3 (by omega)
        clear hp3
        obtain ⟨bm, om, rfl, hbl, hbc⟩ := hbin.at (by have := HL.out; omega)
        obtain ⟨m, hm8, hm1, hm2⟩ := HMM.out k hkn
        have hmc := hbc k (by have := HL.out; omega)
        rw [hm1] at hmc
        clear hbl hbc hm1
        have HBF : Hid (∀ a, some (⟨bm, om, none⟩ : Addr) = some a → ¬ F1 a.block) := hid (fun a ha h => (HBF.out a ha).elim (fun h2 => h2 (hF1 ▸ h)) (fun h2 => by omega))
        go_upto_region 7 with fail
        obtain ⟨X, hX⟩ : ∃ x, Hid (x = crs S.firm (S.ws.take k) mn) := ⟨_, rfl⟩
        rw [← hX.out] at hv3
        obtain ⟨L, hL⟩ : ∃ l, Hid (l = X a) := ⟨_, rfl⟩
        have hdr : Below w3.heap.size w3 w3.drew := (Below.refl _ _).drew
        have hvd := hv3.below hdr
        have haN := hwl.1
        have hbk := hvd.aF.blk haN
        rw [← hL.out] at hbk
        have e1 := hvd.c1
        rw [← hN.out] at e1
        have hS0 : (fun v => ((((v.cell? ⟨g, 1, none⟩ = some (.slice (some ⟨kF, 0, none⟩) N cF)) ∧ v.cell? ⟨gb, 0, none⟩ = some (.int .i64 (a : Nat))) ∧ v.rangeAt kF (a * 256) (vals 256 (flat1 L))) ∧ v.rangeAt gb 1 (vals 256 (flat1 bs))) ∧ v.cell? ⟨bm, om + k, none⟩ = some (.int .u8 (m : Nat))) w3.drew := ⟨⟨⟨⟨e1, hrp.1⟩, hbk⟩, hrp.2⟩, hmc⟩
        obtain ⟨G, hG⟩ : ∃ l, Hid (l = mrg m bs L) := ⟨_, rfl⟩
        have HTO : Hid (∀ (v : World), Calls Try.prog 47 #[.agg (vals 256 (flat1 L)).toArray, .agg (vals 256 (flat1 bs)).toArray, .int .u8 (m : Nat)] v fun e w' => e = .returned (.agg (vals 256 (flat1 G)).toArray) ∧ Below v.heap.size v w') := hid (fun v => by rw [hG.out]; exact torn_of m bs L v hm8)
        have HSB : Hid ((Try.prog.info? 81).map (·.size) = some (vals 256 (flat1 G)).toArray.size) := hid (by rw [List.size_toArray, vals_length]; exact hib)
        have HVD := hid hvd
        have HTD := hid ht3.drew
        have HBM := hid (hbin.below hdr)
        have HAN := hid haN
        have haI : (a : Int) < (N : Int) := by have := hN.out; omega
        clear hv3 ht3 hgn hrp hdr hvd hbk e1 hwl haN hbin hmc
        refine wp_region_z (fun v => ((((v.cell? ⟨g, 1, none⟩ = some (.slice (some ⟨kF, 0, none⟩) N cF)) ∧ v.cell? ⟨gb, 0, none⟩ = some (.int .i64 (a : Nat))) ∧ v.rangeAt kF (a * 256) (vals 256 (flat1 L))) ∧ v.rangeAt gb 1 (vals 256 (flat1 bs))) ∧ v.cell? ⟨bm, om + k, none⟩ = some (.int .u8 (m : Nat))) 22 (by kernel_rfl) hS0 (fun hS => ?_)
        clear hS0
        generalize w3.drew = w5 at hS HVD HTD HBM ⊢
        refine wpAnyZ_take (i := 0) (v := .pointer (some ⟨g, 0, none⟩)) rfl (by kernel_rfl) (by kernel_rfl) (by kernel_rfl) (by kernel_rfl) (fun _ _ _ h => h) hS (Or.inl ⟨by kernel_rfl, fun w hS => (by clear hS; go_simp)⟩) ?_
        simp only [Act.put, List.setIfInBounds_toArray, List.set_cons_zero, List.set_cons_succ, List.getElem_toArray, List.getElem_cons_succ, List.getElem_cons_zero]
        refine wpAnyZ_take (i := 1) (v := .pointer (some ⟨g, 0, none⟩)) rfl (by kernel_rfl) (by kernel_rfl) (by kernel_rfl) (by kernel_rfl) (fun _ _ _ h => h) hS (Or.inl ⟨by kernel_rfl, fun w hS => (by clear hS; go_simp)⟩) ?_
        simp only [Act.put, List.setIfInBounds_toArray, List.set_cons_zero, List.set_cons_succ, List.getElem_toArray, List.getElem_cons_succ, List.getElem_cons_zero]
        refine wpAnyZ_take (i := 2) (v := .pointer (some ⟨g, 1, none⟩)) rfl (by kernel_rfl) (by kernel_rfl) (by kernel_rfl) (by kernel_rfl) (fun _ _ _ h => h) hS (Or.inl ⟨by kernel_rfl, fun w hS => (by clear hS; go_simp)⟩) ?_
        simp only [Act.put, List.setIfInBounds_toArray, List.set_cons_zero, List.set_cons_succ, List.getElem_toArray, List.getElem_cons_succ, List.getElem_cons_zero]
        refine wpAnyZ_take (i := 3) (v := .slice (some ⟨kF, 0, none⟩) N cF) rfl (by kernel_rfl) (by kernel_rfl) (by kernel_rfl) (by kernel_rfl) (fun _ _ _ h => h) hS (Or.inl ⟨by kernel_rfl, fun w hS => (by have hc := hS.1.1.1.1; clear hS; go_simp)⟩) ?_
        simp only [Act.put, List.setIfInBounds_toArray, List.set_cons_zero, List.set_cons_succ, List.getElem_toArray, List.getElem_cons_succ, List.getElem_cons_zero]
        refine wpAnyZ_take (i := 4) (v := .pointer (some ⟨gb, 0, none⟩)) rfl (by kernel_rfl) (by kernel_rfl) (by kernel_rfl) (by kernel_rfl) (fun _ _ _ h => h) hS (Or.inl ⟨by kernel_rfl, fun w hS => (by clear hS; go_simp)⟩) ?_
        simp only [Act.put, List.setIfInBounds_toArray, List.set_cons_zero, List.set_cons_succ, List.getElem_toArray, List.getElem_cons_succ, List.getElem_cons_zero]
        refine wpAnyZ_take (i := 5) (v := .int .i64 (a : Nat)) rfl (by kernel_rfl) (by kernel_rfl) (by kernel_rfl) (by kernel_rfl) (fun _ _ _ h => h) hS (Or.inl ⟨by kernel_rfl, fun w hS => (by have hc := hS.1.1.1.2; clear hS; go_simp)⟩) ?_
        simp only [Act.put, List.setIfInBounds_toArray, List.set_cons_zero, List.set_cons_succ, List.getElem_toArray, List.getElem_cons_succ, List.getElem_cons_zero]
        refine wpAnyZ_take (i := 6) (v := .pointer (some ⟨g, 0, none⟩)) rfl (by kernel_rfl) (by kernel_rfl) (by kernel_rfl) (by kernel_rfl) (fun _ _ _ h => h) hS (Or.inl ⟨by kernel_rfl, fun w hS => (by clear hS; go_simp)⟩) ?_
        simp only [Act.put, List.setIfInBounds_toArray, List.set_cons_zero, List.set_cons_succ, List.getElem_toArray, List.getElem_cons_succ, List.getElem_cons_zero]
        refine wpAnyZ_take (i := 7) (v := .pointer (some ⟨g, 0, none⟩)) rfl (by kernel_rfl) (by kernel_rfl) (by kernel_rfl) (by kernel_rfl) (fun _ _ _ h => h) hS (Or.inl ⟨by kernel_rfl, fun w hS => (by clear hS; go_simp)⟩) ?_
        simp only [Act.put, List.setIfInBounds_toArray, List.set_cons_zero, List.set_cons_succ, List.getElem_toArray, List.getElem_cons_succ, List.getElem_cons_zero]
        refine wpAnyZ_take (i := 8) (v := .pointer (some ⟨g, 1, none⟩)) rfl (by kernel_rfl) (by kernel_rfl) (by kernel_rfl) (by kernel_rfl) (fun _ _ _ h => h) hS (Or.inl ⟨by kernel_rfl, fun w hS => (by clear hS; go_simp)⟩) ?_
        simp only [Act.put, List.setIfInBounds_toArray, List.set_cons_zero, List.set_cons_succ, List.getElem_toArray, List.getElem_cons_succ, List.getElem_cons_zero]
        refine wpAnyZ_take (i := 9) (v := .slice (some ⟨kF, 0, none⟩) N cF) rfl (by kernel_rfl) (by kernel_rfl) (by kernel_rfl) (by kernel_rfl) (fun _ _ _ h => h) hS (Or.inl ⟨by kernel_rfl, fun w hS => (by have hc := hS.1.1.1.1; clear hS; go_simp)⟩) ?_
        simp only [Act.put, List.setIfInBounds_toArray, List.set_cons_zero, List.set_cons_succ, List.getElem_toArray, List.getElem_cons_succ, List.getElem_cons_zero]
        refine wpAnyZ_take (i := 10) (v := .pointer (some ⟨gb, 0, none⟩)) rfl (by kernel_rfl) (by kernel_rfl) (by kernel_rfl) (by kernel_rfl) (fun _ _ _ h => h) hS (Or.inl ⟨by kernel_rfl, fun w hS => (by clear hS; go_simp)⟩) ?_
        simp only [Act.put, List.setIfInBounds_toArray, List.set_cons_zero, List.set_cons_succ, List.getElem_toArray, List.getElem_cons_succ, List.getElem_cons_zero]
        refine wpAnyZ_take (i := 11) (v := .int .i64 (a : Nat)) rfl (by kernel_rfl) (by kernel_rfl) (by kernel_rfl) (by kernel_rfl) (fun _ _ _ h => h) hS (Or.inl ⟨by kernel_rfl, fun w hS => (by have hc := hS.1.1.1.2; clear hS; go_simp)⟩) ?_
        simp only [Act.put, List.setIfInBounds_toArray, List.set_cons_zero, List.set_cons_succ, List.getElem_toArray, List.getElem_cons_succ, List.getElem_cons_zero]
        refine wpAnyZ_take (i := 12) (v := .pointer (some ⟨kF, a * 256, none⟩)) rfl (by kernel_rfl) (by kernel_rfl) (by kernel_rfl) (by kernel_rfl) (fun _ _ _ h => h) hS (Or.inl ⟨by kernel_rfl, fun w hS => (by clear hS; go_simp)⟩) ?_
        simp only [Act.put, List.setIfInBounds_toArray, List.set_cons_zero, List.set_cons_succ, List.getElem_toArray, List.getElem_cons_succ, List.getElem_cons_zero]
        refine wpAnyZ_take (i := 13) rfl (by kernel_rfl) (by kernel_rfl) (by kernel_rfl) (by kernel_rfl) (fun _ _ _ h => h) hS (yieldsIf_load_mid (by kernel_rfl) 81 (.tmp 37) rfl kF (a * 256) (by kernel_rfl) (vals 256 (flat1 L)) _ (fun w hS => hS.1.1.2) hub rfl (by rw [vals_length]; exact hib)) ?_
        simp only [Act.put, List.setIfInBounds_toArray, List.set_cons_zero, List.set_cons_succ, List.getElem_toArray, List.getElem_cons_succ, List.getElem_cons_zero]
        refine wpAnyZ_take (i := 14) (v := .pointer (some ⟨gb, 1, none⟩)) rfl (by kernel_rfl) (by kernel_rfl) (by kernel_rfl) (by kernel_rfl) (fun _ _ _ h => h) hS (Or.inl ⟨by kernel_rfl, fun w hS => (by clear hS; go_simp)⟩) ?_
        simp only [Act.put, List.setIfInBounds_toArray, List.set_cons_zero, List.set_cons_succ, List.getElem_toArray, List.getElem_cons_succ, List.getElem_cons_zero]
        refine wpAnyZ_take (i := 15) rfl (by kernel_rfl) (by kernel_rfl) (by kernel_rfl) (by kernel_rfl) (fun _ _ _ h => h) hS (yieldsIf_load_mid (by kernel_rfl) 81 (.tmp 39) rfl gb (1) (by kernel_rfl) (vals 256 (flat1 bs)) _ (fun w hS => hS.1.2) hub rfl (by rw [vals_length]; exact hib)) ?_
        simp only [Act.put, List.setIfInBounds_toArray, List.set_cons_zero, List.set_cons_succ, List.getElem_toArray, List.getElem_cons_succ, List.getElem_cons_zero]
        refine wpAnyZ_take (i := 16) (v := .slice (some ⟨bm, om, none⟩) n c) rfl (by kernel_rfl) (by kernel_rfl) (by kernel_rfl) (by kernel_rfl) (fun _ _ _ h => h) hS (Or.inl ⟨by kernel_rfl, fun w hS => (by clear hS; go_simp)⟩) ?_
        simp only [Act.put, List.setIfInBounds_toArray, List.set_cons_zero, List.set_cons_succ, List.getElem_toArray, List.getElem_cons_succ, List.getElem_cons_zero]
        refine wpAnyZ_take (i := 17) (v := .int .i64 (k : Nat)) rfl (by kernel_rfl) (by kernel_rfl) (by kernel_rfl) (by kernel_rfl) (fun _ _ _ h => h) hS (Or.inl ⟨by kernel_rfl, fun w hS => (by clear hS; go_simp)⟩) ?_
        simp only [Act.put, List.setIfInBounds_toArray, List.set_cons_zero, List.set_cons_succ, List.getElem_toArray, List.getElem_cons_succ, List.getElem_cons_zero]
        refine wpAnyZ_take (i := 18) (v := .pointer (some ⟨bm, om + k, none⟩)) rfl (by kernel_rfl) (by kernel_rfl) (by kernel_rfl) (by kernel_rfl) (fun _ _ _ h => h) hS (Or.inl ⟨by kernel_rfl, fun w hS => (by clear hS; go_simp)⟩) ?_
        simp only [Act.put, List.setIfInBounds_toArray, List.set_cons_zero, List.set_cons_succ, List.getElem_toArray, List.getElem_cons_succ, List.getElem_cons_zero]
        refine wpAnyZ_take (i := 19) (v := .int .u8 (m : Nat)) rfl (by kernel_rfl) (by kernel_rfl) (by kernel_rfl) (by kernel_rfl) (fun _ _ _ h => h) hS (Or.inl ⟨by kernel_rfl, fun w hS => (by have hc := hS.2; clear hS; go_simp)⟩) ?_
        simp only [Act.put, List.setIfInBounds_toArray, List.set_cons_zero, List.set_cons_succ, List.getElem_toArray, List.getElem_cons_succ, List.getElem_cons_zero]
        refine wpAnyZ_one (i := 20) (by kernel_rfl) rfl (fun K hK => ?_)
        go_simp
        go_at_call 47
        refine (HTO.out w5).mono ?_
        rintro e v8 ⟨rfl, hb8⟩
        have hv8 := HVD.out.below hb8
        have ht8 := HTD.out.below hb8
        have hn8 := HBM.out.below hb8
        replace hS : (fun v => ((((v.cell? ⟨g, 1, none⟩ = some (.slice (some ⟨kF, 0, none⟩) N cF)) ∧ v.cell? ⟨gb, 0, none⟩ = some (.int .i64 (a : Nat))) ∧ v.rangeAt kF (a * 256) (vals 256 (flat1 L))) ∧ v.rangeAt gb 1 (vals 256 (flat1 bs))) ∧ v.cell? ⟨bm, om + k, none⟩ = some (.int .u8 (m : Nat))) v8 := ⟨⟨⟨⟨(by have := hv8.c1; rw [← hN.out] at this; exact this), (hb8.cell (p := ⟨gb, 0, none⟩) (World.block_lt_of_cell? _ _ hS.1.1.1.2)).trans hS.1.1.1.2⟩, range_below' hS.1.1.2 hb8⟩, range_below' hS.1.2 hb8⟩, (hb8.cell (p := ⟨bm, om + k, none⟩) (World.block_lt_of_cell? _ _ hS.2)).trans hS.2⟩
        have HTN : Hid (v8.there kF (a * 256) (vals 256 (flat1 G)).toArray.size) := hid (by rw [List.size_toArray, vals_length]; exact hv8.aF.thereAt (by have := HAN.out; omega))
        have HV4 := hid (hv8.putF HAN.out G)
        have HT4 := hid (ht8.setCells (b := kF) (HN1.out kF hv8.fF.1) (a * 256) (vals 256 (flat1 G)))
        have HB4 := hid (hn8.tb (w' := v8.setCells kF (a * 256) (vals 256 (flat1 G))) (F := fun q => q = kF) (Tb.setCells (F := fun q => q = kF) (b := kF) (Tb.refl _ v8) (.inl rfl) _ _) (fun a' ha e => HBF.out a' ha (e ▸ hv8.fF.1)))
        clear hb8 hv8 ht8 hn8 HVD HTD HBM HTO
        go_wp2_with fail
        refine hK.out _ _ (fun _ => hS) ?_
        clear hK K
        try simp only [Act.put, List.setIfInBounds_toArray, List.set_cons_zero, List.set_cons_succ, List.getElem_toArray, List.getElem_cons_succ, List.getElem_cons_zero]
        refine wpAnyZ_take (i := 21) (v := .pointer (some ⟨kF, a * 256, none⟩)) rfl (by kernel_rfl) (by kernel_rfl) (by kernel_rfl) (by kernel_rfl) (fun _ _ _ h => h) hS (Or.inl ⟨by kernel_rfl, fun w hS => (by clear hS; go_simp)⟩) ?_
        simp only [Act.put, List.setIfInBounds_toArray, List.set_cons_zero, List.set_cons_succ, List.getElem_toArray, List.getElem_cons_succ, List.getElem_cons_zero]
        refine wpAnyZ_one (i := 22) (by kernel_rfl) rfl (fun K hK => ?_)
        rw [if_pos (by kernel_rfl)]
        refine wp_store_mid 81 _ _ rfl kF (a * 256) (vals 256 (flat1 G)).toArray (by kernel_rfl) (by kernel_rfl) HTN.out HSB.out (all_oneCell_toArray (vals_one _ _)) ?_
        try simp only [List.toList_toArray]
        try simp only [Act.put, List.setIfInBounds_toArray, List.set_cons_zero, List.set_cons_succ, List.getElem_toArray, List.getElem_cons_succ, List.getElem_cons_zero]
        refine hK.out _ _ (fun h => absurd h (by decide)) ?_
        clear hK K
        refine wpAnyZ_done (by kernel_rfl) ?_ _
        clear hS HTN HSB
        generalize v8.setCells kF (a * 256) (vals 256 (flat1 G)) = w4 at HV4 HT4 HB4 ⊢
        have hq2 : crs S.firm (S.ws.take (k + 1)) mn = putB X a G := by
          rw [crs_succ S.firm hq (by omega), hm2, ← hX.out, ← hL.out, ← hG.out]
        rw [← hq2] at HV4
        clear hq2 hq hL hX hG HBF
        go_wp2_with fail
        go_roundw
        case rel => exact ⟨k + 1, by omega, by go_num, HV4.out, HT4.out, fun _ => HB4.out⟩
        case measure => simp [intOf]; omega
      · have hnI : ¬ (k : Int) < (n : Int) := by omega
        have hq2 : crs S.firm (S.ws.take (k + 1)) mn = crs S.firm (S.ws.take k) mn := by rw [crs_short S.firm S.ws (by omega), crs_short S.firm S.ws (by omega)]
        rw [← hq2] at hv3
        have HV3 := hid hv3
        have HT3 := hid ht3
        have HP3 := hid hp3
        clear hq2 hq hv3 ht3 hp3 hgn hrp hwl
        go_wp2_with fail
        go_roundw
        case rel => exact ⟨k + 1, by omega, by go_num, HV3.out, HT3.out, HP3.out⟩
        case measure => simp [intOf]; omega
    · obtain rfl : k = M := by omega
      have kI : ¬ (k : Int) < (k : Int) := by omega
      obtain ⟨X, hX⟩ : ∃ x, Hid (x = crs S.firm S.ws mn) := ⟨_, rfl⟩
      have hv2 := HV.out
      rw [show S.ws.take k = S.ws from by rw [hML]; exact List.take_length, ← hX.out] at hv2
      have HV2 := hid hv2
      have HT2 := hid HT.out
      clear HV HT HP hv2
      go_wp2_with fail
      clear c2
      go_loopw [53] (fun i wr => ∃ j : Nat, j ≤ k ∧ i = .int .i64 (j : Int) ∧ PDv B wr g F1 S.n kN cN kF cF (.slice p0 k cW) (puts X (S.ws.take j) S.now) X S.ws S.down S.steps fl ct ∧ Tb F w wr) (fun i _ => k - (intOf i).toNat)
      case atStart => exact ⟨0, Nat.zero_le _, rfl, HV2.out, HT2.out⟩
      case round =>
        clear HV2 HT2 kI
        obtain ⟨j, hj, rfl, hv, ht⟩ := hrel
        have HV := hid hv
        have HT := hid ht
        have c2 := hv.c2
        clear hv ht
        by_cases hjk : j < k
        · clear c2
          have kI : (j : Int) < (k : Int) := by omega
          obtain ⟨kW, rfl⟩ := hkW (by omega)
          obtain ⟨⟨a, bs⟩, hq⟩ : ∃ q, S.ws[j]? = some q := ⟨_, List.getElem?_eq_getElem (by omega)⟩
          have hzw := Try.zeroWr
          have hwl := HWL.out (a, bs) hq
          obtain ⟨q0, q1, q2⟩ := wbox2 wr (a, bs) hwl.2.1 83
          have hsz : (wcell (a, bs)).toArray.size = 257 := List.size_toArray.trans (wcell_length (q := (a, bs)) hwl.2.1)
          have Q0 : Hid ((wr.alloc (.cells (wcell (0, Dst.zeros)).toArray 83)).there wr.heap.size 0 (wcell (a, bs)).toArray.size) := hid (by rw [hsz]; exact q0)
          have QS : Hid ((Try.prog.info? 83).map (·.size) = some (wcell (a, bs)).toArray.size) := hid (by rw [hsz]; exact hiw)
          have QA : Hid ((wcell (a, bs)).toArray.all (·.oneCell') = true) := hid (all_oneCell_toArray (wcell_one _))
          have QL : Hid ((Try.prog.info? 83).map (·.size) = some (wcell (a, bs)).length) := hid (by rw [wcell_length (q := (a, bs)) hwl.2.1]; exact hiw)
          have QW : Hid (wr.rangeAt kW (j * 257) (wcell (a, bs))) := hid (wait_at (n := k) (c := cW) HV.out.rW HLN.out hq)
          have hv3 := HV.out.below q2
          have ht3 := HT.out.below q2
          have hgn : ¬ F1 wr.heap.size := fun h => by have := (HV.out.lt _ h).2; omega
          have hrp := range_part q1 hwl.2
          clear HV HT q0 hsz q1
          go_upto_region 12 with (first | (refine wpList_load_mid rfl 83 (.tmp 55) rfl kW (j * 257) rfl (wcell (a, bs)) _ (by exact QW.out) huw rfl (by exact QL.out) ?_) | (refine wpList_store_mid rfl 83 (.tmp 8) (.tmp 56) rfl wr.heap.size 0 (wcell (a, bs)).toArray rfl rfl (by exact Q0.out) (by exact QS.out) (by exact QA.out) ?_))
          clear Q0 QS QA QL QW hzw
          obtain ⟨gb, hgb⟩ : ∃ k, Hid (k = wr.heap.size) := ⟨_, rfl⟩
          rw [← hgb.out] at hv3 ht3 hgn hrp ⊢
          generalize (wr.alloc (.cells (wcell (0, Dst.zeros)).toArray 83)).setCells gb 0 (wcell (a, bs)) = w3 at hv3 ht3 hrp ⊢
          clear q2 hgb
          obtain ⟨L, hL⟩ : ∃ l, Hid (l = X a) := ⟨_, rfl⟩
          have hdr : Below w3.heap.size w3 w3.drew := (Below.refl _ _).drew
          have hvd := hv3.below hdr
          have haN := hwl.1
          have hbk := hvd.aF.blk haN
          rw [← hL.out] at hbk
          have e0 := hvd.c1
          have e1 := hvd.c0
          rw [← hN.out] at e0 e1
          have hS0 : (fun v => ((v.cell? ⟨g, 1, none⟩ = some (.slice (some ⟨kF, 0, none⟩) N cF) ∧ v.cell? ⟨g, 0, none⟩ = some (.slice (some ⟨kN, 0, none⟩) N cN)) ∧ v.cell? ⟨gb, 0, none⟩ = some (.int .i64 (a : Nat))) ∧ v.rangeAt kF (a * 256) (vals 256 (flat1 L))) w3.drew := ⟨⟨⟨e0, e1⟩, hrp.1⟩, hbk⟩
          have HTN : Hid (w3.drew.there kN (a * 256) (vals 256 (flat1 L)).toArray.size) := hid (by rw [List.size_toArray, vals_length]; exact hvd.aN.thereAt (by omega))
          have HSB : Hid ((Try.prog.info? 81).map (·.size) = some (vals 256 (flat1 L)).toArray.size) := hid (by rw [List.size_toArray, vals_length]; exact hib)
          have hv4 := hvd.putN haN L
          have f0 := hv4.c1
          have f1 := hv4.c0
          have hb4 := hv4.aF.blk haN
          rw [← hN.out] at f0 f1
          rw [← hL.out] at hb4
          have hkg : ¬ kN = gb := fun e => hgn (e ▸ hv4.fN.1)
          have f2 : (w3.drew.setCells kN (a * 256) (vals 256 (flat1 L))).cell? ⟨gb, 0, none⟩ = some (.int .i64 (a : Nat)) := (World.cell?_setCells_out _ _ _ _ _ (fun e _ => absurd e.symm hkg)).trans hrp.1
          have HS4 : Hid ((fun v => ((v.cell? ⟨g, 1, none⟩ = some (.slice (some ⟨kF, 0, none⟩) N cF) ∧ v.cell? ⟨g, 0, none⟩ = some (.slice (some ⟨kN, 0, none⟩) N cN)) ∧ v.cell? ⟨gb, 0, none⟩ = some (.int .i64 (a : Nat))) ∧ v.rangeAt kF (a * 256) (vals 256 (flat1 L))) (w3.drew.setCells kN (a * 256) (vals 256 (flat1 L)))) := hid ⟨⟨⟨f0, f1⟩, f2⟩, hb4⟩
          have HT4 := hid ((ht3.drew).setCells (b := kN) (HN1.out kN hv4.fN.1) (a * 256) (vals 256 (flat1 L)))
          have HV4 := hid hv4
          have haI : (a : Int) < (N : Int) := by have := hN.out; omega
          clear hv3 ht3 hgn hrp hdr hvd hbk e0 e1 hv4 f0 f1 hb4 hkg f2 hwl haN
          refine wp_region_z (fun v => ((v.cell? ⟨g, 1, none⟩ = some (.slice (some ⟨kF, 0, none⟩) N cF) ∧ v.cell? ⟨g, 0, none⟩ = some (.slice (some ⟨kN, 0, none⟩) N cN)) ∧ v.cell? ⟨gb, 0, none⟩ = some (.int .i64 (a : Nat))) ∧ v.rangeAt kF (a * 256) (vals 256 (flat1 L))) 16 (by kernel_rfl) hS0 (fun hS => ?_)
          clear hS0
          refine wpAnyZ_take (i := 0) (v := .pointer (some ⟨g, 0, none⟩)) rfl (by kernel_rfl) (by kernel_rfl) (by kernel_rfl) (by kernel_rfl) (fun _ _ _ h => h) hS (Or.inl ⟨by kernel_rfl, fun w hS => (by clear hS; go_simp)⟩) ?_
          simp only [Act.put, List.setIfInBounds_toArray, List.set_cons_zero, List.set_cons_succ, List.getElem_toArray, List.getElem_cons_succ, List.getElem_cons_zero]
          refine wpAnyZ_take (i := 1) (v := .pointer (some ⟨g, 0, none⟩)) rfl (by kernel_rfl) (by kernel_rfl) (by kernel_rfl) (by kernel_rfl) (fun _ _ _ h => h) hS (Or.inl ⟨by kernel_rfl, fun w hS => (by clear hS; go_simp)⟩) ?_
          simp only [Act.put, List.setIfInBounds_toArray, List.set_cons_zero, List.set_cons_succ, List.getElem_toArray, List.getElem_cons_succ, List.getElem_cons_zero]
          refine wpAnyZ_take (i := 2) (v := .pointer (some ⟨g, 0, none⟩)) rfl (by kernel_rfl) (by kernel_rfl) (by kernel_rfl) (by kernel_rfl) (fun _ _ _ h => h) hS (Or.inl ⟨by kernel_rfl, fun w hS => (by clear hS; go_simp)⟩) ?_
          simp only [Act.put, List.setIfInBounds_toArray, List.set_cons_zero, List.set_cons_succ, List.getElem_toArray, List.getElem_cons_succ, List.getElem_cons_zero]
          refine wpAnyZ_take (i := 3) (v := .slice (some ⟨kN, 0, none⟩) N cN) rfl (by kernel_rfl) (by kernel_rfl) (by kernel_rfl) (by kernel_rfl) (fun _ _ _ h => h) hS (Or.inl ⟨by kernel_rfl, fun w hS => (by have hc := hS.1.1.2; clear hS; go_simp)⟩) ?_
          simp only [Act.put, List.setIfInBounds_toArray, List.set_cons_zero, List.set_cons_succ, List.getElem_toArray, List.getElem_cons_succ, List.getElem_cons_zero]
          refine wpAnyZ_take (i := 4) (v := .pointer (some ⟨gb, 0, none⟩)) rfl (by kernel_rfl) (by kernel_rfl) (by kernel_rfl) (by kernel_rfl) (fun _ _ _ h => h) hS (Or.inl ⟨by kernel_rfl, fun w hS => (by clear hS; go_simp)⟩) ?_
          simp only [Act.put, List.setIfInBounds_toArray, List.set_cons_zero, List.set_cons_succ, List.getElem_toArray, List.getElem_cons_succ, List.getElem_cons_zero]
          refine wpAnyZ_take (i := 5) (v := .int .i64 (a : Nat)) rfl (by kernel_rfl) (by kernel_rfl) (by kernel_rfl) (by kernel_rfl) (fun _ _ _ h => h) hS (Or.inl ⟨by kernel_rfl, fun w hS => (by have hc := hS.1.2; clear hS; go_simp)⟩) ?_
          simp only [Act.put, List.setIfInBounds_toArray, List.set_cons_zero, List.set_cons_succ, List.getElem_toArray, List.getElem_cons_succ, List.getElem_cons_zero]
          refine wpAnyZ_take (i := 6) (v := .pointer (some ⟨g, 0, none⟩)) rfl (by kernel_rfl) (by kernel_rfl) (by kernel_rfl) (by kernel_rfl) (fun _ _ _ h => h) hS (Or.inl ⟨by kernel_rfl, fun w hS => (by clear hS; go_simp)⟩) ?_
          simp only [Act.put, List.setIfInBounds_toArray, List.set_cons_zero, List.set_cons_succ, List.getElem_toArray, List.getElem_cons_succ, List.getElem_cons_zero]
          refine wpAnyZ_take (i := 7) (v := .pointer (some ⟨g, 0, none⟩)) rfl (by kernel_rfl) (by kernel_rfl) (by kernel_rfl) (by kernel_rfl) (fun _ _ _ h => h) hS (Or.inl ⟨by kernel_rfl, fun w hS => (by clear hS; go_simp)⟩) ?_
          simp only [Act.put, List.setIfInBounds_toArray, List.set_cons_zero, List.set_cons_succ, List.getElem_toArray, List.getElem_cons_succ, List.getElem_cons_zero]
          refine wpAnyZ_take (i := 8) (v := .pointer (some ⟨g, 1, none⟩)) rfl (by kernel_rfl) (by kernel_rfl) (by kernel_rfl) (by kernel_rfl) (fun _ _ _ h => h) hS (Or.inl ⟨by kernel_rfl, fun w hS => (by clear hS; go_simp)⟩) ?_
          simp only [Act.put, List.setIfInBounds_toArray, List.set_cons_zero, List.set_cons_succ, List.getElem_toArray, List.getElem_cons_succ, List.getElem_cons_zero]
          refine wpAnyZ_take (i := 9) (v := .slice (some ⟨kF, 0, none⟩) N cF) rfl (by kernel_rfl) (by kernel_rfl) (by kernel_rfl) (by kernel_rfl) (fun _ _ _ h => h) hS (Or.inl ⟨by kernel_rfl, fun w hS => (by have hc := hS.1.1.1; clear hS; go_simp)⟩) ?_
          simp only [Act.put, List.setIfInBounds_toArray, List.set_cons_zero, List.set_cons_succ, List.getElem_toArray, List.getElem_cons_succ, List.getElem_cons_zero]
          refine wpAnyZ_take (i := 10) (v := .pointer (some ⟨gb, 0, none⟩)) rfl (by kernel_rfl) (by kernel_rfl) (by kernel_rfl) (by kernel_rfl) (fun _ _ _ h => h) hS (Or.inl ⟨by kernel_rfl, fun w hS => (by clear hS; go_simp)⟩) ?_
          simp only [Act.put, List.setIfInBounds_toArray, List.set_cons_zero, List.set_cons_succ, List.getElem_toArray, List.getElem_cons_succ, List.getElem_cons_zero]
          refine wpAnyZ_take (i := 11) (v := .int .i64 (a : Nat)) rfl (by kernel_rfl) (by kernel_rfl) (by kernel_rfl) (by kernel_rfl) (fun _ _ _ h => h) hS (Or.inl ⟨by kernel_rfl, fun w hS => (by have hc := hS.1.2; clear hS; go_simp)⟩) ?_
          simp only [Act.put, List.setIfInBounds_toArray, List.set_cons_zero, List.set_cons_succ, List.getElem_toArray, List.getElem_cons_succ, List.getElem_cons_zero]
          refine wpAnyZ_take (i := 12) (v := .pointer (some ⟨kF, a * 256, none⟩)) rfl (by kernel_rfl) (by kernel_rfl) (by kernel_rfl) (by kernel_rfl) (fun _ _ _ h => h) hS (Or.inl ⟨by kernel_rfl, fun w hS => (by clear hS; go_simp)⟩) ?_
          simp only [Act.put, List.setIfInBounds_toArray, List.set_cons_zero, List.set_cons_succ, List.getElem_toArray, List.getElem_cons_succ, List.getElem_cons_zero]
          refine wpAnyZ_take (i := 13) rfl (by kernel_rfl) (by kernel_rfl) (by kernel_rfl) (by kernel_rfl) (fun _ _ _ h => h) hS (yieldsIf_load_mid (by kernel_rfl) 81 (.tmp 69) rfl kF (a * 256) (by kernel_rfl) (vals 256 (flat1 L)) _ (fun w hS => hS.2) hub rfl (by rw [vals_length]; exact hib)) ?_
          simp only [Act.put, List.setIfInBounds_toArray, List.set_cons_zero, List.set_cons_succ, List.getElem_toArray, List.getElem_cons_succ, List.getElem_cons_zero]
          refine wpAnyZ_take (i := 14) (v := .pointer (some ⟨kN, a * 256, none⟩)) rfl (by kernel_rfl) (by kernel_rfl) (by kernel_rfl) (by kernel_rfl) (fun _ _ _ h => h) hS (Or.inl ⟨by kernel_rfl, fun w hS => (by clear hS; go_simp)⟩) ?_
          simp only [Act.put, List.setIfInBounds_toArray, List.set_cons_zero, List.set_cons_succ, List.getElem_toArray, List.getElem_cons_succ, List.getElem_cons_zero]
          refine wpAnyZ_one (i := 15) (by kernel_rfl) rfl (fun K hK => ?_)
          rw [if_pos (by kernel_rfl)]
          refine wp_store_mid 81 _ _ rfl kN (a * 256) (vals 256 (flat1 L)).toArray (by kernel_rfl) (by kernel_rfl) HTN.out HSB.out (all_oneCell_toArray (vals_one _ _)) ?_
          try simp only [List.toList_toArray]
          try simp only [Act.put, List.setIfInBounds_toArray, List.set_cons_zero, List.set_cons_succ, List.getElem_toArray, List.getElem_cons_succ, List.getElem_cons_zero]
          refine hK.out _ _ (fun _ => HS4.out) ?_
          clear hK K
          refine wpAnyZ_done (by kernel_rfl) ?_ _
          clear hS HS4 HTN HSB
          generalize w3.drew.setCells kN (a * 256) (vals 256 (flat1 L)) = w4 at HV4 HT4 ⊢
          have hq2 : puts X (S.ws.take (j + 1)) S.now = putB (puts X (S.ws.take j) S.now) a L := by
            rw [List.take_add_one, hq, Option.toList_some, puts_snoc, hL.out]
          rw [← hq2] at HV4
          clear hq2 hq hL
          go_wp2_with fail
          go_roundw
          case rel => exact ⟨j + 1, by omega, by go_num, HV4.out, HT4.out⟩
          case measure => simp [intOf]; omega
        · obtain rfl : j = k := by omega
          have kI : ¬ (j : Int) < (j : Int) := by omega
          have hf : ∀ i, i < S.n → puts X (S.ws.take j) S.now i = X i := fun i hi => by
            rw [show S.ws.take j = S.ws from by rw [hML]; exact List.take_length]
            exact puts_same _ _ _ i fun h => by rw [HK1.out.calm i hi h, hX.out, crs_other _ _ _ _ h]
          have h5 := (HV.out.same hf (fun _ _ => rfl)).calm
          have h6 := h5.num 3 (by decide) (by decide) (.bool false) false S.steps fl ct rfl rfl rfl rfl
          have h7 := h6.num 5 (by decide) (by decide) (.int .u64 ((0 : Nat) : Int)) false S.steps 0 ct rfl rfl rfl rfl
          have HV5 := hid (h7.num 6 (by decide) (by decide) (.int .u64 ((0 : Nat) : Int)) false S.steps 0 0 rfl rfl rfl rfl)
          have HT5 := hid ((((HT.out.setCell (b := g) (HN1.out g HV.out.fg) 2 (.slice none 0 0)).setCell (b := g) (HN1.out g HV.out.fg) 3 (.bool false)).setCell (b := g) (HN1.out g HV.out.fg) 5 (.int .u64 ((0 : Nat) : Int))).setCell (b := g) (HN1.out g HV.out.fg) 6 (.int .u64 ((0 : Nat) : Int)))
          have z2 := HV.out.z 2 (by decide)
          have z3 := HV.out.z 3 (by decide)
          have z5 := HV.out.z 5 (by decide)
          have z6 := HV.out.z 6 (by decide)
          have c3 := HV.out.c3
          have c5 := HV.out.c5
          have c6 := HV.out.c6
          rw [hX.out] at HV5
          clear HV HT hf h5 h6 h7
          go_wp2_with fail
          go_ret
          exact ⟨rfl, F1, ⟨HV5.out.lt, HV5.out.fg, HOK.out, HK1.out.hs, Nat.zero_le _, fun _ _ _ => rfl, kN, cN, kF, cF, _, 0, 0, HV5.out, (Nat.zero_sub _).symm, .inl ⟨by show (-1 : Int) < 0; decide, rfl⟩⟩, HT5.out, HN1.out⟩
end
end Go.Proofs.Ytlbhoijjbpjmoaa
