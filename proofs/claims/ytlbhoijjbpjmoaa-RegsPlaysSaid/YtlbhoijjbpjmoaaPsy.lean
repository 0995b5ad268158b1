/-
  The program's device: Sync.
-/
import Derived.Test.YtlbhoijjbpjmoaaPdw
namespace Go.Proofs.Ytlbhoijjbpjmoaa
open Go.RowKit
set_option linter.unusedVariables false
set_option linter.unusedSimpArgs false

theorem flat_same {s t : Nat → List Int} {n : Nat} (h : ∀ j, j < n → s j = t j) : ∀ q, q < n * 256 → flat s q = flat t q := fun q hq => by
  unfold flat
  rw [h (q / 256) (by omega)]
theorem PDv.same {B g n kN cN kF cF st fl ct : Nat} {w : World} {F : Nat → Prop} {vW : Value} {now firm now' firm' : Nat → List Int} {ws : List (Nat × List Int)} {down : Bool} (h : PDv B w g F n kN cN kF cF vW now firm ws down st fl ct)
    (h1 : ∀ j, j < n → now j = now' j) (h2 : ∀ j, j < n → firm j = firm' j) : PDv B w g F n kN cN kF cF vW now' firm' ws down st fl ct :=
  ⟨h.c0, h.c1, h.c2, h.c3, h.c4, h.c5, h.c6, h.z, h.aN.same (flat_same h1), h.aF.same (flat_same h2), h.rW, h.nN, h.nF, h.fg, h.fN, h.fF, h.fW, h.lt⟩
/-- A waiting write, copied into a variable. -/
theorem wbox2 (w : World) (q : Nat × List Int) (hq : q.2.length = 256) (t : TypeId) : (w.alloc (.cells (wcell (0, Dst.zeros)).toArray t)).there w.heap.size 0 257 ∧
    ((w.alloc (.cells (wcell (0, Dst.zeros)).toArray t)).setCells w.heap.size 0 (wcell q)).rangeAt w.heap.size 0 (wcell q) ∧ Below w.heap.size w ((w.alloc (.cells (wcell (0, Dst.zeros)).toArray t)).setCells w.heap.size 0 (wcell q)) := by
  have h0 : (w.alloc (.cells (wcell (0, Dst.zeros)).toArray t)).there w.heap.size 0 257 := fun j hj => by
    rw [Nat.zero_add]
    constructor
    · have : j < (wcell (0, Dst.zeros)).length := by rw [wcell_length (q := (0, Dst.zeros)) Dst.zeros_len]; exact hj
      simp [this]
    · simp
  exact ⟨h0, World.rangeAt_setCells_same _ _ _ _ (by rw [wcell_length hq]; exact h0), below_setCells _ _ ((Below.refl _ _).alloc (Nat.le_refl _) _) (Nat.le_refl _)⟩
/-- The k-th write that waits, as it lies. -/
theorem wait_at {B n k kW c : Nat} {w : World} {ws : List (Nat × List Int)} {q : Nat × List Int} (h : w.ownsRow B 83 257 (.slice (some ⟨kW, 0, none⟩) n c) ws.length (wcells ws)) (hl : ∀ q ∈ ws, q.2.length = 256) (hq : ws[k]? = some q) : w.rangeAt kW (k * 257) (wcell q) := fun j v hv => by
  obtain ⟨hk, e⟩ := List.getElem?_eq_some_iff.1 hq
  have hj : j < 257 := by
    have := (List.getElem?_eq_some_iff.1 hv).1
    rwa [wcell_length (hl q (e ▸ List.getElem_mem hk))] at this
  have h2 := wcells_at ws hl k hk j hj
  rw [e, hv] at h2
  have h3 := World.ownsRow.cells h (g := kW) rfl _ _ h2
  rwa [Addr.add_mid, Nat.zero_add] at h3
theorem range_part {w : World} {b : Nat} {q : Nat × List Int} (h : w.rangeAt b 0 (wcell q)) (hq : q.2.length = 256 ∧ Oct q.2) : w.cell? ⟨b, 0, none⟩ = some (.int .i64 (q.1 : Nat)) ∧ w.rangeAt b 1 (vals 256 (flat1 q.2)) := by
  refine ⟨h 0 _ (by rw [wcell, List.getElem?_cons_zero]), fun j v hv => ?_⟩
  rw [flat1_vals hq] at hv
  have := h (j + 1) v (by rw [wcell, List.getElem?_cons_succ]; exact hv)
  rwa [show 0 + (j + 1) = 1 + j from by omega] at this

section
variable {B g : Nat} {F : Nat → Prop} {S : Dst} {w : World}
set_option maxHeartbeats 16000000 in
set_option maxRecDepth 100000 in
theorem dSync_at (h : PDk B w g F S) (hs : S.steps < 9223372036854775807) :
    Calls Try.prog 39 #[.pointer (some ⟨g, 0, none⟩)] w fun e w' => e = .returned (.int .i64 S.err) ∧ Dstep B w g F S.sync w' := by
  have hst := dStep_at h hs
  by_cases he : S.err ≠ 0
  · rw [show S.sync = S.step from if_pos he]
    obtain ⟨er, her⟩ : ∃ e, Hid (e = S.err) := ⟨_, rfl⟩
    rw [← her.out] at he hst ⊢
    clear h
    go_enter Try.func39, Try.ntmps39
    go_wp2_with fail
    refine hst.mono ?_
    rintro e w1 ⟨rfl, hr⟩
    have HR := hid hr
    clear hst hr
    go_wp2
    go_ret
    exact ⟨rfl, HR.out⟩
  · have he0 : S.err = 0 := by simpa using he
    have hok := Dst.ok_sync h.ok
    have hsy : S.sync = S.step.calm := if_neg he
    rw [hsy] at hok ⊢
    rw [he0] at hst ⊢
    have HOK := hid hok
    have HOS := hid (Dst.ok_step h.ok)
    clear he he0 hok hsy h
    obtain ⟨T, hT⟩ : ∃ T, Hid (T = S.step) := ⟨_, rfl⟩
    rw [← hT.out] at hst HOK HOS ⊢
    go_enter Try.func39, Try.ntmps39
    go_wp2_with fail
    refine hst.mono ?_
    rintro e w1 ⟨rfl, F1, hr1, ht1, hn1⟩
    have HK1 := hid hr1
    obtain ⟨kN, cN, kF, cF, vW, fl, ct, hv, hrel⟩ := hr1.at'
    have HREL := hid hrel
    have hn8 := HOS.out.n8
    have hlw : ∀ q ∈ T.ws, q.2.length = 256 := fun q hq => (HOS.out.ws q hq).2.1
    have HLN := hid hlw
    have HWL : Hid (∀ q : Nat × List Int, ∀ {k : Nat}, T.ws[k]? = some q → q.1 < T.n ∧ q.2.length = 256 ∧ Oct q.2) := hid (fun q k h => HOS.out.ws q (List.mem_of_getElem? h))
    clear hlw
    obtain ⟨N, hN⟩ : ∃ n, Hid (n = T.n) := ⟨_, rfl⟩
    obtain ⟨M, hM⟩ : ∃ n, Hid (n = T.ws.length) := ⟨_, rfl⟩
    have hML := hM.out
    have hM4 : M ≤ 4294967296 := by rw [hM.out]; exact HK1.out.hw
    obtain ⟨p0, cW, hvW, hkW⟩ : ∃ p c, vW = .slice p M c ∧ (0 < M → ∃ kW, p = some ⟨kW, 0, none⟩) := by
      rcases hv.rW.2 with ⟨h1, h2⟩ | ⟨k, c, _, h1, _⟩
      · rw [hM.out, h2]; exact ⟨_, _, h1, fun h => absurd h (Nat.lt_irrefl _)⟩
      · rw [hM.out]; exact ⟨_, _, h1, fun _ => ⟨k, rfl⟩⟩
    subst hvW
    have hub := Try.underlying81
    have hib := Try.sizeBlk
    have huw := Try.underlying83
    have hiw := Try.sizeWr
    have c2 := hv.c2
    have HV1 := hid hv
    have HT1 := hid ht1
    have HN1 := hid hn1
    clear hst hv hr1 ht1 hn1 hrel
    go_wp2_with fail
    clear c2
    go_loopw [16] (fun i wr => ∃ k : Nat, k ≤ M ∧ i = .int .i64 (k : Int) ∧ PDv B wr g F1 T.n kN cN kF cF (.slice p0 M cW) T.now (puts T.now (T.ws.take k) T.firm) T.ws T.down T.steps fl ct ∧ Tb F w wr) (fun i _ => M - (intOf i).toNat)
    case atStart => exact ⟨0, Nat.zero_le _, rfl, HV1.out, HT1.out⟩
    case round =>
      clear HV1 HT1
      obtain ⟨k, hk, rfl, hv, ht⟩ := hrel
      have HV := hid hv
      have HT := hid ht
      have c2 := hv.c2
      clear hv ht
      by_cases hkM : k < M
      · clear c2
        have kI : (k : Int) < (M : Int) := by omega
        obtain ⟨kW, rfl⟩ := hkW (by omega)
        obtain ⟨⟨a, bs⟩, hq⟩ : ∃ q, T.ws[k]? = some q := ⟨_, List.getElem?_eq_getElem (by omega)⟩
        have hzw := Try.zeroWr
        have hwl := HWL.out (a, bs) hq
        obtain ⟨q0, q1, q2⟩ := wbox2 wr (a, bs) hwl.2.1 83
        have hsz : (wcell (a, bs)).toArray.size = 257 := List.size_toArray.trans (wcell_length (q := (a, bs)) hwl.2.1)
        have Q0 : Hid ((wr.alloc (.cells (wcell (0, Dst.zeros)).toArray 83)).there wr.heap.size 0 (wcell (a, bs)).toArray.size) := hid (by rw [hsz]; exact q0)
        have QS : Hid ((Try.prog.info? 83).map (·.size) = some (wcell (a, bs)).toArray.size) := hid (by rw [hsz]; exact hiw)
        have QA : Hid ((wcell (a, bs)).toArray.all (·.oneCell') = true) := hid (all_oneCell_toArray (wcell_one _))
        have QL : Hid ((Try.prog.info? 83).map (·.size) = some (wcell (a, bs)).length) := hid (by rw [wcell_length (q := (a, bs)) hwl.2.1]; exact hiw)
        have QW : Hid (wr.rangeAt kW (k * 257) (wcell (a, bs))) := hid (wait_at (n := M) (c := cW) HV.out.rW HLN.out hq)
        have hv3 := HV.out.below q2
        have ht3 := HT.out.below q2
        have hgn : ¬ F1 wr.heap.size := fun h => by have := (HV.out.lt _ h).2; omega
        have hrp := range_part q1 hwl.2
        clear HV HT q0 hsz q1
        go_upto_region 7 with (first | (refine wpList_load_mid rfl 83 (.tmp 18) rfl kW (k * 257) rfl (wcell (a, bs)) _ (by exact QW.out) huw rfl (by exact QL.out) ?_) | (refine wpList_store_mid rfl 83 (.tmp 5) (.tmp 19) rfl wr.heap.size 0 (wcell (a, bs)).toArray rfl rfl (by exact Q0.out) (by exact QS.out) (by exact QA.out) ?_))
        clear Q0 QS QA QL QW hzw
        obtain ⟨gb, hgb⟩ : ∃ k, Hid (k = wr.heap.size) := ⟨_, rfl⟩
        rw [← hgb.out] at hv3 ht3 hgn hrp ⊢
        generalize (wr.alloc (.cells (wcell (0, Dst.zeros)).toArray 83)).setCells gb 0 (wcell (a, bs)) = w3 at hv3 ht3 hrp ⊢
        clear q2 hgb
        obtain ⟨L, hL⟩ : ∃ l, Hid (l = T.now a) := ⟨_, rfl⟩
        have hdr : Below w3.heap.size w3 w3.drew := (Below.refl _ _).drew
        have hvd := hv3.below hdr
        have haN := hwl.1
        have hbk := hvd.aN.blk haN
        rw [← hL.out] at hbk
        have e0 := hvd.c0
        have e1 := hvd.c1
        rw [← hN.out] at e0 e1
        have hS0 : (fun v => ((v.cell? ⟨g, 0, none⟩ = some (.slice (some ⟨kN, 0, none⟩) N cN) ∧ v.cell? ⟨g, 1, none⟩ = some (.slice (some ⟨kF, 0, none⟩) N cF)) ∧ v.cell? ⟨gb, 0, none⟩ = some (.int .i64 (a : Nat))) ∧ v.rangeAt kN (a * 256) (vals 256 (flat1 L))) w3.drew := ⟨⟨⟨e0, e1⟩, hrp.1⟩, hbk⟩
        have HTN : Hid (w3.drew.there kF (a * 256) (vals 256 (flat1 L)).toArray.size) := hid (by rw [List.size_toArray, vals_length]; exact hvd.aF.thereAt (by omega))
        have HSB : Hid ((Try.prog.info? 81).map (·.size) = some (vals 256 (flat1 L)).toArray.size) := hid (by rw [List.size_toArray, vals_length]; exact hib)
        have hv4 := hvd.putF haN L
        have f0 := hv4.c0
        have f1 := hv4.c1
        have hb4 := hv4.aN.blk haN
        rw [← hN.out] at f0 f1
        rw [← hL.out] at hb4
        have hkg : ¬ kF = gb := fun e => hgn (e ▸ hv4.fF.1)
        have f2 : (w3.drew.setCells kF (a * 256) (vals 256 (flat1 L))).cell? ⟨gb, 0, none⟩ = some (.int .i64 (a : Nat)) := (World.cell?_setCells_out _ _ _ _ _ (fun e _ => absurd e.symm hkg)).trans hrp.1
        have HS4 : Hid ((fun v => ((v.cell? ⟨g, 0, none⟩ = some (.slice (some ⟨kN, 0, none⟩) N cN) ∧ v.cell? ⟨g, 1, none⟩ = some (.slice (some ⟨kF, 0, none⟩) N cF)) ∧ v.cell? ⟨gb, 0, none⟩ = some (.int .i64 (a : Nat))) ∧ v.rangeAt kN (a * 256) (vals 256 (flat1 L))) (w3.drew.setCells kF (a * 256) (vals 256 (flat1 L)))) := hid ⟨⟨⟨f0, f1⟩, f2⟩, hb4⟩
        have HT4 := hid ((ht3.drew).setCells (b := kF) (HN1.out kF hv4.fF.1) (a * 256) (vals 256 (flat1 L)))
        have HV4 := hid hv4
        have haI : (a : Int) < (N : Int) := by have := hN.out; omega
        clear hv3 ht3 hgn hrp hdr hvd hbk e0 e1 hv4 f0 f1 hb4 hkg f2 hwl haN
        refine wp_region_z (fun v => ((v.cell? ⟨g, 0, none⟩ = some (.slice (some ⟨kN, 0, none⟩) N cN) ∧ v.cell? ⟨g, 1, none⟩ = some (.slice (some ⟨kF, 0, none⟩) N cF)) ∧ v.cell? ⟨gb, 0, none⟩ = some (.int .i64 (a : Nat))) ∧ v.rangeAt kN (a * 256) (vals 256 (flat1 L))) 16 (by kernel_rfl) hS0 (fun hS => ?_)
        clear hS0
        refine wpAnyZ_take (i := 0) (v := .pointer (some ⟨g, 0, none⟩)) rfl (by kernel_rfl) (by kernel_rfl) (by kernel_rfl) (by kernel_rfl) (fun _ _ _ h => h) hS (Or.inl ⟨by kernel_rfl, fun w hS => (by clear hS; go_simp)⟩) ?_
        simp only [Act.put, List.setIfInBounds_toArray, List.set_cons_zero, List.set_cons_succ, List.getElem_toArray, List.getElem_cons_succ, List.getElem_cons_zero]
        refine wpAnyZ_take (i := 1) (v := .pointer (some ⟨g, 0, none⟩)) rfl (by kernel_rfl) (by kernel_rfl) (by kernel_rfl) (by kernel_rfl) (fun _ _ _ h => h) hS (Or.inl ⟨by kernel_rfl, fun w hS => (by clear hS; go_simp)⟩) ?_
        simp only [Act.put, List.setIfInBounds_toArray, List.set_cons_zero, List.set_cons_succ, List.getElem_toArray, List.getElem_cons_succ, List.getElem_cons_zero]
        refine wpAnyZ_take (i := 2) (v := .pointer (some ⟨g, 1, none⟩)) rfl (by kernel_rfl) (by kernel_rfl) (by kernel_rfl) (by kernel_rfl) (fun _ _ _ h => h) hS (Or.inl ⟨by kernel_rfl, fun w hS => (by clear hS; go_simp)⟩) ?_
        simp only [Act.put, List.setIfInBounds_toArray, List.set_cons_zero, List.set_cons_succ, List.getElem_toArray, List.getElem_cons_succ, List.getElem_cons_zero]
        refine wpAnyZ_take (i := 3) (v := .slice (some ⟨kF, 0, none⟩) N cF) rfl (by kernel_rfl) (by kernel_rfl) (by kernel_rfl) (by kernel_rfl) (fun _ _ _ h => h) hS (Or.inl ⟨by kernel_rfl, fun w hS => (by have hc := hS.1.1.2; clear hS; go_simp)⟩) ?_
        simp only [Act.put, List.setIfInBounds_toArray, List.set_cons_zero, List.set_cons_succ, List.getElem_toArray, List.getElem_cons_succ, List.getElem_cons_zero]
        refine wpAnyZ_take (i := 4) (v := .pointer (some ⟨gb, 0, none⟩)) rfl (by kernel_rfl) (by kernel_rfl) (by kernel_rfl) (by kernel_rfl) (fun _ _ _ h => h) hS (Or.inl ⟨by kernel_rfl, fun w hS => (by clear hS; go_simp)⟩) ?_
        simp only [Act.put, List.setIfInBounds_toArray, List.set_cons_zero, List.set_cons_succ, List.getElem_toArray, List.getElem_cons_succ, List.getElem_cons_zero]
        refine wpAnyZ_take (i := 5) (v := .int .i64 (a : Nat)) rfl (by kernel_rfl) (by kernel_rfl) (by kernel_rfl) (by kernel_rfl) (fun _ _ _ h => h) hS (Or.inl ⟨by kernel_rfl, fun w hS => (by have hc := hS.1.2; clear hS; go_simp)⟩) ?_
        simp only [Act.put, List.setIfInBounds_toArray, List.set_cons_zero, List.set_cons_succ, List.getElem_toArray, List.getElem_cons_succ, List.getElem_cons_zero]
        refine wpAnyZ_take (i := 6) (v := .pointer (some ⟨g, 0, none⟩)) rfl (by kernel_rfl) (by kernel_rfl) (by kernel_rfl) (by kernel_rfl) (fun _ _ _ h => h) hS (Or.inl ⟨by kernel_rfl, fun w hS => (by clear hS; go_simp)⟩) ?_
        simp only [Act.put, List.setIfInBounds_toArray, List.set_cons_zero, List.set_cons_succ, List.getElem_toArray, List.getElem_cons_succ, List.getElem_cons_zero]
        refine wpAnyZ_take (i := 7) (v := .pointer (some ⟨g, 0, none⟩)) rfl (by kernel_rfl) (by kernel_rfl) (by kernel_rfl) (by kernel_rfl) (fun _ _ _ h => h) hS (Or.inl ⟨by kernel_rfl, fun w hS => (by clear hS; go_simp)⟩) ?_
        simp only [Act.put, List.setIfInBounds_toArray, List.set_cons_zero, List.set_cons_succ, List.getElem_toArray, List.getElem_cons_succ, List.getElem_cons_zero]
        refine wpAnyZ_take (i := 8) (v := .pointer (some ⟨g, 0, none⟩)) rfl (by kernel_rfl) (by kernel_rfl) (by kernel_rfl) (by kernel_rfl) (fun _ _ _ h => h) hS (Or.inl ⟨by kernel_rfl, fun w hS => (by clear hS; go_simp)⟩) ?_
        simp only [Act.put, List.setIfInBounds_toArray, List.set_cons_zero, List.set_cons_succ, List.getElem_toArray, List.getElem_cons_succ, List.getElem_cons_zero]
        refine wpAnyZ_take (i := 9) (v := .slice (some ⟨kN, 0, none⟩) N cN) rfl (by kernel_rfl) (by kernel_rfl) (by kernel_rfl) (by kernel_rfl) (fun _ _ _ h => h) hS (Or.inl ⟨by kernel_rfl, fun w hS => (by have hc := hS.1.1.1; clear hS; go_simp)⟩) ?_
        simp only [Act.put, List.setIfInBounds_toArray, List.set_cons_zero, List.set_cons_succ, List.getElem_toArray, List.getElem_cons_succ, List.getElem_cons_zero]
        refine wpAnyZ_take (i := 10) (v := .pointer (some ⟨gb, 0, none⟩)) rfl (by kernel_rfl) (by kernel_rfl) (by kernel_rfl) (by kernel_rfl) (fun _ _ _ h => h) hS (Or.inl ⟨by kernel_rfl, fun w hS => (by clear hS; go_simp)⟩) ?_
        simp only [Act.put, List.setIfInBounds_toArray, List.set_cons_zero, List.set_cons_succ, List.getElem_toArray, List.getElem_cons_succ, List.getElem_cons_zero]
        refine wpAnyZ_take (i := 11) (v := .int .i64 (a : Nat)) rfl (by kernel_rfl) (by kernel_rfl) (by kernel_rfl) (by kernel_rfl) (fun _ _ _ h => h) hS (Or.inl ⟨by kernel_rfl, fun w hS => (by have hc := hS.1.2; clear hS; go_simp)⟩) ?_
        simp only [Act.put, List.setIfInBounds_toArray, List.set_cons_zero, List.set_cons_succ, List.getElem_toArray, List.getElem_cons_succ, List.getElem_cons_zero]
        refine wpAnyZ_take (i := 12) (v := .pointer (some ⟨kN, a * 256, none⟩)) rfl (by kernel_rfl) (by kernel_rfl) (by kernel_rfl) (by kernel_rfl) (fun _ _ _ h => h) hS (Or.inl ⟨by kernel_rfl, fun w hS => (by clear hS; go_simp)⟩) ?_
        simp only [Act.put, List.setIfInBounds_toArray, List.set_cons_zero, List.set_cons_succ, List.getElem_toArray, List.getElem_cons_succ, List.getElem_cons_zero]
        refine wpAnyZ_take (i := 13) rfl (by kernel_rfl) (by kernel_rfl) (by kernel_rfl) (by kernel_rfl) (fun _ _ _ h => h) hS (yieldsIf_load_mid (by kernel_rfl) 81 (.tmp 32) rfl kN (a * 256) (by kernel_rfl) (vals 256 (flat1 L)) _ (fun w hS => hS.2) hub rfl (by rw [vals_length]; exact hib)) ?_
        simp only [Act.put, List.setIfInBounds_toArray, List.set_cons_zero, List.set_cons_succ, List.getElem_toArray, List.getElem_cons_succ, List.getElem_cons_zero]
        refine wpAnyZ_take (i := 14) (v := .pointer (some ⟨kF, a * 256, none⟩)) rfl (by kernel_rfl) (by kernel_rfl) (by kernel_rfl) (by kernel_rfl) (fun _ _ _ h => h) hS (Or.inl ⟨by kernel_rfl, fun w hS => (by clear hS; go_simp)⟩) ?_
        simp only [Act.put, List.setIfInBounds_toArray, List.set_cons_zero, List.set_cons_succ, List.getElem_toArray, List.getElem_cons_succ, List.getElem_cons_zero]
        refine wpAnyZ_one (i := 15) (by kernel_rfl) rfl (fun K hK => ?_)
        rw [if_pos (by kernel_rfl)]
        refine wp_store_mid 81 _ _ rfl kF (a * 256) (vals 256 (flat1 L)).toArray (by kernel_rfl) (by kernel_rfl) HTN.out HSB.out (all_oneCell_toArray (vals_one _ _)) ?_
        try simp only [List.toList_toArray]
        try simp only [Act.put, List.setIfInBounds_toArray, List.set_cons_zero, List.set_cons_succ, List.getElem_toArray, List.getElem_cons_succ, List.getElem_cons_zero]
        refine hK.out _ _ (fun _ => HS4.out) ?_
        clear hK K
        refine wpAnyZ_done (by kernel_rfl) ?_ _
        clear hS HS4 HTN HSB
        generalize w3.drew.setCells kF (a * 256) (vals 256 (flat1 L)) = w4 at HV4 HT4 ⊢
        have hq2 : puts T.now (T.ws.take (k + 1)) T.firm = putB (puts T.now (T.ws.take k) T.firm) a L := by
          rw [List.take_add_one, hq, Option.toList_some, puts_snoc, hL.out]
        rw [← hq2] at HV4
        clear hq2 hq hL
        go_wp2_with fail
        go_roundw
        case rel => exact ⟨k + 1, by omega, by go_num, HV4.out, HT4.out⟩
        case measure => simp [intOf]; omega
      · obtain rfl : k = M := by omega
        have kI : ¬ (k : Int) < (k : Int) := by omega
        have hf : ∀ j, j < T.n → puts T.now (T.ws.take k) T.firm j = T.now j := fun j hj => by
          rw [hM.out, List.take_length]
          exact puts_same _ _ _ j fun h => (HK1.out.calm j hj h).symm
        have HV5 := hid ((HV.out.same (fun _ _ => rfl) hf).calm)
        have HT5 := hid (HT.out.setCell (b := g) (HN1.out g HV.out.fg) 2 (.slice none 0 0))
        have z2 := HV.out.z 2 (by decide)
        clear HV HT hf
        go_wp2_with fail
        go_ret
        exact ⟨rfl, F1, ⟨HV5.out.lt, HK1.out.fg, HOK.out, HK1.out.hs, Nat.zero_le _, fun _ _ _ => rfl, kN, cN, kF, cF, _, fl, ct, HV5.out, HREL.out⟩, HT5.out, HN1.out⟩
end
end Go.Proofs.Ytlbhoijjbpjmoaa
