/-
  The program's device: Write.
-/
import Derived.Test.YtlbhoijjbpjmoaaPfk
import Derived.Great.BuildSlice
namespace Go.Proofs.Ytlbhoijjbpjmoaa
open Go.RowKit
set_option linter.unusedVariables false
set_option linter.unusedSimpArgs false

theorem Try.zeroWr (w : World) : (zeroValue 83).run Try.prog w = .ok (.agg (wcell (0, Dst.zeros)).toArray) w := by kernel_rfl
theorem buildWr (k : Nat) (w : World) : (Instr.build 83 #[(0, .int .i64 (k : Nat))]).run Try.prog w = .ok (.agg (wcell (k, Dst.zeros)).toArray) w := by kernel_rfl
/-- A struct or an array put together, at the list of a plain region's operations. -/
theorem wpList_buildV {P : Program} {ops : Array Oper} {rest : List Oper} {op : Oper} {a : Act} {w : World} {Q : Exit → Act → World → Prop} (hgd : op.guard = none) (ty : TypeId) (parts : Array (Nat × Operand)) (ho : op.op = .build ty parts)
    (ps : Array (Nat × Value)) (hps : (parts.map fun q => (q.1, a.eval q.2)) = ps) (v : Value) (hv : (Instr.build ty ps).run P w = .ok v w) (h : wpList P ops Q rest (a.put op.dst v) w) : wpList P ops Q (op :: rest) a w :=
  wpList_plain hgd fun K hK => by
    unfold Oper.wp execOp
    have e : (parts.map fun (i, x) => (i, a.eval x)) = ps := hps
    simp only [ho, e, Sem.run_bind, Sem.run_pure, hv, Result.andThen_ok]
    exact hK _ _ h
theorem fill_wr {ie : TypeInfo} {z : Value} (hs : ie.size = 257) (hz : z.cells.size = 257) {q : Nat × List Int} (hq : q.2.length = 256) :
    Instr.fill (fun i => some (i * ie.size, ie.size)) ((Array.range (1 * ie.size)).map (z.cells[· % z.cells.size]!)) [(0, .agg (wcell q).toArray)] = some (wcell q).toArray := by
  rw [hs]
  have := Go.Great.fill_whole (s := 257) (by decide) [Value.agg (wcell q).toArray] ((Array.range (1 * 257)).map (z.cells[· % z.cells.size]!)) (fun v hv => by rw [List.mem_singleton.1 hv, Value.cells, List.size_toArray, wcell_length hq]) (by simp)
  refine this.trans ?_
  simp [Value.cells]

theorem wp_buildWr {o : Oper} {a : Act} {w : World} {K : Act → World → Prop} {Q : Exit → Act → World → Prop} (x : Operand) (ho : o.op = .buildSlice 67 1 #[(0, x)]) (ie : TypeInfo) (hi : Try.prog.info? 83 = some ie) (hz0 : ie.zero = some (.agg (wcell (0, Dst.zeros)).toArray)) (hz1 : ie.size = 257)
    (q : Nat × List Int) (hx : a.eval x = .agg (wcell q).toArray) (hq : q.2.length = 256) (h : K (a.put o.dst (.slice (some ⟨w.heap.size, 0, none⟩) 1 1)) (w.alloc (.cells (wcell q).toArray 83))) : o.wp Try.prog a w K Q := by
  refine wp_buildSlice 67 83 1 #[(0, x)] ho (wcell q).toArray ie (.agg (wcell (0, Dst.zeros)).toArray) Try.underlying67 hi hz0 (by rw [hz1]; decide) (by rw [hz1]; decide) ?_ h
  rw [Array.toList_map]
  show Instr.fill _ _ [(0, a.eval x)] = _
  rw [hx]
  exact fill_wr hz1 (by rw [Value.cells, List.size_toArray, wcell_length (q := (0, Dst.zeros)) Dst.zeros_len]) hq

/-- A waiting write that is put together: noughts first, then what is written. -/
theorem wbox (w : World) (k : Nat) (bs : List Int) (hl : bs.length = 256) (ho : Oct bs) (t : TypeId) :
    let w3 := ((w.alloc (.cells (wcell (0, Dst.zeros)).toArray t)).setCells w.heap.size 0 (wcell (k, Dst.zeros))).setCells w.heap.size 1 (vals 256 (flat1 bs))
    (w.alloc (.cells (wcell (0, Dst.zeros)).toArray t)).there w.heap.size 0 257 ∧ ((w.alloc (.cells (wcell (0, Dst.zeros)).toArray t)).setCells w.heap.size 0 (wcell (k, Dst.zeros))).there w.heap.size 1 256 ∧
      w3.rangeAt w.heap.size 0 (wcell (k, bs)) ∧ w3.rangeAt w.heap.size 1 (vals 256 (flat1 bs)) ∧ Below w.heap.size w w3 := by
  intro w3
  have h0 : (w.alloc (.cells (wcell (0, Dst.zeros)).toArray t)).there w.heap.size 0 257 := fun j hj => by
    rw [Nat.zero_add]
    constructor
    · have : j < (wcell (0, Dst.zeros)).length := by rw [wcell_length (q := (0, Dst.zeros)) Dst.zeros_len]; exact hj
      simp [this]
    · simp
  have hz : (wcell (k, Dst.zeros)).length = 257 := wcell_length (q := (k, Dst.zeros)) Dst.zeros_len
  have h1 : ((w.alloc (.cells (wcell (0, Dst.zeros)).toArray t)).setCells w.heap.size 0 (wcell (k, Dst.zeros))).there w.heap.size 0 257 := World.there_setCells h0 _ _ _
  have h1r : ((w.alloc (.cells (wcell (0, Dst.zeros)).toArray t)).setCells w.heap.size 0 (wcell (k, Dst.zeros))).rangeAt w.heap.size 0 (wcell (k, Dst.zeros)) := World.rangeAt_setCells_same _ _ _ _ (by rw [hz]; exact h0)
  have h2 : ((w.alloc (.cells (wcell (0, Dst.zeros)).toArray t)).setCells w.heap.size 0 (wcell (k, Dst.zeros))).there w.heap.size 1 256 := fun j hj => by
    have := h1 (1 + j) (by omega)
    rwa [Nat.zero_add] at this
  have h3 : w3.rangeAt w.heap.size 1 (vals 256 (flat1 bs)) := World.rangeAt_setCells_same _ _ _ _ (by rw [vals_length]; exact h2)
  refine ⟨h0, h2, fun j v hv => ?_, h3, below_setCells _ _ (below_setCells _ _ ((Below.refl _ _).alloc (Nat.le_refl _) _) (Nat.le_refl _)) (Nat.le_refl _)⟩
  cases j with
  | zero =>
    rw [wcell, List.getElem?_cons_zero] at hv
    rw [show w3.cell? ⟨w.heap.size, 0 + 0, none⟩ = _ from World.cell?_setCells_out _ _ _ _ _ (fun _ _ => .inl (by show 0 + 0 < 1; decide))]
    have := h1r 0 (.int .i64 (k : Nat)) (by rw [wcell, List.getElem?_cons_zero])
    exact this.trans hv
  | succ j =>
    rw [wcell, List.getElem?_cons_succ, ← flat1_vals ⟨hl, ho⟩] at hv
    have := h3 j v hv
    rw [show 0 + (j + 1) = 1 + j from by omega]
    exact this
theorem range_below' {w w' : World} {b o : Nat} {cs : List Value} (h : w.rangeAt b o cs) (hb : Below w.heap.size w w') : w'.rangeAt b o cs := fun j v hv => by
  have h1 := h j v hv
  exact (hb.cell (p := ⟨b, o + j, none⟩) (World.block_lt_of_cell? w _ h1)).trans h1
theorem new_range (w : World) (cs : List Value) (t : TypeId) : (w.alloc (.cells cs.toArray t)).rangeAt w.heap.size 0 cs := fun j v hv => by
  have hj : j < cs.length := (List.getElem?_eq_some_iff.1 hv).1
  rw [Nat.zero_add]
  simp [hv]
theorem new_cells (w : World) (g : Nat) {cs : List Value} (h : w.rangeAt g 0 cs) : ∀ j u, cs[j]? = some u → w.cell? ((⟨g, 0, none⟩ : Addr).add j) = some u := fun j u hj => by
  rw [Addr.add_mid]
  exact h j u hj

section
variable {B g : Nat} {F : Nat → Prop} {S : Dst} {w : World}
set_option maxHeartbeats 16000000 in
set_option maxRecDepth 100000 in
theorem dWrite_at (h : PDk B w g F S) (i : Int) (hi' : (Lit.int .i64 i).wf = true) (p : Option Addr) (c n : Nat) (bs : List Int) (hp : Bin w p bs) (ho : Oct bs) (hl : bs.length = n) (hc : n ≤ c) (hm : n ≤ 140737488351232) (hF : ∀ a, p = some a → 0 < n → ¬ F a.block)
    (hs : S.steps < 9223372036854775807) (hw : S.ws.length < 4294967296) :
    Calls Try.prog 34 #[.pointer (some ⟨g, 0, none⟩), .int .i64 i, .slice p n c] w fun e w' => e = .returned (.int .i64 (S.writeE i bs)) ∧ Dstep B w g F (S.write i bs) w' := by
  obtain ⟨i0, hi, hz0, hz1, hz2⟩ := info_parts Try.infoWr
  have hh := dHas_at h i
  unfold Dst.writeE
  by_cases h1 : S.has i = false
  · rw [if_pos (Or.inl h1), show S.write i bs = S from if_pos (Or.inl h1)]
    rw [h1] at hh
    have H := hid h
    clear h hp ho hF
    go_enter Try.func34, Try.ntmps34
    go_wp2_with fail
    refine hh.mono ?_
    rintro e w1 ⟨rfl, rfl⟩
    go_wp2
    go_ret
    exact ⟨rfl, F, H.out, Tb.refl _ _, fun q hq => .inl hq⟩
  · have h1t : S.has i = true := by simpa using h1
    rw [h1t] at hh
    by_cases h2 : n = 256
    · subst h2
      obtain ⟨hi0, hi1, hi2⟩ := Dst.has_lt h1
      obtain ⟨k, rfl⟩ : ∃ k : Nat, i = (k : Int) := ⟨i.toNat, by omega⟩
      rw [Int.toNat_natCast] at hi2
      have hno : ¬ (S.has (k : Int) = false ∨ bs.length ≠ 256) := by rw [h1t, hl]; simp
      rw [if_neg hno]
      have hst := dStep_at h hs
      by_cases he : S.err ≠ 0
      · rw [show S.write (k : Int) bs = S.step from by unfold Dst.write; rw [if_neg hno, if_pos he]]
        obtain ⟨er, her⟩ : ∃ e, Hid (e = S.err) := ⟨_, rfl⟩
        rw [← her.out] at he hst ⊢
        clear h hp ho hF
        go_enter Try.func34, Try.ntmps34
        go_wp2_with fail
        refine hh.mono ?_
        rintro e w1 ⟨rfl, rfl⟩
        clear hh
        go_wp2_with fail
        refine hst.mono ?_
        rintro e w1 ⟨rfl, hr⟩
        have HR := hid hr
        clear hst hr
        go_wp2
        go_ret
        exact ⟨rfl, HR.out⟩
      · have he0 : S.err = 0 := by simpa using he
        have hwe : S.write (k : Int) bs = S.step.put k bs := by unfold Dst.write; rw [if_neg hno, if_neg he, Int.toNat_natCast]
        have hokw := Dst.ok_write h.ok (k : Int) ho
        rw [hwe] at hokw ⊢
        have HOK := hid hokw
        rw [he0] at hst ⊢
        clear he he0 hwe hokw hno
        have hub := Try.underlying81
        have hib := Try.sizeBlk
        have huw := Try.underlying83
        have hiw := Try.sizeWr
        have HBL : Hid (bs.length = 256) := hid hl
        have HO := hid ho
        have HP0 := hid hp
        have HLE : Hid (B ≤ w.heap.size) := hid (by have := h.lt g h.fg; omega)
        have hF' := hF
        clear hp hl hi0 hi1 hF h ho
        go_enter Try.func34, Try.ntmps34
        go_wp2_with fail
        refine hh.mono ?_
        rintro e w0 ⟨rfl, rfl⟩
        clear hh
        go_wp2_with fail
        refine hst.mono ?_
        rintro e w1 ⟨rfl, F1, hr1, ht1, hn1⟩
        have HN1 := hid hn1
        have HP1 := hid (HP0.out.tb ht1 (fun a ha => hF' a ha (by decide)))
        have HTB : Hid (∀ (W : World), Tb F w W → B ≤ W.heap.size) := hid (fun W t => Nat.le_trans HLE.out t.size)
        have HK1 := hid hr1
        obtain ⟨kN, cN, kF, cF, vW, fl, ct, hv, hrel⟩ := hr1.at'
        have HREL := hid hrel
        have hkN : k < S.step.n := by rw [Dst.step_n]; exact hi2
        have HKN := hid hkN
        obtain ⟨N, hN⟩ : ∃ n, Hid (n = S.step.n) := ⟨_, rfl⟩
        obtain ⟨M, HM⟩ : ∃ n, Hid (n = S.step.ws.length) := ⟨_, rfl⟩
        have hM2 : M < 4294967296 := by rw [HM.out, Dst.step_ws]; exact hw
        rw [← hN.out] at hkN
        have hkI : (k : Int) < (N : Int) := by omega
        obtain ⟨q0, q1, q2, q3, q4⟩ := wbox w1 k bs HBL.out HO.out 83
        have hzl : (wcell (k, Dst.zeros)).toArray.size = 257 := List.size_toArray.trans (wcell_length (q := (k, Dst.zeros)) Dst.zeros_len)
        have Q0 : Hid ((w1.alloc (.cells (wcell (0, Dst.zeros)).toArray 83)).there w1.heap.size 0 (wcell (k, Dst.zeros)).toArray.size) := hid (by rw [hzl]; exact q0)
        have QS : Hid ((Try.prog.info? 83).map (·.size) = some (wcell (k, Dst.zeros)).toArray.size) := hid (by rw [hzl]; exact hiw)
        have QA : Hid ((wcell (k, Dst.zeros)).toArray.all (·.oneCell') = true) := hid (all_oneCell_toArray (wcell_one _))
        clear hzl
        have Q1 := hid q1
        have hv3 := hv.below q4
        have ht3 := ht1.below q4
        have hbx := hid (HP1.out.below (below_setCells (b := w1.heap.size) (wcell (k, Dst.zeros)) 0 ((Below.refl w1.heap.size w1).alloc (Nat.le_refl _) (.cells (wcell (0, Dst.zeros)).toArray 83)) (Nat.le_refl _)))
        have HGW : Hid (¬ F1 w1.heap.size) := hid (fun h => by have := (hv.lt _ h).2; omega)
        have hzw := Try.zeroWr
        have hbw := buildWr k
        clear hst hv hr1 ht1 hn1 q0 q1 hrel
        go_upto_region 9 with (first | (refine wpList_buildV rfl 83 #[(0, .tmp 25)] rfl #[(0, .int .i64 (k : Nat))] (by kernel_rfl) (.agg (wcell (k, Dst.zeros)).toArray) (hbw _) ?_) | (refine wpList_store_mid rfl 83 (.tmp 8) (.tmp 26) rfl w1.heap.size 0 (wcell (k, Dst.zeros)).toArray rfl rfl (by exact Q0.out) (by exact QS.out) (by exact QA.out) ?_))
        obtain ⟨gw, hgw⟩ : ∃ k, Hid (k = w1.heap.size) := ⟨_, rfl⟩
        rw [← hgw.out] at q2 q3 q4 hv3 ht3 HGW Q1 hbx ⊢
        generalize (w1.alloc (.cells (wcell (0, Dst.zeros)).toArray 83)).setCells gw 0 (wcell (k, Dst.zeros)) = w2 at q2 q3 q4 hv3 ht3 Q1 hbx ⊢
        clear hzw hbw Q0 QS QA hgw
        have Q2 := hid q2
        have Q3 := hid q3
        have hV3 := hid hv3
        have hT3 := hid ht3
        clear q2 q3 q4 hv3 ht3
        go_upto_region 10 with (with_reducible refine wpList_copy_bin rfl (.tmp 28) (.tmp 29) 31 31 rfl 5 Try.underlying31 Try.sizeByte gw 1 256 256 rfl p 256 c bs rfl (by exact hbx.out) (by exact HO.out) (by exact HBL.out) (Nat.le_refl _) (fun _ => Q1.out) ?_)
        have q2 := Q2.out
        have q3 := Q3.out
        have hv3 := hV3.out
        have ht3 := hT3.out
        clear Q1 hbx Q2 Q3 hV3 hT3
        generalize w2.setCells gw 1 (vals 256 (flat1 bs)) = w3 at q2 q3 hv3 ht3 ⊢
        have c0 := hv3.c0
        rw [← hN.out] at c0
        have HR1 := hid q3
        have hdr : Below w3.heap.size w3 w3.drew := (Below.refl _ _).drew
        have hv3d := hv3.below hdr
        have HSB : Hid ((Try.prog.info? 81).map (·.size) = some (vals 256 (flat1 bs)).toArray.size) := hid (by rw [List.size_toArray, vals_length]; exact hib)
        have HTN : Hid (w3.drew.there kN (k * 256) (vals 256 (flat1 bs)).toArray.size) := hid (by rw [List.size_toArray, vals_length]; exact hv3d.aN.thereAt (by have := HKN.out; omega))
        have hv4 := hv3d.putN HKN.out bs
        have hkg : ¬ kN = gw := fun e => HGW.out (e ▸ hv3.fN.1)
        have HS4 : Hid ((w3.drew.setCells kN (k * 256) (vals 256 (flat1 bs))).cell? ⟨g, 0, none⟩ = some (.slice (some ⟨kN, 0, none⟩) N cN) ∧ (w3.drew.setCells kN (k * 256) (vals 256 (flat1 bs))).rangeAt gw 1 (vals 256 (flat1 bs))) := hid ⟨by rw [hN.out]; exact hv4.c0, World.rangeAt_setCells_apart (w := w3.drew) q3 _ _ _ (.inl (fun e => hkg e.symm))⟩
        have HR4 : Hid ((w3.drew.setCells kN (k * 256) (vals 256 (flat1 bs))).rangeAt gw 0 (wcell (k, bs))) := hid (World.rangeAt_setCells_apart (w := w3.drew) q2 _ _ _ (.inl (fun e => hkg e.symm)))
        have HT4 := hid ((ht3.drew).setCells (b := kN) (HN1.out kN hv3.fN.1) (k * 256) (vals 256 (flat1 bs)))
        have HV4 := hid hv4
        clear q2 q3 hv3 ht3 hdr hv3d hv4 hkg
        have hS0 : (fun v => v.cell? ⟨g, 0, none⟩ = some (.slice (some ⟨kN, 0, none⟩) N cN) ∧ v.rangeAt gw 1 (vals 256 (flat1 bs))) w3.drew := ⟨c0, HR1.out⟩
        refine wp_region_z (fun v => v.cell? ⟨g, 0, none⟩ = some (.slice (some ⟨kN, 0, none⟩) N cN) ∧ v.rangeAt gw 1 (vals 256 (flat1 bs))) 9 (by kernel_rfl) hS0 (fun hS => ?_)
        clear hS0 c0
        refine wpAnyZ_take (i := 0) (v := .pointer (some ⟨g, 0, none⟩)) rfl (by kernel_rfl) (by kernel_rfl) (by kernel_rfl) (by kernel_rfl) (fun _ _ _ h => h) hS (Or.inl ⟨by kernel_rfl, fun w hS => (by clear hS; go_simp)⟩) ?_
        simp only [Act.put, List.setIfInBounds_toArray, List.set_cons_zero, List.set_cons_succ, List.getElem_toArray, List.getElem_cons_succ, List.getElem_cons_zero]
        refine wpAnyZ_take (i := 1) (v := .pointer (some ⟨g, 0, none⟩)) rfl (by kernel_rfl) (by kernel_rfl) (by kernel_rfl) (by kernel_rfl) (fun _ _ _ h => h) hS (Or.inl ⟨by kernel_rfl, fun w hS => (by clear hS; go_simp)⟩) ?_
        simp only [Act.put, List.setIfInBounds_toArray, List.set_cons_zero, List.set_cons_succ, List.getElem_toArray, List.getElem_cons_succ, List.getElem_cons_zero]
        refine wpAnyZ_take (i := 2) (v := .pointer (some ⟨g, 0, none⟩)) rfl (by kernel_rfl) (by kernel_rfl) (by kernel_rfl) (by kernel_rfl) (fun _ _ _ h => h) hS (Or.inl ⟨by kernel_rfl, fun w hS => (by clear hS; go_simp)⟩) ?_
        simp only [Act.put, List.setIfInBounds_toArray, List.set_cons_zero, List.set_cons_succ, List.getElem_toArray, List.getElem_cons_succ, List.getElem_cons_zero]
        refine wpAnyZ_take (i := 3) (v := .slice (some ⟨kN, 0, none⟩) N cN) rfl (by kernel_rfl) (by kernel_rfl) (by kernel_rfl) (by kernel_rfl) (fun _ _ _ h => h) hS (Or.inl ⟨by kernel_rfl, fun w hS => (by have hc := hS.1; clear hS; go_simp)⟩) ?_
        simp only [Act.put, List.setIfInBounds_toArray, List.set_cons_zero, List.set_cons_succ, List.getElem_toArray, List.getElem_cons_succ, List.getElem_cons_zero]
        refine wpAnyZ_take (i := 4) (v := .int .i64 (k : Nat)) rfl (by kernel_rfl) (by kernel_rfl) (by kernel_rfl) (by kernel_rfl) (fun _ _ _ h => h) hS (Or.inl ⟨by kernel_rfl, fun w hS => (by clear hS; go_simp)⟩) ?_
        simp only [Act.put, List.setIfInBounds_toArray, List.set_cons_zero, List.set_cons_succ, List.getElem_toArray, List.getElem_cons_succ, List.getElem_cons_zero]
        refine wpAnyZ_take (i := 5) (v := .pointer (some ⟨gw, 1, none⟩)) rfl (by kernel_rfl) (by kernel_rfl) (by kernel_rfl) (by kernel_rfl) (fun _ _ _ h => h) hS (Or.inl ⟨by kernel_rfl, fun w hS => (by clear hS; go_simp)⟩) ?_
        simp only [Act.put, List.setIfInBounds_toArray, List.set_cons_zero, List.set_cons_succ, List.getElem_toArray, List.getElem_cons_succ, List.getElem_cons_zero]
        refine wpAnyZ_take (i := 6) rfl (by kernel_rfl) (by kernel_rfl) (by kernel_rfl) (by kernel_rfl) (fun _ _ _ h => h) hS (yieldsIf_load_mid (by kernel_rfl) 81 (.tmp 36) rfl gw 1 (by kernel_rfl) (vals 256 (flat1 bs)) _ (fun w hS => hS.2) hub rfl hib) ?_
        simp only [Act.put, List.setIfInBounds_toArray, List.set_cons_zero, List.set_cons_succ, List.getElem_toArray, List.getElem_cons_succ, List.getElem_cons_zero]
        refine wpAnyZ_take (i := 7) (v := .pointer (some ⟨kN, k * 256, none⟩)) rfl (by kernel_rfl) (by kernel_rfl) (by kernel_rfl) (by kernel_rfl) (fun _ _ _ h => h) hS (Or.inl ⟨by kernel_rfl, fun w hS => (by clear hS; go_simp)⟩) ?_
        simp only [Act.put, List.setIfInBounds_toArray, List.set_cons_zero, List.set_cons_succ, List.getElem_toArray, List.getElem_cons_succ, List.getElem_cons_zero]
        refine wpAnyZ_one (i := 8) (by kernel_rfl) rfl (fun K hK => ?_)
        rw [if_pos (by kernel_rfl)]
        refine wp_store_mid 81 _ _ rfl kN (k * 256) (vals 256 (flat1 bs)).toArray (by kernel_rfl) (by kernel_rfl) HTN.out HSB.out (all_oneCell_toArray (vals_one _ _)) ?_
        try simp only [List.toList_toArray]
        try simp only [Act.put, List.setIfInBounds_toArray, List.set_cons_zero, List.set_cons_succ, List.getElem_toArray, List.getElem_cons_succ, List.getElem_cons_zero]
        refine hK.out _ _ (fun _ => HS4.out) ?_
        clear hK K
        refine wpAnyZ_done (by kernel_rfl) ?_ _
        clear hS
        generalize w3.drew.setCells kN (k * 256) (vals 256 (flat1 bs)) = w4 at HR4 HT4 HV4 ⊢
        clear HS4 HR1 HTN HSB
        go_upto_region 11 with fail
        have c2 := HV4.out.c2
        have HV5 := hid (HV4.out.below ((Below.refl _ _).drew))
        have HT5 := hid (HT4.out.drew)
        have HR5 : Hid (w4.drew.rangeAt gw 0 (wcell (k, bs))) := hid HR4.out
        have HNC := hid new_cells
        have hS0 : (fun v => v.cell? ⟨g, 2, none⟩ = some vW ∧ v.rangeAt gw 0 (wcell (k, bs))) w4.drew := ⟨c2, HR4.out⟩
        refine wp_region_z (fun v => v.cell? ⟨g, 2, none⟩ = some vW ∧ v.rangeAt gw 0 (wcell (k, bs))) 10 (by kernel_rfl) hS0 (fun hS => ?_)
        clear hS0 c2
        generalize World.drew w4 = w5 at hS HV5 HT5 HR5 ⊢
        refine wpAnyZ_take (i := 0) (v := .pointer (some ⟨g, 0, none⟩)) rfl (by kernel_rfl) (by kernel_rfl) (by kernel_rfl) (by kernel_rfl) (fun _ _ _ h => h) hS (Or.inl ⟨by kernel_rfl, fun w hS => (by clear hS; go_simp)⟩) ?_
        simp only [Act.put, List.setIfInBounds_toArray, List.set_cons_zero, List.set_cons_succ, List.getElem_toArray, List.getElem_cons_succ, List.getElem_cons_zero]
        refine wpAnyZ_take (i := 1) (v := .pointer (some ⟨g, 0, none⟩)) rfl (by kernel_rfl) (by kernel_rfl) (by kernel_rfl) (by kernel_rfl) (fun _ _ _ h => h) hS (Or.inl ⟨by kernel_rfl, fun w hS => (by clear hS; go_simp)⟩) ?_
        simp only [Act.put, List.setIfInBounds_toArray, List.set_cons_zero, List.set_cons_succ, List.getElem_toArray, List.getElem_cons_succ, List.getElem_cons_zero]
        refine wpAnyZ_take (i := 2) (v := .pointer (some ⟨g, 0, none⟩)) rfl (by kernel_rfl) (by kernel_rfl) (by kernel_rfl) (by kernel_rfl) (fun _ _ _ h => h) hS (Or.inl ⟨by kernel_rfl, fun w hS => (by clear hS; go_simp)⟩) ?_
        simp only [Act.put, List.setIfInBounds_toArray, List.set_cons_zero, List.set_cons_succ, List.getElem_toArray, List.getElem_cons_succ, List.getElem_cons_zero]
        refine wpAnyZ_take (i := 3) (v := .pointer (some ⟨g, 2, none⟩)) rfl (by kernel_rfl) (by kernel_rfl) (by kernel_rfl) (by kernel_rfl) (fun _ _ _ h => h) hS (Or.inl ⟨by kernel_rfl, fun w hS => (by clear hS; go_simp)⟩) ?_
        simp only [Act.put, List.setIfInBounds_toArray, List.set_cons_zero, List.set_cons_succ, List.getElem_toArray, List.getElem_cons_succ, List.getElem_cons_zero]
        refine wpAnyZ_take (i := 4) (v := vW) rfl (by kernel_rfl) (by kernel_rfl) (by kernel_rfl) (by kernel_rfl) (fun _ _ _ h => h) hS (Or.inl ⟨by kernel_rfl, fun w hS => (by have hc := hS.1; clear hS; go_simp)⟩) ?_
        simp only [Act.put, List.setIfInBounds_toArray, List.set_cons_zero, List.set_cons_succ, List.getElem_toArray, List.getElem_cons_succ, List.getElem_cons_zero]
        refine wpAnyZ_take (i := 5) rfl (by kernel_rfl) (by kernel_rfl) (by kernel_rfl) (by kernel_rfl) (fun _ _ _ h => h) hS (yieldsIf_load_mid (by kernel_rfl) 83 (.tmp 8) rfl gw 0 (by kernel_rfl) (wcell (k, bs)) _ (fun w hS => hS.2) huw rfl (by rw [wcell_length HBL.out]; exact hiw)) ?_
        simp only [Act.put, List.setIfInBounds_toArray, List.set_cons_zero, List.set_cons_succ, List.getElem_toArray, List.getElem_cons_succ, List.getElem_cons_zero]
        have hbl : Below w5.heap.size w5 (World.alloc w5 (.cells (wcell (k, bs)).toArray 83)) := (Below.refl _ _).alloc (Nat.le_refl _) _
        have HV6 := hid (HV5.out.below hbl)
        have HT6 := hid (HT5.out.below hbl)
        have HR6 := hid (range_below' hS.2 hbl)
        have HN6 : Hid ((World.alloc w5 (.cells (wcell (k, bs)).toArray 83)).rangeAt w5.heap.size 0 (wcell (k, bs))) := hid (new_range w5 _ _)
        have HS6 := hid HV6.out.c2
        refine wpAnyZ_one (i := 6) (by kernel_rfl) rfl (fun K hK => ?_)
        rw [if_pos (by kernel_rfl)]
        refine wp_buildWr (.tmp 44) rfl i0 hi hz0 hz1 (k, bs) (by kernel_rfl) HBL.out ?_
        refine hK.out _ _ (fun _ => ⟨HS6.out, HR6.out⟩) ?_
        clear hK K hbl
        try simp only [Act.put, List.setIfInBounds_toArray, List.set_cons_zero, List.set_cons_succ, List.getElem_toArray, List.getElem_cons_succ, List.getElem_cons_zero]
        obtain ⟨g6, hg6⟩ : ∃ g, Hid (g = w5.heap.size) := ⟨_, rfl⟩
        rw [← hg6.out] at HN6 ⊢
        generalize World.alloc w5 (.cells (wcell (k, bs)).toArray 83) = w6 at HV6 HT6 HR6 HN6 HS6 ⊢
        replace hS := And.intro HS6.out HR6.out
        clear HV5 HT5 HR5 HS6 hg6
        have hrow := HV6.out.rW
        rw [← HM.out] at hrow
        have HROW := hid hrow
        clear hrow
        refine wpAnyZ_one (i := 7) (by kernel_rfl) rfl (fun K hK => ?_)
        refine step_append_lies _ rfl (.tmp 43) (.tmp 45) 67 rfl B 83 i0 (.agg (wcell (0, Dst.zeros)).toArray) 257 264 Try.underlying67 hi hz0 hz1 hz2 (by rw [Value.cells, List.size_toArray, wcell_length (q := (0, Dst.zeros)) Dst.zeros_len]) (by decide) vW M _ rfl (by exact HROW.out) ⟨g6, 0, none⟩ 1 1 (wcell (k, bs)) rfl (by rw [wcell_length HBL.out]) (by exact HNC.out _ _ HN6.out) (wcell_one _) (by decide) (by unfold maxLen; omega) (by omega) (HTB.out _ HT6.out) _ rfl ?_
        intro g9 cap9 w9 hown hgrow hat hlt9
        have hat' : (Value.slice (some ⟨g9, 0, none⟩) (M + 1) cap9).ownBlock = vW.ownBlock ∨ (Value.slice (some ⟨g9, 0, none⟩) (M + 1) cap9).ownBlock = some w6.heap.size := by
          rcases hat with h1 | h1
          · exact .inl h1.symm
          · exact .inr (congrArg some h1)
        have HV9 := hid (HV6.out.snoc (q := (k, bs)) (v' := .slice (some ⟨g9, 0, none⟩) (M + 1) cap9) hgrow (by have h9 := hown; rw [HM.out] at h9 ⊢; exact h9) hat' (Nat.le_refl _))
        have t9 : Tb F w w9 := HT6.out.grown hgrow (fun q hq hlt => (HN1.out q (HV6.out.fW q hq).1).elim id (fun h => by omega))
        have HT9 := hid (t9.setCell (b := g) (HN1.out g HV6.out.fg) 2 (.slice (some ⟨g9, 0, none⟩) (M + 1) cap9))
        have tg : Tb (fun q => vW.ownBlock = some q) w6 w9 := Tb.of_grown hgrow fun q e => e
        have hgn : ¬ vW.ownBlock = some g := fun e => (HV6.out.fW g e).2.1 rfl
        have hgl := (HV6.out.lt g HV6.out.fg).2
        have HC9 : Hid (w9.cell? ⟨g, 2, none⟩ = some vW ∧ w9.frozen? ⟨g, 2, none⟩ = false) := hid ⟨(tg.cell (p := ⟨g, 2, none⟩) hgl hgn).trans HV6.out.c2, (tg.frozen (p := ⟨g, 2, none⟩) hgl hgn).trans (HV6.out.z 2 (by decide))⟩
        have HR9 : Hid (w9.rangeAt gw 0 (wcell (k, bs))) := hid (fun j v hv => (tg.cell (p := ⟨gw, 0 + j, none⟩) (World.block_lt_of_cell? _ _ (HR6.out j v hv)) (fun e => HGW.out ((HV6.out.fW gw e).1))).trans (HR6.out j v hv))
        have HNF : Hid (∀ q, (F1 q ∨ (Value.slice (some ⟨g9, 0, none⟩) (M + 1) cap9).ownBlock = some q) → F q ∨ w.heap.size ≤ q) := hid (fun q hq => by
          rcases hq with h1 | h1
          · exact HN1.out q h1
          · rcases hat' with h2 | h2
            · exact HN1.out q (HV6.out.fW q (h2.symm.trans h1)).1
            · have h3 := Option.some.inj (h2.symm.trans h1); have := HT6.out.size; exact .inr (by omega))
        replace hS := And.intro HC9.out.1 HR9.out
        clear hown hgrow hat hat' t9 tg hgn hgl HV6 HT6 HROW HR6 HN6
        refine hK.out _ _ (fun _ => hS) ?_
        clear hK K
        try simp only [Act.put, List.setIfInBounds_toArray, List.set_cons_zero, List.set_cons_succ, List.getElem_toArray, List.getElem_cons_succ, List.getElem_cons_zero]
        refine wpAnyZ_one (i := 8) (by kernel_rfl) rfl (fun K hK => ?_)
        go_simp
        refine hK.out _ _ (fun _ => hS) ?_
        clear hK K
        try simp only [Act.put, List.setIfInBounds_toArray, List.set_cons_zero, List.set_cons_succ, List.getElem_toArray, List.getElem_cons_succ, List.getElem_cons_zero]
        refine wpAnyZ_take (i := 9) (v := .pointer (some ⟨g, 2, none⟩)) rfl (by kernel_rfl) (by kernel_rfl) (by kernel_rfl) (by kernel_rfl) (fun _ _ _ h => h) hS (Or.inl ⟨by kernel_rfl, fun w hS => (by clear hS; go_simp)⟩) ?_
        simp only [Act.put, List.setIfInBounds_toArray, List.set_cons_zero, List.set_cons_succ, List.getElem_toArray, List.getElem_cons_succ, List.getElem_cons_zero]
        refine wpAnyZ_one (i := 10) (by kernel_rfl) rfl (fun K hK => ?_)
        obtain ⟨hcc, hff⟩ := HC9.out
        clear hS
        go_simp
        refine hK.out _ _ (fun h => absurd h (by decide)) ?_
        clear hK K hcc hff
        try simp only [Act.put, List.setIfInBounds_toArray, List.set_cons_zero, List.set_cons_succ, List.getElem_toArray, List.getElem_cons_succ, List.getElem_cons_zero]
        refine wpAnyZ_done (by kernel_rfl) ?_ _
        have HVF := hid HV9.out
        clear HV9
        go_wp2
        go_ret
        refine ⟨rfl, _, ⟨HVF.out.lt, .inl HK1.out.fg, HOK.out, HK1.out.hs, ?_, ?_, kN, cN, kF, cF, _, fl, ct, HVF.out, HREL.out⟩, HT9.out, HNF.out⟩
        · show (S.step.ws ++ [(k, bs)]).length ≤ _
          rw [List.length_append, List.length_singleton, ← HM.out]
          omega
        · intro j hj hq
          have h1 : ∀ q ∈ S.step.ws, q.1 ≠ j := fun q hq' => hq q (List.mem_append_left _ hq')
          have h2 : k ≠ j := hq (k, bs) (List.mem_append_right _ (List.mem_singleton.2 rfl))
          show putB S.step.now k bs j = S.step.firm j
          unfold putB
          rw [if_neg (fun e => h2 e.symm)]
          exact HK1.out.calm j hj h1
    · have h2' : ¬ (n : Int) = 256 := by omega
      have h2l : bs.length ≠ 256 := by omega
      rw [if_pos (Or.inr h2l), show S.write i bs = S from if_pos (Or.inr h2l)]
      have H := hid h
      clear h hp ho hF
      go_enter Try.func34, Try.ntmps34
      go_wp2_with fail
      refine hh.mono ?_
      rintro e w1 ⟨rfl, rfl⟩
      go_wp2
      go_ret
      exact ⟨rfl, F, H.out, Tb.refl _ _, fun q hq => .inl hq⟩
end
end Go.Proofs.Ytlbhoijjbpjmoaa
