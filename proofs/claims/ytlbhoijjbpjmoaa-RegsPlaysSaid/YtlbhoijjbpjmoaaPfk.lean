/-
  The program's device: Fork.
-/
import Derived.Test.YtlbhoijjbpjmoaaPdn
namespace Go.Proofs.Ytlbhoijjbpjmoaa
open Go.RowKit
set_option linter.unusedVariables false
set_option linter.unusedSimpArgs false

/-- Nothing appended to one's own row. -/
theorem wpList_append_noneRow {P : Program} {w : World} {ops : Array Oper} {rest : List Oper} {o : Oper} {a : Act} {Q : Exit → Act → World → Prop} (hgd : o.guard = none) (s x : Operand) (t : TypeId)
    (ho : o.op = .call { callee := .builtin .append, args := #[s, x], argTypes := #[t, t] }) (e : TypeId) (i : TypeInfo) (size : Nat) (ht : P.underlying t = some (.slice e)) (hi : P.info? e = some i)
    (B : Nat) (v : Value) (n : Nat) (xs : List Value) (hs : a.eval s = v) (hown : w.ownsRow B e size v n xs) (p : Option Addr) (c : Nat) (hx : a.eval x = .slice p 0 c)
    (h : wpList P ops Q rest (a.put o.dst v) w) : wpList P ops Q (o :: rest) a w :=
  wpList_plain hgd fun K hK => by
    have hr := run_append_owned_empty (P := P) (w := w) B t o.type e i size ht hi v n xs hown p c
    unfold Oper.wp execOp
    simp only [ho, resolve, invoke, builtin, Sem.run_bind, Sem.run_pure, Result.andThen_ok, List.map_toArray, List.map_cons, List.map_nil, hs, hx, hr]
    exact hK _ _ h
theorem row_none (w : World) (e : TypeId) (s : Nat) : (w.alloc (.cells #[] e)).ownsRow w.heap.size e s (.slice (some ⟨w.heap.size, 0, none⟩) 0 0) 0 [] :=
  ⟨by simp, .inr ⟨w.heap.size, 0, #[], rfl, Nat.le_refl _, heap_alloc_new w _, Nat.le_refl _, by unfold maxLen; omega, by simp, by simp⟩⟩
theorem row_mono {w : World} {B B' n s : Nat} {e : TypeId} {v : Value} {xs : List Value} (h : w.ownsRow B e s v n xs) (hB : B' ≤ B) : w.ownsRow B' e s v n xs := by
  refine ⟨h.1, ?_⟩
  rcases h.2 with h2 | ⟨g, cap, cur, h1, h2, h3⟩
  · exact .inl h2
  · exact .inr ⟨g, cap, cur, h1, Nat.le_trans hB h2, h3⟩
theorem row_arr {w : World} {B g n c : Nat} {e : TypeId} {x : Nat → Nat} (h : w.ownsRow B e 256 (.slice (some ⟨g, 0, none⟩) n c) n (vals (n * 256) x)) : Arr w g (n * 256) x := fun j hj => by
  have e1 := World.ownsRow.cellAt h j (by omega)
  rw [vals_at _ _ _ hj] at e1
  exact ⟨e1, World.ownsRow.frozenAt h j⟩

set_option maxHeartbeats 8000000 in
set_option maxRecDepth 100000 in
theorem cloneB_of (k n c : Nat) (x : Nat → Nat) (w : World) (ha : Arr w k (n * 256) x) (hn : 0 < n) (hm : n ≤ 4096) :
    Calls Try.prog 49 #[.slice (some ⟨k, 0, none⟩) n c] w fun e w' => ∃ g c', e = .returned (.slice (some ⟨g, 0, none⟩) n c') ∧ Arr w' g (n * 256) x ∧ n ≤ c' ∧ w.heap.size ≤ g ∧ Below w.heap.size w w' := by
  obtain ⟨i0, hi, hz0, hz1, hz2⟩ := info_parts Try.infoBlk
  have qT : ∀ (w : World) (a : Option Addr) (n c n' c' : Nat), (binOp .eql 66 (.slice a n c) (.slice none n' c')).run Try.prog w = .ok (.bool a.isNone) w := fun w a n c n' c' => Lib.run_eql_slice_nil w _ _ a n c n' c' Try.underlying66
  have hO := hid (row_none w 81 256)
  have HC := hid (range_cells (w := w.alloc (.cells #[] 81)) (n := n * 256) (x := x) (b := k) (o := 0) ((ha.alloc _).range))
  clear ha
  go_enter Try.func49, Try.ntmps49
  go_wp2_with (at_builtin; refine wpList_append_lies _ rfl (.tmp 5) (.tmp 6) 66 rfl w.heap.size 81 i0 (.agg (vals 256 fun _ => 0).toArray) 256 256 Try.underlying66 hi hz0 hz1 hz2 (by rw [Value.cells, List.size_toArray, vals_length]) (by decide) _ 0 _ rfl (by exact hO.out) ⟨k, 0, none⟩ n c (vals (n * 256) x) rfl (by rw [vals_length]) (by exact HC.out) (vals_one _ _) hn (by unfold maxLen; omega) (by omega) (by simp) _ rfl ?_; intro g3 c3 w3 hO3 hg3 _ _)
  go_ret
  rw [Nat.zero_add, List.nil_append] at hO3
  obtain ⟨e1, e2⟩ : w.heap.size ≤ g3 ∧ n ≤ c3 := by
    rcases hO3.2 with ⟨h1, _⟩ | ⟨g', cap, cur, h1, h2, _, h3, _⟩
    · cases h1
    · cases h1; exact ⟨h2, h3⟩
  exact ⟨g3, c3, rfl, row_arr hO3, e2, e1, ((Below.refl _ _).alloc (Nat.le_refl _) _).grown hg3 (by simp) (fun q hq => (World.ownsRow.lt hO.out q hq).1)⟩

set_option maxHeartbeats 8000000 in
set_option maxRecDepth 100000 in
theorem cloneW_of (B n : Nat) (v : Value) (xs : List Value) (w : World) (hr : w.ownsRow B 83 257 v n xs) (h1 : ∀ u ∈ xs, u.oneCell' = true) (hm : n ≤ 4294967296) :
    Calls Try.prog 50 #[v] w fun e w' => ∃ v', e = .returned v' ∧ w'.ownsRow w.heap.size 83 257 v' n xs ∧ Below w.heap.size w w' := by
  obtain ⟨i0, hi, hz0, hz1, hz2⟩ := info_parts Try.infoWr
  have qT : ∀ (w : World) (a : Option Addr) (n c n' c' : Nat), (binOp .eql 67 (.slice a n c) (.slice none n' c')).run Try.prog w = .ok (.bool a.isNone) w := fun w a n c n' c' => Lib.run_eql_slice_nil w _ _ a n c n' c' Try.underlying67
  have hl := hr.1
  rcases hr.2 with ⟨rfl, rfl⟩ | ⟨k, c, cur, rfl, _⟩
  · obtain rfl : xs = [] := List.length_eq_zero_iff.1 (by omega)
    clear hr
    go_enter Try.func50, Try.ntmps50
    go_wp2
    go_ret
    exact ⟨_, rfl, World.ownsRow_nil _ _ _ _, Below.refl _ _⟩
  · have hO := hid (row_none w 83 257)
    have hb : Below w.heap.size w (w.alloc (.cells #[] 83)) := (Below.refl _ _).alloc (Nat.le_refl _) _
    have HC := hid (World.ownsRow.cells (row_below hr hb) (g := k) rfl)
    have HB := hid hb
    clear hr hb
    by_cases hn : 0 < n
    · go_enter Try.func50, Try.ntmps50
      go_wp2_with (at_builtin; refine wpList_append_lies _ rfl (.tmp 5) (.tmp 6) 67 rfl w.heap.size 83 i0 (.agg (wcell (0, Dst.zeros)).toArray) 257 264 Try.underlying67 hi hz0 hz1 hz2 (by rw [Value.cells, List.size_toArray, wcell_length Dst.zeros_len]) (by decide) _ 0 _ rfl (by exact hO.out) ⟨k, 0, none⟩ n c xs rfl hl (by exact HC.out) h1 hn (by unfold maxLen; omega) (by omega) (by simp) _ rfl ?_; intro g3 c3 w3 hO3 hg3 _ _)
      go_ret
      rw [Nat.zero_add, List.nil_append] at hO3
      exact ⟨_, rfl, hO3, HB.out.grown hg3 (by simp) (fun q hq => (World.ownsRow.lt hO.out q hq).1)⟩
    · obtain rfl : n = 0 := by omega
      obtain rfl : xs = [] := List.length_eq_zero_iff.1 (by omega)
      go_enter Try.func50, Try.ntmps50
      go_wp2_with (at_builtin; refine wpList_append_noneRow rfl (.tmp 5) (.tmp 6) 67 rfl 83 i0 257 Try.underlying67 hi w.heap.size _ 0 [] rfl (by exact hO.out) (some ⟨k, 0, none⟩) c rfl ?_)
      go_ret
      exact ⟨_, rfl, hO.out, HB.out⟩

section
variable {B g : Nat} {F : Nat → Prop} {S : Dst} {w : World}
set_option maxHeartbeats 8000000 in
set_option maxRecDepth 100000 in
theorem dFork_at (h : PDk B w g F S) :
    Calls Try.prog 44 #[.pointer (some ⟨g, 0, none⟩)] w fun e w' => ∃ g2 F2, e = .returned (.pointer (some ⟨g2, 0, none⟩)) ∧ PDk w.heap.size w' g2 F2 S ∧ Below w.heap.size w w' := by
  obtain ⟨kN, cN, kF, cF, vW, fl, ct, hv, hrel⟩ := h.at'
  have hn8 := h.ok.n8
  have hn4 := h.ok.n4
  have hwl := h.hw
  obtain ⟨p, c, hvW⟩ : ∃ p c, vW = .slice p S.ws.length c := by
    rcases hv.rW.2 with ⟨h1, h2⟩ | ⟨k, c, _, h1, _⟩
    · rw [h2]; exact ⟨_, _, h1⟩
    · exact ⟨_, _, h1⟩
  obtain ⟨N, hN⟩ : ∃ n, Hid (n = S.n) := ⟨_, rfl⟩
  obtain ⟨M, hM⟩ : ∃ n, Hid (n = S.ws.length) := ⟨_, rfl⟩
  obtain ⟨st, hst⟩ : ∃ n, Hid (n = S.steps) := ⟨_, rfl⟩
  have H := hid h
  subst hvW
  have hlw : ∀ q ∈ S.ws, q.2.length = 256 := fun q hq => (h.ok.ws q hq).2.1
  have h1w : ∀ u ∈ wcells S.ws, u.oneCell' = true := fun u hu => by
    obtain ⟨q, _, hq⟩ := List.mem_flatMap.1 hu
    exact wcell_one q u hq
  have HV := hid hv
  have c0 := hv.c0
  have c1 := hv.c1
  have c2 := hv.c2
  have c3 := hv.c3
  have c4 := hv.c4
  have c5 := hv.c5
  have c6 := hv.c6
  rw [← hN.out] at c0 c1 hn8 hn4
  rw [← hM.out] at c2 hwl
  rw [← hst.out] at c4
  obtain ⟨dn, hdn⟩ : ∃ d, Hid (d = S.down) := ⟨_, rfl⟩
  rw [← hdn.out] at c3
  have HW1 := hid h1w
  have HR := hid hrel
  obtain ⟨gf, hgf⟩ : ∃ k, Hid (k = w.heap.size) := ⟨_, rfl⟩
  clear hv h hrel hlw h1w
  go_enter Try.func44, Try.ntmps44
  go_upto_region 4 with fail
  have hs1 := Sv.new w (.slice (some ⟨kN, 0, none⟩) N cN) (.slice (some ⟨kF, 0, none⟩) N cF) (.slice p M c) (.bool dn) (.int .u64 (st : Nat)) (.int .u64 (fl : Nat)) (.int .u64 (ct : Nat)) 69
  have hb1 : Below w.heap.size w (w.alloc (.cells #[.slice (some ⟨kN, 0, none⟩) N cN, .slice (some ⟨kF, 0, none⟩) N cF, .slice p M c, .bool dn, .int .u64 (st : Nat), .int .u64 (fl : Nat), .int .u64 (ct : Nat)] 69)) := (Below.refl _ _).alloc (Nat.le_refl _) _
  have hl1 : gf < (w.alloc (.cells #[.slice (some ⟨kN, 0, none⟩) N cN, .slice (some ⟨kF, 0, none⟩) N cF, .slice p M c, .bool dn, .int .u64 (st : Nat), .int .u64 (fl : Nat), .int .u64 (ct : Nat)] 69)).heap.size := by rw [hgf.out]; simp
  have hv1 := HV.out.below hb1
  have HFG : Hid (∀ q, F q → ¬ q = gf) := hid fun q hq e => by have h2 := (HV.out.lt q hq).2; have h3 := hgf.out; omega
  rw [← hgf.out] at hs1 hb1 ⊢
  generalize w.alloc (.cells #[.slice (some ⟨kN, 0, none⟩) N cN, .slice (some ⟨kF, 0, none⟩) N cF, .slice p M c, .bool dn, .int .u64 (st : Nat), .int .u64 (fl : Nat), .int .u64 (ct : Nat)] 69) = w1 at hs1 hb1 hl1 hv1 ⊢
  have hS1 := hid hs1
  have hB1 := hid hb1
  have hV1 := hid hv1
  have c0 := hv1.c0
  have ha := hv1.aN
  rw [← hN.out] at c0 ha
  have HCL := hid (cloneB_of kN N cN (flat S.now) w1 ha (by omega) hn4)
  clear hs1 hb1 hv1 ha c1 c2 c3 c4 c5 c6 HV
  go_wp2_with fail
  refine HCL.out.mono ?_
  rintro e wa ⟨ga, ca, rfl, ha1, hca, hga, hba⟩
  have hSa := hS1.out.below hba
  have hz := hSa.z 0 (by decide)
  have hcc := hSa.c0
  have hgl2 : gf < ga := by omega
  have hS2 := hid (hSa.set 0 (.slice (some ⟨ga, 0, none⟩) N ca))
  have hV2 := hid ((hV1.out.below hba).tb (F' := fun q => q = gf) (Tb.setCell (F := fun q => q = gf) (b := gf) (Tb.refl _ wa) (.inl rfl) 0 (.slice (some ⟨ga, 0, none⟩) N ca)) HFG.out)
  have hA2 := hid (ha1.beside (b' := gf) (by omega) 0 (.slice (some ⟨ga, 0, none⟩) N ca))
  have hB2 := hid ((hB1.out.trans (hba.mono (by omega))).setCell (p := ⟨gf, 0, none⟩) (Nat.le_refl _) (.slice (some ⟨ga, 0, none⟩) N ca))
  have hl2 : gf < wa.heap.size := Nat.lt_of_lt_of_le hl1 hba.size
  have hGA := hid ha1.lt
  clear hba ha1 hSa HCL hS1 hV1 hB1 c0
  go_upto_region 5 with fail
  clear hz hcc
  have hl2' : gf < (wa.setCell ⟨gf, 0, none⟩ (.slice (some ⟨ga, 0, none⟩) N ca)).heap.size := by rw [World.size_setCell]; exact hl2
  have hga2 : ga < (wa.setCell ⟨gf, 0, none⟩ (.slice (some ⟨ga, 0, none⟩) N ca)).heap.size := by rw [World.size_setCell]; exact hGA.out (by omega)
  generalize wa.setCell ⟨gf, 0, none⟩ (.slice (some ⟨ga, 0, none⟩) N ca) = w2 at hS2 hV2 hA2 hB2 hl2' hga2 ⊢
  clear hl2 hGA
  have hv2 := hV2.out
  have c1 := hv2.c1
  have ha := hv2.aF
  rw [← hN.out] at c1 ha
  have HCL := hid (cloneB_of kF N cF (flat S.firm) w2 ha (by omega) hn4)
  clear hv2 ha
  go_wp2_with fail
  refine HCL.out.mono ?_
  rintro e wb ⟨gb, cb, rfl, ha1, hcb, hgb, hba⟩
  have hSa := hS2.out.below hba
  have hz := hSa.z 1 (by decide)
  have hcc : wb.cell? ⟨gf, 1, none⟩ = some (.slice (some ⟨kF, 0, none⟩) N cF) := hSa.c1
  have hS3 := hid (hSa.set 1 (.slice (some ⟨gb, 0, none⟩) N cb))
  have hV3 := hid ((hV2.out.below hba).tb (F' := fun q => q = gf) (Tb.setCell (F := fun q => q = gf) (b := gf) (Tb.refl _ wb) (.inl rfl) 1 (.slice (some ⟨gb, 0, none⟩) N cb)) HFG.out)
  have hA3 := hid ((hA2.out.below hba).beside (b' := gf) (by omega) 1 (.slice (some ⟨gb, 0, none⟩) N cb))
  have hA3b := hid (ha1.beside (b' := gf) (by omega) 1 (.slice (some ⟨gb, 0, none⟩) N cb))
  have hB3 := hid ((hB2.out.trans (hba.mono (by omega))).setCell (p := ⟨gf, 1, none⟩) (Nat.le_refl _) (.slice (some ⟨gb, 0, none⟩) N cb))
  have hl3 : gf < wb.heap.size := Nat.lt_of_lt_of_le hl2' hba.size
  have hga3 : ga < wb.heap.size := Nat.lt_of_lt_of_le hga2 hba.size
  have hGA := hid ha1.lt
  clear hba ha1 hSa HCL hS2 hV2 hB2 hA2 c1
  go_upto_region 6 with fail
  clear hz hcc
  have hl3' : gf < (wb.setCell ⟨gf, 1, none⟩ (.slice (some ⟨gb, 0, none⟩) N cb)).heap.size := by rw [World.size_setCell]; exact hl3
  have hga3' : ga < (wb.setCell ⟨gf, 1, none⟩ (.slice (some ⟨gb, 0, none⟩) N cb)).heap.size := by rw [World.size_setCell]; exact hga3
  have hgb3 : gb < (wb.setCell ⟨gf, 1, none⟩ (.slice (some ⟨gb, 0, none⟩) N cb)).heap.size := by rw [World.size_setCell]; exact hGA.out (by omega)
  generalize wb.setCell ⟨gf, 1, none⟩ (.slice (some ⟨gb, 0, none⟩) N cb) = w3 at hS3 hV3 hA3 hA3b hB3 hl3' hga3' hgb3 ⊢
  clear hl3 hga3 hGA
  have hv3 := hV3.out
  have c2 := hv3.c2
  have hr := hv3.rW
  rw [← hM.out] at c2 hr
  have HCL := hid (cloneW_of B M (.slice p M c) (wcells S.ws) w3 hr HW1.out hwl)
  clear hv3 hr
  go_wp2_with fail
  refine HCL.out.mono ?_
  rintro e wc ⟨vc, rfl, hrc, hba⟩
  have hSa := hS3.out.below hba
  have hz := hSa.z 2 (by decide)
  have hcc : wc.cell? ⟨gf, 2, none⟩ = some (.slice p M c) := hSa.c2
  obtain ⟨pc, cc, rfl⟩ : ∃ p c, vc = .slice p M c := by
    rcases hrc.2 with ⟨h1, h2⟩ | ⟨k, c, _, h1, _⟩
    · rw [h2]; exact ⟨_, _, h1⟩
    · exact ⟨_, _, h1⟩
  have hvl : ∀ q, (Value.slice pc M cc).ownBlock = some q → w3.heap.size ≤ q := fun q hq => (World.ownsRow.lt hrc q hq).1
  have hS4 := hid (hSa.set 2 (.slice pc M cc))
  have hA4 := hid ((hA3.out.below hba).beside (b' := gf) (by omega) 2 (.slice pc M cc))
  have hA4b := hid ((hA3b.out.below hba).beside (b' := gf) (by omega) 2 (.slice pc M cc))
  have hr4 := hid (row_tb (F := fun q => q = gf) hrc (Tb.setCell (F := fun q => q = gf) (b := gf) (Tb.refl _ wc) (.inl rfl) 2 (.slice pc M cc)) (fun q hq e => by have := hvl q hq; omega))
  have hB4 := hid ((hB3.out.trans (hba.mono (by omega))).setCell (p := ⟨gf, 2, none⟩) (Nat.le_refl _) (.slice pc M cc))
  have HVL := hid hvl
  clear hba hSa HCL hS3 hV3 hB3 hA3 hA3b c2 hrc hvl
  go_wp2_with fail
  go_ret
  clear hz hcc
  generalize wc.setCell ⟨gf, 2, none⟩ (.slice pc M cc) = w4 at hS4 hA4 hA4b hr4 hB4 ⊢
  have hs4 := hS4.out
  simp only [if_true, if_false, reduceIte, Nat.reduceEqDiff, Nat.one_ne_zero, Nat.succ_ne_self] at hs4
  have hr5 := hr4.out
  rw [hM.out] at hr5 hs4
  rw [hdn.out, hst.out] at hs4
  have hp := Sv.pdv (B := gf) (ws := S.ws) hs4 hA4.out hA4b.out (row_mono hr5 (by omega)) (by omega) hca hcb (by omega) (by omega) (by omega) (fun q hq => by have := HVL.out q (by rw [hM.out]; exact hq); omega) (Nat.le_refl _) (by omega) (by omega)
  rw [hN.out] at hp
  refine ⟨gf, (fun q => q = gf ∨ q = ga ∨ q = gb ∨ (Value.slice pc S.ws.length cc).ownBlock = some q), rfl, ?_, by have := hB4.out; rw [hgf.out] at this; exact this⟩
  rw [← hgf.out]
  exact ⟨hp.lt, .inl rfl, H.out.ok, H.out.hs, H.out.hw, H.out.calm, ga, ca, gb, cb, _, fl, ct, hp, HR.out⟩
end
end Go.Proofs.Ytlbhoijjbpjmoaa
