/-
  The document's reader: Num and Text, wherever it stands.
-/
import Derived.Test.YtphmdjhmgmjmgaaPrt
import Derived.Test.YtphmdjhmgmjmgaaPx
import Derived.Test.YtphmdjhmgmjmgaaKa
import Derived.Deep.CutRange
import Derived.Deep.DeepCutAuto
namespace Go.Proofs.Ytphmdjhmgmjmgaa
open Go.RowKit
set_option linter.unusedVariables false
set_option linter.unusedSimpArgs false

/-- What stands behind a place of a slice. -/
theorem drop_slice (p : Option Addr) (n c at0 : Nat) (xs : List Int) (hat : at0 ≤ n) (hnc : n ≤ c) (hl : xs.length = n) (hsp : (p = none ∧ c = 0) ∨ ∃ b o, p = some ⟨b, o, none⟩) : ∃ q : Option Addr,
    (∀ w, (Instr.sliceAt 24 (.slice p n c) (some (.int .i64 (at0 : Nat))) none none).run Try.prog w = .ok (.slice q (n - at0 : Nat) (c - at0 : Nat)) w) ∧ ∀ w, Bin w p xs → Bin w q (xs.drop at0) := by
  rcases hsp with ⟨rfl, rfl⟩ | ⟨b, o, rfl⟩
  · obtain rfl : n = 0 := by omega
    obtain rfl : at0 = 0 := by omega
    exact ⟨none, fun w => by kernel_rfl, fun w h => by rw [List.drop_zero]; exact h⟩
  · by_cases hc : c = at0
    · obtain rfl : n = at0 := by omega
      subst hc
      refine ⟨some ⟨b, o, none⟩, fun w => ?_, fun w h => ?_⟩
      · go_simp
      · rw [← hl, List.drop_length]
        exact Bin.nil _ _
    · refine ⟨some ⟨b, o + at0, none⟩, fun w => ?_, fun w h => bin_dropP h at0⟩
      have i7 : ¬ c = at0 := hc
      have i6 : (at0 : Int) ≤ (n : Int) := by omega
      have i5 : (at0 : Int) ≤ (c : Int) := by omega
      go_simp

set_option maxHeartbeats 4000000 in
set_option maxRecDepth 100000 in
theorem refRNum_of (g : Nat) (p : Option Addr) (n c at0 : Nat) (f : Int) (xs : List Int) (w : World) (hR : Rdr w g (.slice p n c) at0 f) (hp : Bin w p xs) (ho : Oct xs) (hl : xs.length = n) (hat : at0 ≤ n) (hm : n ≤ 140737488351232) (hnc : n ≤ c) (hsp : (p = none ∧ c = 0) ∨ ∃ b o, p = some ⟨b, o, none⟩) :
    Calls Try.prog 18 #[.pointer (some ⟨g, 0, none⟩)] w fun e w' => e = .returned (.int .u64 ((rdNum xs at0 f).1 : Nat)) ∧ Rdr w' g (.slice p n c) (rdNum xs at0 f).2.1 (rdNum xs at0 f).2.2 ∧ w.grownBy w' (some g) := by
  have HRR := hid hR
  obtain ⟨c0, c1, c2, z1, z2⟩ := hR
  have hg0 := hid (gb_of (some g) (Below.refl w.heap.size w))
  by_cases hf : f = 0
  · have e : rdNum xs at0 f = ((tkn (xs.drop at0) 0 0).1, at0 + (tkn (xs.drop at0) 0 0).2.1, (tkn (xs.drop at0) 0 0).2.2) := by unfold rdNum; rw [if_pos hf]
    rw [e]
    clear e
    subst hf
    have hk : (tkn (xs.drop at0) 0 0).2.1 ≤ n := by
      have := tkn_k (xs.drop at0) 0 0 (by omega)
      rw [List.length_drop, hl] at this
      omega
    have htk := fun (p' : Option Addr) (c' : Nat) (w' : World) h => (refTaken_of p' c' (n - at0) (xs.drop at0) w' h (ho.drop at0) (by rw [List.length_drop, hl]) (by omega)).mono (fun e w2 h => (And.intro h.1 h.2.symm : _ ∧ w2 = w'))
    obtain ⟨T, hT⟩ : ∃ T, Hid (T = tkn (xs.drop at0) 0 0) := ⟨_, rfl⟩
    rw [← hT.out] at htk hk ⊢
    obtain ⟨t0, t1, t2⟩ := T
    simp only at htk hk ⊢
    have HTK := hid htk
    obtain ⟨q, hq, hqb⟩ := drop_slice p n c at0 xs hat hnc hl hsp
    have HQ := hid hq
    have hbd := hid hqb
    clear htk hq hqb
    go_enter Try.func18, Try.ntmps18
    go_upto_region 3 with fail
    have hS0 : (fun v => Rdr v g (.slice p n c) at0 0 ∧ Bin v p xs ∧ w.grownBy v (some g)) w.drew := ⟨HRR.out.drewN 1, hp, gb_drewN hg0.out 1⟩
    clear hp HRR hg0 c0 c1 c2 z1 z2
    refine wp_region_z (fun v => Rdr v g (.slice p n c) at0 0 ∧ Bin v p xs ∧ w.grownBy v (some g)) 17 (by kernel_rfl) hS0 (fun hS => ?_)
    clear hS0
    generalize World.drew _ = w9 at hS ⊢
    refine wpAnyZ_take (i := 0) (v := .pointer (some ⟨g, 0, none⟩)) rfl (by kernel_rfl) (by kernel_rfl) (by kernel_rfl) (by kernel_rfl) (fun _ _ _ h => h) hS (Or.inl ⟨by kernel_rfl, fun w hS => (by clear hS; go_simp)⟩) ?_
    simp only [Act.put, List.setIfInBounds_toArray, List.set_cons_zero, List.set_cons_succ]
    refine wpAnyZ_take (i := 1) (v := .pointer (some ⟨g, 0, none⟩)) rfl (by kernel_rfl) (by kernel_rfl) (by kernel_rfl) (by kernel_rfl) (fun _ _ _ h => h) hS (Or.inl ⟨by kernel_rfl, fun w hS => (by clear hS; go_simp)⟩) ?_
    simp only [Act.put, List.setIfInBounds_toArray, List.set_cons_zero, List.set_cons_succ]
    refine wpAnyZ_take (i := 2) (v := .pointer (some ⟨g, 0, none⟩)) rfl (by kernel_rfl) (by kernel_rfl) (by kernel_rfl) (by kernel_rfl) (fun _ _ _ h => h) hS (Or.inl ⟨by kernel_rfl, fun w hS => (by clear hS; go_simp)⟩) ?_
    simp only [Act.put, List.setIfInBounds_toArray, List.set_cons_zero, List.set_cons_succ]
    refine wpAnyZ_take (i := 3) (v := .slice p n c) rfl (by kernel_rfl) (by kernel_rfl) (by kernel_rfl) (by kernel_rfl) (fun _ _ _ h => h) hS (Or.inl ⟨by kernel_rfl, fun w hS => (by have hc := hS.1.c0; clear hS; go_simp)⟩) ?_
    simp only [Act.put, List.setIfInBounds_toArray, List.set_cons_zero, List.set_cons_succ]
    refine wpAnyZ_take (i := 4) (v := .pointer (some ⟨g, 0, none⟩)) rfl (by kernel_rfl) (by kernel_rfl) (by kernel_rfl) (by kernel_rfl) (fun _ _ _ h => h) hS (Or.inl ⟨by kernel_rfl, fun w hS => (by clear hS; go_simp)⟩) ?_
    simp only [Act.put, List.setIfInBounds_toArray, List.set_cons_zero, List.set_cons_succ]
    refine wpAnyZ_take (i := 5) (v := .pointer (some ⟨g, 0, none⟩)) rfl (by kernel_rfl) (by kernel_rfl) (by kernel_rfl) (by kernel_rfl) (fun _ _ _ h => h) hS (Or.inl ⟨by kernel_rfl, fun w hS => (by clear hS; go_simp)⟩) ?_
    simp only [Act.put, List.setIfInBounds_toArray, List.set_cons_zero, List.set_cons_succ]
    refine wpAnyZ_take (i := 6) (v := .pointer (some ⟨g, 1, none⟩)) rfl (by kernel_rfl) (by kernel_rfl) (by kernel_rfl) (by kernel_rfl) (fun _ _ _ h => h) hS (Or.inl ⟨by kernel_rfl, fun w hS => (by clear hS; go_simp)⟩) ?_
    simp only [Act.put, List.setIfInBounds_toArray, List.set_cons_zero, List.set_cons_succ]
    refine wpAnyZ_take (i := 7) (v := .int .i64 (at0 : Nat)) rfl (by kernel_rfl) (by kernel_rfl) (by kernel_rfl) (by kernel_rfl) (fun _ _ _ h => h) hS (Or.inl ⟨by kernel_rfl, fun w hS => (by have hc := hS.1.c1; clear hS; go_simp)⟩) ?_
    simp only [Act.put, List.setIfInBounds_toArray, List.set_cons_zero, List.set_cons_succ]
    refine wpAnyZ_take (i := 8) (v := .slice q (n - at0) (c - at0)) rfl (by kernel_rfl) (by kernel_rfl) (by kernel_rfl) (by kernel_rfl) (fun _ _ _ h => h) hS (Or.inl ⟨by kernel_rfl, fun w hS => (by have hc := HQ.out; clear hS; go_simp)⟩) ?_
    simp only [Act.put, List.setIfInBounds_toArray, List.set_cons_zero, List.set_cons_succ]
    refine wpAnyZ_one (i := 9) (by kernel_rfl) rfl (fun K hK => ?_)
    go_simp
    go_at_call 30
    refine (HTK.out _ _ _ (hbd.out _ hS.2.1)).mono ?_
    rintro e v8 ⟨rfl, rfl⟩
    go_wp2_with fail
    refine hK.out _ _ (fun _ => hS) ?_
    clear hK K
    try simp only [Act.put, List.setIfInBounds_toArray, List.set_cons_zero, List.set_cons_succ]
    refine wpAnyZ_take (i := 10) (v := .tuple #[.int .u64 (t0 : Nat), .int .i64 (t1 : Nat), .int .i64 t2]) rfl (by kernel_rfl) (by kernel_rfl) (by kernel_rfl) (by kernel_rfl) (fun _ _ _ h => h) hS (Or.inl ⟨by kernel_rfl, fun w hS => (by clear hS; go_simp)⟩) ?_
    simp only [Act.put, List.setIfInBounds_toArray, List.set_cons_zero, List.set_cons_succ]
    refine wpAnyZ_take (i := 11) (v := .int .u64 (t0 : Nat)) rfl (by kernel_rfl) (by kernel_rfl) (by kernel_rfl) (by kernel_rfl) (fun _ _ _ h => h) hS (Or.inl ⟨by kernel_rfl, fun w hS => (by clear hS; go_simp)⟩) ?_
    simp only [Act.put, List.setIfInBounds_toArray, List.set_cons_zero, List.set_cons_succ]
    refine wpAnyZ_take (i := 12) (v := .int .i64 (t1 : Nat)) rfl (by kernel_rfl) (by kernel_rfl) (by kernel_rfl) (by kernel_rfl) (fun _ _ _ h => h) hS (Or.inl ⟨by kernel_rfl, fun w hS => (by clear hS; go_simp)⟩) ?_
    simp only [Act.put, List.setIfInBounds_toArray, List.set_cons_zero, List.set_cons_succ]
    refine wpAnyZ_take (i := 13) (v := .int .i64 t2) rfl (by kernel_rfl) (by kernel_rfl) (by kernel_rfl) (by kernel_rfl) (fun _ _ _ h => h) hS (Or.inl ⟨by kernel_rfl, fun w hS => (by clear hS; go_simp)⟩) ?_
    simp only [Act.put, List.setIfInBounds_toArray, List.set_cons_zero, List.set_cons_succ]
    refine wpAnyZ_one (i := 14) (by kernel_rfl) rfl (fun K hK => ?_)
    go_simp
    refine hK.out _ _ (fun _ => hS) ?_
    clear hK K
    try simp only [Act.put, List.setIfInBounds_toArray, List.set_cons_zero, List.set_cons_succ]
    refine wpAnyZ_one (i := 15) (by kernel_rfl) rfl (fun K hK => ?_)
    go_simp
    refine hK.out _ _ (fun _ => hS) ?_
    clear hK K
    try simp only [Act.put, List.setIfInBounds_toArray, List.set_cons_zero, List.set_cons_succ]
    refine wpAnyZ_one (i := 16) (by kernel_rfl) rfl (fun K hK => ?_)
    go_simp
    refine hK.out _ _ (fun _ => hS) ?_
    clear hK K
    try simp only [Act.put, List.setIfInBounds_toArray, List.set_cons_zero, List.set_cons_succ]
    refine wpAnyZ_done (by kernel_rfl) ?_ _
    have r1 := hS.1.set2 t2
    have r2 := r1.set1 (at0 + t1)
    have r3 := gb_cell (gb_cell hS.2.2 2 (.int .i64 t2)) 1 (.int .i64 ((at0 + t1 : Nat) : Int))
    have q2 := hid r2
    have q3 := hid r3
    obtain ⟨d0, d1, d2, y1, y2⟩ := r1
    obtain ⟨e0, e1, e2, x1, x2⟩ := hS.1
    have hw : IntKind.i64.wrap ((at0 : Int) + (t1 : Int)) = (at0 : Int) + (t1 : Int) := i64_sum at0 t1 (by omega)
    clear r2 r3 hS
    go_wp2
    go_ret
    exact ⟨rfl, q2.out, q3.out⟩
  · have e : rdNum xs at0 f = (0, at0, f) := by unfold rdNum; rw [if_neg hf]
    rw [e]
    clear e
    go_enter Try.func18, Try.ntmps18
    go_wp2
    go_ret
    exact ⟨rfl, HRR.out, hg0.out⟩

theorem gb_own {w w1 w2 : World} {row row2 : Option Nat} (h : w.grownBy w1 row) (h2 : w1.grownBy w2 row2) (hr : ∀ q, row2 = some q → w.heap.size ≤ q) : w.grownBy w2 row :=
  ⟨h2.os.trans h.os, h2.tape.trans h.tape, h2.output.trans h.output, Nat.le_trans h.size h2.size, fun k hk hne => (h2.block k (Nat.lt_of_lt_of_le hk h.size) (fun e => by have := hr k e.symm; omega)).trans (h.block k hk hne)⟩
theorem Rdr.grown {w w' : World} {g : Nat} {v : Value} {at0 : Nat} {f : Int} {row : Option Nat} (h : Rdr w g v at0 f) (hg : w.grownBy w' row) (hne : some g ≠ row) : Rdr w' g v at0 f := by
  have hl := World.block_lt_of_cell? w _ h.c0
  exact ⟨(hg.cell_far ⟨g, 0, none⟩ hl hne).trans h.c0, (hg.cell_far ⟨g, 1, none⟩ hl hne).trans h.c1, (hg.cell_far ⟨g, 2, none⟩ hl hne).trans h.c2, (hg.frozen_far ⟨g, 1, none⟩ hl hne).trans h.z1, (hg.frozen_far ⟨g, 2, none⟩ hl hne).trans h.z2⟩

set_option maxHeartbeats 8000000 in
set_option maxRecDepth 100000 in
theorem refRText_of (g : Nat) (p : Option Addr) (n c at0 : Nat) (f most : Int) (xs : List Int) (w : World) (hR : Rdr w g (.slice p n c) at0 f) (hp : Bin w p xs) (ho : Oct xs) (hl : xs.length = n) (hat : at0 ≤ n) (hm : n ≤ 140737488351232) (hnc : n ≤ c) (hsp : (p = none ∧ c = 0) ∨ ∃ b o, p = some ⟨b, o, none⟩)
    (hne : ∀ a, p = some a → a.block ≠ g) (hmo : (Lit.int .i64 most).wf = true) :
    Calls Try.prog 22 #[.pointer (some ⟨g, 0, none⟩), .int .i64 most] w fun e w' => ∃ v, e = .returned v ∧ Own w.heap.size w' v (rdText xs most at0 f).1.length (rdText xs most at0 f).1 ∧ Rdr w' g (.slice p n c) (rdText xs most at0 f).2.1 (rdText xs most at0 f).2.2 ∧ w.grownBy w' (some g) := by
  obtain ⟨i0, hi, hz0, hz1, hz2⟩ := info_parts Try.infoU8
  have HRR := hid hR
  have hgl : g < w.heap.size := World.block_lt_of_cell? w _ hR.c0
  obtain ⟨c0, c1, c2, z1, z2⟩ := hR
  have HP0 := hid hp
  have hg0 := hid (gb_of (some g) (Below.refl w.heap.size w))
  have hmr := i64_of_wf hmo
  clear hmo
  by_cases hf : f = 0
  · subst hf
    have hk : (tkn (xs.drop at0) 0 0).2.1 ≤ n - at0 := by
      have := tkn_k (xs.drop at0) 0 0 (by omega)
      rw [List.length_drop, hl] at this
      omega
    have htk := fun (p' : Option Addr) (c' : Nat) (w' : World) h => (refTaken_of p' c' (n - at0) (xs.drop at0) w' h (ho.drop at0) (by rw [List.length_drop, hl]) (by omega)).mono (fun e w2 h => (And.intro h.1 h.2.symm : _ ∧ w2 = w'))
    have hrd : rdText xs most at0 0 = _ := if_neg (by simp)
    rw [hrd, hl]
    clear hrd
    obtain ⟨T, hT⟩ : ∃ T, Hid (T = tkn (xs.drop at0) 0 0) := ⟨_, rfl⟩
    rw [← hT.out] at htk hk ⊢
    obtain ⟨t0, t1, t2⟩ := T
    simp only at htk hk ⊢
    have HTK := hid htk
    obtain ⟨q, hq, hqb⟩ := drop_slice p n c at0 xs hat hnc hl hsp
    have HQ := hid hq
    have hbd := hid hqb
    clear htk hq hqb hT
    by_cases ht2 : t2 = 0
    · by_cases hlong : (if most ≤ 0 then 0 < t0 else most < (t0 : Int))
      · have e : txtE (t0, t1, t2) most (n - at0) = 3 := by rw [txtE, if_neg (by simpa using ht2), if_pos hlong]
        rw [e, if_pos (by decide)]
        clear e
        subst ht2
        by_cases hmz : most ≤ 0
        · rw [if_pos hmz] at hlong
          have i2 : (0 : Int) < (t0 : Int) := by omega
          go_enter Try.func22, Try.ntmps22
          go_upto_region 3 with fail
          have hS0 : (fun v => Rdr v g (.slice p n c) at0 0 ∧ Bin v p xs ∧ w.grownBy v (some g)) w.drew := ⟨HRR.out.drewN 1, hp, gb_drewN hg0.out 1⟩
          clear hp HRR hg0 c0 c1 c2 z1 z2
          refine wp_region_z (fun v => Rdr v g (.slice p n c) at0 0 ∧ Bin v p xs ∧ w.grownBy v (some g)) 17 (by kernel_rfl) hS0 (fun hS => ?_)
          clear hS0
          generalize World.drew _ = w9 at hS ⊢
          refine wpAnyZ_take (i := 0) (v := .pointer (some ⟨g, 0, none⟩)) rfl (by kernel_rfl) (by kernel_rfl) (by kernel_rfl) (by kernel_rfl) (fun _ _ _ h => h) hS (Or.inl ⟨by kernel_rfl, fun w hS => (by clear hS; go_simp)⟩) ?_
          simp only [Act.put, List.setIfInBounds_toArray, List.set_cons_zero, List.set_cons_succ]
          refine wpAnyZ_take (i := 1) (v := .pointer (some ⟨g, 0, none⟩)) rfl (by kernel_rfl) (by kernel_rfl) (by kernel_rfl) (by kernel_rfl) (fun _ _ _ h => h) hS (Or.inl ⟨by kernel_rfl, fun w hS => (by clear hS; go_simp)⟩) ?_
          simp only [Act.put, List.setIfInBounds_toArray, List.set_cons_zero, List.set_cons_succ]
          refine wpAnyZ_take (i := 2) (v := .pointer (some ⟨g, 0, none⟩)) rfl (by kernel_rfl) (by kernel_rfl) (by kernel_rfl) (by kernel_rfl) (fun _ _ _ h => h) hS (Or.inl ⟨by kernel_rfl, fun w hS => (by clear hS; go_simp)⟩) ?_
          simp only [Act.put, List.setIfInBounds_toArray, List.set_cons_zero, List.set_cons_succ]
          refine wpAnyZ_take (i := 3) (v := .slice p n c) rfl (by kernel_rfl) (by kernel_rfl) (by kernel_rfl) (by kernel_rfl) (fun _ _ _ h => h) hS (Or.inl ⟨by kernel_rfl, fun w hS => (by have hc := hS.1.c0; clear hS; go_simp)⟩) ?_
          simp only [Act.put, List.setIfInBounds_toArray, List.set_cons_zero, List.set_cons_succ]
          refine wpAnyZ_take (i := 4) (v := .pointer (some ⟨g, 0, none⟩)) rfl (by kernel_rfl) (by kernel_rfl) (by kernel_rfl) (by kernel_rfl) (fun _ _ _ h => h) hS (Or.inl ⟨by kernel_rfl, fun w hS => (by clear hS; go_simp)⟩) ?_
          simp only [Act.put, List.setIfInBounds_toArray, List.set_cons_zero, List.set_cons_succ]
          refine wpAnyZ_take (i := 5) (v := .pointer (some ⟨g, 0, none⟩)) rfl (by kernel_rfl) (by kernel_rfl) (by kernel_rfl) (by kernel_rfl) (fun _ _ _ h => h) hS (Or.inl ⟨by kernel_rfl, fun w hS => (by clear hS; go_simp)⟩) ?_
          simp only [Act.put, List.setIfInBounds_toArray, List.set_cons_zero, List.set_cons_succ]
          refine wpAnyZ_take (i := 6) (v := .pointer (some ⟨g, 1, none⟩)) rfl (by kernel_rfl) (by kernel_rfl) (by kernel_rfl) (by kernel_rfl) (fun _ _ _ h => h) hS (Or.inl ⟨by kernel_rfl, fun w hS => (by clear hS; go_simp)⟩) ?_
          simp only [Act.put, List.setIfInBounds_toArray, List.set_cons_zero, List.set_cons_succ]
          refine wpAnyZ_take (i := 7) (v := .int .i64 (at0 : Nat)) rfl (by kernel_rfl) (by kernel_rfl) (by kernel_rfl) (by kernel_rfl) (fun _ _ _ h => h) hS (Or.inl ⟨by kernel_rfl, fun w hS => (by have hc := hS.1.c1; clear hS; go_simp)⟩) ?_
          simp only [Act.put, List.setIfInBounds_toArray, List.set_cons_zero, List.set_cons_succ]
          refine wpAnyZ_take (i := 8) (v := .slice q (n - at0) (c - at0)) rfl (by kernel_rfl) (by kernel_rfl) (by kernel_rfl) (by kernel_rfl) (fun _ _ _ h => h) hS (Or.inl ⟨by kernel_rfl, fun w hS => (by have hc := HQ.out; clear hS; go_simp)⟩) ?_
          simp only [Act.put, List.setIfInBounds_toArray, List.set_cons_zero, List.set_cons_succ]
          refine wpAnyZ_one (i := 9) (by kernel_rfl) rfl (fun K hK => ?_)
          go_simp
          go_at_call 30
          refine (HTK.out _ _ _ (hbd.out _ hS.2.1)).mono ?_
          rintro e v8 ⟨rfl, rfl⟩
          go_wp2_with fail
          refine hK.out _ _ (fun _ => hS) ?_
          clear hK K
          try simp only [Act.put, List.setIfInBounds_toArray, List.set_cons_zero, List.set_cons_succ]
          refine wpAnyZ_take (i := 10) (v := .tuple #[.int .u64 (t0 : Nat), .int .i64 (t1 : Nat), .int .i64 0]) rfl (by kernel_rfl) (by kernel_rfl) (by kernel_rfl) (by kernel_rfl) (fun _ _ _ h => h) hS (Or.inl ⟨by kernel_rfl, fun w hS => (by clear hS; go_simp)⟩) ?_
          simp only [Act.put, List.setIfInBounds_toArray, List.set_cons_zero, List.set_cons_succ]
          refine wpAnyZ_take (i := 11) (v := .int .u64 (t0 : Nat)) rfl (by kernel_rfl) (by kernel_rfl) (by kernel_rfl) (by kernel_rfl) (fun _ _ _ h => h) hS (Or.inl ⟨by kernel_rfl, fun w hS => (by clear hS; go_simp)⟩) ?_
          simp only [Act.put, List.setIfInBounds_toArray, List.set_cons_zero, List.set_cons_succ]
          refine wpAnyZ_take (i := 12) (v := .int .i64 (t1 : Nat)) rfl (by kernel_rfl) (by kernel_rfl) (by kernel_rfl) (by kernel_rfl) (fun _ _ _ h => h) hS (Or.inl ⟨by kernel_rfl, fun w hS => (by clear hS; go_simp)⟩) ?_
          simp only [Act.put, List.setIfInBounds_toArray, List.set_cons_zero, List.set_cons_succ]
          refine wpAnyZ_take (i := 13) (v := .int .i64 0) rfl (by kernel_rfl) (by kernel_rfl) (by kernel_rfl) (by kernel_rfl) (fun _ _ _ h => h) hS (Or.inl ⟨by kernel_rfl, fun w hS => (by clear hS; go_simp)⟩) ?_
          simp only [Act.put, List.setIfInBounds_toArray, List.set_cons_zero, List.set_cons_succ]
          refine wpAnyZ_one (i := 14) (by kernel_rfl) rfl (fun K hK => ?_)
          go_simp
          refine hK.out _ _ (fun _ => hS) ?_
          clear hK K
          try simp only [Act.put, List.setIfInBounds_toArray, List.set_cons_zero, List.set_cons_succ]
          refine wpAnyZ_one (i := 15) (by kernel_rfl) rfl (fun K hK => ?_)
          go_simp
          refine hK.out _ _ (fun _ => hS) ?_
          clear hK K
          try simp only [Act.put, List.setIfInBounds_toArray, List.set_cons_zero, List.set_cons_succ]
          refine wpAnyZ_one (i := 16) (by kernel_rfl) rfl (fun K hK => ?_)
          go_simp
          refine hK.out _ _ (fun _ => hS) ?_
          clear hK K
          try simp only [Act.put, List.setIfInBounds_toArray, List.set_cons_zero, List.set_cons_succ]
          refine wpAnyZ_done (by kernel_rfl) ?_ _
          have q2 := hid (hS.1.set2 3)
          have q3 := hid (gb_cell hS.2.2 2 (.int .i64 3))
          obtain ⟨d0, d1, d2, y1, y2⟩ := hS.1
          clear hS
          go_upto_region 6 with fail
          go_quiet (fail)
          go_wp2
          go_ret
          exact ⟨_, rfl, Own.nil _ _, q2.out.drewN _, gb_drewN q3.out _⟩
        · rw [if_neg hmz] at hlong
          have i1 : (0 : Int) < most := by omega
          have hw1 : IntKind.u64.wrap most = most := by simp [IntKind.wrap, IntKind.signed, IntKind.bits]; omega
          go_enter Try.func22, Try.ntmps22
          go_upto_region 3 with fail
          have hS0 : (fun v => Rdr v g (.slice p n c) at0 0 ∧ Bin v p xs ∧ w.grownBy v (some g)) w.drew := ⟨HRR.out.drewN 1, hp, gb_drewN hg0.out 1⟩
          clear hp HRR hg0 c0 c1 c2 z1 z2
          refine wp_region_z (fun v => Rdr v g (.slice p n c) at0 0 ∧ Bin v p xs ∧ w.grownBy v (some g)) 17 (by kernel_rfl) hS0 (fun hS => ?_)
          clear hS0
          generalize World.drew _ = w9 at hS ⊢
          refine wpAnyZ_take (i := 0) (v := .pointer (some ⟨g, 0, none⟩)) rfl (by kernel_rfl) (by kernel_rfl) (by kernel_rfl) (by kernel_rfl) (fun _ _ _ h => h) hS (Or.inl ⟨by kernel_rfl, fun w hS => (by clear hS; go_simp)⟩) ?_
          simp only [Act.put, List.setIfInBounds_toArray, List.set_cons_zero, List.set_cons_succ]
          refine wpAnyZ_take (i := 1) (v := .pointer (some ⟨g, 0, none⟩)) rfl (by kernel_rfl) (by kernel_rfl) (by kernel_rfl) (by kernel_rfl) (fun _ _ _ h => h) hS (Or.inl ⟨by kernel_rfl, fun w hS => (by clear hS; go_simp)⟩) ?_
          simp only [Act.put, List.setIfInBounds_toArray, List.set_cons_zero, List.set_cons_succ]
          refine wpAnyZ_take (i := 2) (v := .pointer (some ⟨g, 0, none⟩)) rfl (by kernel_rfl) (by kernel_rfl) (by kernel_rfl) (by kernel_rfl) (fun _ _ _ h => h) hS (Or.inl ⟨by kernel_rfl, fun w hS => (by clear hS; go_simp)⟩) ?_
          simp only [Act.put, List.setIfInBounds_toArray, List.set_cons_zero, List.set_cons_succ]
          refine wpAnyZ_take (i := 3) (v := .slice p n c) rfl (by kernel_rfl) (by kernel_rfl) (by kernel_rfl) (by kernel_rfl) (fun _ _ _ h => h) hS (Or.inl ⟨by kernel_rfl, fun w hS => (by have hc := hS.1.c0; clear hS; go_simp)⟩) ?_
          simp only [Act.put, List.setIfInBounds_toArray, List.set_cons_zero, List.set_cons_succ]
          refine wpAnyZ_take (i := 4) (v := .pointer (some ⟨g, 0, none⟩)) rfl (by kernel_rfl) (by kernel_rfl) (by kernel_rfl) (by kernel_rfl) (fun _ _ _ h => h) hS (Or.inl ⟨by kernel_rfl, fun w hS => (by clear hS; go_simp)⟩) ?_
          simp only [Act.put, List.setIfInBounds_toArray, List.set_cons_zero, List.set_cons_succ]
          refine wpAnyZ_take (i := 5) (v := .pointer (some ⟨g, 0, none⟩)) rfl (by kernel_rfl) (by kernel_rfl) (by kernel_rfl) (by kernel_rfl) (fun _ _ _ h => h) hS (Or.inl ⟨by kernel_rfl, fun w hS => (by clear hS; go_simp)⟩) ?_
          simp only [Act.put, List.setIfInBounds_toArray, List.set_cons_zero, List.set_cons_succ]
          refine wpAnyZ_take (i := 6) (v := .pointer (some ⟨g, 1, none⟩)) rfl (by kernel_rfl) (by kernel_rfl) (by kernel_rfl) (by kernel_rfl) (fun _ _ _ h => h) hS (Or.inl ⟨by kernel_rfl, fun w hS => (by clear hS; go_simp)⟩) ?_
          simp only [Act.put, List.setIfInBounds_toArray, List.set_cons_zero, List.set_cons_succ]
          refine wpAnyZ_take (i := 7) (v := .int .i64 (at0 : Nat)) rfl (by kernel_rfl) (by kernel_rfl) (by kernel_rfl) (by kernel_rfl) (fun _ _ _ h => h) hS (Or.inl ⟨by kernel_rfl, fun w hS => (by have hc := hS.1.c1; clear hS; go_simp)⟩) ?_
          simp only [Act.put, List.setIfInBounds_toArray, List.set_cons_zero, List.set_cons_succ]
          refine wpAnyZ_take (i := 8) (v := .slice q (n - at0) (c - at0)) rfl (by kernel_rfl) (by kernel_rfl) (by kernel_rfl) (by kernel_rfl) (fun _ _ _ h => h) hS (Or.inl ⟨by kernel_rfl, fun w hS => (by have hc := HQ.out; clear hS; go_simp)⟩) ?_
          simp only [Act.put, List.setIfInBounds_toArray, List.set_cons_zero, List.set_cons_succ]
          refine wpAnyZ_one (i := 9) (by kernel_rfl) rfl (fun K hK => ?_)
          go_simp
          go_at_call 30
          refine (HTK.out _ _ _ (hbd.out _ hS.2.1)).mono ?_
          rintro e v8 ⟨rfl, rfl⟩
          go_wp2_with fail
          refine hK.out _ _ (fun _ => hS) ?_
          clear hK K
          try simp only [Act.put, List.setIfInBounds_toArray, List.set_cons_zero, List.set_cons_succ]
          refine wpAnyZ_take (i := 10) (v := .tuple #[.int .u64 (t0 : Nat), .int .i64 (t1 : Nat), .int .i64 0]) rfl (by kernel_rfl) (by kernel_rfl) (by kernel_rfl) (by kernel_rfl) (fun _ _ _ h => h) hS (Or.inl ⟨by kernel_rfl, fun w hS => (by clear hS; go_simp)⟩) ?_
          simp only [Act.put, List.setIfInBounds_toArray, List.set_cons_zero, List.set_cons_succ]
          refine wpAnyZ_take (i := 11) (v := .int .u64 (t0 : Nat)) rfl (by kernel_rfl) (by kernel_rfl) (by kernel_rfl) (by kernel_rfl) (fun _ _ _ h => h) hS (Or.inl ⟨by kernel_rfl, fun w hS => (by clear hS; go_simp)⟩) ?_
          simp only [Act.put, List.setIfInBounds_toArray, List.set_cons_zero, List.set_cons_succ]
          refine wpAnyZ_take (i := 12) (v := .int .i64 (t1 : Nat)) rfl (by kernel_rfl) (by kernel_rfl) (by kernel_rfl) (by kernel_rfl) (fun _ _ _ h => h) hS (Or.inl ⟨by kernel_rfl, fun w hS => (by clear hS; go_simp)⟩) ?_
          simp only [Act.put, List.setIfInBounds_toArray, List.set_cons_zero, List.set_cons_succ]
          refine wpAnyZ_take (i := 13) (v := .int .i64 0) rfl (by kernel_rfl) (by kernel_rfl) (by kernel_rfl) (by kernel_rfl) (fun _ _ _ h => h) hS (Or.inl ⟨by kernel_rfl, fun w hS => (by clear hS; go_simp)⟩) ?_
          simp only [Act.put, List.setIfInBounds_toArray, List.set_cons_zero, List.set_cons_succ]
          refine wpAnyZ_one (i := 14) (by kernel_rfl) rfl (fun K hK => ?_)
          go_simp
          refine hK.out _ _ (fun _ => hS) ?_
          clear hK K
          try simp only [Act.put, List.setIfInBounds_toArray, List.set_cons_zero, List.set_cons_succ]
          refine wpAnyZ_one (i := 15) (by kernel_rfl) rfl (fun K hK => ?_)
          go_simp
          refine hK.out _ _ (fun _ => hS) ?_
          clear hK K
          try simp only [Act.put, List.setIfInBounds_toArray, List.set_cons_zero, List.set_cons_succ]
          refine wpAnyZ_one (i := 16) (by kernel_rfl) rfl (fun K hK => ?_)
          go_simp
          refine hK.out _ _ (fun _ => hS) ?_
          clear hK K
          try simp only [Act.put, List.setIfInBounds_toArray, List.set_cons_zero, List.set_cons_succ]
          refine wpAnyZ_done (by kernel_rfl) ?_ _
          have q2 := hid (hS.1.set2 3)
          have q3 := hid (gb_cell hS.2.2 2 (.int .i64 3))
          obtain ⟨d0, d1, d2, y1, y2⟩ := hS.1
          clear hS
          go_upto_region 6 with fail
          go_quiet (fail)
          go_wp2
          go_ret
          exact ⟨_, rfl, Own.nil _ _, q2.out.drewN _, gb_drewN q3.out _⟩
      · by_cases hsh : n - at0 - t1 < t0
        · have e : txtE (t0, t1, t2) most (n - at0) = 4 := by rw [txtE, if_neg (by simpa using ht2), if_neg hlong, if_pos hsh]
          rw [e, if_pos (by decide)]
          clear e
          subst ht2
          have hmz : ¬ most ≤ 0 := fun h => by rw [if_pos h] at hlong; omega
          rw [if_neg hmz] at hlong
          have i1 : (0 : Int) < most := by omega
          have hw1 : IntKind.u64.wrap most = most := by simp [IntKind.wrap, IntKind.signed, IntKind.bits]; omega
          obtain ⟨m, hm'⟩ : ∃ m, Hid (m = n - at0) := ⟨_, rfl⟩
          rw [← hm'.out] at hk hsh
          obtain ⟨r, hr⟩ : ∃ r, Hid (r = m - t1) := ⟨_, rfl⟩
          rw [← hr.out] at hsh
          have hr0 := hr.out
          have hm0 := hm'.out
          have j1 : (n : Int) - (at0 : Int) = (m : Int) := by omega
          have j2 : (m : Int) - (t1 : Int) = (r : Int) := by omega
          have j3 : IntKind.u64.wrap (r : Int) = (r : Int) := by simp [IntKind.wrap, IntKind.signed, IntKind.bits]; omega
          have j4 : (r : Int) < (t0 : Int) := by omega
          have j5 : (t0 : Int) ≤ most := by omega
          clear hr0 hm0
          go_enter Try.func22, Try.ntmps22
          go_upto_region 3 with fail
          have hS0 : (fun v => Rdr v g (.slice p n c) at0 0 ∧ Bin v p xs ∧ w.grownBy v (some g)) w.drew := ⟨HRR.out.drewN 1, hp, gb_drewN hg0.out 1⟩
          clear hp HRR hg0 c0 c1 c2 z1 z2
          refine wp_region_z (fun v => Rdr v g (.slice p n c) at0 0 ∧ Bin v p xs ∧ w.grownBy v (some g)) 17 (by kernel_rfl) hS0 (fun hS => ?_)
          clear hS0
          generalize World.drew _ = w9 at hS ⊢
          refine wpAnyZ_take (i := 0) (v := .pointer (some ⟨g, 0, none⟩)) rfl (by kernel_rfl) (by kernel_rfl) (by kernel_rfl) (by kernel_rfl) (fun _ _ _ h => h) hS (Or.inl ⟨by kernel_rfl, fun w hS => (by clear hS; go_simp)⟩) ?_
          simp only [Act.put, List.setIfInBounds_toArray, List.set_cons_zero, List.set_cons_succ]
          refine wpAnyZ_take (i := 1) (v := .pointer (some ⟨g, 0, none⟩)) rfl (by kernel_rfl) (by kernel_rfl) (by kernel_rfl) (by kernel_rfl) (fun _ _ _ h => h) hS (Or.inl ⟨by kernel_rfl, fun w hS => (by clear hS; go_simp)⟩) ?_
          simp only [Act.put, List.setIfInBounds_toArray, List.set_cons_zero, List.set_cons_succ]
          refine wpAnyZ_take (i := 2) (v := .pointer (some ⟨g, 0, none⟩)) rfl (by kernel_rfl) (by kernel_rfl) (by kernel_rfl) (by kernel_rfl) (fun _ _ _ h => h) hS (Or.inl ⟨by kernel_rfl, fun w hS => (by clear hS; go_simp)⟩) ?_
          simp only [Act.put, List.setIfInBounds_toArray, List.set_cons_zero, List.set_cons_succ]
          refine wpAnyZ_take (i := 3) (v := .slice p n c) rfl (by kernel_rfl) (by kernel_rfl) (by kernel_rfl) (by kernel_rfl) (fun _ _ _ h => h) hS (Or.inl ⟨by kernel_rfl, fun w hS => (by have hc := hS.1.c0; clear hS; go_simp)⟩) ?_
          simp only [Act.put, List.setIfInBounds_toArray, List.set_cons_zero, List.set_cons_succ]
          refine wpAnyZ_take (i := 4) (v := .pointer (some ⟨g, 0, none⟩)) rfl (by kernel_rfl) (by kernel_rfl) (by kernel_rfl) (by kernel_rfl) (fun _ _ _ h => h) hS (Or.inl ⟨by kernel_rfl, fun w hS => (by clear hS; go_simp)⟩) ?_
          simp only [Act.put, List.setIfInBounds_toArray, List.set_cons_zero, List.set_cons_succ]
          refine wpAnyZ_take (i := 5) (v := .pointer (some ⟨g, 0, none⟩)) rfl (by kernel_rfl) (by kernel_rfl) (by kernel_rfl) (by kernel_rfl) (fun _ _ _ h => h) hS (Or.inl ⟨by kernel_rfl, fun w hS => (by clear hS; go_simp)⟩) ?_
          simp only [Act.put, List.setIfInBounds_toArray, List.set_cons_zero, List.set_cons_succ]
          refine wpAnyZ_take (i := 6) (v := .pointer (some ⟨g, 1, none⟩)) rfl (by kernel_rfl) (by kernel_rfl) (by kernel_rfl) (by kernel_rfl) (fun _ _ _ h => h) hS (Or.inl ⟨by kernel_rfl, fun w hS => (by clear hS; go_simp)⟩) ?_
          simp only [Act.put, List.setIfInBounds_toArray, List.set_cons_zero, List.set_cons_succ]
          refine wpAnyZ_take (i := 7) (v := .int .i64 (at0 : Nat)) rfl (by kernel_rfl) (by kernel_rfl) (by kernel_rfl) (by kernel_rfl) (fun _ _ _ h => h) hS (Or.inl ⟨by kernel_rfl, fun w hS => (by have hc := hS.1.c1; clear hS; go_simp)⟩) ?_
          simp only [Act.put, List.setIfInBounds_toArray, List.set_cons_zero, List.set_cons_succ]
          refine wpAnyZ_take (i := 8) (v := .slice q (n - at0) (c - at0)) rfl (by kernel_rfl) (by kernel_rfl) (by kernel_rfl) (by kernel_rfl) (fun _ _ _ h => h) hS (Or.inl ⟨by kernel_rfl, fun w hS => (by have hc := HQ.out; clear hS; go_simp)⟩) ?_
          simp only [Act.put, List.setIfInBounds_toArray, List.set_cons_zero, List.set_cons_succ]
          refine wpAnyZ_one (i := 9) (by kernel_rfl) rfl (fun K hK => ?_)
          go_simp
          go_at_call 30
          refine (HTK.out _ _ _ (hbd.out _ hS.2.1)).mono ?_
          rintro e v8 ⟨rfl, rfl⟩
          go_wp2_with fail
          refine hK.out _ _ (fun _ => hS) ?_
          clear hK K
          try simp only [Act.put, List.setIfInBounds_toArray, List.set_cons_zero, List.set_cons_succ]
          refine wpAnyZ_take (i := 10) (v := .tuple #[.int .u64 (t0 : Nat), .int .i64 (t1 : Nat), .int .i64 0]) rfl (by kernel_rfl) (by kernel_rfl) (by kernel_rfl) (by kernel_rfl) (fun _ _ _ h => h) hS (Or.inl ⟨by kernel_rfl, fun w hS => (by clear hS; go_simp)⟩) ?_
          simp only [Act.put, List.setIfInBounds_toArray, List.set_cons_zero, List.set_cons_succ]
          refine wpAnyZ_take (i := 11) (v := .int .u64 (t0 : Nat)) rfl (by kernel_rfl) (by kernel_rfl) (by kernel_rfl) (by kernel_rfl) (fun _ _ _ h => h) hS (Or.inl ⟨by kernel_rfl, fun w hS => (by clear hS; go_simp)⟩) ?_
          simp only [Act.put, List.setIfInBounds_toArray, List.set_cons_zero, List.set_cons_succ]
          refine wpAnyZ_take (i := 12) (v := .int .i64 (t1 : Nat)) rfl (by kernel_rfl) (by kernel_rfl) (by kernel_rfl) (by kernel_rfl) (fun _ _ _ h => h) hS (Or.inl ⟨by kernel_rfl, fun w hS => (by clear hS; go_simp)⟩) ?_
          simp only [Act.put, List.setIfInBounds_toArray, List.set_cons_zero, List.set_cons_succ]
          refine wpAnyZ_take (i := 13) (v := .int .i64 0) rfl (by kernel_rfl) (by kernel_rfl) (by kernel_rfl) (by kernel_rfl) (fun _ _ _ h => h) hS (Or.inl ⟨by kernel_rfl, fun w hS => (by clear hS; go_simp)⟩) ?_
          simp only [Act.put, List.setIfInBounds_toArray, List.set_cons_zero, List.set_cons_succ]
          refine wpAnyZ_one (i := 14) (by kernel_rfl) rfl (fun K hK => ?_)
          go_simp
          refine hK.out _ _ (fun _ => hS) ?_
          clear hK K
          try simp only [Act.put, List.setIfInBounds_toArray, List.set_cons_zero, List.set_cons_succ]
          refine wpAnyZ_one (i := 15) (by kernel_rfl) rfl (fun K hK => ?_)
          go_simp
          refine hK.out _ _ (fun _ => hS) ?_
          clear hK K
          try simp only [Act.put, List.setIfInBounds_toArray, List.set_cons_zero, List.set_cons_succ]
          refine wpAnyZ_one (i := 16) (by kernel_rfl) rfl (fun K hK => ?_)
          go_simp
          refine hK.out _ _ (fun _ => hS) ?_
          clear hK K
          try simp only [Act.put, List.setIfInBounds_toArray, List.set_cons_zero, List.set_cons_succ]
          refine wpAnyZ_done (by kernel_rfl) ?_ _
          have q2 := hid (hS.1.set2 4)
          have q3 := hid (gb_cell hS.2.2 2 (.int .i64 4))
          obtain ⟨d0, d1, d2, y1, y2⟩ := hS.1
          clear hS
          go_upto_region 6 with fail
          go_quiet (fail)
          go_wp2
          go_ret
          exact ⟨_, rfl, Own.nil _ _, q2.out.drewN _, gb_drewN q3.out _⟩
        · have e : txtE (t0, t1, t2) most (n - at0) = 0 := by rw [txtE, if_neg (by simpa using ht2), if_neg hlong, if_neg hsh]
          rw [e, if_neg (by decide)]
          clear e
          subst ht2
          obtain ⟨m, hm'⟩ : ∃ m, Hid (m = n - at0) := ⟨_, rfl⟩
          have hm0 : m ≤ n ∧ at0 + m = n := by have := hm'.out; omega
          rw [← hm'.out] at hk hsh
          obtain ⟨r, hr⟩ : ∃ r, Hid (r = m - t1) := ⟨_, rfl⟩
          rw [← hr.out] at hsh
          have hr0 : r ≤ n ∧ t1 + r = m := by have := hr.out; omega
          have j1 : (n : Int) - (at0 : Int) = (m : Int) := by omega
          have j2 : (m : Int) - (t1 : Int) = (r : Int) := by omega
          have j3 : IntKind.u64.wrap (r : Int) = (r : Int) := by simp [IntKind.wrap, IntKind.signed, IntKind.bits]; omega
          have j4 : ¬ (r : Int) < (t0 : Int) := by omega
          have j6 : IntKind.i64.wrap (t0 : Int) = (t0 : Int) := by simp [IntKind.wrap, IntKind.signed, IntKind.bits]; omega
          have ht0 : t0 ≤ n := by omega
          obtain ⟨A, hA⟩ : ∃ A, Hid (A = at0 + t1) := ⟨_, rfl⟩
          have hA0 : A + t0 ≤ n := by have := hA.out; omega
          have j7 : IntKind.i64.wrap ((at0 : Int) + (t1 : Int)) = (A : Int) := by rw [i64_sum at0 t1 (by omega), hA.out]; omega
          rw [← hA.out]
          obtain ⟨Y, hY⟩ : ∃ Y, Hid (Y = (xs.drop A).take t0) := ⟨_, rfl⟩
          rw [← hY.out]
          by_cases hmz : most ≤ 0
          · rw [if_pos hmz] at hlong
            have i2 : ¬ (0 : Int) < (t0 : Int) := by omega
            go_enter Try.func22, Try.ntmps22
            go_upto_region 3 with fail
            have hS0 : (fun v => Rdr v g (.slice p n c) at0 0 ∧ Bin v p xs ∧ w.grownBy v (some g)) w.drew := ⟨HRR.out.drewN 1, hp, gb_drewN hg0.out 1⟩
            clear hp HRR hg0 c0 c1 c2 z1 z2
            refine wp_region_z (fun v => Rdr v g (.slice p n c) at0 0 ∧ Bin v p xs ∧ w.grownBy v (some g)) 17 (by kernel_rfl) hS0 (fun hS => ?_)
            clear hS0
            generalize World.drew _ = w9 at hS ⊢
            refine wpAnyZ_take (i := 0) (v := .pointer (some ⟨g, 0, none⟩)) rfl (by kernel_rfl) (by kernel_rfl) (by kernel_rfl) (by kernel_rfl) (fun _ _ _ h => h) hS (Or.inl ⟨by kernel_rfl, fun w hS => (by clear hS; go_simp)⟩) ?_
            simp only [Act.put, List.setIfInBounds_toArray, List.set_cons_zero, List.set_cons_succ]
            refine wpAnyZ_take (i := 1) (v := .pointer (some ⟨g, 0, none⟩)) rfl (by kernel_rfl) (by kernel_rfl) (by kernel_rfl) (by kernel_rfl) (fun _ _ _ h => h) hS (Or.inl ⟨by kernel_rfl, fun w hS => (by clear hS; go_simp)⟩) ?_
            simp only [Act.put, List.setIfInBounds_toArray, List.set_cons_zero, List.set_cons_succ]
            refine wpAnyZ_take (i := 2) (v := .pointer (some ⟨g, 0, none⟩)) rfl (by kernel_rfl) (by kernel_rfl) (by kernel_rfl) (by kernel_rfl) (fun _ _ _ h => h) hS (Or.inl ⟨by kernel_rfl, fun w hS => (by clear hS; go_simp)⟩) ?_
            simp only [Act.put, List.setIfInBounds_toArray, List.set_cons_zero, List.set_cons_succ]
            refine wpAnyZ_take (i := 3) (v := .slice p n c) rfl (by kernel_rfl) (by kernel_rfl) (by kernel_rfl) (by kernel_rfl) (fun _ _ _ h => h) hS (Or.inl ⟨by kernel_rfl, fun w hS => (by have hc := hS.1.c0; clear hS; go_simp)⟩) ?_
            simp only [Act.put, List.setIfInBounds_toArray, List.set_cons_zero, List.set_cons_succ]
            refine wpAnyZ_take (i := 4) (v := .pointer (some ⟨g, 0, none⟩)) rfl (by kernel_rfl) (by kernel_rfl) (by kernel_rfl) (by kernel_rfl) (fun _ _ _ h => h) hS (Or.inl ⟨by kernel_rfl, fun w hS => (by clear hS; go_simp)⟩) ?_
            simp only [Act.put, List.setIfInBounds_toArray, List.set_cons_zero, List.set_cons_succ]
            refine wpAnyZ_take (i := 5) (v := .pointer (some ⟨g, 0, none⟩)) rfl (by kernel_rfl) (by kernel_rfl) (by kernel_rfl) (by kernel_rfl) (fun _ _ _ h => h) hS (Or.inl ⟨by kernel_rfl, fun w hS => (by clear hS; go_simp)⟩) ?_
            simp only [Act.put, List.setIfInBounds_toArray, List.set_cons_zero, List.set_cons_succ]
            refine wpAnyZ_take (i := 6) (v := .pointer (some ⟨g, 1, none⟩)) rfl (by kernel_rfl) (by kernel_rfl) (by kernel_rfl) (by kernel_rfl) (fun _ _ _ h => h) hS (Or.inl ⟨by kernel_rfl, fun w hS => (by clear hS; go_simp)⟩) ?_
            simp only [Act.put, List.setIfInBounds_toArray, List.set_cons_zero, List.set_cons_succ]
            refine wpAnyZ_take (i := 7) (v := .int .i64 (at0 : Nat)) rfl (by kernel_rfl) (by kernel_rfl) (by kernel_rfl) (by kernel_rfl) (fun _ _ _ h => h) hS (Or.inl ⟨by kernel_rfl, fun w hS => (by have hc := hS.1.c1; clear hS; go_simp)⟩) ?_
            simp only [Act.put, List.setIfInBounds_toArray, List.set_cons_zero, List.set_cons_succ]
            refine wpAnyZ_take (i := 8) (v := .slice q (n - at0) (c - at0)) rfl (by kernel_rfl) (by kernel_rfl) (by kernel_rfl) (by kernel_rfl) (fun _ _ _ h => h) hS (Or.inl ⟨by kernel_rfl, fun w hS => (by have hc := HQ.out; clear hS; go_simp)⟩) ?_
            simp only [Act.put, List.setIfInBounds_toArray, List.set_cons_zero, List.set_cons_succ]
            refine wpAnyZ_one (i := 9) (by kernel_rfl) rfl (fun K hK => ?_)
            go_simp
            go_at_call 30
            refine (HTK.out _ _ _ (hbd.out _ hS.2.1)).mono ?_
            rintro e v8 ⟨rfl, rfl⟩
            go_wp2_with fail
            refine hK.out _ _ (fun _ => hS) ?_
            clear hK K
            try simp only [Act.put, List.setIfInBounds_toArray, List.set_cons_zero, List.set_cons_succ]
            refine wpAnyZ_take (i := 10) (v := .tuple #[.int .u64 (t0 : Nat), .int .i64 (t1 : Nat), .int .i64 0]) rfl (by kernel_rfl) (by kernel_rfl) (by kernel_rfl) (by kernel_rfl) (fun _ _ _ h => h) hS (Or.inl ⟨by kernel_rfl, fun w hS => (by clear hS; go_simp)⟩) ?_
            simp only [Act.put, List.setIfInBounds_toArray, List.set_cons_zero, List.set_cons_succ]
            refine wpAnyZ_take (i := 11) (v := .int .u64 (t0 : Nat)) rfl (by kernel_rfl) (by kernel_rfl) (by kernel_rfl) (by kernel_rfl) (fun _ _ _ h => h) hS (Or.inl ⟨by kernel_rfl, fun w hS => (by clear hS; go_simp)⟩) ?_
            simp only [Act.put, List.setIfInBounds_toArray, List.set_cons_zero, List.set_cons_succ]
            refine wpAnyZ_take (i := 12) (v := .int .i64 (t1 : Nat)) rfl (by kernel_rfl) (by kernel_rfl) (by kernel_rfl) (by kernel_rfl) (fun _ _ _ h => h) hS (Or.inl ⟨by kernel_rfl, fun w hS => (by clear hS; go_simp)⟩) ?_
            simp only [Act.put, List.setIfInBounds_toArray, List.set_cons_zero, List.set_cons_succ]
            refine wpAnyZ_take (i := 13) (v := .int .i64 0) rfl (by kernel_rfl) (by kernel_rfl) (by kernel_rfl) (by kernel_rfl) (fun _ _ _ h => h) hS (Or.inl ⟨by kernel_rfl, fun w hS => (by clear hS; go_simp)⟩) ?_
            simp only [Act.put, List.setIfInBounds_toArray, List.set_cons_zero, List.set_cons_succ]
            refine wpAnyZ_one (i := 14) (by kernel_rfl) rfl (fun K hK => ?_)
            go_simp
            refine hK.out _ _ (fun _ => hS) ?_
            clear hK K
            try simp only [Act.put, List.setIfInBounds_toArray, List.set_cons_zero, List.set_cons_succ]
            refine wpAnyZ_one (i := 15) (by kernel_rfl) rfl (fun K hK => ?_)
            go_simp
            refine hK.out _ _ (fun _ => hS) ?_
            clear hK K
            try simp only [Act.put, List.setIfInBounds_toArray, List.set_cons_zero, List.set_cons_succ]
            refine wpAnyZ_one (i := 16) (by kernel_rfl) rfl (fun K hK => ?_)
            go_simp
            refine hK.out _ _ (fun _ => hS) ?_
            clear hK K
            try simp only [Act.put, List.setIfInBounds_toArray, List.set_cons_zero, List.set_cons_succ]
            refine wpAnyZ_done (by kernel_rfl) ?_ _
            have HS := hid hS
            obtain ⟨d0, d1, d2, y1, y2⟩ := hS.1
            clear hS
            go_upto_region 6 with fail
            go_quiet (fail)
            rename_i nq
            have HS2 := hid (show Rdr (v8.drewN nq) g (.slice p n c) at0 0 ∧ Bin (v8.drewN nq) p xs ∧ w.grownBy (v8.drewN nq) (some g) from ⟨HS.out.1.drewN nq, HS.out.2.1, gb_drewN HS.out.2.2 nq⟩)
            generalize v8.drewN nq = wa at HS2 d0 d1 d2 y1 y2 ⊢
            clear HS d0 d1 d2 y1 y2
            obtain ⟨d0, d1, d2, y1, y2⟩ := HS2.out.1
            go_wp2_with fail
            go_loopw [8, 9] (fun v i wr => ∃ (k : Nat) (p' : Option Addr) (c' : Nat), k ≤ t0 ∧ i = .int .i64 (k : Int) ∧ v = .slice p' k c' ∧ Own w.heap.size wr (.slice p' k c') k ((xs.drop A).take k) ∧ Rdr wr g (.slice p n c) at0 0 ∧ Bin wr p xs ∧ w.grownBy wr (some g)) (fun _ i _ => t0 - (intOf i).toNat)
            case atStart => exact ⟨0, none, 0, Nat.zero_le _, rfl, rfl, Own.nil _ _, HS2.out.1, HS2.out.2.1, HS2.out.2.2⟩
            case round =>
              clear HS2 d0 d1 d2 y1 y2
              obtain ⟨k, p', c', hkt, rfl, rfl, hO, hR, hB, hG⟩ := hrel
              by_cases hlt : k < t0
              · have kI : (k : Int) < (t0 : Int) := by omega
                obtain ⟨b, o, rfl, _, hcell⟩ := hB.at (by omega)
                have hbl : b < w.heap.size := by
                  obtain ⟨b', o', e, hbl, _⟩ := HP0.out.at (by omega)
                  cases e
                  exact hbl
                obtain ⟨I, hI⟩ : ∃ I, Hid (I = A + k) := ⟨_, rfl⟩
                have hI0 : I < n := by have := hI.out; omega
                have hIn : (I : Int) < (n : Int) := by omega
                have hck := hcell I (by omega)
                have j8 : IntKind.i64.wrap ((A : Int) + (k : Int)) = (I : Int) := by rw [i64_sum A k (by omega), hI.out]; omega
                have HT := hid (show (xs.drop A).take (k + 1) = (xs.drop A).take k ++ [xs.getD I 0] from by
                  rw [take_snocP (by rw [List.length_drop]; omega), hI.out, List.getD_eq_getElem?_getD, List.getD_eq_getElem?_getD, List.getElem?_drop])
                obtain ⟨x, hx⟩ : ∃ x, Hid (x = xs.getD I 0) := ⟨_, rfl⟩
                rw [← hx.out] at hck HT
                have HO := hid hO
                clear hO hcell
                go_upto_region 15 with fail
                have hS0 : (fun v => Rdr v g (.slice (some ⟨b, o, none⟩) n c) at0 0 ∧ v.cell? ⟨b, o + I, none⟩ = some (.int .u8 x) ∧ Bin v (some ⟨b, o, none⟩) xs ∧ w.grownBy v (some g)) wr.drew := ⟨hR.drewN 1, hck, hB, gb_drewN hG 1⟩
                have HO2 := hid (show Own w.heap.size wr.drew (.slice p' k c') k ((xs.drop A).take k) from World.ownsRow.drew HO.out)
                clear hR hck hB hG HO
                refine wp_region_z (fun v => Rdr v g (.slice (some ⟨b, o, none⟩) n c) at0 0 ∧ v.cell? ⟨b, o + I, none⟩ = some (.int .u8 x) ∧ Bin v (some ⟨b, o, none⟩) xs ∧ w.grownBy v (some g)) 18 (by kernel_rfl) hS0 (fun hS => ?_)
                clear hS0
                generalize World.drew _ = w8 at hS HO2 ⊢
                refine wpAnyZ_take (i := 0) (v := .slice p' k c') rfl (by kernel_rfl) (by kernel_rfl) (by kernel_rfl) (by kernel_rfl) (fun _ _ _ h => h) hS (Or.inl ⟨by kernel_rfl, fun w hS => (by clear hS; go_simp)⟩) ?_
                simp only [Act.put, List.setIfInBounds_toArray, List.set_cons_zero, List.set_cons_succ]
                refine wpAnyZ_take (i := 1) (v := .pointer (some ⟨g, 0, none⟩)) rfl (by kernel_rfl) (by kernel_rfl) (by kernel_rfl) (by kernel_rfl) (fun _ _ _ h => h) hS (Or.inl ⟨by kernel_rfl, fun w hS => (by clear hS; go_simp)⟩) ?_
                simp only [Act.put, List.setIfInBounds_toArray, List.set_cons_zero, List.set_cons_succ]
                refine wpAnyZ_take (i := 2) (v := .pointer (some ⟨g, 0, none⟩)) rfl (by kernel_rfl) (by kernel_rfl) (by kernel_rfl) (by kernel_rfl) (fun _ _ _ h => h) hS (Or.inl ⟨by kernel_rfl, fun w hS => (by clear hS; go_simp)⟩) ?_
                simp only [Act.put, List.setIfInBounds_toArray, List.set_cons_zero, List.set_cons_succ]
                refine wpAnyZ_take (i := 3) (v := .pointer (some ⟨g, 0, none⟩)) rfl (by kernel_rfl) (by kernel_rfl) (by kernel_rfl) (by kernel_rfl) (fun _ _ _ h => h) hS (Or.inl ⟨by kernel_rfl, fun w hS => (by clear hS; go_simp)⟩) ?_
                simp only [Act.put, List.setIfInBounds_toArray, List.set_cons_zero, List.set_cons_succ]
                refine wpAnyZ_take (i := 4) (v := .slice (some ⟨b, o, none⟩) n c) rfl (by kernel_rfl) (by kernel_rfl) (by kernel_rfl) (by kernel_rfl) (fun _ _ _ h => h) hS (Or.inl ⟨by kernel_rfl, fun w hS => (by have hc := hS.1.c0; clear hS; go_simp)⟩) ?_
                simp only [Act.put, List.setIfInBounds_toArray, List.set_cons_zero, List.set_cons_succ]
                refine wpAnyZ_take (i := 5) (v := .pointer (some ⟨g, 0, none⟩)) rfl (by kernel_rfl) (by kernel_rfl) (by kernel_rfl) (by kernel_rfl) (fun _ _ _ h => h) hS (Or.inl ⟨by kernel_rfl, fun w hS => (by clear hS; go_simp)⟩) ?_
                simp only [Act.put, List.setIfInBounds_toArray, List.set_cons_zero, List.set_cons_succ]
                refine wpAnyZ_take (i := 6) (v := .pointer (some ⟨g, 0, none⟩)) rfl (by kernel_rfl) (by kernel_rfl) (by kernel_rfl) (by kernel_rfl) (fun _ _ _ h => h) hS (Or.inl ⟨by kernel_rfl, fun w hS => (by clear hS; go_simp)⟩) ?_
                simp only [Act.put, List.setIfInBounds_toArray, List.set_cons_zero, List.set_cons_succ]
                refine wpAnyZ_take (i := 7) (v := .pointer (some ⟨g, 1, none⟩)) rfl (by kernel_rfl) (by kernel_rfl) (by kernel_rfl) (by kernel_rfl) (fun _ _ _ h => h) hS (Or.inl ⟨by kernel_rfl, fun w hS => (by clear hS; go_simp)⟩) ?_
                simp only [Act.put, List.setIfInBounds_toArray, List.set_cons_zero, List.set_cons_succ]
                refine wpAnyZ_take (i := 8) (v := .int .i64 (at0 : Nat)) rfl (by kernel_rfl) (by kernel_rfl) (by kernel_rfl) (by kernel_rfl) (fun _ _ _ h => h) hS (Or.inl ⟨by kernel_rfl, fun w hS => (by have hc := hS.1.c1; clear hS; go_simp)⟩) ?_
                simp only [Act.put, List.setIfInBounds_toArray, List.set_cons_zero, List.set_cons_succ]
                refine wpAnyZ_take (i := 9) (v := .int .i64 (t1 : Nat)) rfl (by kernel_rfl) (by kernel_rfl) (by kernel_rfl) (by kernel_rfl) (fun _ _ _ h => h) hS (Or.inl ⟨by kernel_rfl, fun w hS => (by clear hS; go_simp)⟩) ?_
                simp only [Act.put, List.setIfInBounds_toArray, List.set_cons_zero, List.set_cons_succ]
                refine wpAnyZ_take (i := 10) (v := .int .i64 (A : Nat)) rfl (by kernel_rfl) (by kernel_rfl) (by kernel_rfl) (by kernel_rfl) (fun _ _ _ h => h) hS (Or.inl ⟨by kernel_rfl, fun w hS => (by clear hS; go_simp)⟩) ?_
                simp only [Act.put, List.setIfInBounds_toArray, List.set_cons_zero, List.set_cons_succ]
                refine wpAnyZ_take (i := 11) (v := .int .i64 (k : Nat)) rfl (by kernel_rfl) (by kernel_rfl) (by kernel_rfl) (by kernel_rfl) (fun _ _ _ h => h) hS (Or.inl ⟨by kernel_rfl, fun w hS => (by clear hS; go_simp)⟩) ?_
                simp only [Act.put, List.setIfInBounds_toArray, List.set_cons_zero, List.set_cons_succ]
                refine wpAnyZ_take (i := 12) (v := .int .i64 (I : Nat)) rfl (by kernel_rfl) (by kernel_rfl) (by kernel_rfl) (by kernel_rfl) (fun _ _ _ h => h) hS (Or.inl ⟨by kernel_rfl, fun w hS => (by clear hS; go_simp)⟩) ?_
                simp only [Act.put, List.setIfInBounds_toArray, List.set_cons_zero, List.set_cons_succ]
                refine wpAnyZ_take (i := 13) (v := .pointer (some ⟨b, o + I, none⟩)) rfl (by kernel_rfl) (by kernel_rfl) (by kernel_rfl) (by kernel_rfl) (fun _ _ _ h => h) hS (Or.inl ⟨by kernel_rfl, fun w hS => (by clear hS; go_simp)⟩) ?_
                simp only [Act.put, List.setIfInBounds_toArray, List.set_cons_zero, List.set_cons_succ]
                refine wpAnyZ_take (i := 14) (v := .int .u8 x) rfl (by kernel_rfl) (by kernel_rfl) (by kernel_rfl) (by kernel_rfl) (fun _ _ _ h => h) hS (Or.inl ⟨by kernel_rfl, fun w hS => (by have hc := hS.2.1; clear hS; go_simp)⟩) ?_
                simp only [Act.put, List.setIfInBounds_toArray, List.set_cons_zero, List.set_cons_succ]
                refine wpAnyZ_one (i := 15) (by kernel_rfl) rfl (fun K hK => ?_)
                go_simp
                have hgA : w8.grownBy (w8.alloc (.cells #[.int .u8 x] 5)) none := gb_of none ((Below.refl _ _).alloc (Nat.le_refl _) _)
                have hS2 : Rdr (w8.alloc (.cells #[.int .u8 x] 5)) g (.slice (some ⟨b, o, none⟩) n c) at0 0 ∧ (w8.alloc (.cells #[.int .u8 x] 5)).cell? ⟨b, o + I, none⟩ = some (.int .u8 x) ∧ Bin (w8.alloc (.cells #[.int .u8 x] 5)) (some ⟨b, o, none⟩) xs ∧ w.grownBy (w8.alloc (.cells #[.int .u8 x] 5)) (some g) := ⟨hS.1.grown hgA (by simp), (hgA.cell_far ⟨b, o + I, none⟩ (World.block_lt_of_cell? w8 _ hS.2.1) (by simp)).trans hS.2.1, hS.2.2.1.grown hgA (fun a ha e => by cases e), gb_own hS.2.2.2 hgA (fun q e => by cases e)⟩
                refine hK.out _ _ (fun _ => hS2) ?_
                have hsz8 := hS.2.2.2.size
                clear hK K hS hgA
                have hS := hS2
                clear hS2
                try simp only [Act.put, List.setIfInBounds_toArray, List.set_cons_zero, List.set_cons_succ]
                refine wpAnyZ_one (i := 16) (by kernel_rfl) rfl (fun K hK => ?_)
                refine step_append_lies _ rfl (.tmp 80) (.tmp 95) 24 rfl w.heap.size 5 i0 (.int .u8 0) 1 1 Try.underlying24 hi hz0 hz1 hz2 rfl (by decide) (.slice p' k c') k _ (by simp [Act.eval]) (by exact World.ownsRow.alloc HO2.out _) ⟨w8.heap.size, 0, none⟩ 1 1 [.int .u8 x] rfl rfl (by exact one_new _ _ _) (int_one _) (by decide) (by unfold maxLen; omega) (by omega) (by simp; omega) _ rfl ?_
                intro gn cn w7 hO7 hg7 hat7 _
                have hnw : ∀ q, (Value.slice p' k c').ownBlock = some q → w.heap.size ≤ q := fun q hq => (World.ownsRow.lt HO2.out q hq).1
                have HN := hid (show Own w.heap.size w7 (.slice (some ⟨gn, 0, none⟩) (k + 1) cn) (k + 1) ((xs.drop A).take (k + 1)) from by
                  rw [HT.out]; unfold Own; rw [List.map_append]; exact hO7)
                have hS2 : Rdr w7 g (.slice (some ⟨b, o, none⟩) n c) at0 0 ∧ w7.cell? ⟨b, o + I, none⟩ = some (.int .u8 x) ∧ Bin w7 (some ⟨b, o, none⟩) xs ∧ w.grownBy w7 (some g) := ⟨hS.1.grown hg7 (fun e => by have := hnw g e.symm; omega), (hg7.cell_far ⟨b, o + I, none⟩ (World.block_lt_of_cell? _ _ hS.2.1) (fun e => by have := hnw b e.symm; omega)).trans hS.2.1, hS.2.2.1.grown hg7 (fun a ha e => by cases ha; have := hnw b e.symm; omega), gb_own hS.2.2.2 hg7 hnw⟩
                refine hK.out _ _ (fun _ => hS2) ?_
                clear hK K hS hO7 hg7 hat7 hnw HO2
                have hS := hS2
                clear hS2
                try simp only [Act.put, List.setIfInBounds_toArray, List.set_cons_zero, List.set_cons_succ]
                refine wpAnyZ_one (i := 17) (by kernel_rfl) rfl (fun K hK => ?_)
                go_simp
                refine hK.out _ _ (fun _ => hS) ?_
                clear hK K
                try simp only [Act.put, List.setIfInBounds_toArray, List.set_cons_zero, List.set_cons_succ]
                refine wpAnyZ_done (by kernel_rfl) ?_ _
                have H7 := hid (And.intro hS.1 (And.intro hS.2.2.1 hS.2.2.2))
                clear hS
                go_wp2_with fail
                go_roundw
                case rel => exact ⟨k + 1, _, _, by omega, by go_num, rfl, HN.out, H7.out⟩
                case measure => simp [intOf]; omega
              · obtain rfl : k = t0 := by omega
                have kI : ¬ (k : Int) < (k : Int) := by omega
                have j9 : IntKind.i64.wrap ((A : Int) + (k : Int)) = (A : Int) + (k : Int) := i64_sum A k (by omega)
                have q2 := hid (hR.set1 (A + k))
                have q3 := hid (gb_cell hG 1 (.int .i64 ((A + k : Nat) : Int)))
                obtain ⟨d0, d1, d2, y1, y2⟩ := hR
                have HO := hid (show Own w.heap.size wr (.slice p' k c') Y.length Y from by rw [hY.out, hO.len]; exact hO)
                have HOp := hid (show Own w.heap.size (wr.setCell ⟨g, 1, none⟩ (.int .i64 ((A + k : Nat) : Int))) (.slice p' k c') Y.length Y from HO.out.besidePut hgl 1 [.int .i64 ((A + k : Nat) : Int)])
                clear hO hB hG HO
                go_wp2
                go_ret
                exact ⟨_, rfl, HOp.out, q2.out, q3.out⟩
          · rw [if_neg hmz] at hlong
            have i1 : (0 : Int) < most := by omega
            have hw1 : IntKind.u64.wrap most = most := by simp [IntKind.wrap, IntKind.signed, IntKind.bits]; omega
            have j5 : (t0 : Int) ≤ most := by omega
            go_enter Try.func22, Try.ntmps22
            go_upto_region 3 with fail
            have hS0 : (fun v => Rdr v g (.slice p n c) at0 0 ∧ Bin v p xs ∧ w.grownBy v (some g)) w.drew := ⟨HRR.out.drewN 1, hp, gb_drewN hg0.out 1⟩
            clear hp HRR hg0 c0 c1 c2 z1 z2
            refine wp_region_z (fun v => Rdr v g (.slice p n c) at0 0 ∧ Bin v p xs ∧ w.grownBy v (some g)) 17 (by kernel_rfl) hS0 (fun hS => ?_)
            clear hS0
            generalize World.drew _ = w9 at hS ⊢
            refine wpAnyZ_take (i := 0) (v := .pointer (some ⟨g, 0, none⟩)) rfl (by kernel_rfl) (by kernel_rfl) (by kernel_rfl) (by kernel_rfl) (fun _ _ _ h => h) hS (Or.inl ⟨by kernel_rfl, fun w hS => (by clear hS; go_simp)⟩) ?_
            simp only [Act.put, List.setIfInBounds_toArray, List.set_cons_zero, List.set_cons_succ]
            refine wpAnyZ_take (i := 1) (v := .pointer (some ⟨g, 0, none⟩)) rfl (by kernel_rfl) (by kernel_rfl) (by kernel_rfl) (by kernel_rfl) (fun _ _ _ h => h) hS (Or.inl ⟨by kernel_rfl, fun w hS => (by clear hS; go_simp)⟩) ?_
            simp only [Act.put, List.setIfInBounds_toArray, List.set_cons_zero, List.set_cons_succ]
            refine wpAnyZ_take (i := 2) (v := .pointer (some ⟨g, 0, none⟩)) rfl (by kernel_rfl) (by kernel_rfl) (by kernel_rfl) (by kernel_rfl) (fun _ _ _ h => h) hS (Or.inl ⟨by kernel_rfl, fun w hS => (by clear hS; go_simp)⟩) ?_
            simp only [Act.put, List.setIfInBounds_toArray, List.set_cons_zero, List.set_cons_succ]
            refine wpAnyZ_take (i := 3) (v := .slice p n c) rfl (by kernel_rfl) (by kernel_rfl) (by kernel_rfl) (by kernel_rfl) (fun _ _ _ h => h) hS (Or.inl ⟨by kernel_rfl, fun w hS => (by have hc := hS.1.c0; clear hS; go_simp)⟩) ?_
            simp only [Act.put, List.setIfInBounds_toArray, List.set_cons_zero, List.set_cons_succ]
            refine wpAnyZ_take (i := 4) (v := .pointer (some ⟨g, 0, none⟩)) rfl (by kernel_rfl) (by kernel_rfl) (by kernel_rfl) (by kernel_rfl) (fun _ _ _ h => h) hS (Or.inl ⟨by kernel_rfl, fun w hS => (by clear hS; go_simp)⟩) ?_
            simp only [Act.put, List.setIfInBounds_toArray, List.set_cons_zero, List.set_cons_succ]
            refine wpAnyZ_take (i := 5) (v := .pointer (some ⟨g, 0, none⟩)) rfl (by kernel_rfl) (by kernel_rfl) (by kernel_rfl) (by kernel_rfl) (fun _ _ _ h => h) hS (Or.inl ⟨by kernel_rfl, fun w hS => (by clear hS; go_simp)⟩) ?_
            simp only [Act.put, List.setIfInBounds_toArray, List.set_cons_zero, List.set_cons_succ]
            refine wpAnyZ_take (i := 6) (v := .pointer (some ⟨g, 1, none⟩)) rfl (by kernel_rfl) (by kernel_rfl) (by kernel_rfl) (by kernel_rfl) (fun _ _ _ h => h) hS (Or.inl ⟨by kernel_rfl, fun w hS => (by clear hS; go_simp)⟩) ?_
            simp only [Act.put, List.setIfInBounds_toArray, List.set_cons_zero, List.set_cons_succ]
            refine wpAnyZ_take (i := 7) (v := .int .i64 (at0 : Nat)) rfl (by kernel_rfl) (by kernel_rfl) (by kernel_rfl) (by kernel_rfl) (fun _ _ _ h => h) hS (Or.inl ⟨by kernel_rfl, fun w hS => (by have hc := hS.1.c1; clear hS; go_simp)⟩) ?_
            simp only [Act.put, List.setIfInBounds_toArray, List.set_cons_zero, List.set_cons_succ]
            refine wpAnyZ_take (i := 8) (v := .slice q (n - at0) (c - at0)) rfl (by kernel_rfl) (by kernel_rfl) (by kernel_rfl) (by kernel_rfl) (fun _ _ _ h => h) hS (Or.inl ⟨by kernel_rfl, fun w hS => (by have hc := HQ.out; clear hS; go_simp)⟩) ?_
            simp only [Act.put, List.setIfInBounds_toArray, List.set_cons_zero, List.set_cons_succ]
            refine wpAnyZ_one (i := 9) (by kernel_rfl) rfl (fun K hK => ?_)
            go_simp
            go_at_call 30
            refine (HTK.out _ _ _ (hbd.out _ hS.2.1)).mono ?_
            rintro e v8 ⟨rfl, rfl⟩
            go_wp2_with fail
            refine hK.out _ _ (fun _ => hS) ?_
            clear hK K
            try simp only [Act.put, List.setIfInBounds_toArray, List.set_cons_zero, List.set_cons_succ]
            refine wpAnyZ_take (i := 10) (v := .tuple #[.int .u64 (t0 : Nat), .int .i64 (t1 : Nat), .int .i64 0]) rfl (by kernel_rfl) (by kernel_rfl) (by kernel_rfl) (by kernel_rfl) (fun _ _ _ h => h) hS (Or.inl ⟨by kernel_rfl, fun w hS => (by clear hS; go_simp)⟩) ?_
            simp only [Act.put, List.setIfInBounds_toArray, List.set_cons_zero, List.set_cons_succ]
            refine wpAnyZ_take (i := 11) (v := .int .u64 (t0 : Nat)) rfl (by kernel_rfl) (by kernel_rfl) (by kernel_rfl) (by kernel_rfl) (fun _ _ _ h => h) hS (Or.inl ⟨by kernel_rfl, fun w hS => (by clear hS; go_simp)⟩) ?_
            simp only [Act.put, List.setIfInBounds_toArray, List.set_cons_zero, List.set_cons_succ]
            refine wpAnyZ_take (i := 12) (v := .int .i64 (t1 : Nat)) rfl (by kernel_rfl) (by kernel_rfl) (by kernel_rfl) (by kernel_rfl) (fun _ _ _ h => h) hS (Or.inl ⟨by kernel_rfl, fun w hS => (by clear hS; go_simp)⟩) ?_
            simp only [Act.put, List.setIfInBounds_toArray, List.set_cons_zero, List.set_cons_succ]
            refine wpAnyZ_take (i := 13) (v := .int .i64 0) rfl (by kernel_rfl) (by kernel_rfl) (by kernel_rfl) (by kernel_rfl) (fun _ _ _ h => h) hS (Or.inl ⟨by kernel_rfl, fun w hS => (by clear hS; go_simp)⟩) ?_
            simp only [Act.put, List.setIfInBounds_toArray, List.set_cons_zero, List.set_cons_succ]
            refine wpAnyZ_one (i := 14) (by kernel_rfl) rfl (fun K hK => ?_)
            go_simp
            refine hK.out _ _ (fun _ => hS) ?_
            clear hK K
            try simp only [Act.put, List.setIfInBounds_toArray, List.set_cons_zero, List.set_cons_succ]
            refine wpAnyZ_one (i := 15) (by kernel_rfl) rfl (fun K hK => ?_)
            go_simp
            refine hK.out _ _ (fun _ => hS) ?_
            clear hK K
            try simp only [Act.put, List.setIfInBounds_toArray, List.set_cons_zero, List.set_cons_succ]
            refine wpAnyZ_one (i := 16) (by kernel_rfl) rfl (fun K hK => ?_)
            go_simp
            refine hK.out _ _ (fun _ => hS) ?_
            clear hK K
            try simp only [Act.put, List.setIfInBounds_toArray, List.set_cons_zero, List.set_cons_succ]
            refine wpAnyZ_done (by kernel_rfl) ?_ _
            have HS := hid hS
            obtain ⟨d0, d1, d2, y1, y2⟩ := hS.1
            clear hS
            go_upto_region 6 with fail
            go_quiet (fail)
            rename_i nq
            have HS2 := hid (show Rdr (v8.drewN nq) g (.slice p n c) at0 0 ∧ Bin (v8.drewN nq) p xs ∧ w.grownBy (v8.drewN nq) (some g) from ⟨HS.out.1.drewN nq, HS.out.2.1, gb_drewN HS.out.2.2 nq⟩)
            generalize v8.drewN nq = wa at HS2 d0 d1 d2 y1 y2 ⊢
            clear HS d0 d1 d2 y1 y2
            obtain ⟨d0, d1, d2, y1, y2⟩ := HS2.out.1
            go_wp2_with fail
            go_loopw [8, 9] (fun v i wr => ∃ (k : Nat) (p' : Option Addr) (c' : Nat), k ≤ t0 ∧ i = .int .i64 (k : Int) ∧ v = .slice p' k c' ∧ Own w.heap.size wr (.slice p' k c') k ((xs.drop A).take k) ∧ Rdr wr g (.slice p n c) at0 0 ∧ Bin wr p xs ∧ w.grownBy wr (some g)) (fun _ i _ => t0 - (intOf i).toNat)
            case atStart => exact ⟨0, none, 0, Nat.zero_le _, rfl, rfl, Own.nil _ _, HS2.out.1, HS2.out.2.1, HS2.out.2.2⟩
            case round =>
              clear HS2 d0 d1 d2 y1 y2
              obtain ⟨k, p', c', hkt, rfl, rfl, hO, hR, hB, hG⟩ := hrel
              by_cases hlt : k < t0
              · have kI : (k : Int) < (t0 : Int) := by omega
                obtain ⟨b, o, rfl, _, hcell⟩ := hB.at (by omega)
                have hbl : b < w.heap.size := by
                  obtain ⟨b', o', e, hbl, _⟩ := HP0.out.at (by omega)
                  cases e
                  exact hbl
                obtain ⟨I, hI⟩ : ∃ I, Hid (I = A + k) := ⟨_, rfl⟩
                have hI0 : I < n := by have := hI.out; omega
                have hIn : (I : Int) < (n : Int) := by omega
                have hck := hcell I (by omega)
                have j8 : IntKind.i64.wrap ((A : Int) + (k : Int)) = (I : Int) := by rw [i64_sum A k (by omega), hI.out]; omega
                have HT := hid (show (xs.drop A).take (k + 1) = (xs.drop A).take k ++ [xs.getD I 0] from by
                  rw [take_snocP (by rw [List.length_drop]; omega), hI.out, List.getD_eq_getElem?_getD, List.getD_eq_getElem?_getD, List.getElem?_drop])
                obtain ⟨x, hx⟩ : ∃ x, Hid (x = xs.getD I 0) := ⟨_, rfl⟩
                rw [← hx.out] at hck HT
                have HO := hid hO
                clear hO hcell
                go_upto_region 15 with fail
                have hS0 : (fun v => Rdr v g (.slice (some ⟨b, o, none⟩) n c) at0 0 ∧ v.cell? ⟨b, o + I, none⟩ = some (.int .u8 x) ∧ Bin v (some ⟨b, o, none⟩) xs ∧ w.grownBy v (some g)) wr.drew := ⟨hR.drewN 1, hck, hB, gb_drewN hG 1⟩
                have HO2 := hid (show Own w.heap.size wr.drew (.slice p' k c') k ((xs.drop A).take k) from World.ownsRow.drew HO.out)
                clear hR hck hB hG HO
                refine wp_region_z (fun v => Rdr v g (.slice (some ⟨b, o, none⟩) n c) at0 0 ∧ v.cell? ⟨b, o + I, none⟩ = some (.int .u8 x) ∧ Bin v (some ⟨b, o, none⟩) xs ∧ w.grownBy v (some g)) 18 (by kernel_rfl) hS0 (fun hS => ?_)
                clear hS0
                generalize World.drew _ = w8 at hS HO2 ⊢
                refine wpAnyZ_take (i := 0) (v := .slice p' k c') rfl (by kernel_rfl) (by kernel_rfl) (by kernel_rfl) (by kernel_rfl) (fun _ _ _ h => h) hS (Or.inl ⟨by kernel_rfl, fun w hS => (by clear hS; go_simp)⟩) ?_
                simp only [Act.put, List.setIfInBounds_toArray, List.set_cons_zero, List.set_cons_succ]
                refine wpAnyZ_take (i := 1) (v := .pointer (some ⟨g, 0, none⟩)) rfl (by kernel_rfl) (by kernel_rfl) (by kernel_rfl) (by kernel_rfl) (fun _ _ _ h => h) hS (Or.inl ⟨by kernel_rfl, fun w hS => (by clear hS; go_simp)⟩) ?_
                simp only [Act.put, List.setIfInBounds_toArray, List.set_cons_zero, List.set_cons_succ]
                refine wpAnyZ_take (i := 2) (v := .pointer (some ⟨g, 0, none⟩)) rfl (by kernel_rfl) (by kernel_rfl) (by kernel_rfl) (by kernel_rfl) (fun _ _ _ h => h) hS (Or.inl ⟨by kernel_rfl, fun w hS => (by clear hS; go_simp)⟩) ?_
                simp only [Act.put, List.setIfInBounds_toArray, List.set_cons_zero, List.set_cons_succ]
                refine wpAnyZ_take (i := 3) (v := .pointer (some ⟨g, 0, none⟩)) rfl (by kernel_rfl) (by kernel_rfl) (by kernel_rfl) (by kernel_rfl) (fun _ _ _ h => h) hS (Or.inl ⟨by kernel_rfl, fun w hS => (by clear hS; go_simp)⟩) ?_
                simp only [Act.put, List.setIfInBounds_toArray, List.set_cons_zero, List.set_cons_succ]
                refine wpAnyZ_take (i := 4) (v := .slice (some ⟨b, o, none⟩) n c) rfl (by kernel_rfl) (by kernel_rfl) (by kernel_rfl) (by kernel_rfl) (fun _ _ _ h => h) hS (Or.inl ⟨by kernel_rfl, fun w hS => (by have hc := hS.1.c0; clear hS; go_simp)⟩) ?_
                simp only [Act.put, List.setIfInBounds_toArray, List.set_cons_zero, List.set_cons_succ]
                refine wpAnyZ_take (i := 5) (v := .pointer (some ⟨g, 0, none⟩)) rfl (by kernel_rfl) (by kernel_rfl) (by kernel_rfl) (by kernel_rfl) (fun _ _ _ h => h) hS (Or.inl ⟨by kernel_rfl, fun w hS => (by clear hS; go_simp)⟩) ?_
                simp only [Act.put, List.setIfInBounds_toArray, List.set_cons_zero, List.set_cons_succ]
                refine wpAnyZ_take (i := 6) (v := .pointer (some ⟨g, 0, none⟩)) rfl (by kernel_rfl) (by kernel_rfl) (by kernel_rfl) (by kernel_rfl) (fun _ _ _ h => h) hS (Or.inl ⟨by kernel_rfl, fun w hS => (by clear hS; go_simp)⟩) ?_
                simp only [Act.put, List.setIfInBounds_toArray, List.set_cons_zero, List.set_cons_succ]
                refine wpAnyZ_take (i := 7) (v := .pointer (some ⟨g, 1, none⟩)) rfl (by kernel_rfl) (by kernel_rfl) (by kernel_rfl) (by kernel_rfl) (fun _ _ _ h => h) hS (Or.inl ⟨by kernel_rfl, fun w hS => (by clear hS; go_simp)⟩) ?_
                simp only [Act.put, List.setIfInBounds_toArray, List.set_cons_zero, List.set_cons_succ]
                refine wpAnyZ_take (i := 8) (v := .int .i64 (at0 : Nat)) rfl (by kernel_rfl) (by kernel_rfl) (by kernel_rfl) (by kernel_rfl) (fun _ _ _ h => h) hS (Or.inl ⟨by kernel_rfl, fun w hS => (by have hc := hS.1.c1; clear hS; go_simp)⟩) ?_
                simp only [Act.put, List.setIfInBounds_toArray, List.set_cons_zero, List.set_cons_succ]
                refine wpAnyZ_take (i := 9) (v := .int .i64 (t1 : Nat)) rfl (by kernel_rfl) (by kernel_rfl) (by kernel_rfl) (by kernel_rfl) (fun _ _ _ h => h) hS (Or.inl ⟨by kernel_rfl, fun w hS => (by clear hS; go_simp)⟩) ?_
                simp only [Act.put, List.setIfInBounds_toArray, List.set_cons_zero, List.set_cons_succ]
                refine wpAnyZ_take (i := 10) (v := .int .i64 (A : Nat)) rfl (by kernel_rfl) (by kernel_rfl) (by kernel_rfl) (by kernel_rfl) (fun _ _ _ h => h) hS (Or.inl ⟨by kernel_rfl, fun w hS => (by clear hS; go_simp)⟩) ?_
                simp only [Act.put, List.setIfInBounds_toArray, List.set_cons_zero, List.set_cons_succ]
                refine wpAnyZ_take (i := 11) (v := .int .i64 (k : Nat)) rfl (by kernel_rfl) (by kernel_rfl) (by kernel_rfl) (by kernel_rfl) (fun _ _ _ h => h) hS (Or.inl ⟨by kernel_rfl, fun w hS => (by clear hS; go_simp)⟩) ?_
                simp only [Act.put, List.setIfInBounds_toArray, List.set_cons_zero, List.set_cons_succ]
                refine wpAnyZ_take (i := 12) (v := .int .i64 (I : Nat)) rfl (by kernel_rfl) (by kernel_rfl) (by kernel_rfl) (by kernel_rfl) (fun _ _ _ h => h) hS (Or.inl ⟨by kernel_rfl, fun w hS => (by clear hS; go_simp)⟩) ?_
                simp only [Act.put, List.setIfInBounds_toArray, List.set_cons_zero, List.set_cons_succ]
                refine wpAnyZ_take (i := 13) (v := .pointer (some ⟨b, o + I, none⟩)) rfl (by kernel_rfl) (by kernel_rfl) (by kernel_rfl) (by kernel_rfl) (fun _ _ _ h => h) hS (Or.inl ⟨by kernel_rfl, fun w hS => (by clear hS; go_simp)⟩) ?_
                simp only [Act.put, List.setIfInBounds_toArray, List.set_cons_zero, List.set_cons_succ]
                refine wpAnyZ_take (i := 14) (v := .int .u8 x) rfl (by kernel_rfl) (by kernel_rfl) (by kernel_rfl) (by kernel_rfl) (fun _ _ _ h => h) hS (Or.inl ⟨by kernel_rfl, fun w hS => (by have hc := hS.2.1; clear hS; go_simp)⟩) ?_
                simp only [Act.put, List.setIfInBounds_toArray, List.set_cons_zero, List.set_cons_succ]
                refine wpAnyZ_one (i := 15) (by kernel_rfl) rfl (fun K hK => ?_)
                go_simp
                have hgA : w8.grownBy (w8.alloc (.cells #[.int .u8 x] 5)) none := gb_of none ((Below.refl _ _).alloc (Nat.le_refl _) _)
                have hS2 : Rdr (w8.alloc (.cells #[.int .u8 x] 5)) g (.slice (some ⟨b, o, none⟩) n c) at0 0 ∧ (w8.alloc (.cells #[.int .u8 x] 5)).cell? ⟨b, o + I, none⟩ = some (.int .u8 x) ∧ Bin (w8.alloc (.cells #[.int .u8 x] 5)) (some ⟨b, o, none⟩) xs ∧ w.grownBy (w8.alloc (.cells #[.int .u8 x] 5)) (some g) := ⟨hS.1.grown hgA (by simp), (hgA.cell_far ⟨b, o + I, none⟩ (World.block_lt_of_cell? w8 _ hS.2.1) (by simp)).trans hS.2.1, hS.2.2.1.grown hgA (fun a ha e => by cases e), gb_own hS.2.2.2 hgA (fun q e => by cases e)⟩
                refine hK.out _ _ (fun _ => hS2) ?_
                have hsz8 := hS.2.2.2.size
                clear hK K hS hgA
                have hS := hS2
                clear hS2
                try simp only [Act.put, List.setIfInBounds_toArray, List.set_cons_zero, List.set_cons_succ]
                refine wpAnyZ_one (i := 16) (by kernel_rfl) rfl (fun K hK => ?_)
                refine step_append_lies _ rfl (.tmp 80) (.tmp 95) 24 rfl w.heap.size 5 i0 (.int .u8 0) 1 1 Try.underlying24 hi hz0 hz1 hz2 rfl (by decide) (.slice p' k c') k _ (by simp [Act.eval]) (by exact World.ownsRow.alloc HO2.out _) ⟨w8.heap.size, 0, none⟩ 1 1 [.int .u8 x] rfl rfl (by exact one_new _ _ _) (int_one _) (by decide) (by unfold maxLen; omega) (by omega) (by simp; omega) _ rfl ?_
                intro gn cn w7 hO7 hg7 hat7 _
                have hnw : ∀ q, (Value.slice p' k c').ownBlock = some q → w.heap.size ≤ q := fun q hq => (World.ownsRow.lt HO2.out q hq).1
                have HN := hid (show Own w.heap.size w7 (.slice (some ⟨gn, 0, none⟩) (k + 1) cn) (k + 1) ((xs.drop A).take (k + 1)) from by
                  rw [HT.out]; unfold Own; rw [List.map_append]; exact hO7)
                have hS2 : Rdr w7 g (.slice (some ⟨b, o, none⟩) n c) at0 0 ∧ w7.cell? ⟨b, o + I, none⟩ = some (.int .u8 x) ∧ Bin w7 (some ⟨b, o, none⟩) xs ∧ w.grownBy w7 (some g) := ⟨hS.1.grown hg7 (fun e => by have := hnw g e.symm; omega), (hg7.cell_far ⟨b, o + I, none⟩ (World.block_lt_of_cell? _ _ hS.2.1) (fun e => by have := hnw b e.symm; omega)).trans hS.2.1, hS.2.2.1.grown hg7 (fun a ha e => by cases ha; have := hnw b e.symm; omega), gb_own hS.2.2.2 hg7 hnw⟩
                refine hK.out _ _ (fun _ => hS2) ?_
                clear hK K hS hO7 hg7 hat7 hnw HO2
                have hS := hS2
                clear hS2
                try simp only [Act.put, List.setIfInBounds_toArray, List.set_cons_zero, List.set_cons_succ]
                refine wpAnyZ_one (i := 17) (by kernel_rfl) rfl (fun K hK => ?_)
                go_simp
                refine hK.out _ _ (fun _ => hS) ?_
                clear hK K
                try simp only [Act.put, List.setIfInBounds_toArray, List.set_cons_zero, List.set_cons_succ]
                refine wpAnyZ_done (by kernel_rfl) ?_ _
                have H7 := hid (And.intro hS.1 (And.intro hS.2.2.1 hS.2.2.2))
                clear hS
                go_wp2_with fail
                go_roundw
                case rel => exact ⟨k + 1, _, _, by omega, by go_num, rfl, HN.out, H7.out⟩
                case measure => simp [intOf]; omega
              · obtain rfl : k = t0 := by omega
                have kI : ¬ (k : Int) < (k : Int) := by omega
                have j9 : IntKind.i64.wrap ((A : Int) + (k : Int)) = (A : Int) + (k : Int) := i64_sum A k (by omega)
                have q2 := hid (hR.set1 (A + k))
                have q3 := hid (gb_cell hG 1 (.int .i64 ((A + k : Nat) : Int)))
                obtain ⟨d0, d1, d2, y1, y2⟩ := hR
                have HO := hid (show Own w.heap.size wr (.slice p' k c') Y.length Y from by rw [hY.out, hO.len]; exact hO)
                have HOp := hid (show Own w.heap.size (wr.setCell ⟨g, 1, none⟩ (.int .i64 ((A + k : Nat) : Int))) (.slice p' k c') Y.length Y from HO.out.besidePut hgl 1 [.int .i64 ((A + k : Nat) : Int)])
                clear hO hB hG HO
                go_wp2
                go_ret
                exact ⟨_, rfl, HOp.out, q2.out, q3.out⟩
    · have e : txtE (t0, t1, t2) most (n - at0) = t2 := by rw [txtE, if_pos (by simpa using ht2)]
      rw [e, if_pos (by simpa using ht2)]
      clear e
      go_enter Try.func22, Try.ntmps22
      go_upto_region 3 with fail
      have hS0 : (fun v => Rdr v g (.slice p n c) at0 0 ∧ Bin v p xs ∧ w.grownBy v (some g)) w.drew := ⟨HRR.out.drewN 1, hp, gb_drewN hg0.out 1⟩
      clear hp HRR hg0 c0 c1 c2 z1 z2
      refine wp_region_z (fun v => Rdr v g (.slice p n c) at0 0 ∧ Bin v p xs ∧ w.grownBy v (some g)) 17 (by kernel_rfl) hS0 (fun hS => ?_)
      clear hS0
      generalize World.drew _ = w9 at hS ⊢
      refine wpAnyZ_take (i := 0) (v := .pointer (some ⟨g, 0, none⟩)) rfl (by kernel_rfl) (by kernel_rfl) (by kernel_rfl) (by kernel_rfl) (fun _ _ _ h => h) hS (Or.inl ⟨by kernel_rfl, fun w hS => (by clear hS; go_simp)⟩) ?_
      simp only [Act.put, List.setIfInBounds_toArray, List.set_cons_zero, List.set_cons_succ]
      refine wpAnyZ_take (i := 1) (v := .pointer (some ⟨g, 0, none⟩)) rfl (by kernel_rfl) (by kernel_rfl) (by kernel_rfl) (by kernel_rfl) (fun _ _ _ h => h) hS (Or.inl ⟨by kernel_rfl, fun w hS => (by clear hS; go_simp)⟩) ?_
      simp only [Act.put, List.setIfInBounds_toArray, List.set_cons_zero, List.set_cons_succ]
      refine wpAnyZ_take (i := 2) (v := .pointer (some ⟨g, 0, none⟩)) rfl (by kernel_rfl) (by kernel_rfl) (by kernel_rfl) (by kernel_rfl) (fun _ _ _ h => h) hS (Or.inl ⟨by kernel_rfl, fun w hS => (by clear hS; go_simp)⟩) ?_
      simp only [Act.put, List.setIfInBounds_toArray, List.set_cons_zero, List.set_cons_succ]
      refine wpAnyZ_take (i := 3) (v := .slice p n c) rfl (by kernel_rfl) (by kernel_rfl) (by kernel_rfl) (by kernel_rfl) (fun _ _ _ h => h) hS (Or.inl ⟨by kernel_rfl, fun w hS => (by have hc := hS.1.c0; clear hS; go_simp)⟩) ?_
      simp only [Act.put, List.setIfInBounds_toArray, List.set_cons_zero, List.set_cons_succ]
      refine wpAnyZ_take (i := 4) (v := .pointer (some ⟨g, 0, none⟩)) rfl (by kernel_rfl) (by kernel_rfl) (by kernel_rfl) (by kernel_rfl) (fun _ _ _ h => h) hS (Or.inl ⟨by kernel_rfl, fun w hS => (by clear hS; go_simp)⟩) ?_
      simp only [Act.put, List.setIfInBounds_toArray, List.set_cons_zero, List.set_cons_succ]
      refine wpAnyZ_take (i := 5) (v := .pointer (some ⟨g, 0, none⟩)) rfl (by kernel_rfl) (by kernel_rfl) (by kernel_rfl) (by kernel_rfl) (fun _ _ _ h => h) hS (Or.inl ⟨by kernel_rfl, fun w hS => (by clear hS; go_simp)⟩) ?_
      simp only [Act.put, List.setIfInBounds_toArray, List.set_cons_zero, List.set_cons_succ]
      refine wpAnyZ_take (i := 6) (v := .pointer (some ⟨g, 1, none⟩)) rfl (by kernel_rfl) (by kernel_rfl) (by kernel_rfl) (by kernel_rfl) (fun _ _ _ h => h) hS (Or.inl ⟨by kernel_rfl, fun w hS => (by clear hS; go_simp)⟩) ?_
      simp only [Act.put, List.setIfInBounds_toArray, List.set_cons_zero, List.set_cons_succ]
      refine wpAnyZ_take (i := 7) (v := .int .i64 (at0 : Nat)) rfl (by kernel_rfl) (by kernel_rfl) (by kernel_rfl) (by kernel_rfl) (fun _ _ _ h => h) hS (Or.inl ⟨by kernel_rfl, fun w hS => (by have hc := hS.1.c1; clear hS; go_simp)⟩) ?_
      simp only [Act.put, List.setIfInBounds_toArray, List.set_cons_zero, List.set_cons_succ]
      refine wpAnyZ_take (i := 8) (v := .slice q (n - at0) (c - at0)) rfl (by kernel_rfl) (by kernel_rfl) (by kernel_rfl) (by kernel_rfl) (fun _ _ _ h => h) hS (Or.inl ⟨by kernel_rfl, fun w hS => (by have hc := HQ.out; clear hS; go_simp)⟩) ?_
      simp only [Act.put, List.setIfInBounds_toArray, List.set_cons_zero, List.set_cons_succ]
      refine wpAnyZ_one (i := 9) (by kernel_rfl) rfl (fun K hK => ?_)
      go_simp
      go_at_call 30
      refine (HTK.out _ _ _ (hbd.out _ hS.2.1)).mono ?_
      rintro e v8 ⟨rfl, rfl⟩
      go_wp2_with fail
      refine hK.out _ _ (fun _ => hS) ?_
      clear hK K
      try simp only [Act.put, List.setIfInBounds_toArray, List.set_cons_zero, List.set_cons_succ]
      refine wpAnyZ_take (i := 10) (v := .tuple #[.int .u64 (t0 : Nat), .int .i64 (t1 : Nat), .int .i64 t2]) rfl (by kernel_rfl) (by kernel_rfl) (by kernel_rfl) (by kernel_rfl) (fun _ _ _ h => h) hS (Or.inl ⟨by kernel_rfl, fun w hS => (by clear hS; go_simp)⟩) ?_
      simp only [Act.put, List.setIfInBounds_toArray, List.set_cons_zero, List.set_cons_succ]
      refine wpAnyZ_take (i := 11) (v := .int .u64 (t0 : Nat)) rfl (by kernel_rfl) (by kernel_rfl) (by kernel_rfl) (by kernel_rfl) (fun _ _ _ h => h) hS (Or.inl ⟨by kernel_rfl, fun w hS => (by clear hS; go_simp)⟩) ?_
      simp only [Act.put, List.setIfInBounds_toArray, List.set_cons_zero, List.set_cons_succ]
      refine wpAnyZ_take (i := 12) (v := .int .i64 (t1 : Nat)) rfl (by kernel_rfl) (by kernel_rfl) (by kernel_rfl) (by kernel_rfl) (fun _ _ _ h => h) hS (Or.inl ⟨by kernel_rfl, fun w hS => (by clear hS; go_simp)⟩) ?_
      simp only [Act.put, List.setIfInBounds_toArray, List.set_cons_zero, List.set_cons_succ]
      refine wpAnyZ_take (i := 13) (v := .int .i64 t2) rfl (by kernel_rfl) (by kernel_rfl) (by kernel_rfl) (by kernel_rfl) (fun _ _ _ h => h) hS (Or.inl ⟨by kernel_rfl, fun w hS => (by clear hS; go_simp)⟩) ?_
      simp only [Act.put, List.setIfInBounds_toArray, List.set_cons_zero, List.set_cons_succ]
      refine wpAnyZ_one (i := 14) (by kernel_rfl) rfl (fun K hK => ?_)
      go_simp
      refine hK.out _ _ (fun _ => hS) ?_
      clear hK K
      try simp only [Act.put, List.setIfInBounds_toArray, List.set_cons_zero, List.set_cons_succ]
      refine wpAnyZ_one (i := 15) (by kernel_rfl) rfl (fun K hK => ?_)
      go_simp
      refine hK.out _ _ (fun _ => hS) ?_
      clear hK K
      try simp only [Act.put, List.setIfInBounds_toArray, List.set_cons_zero, List.set_cons_succ]
      refine wpAnyZ_one (i := 16) (by kernel_rfl) rfl (fun K hK => ?_)
      go_simp
      refine hK.out _ _ (fun _ => hS) ?_
      clear hK K
      try simp only [Act.put, List.setIfInBounds_toArray, List.set_cons_zero, List.set_cons_succ]
      refine wpAnyZ_done (by kernel_rfl) ?_ _
      have q2 := hid (hS.1.set2 t2)
      have q3 := hid (gb_cell hS.2.2 2 (.int .i64 t2))
      obtain ⟨d0, d1, d2, y1, y2⟩ := hS.1
      clear hS
      go_upto_region 6 with fail
      go_quiet (fail)
      go_wp2
      go_ret
      exact ⟨_, rfl, Own.nil _ _, q2.out.drewN _, gb_drewN q3.out _⟩
  · have e : rdText xs most at0 f = ([], at0, f) := by rw [rdText, if_pos (by simpa using hf)]
    rw [e]
    clear e
    go_enter Try.func22, Try.ntmps22
    go_wp2
    go_ret
    exact ⟨_, rfl, Own.nil _ _, HRR.out, hg0.out⟩
end Go.Proofs.Ytphmdjhmgmjmgaa
