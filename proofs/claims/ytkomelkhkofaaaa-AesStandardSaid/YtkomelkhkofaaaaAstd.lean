/-
  The walk of AesStandard.
-/
import Derived.Test.YtkomelkhkofaaaaAback
namespace Go.Proofs.Ytkomelkhkofaaaa
open Go.RowKit
set_option linter.unusedVariables false
set_option linter.unusedSimpArgs false

theorem bin_alloc (w : World) (xs : List Int) (t : TypeId) : Bin (w.alloc (.cells (xs.map (Value.int .u8)).toArray t)) (some ⟨w.heap.size, 0, none⟩) xs := fun _ => by
  refine ⟨w.heap.size, 0, rfl, fun i hi => ?_⟩
  rw [Nat.zero_add]
  have e : (xs.map (Value.int .u8))[i]? = some (.int .u8 (xs.getD i 0)) := by
    rw [List.getElem?_map, List.getD_eq_getElem?_getD, List.getElem?_eq_getElem hi]; rfl
  have hg : (w.alloc (.cells (xs.map (Value.int .u8)).toArray t)).heap[w.heap.size]? = some (.cells (xs.map (Value.int .u8)).toArray t (0, 0)) := heap_alloc_new w _
  rw [cell_of_row _ _ i _ t (0, 0) hg, List.getElem?_toArray, e]

/-- The standard's key. -/
def keyI : List Int := [43, 126, 21, 22, 40, 174, 210, 166, 171, 247, 21, 136, 9, 207, 79, 60]
theorem keyI_oct : Oct keyI := by unfold Oct keyI; decide
theorem keyI_nats : nats keyI = keyW := by decide

/-- A load of the whole, at some place, behind a guard that lets it by. -/
theorem wpList_load_want_at {P : Program} {w : World} {ops : Array Oper} {rest : List Oper} {op : Oper} {a : Act} {Q : Exit → Act → World → Prop} (ty : TypeId) (q : Operand) (ho : op.op = .load ty q) (hw : Region.wanted op (yielded ops a.tmps) = true)
    (b o : Nat) (hq : a.eval q = .pointer (some ⟨b, o, none⟩)) (n : Nat) (y : Nat → Nat) (hc : w.rangeAt b o (vals n y)) (d : TypeDesc)
    (hu : P.underlying ty = some d) (hd : d.isRow = true) (hi : (P.info? ty).map (·.size) = some n)
    (h : wpList P ops Q rest (a.put op.dst (.agg (vals n y).toArray)) w) : wpList P ops Q (op :: rest) a w :=
  BigFrame.wpList_want hw fun _ hK => wp_load_mid ty q ho b o hq (vals n y) d hc hu hd (by rw [vals_length]; exact hi) (hK _ _ h)

theorem word_same (x y : Nat → Nat) (w : World) (h : ∀ j, j < 4 → x j = y j) :
    (Op.equalIn 10000 34 (.agg (vals 4 x).toArray) (.agg (vals 4 y).toArray)).run Try.prog w = .ok true w := by
  obtain ⟨i, hi⟩ := Try.sizeU8
  have h1 := run_equalIn_array (P := Try.prog) w 9999 (vals 4 x).toArray (vals 4 y).toArray Try.underlying34 hi
  rw [Try.cellsU8, items_u8 4 9998 x y w _ (by simp)] at h1
  have e : ((List.range 4).all fun i => x i == y i) = true := by
    rw [List.all_eq_true]
    intro j hj
    rw [beq_iff_eq]
    exact h j (by simpa using hj)
  rw [e] at h1
  exact h1

theorem std32 : (vals 16 fun j => [0x8e, 0xa2, 0xb7, 0xca, 0x51, 0x67, 0x45, 0xbf, 0xea, 0xfc, 0x49, 0x90, 0x4b, 0x49, 0x60, 0x89].getD j 0).toArray = #[.int .u8 142, .int .u8 162, .int .u8 183, .int .u8 202, .int .u8 81, .int .u8 103, .int .u8 69, .int .u8 191, .int .u8 234, .int .u8 252, .int .u8 73, .int .u8 144, .int .u8 75, .int .u8 73, .int .u8 96, .int .u8 137] := by kernel_rfl
theorem eq_std (y : Nat → Nat) (hk : Eq16 y fun j => [0x8e, 0xa2, 0xb7, 0xca, 0x51, 0x67, 0x45, 0xbf, 0xea, 0xfc, 0x49, 0x90, 0x4b, 0x49, 0x60, 0x89].getD j 0) (w : World) :
    (Op.equalIn 10000 35 (.agg (vals 16 y).toArray) (.agg #[.int .u8 142, .int .u8 162, .int .u8 183, .int .u8 202, .int .u8 81, .int .u8 103, .int .u8 69, .int .u8 191, .int .u8 234, .int .u8 252, .int .u8 73, .int .u8 144, .int .u8 75, .int .u8 73, .int .u8 96, .int .u8 137])).run Try.prog w = .ok true w := by
  have h := same16 y _ true w (same16_yes hk)
  rw [std32] at h
  exact h
theorem o32 (j : Nat) : wordB 8 (List.range 32) j < 256 := wordB_lt (by decide) j

set_option maxHeartbeats 8000000 in
set_option maxRecDepth 100000 in
theorem standard_law (w : World) : Calls Try.prog 8 #[] w fun e w' => e = .returned (.bool true) ∧ Below w.heap.size w w' := by
  have hzb := Try.zeroBlock
  have hk := check_spec known32
  have hkw := keyW_words
  have oF := o32
  have oB := oblk
  obtain ⟨G, hG⟩ : ∃ G, Hid (G = wordB 4 keyW) := ⟨_, rfl⟩
  obtain ⟨F, hF⟩ : ∃ F, Hid (F = wordB 8 (List.range 32)) := ⟨_, rfl⟩
  obtain ⟨x, hx⟩ : ∃ x, Hid (x = blkN) := ⟨_, rfl⟩
  rw [← hG.out] at hkw
  rw [← hF.out] at oF
  rw [← hF.out, ← hx.out] at hk
  rw [← hx.out] at oB
  have hbin := bin_alloc w keyI 5
  have hB := (Below.refl w.heap.size w).alloc (Nat.le_refl _) (.cells (keyI.map (Value.int .u8)).toArray 5)
  go_enter Try.func8, Try.ntmps8
  go_wp2_with fail
  change Calls _ _ _ (w.alloc (.cells (keyI.map (Value.int .u8)).toArray 5)) _
  generalize w.alloc (.cells (keyI.map (Value.int .u8)).toArray 5) = w0 at hbin hB ⊢
  refine (words4_any _ 16 keyI _ hbin keyI_oct (by decide) (Nat.le_refl _)).mono ?_
  rintro e w1 ⟨g, rfl, hA, hb1, _⟩
  rw [keyI_nats, ← hG.out] at hA
  have hB1 := hB.trans (hb1.mono hB.size)
  clear hbin hB hb1
  go_wp2_with fail
  refine (count32 _).mono ?_
  rintro e w2 ⟨v, rfl, hv, hb2⟩
  obtain ⟨p, cap, rfl, hcap, hbin⟩ := hv.bin
  have hA2 := hA.below hb2
  have hB2 := hB1.trans (hb2.mono hB1.size)
  clear hv hA hB1 hb2
  go_wp2_with fail
  refine (new8_any p cap (upL 32) _ hbin (upL_oct 32 (by decide)) (upL_length 32) hcap).mono ?_
  rintro e w3 ⟨c, kb, rfl, hC, hb3⟩
  rw [upL_nats, ← hF.out] at hC
  have hA3 := hA2.below hb3
  have hB3 := hB2.trans (hb3.mono hB2.size)
  have hS : Bks w c kb 14 F [] w3 := ⟨hC, fun q hq => by simp at hq, hB3⟩
  have hR1 := hA3.part (o := 16) (n := 4) (by decide)
  have hR2 := hA3.part (o := 172) (n := 4) (by decide)
  obtain ⟨k16, k17, k18, k19, k172, k173, k174, k175⟩ := hkw
  have e1 : ∀ w, (Op.equalIn 10000 34 (.agg (vals 4 fun p => G (16 + p)).toArray) (.agg #[.int .u8 160, .int .u8 250, .int .u8 254, .int .u8 23])).run Try.prog w = .ok true w := fun w =>
    word_same (fun p => G (16 + p)) (fun p => [160, 250, 254, 23].getD p 0) w (four k16 k17 k18 k19)
  have e2 : ∀ w, (Op.equalIn 10000 34 (.agg (vals 4 fun p => G (172 + p)).toArray) (.agg #[.int .u8 182, .int .u8 99, .int .u8 12, .int .u8 166])).run Try.prog w = .ok true w := fun w =>
    word_same (fun p => G (172 + p)) (fun p => [182, 99, 12, 166].getD p 0) w (four k172 k173 k174 k175)
  clear hbin hC hb3 hA2 hA3 hB2 hB3 k16 k17 k18 k19 k172 k173 k174 k175
  go_upto_region 5 with (first | (refine wpList_load_want_at 34 _ rfl (by rfl) g 16 rfl 4 (fun p => G (16 + p)) ?_ _ Try.underlying34 rfl Try.sizeWord ?_; exact hR1) | (refine wpList_load_want_at 34 _ rfl (by rfl) g 172 rfl 4 (fun p => G (172 + p)) ?_ _ Try.underlying34 rfl Try.sizeWord ?_; exact hR2))
  clear hR1 hR2 e1 e2
  go_wp2_with fail
  have hbl := block_any w3
  rw [← hx.out] at hbl
  refine hbl.mono ?_
  rintro e w4 ⟨rfl, hb4⟩
  replace hS := hS.grow hb4
  clear hb4 hbl
  go_wp2_with fail
  refine (encrypt_any c kb 14 F x _ oF oB (by decide) (by decide) hS.1).mono ?_
  rintro e w5 ⟨rfl, hb5⟩
  obtain ⟨y, hy⟩ : ∃ z, Hid (z = enc F 14 x) := ⟨_, rfl⟩
  have oy : ∀ j, y j < 256 := by rw [hy.out]; exact enc_lt oF oB 14
  rw [← hy.out]
  rw [← hy.out] at hk
  obtain ⟨hS', hn⟩ := (hS.grow hb5).new y 35
  clear hS hb5
  go_upto_region 6 with (refine wpList_store_arr rfl 35 _ _ rfl w5.heap.size 16 y rfl rfl (fun _ => 0) ?_ Try.sizeBlock ?_; exact hn)
  clear hn
  obtain ⟨gy, hgy⟩ : ∃ g, Hid (g = w5.heap.size) := ⟨_, rfl⟩
  rw [← hgy.out] at hS' ⊢
  generalize (w5.alloc (.cells (vals 16 fun _ => 0).toArray 35)).setCells gy 0 (vals 16 y) = v5 at hS' ⊢
  go_wp2_with (refine wpList_load_arr rfl 35 _ rfl gy rfl 16 y ?_ _ Try.underlying35 rfl Try.sizeBlock ?_; exact hS'.at (by simp))
  refine (decrypt_any c kb 14 F y _ oF oy (by decide) (by decide) hS'.1).mono ?_
  rintro e w6 ⟨rfl, hb6⟩
  obtain ⟨z, hz⟩ : ∃ z, Hid (z = dec F 14 y) := ⟨_, rfl⟩
  rw [← hz.out]
  obtain ⟨hS, hn⟩ := (hS'.grow hb6).new z 35
  clear hS' hb6
  go_upto_region 7 with (refine wpList_store_arr rfl 35 _ _ rfl w6.heap.size 16 z rfl rfl (fun _ => 0) ?_ Try.sizeBlock ?_; exact hn)
  clear hn
  obtain ⟨gz, hgz⟩ : ∃ g, Hid (g = w6.heap.size) := ⟨_, rfl⟩
  rw [← hgz.out] at hS ⊢
  generalize (w6.alloc (.cells (vals 16 fun _ => 0).toArray 35)).setCells gz 0 (vals 16 z) = v6 at hS ⊢
  have ez : Eq16 z x := by rw [hz.out, hy.out]; exact dec_enc oF oB 14
  have q1 := eq_std y hk
  have q2 := fun w => same16 z x true w (same16_yes ez)
  have hub := Try.underlying35
  have hib := Try.sizeBlock
  clear hzb ez hk
  refine wp_region_z (Bks w c kb 14 F [(gz, z), (gy, y)]) 20 (by kernel_rfl) (hS.grow (Below.refl _ _).drew) (fun hS => ?_)
  refine wpAnyZ_take (i := 0) (v := .int .i64 0) rfl (by kernel_rfl) (by kernel_rfl) (by kernel_rfl) (by kernel_rfl) (fun _ _ _ h => h) hS (Or.inl ⟨by kernel_rfl, fun w hS => (by clear hS; go_simp)⟩) ?_
  simp only [Act.put, List.setIfInBounds_toArray, List.set_cons_zero, List.set_cons_succ]
  refine wpAnyZ_take (i := 1) (v := .bool true) rfl (by kernel_rfl) (by kernel_rfl) (by kernel_rfl) (by kernel_rfl) (fun _ _ _ h => h) hS (Or.inl ⟨by kernel_rfl, fun w hS => (by clear hS; go_simp)⟩) ?_
  simp only [Act.put, List.setIfInBounds_toArray, List.set_cons_zero, List.set_cons_succ]
  refine wpAnyZ_take (i := 2) (v := .bool true) rfl (by kernel_rfl) (by kernel_rfl) (by kernel_rfl) (by kernel_rfl) (fun _ _ _ h => h) hS (Or.inl ⟨by kernel_rfl, fun w hS => (by clear hS; go_simp)⟩) ?_
  simp only [Act.put, List.setIfInBounds_toArray, List.set_cons_zero, List.set_cons_succ]
  refine wpAnyZ_take (i := 3) (v := .int .i64 0) rfl (by kernel_rfl) (by kernel_rfl) (by kernel_rfl) (by kernel_rfl) (fun _ _ _ h => h) hS (Or.inl ⟨by kernel_rfl, fun w hS => (by clear hS; go_simp)⟩) ?_
  simp only [Act.put, List.setIfInBounds_toArray, List.set_cons_zero, List.set_cons_succ]
  refine wpAnyZ_take (i := 4) (v := .bool true) rfl (by kernel_rfl) (by kernel_rfl) (by kernel_rfl) (by kernel_rfl) (fun _ _ _ h => h) hS (Or.inl ⟨by kernel_rfl, fun w hS => (by clear hS; go_simp)⟩) ?_
  simp only [Act.put, List.setIfInBounds_toArray, List.set_cons_zero, List.set_cons_succ]
  refine wpAnyZ_take (i := 5) (v := .bool true) rfl (by kernel_rfl) (by kernel_rfl) (by kernel_rfl) (by kernel_rfl) (fun _ _ _ h => h) hS (Or.inl ⟨by kernel_rfl, fun w hS => (by clear hS; go_simp)⟩) ?_
  simp only [Act.put, List.setIfInBounds_toArray, List.set_cons_zero, List.set_cons_succ]
  refine wpAnyZ_take (i := 6) (v := .bool true) rfl (by kernel_rfl) (by kernel_rfl) (by kernel_rfl) (by kernel_rfl) (fun _ _ _ h => h) hS (Or.inl ⟨by kernel_rfl, fun w hS => (by clear hS; go_simp)⟩) ?_
  simp only [Act.put, List.setIfInBounds_toArray, List.set_cons_zero, List.set_cons_succ]
  refine wpAnyZ_take (i := 7) rfl (by kernel_rfl) (by kernel_rfl) (by kernel_rfl) (by kernel_rfl) (fun _ _ _ h => h) hS (yieldsIf_load_mid (by kernel_rfl) 35 (.tmp 5) rfl gy 0 (by kernel_rfl) (vals 16 y) _ (fun w hS => (hS.at (by simp)).range) hub rfl hib) ?_
  simp only [Act.put, List.setIfInBounds_toArray, List.set_cons_zero, List.set_cons_succ]
  refine wpAnyZ_take (i := 8) (v := .agg #[.int .u8 142, .int .u8 162, .int .u8 183, .int .u8 202, .int .u8 81, .int .u8 103, .int .u8 69, .int .u8 191, .int .u8 234, .int .u8 252, .int .u8 73, .int .u8 144, .int .u8 75, .int .u8 73, .int .u8 96, .int .u8 137]) rfl (by kernel_rfl) (by kernel_rfl) (by kernel_rfl) (by kernel_rfl) (fun _ _ _ h => h) hS (Or.inl ⟨by kernel_rfl, fun w hS => (by clear hS; go_simp)⟩) ?_
  simp only [Act.put, List.setIfInBounds_toArray, List.set_cons_zero, List.set_cons_succ]
  refine wpAnyZ_take (i := 9) (v := .bool true) rfl (by kernel_rfl) (by kernel_rfl) (by kernel_rfl) (by kernel_rfl) (fun _ _ _ h => h) hS (Or.inl ⟨by kernel_rfl, fun w hS => (by clear hS; go_simp)⟩) ?_
  simp only [Act.put, List.setIfInBounds_toArray, List.set_cons_zero, List.set_cons_succ]
  refine wpAnyZ_take (i := 10) (v := .bool true) rfl (by kernel_rfl) (by kernel_rfl) (by kernel_rfl) (by kernel_rfl) (fun _ _ _ h => h) hS (Or.inl ⟨by kernel_rfl, fun w hS => (by clear hS; go_simp)⟩) ?_
  simp only [Act.put, List.setIfInBounds_toArray, List.set_cons_zero, List.set_cons_succ]
  refine wpAnyZ_take (i := 11) (v := .bool true) rfl (by kernel_rfl) (by kernel_rfl) (by kernel_rfl) (by kernel_rfl) (fun _ _ _ h => h) hS (Or.inl ⟨by kernel_rfl, fun w hS => (by clear hS; go_simp)⟩) ?_
  simp only [Act.put, List.setIfInBounds_toArray, List.set_cons_zero, List.set_cons_succ]
  refine wpAnyZ_take (i := 12) rfl (by kernel_rfl) (by kernel_rfl) (by kernel_rfl) (by kernel_rfl) (fun _ _ _ h => h) hS (yieldsIf_load_mid (by kernel_rfl) 35 (.tmp 7) rfl gz 0 (by kernel_rfl) (vals 16 z) _ (fun w hS => (hS.at (by simp)).range) hub rfl hib) ?_
  simp only [Act.put, List.setIfInBounds_toArray, List.set_cons_zero, List.set_cons_succ]
  refine wpAnyZ_one (i := 13) (by kernel_rfl) rfl (fun K hK => ?_)
  go_simp
  go_at_call 21
  have hbl := block_any v6.drew
  rw [← hx.out] at hbl
  refine hbl.mono ?_
  rintro e w8 ⟨rfl, hb8⟩
  go_wp2_with fail
  refine hK.out _ _ (fun _ => hS.grow hb8) ?_
  replace hS := hS.grow hb8
  clear hK K
  try simp only [Act.put, List.setIfInBounds_toArray, List.set_cons_zero, List.set_cons_succ]
  refine wpAnyZ_take (i := 14) (v := .bool true) rfl (by kernel_rfl) (by kernel_rfl) (by kernel_rfl) (by kernel_rfl) (fun _ _ _ h => h) hS (Or.inl ⟨by kernel_rfl, fun w hS => (by clear hS; go_simp)⟩) ?_
  simp only [Act.put, List.setIfInBounds_toArray, List.set_cons_zero, List.set_cons_succ]
  refine wpAnyZ_take (i := 15) (v := .bool true) rfl (by kernel_rfl) (by kernel_rfl) (by kernel_rfl) (by kernel_rfl) (fun _ _ _ h => h) hS (Or.inl ⟨by kernel_rfl, fun w hS => (by clear hS; go_simp)⟩) ?_
  simp only [Act.put, List.setIfInBounds_toArray, List.set_cons_zero, List.set_cons_succ]
  refine wpAnyZ_take (i := 16) (v := .bool true) rfl (by kernel_rfl) (by kernel_rfl) (by kernel_rfl) (by kernel_rfl) (fun _ _ _ h => h) hS (Or.inl ⟨by kernel_rfl, fun w hS => (by clear hS; go_simp)⟩) ?_
  simp only [Act.put, List.setIfInBounds_toArray, List.set_cons_zero, List.set_cons_succ]
  refine wpAnyZ_one (i := 17) (by kernel_rfl) rfl (fun K hK => ?_)
  go_simp
  go_at_call 14
  refine (known_any _).mono ?_
  rintro e w9 ⟨rfl, hb9⟩
  go_wp2_with fail
  refine hK.out _ _ (fun _ => hS.grow hb9) ?_
  replace hS := hS.grow hb9
  clear hK K
  try simp only [Act.put, List.setIfInBounds_toArray, List.set_cons_zero, List.set_cons_succ]
  refine wpAnyZ_take (i := 18) (v := .bool true) rfl (by kernel_rfl) (by kernel_rfl) (by kernel_rfl) (by kernel_rfl) (fun _ _ _ h => h) hS (Or.inl ⟨by kernel_rfl, fun w hS => (by clear hS; go_simp)⟩) ?_
  simp only [Act.put, List.setIfInBounds_toArray, List.set_cons_zero, List.set_cons_succ]
  refine wpAnyZ_one (i := 19) (by kernel_rfl) rfl (fun K hK => ?_)
  go_simp
  refine hK.out _ _ (fun _ => hS) ?_
  clear hK K
  try simp only [Act.put, List.setIfInBounds_toArray, List.set_cons_zero, List.set_cons_succ]
  refine wpAnyZ_done (by kernel_rfl) ?_ _
  go_wp2_with fail
  go_ret
  exact ⟨rfl, hS.2.2⟩
end Go.Proofs.Ytkomelkhkofaaaa
