/-
  The program's markers: newMarker and tag.
-/
import Derived.Test.YtgnhbfjngdgibaaKh
import Derived.Test.YtgnhbfjngdgibaaKg
import Derived.Test.YtgnhbfjngdgibaaCn
import Derived.Test.YtgnhbfjngdgibaaCcn
import Derived.Test.YtgnhbfjngdgibaaGhsum
import Derived.Test.YtgnhbfjngdgibaaKa
import Derived.Test.YtgnhbfjngdgibaaCst
import Derived.Test.YtgnhbfjngdgibaaSr
namespace Go.Proofs.Ytgnhbfjngdgibaa
open Go.RowKit
set_option linter.unusedVariables false
set_option linter.unusedSimpArgs false

/-- Two blocks, one behind the other. -/
def two16 (h m : Nat → Nat) : Nat → Nat := fun j => if j < 16 then h j else m (j - 16)
theorem two16_lo (h m : Nat → Nat) (j : Nat) (hj : j < 16) : two16 h m j = h j := by simp [two16, hj]
theorem two16_hi (h m : Nat → Nat) (j : Nat) : two16 h m (16 + j) = m j := by
  unfold two16
  rw [if_neg (by omega), Nat.add_sub_cancel_left]
theorem Try.sizeMarker : (Try.prog.info? 46).map (·.size) = some 32 := by kernel_rfl
theorem Try.zeroMarker (w : World) : (zeroValue 46).run Try.prog w = .ok (.agg (vals 32 fun _ => 0).toArray) w := by kernel_rfl
theorem buildMarker0 (w : World) : (Instr.build 46 #[]).run Try.prog w = .ok (.agg (vals 32 fun _ => 0).toArray) w := by kernel_rfl
theorem buildMarker (h m : Nat → Nat) (w : World) : (Instr.build 46 #[(0, .agg (vals 16 h).toArray), (1, .agg (vals 16 m).toArray)]).run Try.prog w = .ok (.agg (vals 32 (two16 h m)).toArray) w := by kernel_rfl

/-- A struct or an array put together, at the list of a plain region's operations. -/
theorem wpList_build {P : Program} {ops : Array Oper} {rest : List Oper} {op : Oper} {a : Act} {w : World} {Q : Exit → Act → World → Prop} (hgd : op.guard = none) (ty : TypeId) (parts : Array (Nat × Operand)) (ho : op.op = .build ty parts)
    (ps : Array (Nat × Value)) (hps : (parts.map fun q => (q.1, a.eval q.2)) = ps) (v : Value) (hv : (Instr.build ty ps).run P w = .ok v w) (h : wpList P ops Q rest (a.put op.dst v) w) : wpList P ops Q (op :: rest) a w :=
  wpList_plain hgd fun K hK => by
    unfold Oper.wp execOp
    have e : (parts.map fun (i, x) => (i, a.eval x)) = ps := hps
    simp only [ho, e, Sem.run_bind, Sem.run_pure, hv, Result.andThen_ok]
    exact hK _ _ h

set_option maxHeartbeats 4000000 in
set_option maxRecDepth 100000 in
theorem marker_of (pk pn : Option Addr) (ck cn nk : Nat) (ks ns : List Int) (w : World) (hkp : Bin w pk ks) (hks : Oct ks) (hkl : ks.length = nk) (hnk : nk = 16 ∨ nk = 32) (hck : nk ≤ ck) (hnp : Bin w pn ns) (hns : Oct ns) (hnl : ns.length = 12) :
    Calls Try.prog 29 #[.slice pk nk ck, .slice pn (12 : Nat) cn] w fun e w' => e = .returned (.tuple #[.agg (vals 32 (two16 (keyE nk ks fun _ => 0) (keyE nk ks (frs ns)))).toArray, .int .i64 0]) ∧ Below w.heap.size w w' := by
  have hzb := Try.zeroBlock
  have hzm := Try.zeroMarker
  have hub := Try.underlying44
  have hib := Try.sizeBlock
  have oc := frs_lt hns
  have hfirst := fun (w' : World) hp => first_of pn cn ns w' hp hns hnl
  have hnew := fun (w' : World) hp => new_new pk ck nk ks w' hp hks hkl hck hnk
  obtain ⟨f, hf⟩ : ∃ f, Hid (f = frs ns) := ⟨_, rfl⟩
  rw [← hf.out] at hfirst oc ⊢
  obtain ⟨E, hE⟩ : ∃ E, Hid (E = keyE nk ks) := ⟨_, rfl⟩
  rw [← hE.out]
  obtain ⟨h, hh⟩ : ∃ h, Hid (h = E fun _ => 0) := ⟨_, rfl⟩
  obtain ⟨m, hm⟩ : ∃ m, Hid (m = E f) := ⟨_, rfl⟩
  rw [← hh.out, ← hm.out]
  have HFIRST := hid hfirst
  have HNEW := hid hnew
  have KP := hid hkp
  have NP := hid hnp
  clear hfirst hnew hkp hnp
  go_enter Try.func29, Try.ntmps29
  go_upto_region 1 with fail
  have hn0 := arr_new w 32 (fun _ => 0) 46
  have hB0 := (Below.refl w.heap.size w).alloc (Nat.le_refl _) (.cells (vals 32 fun _ => 0).toArray 46)
  have H0 := hid hn0
  have HB0 := hid hB0
  clear hn0 hB0
  obtain ⟨g4, hg4⟩ : ∃ g, Hid (g = w.heap.size) := ⟨_, rfl⟩
  rw [← hg4.out] at H0 ⊢
  have hg4' : w.heap.size ≤ g4 := by rw [hg4.out]; exact Nat.le_refl _
  generalize w.alloc (.cells (vals 32 fun _ => 0).toArray 46) = w0 at H0 HB0 ⊢
  go_wp2_with fail
  refine (HNEW.out w0 (KP.out.below HB0.out)).mono ?_
  rintro e w1 ⟨c, kb, r, F, rfl, hC, hrF, hr, oF, hb1, hcl, hkl2⟩
  have hEF : E = enc F r := by rw [hE.out, keyE, hrF.out.2, hrF.out.1]
  have oE : ∀ x, (∀ j, x j < 256) → ∀ j, enc F r x j < 256 := fun x ox j => enc_lt oF ox r j
  have lg4 := H0.out.lt (by decide)
  have H1 := hid (And.intro hC (And.intro (H0.out.below hb1) (HB0.out.trans (hb1.mono HB0.out.size))))
  have HK := hid (And.intro hcl hkl2)
  have HB1 := hid hb1.size
  clear hC hrF hb1 H0 HB0 HNEW KP hcl hkl2
  go_wp2_with fail
  refine (HFIRST.out w1 (NP.out.below H1.out.2.2)).mono ?_
  rintro e w2 ⟨rfl, hb2⟩
  have H2 : Hid (Bks w c kb r F [] w2 ∧ Arr w2 g4 32 fun _ => 0) := hid (And.intro ⟨H1.out.1.below hb2, fun q hq => (by cases hq), H1.out.2.2.trans (hb2.mono H1.out.2.2.size)⟩ (H1.out.2.1.below hb2))
  have lg2 : g4 < w2.heap.size := by have := hb2.size; have := HB1.out; omega
  clear H1 hb2 HFIRST NP
  have hnew2 := H2.out.1.new f 44
  have hM2 := (H2.out.2.alloc (.cells (vals 16 fun _ => 0).toArray 44)).besidePut (b' := w2.heap.size) (by omega) 0 (vals 16 f)
  have H3 := hid (And.intro hnew2.1 hM2)
  have HN := hid hnew2.2
  clear hnew2 hM2 H2
  go_upto_region 5 with (refine wpList_store_arr rfl 44 _ _ rfl w2.heap.size 16 f rfl rfl (fun _ => 0) ?_ hib ?_; exact HN.out)
  clear HN
  obtain ⟨g8, hg8⟩ : ∃ g, Hid (g = w2.heap.size) := ⟨_, rfl⟩
  have l48 : g4 < g8 := by rw [hg8.out]; exact lg2
  rw [← hg8.out] at H3 ⊢
  generalize (w2.alloc (.cells (vals 16 fun _ => 0).toArray 44)).setCells g8 0 (vals 16 f) = w3 at H3 ⊢
  clear lg2 hg8
  go_wp2_with fail
  refine (encrypt_any c kb r F (fun _ => 0) w3 oF (fun _ => by decide) hr.1 hr.2 H3.out.1.1).mono ?_
  rintro e w4 ⟨rfl, hb4⟩
  rw [← hEF, ← hh.out]
  have lg3 : g8 < w3.heap.size := (H3.out.1.at (g := g8) (x := f) (by simp)).lt (by decide)
  have H4 := hid (And.intro (H3.out.1.grow hb4) (H3.out.2.below hb4))
  have hs4 := hb4.size
  clear H3 hb4
  have hnew4 := H4.out.1.new h 44
  have hM4 := (H4.out.2.alloc (.cells (vals 16 fun _ => 0).toArray 44)).besidePut (b' := w4.heap.size) (by omega) 0 (vals 16 h)
  have H5 := hid (And.intro hnew4.1 hM4)
  have HN := hid hnew4.2
  clear hnew4 hM4 H4
  go_upto_region 8 with (refine wpList_store_arr rfl 44 _ _ rfl w4.heap.size 16 h rfl rfl (fun _ => 0) ?_ hib ?_; exact HN.out)
  clear HN
  obtain ⟨g9, hg9⟩ : ∃ g, Hid (g = w4.heap.size) := ⟨_, rfl⟩
  have l89 : g8 < g9 := by rw [hg9.out]; omega
  rw [← hg9.out] at H5 ⊢
  generalize (w4.alloc (.cells (vals 16 fun _ => 0).toArray 44)).setCells g9 0 (vals 16 h) = w5 at H5 ⊢
  clear lg3 hs4 hg9
  go_wp2_with (refine wpList_load_arr rfl 44 _ rfl g8 rfl 16 f ?_ _ hub rfl hib ?_; exact H5.out.1.at (by simp))
  refine (encrypt_any c kb r F f w5 oF oc hr.1 hr.2 H5.out.1.1).mono ?_
  rintro e w6 ⟨rfl, hb6⟩
  rw [← hEF, ← hm.out]
  have lg5 : g9 < w5.heap.size := (H5.out.1.at (g := g9) (x := h) (by simp)).lt (by decide)
  have H6 := hid (And.intro (H5.out.1.grow hb6) (H5.out.2.below hb6))
  have hs6 := hb6.size
  clear H5 hb6
  have hnew6 := H6.out.1.new m 44
  have hM6 := (H6.out.2.alloc (.cells (vals 16 fun _ => 0).toArray 44)).besidePut (b' := w6.heap.size) (by omega) 0 (vals 16 m)
  have H7 := hid (And.intro hnew6.1 hM6)
  have HN := hid hnew6.2
  clear hnew6 hM6 H6
  go_upto_region 9 with (refine wpList_store_arr rfl 44 _ _ rfl w6.heap.size 16 m rfl rfl (fun _ => 0) ?_ hib ?_; exact HN.out)
  clear HN
  obtain ⟨g11, hg11⟩ : ∃ g, Hid (g = w6.heap.size) := ⟨_, rfl⟩
  have l911 : g9 < g11 := by rw [hg11.out]; omega
  rw [← hg11.out] at H7 ⊢
  generalize (w6.alloc (.cells (vals 16 fun _ => 0).toArray 44)).setCells g11 0 (vals 16 m) = w7 at H7 ⊢
  clear lg5 hs6 hg11
  have HP := hid (H7.out.2.put (two16 h m))
  have HB := hid (below_setCells (b := g4) (vals 32 (two16 h m)) 0 H7.out.1.2.2 hg4')
  go_wp2_with (first | (refine wpList_load_arr rfl 44 (.tmp 9) rfl g9 rfl 16 h ?_ _ hub rfl hib ?_; exact H7.out.1.at (by simp)) | (refine wpList_load_arr rfl 44 (.tmp 11) rfl g11 rfl 16 m ?_ _ hub rfl hib ?_; exact H7.out.1.at (by simp)) | (refine wpList_build rfl 46 #[(0, .tmp 43), (1, .tmp 44)] rfl _ (by kernel_rfl) (.agg (vals 32 (two16 h m)).toArray) (buildMarker h m _) ?_) | (refine wpList_store_arr rfl 46 (.tmp 4) (.tmp 45) rfl g4 32 (two16 h m) rfl rfl (fun _ => 0) ?_ Try.sizeMarker ?_; exact H7.out.2))
  generalize w7.setCells g4 0 (vals 32 (two16 h m)) = w8 at HP HB ⊢
  refine bodyPost_ret (v := .tuple #[.agg (vals 32 (two16 h m)).toArray, .int .i64 0]) ?_ rfl ⟨rfl, HB.out⟩
  exact results_cell_tmp_arr rfl _ g4 32 (two16 h m) _ (.int .i64 0) rfl rfl HP.out Try.underlying46 rfl Try.sizeMarker

set_option maxHeartbeats 4000000 in
set_option maxRecDepth 100000 in
theorem marker_no (pk pn : Option Addr) (ck cn nk nn : Nat) (ks ns : List Int) (w : World) (hkp : Bin w pk ks) (hks : Oct ks) (hkl : ks.length = nk) (hck : nk ≤ ck) (hnp : Bin w pn ns) (hns : Oct ns) (hnl : ns.length = nn) (hno : mayN nk nn = false) :
    Calls Try.prog 29 #[.slice pk nk ck, .slice pn nn cn] w fun e w' => e = .returned (.tuple #[.agg (vals 32 fun _ => 0).toArray, .int .i64 2]) ∧ Below w.heap.size w w' := by
  have hzb := Try.zeroBlock
  have hzm := Try.zeroMarker
  have hbm := buildMarker0
  have hn0 := arr_new w 32 (fun _ => 0) 46
  have hB0 := (Below.refl w.heap.size w).alloc (Nat.le_refl _) (.cells (vals 32 fun _ => 0).toArray 46)
  have H0 := hid (And.intro hn0 hB0)
  clear hn0 hB0
  by_cases h1 : mayB nk = false
  · obtain ⟨n1, n2⟩ := mayB_no h1
    go_enter Try.func29, Try.ntmps29
    go_upto_region 1 with fail
    obtain ⟨g4, hg4⟩ : ∃ g, Hid (g = w.heap.size) := ⟨_, rfl⟩
    rw [← hg4.out] at H0 ⊢
    have hg4' : w.heap.size ≤ g4 := by rw [hg4.out]; exact Nat.le_refl _
    generalize w.alloc (.cells (vals 32 fun _ => 0).toArray 46) = w0 at H0 ⊢
    go_wp2_with fail
    refine (new_no pk ck nk w0 n1 n2).mono ?_
    rintro e w1 ⟨rfl, rfl⟩
    have HP := hid (H0.out.1.put (fun _ => 0))
    have HB := hid (below_setCells (b := g4) (vals 32 fun _ => 0) 0 (show Below w.heap.size w w0 from hg4.out ▸ H0.out.2) hg4')
    go_wp2_with (refine wpList_store_arr rfl 46 _ _ rfl g4 32 (fun _ => 0) rfl rfl (fun _ => 0) ?_ Try.sizeMarker ?_; exact H0.out.1)
    generalize w0.setCells g4 0 (vals 32 fun _ => 0) = w8 at HP HB ⊢
    refine bodyPost_ret (v := .tuple #[.agg (vals 32 (fun _ => 0)).toArray, .int .i64 2]) ?_ rfl ⟨rfl, HB.out⟩
    exact results_cell_tmp_arr rfl _ g4 32 (fun _ => 0) _ (.int .i64 2) rfl rfl HP.out Try.underlying46 rfl Try.sizeMarker
  · have h1' : mayB nk = true := by simpa using h1
    have h2 : nn ≠ 12 := by
      rintro rfl
      simp [mayN, h1'] at hno
    have hnew := fun (w' : World) hp => new_new pk ck nk ks w' hp hks hkl hck (mayB_yes h1')
    have HNEW := hid hnew
    have KP := hid hkp
    clear hnew hkp
    go_enter Try.func29, Try.ntmps29
    go_upto_region 1 with fail
    obtain ⟨g4, hg4⟩ : ∃ g, Hid (g = w.heap.size) := ⟨_, rfl⟩
    have hg4' : w.heap.size ≤ g4 := by rw [hg4.out]; exact Nat.le_refl _
    have HB0 := hid (show Below w.heap.size w (w.alloc (.cells (vals 32 fun _ => 0).toArray 46)) from H0.out.2)
    rw [← hg4.out] at H0 ⊢
    generalize w.alloc (.cells (vals 32 fun _ => 0).toArray 46) = w0 at H0 HB0 ⊢
    go_wp2_with fail
    refine (HNEW.out w0 (KP.out.below HB0.out)).mono ?_
    rintro e w1 ⟨c, kb, r, F, rfl, hC, hrF, hr, oF, hb1, hcl, hkl2⟩
    have lg4 := H0.out.1.lt (by decide)
    have H1 := hid (And.intro (H0.out.1.below hb1) (HB0.out.trans (hb1.mono HB0.out.size)))
    have hs1 := hb1.size
    clear hC hrF hr oF hcl hkl2 hb1 HNEW H0 HB0
    go_wp2_with fail
    refine (first_no pn cn nn w1 h2).mono ?_
    rintro e w2 ⟨rfl, hb2⟩
    have H2 := hid (And.intro (H1.out.1.below hb2) (H1.out.2.trans (hb2.mono H1.out.2.size)))
    have hs2 := hb2.size
    have hn2 := arr_new w2 16 (fun _ => 0) 44
    have hM2 := (H2.out.1.alloc (.cells (vals 16 fun _ => 0).toArray 44)).besidePut (b' := w2.heap.size) (by omega) 0 (vals 16 fun _ => 0)
    have H3 := hid (And.intro hM2 (below_setCells (b := w2.heap.size) (vals 16 fun _ => 0) 0 (H2.out.2.alloc H2.out.2.size (.cells (vals 16 fun _ => 0).toArray 44)) H2.out.2.size))
    have HN := hid hn2
    clear hM2 hn2 hb2 H2 H1
    go_upto_region 5 with (refine wpList_store_arr rfl 44 _ _ rfl w2.heap.size 16 (fun _ => 0) rfl rfl (fun _ => 0) ?_ Try.sizeBlock ?_; exact HN.out)
    clear HN
    generalize (w2.alloc (.cells (vals 16 fun _ => 0).toArray 44)).setCells w2.heap.size 0 (vals 16 fun _ => 0) = w3 at H3 ⊢
    have HP := hid (H3.out.1.put (fun _ => 0))
    have HB := hid (below_setCells (b := g4) (vals 32 fun _ => 0) 0 H3.out.2 hg4')
    go_wp2_with (refine wpList_store_arr rfl 46 _ _ rfl g4 32 (fun _ => 0) rfl rfl (fun _ => 0) ?_ Try.sizeMarker ?_; exact H3.out.1)
    generalize w3.setCells g4 0 (vals 32 fun _ => 0) = w8 at HP HB ⊢
    refine bodyPost_ret (v := .tuple #[.agg (vals 32 (fun _ => 0)).toArray, .int .i64 2]) ?_ rfl ⟨rfl, HB.out⟩
    exact results_cell_tmp_arr rfl _ g4 32 (fun _ => 0) _ (.int .i64 2) rfl rfl HP.out Try.underlying46 rfl Try.sizeMarker

theorem xor_rows {s m : Nat → Nat} (os : ∀ j, s j < 256) (om : ∀ j, m j < 256) : xorL (row s 16) (row m 16) = row (fun j => s j ^^^ m j) 16 := by
  rw [xorL_row (row_oct os 16) 16 (row_length s 16)]
  exact row_sameR fun j hj => by rw [byt_row, if_pos hj]

theorem arr_bin {w : World} {g : Nat} {s : Nat → Nat} (h : Arr w g 16 s) : Bin w (some ⟨g, 0, none⟩) (row s 16) := fun _ => ⟨g, 0, rfl, fun i hi => by
  rw [row_length] at hi
  rw [Nat.zero_add, (h i hi).1, row_at s 16 i hi]⟩
theorem arr_bin_hi {w : World} {g : Nat} {h m : Nat → Nat} (H : Arr w g 32 (two16 h m)) : Bin w (some ⟨g, 16, none⟩) (row m 16) := fun _ => ⟨g, 16, rfl, fun i hi => by
  rw [row_length] at hi
  rw [(H (16 + i) (by omega)).1, row_at m 16 i hi, two16_hi]⟩
theorem range_lo {w : World} {g : Nat} {h m : Nat → Nat} (H : Arr w g 32 (two16 h m)) : w.rangeAt g 0 (vals 16 h) := by
  have := H.part (o := 0) (n := 16) (by decide)
  rwa [vals_same (fun j hj => by rw [Nat.zero_add, two16_lo h m j hj])] at this

set_option maxHeartbeats 4000000 in
set_option maxRecDepth 100000 in
theorem tag_of (h m : Nat → Nat) (pa pb : Option Addr) (ca cb na nb : Nat) (az bs : List Int) (w : World) (oh : ∀ j, h j < 256) (om : ∀ j, m j < 256) (hap : Bin w pa az) (has : Oct az) (hal : az.length = na) (hca : na ≤ ca) (hbp : Bin w pb bs) (hbs : Oct bs) (hbl : bs.length = nb) (hcb : nb ≤ cb)
    (ha : na ≤ 140737488351232) (hb : nb ≤ 140737488351232) :
    Calls Try.prog 31 #[.agg (vals 32 (two16 h m)).toArray, .slice pa na ca, .slice pb nb cb] w fun e w' => ∃ v, e = .returned v ∧ Own w.heap.size w' v 16 (row (by16 (sumN (el h) az bs ^^^ el m)) 16) ∧ Below w.heap.size w w' := by
  have hzb := Try.zeroBlock
  have hub := Try.underlying44
  have hib := Try.sizeBlock
  obtain ⟨s, hs⟩ : ∃ s, Hid (s = by16 (sumN (el h) az bs)) := ⟨_, rfl⟩
  have os : ∀ j, s j < 256 := by rw [hs.out]; exact by16_lt _
  have hyt : Hid (xorL (row s 16) (row m 16) = row (by16 (sumN (el h) az bs ^^^ el m)) 16) := hid (by
    rw [xor_rows os om]
    exact row_sameR fun j hj => by rw [by16_xor, by16_el om j hj, ← hs.out])
  rw [← hyt.out]
  have hsum := fun (w' : World) (h1 : Bin w' pa az) (h2 : Bin w' pb bs) => sum_of h pa pb ca cb na nb az bs w' oh hal hbl h1 h2 has hbs ha hb hca hcb
  rw [← hs.out] at hsum
  have hn0 := arr_new w 32 (two16 h m) 46
  have hB0 := (Below.refl w.heap.size w).alloc (Nat.le_refl _) (.cells (vals 32 (two16 h m)).toArray 46)
  have HSUM := hid hsum
  have AP := hid hap
  have BP := hid hbp
  have H0 := hid hn0
  have HB0 := hid hB0
  clear hsum hap hbp hn0 hB0
  go_enter Try.func31, Try.ntmps31
  go_upto_region 1 with fail
  obtain ⟨g3, hg3⟩ : ∃ g, Hid (g = w.heap.size) := ⟨_, rfl⟩
  rw [← hg3.out] at H0 ⊢
  have hg3' : w.heap.size ≤ g3 := by rw [hg3.out]; exact Nat.le_refl _
  generalize w.alloc (.cells (vals 32 (two16 h m)).toArray 46) = w0 at H0 HB0 ⊢
  have HR := hid (range_lo H0.out)
  go_wp2_with (refine wpList_load_mid rfl 44 (.tmp 10) rfl g3 0 rfl (vals 16 h) _ ?_ hub rfl hib ?_; exact HR.out)
  refine (HSUM.out w0 (AP.out.below HB0.out) (BP.out.below HB0.out)).mono ?_
  rintro e w1 ⟨rfl, hb1⟩
  have lg3 := H0.out.lt (by decide)
  have H1 := hid (And.intro (H0.out.below hb1) (HB0.out.trans (hb1.mono HB0.out.size)))
  have hs1 := hb1.size
  clear hb1 H0 HB0 HR HSUM AP BP
  have hn1 := arr_new w1 16 (fun _ => 0) 44
  have HM := hid ((H1.out.1.alloc (.cells (vals 16 fun _ => 0).toArray 44)).besidePut (b' := w1.heap.size) (by omega) 0 (vals 16 s))
  have HB := hid (below_setCells (b := w1.heap.size) (vals 16 s) 0 (H1.out.2.alloc H1.out.2.size (.cells (vals 16 fun _ => 0).toArray 44)) H1.out.2.size)
  have HS := hid (hn1.put s)
  have HN := hid hn1
  clear hn1
  go_upto_region 2 with (refine wpList_store_arr rfl 44 _ _ rfl w1.heap.size 16 s rfl rfl (fun _ => 0) ?_ hib ?_; exact HN.out)
  clear HN H1
  obtain ⟨g7, hg7⟩ : ∃ g, Hid (g = w1.heap.size) := ⟨_, rfl⟩
  rw [← hg7.out] at HM HB HS ⊢
  generalize (w1.alloc (.cells (vals 16 fun _ => 0).toArray 44)).setCells g7 0 (vals 16 s) = w2 at HM HB HS ⊢
  clear hg7 lg3 hs1
  have hxor := fun (w' : World) (h1 : Bin w' (some ⟨g7, 0, none⟩) (row s 16)) (h2 : Bin w' (some ⟨g3, 16, none⟩) (row m 16)) => xor_any (some ⟨g7, 0, none⟩) (some ⟨g3, 16, none⟩) 16 16 (row s 16) (row m 16) w' h1 h2 (row_oct os 16) (row_oct om 16) (by rw [row_length, row_length]) (by rw [row_length]; omega)
  rw [row_length] at hxor
  have HXOR := hid hxor
  clear hxor
  have hS0 : (fun v => Arr v g7 16 s ∧ Arr v g3 32 (two16 h m) ∧ Below w.heap.size w v) w2.drew := ⟨HS.out, HM.out, HB.out.trans (Below.refl _ _).drew⟩
  clear HM HB HS
  refine wp_region_z (fun v => Arr v g7 16 s ∧ Arr v g3 32 (two16 h m) ∧ Below w.heap.size w v) 9 (by kernel_rfl) hS0 (fun hS => ?_)
  clear hS0
  generalize World.drew _ = w9 at hS ⊢
  refine wpAnyZ_take (i := 0) (v := .slice (some ⟨g7, 0, none⟩) 16 16) rfl (by kernel_rfl) (by kernel_rfl) (by kernel_rfl) (by kernel_rfl) (fun _ _ _ h => h) hS (Or.inl ⟨by kernel_rfl, fun w hS => (by clear hS; go_simp)⟩) ?_
  simp only [Act.put, List.setIfInBounds_toArray, List.set_cons_zero, List.set_cons_succ]
  refine wpAnyZ_take (i := 1) (v := .pointer (some ⟨g3, 16, none⟩)) rfl (by kernel_rfl) (by kernel_rfl) (by kernel_rfl) (by kernel_rfl) (fun _ _ _ h => h) hS (Or.inl ⟨by kernel_rfl, fun w hS => (by clear hS; go_simp)⟩) ?_
  simp only [Act.put, List.setIfInBounds_toArray, List.set_cons_zero, List.set_cons_succ]
  refine wpAnyZ_take (i := 2) (v := .slice (some ⟨g3, 16, none⟩) 16 16) rfl (by kernel_rfl) (by kernel_rfl) (by kernel_rfl) (by kernel_rfl) (fun _ _ _ h => h) hS (Or.inl ⟨by kernel_rfl, fun w hS => (by clear hS; go_simp)⟩) ?_
  simp only [Act.put, List.setIfInBounds_toArray, List.set_cons_zero, List.set_cons_succ]
  refine wpAnyZ_one (i := 3) (by kernel_rfl) rfl (fun K hK => ?_)
  go_simp
  go_at_call 11
  refine (HXOR.out _ (arr_bin hS.1) (arr_bin_hi hS.2.1)).mono ?_
  rintro e v8 ⟨v, rfl, hv, hb8⟩
  have hv' := hid (hv.mono hS.2.2.size)
  clear hv
  go_wp2_with fail
  refine hK.out _ _ (fun _ => And.intro (hS.1.below hb8) (And.intro (hS.2.1.below hb8) (hS.2.2.trans (hb8.mono hS.2.2.size)))) ?_
  replace hS := And.intro (hS.1.below hb8) (And.intro (hS.2.1.below hb8) (hS.2.2.trans (hb8.mono hS.2.2.size)))
  clear hK K
  try simp only [Act.put, List.setIfInBounds_toArray, List.set_cons_zero, List.set_cons_succ]
  refine wpAnyZ_take (i := 4) (v := .tuple #[v, .int .i64 0]) rfl (by kernel_rfl) (by kernel_rfl) (by kernel_rfl) (by kernel_rfl) (fun _ _ _ h => h) hS (Or.inl ⟨by kernel_rfl, fun w hS => (by clear hS; go_simp)⟩) ?_
  simp only [Act.put, List.setIfInBounds_toArray, List.set_cons_zero, List.set_cons_succ]
  refine wpAnyZ_take (i := 5) (v := v) rfl (by kernel_rfl) (by kernel_rfl) (by kernel_rfl) (by kernel_rfl) (fun _ _ _ h => h) hS (Or.inl ⟨by kernel_rfl, fun w hS => (by clear hS; go_simp)⟩) ?_
  simp only [Act.put, List.setIfInBounds_toArray, List.set_cons_zero, List.set_cons_succ]
  refine wpAnyZ_take (i := 6) (v := .int .i64 0) rfl (by kernel_rfl) (by kernel_rfl) (by kernel_rfl) (by kernel_rfl) (fun _ _ _ h => h) hS (Or.inl ⟨by kernel_rfl, fun w hS => (by clear hS; go_simp)⟩) ?_
  simp only [Act.put, List.setIfInBounds_toArray, List.set_cons_zero, List.set_cons_succ]
  refine wpAnyZ_one (i := 7) (by kernel_rfl) rfl (fun K hK => ?_)
  go_simp
  refine hK.out _ _ (fun _ => hS) ?_
  clear hK K
  try simp only [Act.put, List.setIfInBounds_toArray, List.set_cons_zero, List.set_cons_succ]
  refine wpAnyZ_one (i := 8) (by kernel_rfl) rfl (fun K hK => ?_)
  go_simp
  refine hK.out _ _ (fun _ => hS) ?_
  clear hK K
  try simp only [Act.put, List.setIfInBounds_toArray, List.set_cons_zero, List.set_cons_succ]
  refine wpAnyZ_done (by kernel_rfl) ?_ _
  have HB := hid hS.2.2
  clear hS
  go_wp2_with fail
  go_ret
  exact ⟨_, rfl, hv'.out, HB.out⟩
end Go.Proofs.Ytgnhbfjngdgibaa
