/-
  The program's Seal and Open.
-/
import Derived.Test.YtgnhbfjngdgibaaGmk
import Derived.Test.YtgnhbfjngdgibaaSr2
import Derived.Test.YtgnhbfjngdgibaaSame
namespace Go.Proofs.Ytgnhbfjngdgibaa
open Go.RowKit
set_option linter.unusedVariables false
set_option linter.unusedSimpArgs false

theorem cryptK_of (pk pn pt : Option Addr) (ck cn ct nk nt : Nat) (ks ns ts : List Int) (w : World) (hkp : Bin w pk ks) (hks : Oct ks) (hkl : ks.length = nk) (hnk : nk = 16 ∨ nk = 32) (hkc : nk ≤ ck)
    (hnp : Bin w pn ns) (hns : Oct ns) (hnl : ns.length = 12) (htp : Bin w pt ts) (hts : Oct ts) (htl : ts.length = nt) (hm : nt ≤ 65536) (htc : nt ≤ ct) :
    Calls Try.prog 30 #[.slice pk nk ck, .slice pn (12 : Nat) cn, .slice pt nt ct] w fun e w' => ∃ v, e = .returned (.tuple #[v, .int .i64 0]) ∧
      Own w.heap.size w' v nt (cry (keyE nk ks) (frs ns) ts) ∧ Below w.heap.size w w' := by
  subst htl
  exact crypt_of pk pn pt ck cn ct nk ks ns ts w hkp hks hkl hnk hkc hnp hns hnl htp hts hm htc

set_option maxHeartbeats 8000000 in
set_option maxRecDepth 100000 in
theorem seal_of (pk pn pa pt : Option Addr) (ck cn ca ct nk na nt : Nat) (ks ns az ts : List Int) (w : World) (hkp : Bin w pk ks) (hks : Oct ks) (hkl : ks.length = nk) (hnk : nk = 16 ∨ nk = 32) (hck : nk ≤ ck)
    (hnp : Bin w pn ns) (hns : Oct ns) (hnl : ns.length = 12) (hcn : 12 ≤ cn) (hap : Bin w pa az) (has : Oct az) (hal : az.length = na) (hca : na ≤ ca) (htp : Bin w pt ts) (hts : Oct ts) (htl : ts.length = nt) (hct : nt ≤ ct) (ha : na ≤ 65536) (ht : nt ≤ 65536) :
    Calls Try.prog 20 #[.slice pk nk ck, .slice pn (12 : Nat) cn, .slice pa na ca, .slice pt nt ct] w fun e w' => ∃ v, e = .returned (.tuple #[v, .int .i64 0]) ∧ Own w.heap.size w' v (nt + 16) (sealL (keyE nk ks) ns az ts) ∧ Below w.heap.size w w' := by
  obtain ⟨i0, hi, hz0, hz1, hz2⟩ := info_parts Try.infoU8
  have hzm := Try.zeroMarker
  have hum := Try.underlying46
  have him := Try.sizeMarker
  have hmk := marker_of pk pn ck cn nk ks ns w hkp hks hkl hnk hck hnp hns hnl
  have hcr := fun (w' : World) h1 h2 h3 => cryptK_of pk pn pt ck cn ct nk nt ks ns ts w' h1 hks hkl hnk hck h2 hns hnl h3 hts htl ht hct
  have oc := cry_oct (E := keyE nk ks) (c := frs ns) (xs := ts) (keyE_lt hks) (frs_lt hns) hts
  have oE := keyE_lt (nk := nk) hks
  obtain ⟨E, hE⟩ : ∃ E, Hid (E = keyE nk ks) := ⟨_, rfl⟩
  rw [← hE.out] at hmk hcr oc oE ⊢
  have oh : ∀ j, E (fun _ => 0) j < 256 := oE _ (fun _ => by decide)
  have om : ∀ j, E (frs ns) j < 256 := oE _ (frs_lt hns)
  have htag := fun (p : Option Addr) (c : Nat) (bs : List Int) (w' : World) h1 h2 hbs hbl hc hb => tag_of (E fun _ => 0) (E (frs ns)) pa p ca c na nt az bs w' oh om h1 has hal hca h2 hbs hbl hc (by omega) hb
  have HTAG := hid htag
  have HCR := hid hcr
  have KP := hid hkp
  have NP := hid hnp
  have AP := hid hap
  have TP := hid htp
  have i1 : ¬ (65536 : Int) < (na : Int) := by omega
  have i2 : ¬ (65536 : Int) < (nt : Int) := by omega
  obtain ⟨x, hx⟩ : ∃ x, Hid (x = two16 (E fun _ => 0) (E (frs ns))) := ⟨_, rfl⟩
  rw [← hx.out] at hmk
  clear htag hcr hkp hnp hap htp
  go_enter Try.func20, Try.ntmps20
  go_wp2_with fail
  refine hmk.mono ?_
  rintro e w1 ⟨rfl, hb1⟩
  clear hmk
  have hn1 := arr_new w1 32 (fun _ => 0) 46
  have H1 := hid (hn1.put x)
  have HB := hid (below_setCells (b := w1.heap.size) (vals 32 x) 0 (hb1.alloc hb1.size (.cells (vals 32 fun _ => 0).toArray 46)) hb1.size)
  have HN := hid hn1
  clear hn1 hb1
  go_upto_region 2 with (refine wpList_store_arr rfl 46 (.tmp 10) (.tmp 17) rfl w1.heap.size 32 x rfl rfl (fun _ => 0) ?_ him ?_; exact HN.out)
  clear HN
  obtain ⟨g, hg⟩ : ∃ g, Hid (g = w1.heap.size) := ⟨_, rfl⟩
  rw [← hg.out] at H1 HB ⊢
  generalize (w1.alloc (.cells (vals 32 fun _ => 0).toArray 46)).setCells g 0 (vals 32 x) = w2 at H1 HB ⊢
  clear hg
  go_wp2_with fail
  refine (HCR.out w2 (KP.out.below HB.out) (NP.out.below HB.out) (TP.out.below HB.out)).mono ?_
  rintro e w3 ⟨v1, rfl, hv1, hb3⟩
  obtain ⟨p1, c1, rfl, hc1, vb1⟩ := hv1.bin
  have H3 := hid (H1.out.below hb3)
  have HB3 := hid (HB.out.trans (hb3.mono HB.out.size))
  have HV := hid (hv1.mono HB.out.size)
  have VB := hid vb1
  clear H1 HB hv1 vb1 hb3 HCR
  go_wp2_with (refine wpList_load_arr rfl 46 (.tmp 10) rfl g rfl 32 x ?_ _ hum rfl him ?_; exact H3.out)
  rw [hx.out]
  refine (HTAG.out p1 c1 _ w3 (AP.out.below HB3.out) VB.out oc (by rw [cry_length, htl]) hc1 (by omega)).mono ?_
  rintro e w4 ⟨v2, rfl, hv2, hb4⟩
  obtain ⟨p2, c2, rfl, _, vb2⟩ := hv2.bin
  have HO := hid (HV.out.below hb4)
  have hB4 := HB3.out.trans (hb4.mono HB3.out.size)
  have hs4 := hB4.size
  have HVB2 := hid vb2
  clear hv2 hb4 HV VB H3 HB3 HTAG vb2
  go_wp2_with (at_builtin; refine wpList_append_bin rfl (.tmp 40) (.tmp 44) 22 rfl i0 Try.underlying22 hi hz0 hz1 hz2 w.heap.size _ nt _ rfl (by exact HO.out) p2 16 c2 (tagL E ns az (cry E (frs ns) ts)) rfl (tagL_length _ _ _ _) (by exact HVB2.out) (by omega) hs4 ?_; intro p3 c3 w5 hO3 hg3 _)
  go_ret2
  exact ⟨_, rfl, hO3, hB4.grown hg3 hs4 (fun q hq => (World.ownsRow.lt HO.out q hq).1)⟩

set_option maxHeartbeats 4000000 in
set_option maxRecDepth 100000 in
theorem seal_no (pk pn pa pt : Option Addr) (ck cn ca ct nk nn na nt : Nat) (ks ns az ts : List Int) (w : World) (hkp : Bin w pk ks) (hks : Oct ks) (hkl : ks.length = nk) (hck : nk ≤ ck) (hnp : Bin w pn ns) (hns : Oct ns) (hnl : ns.length = nn) (hcn : nn ≤ cn)
    (hap : Bin w pa az) (has : Oct az) (hal : az.length = na) (hca : na ≤ ca) (htp : Bin w pt ts) (hts : Oct ts) (htl : ts.length = nt) (hct : nt ≤ ct) (h : sealN nk nn na nt ≠ 0) :
    Calls Try.prog 20 #[.slice pk nk ck, .slice pn nn cn, .slice pa na ca, .slice pt nt ct] w fun e w' => e = .returned (.tuple #[.slice none 0 0, .int .i64 (sealN nk nn na nt)]) ∧ Below w.heap.size w w' := by
  have hzm := Try.zeroMarker
  have hum := Try.underlying46
  have him := Try.sizeMarker
  by_cases hm : mayN nk nn = false
  · have hz : sealN nk nn na nt = 2 := by unfold sealN; rw [if_pos hm]
    rw [hz]
    have hmk := marker_no pk pn ck cn nk nn ks ns w hkp hks hkl hck hnp hns hnl hm
    clear hz h hkp hnp hap htp
    go_enter Try.func20, Try.ntmps20
    go_wp2_with fail
    refine hmk.mono ?_
    rintro e w1 ⟨rfl, hb1⟩
    clear hmk
    have hn1 := arr_new w1 32 (fun _ => 0) 46
    have H1 := hid (hn1.put (fun _ => 0))
    have HB := hid (below_setCells (b := w1.heap.size) (vals 32 (fun _ => 0)) 0 (hb1.alloc hb1.size (.cells (vals 32 fun _ => 0).toArray 46)) hb1.size)
    have HN := hid hn1
    clear hn1 hb1
    go_upto_region 2 with (refine wpList_store_arr rfl 46 (.tmp 10) (.tmp 17) rfl w1.heap.size 32 (fun _ => 0) rfl rfl (fun _ => 0) ?_ him ?_; exact HN.out)
    clear HN
    obtain ⟨g, hg⟩ : ∃ g, Hid (g = w1.heap.size) := ⟨_, rfl⟩
    rw [← hg.out] at H1 HB ⊢
    generalize (w1.alloc (.cells (vals 32 fun _ => 0).toArray 46)).setCells g 0 (vals 32 (fun _ => 0)) = w2 at H1 HB ⊢
    clear hg
    go_wp2_with fail
    go_ret2
    exact ⟨rfl, HB.out⟩
  · have hm' : mayN nk nn = true := by simpa using hm
    obtain ⟨hnk, rfl⟩ := mayN_yes hm'
    have hmk := marker_of pk pn ck cn nk ks ns w hkp hks hkl hnk hck hnp hns hnl
    obtain ⟨x, hx⟩ : ∃ x, Hid (x = two16 (keyE nk ks fun _ => 0) (keyE nk ks (frs ns))) := ⟨_, rfl⟩
    rw [← hx.out] at hmk
    clear hkp hnp hap htp
    have hl : 65536 < na ∨ 65536 < nt := Classical.not_not.1 fun hh => h (by unfold sealN; rw [if_neg hm, if_neg hh])
    have hz : sealN nk 12 na nt = 3 := by unfold sealN; rw [if_neg hm, if_pos hl]
    rw [hz]
    clear hz h
    by_cases ha : 65536 < na
    · have i1 : (65536 : Int) < (na : Int) := by omega
      go_enter Try.func20, Try.ntmps20
      go_wp2_with fail
      refine hmk.mono ?_
      rintro e w1 ⟨rfl, hb1⟩
      clear hmk
      have hn1 := arr_new w1 32 (fun _ => 0) 46
      have H1 := hid (hn1.put x)
      have HB := hid (below_setCells (b := w1.heap.size) (vals 32 x) 0 (hb1.alloc hb1.size (.cells (vals 32 fun _ => 0).toArray 46)) hb1.size)
      have HN := hid hn1
      clear hn1 hb1
      go_upto_region 2 with (refine wpList_store_arr rfl 46 (.tmp 10) (.tmp 17) rfl w1.heap.size 32 x rfl rfl (fun _ => 0) ?_ him ?_; exact HN.out)
      clear HN
      obtain ⟨g, hg⟩ : ∃ g, Hid (g = w1.heap.size) := ⟨_, rfl⟩
      rw [← hg.out] at H1 HB ⊢
      generalize (w1.alloc (.cells (vals 32 fun _ => 0).toArray 46)).setCells g 0 (vals 32 x) = w2 at H1 HB ⊢
      clear hg
      go_wp2_with fail
      go_ret2
      exact ⟨rfl, HB.out⟩
    · have i1 : ¬ (65536 : Int) < (na : Int) := by omega
      have i2 : (65536 : Int) < (nt : Int) := by omega
      go_enter Try.func20, Try.ntmps20
      go_wp2_with fail
      refine hmk.mono ?_
      rintro e w1 ⟨rfl, hb1⟩
      clear hmk
      have hn1 := arr_new w1 32 (fun _ => 0) 46
      have H1 := hid (hn1.put x)
      have HB := hid (below_setCells (b := w1.heap.size) (vals 32 x) 0 (hb1.alloc hb1.size (.cells (vals 32 fun _ => 0).toArray 46)) hb1.size)
      have HN := hid hn1
      clear hn1 hb1
      go_upto_region 2 with (refine wpList_store_arr rfl 46 (.tmp 10) (.tmp 17) rfl w1.heap.size 32 x rfl rfl (fun _ => 0) ?_ him ?_; exact HN.out)
      clear HN
      obtain ⟨g, hg⟩ : ∃ g, Hid (g = w1.heap.size) := ⟨_, rfl⟩
      rw [← hg.out] at H1 HB ⊢
      generalize (w1.alloc (.cells (vals 32 fun _ => 0).toArray 46)).setCells g 0 (vals 32 x) = w2 at H1 HB ⊢
      clear hg
      go_wp2_with fail
      go_ret2
      exact ⟨rfl, HB.out⟩

theorem sameB_comm (xs ys : List Int) : sameB xs ys = sameB ys xs := by
  unfold sameB
  by_cases h : xs = ys
  · rw [h]
  · rw [decide_eq_false h, decide_eq_false (fun e => h e.symm)]
theorem sameSixteen (p q : Option Addr) (c d : Nat) (xs ys : List Int) (w : World) (h1 : xs.length = 16) (h2 : ys.length = 16) (hp : Bin w p xs) (hq : Bin w q ys) (hx : Oct xs) (hy : Oct ys) :
    Calls Try.prog 12 #[.slice p (16 : Nat) c, .slice q (16 : Nat) d] w fun e w' => e = .returned (.bool (sameB xs ys)) ∧ w = w' := by
  have := same_any p q c d xs ys w hp hq hx hy (by unfold maxLen; omega)
  rw [h1, h2] at this
  exact this

set_option maxHeartbeats 8000000 in
set_option maxRecDepth 100000 in
theorem open_of (pk pn pa pb : Option Addr) (ck cn ca cb nk na n : Nat) (ks ns az bs : List Int) (w : World) (hkp : Bin w pk ks) (hks : Oct ks) (hkl : ks.length = nk) (hnk : nk = 16 ∨ nk = 32) (hck : nk ≤ ck)
    (hnp : Bin w pn ns) (hns : Oct ns) (hnl : ns.length = 12) (hcn : 12 ≤ cn) (hap : Bin w pa az) (has : Oct az) (hal : az.length = na) (hca : na ≤ ca) (hbp : Bin w pb bs) (hbs : Oct bs) (hbl : bs.length = n + 16) (hcb : n + 16 ≤ cb) (ha : na ≤ 65536) (hn : n ≤ 65536) :
    Calls Try.prog 22 #[.slice pk nk ck, .slice pn (12 : Nat) cn, .slice pa na ca, .slice pb (n + 16 : Nat) cb] w fun e w' =>
      (holdsB (keyE nk ks) ns az bs = false → e = .returned (.tuple #[.slice none 0 0, .int .i64 60])) ∧
      (holdsB (keyE nk ks) ns az bs = true → ∃ v, e = .returned (.tuple #[v, .int .i64 0]) ∧ Own w.heap.size w' v n (cry (keyE nk ks) (frs ns) (bs.take n))) ∧ Below w.heap.size w w' := by
  have hzm := Try.zeroMarker
  have hum := Try.underlying46
  have him := Try.sizeMarker
  obtain ⟨b, o, rfl, hbl0, hbc⟩ := hbp.at (by omega)
  have hbt : Bin w (some ⟨b, o, none⟩) (bs.take n) := fun hl => by
    refine ⟨b, o, rfl, fun i hi => ?_⟩
    rw [List.length_take] at hi
    rw [hbc i (by omega), List.getD_eq_getElem?_getD, List.getD_eq_getElem?_getD, List.getElem?_take, if_pos (by omega)]
  have hbd : Bin w (some ⟨b, o + n, none⟩) (bs.drop n) := fun hl => by
    refine ⟨b, o + n, rfl, fun i hi => ?_⟩
    rw [List.length_drop] at hi
    rw [Nat.add_assoc, hbc (n + i) (by omega), List.getD_eq_getElem?_getD, List.getD_eq_getElem?_getD, List.getElem?_drop]
  have htl : (bs.take n).length = n := by rw [List.length_take]; omega
  have hdl : (bs.drop n).length = 16 := by rw [List.length_drop]; omega
  have hmk := marker_of pk pn ck cn nk ks ns w hkp hks hkl hnk hck hnp hns hnl
  have hcr := fun w' h1 h2 h3 => cryptK_of pk pn (some ⟨b, o, none⟩) ck cn cb nk n ks ns (bs.take n) w' h1 hks hkl hnk hck h2 hns hnl h3 (hbs.take n) htl hn (by omega)
  obtain ⟨ho, hho⟩ : ∃ ho, Hid (ho = holdsB (keyE nk ks) ns az bs) := ⟨_, rfl⟩
  rw [← hho.out]
  have hho2 : ho = sameB (tagL (keyE nk ks) ns az (bs.take n)) (bs.drop n) := by
    rw [hho.out, holdsB, hbl, Nat.add_sub_cancel]; rfl
  clear hho
  have hho := hid hho2
  clear hho2
  have oE := keyE_lt (nk := nk) hks
  obtain ⟨E, hE⟩ : ∃ E, Hid (E = keyE nk ks) := ⟨_, rfl⟩
  rw [← hE.out] at hmk hcr hho oE ⊢
  have oh : ∀ j, E (fun _ => 0) j < 256 := oE _ (fun _ => by decide)
  have om : ∀ j, E (frs ns) j < 256 := oE _ (frs_lt hns)
  have htag := fun (w' : World) h1 h2 => tag_of (E fun _ => 0) (E (frs ns)) pa (some ⟨b, o, none⟩) ca cb na n az (bs.take n) w' oh om h1 has hal hca h2 (hbs.take n) htl (by omega) (by omega) (by omega)
  obtain ⟨x, hx⟩ : ∃ x, Hid (x = two16 (E fun _ => 0) (E (frs ns))) := ⟨_, rfl⟩
  rw [← hx.out] at hmk htag
  have HTAG := hid htag
  have HCR := hid hcr
  have KP := hid hkp
  have NP := hid hnp
  have AP := hid hap
  have BT := hid hbt
  have BD := hid hbd
  have i1 : ¬ (65536 : Int) < (na : Int) := by omega
  obtain ⟨nb, hnb⟩ : ∃ nb, Hid (nb = n + 16) := ⟨_, rfl⟩
  rw [← hnb.out]
  have i2 : ¬ (65552 : Int) < (nb : Int) := by have := hnb.out; omega
  have i3 : ¬ (nb : Int) < 16 := by have := hnb.out; omega
  have i7 : ¬ cb = n := by omega
  have i6 : (n : Int) ≤ (nb : Int) := by have := hnb.out; omega
  have i5 : (nb : Int) - 16 = (n : Int) := by have := hnb.out; omega
  have i4 : (n : Int) ≤ (cb : Int) := by omega
  clear htag hcr hkp hnp hap hbp hbt hbd hbc
  go_enter Try.func22, Try.ntmps22
  go_wp2_with fail
  refine hmk.mono ?_
  rintro e w1 ⟨rfl, hb1⟩
  clear hmk
  have hn1 := arr_new w1 32 (fun _ => 0) 46
  have H1 := hid (hn1.put x)
  have HB := hid (below_setCells (b := w1.heap.size) (vals 32 x) 0 (hb1.alloc hb1.size (.cells (vals 32 fun _ => 0).toArray 46)) hb1.size)
  have HN := hid hn1
  clear hn1 hb1
  go_upto_region 2 with (refine wpList_store_arr rfl 46 (.tmp 10) (.tmp 17) rfl w1.heap.size 32 x rfl rfl (fun _ => 0) ?_ him ?_; exact HN.out)
  clear HN
  obtain ⟨g, hg⟩ : ∃ g, Hid (g = w1.heap.size) := ⟨_, rfl⟩
  rw [← hg.out] at H1 HB ⊢
  generalize (w1.alloc (.cells (vals 32 fun _ => 0).toArray 46)).setCells g 0 (vals 32 x) = w2 at H1 HB ⊢
  clear hg
  go_upto_region 9 with fail
  have hS0 : (fun v => Arr v g 32 x ∧ Below w.heap.size w v) w2.drew := ⟨H1.out, HB.out.trans (Below.refl _ _).drew⟩
  clear H1 HB
  refine wp_region_z (fun v => Arr v g 32 x ∧ Below w.heap.size w v) 11 (by kernel_rfl) hS0 (fun hS => ?_)
  clear hS0
  generalize World.drew _ = w9 at hS ⊢
  refine wpAnyZ_take (i := 0) (v := .slice (some ⟨b, o, none⟩) nb cb) rfl (by kernel_rfl) (by kernel_rfl) (by kernel_rfl) (by kernel_rfl) (fun _ _ _ h => h) hS (Or.inl ⟨by kernel_rfl, fun w hS => (by clear hS; go_simp)⟩) ?_
  simp only [Act.put, List.setIfInBounds_toArray, List.set_cons_zero, List.set_cons_succ]
  refine wpAnyZ_take (i := 1) (v := .int .i64 (n : Int)) rfl (by kernel_rfl) (by kernel_rfl) (by kernel_rfl) (by kernel_rfl) (fun _ _ _ h => h) hS (Or.inl ⟨by kernel_rfl, fun w hS => (by clear hS; go_simp)⟩) ?_
  simp only [Act.put, List.setIfInBounds_toArray, List.set_cons_zero, List.set_cons_succ]
  refine wpAnyZ_take (i := 2) (v := .slice (some ⟨b, o + n, none⟩) (nb - n) (cb - n)) rfl (by kernel_rfl) (by kernel_rfl) (by kernel_rfl) (by kernel_rfl) (fun _ _ _ h => h) hS (Or.inl ⟨by kernel_rfl, fun w hS => (by clear hS; go_simp)⟩) ?_
  simp only [Act.put, List.setIfInBounds_toArray, List.set_cons_zero, List.set_cons_succ]
  refine wpAnyZ_take (i := 3) rfl (by kernel_rfl) (by kernel_rfl) (by kernel_rfl) (by kernel_rfl) (fun _ _ _ h => h) hS (yieldsIf_load_mid (by kernel_rfl) 46 (.tmp 10) rfl g 0 (by kernel_rfl) (vals 32 x) _ (fun w hS => hS.1.range) hum rfl him) ?_
  simp only [Act.put, List.setIfInBounds_toArray, List.set_cons_zero, List.set_cons_succ]
  refine wpAnyZ_take (i := 4) (v := .slice pa na ca) rfl (by kernel_rfl) (by kernel_rfl) (by kernel_rfl) (by kernel_rfl) (fun _ _ _ h => h) hS (Or.inl ⟨by kernel_rfl, fun w hS => (by clear hS; go_simp)⟩) ?_
  simp only [Act.put, List.setIfInBounds_toArray, List.set_cons_zero, List.set_cons_succ]
  refine wpAnyZ_take (i := 5) (v := .slice (some ⟨b, o, none⟩) nb cb) rfl (by kernel_rfl) (by kernel_rfl) (by kernel_rfl) (by kernel_rfl) (fun _ _ _ h => h) hS (Or.inl ⟨by kernel_rfl, fun w hS => (by clear hS; go_simp)⟩) ?_
  simp only [Act.put, List.setIfInBounds_toArray, List.set_cons_zero, List.set_cons_succ]
  refine wpAnyZ_take (i := 6) (v := .int .i64 (n : Int)) rfl (by kernel_rfl) (by kernel_rfl) (by kernel_rfl) (by kernel_rfl) (fun _ _ _ h => h) hS (Or.inl ⟨by kernel_rfl, fun w hS => (by clear hS; go_simp)⟩) ?_
  simp only [Act.put, List.setIfInBounds_toArray, List.set_cons_zero, List.set_cons_succ]
  refine wpAnyZ_take (i := 7) (v := .slice (some ⟨b, o, none⟩) n cb) rfl (by kernel_rfl) (by kernel_rfl) (by kernel_rfl) (by kernel_rfl) (fun _ _ _ h => h) hS (Or.inl ⟨by kernel_rfl, fun w hS => (by clear hS; go_simp)⟩) ?_
  simp only [Act.put, List.setIfInBounds_toArray, List.set_cons_zero, List.set_cons_succ]
  rw [show nb - n = 16 from by have := hnb.out; omega]
  refine wpAnyZ_one (i := 8) (by kernel_rfl) rfl (fun K hK => ?_)
  go_simp
  go_at_call 31
  refine (HTAG.out _ (AP.out.below hS.2) (BT.out.below hS.2)).mono ?_
  rintro e v8 ⟨v, rfl, hv, hb8⟩
  obtain ⟨p8, c8, rfl, _, hvb⟩ := hv.bin
  go_wp2_with fail
  refine hK.out _ _ (fun _ => And.intro (hS.1.below hb8) (hS.2.trans (hb8.mono hS.2.size))) ?_
  replace hS := And.intro (hS.1.below hb8) (hS.2.trans (hb8.mono hS.2.size))
  have HV := hid hvb
  clear hK K hv hb8 hvb
  try simp only [Act.put, List.setIfInBounds_toArray, List.set_cons_zero, List.set_cons_succ]
  refine wpAnyZ_one (i := 9) (by kernel_rfl) rfl (fun K hK => ?_)
  go_simp
  go_at_call 12
  refine (sameSixteen _ _ _ _ (bs.drop n) (tagL E ns az (bs.take n)) _ hdl (tagL_length _ _ _ _) (BD.out.below hS.2) HV.out (hbs.drop n) (tagL_oct _ _ _ _)).mono ?_
  rintro e v9 ⟨rfl, rfl⟩
  rw [sameB_comm, ← hho.out]
  go_wp2_with fail
  refine hK.out _ _ (fun _ => hS) ?_
  clear hK K HV
  try simp only [Act.put, List.setIfInBounds_toArray, List.set_cons_zero, List.set_cons_succ]
  refine wpAnyZ_take (i := 10) (v := .bool !ho) rfl (by kernel_rfl) (by kernel_rfl) (by kernel_rfl) (by kernel_rfl) (fun _ _ _ h => h) hS (Or.inl ⟨by kernel_rfl, fun w hS => (by clear hS; go_simp)⟩) ?_
  simp only [Act.put, List.setIfInBounds_toArray, List.set_cons_zero, List.set_cons_succ]
  refine wpAnyZ_done (by kernel_rfl) ?_ _
  have HS := hid hS.2
  clear hS
  cases ho with
  | false =>
    go_wp2_with fail
    go_ret2
    exact ⟨rfl, HS.out⟩
  | true =>
    go_wp2_with fail
    refine (HCR.out _ (KP.out.below HS.out) (NP.out.below HS.out) (BT.out.below HS.out)).mono ?_
    rintro e w5 ⟨v5, rfl, hv5, hb5⟩
    go_wp2_with fail
    go_ret2
    exact ⟨⟨_, rfl, hv5.mono HS.out.size⟩, HS.out.trans (hb5.mono HS.out.size)⟩

set_option maxHeartbeats 4000000 in
set_option maxRecDepth 100000 in
theorem open_no (pk pn pa pb : Option Addr) (ck cn ca cb nk nn na nb : Nat) (ks ns az bs : List Int) (w : World) (hkp : Bin w pk ks) (hks : Oct ks) (hkl : ks.length = nk) (hck : nk ≤ ck) (hnp : Bin w pn ns) (hns : Oct ns) (hnl : ns.length = nn) (hcn : nn ≤ cn)
    (hap : Bin w pa az) (has : Oct az) (hal : az.length = na) (hca : na ≤ ca) (hbp : Bin w pb bs) (hbs : Oct bs) (hbl : bs.length = nb) (hcb : nb ≤ cb) (h : openN nk nn na nb ≠ 0) :
    Calls Try.prog 22 #[.slice pk nk ck, .slice pn nn cn, .slice pa na ca, .slice pb nb cb] w fun e w' => e = .returned (.tuple #[.slice none 0 0, .int .i64 (openN nk nn na nb)]) ∧ Below w.heap.size w w' := by
  have hzm := Try.zeroMarker
  have hum := Try.underlying46
  have him := Try.sizeMarker
  by_cases hm : mayN nk nn = false
  · have hz : openN nk nn na nb = 2 := by unfold openN; rw [if_pos hm]
    rw [hz]
    have hmk := marker_no pk pn ck cn nk nn ks ns w hkp hks hkl hck hnp hns hnl hm
    clear hz h hkp hnp hap hbp
    go_enter Try.func22, Try.ntmps22
    go_wp2_with fail
    refine hmk.mono ?_
    rintro e w1 ⟨rfl, hb1⟩
    clear hmk
    have hn1 := arr_new w1 32 (fun _ => 0) 46
    have H1 := hid (hn1.put (fun _ => 0))
    have HB := hid (below_setCells (b := w1.heap.size) (vals 32 (fun _ => 0)) 0 (hb1.alloc hb1.size (.cells (vals 32 fun _ => 0).toArray 46)) hb1.size)
    have HN := hid hn1
    clear hn1 hb1
    go_upto_region 2 with (refine wpList_store_arr rfl 46 (.tmp 10) (.tmp 17) rfl w1.heap.size 32 (fun _ => 0) rfl rfl (fun _ => 0) ?_ him ?_; exact HN.out)
    clear HN
    obtain ⟨g, hg⟩ : ∃ g, Hid (g = w1.heap.size) := ⟨_, rfl⟩
    rw [← hg.out] at H1 HB ⊢
    generalize (w1.alloc (.cells (vals 32 fun _ => 0).toArray 46)).setCells g 0 (vals 32 (fun _ => 0)) = w2 at H1 HB ⊢
    clear hg
    go_wp2_with fail
    go_ret2
    exact ⟨rfl, HB.out⟩
  · have hm' : mayN nk nn = true := by simpa using hm
    obtain ⟨hnk, rfl⟩ := mayN_yes hm'
    have hmk := marker_of pk pn ck cn nk ks ns w hkp hks hkl hnk hck hnp hns hnl
    obtain ⟨x, hx⟩ : ∃ x, Hid (x = two16 (keyE nk ks fun _ => 0) (keyE nk ks (frs ns))) := ⟨_, rfl⟩
    rw [← hx.out] at hmk
    clear hkp hnp hap hbp
    by_cases hl : 65536 < na ∨ 65552 < nb
    · have hz : openN nk 12 na nb = 3 := by unfold openN; rw [if_neg hm, if_pos hl]
      rw [hz]
      clear hz h
      by_cases ha : 65536 < na
      · have i1 : (65536 : Int) < (na : Int) := by omega
        go_enter Try.func22, Try.ntmps22
        go_wp2_with fail
        refine hmk.mono ?_
        rintro e w1 ⟨rfl, hb1⟩
        clear hmk
        have hn1 := arr_new w1 32 (fun _ => 0) 46
        have H1 := hid (hn1.put x)
        have HB := hid (below_setCells (b := w1.heap.size) (vals 32 x) 0 (hb1.alloc hb1.size (.cells (vals 32 fun _ => 0).toArray 46)) hb1.size)
        have HN := hid hn1
        clear hn1 hb1
        go_upto_region 2 with (refine wpList_store_arr rfl 46 (.tmp 10) (.tmp 17) rfl w1.heap.size 32 x rfl rfl (fun _ => 0) ?_ him ?_; exact HN.out)
        clear HN
        obtain ⟨g, hg⟩ : ∃ g, Hid (g = w1.heap.size) := ⟨_, rfl⟩
        rw [← hg.out] at H1 HB ⊢
        generalize (w1.alloc (.cells (vals 32 fun _ => 0).toArray 46)).setCells g 0 (vals 32 x) = w2 at H1 HB ⊢
        clear hg
        go_wp2_with fail
        go_ret2
        exact ⟨rfl, HB.out⟩
      · have i1 : ¬ (65536 : Int) < (na : Int) := by omega
        have i2 : (65552 : Int) < (nb : Int) := by omega
        go_enter Try.func22, Try.ntmps22
        go_wp2_with fail
        refine hmk.mono ?_
        rintro e w1 ⟨rfl, hb1⟩
        clear hmk
        have hn1 := arr_new w1 32 (fun _ => 0) 46
        have H1 := hid (hn1.put x)
        have HB := hid (below_setCells (b := w1.heap.size) (vals 32 x) 0 (hb1.alloc hb1.size (.cells (vals 32 fun _ => 0).toArray 46)) hb1.size)
        have HN := hid hn1
        clear hn1 hb1
        go_upto_region 2 with (refine wpList_store_arr rfl 46 (.tmp 10) (.tmp 17) rfl w1.heap.size 32 x rfl rfl (fun _ => 0) ?_ him ?_; exact HN.out)
        clear HN
        obtain ⟨g, hg⟩ : ∃ g, Hid (g = w1.heap.size) := ⟨_, rfl⟩
        rw [← hg.out] at H1 HB ⊢
        generalize (w1.alloc (.cells (vals 32 fun _ => 0).toArray 46)).setCells g 0 (vals 32 x) = w2 at H1 HB ⊢
        clear hg
        go_wp2_with fail
        go_ret2
        exact ⟨rfl, HB.out⟩
    · have hs : nb < 16 := Classical.not_not.1 fun hh => h (by unfold openN; rw [if_neg hm, if_neg hl, if_neg hh])
      have hz : openN nk 12 na nb = 4 := by unfold openN; rw [if_neg hm, if_neg hl, if_pos hs]
      rw [hz]
      clear hz h
      have i1 : ¬ (65536 : Int) < (na : Int) := by omega
      have i2 : ¬ (65552 : Int) < (nb : Int) := by omega
      have i3 : (nb : Int) < 16 := by omega
      go_enter Try.func22, Try.ntmps22
      go_wp2_with fail
      refine hmk.mono ?_
      rintro e w1 ⟨rfl, hb1⟩
      clear hmk
      have hn1 := arr_new w1 32 (fun _ => 0) 46
      have H1 := hid (hn1.put x)
      have HB := hid (below_setCells (b := w1.heap.size) (vals 32 x) 0 (hb1.alloc hb1.size (.cells (vals 32 fun _ => 0).toArray 46)) hb1.size)
      have HN := hid hn1
      clear hn1 hb1
      go_upto_region 2 with (refine wpList_store_arr rfl 46 (.tmp 10) (.tmp 17) rfl w1.heap.size 32 x rfl rfl (fun _ => 0) ?_ him ?_; exact HN.out)
      clear HN
      obtain ⟨g, hg⟩ : ∃ g, Hid (g = w1.heap.size) := ⟨_, rfl⟩
      rw [← hg.out] at H1 HB ⊢
      generalize (w1.alloc (.cells (vals 32 fun _ => 0).toArray 46)).setCells g 0 (vals 32 x) = w2 at H1 HB ⊢
      clear hg
      go_wp2_with fail
      go_ret2
      exact ⟨rfl, HB.out⟩
end Go.Proofs.Ytgnhbfjngdgibaa
