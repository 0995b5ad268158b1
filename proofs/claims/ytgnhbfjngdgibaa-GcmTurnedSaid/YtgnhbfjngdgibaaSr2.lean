/-
  The document's Seal and Open.
-/
import Derived.Test.YtgnhbfjngdgibaaSr
import Derived.Test.YtgnhbfjngdgibaaCrc
import Derived.Test.YtgnhbfjngdgibaaKa
namespace Go.Proofs.Ytgnhbfjngdgibaa
open Go.RowKit
set_option linter.unusedVariables false
set_option linter.unusedSimpArgs false

def sealN (nk nn na nt : Nat) : Int := if mayN nk nn = false then 2 else if 65536 < na ∨ 65536 < nt then 3 else 0
theorem refSame_at (p q : Option Addr) (c d n : Nat) (xs ys : List Int) (w : World) (h1 : xs.length = n) (h2 : ys.length = n) (hp : Bin w p xs) (hq : Bin w q ys) (hx : Oct xs) (hy : Oct ys) :
    Calls Try.prog 14 #[.slice p n c, .slice q n d] w fun e w' => e = .returned (.bool (sameB xs ys)) ∧ w = w' := by
  have := refSame_any p q c d xs ys w hp hq hx hy
  rw [h1, h2] at this
  exact this
theorem refCrypt_at (pk pn pt : Option Addr) (ck cn ct nk nt : Nat) (ks ns ts : List Int) (w : World) (hkp : Bin w pk ks) (hks : Oct ks) (hkl : ks.length = nk) (hnk : nk = 16 ∨ nk = 32)
    (hnp : Bin w pn ns) (hns : Oct ns) (hnl : ns.length = 12) (htp : Bin w pt ts) (hts : Oct ts) (hl : ts.length = nt) (hm : nt ≤ 65536) :
    Calls Try.prog 32 #[.slice pk nk ck, .slice pn (12 : Nat) cn, .slice pt nt ct] w fun e w' => ∃ v, e = .returned v ∧ Own w.heap.size w' v nt (cry (keyE nk ks) (frs ns) ts) ∧ Below w.heap.size w w' := by
  subst hl
  exact refCrypt_of pk pn pt ck cn ct nk (nk / 4 + 6) (wordB (nk / 4) (nats ks)) ks ns ts w hkp hks hkl hnk ⟨rfl, rfl⟩ (wordB_lt (nats_lt hks)) hnp hns hnl htp hts hm

set_option maxHeartbeats 8000000 in
set_option maxRecDepth 100000 in
theorem refSeal_of (pk pn pa pt : Option Addr) (ck cn ca ct nk na nt : Nat) (ks ns az ts : List Int) (w : World) (hkp : Bin w pk ks) (hks : Oct ks) (hkl : ks.length = nk) (hnk : nk = 16 ∨ nk = 32)
    (hnp : Bin w pn ns) (hns : Oct ns) (hnl : ns.length = 12) (hap : Bin w pa az) (has : Oct az) (hal : az.length = na) (htp : Bin w pt ts) (hts : Oct ts) (htl : ts.length = nt) (ha : na ≤ 4000) (ht : nt ≤ 4000) :
    Calls Try.prog 21 #[.slice pk nk ck, .slice pn (12 : Nat) cn, .slice pa na ca, .slice pt nt ct] w fun e w' => ∃ v, e = .returned (.tuple #[v, .int .i64 0]) ∧ Own w.heap.size w' v (nt + 16) (sealL (keyE nk ks) ns az ts) ∧ Below w.heap.size w w' := by
  obtain ⟨i0, hi, hz0, hz1, hz2⟩ := info_parts Try.infoU8
  have hmay := refMay6_any pk pn ck cn nk 12 w
  have hm1 : mayN nk 12 = true := by simp [mayN, mayB, hnk]
  rw [hm1] at hmay
  have hcr := refCrypt_at pk pn pt ck cn ct nk nt ks ns ts w hkp hks hkl hnk hnp hns hnl htp hts htl (by omega)
  have oc := cry_oct (E := keyE nk ks) (c := frs ns) (xs := ts) (keyE_lt hks) (frs_lt hns) hts
  have htag := fun (p : Option Addr) (c : Nat) (bs : List Int) (w' : World) h1 h2 h3 h4 hbs hl => refTag_of pk pn pa p ck cn ca c nk na nt ks ns az bs w' h1 hks hkl hnk h2 hns hnl h3 has hal h4 hbs hl ha ht
  obtain ⟨E, hE⟩ : ∃ E, Hid (E = keyE nk ks) := ⟨_, rfl⟩
  rw [← hE.out] at hcr oc htag ⊢
  have HTAG := hid htag
  have i1 : ¬ (65536 : Int) < (na : Int) := by omega
  have i2 : ¬ (65536 : Int) < (nt : Int) := by omega
  clear htag
  go_enter Try.func21, Try.ntmps21
  go_wp2_with fail
  refine hmay.mono ?_
  rintro e w' ⟨rfl, rfl⟩
  clear hmay
  go_wp2_with fail
  refine hcr.mono ?_
  rintro e w1 ⟨v1, rfl, hv1, hb1⟩
  obtain ⟨p1, c1, rfl, hc1, vb1⟩ := hv1.bin
  clear hcr
  go_wp2_with fail
  refine (HTAG.out p1 c1 _ w1 (hkp.below hb1) (hnp.below hb1) (hap.below hb1) vb1 oc (by rw [cry_length, htl])).mono ?_
  rintro e w2 ⟨v2, rfl, hv2, hb2⟩
  obtain ⟨p2, c2, rfl, _, vb2⟩ := hv2.bin
  have hO1 := hv1.below hb2
  have hB2 := hb1.trans (hb2.mono hb1.size)
  have hs2 := hB2.size
  have HO := hid hO1
  clear hv1 vb1 hv2 hb1 hb2 hO1
  go_wp2_with (at_builtin; refine wpList_append_bin rfl (.tmp 33) (.tmp 34) 22 rfl i0 Try.underlying22 hi hz0 hz1 hz2 w.heap.size _ nt _ rfl (by exact HO.out) p2 16 c2 (tagL E ns az (cry E (frs ns) ts)) rfl (tagL_length _ _ _ _) (by exact vb2) (by omega) hs2 ?_; intro p3 c3 w3 hO3 hg3 _)
  go_ret2
  exact ⟨_, rfl, hO3, hB2.grown hg3 hs2 (fun q hq => (World.ownsRow.lt HO.out q hq).1)⟩

set_option maxHeartbeats 2000000 in
set_option maxRecDepth 100000 in
theorem refSeal_no (pk pn pa pt : Option Addr) (ck cn ca ct nk nn na nt : Nat) (w : World) (h : sealN nk nn na nt ≠ 0) :
    Calls Try.prog 21 #[.slice pk nk ck, .slice pn nn cn, .slice pa na ca, .slice pt nt ct] w fun e w' => e = .returned (.tuple #[.slice none 0 0, .int .i64 (sealN nk nn na nt)]) ∧ w = w' := by
  have hmay := refMay6_any pk pn ck cn nk nn w
  by_cases hm : mayN nk nn = false
  · have hz : sealN nk nn na nt = 2 := by unfold sealN; rw [if_pos hm]
    rw [hz]
    rw [hm] at hmay
    clear hz h
    go_enter Try.func21, Try.ntmps21
    go_wp2_with fail
    refine hmay.mono ?_
    rintro e w' ⟨rfl, rfl⟩
    clear hmay
    go_wp2_with fail
    go_ret2
    exact ⟨rfl, rfl⟩
  · have hm' : mayN nk nn = true := by simpa using hm
    have hl : 65536 < na ∨ 65536 < nt := Classical.not_not.1 fun hh => h (by unfold sealN; rw [if_neg hm, if_neg hh])
    have hz : sealN nk nn na nt = 3 := by unfold sealN; rw [if_neg hm, if_pos hl]
    rw [hz]
    rw [hm'] at hmay
    clear hz h
    by_cases ha : 65536 < na
    · have i1 : (65536 : Int) < (na : Int) := by omega
      go_enter Try.func21, Try.ntmps21
      go_wp2_with fail
      refine hmay.mono ?_
      rintro e w' ⟨rfl, rfl⟩
      clear hmay
      go_wp2_with fail
      go_ret2
      exact ⟨rfl, rfl⟩
    · have i1 : ¬ (65536 : Int) < (na : Int) := by omega
      have i2 : (65536 : Int) < (nt : Int) := by omega
      go_enter Try.func21, Try.ntmps21
      go_wp2_with fail
      refine hmay.mono ?_
      rintro e w' ⟨rfl, rfl⟩
      clear hmay
      go_wp2_with fail
      go_ret2
      exact ⟨rfl, rfl⟩

def openN (nk nn na nb : Nat) : Int := if mayN nk nn = false then 2 else if 65536 < na ∨ 65552 < nb then 3 else if nb < 16 then 4 else 0

set_option maxHeartbeats 8000000 in
set_option maxRecDepth 100000 in
theorem refOpen_of (pk pn pa pb : Option Addr) (ck cn ca cb nk na n : Nat) (ks ns az bs : List Int) (w : World) (hkp : Bin w pk ks) (hks : Oct ks) (hkl : ks.length = nk) (hnk : nk = 16 ∨ nk = 32)
    (hnp : Bin w pn ns) (hns : Oct ns) (hnl : ns.length = 12) (hap : Bin w pa az) (has : Oct az) (hal : az.length = na) (hbp : Bin w pb bs) (hbs : Oct bs) (hbl : bs.length = n + 16) (hcb : n + 16 ≤ cb) (ha : na ≤ 4000) (hn : n ≤ 4000) :
    Calls Try.prog 23 #[.slice pk nk ck, .slice pn (12 : Nat) cn, .slice pa na ca, .slice pb (n + 16 : Nat) cb] w fun e w' =>
      (holdsB (keyE nk ks) ns az bs = false → e = .returned (.tuple #[.slice none 0 0, .int .i64 60])) ∧
      (holdsB (keyE nk ks) ns az bs = true → ∃ v, e = .returned (.tuple #[v, .int .i64 0]) ∧ Own w.heap.size w' v n (cry (keyE nk ks) (frs ns) (bs.take n))) ∧ Below w.heap.size w w' := by
  have hmay := refMay6_any pk pn ck cn nk 12 w
  have hm1 : mayN nk 12 = true := by simp [mayN, mayB, hnk]
  rw [hm1] at hmay
  obtain ⟨b, o, rfl, hbl0, hbc⟩ := hbp.at (by omega)
  have hbt : Bin w (some ⟨b, o, none⟩) (bs.take n) := fun hl => by
    refine ⟨b, o, rfl, fun i hi => ?_⟩
    rw [List.length_take] at hi
    rw [hbc i (by omega), List.getD_eq_getElem?_getD, List.getD_eq_getElem?_getD, List.getElem?_take, if_pos (by omega)]
  have hbd : Bin w (some ⟨b, o + n, none⟩) (bs.drop n) := fun hl => by
    refine ⟨b, o + n, rfl, fun i hi => ?_⟩
    rw [List.length_drop] at hi
    rw [Nat.add_assoc, hbc (n + i) (by omega), List.getD_eq_getElem?_getD, List.getD_eq_getElem?_getD, List.getElem?_drop]
  have htl : (bs.take n).length = n := by rw [List.length_take]; omega
  have hdl : (bs.drop n).length = 16 := by rw [List.length_drop]; omega
  have hcr := fun w' h1 h2 h3 => refCrypt_at pk pn (some ⟨b, o, none⟩) ck cn cb nk n ks ns (bs.take n) w' h1 hks hkl hnk h2 hns hnl h3 (hbs.take n) htl (by omega)
  have htag := fun (w' : World) h1 h2 h3 h4 => refTag_of pk pn pa (some ⟨b, o, none⟩) ck cn ca cb nk na n ks ns az (bs.take n) w' h1 hks hkl hnk h2 hns hnl h3 has hal h4 (hbs.take n) htl ha hn
  obtain ⟨ho, hho⟩ : ∃ ho, Hid (ho = holdsB (keyE nk ks) ns az bs) := ⟨_, rfl⟩
  rw [← hho.out]
  have hho2 : ho = sameB (tagL (keyE nk ks) ns az (bs.take n)) (bs.drop n) := by
    rw [hho.out, holdsB, hbl, Nat.add_sub_cancel]; rfl
  clear hho
  have hho := hid hho2
  clear hho2
  obtain ⟨E, hE⟩ : ∃ E, Hid (E = keyE nk ks) := ⟨_, rfl⟩
  rw [← hE.out] at hcr htag hho ⊢
  have HTAG := hid htag
  have HCR := hid hcr
  have KP := hid hkp
  have NP := hid hnp
  have AP := hid hap
  have BT := hid hbt
  have BD := hid hbd
  have i1 : ¬ (65536 : Int) < (na : Int) := by omega
  obtain ⟨nb, hnb⟩ : ∃ nb, Hid (nb = n + 16) := ⟨_, rfl⟩
  rw [← hnb.out]
  have i2 : ¬ (65552 : Int) < (nb : Int) := by have := hnb.out; omega
  have i3 : ¬ (nb : Int) < 16 := by have := hnb.out; omega
  have i7 : ¬ cb = n := by omega
  have i6 : (n : Int) ≤ (nb : Int) := by have := hnb.out; omega
  have i5 : (nb : Int) - 16 = (n : Int) := by have := hnb.out; omega
  have i4 : (n : Int) ≤ (cb : Int) := by omega
  clear htag hcr hkp hnp hap hbp hbt hbd hbc
  go_enter Try.func23, Try.ntmps23
  go_wp2_with fail
  refine hmay.mono ?_
  rintro e w' ⟨rfl, rfl⟩
  clear hmay
  go_upto_region 8 with fail
  have hSd : Below w.heap.size w w.drew := (Below.refl _ _).drew
  refine wp_region_z (fun v => Below w.heap.size w v) 12 (by kernel_rfl) hSd (fun hS => ?_)
  clear hSd
  generalize World.drew _ = w9 at hS ⊢
  refine wpAnyZ_take (i := 0) (v := .slice pk nk ck) rfl (by kernel_rfl) (by kernel_rfl) (by kernel_rfl) (by kernel_rfl) (fun _ _ _ h => h) hS (Or.inl ⟨by kernel_rfl, fun w hS => (by clear hS; go_simp)⟩) ?_
  simp only [Act.put, List.setIfInBounds_toArray, List.set_cons_zero, List.set_cons_succ]
  refine wpAnyZ_take (i := 1) (v := .slice pn (12 : Nat) cn) rfl (by kernel_rfl) (by kernel_rfl) (by kernel_rfl) (by kernel_rfl) (fun _ _ _ h => h) hS (Or.inl ⟨by kernel_rfl, fun w hS => (by clear hS; go_simp)⟩) ?_
  simp only [Act.put, List.setIfInBounds_toArray, List.set_cons_zero, List.set_cons_succ]
  refine wpAnyZ_take (i := 2) (v := .slice pa na ca) rfl (by kernel_rfl) (by kernel_rfl) (by kernel_rfl) (by kernel_rfl) (fun _ _ _ h => h) hS (Or.inl ⟨by kernel_rfl, fun w hS => (by clear hS; go_simp)⟩) ?_
  simp only [Act.put, List.setIfInBounds_toArray, List.set_cons_zero, List.set_cons_succ]
  refine wpAnyZ_take (i := 3) (v := .slice (some ⟨b, o, none⟩) nb cb) rfl (by kernel_rfl) (by kernel_rfl) (by kernel_rfl) (by kernel_rfl) (fun _ _ _ h => h) hS (Or.inl ⟨by kernel_rfl, fun w hS => (by clear hS; go_simp)⟩) ?_
  simp only [Act.put, List.setIfInBounds_toArray, List.set_cons_zero, List.set_cons_succ]
  refine wpAnyZ_take (i := 4) (v := .int .i64 (n : Int)) rfl (by kernel_rfl) (by kernel_rfl) (by kernel_rfl) (by kernel_rfl) (fun _ _ _ h => h) hS (Or.inl ⟨by kernel_rfl, fun w hS => (by clear hS; go_simp)⟩) ?_
  simp only [Act.put, List.setIfInBounds_toArray, List.set_cons_zero, List.set_cons_succ]
  refine wpAnyZ_take (i := 5) (v := .slice (some ⟨b, o, none⟩) n cb) rfl (by kernel_rfl) (by kernel_rfl) (by kernel_rfl) (by kernel_rfl) (fun _ _ _ h => h) hS (Or.inl ⟨by kernel_rfl, fun w hS => (by clear hS; go_simp)⟩) ?_
  simp only [Act.put, List.setIfInBounds_toArray, List.set_cons_zero, List.set_cons_succ]
  refine wpAnyZ_take (i := 7) (v := .slice (some ⟨b, o, none⟩) nb cb) rfl (by kernel_rfl) (by kernel_rfl) (by kernel_rfl) (by kernel_rfl) (fun _ _ _ h => h) hS (Or.inl ⟨by kernel_rfl, fun w hS => (by clear hS; go_simp)⟩) ?_
  simp only [Act.put, List.setIfInBounds_toArray, List.set_cons_zero, List.set_cons_succ]
  refine wpAnyZ_take (i := 8) (v := .int .i64 (n : Int)) rfl (by kernel_rfl) (by kernel_rfl) (by kernel_rfl) (by kernel_rfl) (fun _ _ _ h => h) hS (Or.inl ⟨by kernel_rfl, fun w hS => (by clear hS; go_simp)⟩) ?_
  simp only [Act.put, List.setIfInBounds_toArray, List.set_cons_zero, List.set_cons_succ]
  refine wpAnyZ_take (i := 9) (v := .slice (some ⟨b, o + n, none⟩) (nb - n) (cb - n)) rfl (by kernel_rfl) (by kernel_rfl) (by kernel_rfl) (by kernel_rfl) (fun _ _ _ h => h) hS (Or.inl ⟨by kernel_rfl, fun w hS => (by clear hS; go_simp)⟩) ?_
  simp only [Act.put, List.setIfInBounds_toArray, List.set_cons_zero, List.set_cons_succ]
  rw [show nb - n = 16 from by have := hnb.out; omega]
  refine wpAnyZ_one (i := 6) (by kernel_rfl) rfl (fun K hK => ?_)
  go_simp
  go_at_call 33
  refine (HTAG.out _ (KP.out.below hS) (NP.out.below hS) (AP.out.below hS) (BT.out.below hS)).mono ?_
  rintro e v8 ⟨v, rfl, hv, hb8⟩
  obtain ⟨p8, c8, rfl, _, hvb⟩ := hv.bin
  go_wp2_with fail
  refine hK.out _ _ (fun _ => hS.trans (hb8.mono hS.size)) ?_
  replace hS := hS.trans (hb8.mono hS.size)
  have HV := hid hvb
  have HVL := hid hv.len
  obtain ⟨w8, hw8⟩ : ∃ w8, w8 = v8 := ⟨_, rfl⟩
  have hS8 : Below v8.heap.size v8 v8 := Below.refl _ _
  clear hK K hv hb8 hvb
  try simp only [Act.put, List.setIfInBounds_toArray, List.set_cons_zero, List.set_cons_succ]
  refine wpAnyZ_one (i := 10) (by kernel_rfl) rfl (fun K hK => ?_)
  go_simp
  go_at_call 14
  refine (refSame_at _ _ _ _ 16 (tagL E ns az (bs.take n)) (bs.drop n) _ (tagL_length _ _ _ _) hdl HV.out (BD.out.below hS) (tagL_oct _ _ _ _) (hbs.drop n)).mono ?_
  rintro e v9 ⟨rfl, rfl⟩
  rw [← hho.out]
  go_wp2_with fail
  refine hK.out _ _ (fun _ => hS) ?_
  clear hK K HV hS8
  try simp only [Act.put, List.setIfInBounds_toArray, List.set_cons_zero, List.set_cons_succ]
  refine wpAnyZ_take (i := 11) (v := .bool !ho) rfl (by kernel_rfl) (by kernel_rfl) (by kernel_rfl) (by kernel_rfl) (fun _ _ _ h => h) hS (Or.inl ⟨by kernel_rfl, fun w hS => (by clear hS; go_simp)⟩) ?_
  simp only [Act.put, List.setIfInBounds_toArray, List.set_cons_zero, List.set_cons_succ]
  refine wpAnyZ_done (by kernel_rfl) ?_ _
  have HS := hid hS
  clear hS
  cases ho with
  | false =>
    go_wp2_with fail
    go_ret2
    exact ⟨rfl, HS.out⟩
  | true =>
    go_wp2_with fail
    refine (HCR.out _ (KP.out.below HS.out) (NP.out.below HS.out) (BT.out.below HS.out)).mono ?_
    rintro e w5 ⟨v5, rfl, hv5, hb5⟩
    go_wp2_with fail
    go_ret2
    exact ⟨⟨_, rfl, hv5.mono HS.out.size⟩, HS.out.trans (hb5.mono HS.out.size)⟩

set_option maxHeartbeats 2000000 in
set_option maxRecDepth 100000 in
theorem refOpen_no (pk pn pa pb : Option Addr) (ck cn ca cb nk nn na nb : Nat) (w : World) (h : openN nk nn na nb ≠ 0) :
    Calls Try.prog 23 #[.slice pk nk ck, .slice pn nn cn, .slice pa na ca, .slice pb nb cb] w fun e w' => e = .returned (.tuple #[.slice none 0 0, .int .i64 (openN nk nn na nb)]) ∧ w = w' := by
  have hmay := refMay6_any pk pn ck cn nk nn w
  by_cases hm : mayN nk nn = false
  · have hz : openN nk nn na nb = 2 := by unfold openN; rw [if_pos hm]
    rw [hz]
    rw [hm] at hmay
    clear hz h
    go_enter Try.func23, Try.ntmps23
    go_wp2_with fail
    refine hmay.mono ?_
    rintro e w' ⟨rfl, rfl⟩
    clear hmay
    go_wp2_with fail
    go_ret2
    exact ⟨rfl, rfl⟩
  · have hm' : mayN nk nn = true := by simpa using hm
    rw [hm'] at hmay
    by_cases hl : 65536 < na ∨ 65552 < nb
    · have hz : openN nk nn na nb = 3 := by unfold openN; rw [if_neg hm, if_pos hl]
      rw [hz]
      clear hz h
      by_cases ha : 65536 < na
      · have i1 : (65536 : Int) < (na : Int) := by omega
        go_enter Try.func23, Try.ntmps23
        go_wp2_with fail
        refine hmay.mono ?_
        rintro e w' ⟨rfl, rfl⟩
        clear hmay
        go_wp2_with fail
        go_ret2
        exact ⟨rfl, rfl⟩
      · have i1 : ¬ (65536 : Int) < (na : Int) := by omega
        have i2 : (65552 : Int) < (nb : Int) := by omega
        go_enter Try.func23, Try.ntmps23
        go_wp2_with fail
        refine hmay.mono ?_
        rintro e w' ⟨rfl, rfl⟩
        clear hmay
        go_wp2_with fail
        go_ret2
        exact ⟨rfl, rfl⟩
    · have hs : nb < 16 := Classical.not_not.1 fun hh => h (by unfold openN; rw [if_neg hm, if_neg hl, if_neg hh])
      have hz : openN nk nn na nb = 4 := by unfold openN; rw [if_neg hm, if_neg hl, if_pos hs]
      rw [hz]
      have i1 : ¬ (65536 : Int) < (na : Int) := by omega
      have i2 : ¬ (65552 : Int) < (nb : Int) := by omega
      have i3 : (nb : Int) < 16 := by omega
      clear hz h
      go_enter Try.func23, Try.ntmps23
      go_wp2_with fail
      refine hmay.mono ?_
      rintro e w' ⟨rfl, rfl⟩
      clear hmay
      go_wp2_with fail
      go_ret2
      exact ⟨rfl, rfl⟩
end Go.Proofs.Ytgnhbfjngdgibaa
