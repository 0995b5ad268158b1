/-
  The document's May, TagOf, Seal and Open.
-/
import Derived.Test.YtgnhbfjngdgibaaCrc
import Derived.Test.YtgnhbfjngdgibaaGhrt
import Derived.Test.YtgnhbfjngdgibaaKh
import Derived.Test.YtgnhbfjngdgibaaKa
namespace Go.Proofs.Ytgnhbfjngdgibaa
open Go.RowKit
set_option linter.unusedVariables false
set_option linter.unusedSimpArgs false

/-- The cipher of a key. -/
def keyE (nk : Nat) (ks : List Int) : (Nat → Nat) → Nat → Nat := enc (wordB (nk / 4) (nats ks)) (nk / 4 + 6)
theorem keyE_lt {nk : Nat} {ks : List Int} (h : Oct ks) (x : Nat → Nat) (ox : ∀ j, x j < 256) (j : Nat) : keyE nk ks x j < 256 := enc_lt (wordB_lt (nats_lt h)) ox _ j

/-- May a key and a nonce be? -/
def mayN (nk nn : Nat) : Bool := mayB nk && decide (nn = 12)
theorem mayN_yes {nk nn : Nat} (h : mayN nk nn = true) : (nk = 16 ∨ nk = 32) ∧ nn = 12 := by
  simpa [mayN, mayB] using h
set_option maxHeartbeats 1000000 in
set_option maxRecDepth 100000 in
theorem refMay6_any (pk pn : Option Addr) (ck cn nk nn : Nat) (w : World) :
    Calls Try.prog 24 #[.slice pk nk ck, .slice pn nn cn] w fun e w' => e = .returned (.bool (mayN nk nn)) ∧ w = w' := by
  have hm := may_any pk ck nk w
  by_cases h1 : mayB nk = false
  · have e : mayN nk nn = false := by simp [mayN, h1]
    rw [e]
    rw [h1] at hm
    go_enter Try.func24, Try.ntmps24
    go_wp2_with fail
    refine hm.mono ?_
    rintro e w' ⟨rfl, rfl⟩
    go_wp2_with fail
    go_ret
    exact ⟨rfl, rfl⟩
  · have h1' : mayB nk = true := by simpa using h1
    rw [h1'] at hm
    by_cases h2 : nn = 12
    · have e : mayN nk nn = true := by simp [mayN, h1', h2]
      have e2 : ((nn : Int) == 12) = true := by rw [beq_iff_eq]; omega
      rw [e]
      go_enter Try.func24, Try.ntmps24
      go_wp2_with fail
      refine hm.mono ?_
      rintro e w' ⟨rfl, rfl⟩
      clear hm
      go_wp2_with fail
      go_ret
      exact ⟨rfl, rfl⟩
    · have e : mayN nk nn = false := by simp [mayN, h2]
      have e2 : ((nn : Int) == 12) = false := by rw [beq_eq_false_iff_ne]; omega
      rw [e]
      go_enter Try.func24, Try.ntmps24
      go_wp2_with fail
      refine hm.mono ?_
      rintro e w' ⟨rfl, rfl⟩
      clear hm
      go_wp2_with fail
      go_ret
      exact ⟨rfl, rfl⟩

theorem row_sameR {F G : Nat → Nat} {n : Nat} (h : ∀ j, j < n → F j = G j) : row F n = row G n := by
  unfold row
  exact List.map_congr_left fun j hj => by rw [h j (List.mem_range.1 hj)]
theorem bin_one (w : World) (x : Nat) : Bin (w.alloc (.cells #[.int .u8 (x : Nat)] 5)) (some ⟨w.heap.size, 0, none⟩) [((x : Nat) : Int)] := fun _ => by
  refine ⟨w.heap.size, 0, rfl, fun i hi => ?_⟩
  match i, hi with
  | 0, _ => simp
  | n + 1, hi => simp only [List.length_cons, List.length_nil] at hi; omega

set_option maxHeartbeats 8000000 in
set_option maxRecDepth 100000 in
theorem refTag_of (pk pn pa pb : Option Addr) (ck cn ca cb nk na nb : Nat) (ks ns az bs : List Int) (w : World) (hkp : Bin w pk ks) (hks : Oct ks) (hkl : ks.length = nk) (hnk : nk = 16 ∨ nk = 32)
    (hnp : Bin w pn ns) (hns : Oct ns) (hnl : ns.length = 12) (hap : Bin w pa az) (has : Oct az) (hal : az.length = na) (hbp : Bin w pb bs) (hbs : Oct bs) (hbl : bs.length = nb) (ha : na ≤ 4000) (hb : nb ≤ 4000) :
    Calls Try.prog 33 #[.slice pk nk ck, .slice pn (12 : Nat) cn, .slice pa na ca, .slice pb nb cb] w fun e w' => ∃ v, e = .returned v ∧ Own w.heap.size w' v 16 (tagL (keyE nk ks) ns az bs) ∧ Below w.heap.size w w' := by
  obtain ⟨i0, hi, hz0, hz1, hz2⟩ := info_parts Try.infoU8
  have hzb := Try.zeroBlock
  have hub := Try.underlying44
  have hib := Try.sizeBlock
  have hEnc := fun (x : Nat → Nat) (w' : World) (ox : ∀ j, x j < 256) (hp : Bin w' pk ks) => refEnc_of nk (nk / 4 + 6) (wordB (nk / 4) (nats ks)) ks pk ck x w' hnk ⟨rfl, rfl⟩ hp hks hkl ox
  have hFirst := fun (w' : World) (hp : Bin w' pn ns) => refFirst_of pn cn ns w' hp hns hnl
  have oE : ∀ x, (∀ j, x j < 256) → ∀ j, keyE nk ks x j < 256 := keyE_lt hks
  obtain ⟨E, hE⟩ : ∃ E, Hid (E = keyE nk ks) := ⟨_, rfl⟩
  rw [← hE.out] at oE ⊢
  have hEnc' : ∀ (x : Nat → Nat) (w' : World), (∀ j, x j < 256) → Bin w' pk ks → Calls Try.prog 43 #[.slice pk nk ck, .agg (vals 16 x).toArray] w' fun e w'' => e = .returned (.agg (vals 16 (E x)).toArray) ∧ Below w'.heap.size w' w'' := by
    rw [hE.out]; exact hEnc
  obtain ⟨f, hf⟩ : ∃ f, Hid (f = frs ns) := ⟨_, rfl⟩
  have of : ∀ j, f j < 256 := by rw [hf.out]; exact frs_lt hns
  rw [← hf.out] at hFirst
  obtain ⟨h, hh⟩ : ∃ h, Hid (h = E fun _ => 0) := ⟨_, rfl⟩
  have oh : ∀ j, h j < 256 := by rw [hh.out]; exact oE _ (fun _ => by decide)
  obtain ⟨s, hs⟩ : ∃ s, Hid (s = by16 (sumN (el h) az bs)) := ⟨_, rfl⟩
  have os : ∀ j, s j < 256 := by rw [hs.out]; exact by16_lt _
  obtain ⟨m, hm⟩ : ∃ m, Hid (m = E f) := ⟨_, rfl⟩
  have om : ∀ j, m j < 256 := by rw [hm.out]; exact oE _ of
  obtain ⟨y, hy⟩ : ∃ y : Nat → Nat, Hid (y = fun j => s j ^^^ m j) := ⟨_, rfl⟩
  have oy : ∀ j, y j < 256 := by rw [hy.out]; exact fun j => xor_byte (os j) (om j)
  have hyt : Hid (row y 16 = tagL E ns az bs) := hid (by
    rw [tagL, tagN, ← hf.out, ← hh.out, ← hm.out]
    refine row_sameR fun j hj => ?_
    rw [by16_xor, by16_el om j hj, ← hs.out, hy.out])
  rw [← hyt.out]
  have hsum := fun (w' : World) (h1 : Bin w' pa az) (h2 : Bin w' pb bs) => refSum_of h pa pb ca cb na nb az bs w' oh hal hbl h1 h2 has hbs ha hb
  rw [← hs.out] at hsum
  have HE := hid hEnc'
  have HF := hid hFirst
  have HSUM := hid hsum
  have KP := hid hkp
  have NP := hid hnp
  have AP := hid hap
  have BP := hid hbp
  clear hEnc hEnc' hFirst hsum hkp hnp hap hbp
  go_enter Try.func33, Try.ntmps33
  go_wp2_with fail
  refine (HE.out (fun _ => 0) w (fun _ => by decide) KP.out).mono ?_
  rintro e w1 ⟨rfl, hb1⟩
  rw [← hh.out]
  have hn1 := arr_new w1 16 (fun _ => 0) 44
  have hB1 := below_setCells (vals 16 h) 0 (hb1.alloc hb1.size (.cells (vals 16 fun _ => 0).toArray 44)) hb1.size
  have H1 := hid (And.intro (hn1.put h) hB1)
  have HN := hid hn1
  clear hb1 hn1 hB1
  go_upto_region 2 with (refine wpList_store_arr rfl 44 _ _ rfl w1.heap.size 16 h rfl rfl (fun _ => 0) ?_ hib ?_; exact HN.out)
  clear HN
  obtain ⟨b9, hb9⟩ : ∃ b, Hid (b = w1.heap.size) := ⟨_, rfl⟩
  rw [← hb9.out] at H1 ⊢
  generalize (w1.alloc (.cells (vals 16 fun _ => 0).toArray 44)).setCells b9 0 (vals 16 h) = w2 at H1 ⊢
  go_wp2_with (refine wpList_load_arr rfl 44 _ rfl b9 rfl 16 h ?_ _ hub rfl hib ?_; exact H1.out.1)
  have hB2 := H1.out.2
  clear H1
  refine (HSUM.out w2 (AP.out.below hB2) (BP.out.below hB2)).mono ?_
  rintro e w3 ⟨rfl, hb3⟩
  have hB3 := hB2.trans (hb3.mono hB2.size)
  have hn3 := arr_new w3 16 (fun _ => 0) 44
  have H3 := hid (And.intro (hn3.put s) (And.intro (below_setCells (vals 16 s) 0 (hB3.alloc hB3.size (.cells (vals 16 fun _ => 0).toArray 44)) hB3.size) hB3.size))
  have HN := hid hn3
  clear hB2 hb3 hB3 hn3
  go_upto_region 3 with (refine wpList_store_arr rfl 44 _ _ rfl w3.heap.size 16 s rfl rfl (fun _ => 0) ?_ hib ?_; exact HN.out)
  clear HN
  obtain ⟨b10, hb⟩ : ∃ b, Hid (b = w3.heap.size) := ⟨_, rfl⟩
  rw [← hb.out] at H3 ⊢
  have hb10 : w.heap.size ≤ b10 := H3.out.2.2
  generalize (w3.alloc (.cells (vals 16 fun _ => 0).toArray 44)).setCells b10 0 (vals 16 s) = w4 at H3 ⊢
  refine wp_region_z (fun v => Arr v b10 16 s ∧ Below w.heap.size w v) 6 (by kernel_rfl) (And.intro H3.out.1 (H3.out.2.1.trans (Below.refl _ _).drew)) (fun hS => ?_)
  clear H3
  generalize World.drew _ = w9 at hS ⊢
  refine wpAnyZ_take (i := 0) rfl (by kernel_rfl) (by kernel_rfl) (by kernel_rfl) (by kernel_rfl) (fun _ _ _ h => h) hS (yieldsIf_load_mid (by kernel_rfl) 44 (.tmp 10) rfl b10 0 (by kernel_rfl) (vals 16 s) _ (fun w hS => hS.1.range) hub rfl hib) ?_
  simp only [Act.put, List.setIfInBounds_toArray, List.set_cons_zero, List.set_cons_succ]
  refine wpAnyZ_take (i := 1) (v := .slice pk nk ck) rfl (by kernel_rfl) (by kernel_rfl) (by kernel_rfl) (by kernel_rfl) (fun _ _ _ h => h) hS (Or.inl ⟨by kernel_rfl, fun w hS => (by clear hS; go_simp)⟩) ?_
  simp only [Act.put, List.setIfInBounds_toArray, List.set_cons_zero, List.set_cons_succ]
  refine wpAnyZ_take (i := 2) (v := .slice pn (12 : Nat) cn) rfl (by kernel_rfl) (by kernel_rfl) (by kernel_rfl) (by kernel_rfl) (fun _ _ _ h => h) hS (Or.inl ⟨by kernel_rfl, fun w hS => (by clear hS; go_simp)⟩) ?_
  simp only [Act.put, List.setIfInBounds_toArray, List.set_cons_zero, List.set_cons_succ]
  refine wpAnyZ_one (i := 3) (by kernel_rfl) rfl (fun K hK => ?_)
  go_simp
  go_at_call 41
  refine (HF.out _ (NP.out.below hS.2)).mono ?_
  rintro e v8 ⟨rfl, hb8⟩
  go_wp2_with fail
  refine hK.out _ _ (fun _ => And.intro (hS.1.below hb8) (hS.2.trans (hb8.mono hS.2.size))) ?_
  replace hS := And.intro (hS.1.below hb8) (hS.2.trans (hb8.mono hS.2.size))
  clear hK K
  try simp only [Act.put, List.setIfInBounds_toArray, List.set_cons_zero, List.set_cons_succ]
  refine wpAnyZ_one (i := 4) (by kernel_rfl) rfl (fun K hK => ?_)
  go_simp
  go_at_call 43
  refine (HE.out f _ of (KP.out.below hS.2)).mono ?_
  rintro e v8 ⟨rfl, hb8⟩
  rw [← hm.out]
  go_wp2_with fail
  refine hK.out _ _ (fun _ => And.intro (hS.1.below hb8) (hS.2.trans (hb8.mono hS.2.size))) ?_
  replace hS := And.intro (hS.1.below hb8) (hS.2.trans (hb8.mono hS.2.size))
  clear hK K
  try simp only [Act.put, List.setIfInBounds_toArray, List.set_cons_zero, List.set_cons_succ]
  refine wpAnyZ_one (i := 5) (by kernel_rfl) rfl (fun K hK => ?_)
  go_simp
  go_at_call 45
  refine (refAdds_of s m _ os om).mono ?_
  rintro e v8 ⟨rfl, hb8⟩
  rw [← hy.out]
  go_wp2_with fail
  refine hK.out _ _ (fun _ => And.intro (hS.1.below hb8) (hS.2.trans (hb8.mono hS.2.size))) ?_
  replace hS := And.intro (hS.1.below hb8) (hS.2.trans (hb8.mono hS.2.size))
  clear hK K
  try simp only [Act.put, List.setIfInBounds_toArray, List.set_cons_zero, List.set_cons_succ]
  refine wpAnyZ_one (i := 6) (by kernel_rfl) rfl (fun K hK => ?_)
  have h0 := hS.1
  have hT0 := h0.there
  rw [if_pos (by rfl)]
  refine wp_store_arr _ _ _ rfl b10 16 y rfl rfl hT0 hib ?_
  try simp only [Act.put, List.setIfInBounds_toArray, List.set_cons_zero, List.set_cons_succ]
  refine hK.out _ _ (fun h => absurd h (by decide)) ?_
  clear hK K
  have hA6 := h0.put y
  have hB6 := below_setCells (vals 16 y) 0 hS.2 hb10
  refine wpAnyZ_done (by kernel_rfl) ?_ _
  have H6 := hid (And.intro hA6 hB6)
  clear hA6 hB6 hS h0 hT0
  have hlb := H6.out.1.lt (by decide)
  go_wp2_with fail
  go_loopw [11, 12] (fun v i wr => ∃ k : Nat, k ≤ 16 ∧ i = .int .i64 (k : Int) ∧ Own (b10 + 1) wr v k (row y k) ∧ Arr wr b10 16 y ∧ Below w.heap.size w wr) (fun _ i _ => 16 - (intOf i).toNat)
  case atStart => exact ⟨0, by decide, rfl, Own.nil _ _, H6.out.1, H6.out.2⟩
  case round =>
    clear H6 hlb hzb
    obtain ⟨k, hk, rfl, hO, hA, hB⟩ := hrel
    by_cases hlt : k < 16
    · obtain ⟨hc, hfz⟩ := hA k hlt
      have kI : (k : Int) < 16 := by omega
      have hlb := hA.lt (by decide)
      have hyk : y k ≤ 255 := by have := oy k; omega
      have HO := hid hO
      have HA := hid hA
      clear hO hA
      go_wp2_with (at_builtin; refine wpList_append_bin rfl (.tmp 30) (.tmp 34) 22 rfl i0 Try.underlying22 hi hz0 hz1 hz2 (b10 + 1) _ k _ rfl (by exact World.ownsRow.alloc HO.out _) (some ⟨wr.heap.size, 0, none⟩) 1 1 [((y k : Nat) : Int)] rfl rfl (by exact bin_one wr (y k)) (by omega) (by simp; omega) ?_; intro p3 c3 w6 hO3 hg3 _)
      have HO3 := hid hO3
      have HA3 := hid ((HA.out.alloc _).grown (by decide) hg3 (HO.out.ne (by omega)))
      have hB3 := (hB.alloc hB.size _).grown hg3 (by simp; omega) (fun q hq => by have := (World.ownsRow.lt HO.out q hq).1; omega)
      clear hO3 hg3 HA HO hB hc
      go_roundw
      case rel => exact ⟨k + 1, by omega, by go_num, by rw [row_snoc]; exact HO3.out, HA3.out, hB3⟩
      case measure => simp [intOf]; omega
    · obtain rfl : k = 16 := by omega
      have HO := hid (hO.mono (show w.heap.size ≤ b10 + 1 from by omega))
      clear hO hA
      go_wp2_with fail
      go_ret
      exact ⟨_, rfl, HO.out, hB⟩
end Go.Proofs.Ytgnhbfjngdgibaa
