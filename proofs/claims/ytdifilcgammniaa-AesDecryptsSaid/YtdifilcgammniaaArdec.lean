/-
  The document's Decrypt, over the contract of its Words.
-/
import Derived.Test.YtdifilcgammniaaArenc
namespace Go.Proofs.Ytdifilcgammniaa
open Go.RowKit
set_option linter.unusedVariables false
set_option linter.unusedSimpArgs false

set_option maxHeartbeats 8000000 in
set_option maxRecDepth 100000 in
theorem refDecrypt_any (hW : WordsSay) (k n r N : Nat) (xs : List Int) (p : Option Addr) (cap : Nat) (x : Nat → Nat) (w : World) (hn : k = 4 ∧ n = 16 ∧ N = 176 ∧ r = 10 ∨ k = 8 ∧ n = 32 ∧ N = 240 ∧ r = 14) (hp : Bin w p xs) (hx : Oct xs) (hl : xs.length = n) (ox : ∀ j, x j < 256) :
    Calls Try.prog 21 #[.slice p n cap, .agg (vals 16 x).toArray] w fun e w' => e = .returned (.agg (vals 16 (dec (wordB k (nats xs)) r x)).toArray) ∧ Below w.heap.size w w' := by
  have hzb := Try.zeroBlock
  have hzw := Try.zeroWord
  obtain ⟨wa, hwa, b1, b2, hB, hsz⟩ := boxes2 w 16 x (fun _ => 0) 35 35
  have hpa := hp.below hB
  have hww := hW k n N xs p cap wa (by omega) hpa hx hl
  have oF : ∀ j, wordB k (nats xs) j < 256 := wordB_lt (nats_lt hx)
  obtain ⟨F, hF⟩ : ∃ F, Hid (F = wordB k (nats xs)) := ⟨_, rfl⟩
  rw [← hF.out] at hww oF ⊢
  have hNr : N = 16 * (r + 1) := by omega
  have hrn : wrap64 (wrap64 ((n : Int) / 4) + 6) = (r : Int) := by
    rcases hn with ⟨_, rfl, _, rfl⟩ | ⟨_, rfl, _, rfl⟩ <;> (unfold wrap64; omega)
  have hr14 : r ≤ 14 ∧ 1 ≤ r := by omega
  have HL := hid hl
  have HN := hid hn
  have HNr := hid hNr
  have HWW := hid hww
  have HRN := hid hrn
  clear hl hn hNr hww hp hpa hW hx hrn
  go_enter Try.func21, Try.ntmps21
  go_wp2_with fail
  rw [← hwa.out]
  refine HWW.out.mono ?_
  rintro e w2 ⟨gw, gc, rfl, hgw, hF1, hb1⟩
  have hgl : gw < w2.heap.size := World.block_lt_of_cell? w2 _ (hF1 0 (by have := HNr.out; omega))
  have B1 := hid (b1.below hb1)
  have hB2 := b2.below hb1
  have hl2 := hB2.lt (by decide)
  have hbb := hB.trans (hb1.mono hB.size)
  obtain ⟨g, hg⟩ : ∃ g, Hid (g = w2.heap.size) := ⟨_, rfl⟩
  have hn2 := arr_new w2 16 (fun _ => 0) 35
  have hJ : J w gw N g F x ((w2.alloc (.cells (vals 16 fun _ => 0).toArray 35)).setCells w2.heap.size 0 (vals 16 x)) := by
    rw [hg.out]
    exact ⟨hn2.put _, fun i hi => (World.cell?_setCells_out w2.heap.size _ 0 _ ⟨gw, i, none⟩ (fun hh _ => by simp only at hh; omega)).trans ((((Below.refl w2.heap.size w2).alloc (Nat.le_refl _) _).cell (p := ⟨gw, i, none⟩) (by show gw < w2.heap.size; omega)).trans (hF1 i hi)), (hB2.alloc _).besidePut (by omega) 0 _, below_setCells _ 0 (hbb.alloc hbb.size _) hbb.size, by omega, by omega, by have := HNr.out; omega⟩
  have HB1 := hid (B1.out.alloc (.cells (vals 16 fun _ => 0).toArray 35))
  have HN2 := hid hn2
  have HJ := hid hJ
  clear hF1 b1 b2 hB hb1 HWW hwa hB2 hbb hn2 hJ
  go_upto_region 4 with (first | (refine ld rfl _ rfl w.heap.size rfl x ?_ ?_; first | exact B1.out | exact HB1.out) | (refine st rfl _ _ rfl w2.heap.size x rfl rfl (fun _ => 0) ?_ ?_; exact HN2.out))
  rw [← hg.out] at HJ
  rw [← hg.out]
  generalize (w2.alloc (.cells (vals 16 fun _ => 0).toArray 35)).setCells g 0 (vals 16 x) = w3 at HJ ⊢
  clear HN2 HB1 B1 hl2
  rw [HRN.out]
  go_wp2_with fail
  go_loopw [8] (fun i wr => ∃ m : Nat, m ≤ r ∧ i = .int .i64 (m : Int) ∧ ∃ z, J w gw N g F z wr ∧ (∀ j, z j < 256) ∧ Hid ((m = r → z = x) ∧ (m < r → decN F m z = dec F r x))) (fun i _ => (intOf i).toNat)
  case atStart => exact ⟨r, Nat.le_refl _, rfl, x, HJ.out, ox, fun _ => rfl, fun h => absurd h (Nat.lt_irrefl _)⟩
  case round =>
    clear HJ
    obtain ⟨m, hm, rfl, z, hJ, oz, hz⟩ := hrel
    rcases m with _ | m
    · have hJ' := hJ
      have hd := hid (hz.out.2 (by omega))
      clear hJ hz
      have HJ' := hid hJ'
      clear hJ'
      go_wp2_with (refine ld rfl _ rfl g rfl z ?_ ?_; exact HJ'.out.1)
      refine (refAdd0 z F gw N gc _ oz oF HJ'.out.2.1 (by have := HNr.out; omega) (by have := HNr.out; omega)).mono ?_
      rintro e w9 ⟨rfl, hb9⟩
      have hJ9 := HJ'.out.grow hb9
      go_wp2_with (refine st rfl _ _ rfl (w.heap.size + 1) (addK F 0 z) rfl rfl (fun _ => 0) ?_ ?_; exact hJ9.2.2.1)
      have hdd := hd.out
      refine bodyPost_ret (v := .agg (vals 16 (addK F 0 z)).toArray) ?_ rfl ⟨by rw [← hdd]; rfl, below_setCells _ 0 hJ9.2.2.2.1 (by omega)⟩
      exact results_cell_arr rfl _ _ 16 _ _ rfl (hJ9.2.2.1.put _) Try.underlying35 rfl Try.sizeBlock
    · have hle : (1 : Int) ≤ (m : Int) + 1 := by omega
      have hd : decide ((1 : Int) ≤ (m : Int) + 1) = true := by simp; omega
      have hd0 : (0 : Int) ≤ (m : Int) := by omega
      have HJ := hid hJ
      clear hJ
      go_wp2_with (refine ld rfl _ rfl g rfl z ?_ ?_; exact HJ.out.1)
      refine (refAddS z F gw N gc m _ oz oF HJ.out.2.1 (by have := HNr.out; omega) (by have := HNr.out; omega)).mono ?_
      rintro e w4 ⟨rfl, hb4⟩
      obtain ⟨u, hu⟩ : ∃ u, Hid (u = addK F (m + 1) z) := ⟨_, rfl⟩
      have ou : ∀ j, u j < 256 := by rw [hu.out]; exact addK_lt oF oz (m + 1)
      rw [← hu.out]
      have hA4 := (HJ.out.grow hb4).1
      have hJ4 := (HJ.out.grow hb4).put u
      clear HJ hb4
      by_cases hmr : m + 1 < r
      · have hle2 : (m : Int) + 1 < (r : Int) := by omega
        have hd2 : decide ((m : Int) + 1 < (r : Int)) = true := by simp; omega
        go_wp2_with (refine st rfl _ _ rfl g u rfl rfl z ?_ ?_; exact hA4)
        generalize w4.setCells g 0 (vals 16 u) = w5 at hJ4 ⊢
        have HJ4 := hid hJ4
        clear hA4 hJ4
        go_loopw [9] (fun i wr => ∃ q : Nat, q ≤ 4 ∧ i = .int .i64 (q : Int) ∧ J w gw N g F (mixk (unmixS u) u (4 * q)) wr) (fun i _ => 4 - (intOf i).toNat)
        case atStart => exact ⟨0, by decide, rfl, HJ4.out.same fun j _ => (mixk_zero (unmixS u) u j).symm⟩
        case round =>
          clear HJ4
          obtain ⟨q, hq, rfl, hJ⟩ := hrel
          by_cases hlq : q < 4
          · have HJ := hid hJ
            have qI : (q : Int) < 4 := by omega
            have hdq : decide ((q : Int) < 4) = true := by simp; omega
            obtain ⟨y, hy⟩ : ∃ y, Hid (y = mixk (unmixS u) u (4 * q)) := ⟨_, rfl⟩
            rw [← hy.out] at HJ
            obtain ⟨c, hc⟩ : ∃ c : Nat → Nat, Hid (c = fun p => y (4 * q + p)) := ⟨_, rfl⟩
            have oc : ∀ j, c j < 256 := fun j => by rw [hc.out]; show y _ < 256; rw [hy.out]; unfold mixk; split; exact unmixS_lt _ _; exact ou _
            clear hJ
            go_wp2_with (refine ld rfl _ rfl g rfl y ?_ ?_; exact HJ.out.1)
            refine (refColumn_any y q _ hlq).mono ?_
            rintro e w6 ⟨rfl, hb6⟩
            rw [← hc.out]
            have HJ6 := hid (HJ.out.grow hb6)
            clear HJ hb6
            go_wp2_with fail
            refine (refUnmixV c _ oc).mono ?_
            rintro e w7 ⟨rfl, hb7⟩
            have hJ7 := HJ6.out.grow hb7
            have hn7 := arr_new w7 4 (fun _ => 0) 34
            have hJ8 := hJ7.new 34 4 (unmix c)
            have hA8 := hn7.put (unmix c)
            have hgl7 := hJ7.lt
            obtain ⟨h, hh⟩ : ∃ h, Hid (h = w7.heap.size) := ⟨_, rfl⟩
            clear HJ6 hb7 hJ7
            go_wp2_with (refine wpList_store_arr rfl 34 _ _ rfl w7.heap.size 4 (unmix c) rfl rfl (fun _ => 0) ?_ Try.sizeWord ?_; exact hn7)
            rw [← hh.out] at hJ8 hA8 hgl7
            rw [← hh.out]
            generalize (w7.alloc (.cells (vals 4 fun _ => 0).toArray 34)).setCells h 0 (vals 4 (unmix c)) = w8 at hJ8 hA8 ⊢
            clear hn7
            have hcm : ∀ p, p < 4 → unmix c p = unmixS u (4 * q + p) := fun p hp => by
              rw [unmixS_at u q p hp, hc.out]
              exact unmix_congr p fun t ht => by rw [hy.out]; exact mixk_at _ _ _ _ (by omega)
            have HCM := hid hcm
            have HJ8 := hid hJ8
            have HA8 := hid hA8
            clear hJ8 hA8 hcm
            go_loopw [11] (fun i wr => ∃ p : Nat, p ≤ 4 ∧ i = .int .i64 (p : Int) ∧ J w gw N g F (mixk (unmixS u) u (4 * q + p)) wr ∧ Arr wr h 4 (unmix c)) (fun i _ => 4 - (intOf i).toNat)
            case atStart => exact ⟨0, by decide, rfl, by rw [Nat.add_zero, ← hy.out]; exact HJ8.out, HA8.out⟩
            case round =>
              clear HJ8 HA8
              obtain ⟨p, hp, rfl, hJ, hA⟩ := hrel
              by_cases hlp : p < 4
              · have pI : (p : Int) < 4 := by omega
                obtain ⟨hc1, hf1⟩ := hJ.1 (4 * q + p) (by omega)
                have hc2 := (hA p hlp).1
                have HS := hid (hJ.set (4 * q + p) (unmix c p) (by omega))
                have HA2 := hid (hA.beside (b' := g) (by omega) (4 * q + p) (.int .u8 (unmix c p : Nat)))
                have p2 : (0 : Int) ≤ 4 * (q : Int) + (p : Int) := by omega
                have p3 : 4 * (q : Int) + (p : Int) < 16 := by omega
                have t1 : (4 * (q : Int) + (p : Int)).toNat = 4 * q + p := by omega
                clear hJ hA
                go_wp2_with fail
                go_roundw
                case rel => exact ⟨p + 1, by omega, by go_num, HS.out.same fun j _ => by rw [HCM.out p hlp]; exact mixk_step (unmixS u) u (4 * q + p) j, HA2.out⟩
                case measure => simp [intOf]; omega
              · obtain rfl : p = 4 := by omega
                have HJ := hid hJ
                clear hJ hA
                go_wp2_with fail
                go_roundw
                case rel => exact ⟨q + 1, by omega, by go_num, by rw [show 4 * (q + 1) = 4 * q + 4 from by omega]; exact HJ.out⟩
                case measure => simp [intOf]; omega
          · obtain rfl : q = 4 := by omega
            have HJ := hid (hJ.same (t := unmixS u) fun j hj => mixk_full _ _ 16 j hj)
            clear hJ
            obtain ⟨v, hv⟩ : ∃ v, Hid (v = unmixS u) := ⟨_, rfl⟩
            have ov : ∀ j, v j < 256 := by rw [hv.out]; exact unmixS_lt u
            rw [← hv.out] at HJ
            have HD := hid (show decN F m (backS (movB v)) = dec F r x from by rw [hv.out, hu.out]; exact hz.out.2 hmr)
            clear hz hu hv
            go_wp2_with (refine ld rfl _ rfl g rfl v ?_ ?_; exact HJ.out.1)
            refine (refMovB v _).mono ?_
            rintro e w10 ⟨rfl, hb10⟩
            obtain ⟨t, ht⟩ : ∃ t, Hid (t = movB v) := ⟨_, rfl⟩
            have ot : ∀ j, t j < 256 := by rw [ht.out]; exact movB_lt ov
            rw [← ht.out] at HD ⊢
            have hA10 := (HJ.out.grow hb10).1
            have hJ10 := (HJ.out.grow hb10).put t
            clear HJ hb10 ht
            go_wp2_with (refine st rfl _ _ rfl g t rfl rfl v ?_ ?_; exact hA10)
            generalize w10.setCells g 0 (vals 16 t) = w11 at hJ10 ⊢
            have HJ10 := hid hJ10
            clear hA10 hJ10
            go_loopw [12] (fun i wr => ∃ i' : Nat, i' ≤ 16 ∧ i = .int .i64 (i' : Int) ∧ J w gw N g F (mixk (backS t) t i') wr) (fun i _ => 16 - (intOf i).toNat)
            case atStart => exact ⟨0, by decide, rfl, HJ10.out.same fun j _ => (mixk_zero (backS t) t j).symm⟩
            case round =>
              clear HJ10
              obtain ⟨i, hi, rfl, hJ⟩ := hrel
              by_cases hlt2 : i < 16
              · obtain ⟨hc, hf⟩ := hJ.1 i hlt2
                rw [mixk_at _ _ _ _ (Nat.le_refl _)] at hc
                have HS := hid (hJ.set i (back (t i)) hlt2)
                have iI : (i : Int) < 16 := by omega
                clear hJ
                go_wp2_with fail
                refine (refBack_any (t i) _ (ot i)).mono ?_
                rintro e w' ⟨rfl, rfl⟩
                go_wp2_with fail
                go_roundw
                case rel => exact ⟨i + 1, by omega, by go_num, HS.out.same fun j _ => mixk_step (backS t) t i j⟩
                case measure => simp [intOf]; omega
              · obtain rfl : i = 16 := by omega
                have HJ := hid (hJ.same (t := backS t) fun j hj => mixk_full _ _ 16 j hj)
                clear hJ
                go_wp2_with fail
                go_roundw
                case rel => exact ⟨m, by omega, by go_num, backS t, HJ.out, backS_lt ot, fun h => absurd h (by omega), fun _ => HD.out⟩
                case measure => simp [intOf]
      · have HMR := hid (show m + 1 = r from by omega)
        have hle2 : ¬ ((m : Int) + 1 < (r : Int)) := by omega
        have HJ := hid hJ4
        clear hJ4
        have HD := hid (show decN F m (backS (movB u)) = dec F r x from by
          rw [hu.out, hz.out.1 HMR.out, ← HMR.out]; rfl)
        clear hz hu
        obtain ⟨v, hv⟩ : ∃ v, Hid (v = u) := ⟨_, rfl⟩
        have ov : ∀ j, v j < 256 := by rw [hv.out]; exact ou
        rw [← hv.out] at HJ HD ⊢
        go_upto_region 17 with (refine st rfl _ _ rfl g v rfl rfl z ?_ ?_; exact hA4)
        clear hA4 hv
        go_wp2_with (refine ld rfl _ rfl g rfl v ?_ ?_; exact HJ.out.1)
        refine (refMovB v _).mono ?_
        rintro e w10 ⟨rfl, hb10⟩
        obtain ⟨t, ht⟩ : ∃ t, Hid (t = movB v) := ⟨_, rfl⟩
        have ot : ∀ j, t j < 256 := by rw [ht.out]; exact movB_lt ov
        rw [← ht.out] at HD ⊢
        have hA10 := (HJ.out.grow hb10).1
        have hJ10 := (HJ.out.grow hb10).put t
        clear HJ hb10 ht
        go_wp2_with (refine st rfl _ _ rfl g t rfl rfl v ?_ ?_; exact hA10)
        generalize w10.setCells g 0 (vals 16 t) = w11 at hJ10 ⊢
        have HJ10 := hid hJ10
        clear hA10 hJ10
        go_loopw [12] (fun i wr => ∃ i' : Nat, i' ≤ 16 ∧ i = .int .i64 (i' : Int) ∧ J w gw N g F (mixk (backS t) t i') wr) (fun i _ => 16 - (intOf i).toNat)
        case atStart => exact ⟨0, by decide, rfl, HJ10.out.same fun j _ => (mixk_zero (backS t) t j).symm⟩
        case round =>
          clear HJ10
          obtain ⟨i, hi, rfl, hJ⟩ := hrel
          by_cases hlt2 : i < 16
          · obtain ⟨hc, hf⟩ := hJ.1 i hlt2
            rw [mixk_at _ _ _ _ (Nat.le_refl _)] at hc
            have HS := hid (hJ.set i (back (t i)) hlt2)
            have iI : (i : Int) < 16 := by omega
            clear hJ
            go_wp2_with fail
            refine (refBack_any (t i) _ (ot i)).mono ?_
            rintro e w' ⟨rfl, rfl⟩
            go_wp2_with fail
            go_roundw
            case rel => exact ⟨i + 1, by omega, by go_num, HS.out.same fun j _ => mixk_step (backS t) t i j⟩
            case measure => simp [intOf]; omega
          · obtain rfl : i = 16 := by omega
            have HJ := hid (hJ.same (t := backS t) fun j hj => mixk_full _ _ 16 j hj)
            clear hJ
            go_wp2_with fail
            go_roundw
            case rel => exact ⟨m, by omega, by go_num, backS t, HJ.out, backS_lt ot, fun h => absurd h (by omega), fun _ => HD.out⟩
            case measure => simp [intOf]
end Go.Proofs.Ytdifilcgammniaa
