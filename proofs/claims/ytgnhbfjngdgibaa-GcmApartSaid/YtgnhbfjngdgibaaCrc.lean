/-
  The document's Crypt.
-/
import Derived.Test.YtgnhbfjngdgibaaCr
import Derived.Test.YtgnhbfjngdgibaaAencl
import Derived.Deep.AppendLies
import Derived.Deep.RegionLaw
namespace Go.Proofs.Ytgnhbfjngdgibaa
open Go.RowKit
set_option linter.unusedVariables false
set_option linter.unusedSimpArgs false

theorem byt_take (xs : List Int) (n j : Nat) (h : j < n) : byt (xs.take n) j = byt xs j := by
  unfold byt
  rw [List.getD_eq_getElem?_getD, List.getD_eq_getElem?_getD, List.getElem?_take, if_pos h]
theorem cry_snoc (E : (Nat → Nat) → Nat → Nat) (c : Nat → Nat) (xs : List Int) (k : Nat) (h : k < xs.length) : cry E c (xs.take (k + 1)) = cry E c (xs.take k) ++ [((byt xs k ^^^ strm E c k : Nat) : Int)] := by
  rw [cry_take _ _ _ _ (by omega), cry_take _ _ _ _ (by omega), take_snoc _ _ (by rw [cry_length]; exact h)]
  congr 2
  unfold cry
  rw [row_at _ _ _ h]

set_option maxHeartbeats 4000000 in
set_option maxRecDepth 100000 in
theorem refCrypt_of (pk pn pt : Option Addr) (ck cn ct nk r : Nat) (F : Nat → Nat) (ks ns ts : List Int) (w : World) (hkp : Bin w pk ks) (hks : Oct ks) (hkl : ks.length = nk) (hnk : nk = 16 ∨ nk = 32) (hr : r = nk / 4 + 6 ∧ F = wordB (nk / 4) (nats ks)) (oF : ∀ j, F j < 256)
    (hnp : Bin w pn ns) (hns : Oct ns) (hnl : ns.length = 12) (htp : Bin w pt ts) (hts : Oct ts) (hm : ts.length ≤ 65536) :
    Calls Try.prog 32 #[.slice pk nk ck, .slice pn (12 : Nat) cn, .slice pt ts.length ct] w fun e w' => ∃ v, e = .returned v ∧ Own w.heap.size w' v ts.length (cry (enc F r) (frs ns) ts) ∧ Below w.heap.size w w' := by
  obtain ⟨i0, hi, hz0, hz1, hz2⟩ := info_parts Try.infoU8
  have hzb := Try.zeroBlock
  have oE : ∀ x, (∀ j, x j < 256) → ∀ j, enc F r x j < 256 := fun x ox j => enc_lt oF ox r j
  have hEnc : ∀ (x : Nat → Nat) (w' : World), (∀ j, x j < 256) → Below w.heap.size w w' → _ := fun x w' ox hb => refEnc_of nk r F ks pk ck x w' hnk hr (hkp.below hb) hks hkl ox
  obtain ⟨E, hE⟩ : ∃ E, Hid (E = enc F r) := ⟨_, rfl⟩
  rw [← hE.out] at oE hEnc ⊢
  obtain ⟨c0, hc0⟩ : ∃ c0, Hid (c0 = frs ns) := ⟨_, rfl⟩
  have oc : ∀ j, c0 j < 256 := by rw [hc0.out]; exact frs_lt hns
  have hfirst := refFirst_of pn cn ns w hnp hns hnl
  rw [← hc0.out] at hfirst ⊢
  have HEnc := hid hEnc
  have HOE := hid oE
  have HOC := hid oc
  clear hEnc oE oc hkp hks hnp
  go_enter Try.func32, Try.ntmps32
  go_wp2_with fail
  refine hfirst.mono ?_
  rintro e w1 ⟨rfl, hb1⟩
  clear hfirst
  have hn1 := arr_new w1 16 (fun _ => 0) 44
  have hA1 := hn1.put c0
  have hB1 := below_setCells (vals 16 c0) 0 (hb1.alloc hb1.size (.cells (vals 16 fun _ => 0).toArray 44)) hb1.size
  go_upto_region 3 with (refine wpList_store_arr rfl 44 _ _ rfl w1.heap.size 16 c0 rfl rfl (fun _ => 0) ?_ Try.sizeBlock ?_; exact hn1)
  -- the loop
  obtain ⟨bc, hbc⟩ : ∃ bc, Hid (bc = w1.heap.size) := ⟨_, rfl⟩
  have hbc1 : w.heap.size ≤ bc := by rw [hbc.out]; exact hb1.size
  rw [← hbc.out] at hA1 hB1 hn1 ⊢
  clear hn1
  generalize (w1.alloc (.cells (vals 16 fun _ => 0).toArray 44)).setCells bc 0 (vals 16 c0) = w2 at hA1 hB1 ⊢
  have hcl := hA1.lt (by decide)
  have hn2 := arr_new w2 16 (fun _ => 0) 44
  have hA2 := hA1.alloc (.cells (vals 16 fun _ => 0).toArray 44)
  have hB2 := hB1.alloc hB1.size (.cells (vals 16 fun _ => 0).toArray 44)
  have hbb1 := hB1.size
  go_upto_region 5 with fail
  clear hA1 hB1
  obtain ⟨bb, hbb⟩ : ∃ bb, Hid (bb = w2.heap.size) := ⟨_, rfl⟩
  rw [← hbb.out] at hn2 hcl hbb1 ⊢
  generalize w2.alloc (.cells (vals 16 fun _ => 0).toArray 44) = w3 at hn2 hA2 hB2 ⊢
  have hbw : w.heap.size ≤ bb := hbb1
  have HT := hid htp
  have HCR := hid (cry_snoc E c0 ts)
  clear htp hbb1
  go_loopw [8, 10] (fun v i wr => ∃ k : Nat, k ≤ ts.length ∧ i = .int .i64 (k : Int) ∧ Own (bb + 1) wr v k (cry E c0 (ts.take k)) ∧ Arr wr bc 16 (nxtN ((k + 15) / 16) c0) ∧ (∃ yb, Arr wr bb 16 yb ∧ (k % 16 ≠ 0 → yb = E (nxtN ((k + 15) / 16) c0))) ∧ Below w.heap.size w wr)
    (fun _ i _ => ts.length - (intOf i).toNat)
  case atStart => exact ⟨0, by omega, rfl, Own.nil _ _, hA2, ⟨_, hn2, fun h => absurd rfl h⟩, hB2⟩
  case round =>
    clear hA2 hn2 hB2 hzb
    obtain ⟨k, hk, rfl, hown, hcb, ⟨yb, hyb, hy⟩, hbel⟩ := hrel
    have htp := HT.out
    by_cases hlt : k < ts.length
    · have kI : (k : Int) < (ts.length : Int) := by omega
      by_cases h16 : k % 16 = 0
      · have hm16 : ((k : Int) % 16 == 0) = true := by rw [beq_iff_eq]; omega
        have hk15 : (k + 15) / 16 = k / 16 := by omega
        rw [hk15] at hcb
        clear hy hk15
        have hoc := nxtN_lt HOC.out (k / 16)
        have HO0 := hid hown
        clear hown
        have HY := hid hyb
        have HB := hid hcb
        clear hyb hcb
        go_upto_region 8 with fail
        go_wp2_with (refine wpList_load_arr rfl 44 _ rfl bc rfl 16 _ HB.out _ Try.underlying44 rfl Try.sizeBlock ?_)
        refine (refNext_of _ _ hoc).mono ?_
        rintro e w3 ⟨rfl, hb3⟩
        have hB0 := HB.out.below hb3
        have hY0 := HY.out.below hb3
        have hO3 := HO0.out.below hb3
        have hbel3 := hbel.trans (hb3.mono hbel.size)
        have hB1 := hB0.put (nxtN (k / 16 + 1) c0)
        have hY1 := hY0.besidePut (b' := bc) (by omega) 0 (vals 16 (nxtN (k / 16 + 1) c0))
        have hO4 := hO3.besidePut (b := bc) (by omega) 0 (vals 16 (nxtN (k / 16 + 1) c0))
        have hbel4 := below_setCells (vals 16 (nxtN (k / 16 + 1) c0)) 0 hbel3 hbc1
        have hoc1 := nxtN_lt HOC.out (k / 16 + 1)
        have HB0 := hid hB0
        have HB1 := hid hB1
        clear HY HB HO0 hb3 hbel hbel3 hY0 hO3 hoc hB0 hB1
        go_upto_region 9 with (refine wpList_store_arr rfl 44 _ _ rfl bc 16 (nxtN (k / 16 + 1) c0) rfl rfl _ HB0.out Try.sizeBlock ?_)
        clear HB0
        generalize w3.setCells bc 0 (vals 16 (nxtN (k / 16 + 1) c0)) = w4 at HB1 hY1 hO4 hbel4 ⊢
        have HY1 := hid hY1
        have HO4 := hid hO4
        clear hY1 hO4
        go_wp2_with (refine wpList_load_arr rfl 44 _ rfl bc rfl 16 _ HB1.out _ Try.underlying44 rfl Try.sizeBlock ?_)
        refine (HEnc.out _ _ hoc1 hbel4).mono ?_
        rintro e w5 ⟨rfl, hb5⟩
        have hY2 := HY1.out.below hb5
        have hc5' := HB1.out.below hb5
        have hO5' := HO4.out.below hb5
        have hB5' := hbel4.trans (hb5.mono hbel4.size)
        have hb6 := hY2.put (E (nxtN (k / 16 + 1) c0))
        have hc5 := hc5'.besidePut (b' := bb) (by omega) 0 (vals 16 (E (nxtN (k / 16 + 1) c0)))
        have hO5 := hO5'.besidePut (b := bb) (by omega) 0 (vals 16 (E (nxtN (k / 16 + 1) c0)))
        have hB5 := below_setCells (vals 16 (E (nxtN (k / 16 + 1) c0))) 0 hB5' hbw
        have HY2 := hid hY2
        clear HY1 HB1 HO4 hb5 hbel4 hc5' hO5' hB5' hY2 hoc1
        go_upto_region 10 with (refine wpList_store_arr rfl 44 _ _ rfl bb 16 (E (nxtN (k / 16 + 1) c0)) rfl rfl _ HY2.out Try.sizeBlock ?_)
        clear HY2 hm16 h16
        have hb5 := hb6
        clear hb6
        generalize w5.setCells bb 0 (vals 16 (E (nxtN (k / 16 + 1) c0))) = w7 at hb5 hc5 hO5 hB5 ⊢
        obtain ⟨m, hme⟩ : ∃ m, Hid (m = k % 16) := ⟨_, rfl⟩
        have hm16 : m < 16 := by rw [hme.out]; omega
        have mI : (m : Int) < 16 := by omega
        have htm : (k : Int).tmod 16 = (m : Int) := by rw [hme.out, Int.tmod_eq_emod_of_nonneg (by omega)]; rfl
        have hxs := hid (show bits .xor .u8 (byt ts k : Nat) (E (nxtN (k / 16 + 1) c0) m : Nat) = ((byt ts k ^^^ strm E c0 k : Nat) : Int) from by
          rw [hme.out]
          exact xor8 (byt_lt hts k) (HOE.out _ (nxtN_lt HOC.out (k / 16 + 1)) (k % 16)))
        obtain ⟨hbk, hbf⟩ := hb5 m hm16
        obtain ⟨b, o, rfl, hlb, hc⟩ := htp.at (by omega)
        have htk : w7.cell? ⟨b, o + k, none⟩ = some (.int .u8 (byt ts k : Nat)) := by
          have := (hB5.cell (p := ⟨b, o + k, none⟩) hlb).trans (hc k hlt)
          rwa [byt_at hts k] at this
        have hbl5 := hb5.lt (by decide)
        have HB5 := hid hb5
        have HC5 := hid hc5
        clear hb5 hc5 hc
        have HO := hid hO5
        clear hO5
        go_wp2_with fail
        go_region_law (refine step_append_lies _ rfl (.tmp 27) (.tmp 37) 22 rfl (bb + 1) 5 i0 (.int .u8 0) 1 1 Try.underlying22 hi hz0 hz1 hz2 rfl (by decide) u8 k _ (by simp [Act.eval]) (by exact World.ownsRow.alloc HO.out _) ⟨w7.heap.size, 0, none⟩ 1 1 [.int .u8 (bits .xor .u8 (byt ts k : Nat) (E (nxtN (k / 16 + 1) c0) m : Nat))] rfl rfl (by exact one_new _ _ _) (int_one _) (by decide) (by unfold maxLen; omega) (by omega) (by simp; omega) _ rfl ?_; intro g cap w6 hown2 hgrow2 _ _)
        all_goals
          rw [hxs.out] at hown2
          have HN := hid (show Own (bb + 1) w6 (.slice (some ⟨g, 0, none⟩) (k + 1) cap) (k + 1) (cry E c0 (ts.take k) ++ [((byt ts k ^^^ strm E c0 k : Nat) : Int)]) from by
            unfold Own; rw [List.map_append]; exact hown2)
          have hb6 : Below w.heap.size w w6 := ((hB5.alloc hB5.size _).drew).grown hgrow2 (by simp; omega) (fun q hq => by have := (World.ownsRow.lt HO.out q hq).1; omega)
          have HB6 := hid (((HB5.out.alloc _).drew).grown (by decide) hgrow2 (HO.out.ne (by omega)))
          have HC6 := hid (((HC5.out.alloc _).drew).grown (by decide) hgrow2 (HO.out.ne (by omega)))
          have e15 : Hid ((k + 1 + 15) / 16 = k / 16 + 1) := by show (k + 1 + 15) / 16 = k / 16 + 1; omega
          clear hown2 hgrow2 hbk hbf htk HB5 HC5 HO hB5 htm
          go_wp2_with fail
          go_roundw
          case rel =>
            refine ⟨k + 1, by omega, by go_num, ?_, ?_, ⟨_, HB6.out, fun _ => ?_⟩, hb6⟩
            · rw [HCR.out k hlt]; exact HN.out
            · rw [e15.out]; exact HC6.out
            · rw [e15.out]
          case measure => simp [intOf]; omega
      · have hm16 : ((k : Int) % 16 == 0) = false := by rw [beq_eq_false_iff_ne]; omega
        have hk15 : (k + 15) / 16 = k / 16 + 1 := by omega
        have hb5 := hyb
        rw [hy h16] at hb5
        rw [hk15] at hcb hb5
        obtain ⟨w5, hw5⟩ : ∃ w5, Hid (w5 = wr) := ⟨_, rfl⟩
        rw [← hw5.out] at hb5 hcb hown hbel ⊢
        have hc5 := hcb
        have hO5 := hown
        have hB5 := hbel
        clear hy hk15 hyb hcb hown hbel hw5
        go_upto_region 10 with fail
        clear hm16 h16
        obtain ⟨m, hme⟩ : ∃ m, Hid (m = k % 16) := ⟨_, rfl⟩
        have hm16 : m < 16 := by rw [hme.out]; omega
        have mI : (m : Int) < 16 := by omega
        have htm : (k : Int).tmod 16 = (m : Int) := by rw [hme.out, Int.tmod_eq_emod_of_nonneg (by omega)]; rfl
        have hxs := hid (show bits .xor .u8 (byt ts k : Nat) (E (nxtN (k / 16 + 1) c0) m : Nat) = ((byt ts k ^^^ strm E c0 k : Nat) : Int) from by
          rw [hme.out]
          exact xor8 (byt_lt hts k) (HOE.out _ (nxtN_lt HOC.out (k / 16 + 1)) (k % 16)))
        obtain ⟨hbk, hbf⟩ := hb5 m hm16
        obtain ⟨b, o, rfl, hlb, hc⟩ := htp.at (by omega)
        have htk : w5.cell? ⟨b, o + k, none⟩ = some (.int .u8 (byt ts k : Nat)) := by
          have := (hB5.cell (p := ⟨b, o + k, none⟩) hlb).trans (hc k hlt)
          rwa [byt_at hts k] at this
        have hbl5 := hb5.lt (by decide)
        have HB5 := hid hb5
        have HC5 := hid hc5
        clear hb5 hc5 hc
        have HO := hid hO5
        clear hO5
        go_wp2_with fail
        go_region_law (refine step_append_lies _ rfl (.tmp 27) (.tmp 37) 22 rfl (bb + 1) 5 i0 (.int .u8 0) 1 1 Try.underlying22 hi hz0 hz1 hz2 rfl (by decide) u8 k _ (by simp [Act.eval]) (by exact World.ownsRow.alloc HO.out _) ⟨w5.heap.size, 0, none⟩ 1 1 [.int .u8 (bits .xor .u8 (byt ts k : Nat) (E (nxtN (k / 16 + 1) c0) m : Nat))] rfl rfl (by exact one_new _ _ _) (int_one _) (by decide) (by unfold maxLen; omega) (by omega) (by simp; omega) _ rfl ?_; intro g cap w6 hown2 hgrow2 _ _)
        all_goals
          rw [hxs.out] at hown2
          have HN := hid (show Own (bb + 1) w6 (.slice (some ⟨g, 0, none⟩) (k + 1) cap) (k + 1) (cry E c0 (ts.take k) ++ [((byt ts k ^^^ strm E c0 k : Nat) : Int)]) from by
            unfold Own; rw [List.map_append]; exact hown2)
          have hb6 : Below w.heap.size w w6 := ((hB5.alloc hB5.size _).drew).grown hgrow2 (by simp; omega) (fun q hq => by have := (World.ownsRow.lt HO.out q hq).1; omega)
          have HB6 := hid (((HB5.out.alloc _).drew).grown (by decide) hgrow2 (HO.out.ne (by omega)))
          have HC6 := hid (((HC5.out.alloc _).drew).grown (by decide) hgrow2 (HO.out.ne (by omega)))
          have e15 : Hid ((k + 1 + 15) / 16 = k / 16 + 1) := by show (k + 1 + 15) / 16 = k / 16 + 1; omega
          clear hown2 hgrow2 hbk hbf htk HB5 HC5 HO hB5 htm
          go_wp2_with fail
          go_roundw
          case rel =>
            refine ⟨k + 1, by omega, by go_num, ?_, ?_, ⟨_, HB6.out, fun _ => ?_⟩, hb6⟩
            · rw [HCR.out k hlt]; exact HN.out
            · rw [e15.out]; exact HC6.out
            · rw [e15.out]
          case measure => simp [intOf]; omega
    · obtain rfl : k = ts.length := by omega
      rw [List.take_length] at hown
      have HO := hid (hown.mono (show w.heap.size ≤ bb + 1 from by omega))
      clear hown hcb hyb hy
      go_wp2_with fail
      go_ret
      exact ⟨_, rfl, HO.out, hbel⟩
end Go.Proofs.Ytgnhbfjngdgibaa
