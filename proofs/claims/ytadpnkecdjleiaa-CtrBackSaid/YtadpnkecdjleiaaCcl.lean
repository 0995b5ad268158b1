/-
  The walk of CtrCrypts.
-/
import Derived.Test.YtadpnkecdjleiaaCkn
import Derived.Test.YtadpnkecdjleiaaCrc
namespace Go.Proofs.Ytadpnkecdjleiaa
open Go.RowKit
set_option linter.unusedVariables false
set_option linter.unusedSimpArgs false

theorem opens_yes {nk nn nt : Nat} (h : opensN nk nn nt = 0) : (nk = 16 ∨ nk = 32) ∧ nn = 12 ∧ nt ≤ 65536 := by
  unfold opensN at h
  by_cases h1 : mayB nk = false ∨ nn ≠ 12
  · rw [if_pos h1] at h; omega
  · rw [if_neg h1] at h
    by_cases h2 : 65536 < nt
    · rw [if_pos h2] at h; omega
    · have h3 : mayB nk = true := by
        cases hm : mayB nk with
        | true => rfl
        | false => exact absurd (.inl hm) h1
      exact ⟨mayB_yes h3, Classical.not_not.1 fun e => h1 (.inr e), by omega⟩

set_option maxHeartbeats 8000000 in
set_option maxRecDepth 100000 in
theorem ccrypts_law (pk : Option Addr) (ck : Nat) (ks : List Int) (pn : Option Addr) (cn : Nat) (ns : List Int) (pt : Option Addr) (ct : Nat) (ts : List Int) (w : World)
    (hkp : Bin w pk ks) (hks : Oct ks) (hkm : ks.length ≤ 140737488351232) (hnp : Bin w pn ns) (hns : Oct ns) (hnm : ns.length ≤ 140737488351232) (htp : Bin w pt ts) (hts : Oct ts) (htm : ts.length ≤ 140737488351232) :
    Calls Try.prog 4 #[.slice pk ks.length ck, .slice pn ns.length cn, .slice pt ts.length ct] w fun e w' => e = .returned (.bool true) ∧ Below w.heap.size w w' := by
  have hc1 := fun w' hp => copy_any pk ck ks w' hp hkm
  have hc2 := fun w' hp => copy_any pn cn ns w' hp hnm
  have hc3 := fun w' hp => copy_any pt ct ts w' hp htm
  obtain ⟨nk, hnk⟩ : ∃ n, n = ks.length := ⟨_, rfl⟩
  obtain ⟨nn, hnn⟩ : ∃ n, n = ns.length := ⟨_, rfl⟩
  obtain ⟨nt, hnt⟩ : ∃ n, n = ts.length := ⟨_, rfl⟩
  rw [← hnk] at hkm hc1 ⊢
  rw [← hnn] at hnm hc2 ⊢
  rw [← hnt] at htm hc3 ⊢
  have HK := hid hnk.symm
  have HN := hid hnn.symm
  have HT := hid hnt.symm
  have H1 := hid hc1
  have H2 := hid hc2
  have H3 := hid hc3
  have KP := hid hkp
  have NP := hid hnp
  have TP := hid htp
  clear hnk hnn hnt hc1 hc2 hc3 hkp hnp htp
  by_cases hbig : 400 < nt ∧ nt ≤ 65536
  · have i1 : (400 : Int) < (nt : Int) := by omega
    have i2 : (nt : Int) ≤ 65536 := by omega
    go_enter Try.func4, Try.ntmps4
    go_wp2_with fail
    refine (cknown_any _).mono ?_
    rintro e w1 ⟨rfl, hb1⟩
    go_wp2_with fail
    go_ret
    exact ⟨rfl, hb1⟩
  · obtain ⟨no, hno⟩ : ∃ no, Hid (no = opensN nk nn nt) := ⟨_, rfl⟩
    go_enter Try.func4, Try.ntmps4
    go_upto_region 1 with fail
    go_cut [20] from 13 (fun s20 wx => s20 = .bool false ∧ wx = w)
    case first =>
      by_cases h : 400 < nt
      · have i1 : (400 : Int) < (nt : Int) := by omega
        have i2 : ¬ (nt : Int) ≤ 65536 := by omega
        go_wp2_with fail
        go_meet
        exact ⟨rfl, rfl⟩
      · have i1 : ¬ (400 : Int) < (nt : Int) := by omega
        go_wp2_with fail
        go_meet
        exact ⟨rfl, rfl⟩
    case rest =>
      obtain ⟨rfl, hw⟩ := hcut
      rw [hw]
      clear hw
      go_wp2_with fail
      refine (H1.out w KP.out).mono ?_
      rintro e w1 ⟨g1, c1, rfl, hO1, hb1⟩
      have hS1 := hO1.slice
      clear H1 hO1
      go_wp2_with fail
      refine (H2.out w1 (NP.out.below hb1)).mono ?_
      rintro e w2 ⟨g2, c2, rfl, hO2, hb2⟩
      have hS2 := hO2.slice
      have hB2 := hb1.trans (hb2.mono hb1.size)
      have kb2 := hS1.2.2.below hb2
      clear H2 hO2 hb1
      go_wp2_with fail
      refine (H3.out w2 (TP.out.below hB2)).mono ?_
      rintro e w3 ⟨g3, c3, rfl, hO3, hb3⟩
      have hS3 := hO3.slice
      have hB3 := hB2.trans (hb3.mono hB2.size)
      have kb3 := kb2.below hb3
      have nb3 := hS2.2.2.below hb3
      have tb3 := hS3.2.2
      have k1 : nk ≤ c1 := hS1.2.1
      have n1 : nn ≤ c2 := hS2.2.1
      have t1 : nt ≤ c3 := hS3.2.1
      clear H3 hO3 hb2 hb3 hB2 kb2 hS1 hS2 hS3
      by_cases h0 : opensN nk nn nt = 0
      · obtain ⟨hk, hn, ht⟩ := opens_yes h0
        subst hn
        have ht4 : nt ≤ 400 := by omega
        have hcr := crypt_of (some ⟨g1, 0, none⟩) (some ⟨g2, 0, none⟩) (some ⟨g3, 0, none⟩) c1 c2 c3 nk ks ns ts w3 kb3 hks HK.out hk k1 nb3 hns HN.out tb3 hts (by rw [HT.out]; exact ht) (by rw [HT.out]; exact t1)
        have hrc := fun w' h1 h2 h3 => refCrypt_of pk pn pt ck cn ct nk (nk / 4 + 6) (wordB (nk / 4) (nats ks)) ks ns ts w' h1 hks HK.out hk ⟨rfl, rfl⟩ (wordB_lt (nats_lt hks)) h2 hns HN.out h3 hts (by rw [HT.out]; exact ht)
        have hlc := cry_length (enc (wordB (nk / 4) (nats ks)) (nk / 4 + 6)) (frs ns) ts
        have hoc := cry_oct (E := enc (wordB (nk / 4) (nats ks)) (nk / 4 + 6)) (c := frs ns) (xs := ts) (fun x ox j => enc_lt (wordB_lt (nats_lt hks)) ox _ j) (frs_lt hns) hts
        obtain ⟨Y, hY⟩ : ∃ Y, Hid (Y = cry (enc (wordB (nk / 4) (nats ks)) (nk / 4 + 6)) (frs ns) ts) := ⟨_, rfl⟩
        rw [← hY.out] at hcr hlc hoc
        rw [HT.out] at hcr hlc
        have hrc' := hid (show ∀ w', Bin w' pk ks → Bin w' pn ns → Bin w' pt ts → Calls Try.prog 16 #[.slice pk nk ck, .slice pn (12 : Nat) cn, .slice pt nt ct] w' fun e w'' => ∃ v, e = .returned v ∧ Own w'.heap.size w'' v nt Y ∧ Below w'.heap.size w' w'' from fun w' h1 h2 h3 => by
          have := hrc w' h1 h2 h3
          rw [← hY.out, HT.out] at this
          exact this)
        clear hrc
        go_wp2_with fail
        refine hcr.mono ?_
        rintro e w4 ⟨v, rfl, hv, hb4⟩
        clear hcr
        have hB4 := hB3.trans (hb4.mono hB3.size)
        have kb4 := kb3.below hb4
        have nb4 := nb3.below hb4
        have tb4 := tb3.below hb4
        obtain ⟨p4, c4, rfl, _, vb4⟩ := hv.bin
        clear hb4 hv kb3 nb3 tb3 hB3
        go_wp2_with fail
        refine (refSame_yes _ _ _ _ nk ks _ HK.out kb4 (KP.out.below hB4) hks).mono ?_
        rintro e w' ⟨rfl, rfl⟩
        go_wp2_with fail
        refine (refSame_yes _ _ _ _ 12 ns _ HN.out nb4 (NP.out.below hB4) hns).mono ?_
        rintro e w' ⟨rfl, rfl⟩
        go_wp2_with fail
        refine (refSame_yes _ _ _ _ nt ts _ HT.out tb4 (TP.out.below hB4) hts).mono ?_
        rintro e w' ⟨rfl, rfl⟩
        go_wp2_with fail
        refine (refOpens_any _ _ _ _ _ _ nk 12 nt _).mono ?_
        rintro e w' ⟨rfl, rfl⟩
        rw [h0]
        go_wp2_with fail
        refine (hrc'.out _ (KP.out.below hB4) (NP.out.below hB4) (TP.out.below hB4)).mono ?_
        rintro e w5 ⟨v5, rfl, hv5, hb5⟩
        obtain ⟨p5, c5, rfl, _, vb5⟩ := hv5.bin
        have hB5 := hB4.trans (hb5.mono hB4.size)
        have vb4' := vb4.below hb5
        clear hrc' hv5 hb5 kb4 nb4 tb4 vb4 hB4
        go_wp2_with fail
        refine (refSame_yes _ _ _ _ nt Y _ hlc vb4' vb5 hoc).mono ?_
        rintro e w' ⟨rfl, rfl⟩
        go_wp2_with fail
        refine (cknown_any _).mono ?_
        rintro e w6 ⟨rfl, hb6⟩
        go_wp2_with fail
        go_ret
        exact ⟨rfl, hB5.trans (hb6.mono hB5.size)⟩
      · have hcr := crypt_no (some ⟨g1, 0, none⟩) (some ⟨g2, 0, none⟩) (some ⟨g3, 0, none⟩) c1 c2 c3 nk nn nt ks ns w3 kb3 hks HK.out k1 nb3 hns HN.out h0
        have hop := fun w' => refOpens_any pk pn pt ck cn ct nk nn nt w'
        have hne : (no != 0) = true := by rw [hno.out]; simpa using h0
        rw [← hno.out] at hcr hop
        have HOP := hid hop
        clear hop
        go_wp2_with fail
        refine hcr.mono ?_
        rintro e w4 ⟨rfl, hb4⟩
        clear hcr
        have hB4 := hB3.trans (hb4.mono hB3.size)
        have kb4 := kb3.below hb4
        have nb4 := nb3.below hb4
        have tb4 := tb3.below hb4
        clear hb4 kb3 nb3 tb3 hB3
        go_wp2_with fail
        refine (refSame_yes _ _ _ _ nk ks _ HK.out kb4 (KP.out.below hB4) hks).mono ?_
        rintro e w' ⟨rfl, rfl⟩
        go_wp2_with fail
        refine (refSame_yes _ _ _ _ nn ns _ HN.out nb4 (NP.out.below hB4) hns).mono ?_
        rintro e w' ⟨rfl, rfl⟩
        go_wp2_with fail
        refine (refSame_yes _ _ _ _ nt ts _ HT.out tb4 (TP.out.below hB4) hts).mono ?_
        rintro e w' ⟨rfl, rfl⟩
        go_wp2_with fail
        refine (HOP.out _).mono ?_
        rintro e w' ⟨rfl, rfl⟩
        go_wp2_with fail
        refine (cknown_any _).mono ?_
        rintro e w6 ⟨rfl, hb6⟩
        go_wp2_with fail
        go_ret
        exact ⟨rfl, hB4.trans (hb6.mono hB4.size)⟩
end Go.Proofs.Ytadpnkecdjleiaa
