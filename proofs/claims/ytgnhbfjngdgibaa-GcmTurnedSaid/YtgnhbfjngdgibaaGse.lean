/-
  The walk of GcmSeals.
-/
import Derived.Test.YtgnhbfjngdgibaaGk6
import Derived.Deep.CutRange
import Derived.Deep.DeepCutAuto
namespace Go.Proofs.Ytgnhbfjngdgibaa
open Go.RowKit
set_option linter.unusedVariables false
set_option linter.unusedSimpArgs false

/-- Is a row of bytes short, or longer than may be? -/
def fewB (n : Nat) : Bool := decide (n ≤ 400 ∨ 65552 < n)
set_option maxHeartbeats 1000000 in
set_option maxRecDepth 100000 in
theorem few_any (p : Option Addr) (c n : Nat) (w : World) : Calls Try.prog 18 #[.slice p n c] w fun e w' => e = .returned (.bool (fewB n)) ∧ w = w' := by
  by_cases h1 : n ≤ 400
  · have e : fewB n = true := by simp [fewB, h1]
    have i1 : (n : Int) ≤ 400 := by omega
    rw [e]
    go_enter Try.func18, Try.ntmps18
    go_wp2_with fail
    go_ret
    exact ⟨rfl, rfl⟩
  · have i1 : ¬ (n : Int) ≤ 400 := by omega
    by_cases h2 : 65552 < n
    · have e : fewB n = true := by simp [fewB, h2]
      have i2 : (65552 : Int) < (n : Int) := by omega
      rw [e]
      go_enter Try.func18, Try.ntmps18
      go_wp2_with fail
      go_ret
      exact ⟨rfl, rfl⟩
    · have e : fewB n = false := by simp [fewB]; omega
      have i2 : ¬ (65552 : Int) < (n : Int) := by omega
      rw [e]
      go_enter Try.func18, Try.ntmps18
      go_wp2_with fail
      go_ret
      exact ⟨rfl, rfl⟩
theorem sealN_yes {nk nn na nt : Nat} (h : sealN nk nn na nt = 0) : (nk = 16 ∨ nk = 32) ∧ nn = 12 ∧ na ≤ 65536 ∧ nt ≤ 65536 := by
  unfold sealN at h
  by_cases h1 : mayN nk nn = false
  · rw [if_pos h1] at h; omega
  · rw [if_neg h1] at h
    by_cases h2 : 65536 < na ∨ 65536 < nt
    · rw [if_pos h2] at h; omega
    · obtain ⟨a, b⟩ := mayN_yes (show mayN nk nn = true from by simpa using h1)
      exact ⟨a, b, by omega, by omega⟩
/-- Copy, of n bytes. -/
theorem copy_at (p : Option Addr) (cap n : Nat) (xs : List Int) (w : World) (hp : Bin w p xs) (hl : xs.length = n) (hm : n ≤ 140737488351232) :
    Calls Try.prog 10 #[.slice p n cap] w fun e w' => ∃ g c, e = .returned (.slice (some ⟨g, 0, none⟩) n c) ∧
      Own w.heap.size w' (.slice (some ⟨g, 0, none⟩) n c) n xs ∧ n ≤ c ∧ Bin w' (some ⟨g, 0, none⟩) xs ∧ Below w.heap.size w w' := by
  subst hl
  refine (copy_any p cap xs w hp hm).mono ?_
  rintro e w' ⟨g, c, he, hO, hb⟩
  exact ⟨g, c, he, hO, hO.slice.2.1, hO.slice.2.2, hb⟩

set_option maxHeartbeats 8000000 in
set_option maxRecDepth 100000 in
theorem gseals_law (pk : Option Addr) (ck : Nat) (ks : List Int) (pn : Option Addr) (cn : Nat) (ns : List Int) (pa : Option Addr) (ca : Nat) (az : List Int) (pt : Option Addr) (ct : Nat) (ts : List Int) (w : World)
    (hkp : Bin w pk ks) (hks : Oct ks) (hkm : ks.length ≤ 140737488351232) (hnp : Bin w pn ns) (hns : Oct ns) (hnm : ns.length ≤ 140737488351232) (hap : Bin w pa az) (has : Oct az) (ham : az.length ≤ 140737488351232) (htp : Bin w pt ts) (hts : Oct ts) (htm : ts.length ≤ 140737488351232) :
    Calls Try.prog 5 #[.slice pk ks.length ck, .slice pn ns.length cn, .slice pa az.length ca, .slice pt ts.length ct] w fun e w' => e = .returned (.bool true) ∧ Below w.heap.size w w' := by
  obtain ⟨nk, hnk⟩ : ∃ n, n = ks.length := ⟨_, rfl⟩
  obtain ⟨nn, hnn⟩ : ∃ n, n = ns.length := ⟨_, rfl⟩
  obtain ⟨na, hna⟩ : ∃ n, n = az.length := ⟨_, rfl⟩
  obtain ⟨nt, hnt⟩ : ∃ n, n = ts.length := ⟨_, rfl⟩
  rw [← hnk] at hkm ⊢
  rw [← hnn] at hnm ⊢
  rw [← hna] at ham ⊢
  rw [← hnt] at htm ⊢
  have HK := hid hnk.symm
  have HN := hid hnn.symm
  have HA := hid hna.symm
  have HT := hid hnt.symm
  have KP := hid hkp
  have NP := hid hnp
  have AP := hid hap
  have TP := hid htp
  clear hnk hnn hna hnt hkp hnp hap htp
  by_cases hfew : fewB na = true ∧ fewB nt = true
  · obtain ⟨fa, ft⟩ := hfew
    obtain ⟨no, hno⟩ : ∃ no, Hid (no = sealN nk nn na nt) := ⟨_, rfl⟩
    go_enter Try.func5, Try.ntmps5
    go_wp2_with fail
    refine (few_any _ _ _ _).mono ?_
    rintro e w' ⟨rfl, rfl⟩
    rw [fa]
    go_wp2_with fail
    refine (few_any _ _ _ _).mono ?_
    rintro e w' ⟨rfl, rfl⟩
    rw [ft]
    go_wp2_with fail
    refine (copy_at pk ck nk ks w KP.out HK.out hkm).mono ?_
    rintro e w1 ⟨g1, c1, rfl, _, k1, kb, hb1⟩
    have hB1 := hb1
    clear hb1
    go_wp2_with fail
    refine (copy_at pn cn nn ns w1 (NP.out.below hB1) HN.out hnm).mono ?_
    rintro e w2 ⟨g2, c2, rfl, _, n1, nb, hb2⟩
    have hB2 := hB1.trans (hb2.mono hB1.size)
    replace kb := kb.below hb2
    clear hb2 hB1
    go_wp2_with fail
    refine (copy_at pa ca na az w2 (AP.out.below hB2) HA.out ham).mono ?_
    rintro e w3 ⟨g3, c3, rfl, _, a1, ab, hb3⟩
    have hB3 := hB2.trans (hb3.mono hB2.size)
    replace kb := kb.below hb3
    replace nb := nb.below hb3
    clear hb3 hB2
    go_wp2_with fail
    refine (copy_at pt ct nt ts w3 (TP.out.below hB3) HT.out htm).mono ?_
    rintro e w4 ⟨g4, c4, rfl, _, t1, tb, hb4⟩
    have hB4 := hB3.trans (hb4.mono hB3.size)
    replace kb := kb.below hb4
    replace nb := nb.below hb4
    replace ab := ab.below hb4
    clear hb4 hB3
    by_cases h0 : sealN nk nn na nt = 0
    · obtain ⟨hk, hn, ha, ht⟩ := sealN_yes h0
      have ha4 : na ≤ 400 := by simp [fewB] at fa; omega
      have ht4 : nt ≤ 400 := by simp [fewB] at ft; omega
      subst hn
      have hse := seal_of (some ⟨g1, 0, none⟩) (some ⟨g2, 0, none⟩) (some ⟨g3, 0, none⟩) (some ⟨g4, 0, none⟩) c1 c2 c3 c4 nk na nt ks ns az ts w4 kb hks HK.out hk k1 nb hns HN.out n1 ab has HA.out a1 tb hts HT.out t1 (by omega) (by omega)
      have hrs := fun w' h1 h2 h3 h4 => refSeal_of pk pn pa pt ck cn ca ct nk na nt ks ns az ts w' h1 hks HK.out hk h2 hns HN.out h3 has HA.out h4 hts HT.out (by omega) (by omega)
      have hYl : (sealL (keyE nk ks) ns az ts).length = nt + 16 := by rw [sealL_length, HT.out]
      have oY : Oct (sealL (keyE nk ks) ns az ts) := sealL_oct az (keyE_lt hks) hns hts
      obtain ⟨Y, hY⟩ : ∃ Y, Hid (Y = sealL (keyE nk ks) ns az ts) := ⟨_, rfl⟩
      rw [← hY.out] at hse hrs hYl oY
      have HRS := hid hrs
      clear hrs
      go_wp2_with fail
      refine hse.mono ?_
      rintro e w5 ⟨v, rfl, hv, hb5⟩
      clear hse
      have hB5 := hB4.trans (hb5.mono hB4.size)
      replace kb := kb.below hb5
      replace nb := nb.below hb5
      replace ab := ab.below hb5
      replace tb := tb.below hb5
      obtain ⟨p5, c5, rfl, _, vb⟩ := hv.bin
      clear hv hb5 hB4
      go_wp2_with fail
      refine (HRS.out _ (KP.out.below hB5) (NP.out.below hB5) (AP.out.below hB5) (TP.out.below hB5)).mono ?_
      rintro e w6 ⟨v6, rfl, hv6, hb6⟩
      obtain ⟨p6, c6, rfl, _, vb6⟩ := hv6.bin
      have hB6 := hB5.trans (hb6.mono hB5.size)
      replace kb := kb.below hb6
      replace nb := nb.below hb6
      replace ab := ab.below hb6
      replace tb := tb.below hb6
      replace vb := vb.below hb6
      clear HRS hv6 hb6 hB5
      go_wp2_with fail
      refine (refSame_yes _ _ _ _ nk ks _ HK.out kb (KP.out.below hB6) hks).mono ?_
      rintro e w' ⟨rfl, rfl⟩
      go_wp2_with fail
      refine (refSame_yes _ _ _ _ 12 ns _ HN.out nb (NP.out.below hB6) hns).mono ?_
      rintro e w' ⟨rfl, rfl⟩
      go_wp2_with fail
      refine (refSame_yes _ _ _ _ na az _ HA.out ab (AP.out.below hB6) has).mono ?_
      rintro e w' ⟨rfl, rfl⟩
      go_wp2_with fail
      refine (refSame_yes _ _ _ _ nt ts _ HT.out tb (TP.out.below hB6) hts).mono ?_
      rintro e w' ⟨rfl, rfl⟩
      go_wp2_with fail
      refine (refSame_yes _ _ _ _ (nt + 16) Y _ hYl vb vb6 oY).mono ?_
      rintro e w' ⟨rfl, rfl⟩
      go_wp2_with fail
      refine (known6_any _).mono ?_
      rintro e w7 ⟨rfl, hb7⟩
      go_wp2_with fail
      go_ret
      exact ⟨rfl, hB6.trans (hb7.mono hB6.size)⟩
    · have hse := seal_no (some ⟨g1, 0, none⟩) (some ⟨g2, 0, none⟩) (some ⟨g3, 0, none⟩) (some ⟨g4, 0, none⟩) c1 c2 c3 c4 nk nn na nt ks ns az ts w4 kb hks HK.out k1 nb hns HN.out n1 ab has HA.out a1 tb hts HT.out t1 h0
      have hrs := fun w' => refSeal_no pk pn pa pt ck cn ca ct nk nn na nt w' h0
      rw [← hno.out] at hse hrs
      have HRS := hid hrs
      clear hrs
      go_wp2_with fail
      refine hse.mono ?_
      rintro e w5 ⟨rfl, hb5⟩
      clear hse
      have hB5 := hB4.trans (hb5.mono hB4.size)
      replace kb := kb.below hb5
      replace nb := nb.below hb5
      replace ab := ab.below hb5
      replace tb := tb.below hb5
      clear hb5 hB4
      go_wp2_with fail
      refine (HRS.out _).mono ?_
      rintro e w' ⟨rfl, rfl⟩
      go_wp2_with fail
      refine (refSame_yes _ _ _ _ nk ks _ HK.out kb (KP.out.below hB5) hks).mono ?_
      rintro e w' ⟨rfl, rfl⟩
      go_wp2_with fail
      refine (refSame_yes _ _ _ _ nn ns _ HN.out nb (NP.out.below hB5) hns).mono ?_
      rintro e w' ⟨rfl, rfl⟩
      go_wp2_with fail
      refine (refSame_yes _ _ _ _ na az _ HA.out ab (AP.out.below hB5) has).mono ?_
      rintro e w' ⟨rfl, rfl⟩
      go_wp2_with fail
      refine (refSame_yes _ _ _ _ nt ts _ HT.out tb (TP.out.below hB5) hts).mono ?_
      rintro e w' ⟨rfl, rfl⟩
      go_wp2_with fail
      refine (refSame_yes _ _ _ _ 0 [] _ rfl (Bin.nil _ _) (Bin.nil _ _) Oct.nil).mono ?_
      rintro e w' ⟨rfl, rfl⟩
      go_wp2_with fail
      refine (known6_any _).mono ?_
      rintro e w7 ⟨rfl, hb7⟩
      go_wp2_with fail
      go_ret
      exact ⟨rfl, hB5.trans (hb7.mono hB5.size)⟩
  · by_cases fa : fewB na = true
    · have ft : fewB nt = false := by
        cases h : fewB nt with
        | false => rfl
        | true => exact absurd ⟨fa, h⟩ hfew
      go_enter Try.func5, Try.ntmps5
      go_wp2_with fail
      refine (few_any _ _ _ _).mono ?_
      rintro e w' ⟨rfl, rfl⟩
      rw [fa]
      go_wp2_with fail
      refine (few_any _ _ _ _).mono ?_
      rintro e w' ⟨rfl, rfl⟩
      rw [ft]
      go_wp2_with fail
      refine (known6_any _).mono ?_
      rintro e w1 ⟨rfl, hb1⟩
      go_wp2_with fail
      go_ret
      exact ⟨rfl, hb1⟩
    · have fa' : fewB na = false := by simpa using fa
      go_enter Try.func5, Try.ntmps5
      go_wp2_with fail
      refine (few_any _ _ _ _).mono ?_
      rintro e w' ⟨rfl, rfl⟩
      rw [fa']
      go_wp2_with fail
      refine (known6_any _).mono ?_
      rintro e w1 ⟨rfl, hb1⟩
      go_wp2_with fail
      go_ret
      exact ⟨rfl, hb1⟩
end Go.Proofs.Ytgnhbfjngdgibaa
