/-
  The walk of GcmOpens.
-/
import Derived.Test.YtgnhbfjngdgibaaGse
namespace Go.Proofs.Ytgnhbfjngdgibaa
open Go.RowKit
set_option linter.unusedVariables false
set_option linter.unusedSimpArgs false

theorem openN_yes {nk nn na nb : Nat} (h : openN nk nn na nb = 0) : (nk = 16 ∨ nk = 32) ∧ nn = 12 ∧ na ≤ 65536 ∧ nb ≤ 65552 ∧ 16 ≤ nb := by
  unfold openN at h
  by_cases h1 : mayN nk nn = false
  · rw [if_pos h1] at h; omega
  · rw [if_neg h1] at h
    by_cases h2 : 65536 < na ∨ 65552 < nb
    · rw [if_pos h2] at h; omega
    · rw [if_neg h2] at h
      by_cases h3 : nb < 16
      · rw [if_pos h3] at h; omega
      · obtain ⟨a, b⟩ := mayN_yes (show mayN nk nn = true from by simpa using h1)
        exact ⟨a, b, by omega, by omega, by omega⟩

set_option maxHeartbeats 8000000 in
set_option maxRecDepth 100000 in
theorem gopens_law (pk : Option Addr) (ck : Nat) (ks : List Int) (pn : Option Addr) (cn : Nat) (ns : List Int) (pa : Option Addr) (ca : Nat) (az : List Int) (pt : Option Addr) (ct : Nat) (ts : List Int) (w : World)
    (hkp : Bin w pk ks) (hks : Oct ks) (hkm : ks.length ≤ 140737488351232) (hkc : ks.length ≤ ck) (hnp : Bin w pn ns) (hns : Oct ns) (hnm : ns.length ≤ 140737488351232) (hnc : ns.length ≤ cn) (hap : Bin w pa az) (has : Oct az) (ham : az.length ≤ 140737488351232) (hac : az.length ≤ ca) (htp : Bin w pt ts) (hts : Oct ts) (htm : ts.length ≤ 140737488351232) (htc : ts.length ≤ ct) :
    Calls Try.prog 6 #[.slice pk ks.length ck, .slice pn ns.length cn, .slice pa az.length ca, .slice pt ts.length ct] w fun e w' => e = .returned (.bool true) ∧ Below w.heap.size w w' := by
  obtain ⟨nk, hnk⟩ : ∃ n, n = ks.length := ⟨_, rfl⟩
  obtain ⟨nn, hnn⟩ : ∃ n, n = ns.length := ⟨_, rfl⟩
  obtain ⟨na, hna⟩ : ∃ n, n = az.length := ⟨_, rfl⟩
  obtain ⟨nt, hnt⟩ : ∃ n, n = ts.length := ⟨_, rfl⟩
  rw [← hnk] at hkm hkc ⊢
  rw [← hnn] at hnm hnc ⊢
  rw [← hna] at ham hac ⊢
  rw [← hnt] at htm htc ⊢
  have HK := hid hnk.symm
  have HN := hid hnn.symm
  have HA := hid hna.symm
  have HT := hid hnt.symm
  have KP := hid hkp
  have NP := hid hnp
  have AP := hid hap
  have TP := hid htp
  clear hnk hnn hna hnt hkp hnp hap htp
  by_cases hfew : fewB na = true ∧ fewB nt = true
  · obtain ⟨fa, ft⟩ := hfew
    obtain ⟨no, hno⟩ : ∃ no, Hid (no = openN nk nn na nt) := ⟨_, rfl⟩
    go_enter Try.func6, Try.ntmps6
    go_wp2_with fail
    refine (few_any _ _ _ _).mono ?_
    rintro e w' ⟨rfl, rfl⟩
    rw [fa]
    go_wp2_with fail
    refine (few_any _ _ _ _).mono ?_
    rintro e w' ⟨rfl, rfl⟩
    rw [ft]
    go_wp2_with fail
    refine (copy_at pt ct nt ts w TP.out HT.out htm).mono ?_
    rintro e w4 ⟨g4, c4, rfl, _, t1, tb, hb4⟩
    have hB4 := hb4
    clear hb4
    by_cases h0 : openN nk nn na nt = 0
    · obtain ⟨hk, hn, ha, ht, h16⟩ := openN_yes h0
      have ha4 : na ≤ 400 := by simp [fewB] at fa; omega
      have ht4 : nt ≤ 400 := by simp [fewB] at ft; omega
      subst hn
      obtain ⟨n, hnn2⟩ : ∃ n, Hid (n + 16 = nt) := ⟨nt - 16, show nt - 16 + 16 = nt by omega⟩
      have n4 : n ≤ 400 := by have := hnn2.out; omega
      have hse := open_of pk pn pa (some ⟨g4, 0, none⟩) ck cn ca c4 nk na n ks ns az ts w4 (KP.out.below hB4) hks HK.out hk hkc (NP.out.below hB4) hns HN.out hnc (AP.out.below hB4) has HA.out hac tb hts (by rw [HT.out, hnn2.out]) (by rw [hnn2.out]; exact t1) (by omega) (by omega)
      have hrs := fun w' h1 h2 h3 h4 => refOpen_of pk pn pa pt ck cn ca ct nk na n ks ns az ts w' h1 hks HK.out hk h2 hns HN.out h3 has HA.out h4 hts (by rw [HT.out, hnn2.out]) (by rw [hnn2.out]; exact htc) (by omega) (by omega)
      have hYl : (cry (keyE nk ks) (frs ns) (ts.take n)).length = n := by rw [cry_length, List.length_take, HT.out, ← hnn2.out]; omega
      have oY : Oct (cry (keyE nk ks) (frs ns) (ts.take n)) := cry_oct (keyE_lt hks) (frs_lt hns) (hts.take n)
      obtain ⟨Y, hY⟩ : ∃ Y, Hid (Y = cry (keyE nk ks) (frs ns) (ts.take n)) := ⟨_, rfl⟩
      rw [← hY.out] at hse hYl oY
      rw [hnn2.out] at hse
      cases hho : holdsB (keyE nk ks) ns az ts with
      | false =>
        have hs2 := hse.mono (R' := fun e w' => e = .returned (.tuple #[.slice none 0 0, .int .i64 60]) ∧ Below w4.heap.size w4 w') (fun e w' h => ⟨h.1 hho, h.2.2⟩)
        have HRS := hid (show ∀ w', Bin w' pk ks → Bin w' pn ns → Bin w' pa az → Bin w' pt ts → Calls Try.prog 23 #[.slice pk nk ck, .slice pn (12 : Nat) cn, .slice pa na ca, .slice pt nt ct] w' fun e w'' =>
            e = .returned (.tuple #[.slice none 0 0, .int .i64 60]) ∧ Below w'.heap.size w' w'' from fun w' h1 h2 h3 h4 => by
          have := hrs w' h1 h2 h3 h4
          rw [hnn2.out] at this
          exact this.mono (fun e w' h => ⟨h.1 hho, h.2.2⟩))
        clear hrs hse hho
        go_wp2_with fail
        refine hs2.mono ?_
        rintro e w5 ⟨rfl, hb5⟩
        clear hs2
        have hB5 := hB4.trans (hb5.mono hB4.size)
        replace tb := tb.below hb5
        clear hb5 hB4
        go_wp2_with fail
        refine (HRS.out _ (KP.out.below hB5) (NP.out.below hB5) (AP.out.below hB5) (TP.out.below hB5)).mono ?_
        rintro e w6 ⟨rfl, hb6⟩
        have hB6 := hB5.trans (hb6.mono hB5.size)
        replace tb := tb.below hb6
        clear HRS hb6 hB5
        go_wp2_with fail
        refine (refSame_yes _ _ _ _ nt ts _ HT.out tb (TP.out.below hB6) hts).mono ?_
        rintro e w' ⟨rfl, rfl⟩
        go_wp2_with fail
        refine (refSame_yes _ _ _ _ 0 [] _ rfl (Bin.nil _ _) (Bin.nil _ _) Oct.nil).mono ?_
        rintro e w' ⟨rfl, rfl⟩
        go_wp2_with fail
        refine (known6_any _).mono ?_
        rintro e w7 ⟨rfl, hb7⟩
        go_wp2_with fail
        go_ret
        exact ⟨rfl, hB6.trans (hb7.mono hB6.size)⟩
      | true =>
        have hs2 := hse.mono (R' := fun e w' => ∃ v, e = .returned (.tuple #[v, .int .i64 0]) ∧ Own w4.heap.size w' v n Y ∧ Below w4.heap.size w4 w') (fun e w' h => by
          obtain ⟨v, h1, h2⟩ := h.2.1 hho
          exact ⟨v, h1, h2, h.2.2⟩)
        have HRS := hid (show ∀ w', Bin w' pk ks → Bin w' pn ns → Bin w' pa az → Bin w' pt ts → Calls Try.prog 23 #[.slice pk nk ck, .slice pn (12 : Nat) cn, .slice pa na ca, .slice pt nt ct] w' fun e w'' =>
            ∃ v, e = .returned (.tuple #[v, .int .i64 0]) ∧ Own w'.heap.size w'' v n Y ∧ Below w'.heap.size w' w'' from fun w' h1 h2 h3 h4 => by
          have := hrs w' h1 h2 h3 h4
          rw [hnn2.out, ← hY.out] at this
          exact this.mono (fun e w' h => by
            obtain ⟨v, h1, h2⟩ := h.2.1 hho
            exact ⟨v, h1, h2, h.2.2⟩))
        clear hrs hse hho
        go_wp2_with fail
        refine hs2.mono ?_
        rintro e w5 ⟨v, rfl, hv, hb5⟩
        clear hs2
        have hB5 := hB4.trans (hb5.mono hB4.size)
        replace tb := tb.below hb5
        obtain ⟨p5, c5, rfl, _, vb⟩ := hv.bin
        clear hb5 hB4 hv
        go_wp2_with fail
        refine (HRS.out _ (KP.out.below hB5) (NP.out.below hB5) (AP.out.below hB5) (TP.out.below hB5)).mono ?_
        rintro e w6 ⟨v6, rfl, hv6, hb6⟩
        obtain ⟨p6, c6, rfl, _, vb6⟩ := hv6.bin
        have hB6 := hB5.trans (hb6.mono hB5.size)
        replace tb := tb.below hb6
        replace vb := vb.below hb6
        clear HRS hb6 hB5 hv6
        go_wp2_with fail
        refine (refSame_yes _ _ _ _ nt ts _ HT.out tb (TP.out.below hB6) hts).mono ?_
        rintro e w' ⟨rfl, rfl⟩
        go_wp2_with fail
        refine (refSame_yes _ _ _ _ n Y _ hYl vb vb6 oY).mono ?_
        rintro e w' ⟨rfl, rfl⟩
        go_wp2_with fail
        refine (known6_any _).mono ?_
        rintro e w7 ⟨rfl, hb7⟩
        go_wp2_with fail
        go_ret
        exact ⟨rfl, hB6.trans (hb7.mono hB6.size)⟩
    · have hse := open_no pk pn pa (some ⟨g4, 0, none⟩) ck cn ca c4 nk nn na nt ks ns az ts w4 (KP.out.below hB4) hks HK.out hkc (NP.out.below hB4) hns HN.out hnc (AP.out.below hB4) has HA.out hac tb hts HT.out t1 h0
      have hrs := fun w' => refOpen_no pk pn pa pt ck cn ca ct nk nn na nt w' h0
      rw [← hno.out] at hse hrs
      have HRS := hid hrs
      clear hrs
      go_wp2_with fail
      refine hse.mono ?_
      rintro e w5 ⟨rfl, hb5⟩
      clear hse
      have hB5 := hB4.trans (hb5.mono hB4.size)
      replace tb := tb.below hb5
      clear hb5 hB4
      go_wp2_with fail
      refine (HRS.out _).mono ?_
      rintro e w' ⟨rfl, rfl⟩
      go_wp2_with fail
      refine (refSame_yes _ _ _ _ nt ts _ HT.out tb (TP.out.below hB5) hts).mono ?_
      rintro e w' ⟨rfl, rfl⟩
      go_wp2_with fail
      refine (refSame_yes _ _ _ _ 0 [] _ rfl (Bin.nil _ _) (Bin.nil _ _) Oct.nil).mono ?_
      rintro e w' ⟨rfl, rfl⟩
      go_wp2_with fail
      refine (known6_any _).mono ?_
      rintro e w7 ⟨rfl, hb7⟩
      go_wp2_with fail
      go_ret
      exact ⟨rfl, hB5.trans (hb7.mono hB5.size)⟩
  · by_cases fa : fewB na = true
    · have ft : fewB nt = false := by
        cases h : fewB nt with
        | false => rfl
        | true => exact absurd ⟨fa, h⟩ hfew
      go_enter Try.func6, Try.ntmps6
      go_wp2_with fail
      refine (few_any _ _ _ _).mono ?_
      rintro e w' ⟨rfl, rfl⟩
      rw [fa]
      go_wp2_with fail
      refine (few_any _ _ _ _).mono ?_
      rintro e w' ⟨rfl, rfl⟩
      rw [ft]
      go_wp2_with fail
      refine (known6_any _).mono ?_
      rintro e w1 ⟨rfl, hb1⟩
      go_wp2_with fail
      go_ret
      exact ⟨rfl, hb1⟩
    · have fa' : fewB na = false := by simpa using fa
      go_enter Try.func6, Try.ntmps6
      go_wp2_with fail
      refine (few_any _ _ _ _).mono ?_
      rintro e w' ⟨rfl, rfl⟩
      rw [fa']
      go_wp2_with fail
      refine (known6_any _).mono ?_
      rintro e w1 ⟨rfl, hb1⟩
      go_wp2_with fail
      go_ret
      exact ⟨rfl, hb1⟩
end Go.Proofs.Ytgnhbfjngdgibaa
