/-
  The walk of GcmTurned.
-/
import Derived.Test.YtgnhbfjngdgibaaGap
import Derived.Deep.CutRange
import Derived.Deep.DeepCutAuto
namespace Go.Proofs.Ytgnhbfjngdgibaa
open Go.RowKit
set_option linter.unusedVariables false
set_option linter.unusedSimpArgs false

/-- Six cells at the head of a block. -/
structure Six (w : World) (b : Nat) (v0 v1 v2 v3 v4 v5 : Value) : Prop where
  c0 : w.cell? ⟨b, 0, none⟩ = some v0
  c1 : w.cell? ⟨b, 1, none⟩ = some v1
  c2 : w.cell? ⟨b, 2, none⟩ = some v2
  c3 : w.cell? ⟨b, 3, none⟩ = some v3
  c4 : w.cell? ⟨b, 4, none⟩ = some v4
  c5 : w.cell? ⟨b, 5, none⟩ = some v5
theorem Six.lt {w : World} {b : Nat} {v0 v1 v2 v3 v4 v5 : Value} (h : Six w b v0 v1 v2 v3 v4 v5) : b < w.heap.size := World.block_lt_of_cell? w _ h.c0
theorem Six.below {w w' : World} {b : Nat} {v0 v1 v2 v3 v4 v5 : Value} (h : Six w b v0 v1 v2 v3 v4 v5) (hb : Below w.heap.size w w') : Six w' b v0 v1 v2 v3 v4 v5 := by
  have hl := h.lt
  exact ⟨(hb.cell (p := ⟨b, 0, none⟩) hl).trans h.c0, (hb.cell (p := ⟨b, 1, none⟩) hl).trans h.c1, (hb.cell (p := ⟨b, 2, none⟩) hl).trans h.c2, (hb.cell (p := ⟨b, 3, none⟩) hl).trans h.c3, (hb.cell (p := ⟨b, 4, none⟩) hl).trans h.c4, (hb.cell (p := ⟨b, 5, none⟩) hl).trans h.c5⟩
theorem Six.below' {w w' : World} {B b : Nat} {v0 v1 v2 v3 v4 v5 : Value} (h : Six w b v0 v1 v2 v3 v4 v5) (hl : b < B) (hb : Below B w w') : Six w' b v0 v1 v2 v3 v4 v5 :=
  ⟨(hb.cell (p := ⟨b, 0, none⟩) hl).trans h.c0, (hb.cell (p := ⟨b, 1, none⟩) hl).trans h.c1, (hb.cell (p := ⟨b, 2, none⟩) hl).trans h.c2, (hb.cell (p := ⟨b, 3, none⟩) hl).trans h.c3, (hb.cell (p := ⟨b, 4, none⟩) hl).trans h.c4, (hb.cell (p := ⟨b, 5, none⟩) hl).trans h.c5⟩
theorem six_new (w : World) (v0 v1 v2 v3 v4 v5 : Value) (t : TypeId) : Six (w.alloc (.cells #[v0, v1, v2, v3, v4, v5] t)) w.heap.size v0 v1 v2 v3 v4 v5 := by
  constructor <;> simp

theorem bin_drop {b o : Nat} {w : World} {xs : List Int} (h : Bin w (some ⟨b, o, none⟩) xs) (n : Nat) : Bin w (some ⟨b, o + n, none⟩) (xs.drop n) := fun hl => by
  rw [List.length_drop] at hl
  obtain ⟨b', o', e, hc⟩ := h (by omega)
  cases e
  refine ⟨b, o + n, rfl, fun i hi => ?_⟩
  rw [List.length_drop] at hi
  rw [Nat.add_assoc, hc (n + i) (by omega), List.getD_eq_getElem?_getD, List.getD_eq_getElem?_getD, List.getElem?_drop]
theorem set_self (l : List Int) (n : Nat) (h : n < l.length) : l.set n (l.getD n 0) = l := by
  rw [List.getD_eq_getElem?_getD, List.getElem?_eq_getElem h]
  exact List.set_getElem_self h
theorem oct_set {l : List Int} (h : Oct l) (n : Nat) {z : Nat} (hz : z < 256) : Oct (l.set n ((z : Nat) : Int)) := fun x hx => by
  rcases List.mem_or_eq_of_mem_set hx with hx | rfl
  · exact h x hx
  · omega

set_option maxHeartbeats 16000000 in
set_option maxRecDepth 100000 in
theorem gturned_law (pk : Option Addr) (ck : Nat) (ks : List Int) (pn : Option Addr) (cn : Nat) (ns : List Int) (pa : Option Addr) (ca : Nat) (az : List Int) (pt : Option Addr) (ct : Nat) (ts : List Int) (at0 : Int) (y : Nat) (w : World)
    (hkp : Bin w pk ks) (hks : Oct ks) (hck : ks.length ≤ ck) (hnp : Bin w pn ns) (hns : Oct ns) (hcn : ns.length ≤ cn) (hap : Bin w pa az) (has : Oct az) (hca : az.length ≤ ca) (htp : Bin w pt ts) (hts : Oct ts) (hct : ts.length ≤ ct) (hy : y < 256) :
    Calls Try.prog 7 #[.agg #[.slice pk ks.length ck, .slice pn ns.length cn, .slice pa az.length ca, .slice pt ts.length ct, .int .i64 at0, .int .u8 (y : Nat)]] w fun e w' => e = .returned (.bool true) ∧ Below w.heap.size w w' := by
  obtain ⟨nk, hnk⟩ : ∃ n, n = ks.length := ⟨_, rfl⟩
  obtain ⟨nn, hnn⟩ : ∃ n, n = ns.length := ⟨_, rfl⟩
  obtain ⟨na, hna⟩ : ∃ n, n = az.length := ⟨_, rfl⟩
  obtain ⟨nt, hnt⟩ : ∃ n, n = ts.length := ⟨_, rfl⟩
  rw [← hnk] at hck ⊢
  rw [← hnn] at hcn ⊢
  rw [← hna] at hca ⊢
  rw [← hnt] at hct ⊢
  have HK := hid hnk.symm
  have HN := hid hnn.symm
  have HA := hid hna.symm
  have HT := hid hnt.symm
  obtain ⟨i0, hi, hz0, hz1, hz2⟩ := info_parts Try.infoU8
  obtain ⟨w1, hw1⟩ : ∃ wa, Hid (wa = w.alloc (.cells #[.slice pk nk ck, .slice pn nn cn, .slice pa na ca, .slice pt nt ct, .int .i64 at0, .int .u8 (y : Nat)] 35)) := ⟨_, rfl⟩
  have HS : Hid (Six w1 w.heap.size (.slice pk nk ck) (.slice pn nn cn) (.slice pa na ca) (.slice pt nt ct) (.int .i64 at0) (.int .u8 (y : Nat))) := hid (by rw [hw1.out]; exact six_new _ _ _ _ _ _ _ _)
  have hBw : Hid (Below w.heap.size w w1) := hid (by rw [hw1.out]; exact (Below.refl _ _).alloc (Nat.le_refl _) _)
  have KP := hid (hkp.below hBw.out)
  have NP := hid (hnp.below hBw.out)
  have AP := hid (hap.below hBw.out)
  have TP := hid (htp.below hBw.out)
  clear hnk hnn hna hnt hkp hnp hap htp
  obtain ⟨g0, hg0⟩ : ∃ g, Hid (g = w.heap.size) := ⟨_, rfl⟩
  rw [← hg0.out] at HS
  have hmay := refMay6_any pk pn ck cn nk nn w1
  by_cases hm : mayN nk nn = false
  · rw [hm] at hmay
    go_enter Try.func7, Try.ntmps7
    go_upto_region 1 with fail
    rw [← hw1.out, ← hg0.out]
    obtain ⟨c0, c1, c2, c3, c4, c5⟩ := HS.out
    go_wp2_with fail
    refine hmay.mono ?_
    rintro e w' ⟨rfl, rfl⟩
    clear hmay
    go_wp2_with fail
    refine (known6_any _).mono ?_
    rintro e wk ⟨rfl, hbk⟩
    go_wp2_with fail
    go_ret
    exact ⟨rfl, (hBw.out).trans (hbk.mono (hBw.out).size)⟩
  · rw [show mayN nk nn = true from by simpa using hm] at hmay
    by_cases ha : 400 < na
    · have i1 : (400 : Int) < (na : Int) := by omega
      go_enter Try.func7, Try.ntmps7
      go_upto_region 1 with fail
      rw [← hw1.out, ← hg0.out]
      obtain ⟨c0, c1, c2, c3, c4, c5⟩ := HS.out
      go_wp2_with fail
      refine hmay.mono ?_
      rintro e w' ⟨rfl, rfl⟩
      clear hmay
      go_wp2_with fail
      refine (known6_any _).mono ?_
      rintro e wk ⟨rfl, hbk⟩
      go_wp2_with fail
      go_ret
      exact ⟨rfl, (hBw.out).trans (hbk.mono (hBw.out).size)⟩
    · have i1 : ¬ (400 : Int) < (na : Int) := by omega
      by_cases ht : 400 < nt
      · have i2 : (400 : Int) < (nt : Int) := by omega
        go_enter Try.func7, Try.ntmps7
        go_upto_region 1 with fail
        rw [← hw1.out, ← hg0.out]
        obtain ⟨c0, c1, c2, c3, c4, c5⟩ := HS.out
        go_wp2_with fail
        refine hmay.mono ?_
        rintro e w' ⟨rfl, rfl⟩
        clear hmay
        go_wp2_with fail
        refine (known6_any _).mono ?_
        rintro e wk ⟨rfl, hbk⟩
        go_wp2_with fail
        go_ret
        exact ⟨rfl, (hBw.out).trans (hbk.mono (hBw.out).size)⟩
      · have i2 : ¬ (400 : Int) < (nt : Int) := by omega
        obtain ⟨hk, hn12⟩ := mayN_yes (show mayN nk nn = true from by simpa using hm)
        subst hn12
        clear hm
        have hse := seal_of pk pn pa pt ck cn ca ct nk na nt ks ns az ts w1 KP.out hks HK.out hk hck NP.out hns HN.out hcn AP.out has HA.out hca TP.out hts HT.out hct (by omega) (by omega)
        obtain ⟨L, HLL⟩ : ∃ L, Hid (L = na + (nt + 16)) := ⟨_, rfl⟩
        obtain ⟨E, hE⟩ : ∃ E, Hid (E = keyE nk ks) := ⟨_, rfl⟩
        have oE := hid (keyE_lt hks (nk := nk))
        have OPN := hid (fun w' h1 h2 (pa : Option Addr) (ca na : Nat) (az : List Int) h3 ha1 ha2 hca (pb : Option Addr) (cb n : Nat) (bs : List Int) hb1 hb2 hb3 hcb hna hnn => open_of pk pn pa pb ck cn ca cb nk na n ks ns az bs w' h1 hks HK.out hk hck h2 hns HN.out hcn h3 ha1 ha2 hca hb1 hb2 hb3 hcb hna hnn)
        have RPN := hid (fun w' h1 h2 (pa : Option Addr) (ca na : Nat) (az : List Int) h3 ha1 ha2 (pb : Option Addr) (cb n : Nat) (bs : List Int) hb1 hb2 hb3 hcb hna hnn => refOpen_of pk pn pa pb ck cn ca cb nk na n ks ns az bs w' h1 hks HK.out hk h2 hns HN.out h3 ha1 ha2 hb1 hb2 hb3 hcb hna hnn)
        rw [← hE.out] at hse oE OPN RPN
        obtain ⟨X, hX⟩ : ∃ X, Hid (X = sealL E ns az ts) := ⟨_, rfl⟩
        have LX := hid (show X.length = nt + 16 from by rw [hX.out, sealL_length, HT.out])
        have OX := hid (show Oct X from by rw [hX.out]; exact sealL_oct az oE.out hns hts)
        rw [← hX.out] at hse
        have OP1 : Hid (∀ w' (p2 : Option Addr) (c2 : Nat), Below w1.heap.size w1 w' → Bin w' p2 X → nt + 16 ≤ c2 → Calls Try.prog 22 #[.slice pk nk ck, .slice pn (12 : Nat) cn, .slice pa na ca, .slice p2 (nt + 16 : Nat) c2] w' fun e w2 =>
            ∃ v, e = .returned (.tuple #[v, .int .i64 0]) ∧ Own w'.heap.size w2 v nt ts ∧ Below w'.heap.size w' w2) := hid (fun w' p2 c2 hb hp hc => by
          refine (OPN.out w' (KP.out.below hb) (NP.out.below hb) pa ca na az (AP.out.below hb) has HA.out hca p2 c2 nt X hp OX.out LX.out hc (by omega) (by omega)).mono ?_
          rintro e w2 ⟨_, h2, h3⟩
          obtain ⟨v, he, ho⟩ := h2 (by rw [hX.out]; exact seal_holds _ _ _ _)
          rw [show nt = X.length - 16 from by rw [LX.out]; omega] at ho
          rw [hX.out, seal_open hts, ← hX.out, show X.length - 16 = nt from by rw [LX.out]; omega] at ho
          exact ⟨v, he, ho, h3⟩)
        go_enter Try.func7, Try.ntmps7
        go_upto_region 1 with fail
        rw [← hw1.out, ← hg0.out]
        obtain ⟨c0, c1, c2, c3, c4, c5⟩ := HS.out
        go_wp2_with fail
        refine hmay.mono ?_
        rintro e w' ⟨rfl, rfl⟩
        clear hmay
        go_wp2_with fail
        refine hse.mono ?_
        rintro e w2 ⟨v2, rfl, hv2, hb2⟩
        clear hse
        clear c0 c1 c2 c3 c4 c5
        obtain ⟨p2, c2', rfl, q2, vb2⟩ := hv2.bin
        have HS2 := hid (HS.out.below hb2)
        have hop := OP1.out w2 p2 c2' hb2 vb2 q2
        have HB2 := hid hb2
        have VB2 := hid vb2
        clear hv2 hb2 vb2
        obtain ⟨c0, c1, c2, c3, c4, c5⟩ := HS2.out
        go_wp2_with fail
        refine hop.mono ?_
        rintro e w3 ⟨v3, rfl, hv3, hb3⟩
        clear hop
        clear c0 c1 c2 c3 c4 c5
        obtain ⟨p3, c3', rfl, _, vb3⟩ := hv3.bin
        have HS3 := hid (HS2.out.below hb3)
        have HB3 := hid (HB2.out.trans (hb3.mono HB2.out.size))
        have VB3 := hid (VB2.out.below hb3)
        clear hv3 hb3
        obtain ⟨c0, c1, c2, c3, c4, c5⟩ := HS3.out
        go_wp2_with fail
        refine (refSame_yes _ _ _ _ nt ts _ HT.out vb3 (TP.out.below HB3.out) hts).mono ?_
        rintro e w' ⟨rfl, rfl⟩
        clear vb3
        have e1 : (((nt + 16 : Nat) : Int) != (nt : Int) + 16) = false := by simp
        go_wp2_with fail
        refine (copy_at pa ca na az w3 (AP.out.below HB3.out) HA.out (by omega)).mono ?_
        rintro e w4 ⟨g4, c4', rfl, hO4, a1, ab, hb4⟩
        clear c0 c1 c2 c3 c4 c5
        clear e1
        have HO4 := hid hO4
        have HB4 := hid (HB3.out.trans (hb4.mono HB3.out.size))
        have VB4 := hid (VB3.out.below hb4)
        have HS4 := hid (HS3.out.below hb4)
        have hs34 := hb4.size
        clear hO4 ab hb4
        go_upto_region 8 with (at_builtin; refine wpList_append_bin rfl (.tmp 79) (.tmp 80) 22 rfl i0 Try.underlying22 hi hz0 hz1 hz2 w3.heap.size _ na _ rfl (by exact HO4.out) p2 (nt + 16) c2' X rfl LX.out (by exact VB4.out) (by omega) hs34 ?_; intro p5 c5' w5 hO5 hg5 _)
        have hO5' : Own w3.heap.size w5 (.slice p5 (na + (nt + 16)) c5') (na + (nt + 16)) (az ++ X) := hO5
        have hb5 : Below w3.heap.size w4 w5 := (Below.refl _ _).grown hg5 hs34 (fun q hq => (World.ownsRow.lt HO4.out q hq).1)
        have HS5 := hid (HS4.out.below' HS3.out.lt hb5)
        have HB5 := hid (HB4.out.trans (hb5.mono HB3.out.size))
        rw [← HLL.out] at hO5' ⊢
        obtain ⟨g5, q5, rfl, hge5⟩ : ∃ g, L ≤ c5' ∧ p5 = some ⟨g, 0, none⟩ ∧ w3.heap.size ≤ g := by
          rcases hO5'.shape with ⟨_, h0⟩ | ⟨g, cap, hv, h1, h2⟩
          · have := HLL.out; omega
          · injection hv with e1 _ e3
            exact ⟨g, by omega, e1, h1⟩
        have HO5 := hid hO5'
        have hs5 := HB3.out.size
        have lg0 := HS3.out.lt
        clear hO5 hO5' hg5 hb5 hs34 a1 HO4 HB4 VB4 HS4 HB2 HS2 VB2 VB3
        have LALL := hid (show (az ++ X).length = L from by rw [List.length_append, HA.out, LX.out, HLL.out])
        have OALL := hid (has.append OX.out)
        obtain ⟨ALL, hALL⟩ : ∃ A, Hid (A = az ++ X) := ⟨_, rfl⟩
        rw [← hALL.out] at LALL OALL HO5
        obtain ⟨N, hN⟩ : ∃ N : Nat, Hid (N = if 0 < at0 then (at0 % (L : Int)).toNat else 0) := ⟨_, rfl⟩
        have hNL : N < L := by
          rw [hN.out]
          split
          · have := Int.emod_lt_of_pos at0 (show (0 : Int) < (L : Int) from by have := HLL.out; omega)
            have := HLL.out
            omega
          · have := HLL.out; omega
        obtain ⟨c0, c1, c2, c3, c4, c5⟩ := HS5.out
        go_upto_if 84 with fail
        go_cut [8] from 85 to 89 (fun s8 wx => s8 = .int .i64 (N : Int) ∧ wx = w5)
        case first =>
          by_cases h : 0 < at0
          · have htm : at0.tmod (L : Int) = (N : Int) := by
              rw [Int.tmod_eq_emod_of_nonneg (by omega), hN.out, if_pos h]
              have := Int.emod_nonneg at0 (show (L : Int) ≠ 0 from by have := HLL.out; omega)
              omega
            have hw0 : ¬ ((L : Int) = 0) := by have := HLL.out; omega
            go_wp2_with fail
            go_meet
            exact ⟨rfl, rfl⟩
          · have hm0 : N = 0 := by rw [hN.out, if_neg h]
            go_wp2_with fail
            go_meet
            exact ⟨by rw [hm0]; rfl, rfl⟩
        case rest =>
          obtain ⟨rfl, hw⟩ := hcut
          rw [hw]
          clear hw
          have hcell := HO5.out.cellAt N hNL
          have hfz := HO5.out.frozenAt N
          rw [byt_at OALL.out N] at hcell
          have hx8 := xor8 (byt_lt OALL.out N) hy
          have kN : (N : Int) < (L : Int) := by omega
          have HST := hid (HO5.out.stored N ((byt ALL N ^^^ y : Nat) : Int))
          have HY0 := hid (show y = 0 → ALL.set N ((byt ALL N ^^^ y : Nat) : Int) = ALL from fun h => by rw [h, Nat.xor_zero, ← byt_at OALL.out N]; exact set_self ALL N (by rw [LALL.out]; exact hNL))
          have HOZ := hid (show Oct (ALL.set N ((byt ALL N ^^^ y : Nat) : Int)) from oct_set OALL.out N (xor_byte (byt_lt OALL.out N) hy))
          obtain ⟨ALL2, hALL2⟩ : ∃ A, Hid (A = ALL.set N ((byt ALL N ^^^ y : Nat) : Int)) := ⟨_, rfl⟩
          have LALL2 := hid (show ALL2.length = L from by rw [hALL2.out, List.length_set, LALL.out])
          rw [← hALL2.out] at HST HY0 HOZ
          generalize byt ALL N ^^^ y = z at hx8 HST
          generalize byt ALL N = bz at hcell hx8
          clear hALL2
          go_upto_region 11 with fail
          go_cut [8] (fun s8 wx => s8 = .int .i64 (N : Int) ∧ Own w3.heap.size wx (.slice (some ⟨g5, 0, none⟩) L c5') L ALL2 ∧ Six wx g0 (.slice pk nk ck) (.slice pn (12 : Nat) cn) (.slice pa na ca) (.slice pt nt ct) (.int .i64 at0) (.int .u8 (y : Nat)) ∧ Below w1.heap.size w1 wx)
          case first =>
            go_region
            go_wp2_with fail
            go_meet
            refine ⟨rfl, World.ownsRow.drew HST.out, ?_, ?_⟩
            · have hq : Below w3.heap.size w5 (w5.setCell ⟨g5, N, none⟩ (.int .u8 (z : Nat))) := (Below.refl _ _).setCell hge5 _
              exact (HS5.out.below' lg0 hq).below' lg0 (Below.refl _ _).drew
            · exact (HB5.out.drew.setCell (show w1.heap.size ≤ g5 from by omega) _)
          case rest =>
            obtain ⟨rfl, hO6, hS6, hB6⟩ := hcut
            obtain ⟨wx, rfl⟩ : ∃ wx, wx = wc := ⟨_, rfl⟩
            have SXC := hid hS6
            have HBX := hid (hBw.out.trans (hB6.mono hBw.out.size))
            have KPC := hid (KP.out.below hB6)
            have NPC := hid (NP.out.below hB6)
            have hb6 := hO6.slice.2.2
            have BTA := hid (bin_take hb6 na)
            have BTB := hid (show Bin wx (some ⟨g5, na, none⟩) (ALL2.drop na) from by have := bin_drop hb6 na; rwa [Nat.zero_add] at this)
            have LTA := hid (show (ALL2.take na).length = na from by have := HLL.out; rw [List.length_take, LALL2.out]; omega)
            have LTB := hid (show (ALL2.drop na).length = nt + 16 from by have := HLL.out; rw [List.length_drop, LALL2.out]; omega)
            have OTA := hid (HOZ.out.take na)
            have OTB := hid (HOZ.out.drop na)
            have k1 : (na : Int) ≤ (L : Int) := by have := HLL.out; omega
            have k2 : (na : Int) ≤ (c5' : Int) := by have := HLL.out; omega
            have k3 : ¬ c5' = na := by have := HLL.out; omega
            obtain ⟨M, hM⟩ : ∃ M, Hid (M = nt + 16) := ⟨_, rfl⟩
            have HLM := hid (show L - na = M from by have := HLL.out; have := hM.out; omega)
            clear hO6 hS6 hB6 hb6 hcell hfz hx8 c0 c1 c2 c3 c4 c5
            cases hho : holdsB E ns (ALL2.take na) (ALL2.drop na)
            · have hh := hid hho
              clear hho
              have hy0 : y ≠ 0 := fun h => by
                have h2 := hh.out
                rw [HY0.out h, hALL.out, List.take_left' HA.out, List.drop_left' HA.out, hX.out, seal_holds] at h2
                cases h2
              have ey : ((y : Int) != 0) = true := by simp; omega
              have OPX : Hid (∀ w', Below wx.heap.size wx w' → Calls Try.prog 22 #[.slice pk nk ck, .slice pn (12 : Nat) cn, .slice (some ⟨g5, 0, none⟩) na c5', .slice (some ⟨g5, na, none⟩) M (c5' - na)] w' fun e w2 => e = .returned (.tuple #[.slice none 0 0, .int .i64 60]) ∧ Below w'.heap.size w' w2) := hid (fun w' hb => by
                rw [hM.out]
                refine (OPN.out w' (KPC.out.below hb) (NPC.out.below hb) (some ⟨g5, 0, none⟩) c5' na _ (BTA.out.below hb) OTA.out LTA.out (by have := HLL.out; omega) (some ⟨g5, na, none⟩) (c5' - na) nt _ (BTB.out.below hb) OTB.out LTB.out (by have := HLL.out; omega) (by omega) (by omega)).mono ?_
                rintro e w2 ⟨h1, _, h3⟩
                exact ⟨h1 hh.out, h3⟩)
              have RPX : Hid (∀ w', Below wx.heap.size wx w' → Calls Try.prog 23 #[.slice pk nk ck, .slice pn (12 : Nat) cn, .slice (some ⟨g5, 0, none⟩) na c5', .slice (some ⟨g5, na, none⟩) M (c5' - na)] w' fun e w2 => e = .returned (.tuple #[.slice none 0 0, .int .i64 60]) ∧ Below w'.heap.size w' w2) := hid (fun w' hb => by
                rw [hM.out]
                refine (RPN.out w' (KPC.out.below hb) (NPC.out.below hb) (some ⟨g5, 0, none⟩) c5' na _ (BTA.out.below hb) OTA.out LTA.out (some ⟨g5, na, none⟩) (c5' - na) nt _ (BTB.out.below hb) OTB.out LTB.out (by have := HLL.out; omega) (by omega) (by omega)).mono ?_
                rintro e w2 ⟨h1, _, h3⟩
                exact ⟨h1 hh.out, h3⟩)
              go_upto_region 12 with fail
              go_cut [9, 10] (fun s t wq => s = .slice none 0 0 ∧ t = .int .i64 60 ∧ Below wx.heap.size wx wq)
              case first =>
                have hSd : Below wx.heap.size wx wx.drew := (Below.refl _ _).drew
                refine wp_region_z (fun v => Below wx.heap.size wx v) 20 (by kernel_rfl) hSd (fun hS => ?_)
                clear hSd
                generalize World.drew _ = w9 at hS ⊢
                refine wpAnyZ_take (i := 0) (v := .pointer (some ⟨g0, 0, none⟩)) rfl (by kernel_rfl) (by kernel_rfl) (by kernel_rfl) (by kernel_rfl) (fun _ _ _ h => h) hS (Or.inl ⟨by kernel_rfl, fun w hS => (by clear hS; go_simp)⟩) ?_
                simp only [Act.put, List.setIfInBounds_toArray, List.set_cons_zero, List.set_cons_succ]
                refine wpAnyZ_take (i := 1) (v := .slice pk nk ck) rfl (by kernel_rfl) (by kernel_rfl) (by kernel_rfl) (by kernel_rfl) (fun _ _ _ h => h) hS (Or.inl ⟨by kernel_rfl, fun w hS => (by have hc := (SXC.out.below hS).c0; clear hS; go_simp)⟩) ?_
                simp only [Act.put, List.setIfInBounds_toArray, List.set_cons_zero, List.set_cons_succ]
                refine wpAnyZ_take (i := 2) (v := .pointer (some ⟨g0, 1, none⟩)) rfl (by kernel_rfl) (by kernel_rfl) (by kernel_rfl) (by kernel_rfl) (fun _ _ _ h => h) hS (Or.inl ⟨by kernel_rfl, fun w hS => (by clear hS; go_simp)⟩) ?_
                simp only [Act.put, List.setIfInBounds_toArray, List.set_cons_zero, List.set_cons_succ]
                refine wpAnyZ_take (i := 3) (v := .slice pn (12 : Nat) cn) rfl (by kernel_rfl) (by kernel_rfl) (by kernel_rfl) (by kernel_rfl) (fun _ _ _ h => h) hS (Or.inl ⟨by kernel_rfl, fun w hS => (by have hc := (SXC.out.below hS).c1; clear hS; go_simp)⟩) ?_
                simp only [Act.put, List.setIfInBounds_toArray, List.set_cons_zero, List.set_cons_succ]
                refine wpAnyZ_take (i := 4) (v := .slice (some ⟨g5, 0, none⟩) L c5') rfl (by kernel_rfl) (by kernel_rfl) (by kernel_rfl) (by kernel_rfl) (fun _ _ _ h => h) hS (Or.inl ⟨by kernel_rfl, fun w hS => (by clear hS; go_simp)⟩) ?_
                simp only [Act.put, List.setIfInBounds_toArray, List.set_cons_zero, List.set_cons_succ]
                refine wpAnyZ_take (i := 5) (v := .pointer (some ⟨g0, 2, none⟩)) rfl (by kernel_rfl) (by kernel_rfl) (by kernel_rfl) (by kernel_rfl) (fun _ _ _ h => h) hS (Or.inl ⟨by kernel_rfl, fun w hS => (by clear hS; go_simp)⟩) ?_
                simp only [Act.put, List.setIfInBounds_toArray, List.set_cons_zero, List.set_cons_succ]
                refine wpAnyZ_take (i := 6) (v := .slice pa na ca) rfl (by kernel_rfl) (by kernel_rfl) (by kernel_rfl) (by kernel_rfl) (fun _ _ _ h => h) hS (Or.inl ⟨by kernel_rfl, fun w hS => (by have hc := (SXC.out.below hS).c2; clear hS; go_simp)⟩) ?_
                simp only [Act.put, List.setIfInBounds_toArray, List.set_cons_zero, List.set_cons_succ]
                refine wpAnyZ_take (i := 7) (v := .int .i64 (na : Int)) rfl (by kernel_rfl) (by kernel_rfl) (by kernel_rfl) (by kernel_rfl) (fun _ _ _ h => h) hS (Or.inl ⟨by kernel_rfl, fun w hS => (by clear hS; go_simp)⟩) ?_
                simp only [Act.put, List.setIfInBounds_toArray, List.set_cons_zero, List.set_cons_succ]
                refine wpAnyZ_take (i := 8) (v := .slice (some ⟨g5, 0, none⟩) na c5') rfl (by kernel_rfl) (by kernel_rfl) (by kernel_rfl) (by kernel_rfl) (fun _ _ _ h => h) hS (Or.inl ⟨by kernel_rfl, fun w hS => (by clear hS; go_simp)⟩) ?_
                simp only [Act.put, List.setIfInBounds_toArray, List.set_cons_zero, List.set_cons_succ]
                refine wpAnyZ_take (i := 9) (v := .slice (some ⟨g5, 0, none⟩) L c5') rfl (by kernel_rfl) (by kernel_rfl) (by kernel_rfl) (by kernel_rfl) (fun _ _ _ h => h) hS (Or.inl ⟨by kernel_rfl, fun w hS => (by clear hS; go_simp)⟩) ?_
                simp only [Act.put, List.setIfInBounds_toArray, List.set_cons_zero, List.set_cons_succ]
                refine wpAnyZ_take (i := 10) (v := .pointer (some ⟨g0, 2, none⟩)) rfl (by kernel_rfl) (by kernel_rfl) (by kernel_rfl) (by kernel_rfl) (fun _ _ _ h => h) hS (Or.inl ⟨by kernel_rfl, fun w hS => (by clear hS; go_simp)⟩) ?_
                simp only [Act.put, List.setIfInBounds_toArray, List.set_cons_zero, List.set_cons_succ]
                refine wpAnyZ_take (i := 11) (v := .slice pa na ca) rfl (by kernel_rfl) (by kernel_rfl) (by kernel_rfl) (by kernel_rfl) (fun _ _ _ h => h) hS (Or.inl ⟨by kernel_rfl, fun w hS => (by have hc := (SXC.out.below hS).c2; clear hS; go_simp)⟩) ?_
                simp only [Act.put, List.setIfInBounds_toArray, List.set_cons_zero, List.set_cons_succ]
                refine wpAnyZ_take (i := 12) (v := .int .i64 (na : Int)) rfl (by kernel_rfl) (by kernel_rfl) (by kernel_rfl) (by kernel_rfl) (fun _ _ _ h => h) hS (Or.inl ⟨by kernel_rfl, fun w hS => (by clear hS; go_simp)⟩) ?_
                simp only [Act.put, List.setIfInBounds_toArray, List.set_cons_zero, List.set_cons_succ]
                refine wpAnyZ_take (i := 13) (v := .slice (some ⟨g5, na, none⟩) M (c5' - na)) rfl (by kernel_rfl) (by kernel_rfl) (by kernel_rfl) (by kernel_rfl) (fun _ _ _ h => h) hS (Or.inl ⟨by kernel_rfl, fun w hS => (by clear hS; have hLM := HLM.out; go_simp)⟩) ?_
                simp only [Act.put, List.setIfInBounds_toArray, List.set_cons_zero, List.set_cons_succ]
                refine wpAnyZ_one (i := 14) (by kernel_rfl) rfl (fun K hK => ?_)
                go_simp
                go_at_call 22
                refine (OPX.out _ hS).mono ?_
                rintro e v8 ⟨rfl, hb8⟩
                go_wp2_with fail
                refine hK.out _ _ (fun _ => hS.trans (hb8.mono hS.size)) ?_
                replace hS := hS.trans (hb8.mono hS.size)
                clear hK K hb8
                try simp only [Act.put, List.setIfInBounds_toArray, List.set_cons_zero, List.set_cons_succ]
                refine wpAnyZ_take (i := 15) (v := .tuple #[.slice none 0 0, .int .i64 60]) rfl (by kernel_rfl) (by kernel_rfl) (by kernel_rfl) (by kernel_rfl) (fun _ _ _ h => h) hS (Or.inl ⟨by kernel_rfl, fun w hS => (by clear hS; go_simp)⟩) ?_
                simp only [Act.put, List.setIfInBounds_toArray, List.set_cons_zero, List.set_cons_succ]
                refine wpAnyZ_take (i := 16) (v := .slice none 0 0) rfl (by kernel_rfl) (by kernel_rfl) (by kernel_rfl) (by kernel_rfl) (fun _ _ _ h => h) hS (Or.inl ⟨by kernel_rfl, fun w hS => (by clear hS; go_simp)⟩) ?_
                simp only [Act.put, List.setIfInBounds_toArray, List.set_cons_zero, List.set_cons_succ]
                refine wpAnyZ_take (i := 17) (v := .int .i64 60) rfl (by kernel_rfl) (by kernel_rfl) (by kernel_rfl) (by kernel_rfl) (fun _ _ _ h => h) hS (Or.inl ⟨by kernel_rfl, fun w hS => (by clear hS; go_simp)⟩) ?_
                simp only [Act.put, List.setIfInBounds_toArray, List.set_cons_zero, List.set_cons_succ]
                refine wpAnyZ_one (i := 18) (by kernel_rfl) rfl (fun K hK => ?_)
                go_simp
                refine hK.out _ _ (fun _ => hS) ?_
                clear hK K
                try simp only [Act.put, List.setIfInBounds_toArray, List.set_cons_zero, List.set_cons_succ]
                refine wpAnyZ_one (i := 19) (by kernel_rfl) rfl (fun K hK => ?_)
                go_simp
                refine hK.out _ _ (fun _ => hS) ?_
                clear hK K
                try simp only [Act.put, List.setIfInBounds_toArray, List.set_cons_zero, List.set_cons_succ]
                refine wpAnyZ_done (by kernel_rfl) ?_ _
                go_wp2_with fail
                go_meet
                exact ⟨rfl, rfl, hS⟩
              case rest =>
                obtain ⟨rfl, rfl, hS8⟩ := hcut
                obtain ⟨wy, rfl⟩ : ∃ wy, wy = wc := ⟨_, rfl⟩
                have SXD := hid (SXC.out.below hS8)
                have HS8 := hid hS8
                clear hS8
                go_upto_region 13 with fail
                go_cut [11, 12] (fun s t wq => s = .slice none 0 0 ∧ t = .int .i64 60 ∧ Below wy.heap.size wy wq)
                case first =>
                  have hSd : Below wy.heap.size wy wy.drew := (Below.refl _ _).drew
                  refine wp_region_z (fun v => Below wy.heap.size wy v) 20 (by kernel_rfl) hSd (fun hS => ?_)
                  clear hSd
                  generalize World.drew _ = w9 at hS ⊢
                  refine wpAnyZ_take (i := 0) (v := .pointer (some ⟨g0, 0, none⟩)) rfl (by kernel_rfl) (by kernel_rfl) (by kernel_rfl) (by kernel_rfl) (fun _ _ _ h => h) hS (Or.inl ⟨by kernel_rfl, fun w hS => (by clear hS; go_simp)⟩) ?_
                  simp only [Act.put, List.setIfInBounds_toArray, List.set_cons_zero, List.set_cons_succ]
                  refine wpAnyZ_take (i := 1) (v := .slice pk nk ck) rfl (by kernel_rfl) (by kernel_rfl) (by kernel_rfl) (by kernel_rfl) (fun _ _ _ h => h) hS (Or.inl ⟨by kernel_rfl, fun w hS => (by have hc := (SXD.out.below hS).c0; clear hS; go_simp)⟩) ?_
                  simp only [Act.put, List.setIfInBounds_toArray, List.set_cons_zero, List.set_cons_succ]
                  refine wpAnyZ_take (i := 2) (v := .pointer (some ⟨g0, 1, none⟩)) rfl (by kernel_rfl) (by kernel_rfl) (by kernel_rfl) (by kernel_rfl) (fun _ _ _ h => h) hS (Or.inl ⟨by kernel_rfl, fun w hS => (by clear hS; go_simp)⟩) ?_
                  simp only [Act.put, List.setIfInBounds_toArray, List.set_cons_zero, List.set_cons_succ]
                  refine wpAnyZ_take (i := 3) (v := .slice pn (12 : Nat) cn) rfl (by kernel_rfl) (by kernel_rfl) (by kernel_rfl) (by kernel_rfl) (fun _ _ _ h => h) hS (Or.inl ⟨by kernel_rfl, fun w hS => (by have hc := (SXD.out.below hS).c1; clear hS; go_simp)⟩) ?_
                  simp only [Act.put, List.setIfInBounds_toArray, List.set_cons_zero, List.set_cons_succ]
                  refine wpAnyZ_take (i := 4) (v := .slice (some ⟨g5, 0, none⟩) L c5') rfl (by kernel_rfl) (by kernel_rfl) (by kernel_rfl) (by kernel_rfl) (fun _ _ _ h => h) hS (Or.inl ⟨by kernel_rfl, fun w hS => (by clear hS; go_simp)⟩) ?_
                  simp only [Act.put, List.setIfInBounds_toArray, List.set_cons_zero, List.set_cons_succ]
                  refine wpAnyZ_take (i := 5) (v := .pointer (some ⟨g0, 2, none⟩)) rfl (by kernel_rfl) (by kernel_rfl) (by kernel_rfl) (by kernel_rfl) (fun _ _ _ h => h) hS (Or.inl ⟨by kernel_rfl, fun w hS => (by clear hS; go_simp)⟩) ?_
                  simp only [Act.put, List.setIfInBounds_toArray, List.set_cons_zero, List.set_cons_succ]
                  refine wpAnyZ_take (i := 6) (v := .slice pa na ca) rfl (by kernel_rfl) (by kernel_rfl) (by kernel_rfl) (by kernel_rfl) (fun _ _ _ h => h) hS (Or.inl ⟨by kernel_rfl, fun w hS => (by have hc := (SXD.out.below hS).c2; clear hS; go_simp)⟩) ?_
                  simp only [Act.put, List.setIfInBounds_toArray, List.set_cons_zero, List.set_cons_succ]
                  refine wpAnyZ_take (i := 7) (v := .int .i64 (na : Int)) rfl (by kernel_rfl) (by kernel_rfl) (by kernel_rfl) (by kernel_rfl) (fun _ _ _ h => h) hS (Or.inl ⟨by kernel_rfl, fun w hS => (by clear hS; go_simp)⟩) ?_
                  simp only [Act.put, List.setIfInBounds_toArray, List.set_cons_zero, List.set_cons_succ]
                  refine wpAnyZ_take (i := 8) (v := .slice (some ⟨g5, 0, none⟩) na c5') rfl (by kernel_rfl) (by kernel_rfl) (by kernel_rfl) (by kernel_rfl) (fun _ _ _ h => h) hS (Or.inl ⟨by kernel_rfl, fun w hS => (by clear hS; go_simp)⟩) ?_
                  simp only [Act.put, List.setIfInBounds_toArray, List.set_cons_zero, List.set_cons_succ]
                  refine wpAnyZ_take (i := 9) (v := .slice (some ⟨g5, 0, none⟩) L c5') rfl (by kernel_rfl) (by kernel_rfl) (by kernel_rfl) (by kernel_rfl) (fun _ _ _ h => h) hS (Or.inl ⟨by kernel_rfl, fun w hS => (by clear hS; go_simp)⟩) ?_
                  simp only [Act.put, List.setIfInBounds_toArray, List.set_cons_zero, List.set_cons_succ]
                  refine wpAnyZ_take (i := 10) (v := .pointer (some ⟨g0, 2, none⟩)) rfl (by kernel_rfl) (by kernel_rfl) (by kernel_rfl) (by kernel_rfl) (fun _ _ _ h => h) hS (Or.inl ⟨by kernel_rfl, fun w hS => (by clear hS; go_simp)⟩) ?_
                  simp only [Act.put, List.setIfInBounds_toArray, List.set_cons_zero, List.set_cons_succ]
                  refine wpAnyZ_take (i := 11) (v := .slice pa na ca) rfl (by kernel_rfl) (by kernel_rfl) (by kernel_rfl) (by kernel_rfl) (fun _ _ _ h => h) hS (Or.inl ⟨by kernel_rfl, fun w hS => (by have hc := (SXD.out.below hS).c2; clear hS; go_simp)⟩) ?_
                  simp only [Act.put, List.setIfInBounds_toArray, List.set_cons_zero, List.set_cons_succ]
                  refine wpAnyZ_take (i := 12) (v := .int .i64 (na : Int)) rfl (by kernel_rfl) (by kernel_rfl) (by kernel_rfl) (by kernel_rfl) (fun _ _ _ h => h) hS (Or.inl ⟨by kernel_rfl, fun w hS => (by clear hS; go_simp)⟩) ?_
                  simp only [Act.put, List.setIfInBounds_toArray, List.set_cons_zero, List.set_cons_succ]
                  refine wpAnyZ_take (i := 13) (v := .slice (some ⟨g5, na, none⟩) M (c5' - na)) rfl (by kernel_rfl) (by kernel_rfl) (by kernel_rfl) (by kernel_rfl) (fun _ _ _ h => h) hS (Or.inl ⟨by kernel_rfl, fun w hS => (by clear hS; have hLM := HLM.out; go_simp)⟩) ?_
                  simp only [Act.put, List.setIfInBounds_toArray, List.set_cons_zero, List.set_cons_succ]
                  refine wpAnyZ_one (i := 14) (by kernel_rfl) rfl (fun K hK => ?_)
                  go_simp
                  go_at_call 23
                  refine (RPX.out _ (HS8.out.trans (hS.mono HS8.out.size))).mono ?_
                  rintro e v8 ⟨rfl, hb8⟩
                  go_wp2_with fail
                  refine hK.out _ _ (fun _ => hS.trans (hb8.mono hS.size)) ?_
                  replace hS := hS.trans (hb8.mono hS.size)
                  clear hK K hb8
                  try simp only [Act.put, List.setIfInBounds_toArray, List.set_cons_zero, List.set_cons_succ]
                  refine wpAnyZ_take (i := 15) (v := .tuple #[.slice none 0 0, .int .i64 60]) rfl (by kernel_rfl) (by kernel_rfl) (by kernel_rfl) (by kernel_rfl) (fun _ _ _ h => h) hS (Or.inl ⟨by kernel_rfl, fun w hS => (by clear hS; go_simp)⟩) ?_
                  simp only [Act.put, List.setIfInBounds_toArray, List.set_cons_zero, List.set_cons_succ]
                  refine wpAnyZ_take (i := 16) (v := .slice none 0 0) rfl (by kernel_rfl) (by kernel_rfl) (by kernel_rfl) (by kernel_rfl) (fun _ _ _ h => h) hS (Or.inl ⟨by kernel_rfl, fun w hS => (by clear hS; go_simp)⟩) ?_
                  simp only [Act.put, List.setIfInBounds_toArray, List.set_cons_zero, List.set_cons_succ]
                  refine wpAnyZ_take (i := 17) (v := .int .i64 60) rfl (by kernel_rfl) (by kernel_rfl) (by kernel_rfl) (by kernel_rfl) (fun _ _ _ h => h) hS (Or.inl ⟨by kernel_rfl, fun w hS => (by clear hS; go_simp)⟩) ?_
                  simp only [Act.put, List.setIfInBounds_toArray, List.set_cons_zero, List.set_cons_succ]
                  refine wpAnyZ_one (i := 18) (by kernel_rfl) rfl (fun K hK => ?_)
                  go_simp
                  refine hK.out _ _ (fun _ => hS) ?_
                  clear hK K
                  try simp only [Act.put, List.setIfInBounds_toArray, List.set_cons_zero, List.set_cons_succ]
                  refine wpAnyZ_one (i := 19) (by kernel_rfl) rfl (fun K hK => ?_)
                  go_simp
                  refine hK.out _ _ (fun _ => hS) ?_
                  clear hK K
                  try simp only [Act.put, List.setIfInBounds_toArray, List.set_cons_zero, List.set_cons_succ]
                  refine wpAnyZ_done (by kernel_rfl) ?_ _
                  go_wp2_with fail
                  go_meet
                  exact ⟨rfl, rfl, hS⟩
                case rest =>
                  obtain ⟨rfl, rfl, hS9⟩ := hcut
                  obtain ⟨wz, rfl⟩ : ∃ wz, wz = wc := ⟨_, rfl⟩
                  have SXE := hid (SXD.out.below hS9)
                  have HB9 := hid (HBX.out.trans ((HS8.out.trans (hS9.mono HS8.out.size)).mono HBX.out.size))
                  obtain ⟨c0, c1, c2, c3, c4, c5⟩ := SXE.out
                  have hsm := refSame_yes none none 0 0 0 [] wz rfl (Bin.nil _ _) (Bin.nil _ _) Oct.nil
                  clear hS9
                  go_wp2_with fail
                  refine hsm.mono ?_
                  rintro e w' ⟨rfl, rfl⟩
                  clear hsm
                  go_wp2_with fail
                  refine (known6_any _).mono ?_
                  rintro e wk ⟨rfl, hbk⟩
                  go_wp2_with fail
                  go_ret
                  exact ⟨rfl, (HB9.out).trans (hbk.mono (HB9.out).size)⟩
            · have hh := hid hho
              clear hho
              obtain ⟨TX, hTX⟩ : ∃ T, Hid (T = cry E (frs ns) ((ALL2.drop na).take nt)) := ⟨_, rfl⟩
              have LTX := hid (show TX.length = nt from by rw [hTX.out, cry_length, List.length_take, LTB.out]; omega)
              have OTX := hid (show Oct TX from by rw [hTX.out]; exact cry_oct oE.out (frs_lt hns) (OTB.out.take nt))
              have OPX : Hid (∀ w', Below wx.heap.size wx w' → Calls Try.prog 22 #[.slice pk nk ck, .slice pn (12 : Nat) cn, .slice (some ⟨g5, 0, none⟩) na c5', .slice (some ⟨g5, na, none⟩) M (c5' - na)] w' fun e w2 => ∃ v, e = .returned (.tuple #[v, .int .i64 0]) ∧ Own w'.heap.size w2 v nt TX ∧ Below w'.heap.size w' w2) := hid (fun w' hb => by
                rw [hM.out]
                refine (OPN.out w' (KPC.out.below hb) (NPC.out.below hb) (some ⟨g5, 0, none⟩) c5' na _ (BTA.out.below hb) OTA.out LTA.out (by have := HLL.out; omega) (some ⟨g5, na, none⟩) (c5' - na) nt _ (BTB.out.below hb) OTB.out LTB.out (by have := HLL.out; omega) (by omega) (by omega)).mono ?_
                rintro e w2 ⟨_, h2, h3⟩
                obtain ⟨v, he, ho⟩ := h2 hh.out
                exact ⟨v, he, by rw [hTX.out]; exact ho, h3⟩)
              have RPX : Hid (∀ w', Below wx.heap.size wx w' → Calls Try.prog 23 #[.slice pk nk ck, .slice pn (12 : Nat) cn, .slice (some ⟨g5, 0, none⟩) na c5', .slice (some ⟨g5, na, none⟩) M (c5' - na)] w' fun e w2 => ∃ v, e = .returned (.tuple #[v, .int .i64 0]) ∧ Own w'.heap.size w2 v nt TX ∧ Below w'.heap.size w' w2) := hid (fun w' hb => by
                rw [hM.out]
                refine (RPN.out w' (KPC.out.below hb) (NPC.out.below hb) (some ⟨g5, 0, none⟩) c5' na _ (BTA.out.below hb) OTA.out LTA.out (some ⟨g5, na, none⟩) (c5' - na) nt _ (BTB.out.below hb) OTB.out LTB.out (by have := HLL.out; omega) (by omega) (by omega)).mono ?_
                rintro e w2 ⟨_, h2, h3⟩
                obtain ⟨v, he, ho⟩ := h2 hh.out
                exact ⟨v, he, by rw [hTX.out]; exact ho, h3⟩)
              go_upto_region 12 with fail
              go_cut [9, 10] (fun s t wq => ∃ p8 c8, s = .slice p8 nt c8 ∧ t = .int .i64 0 ∧ Bin wq p8 TX ∧ Below wx.heap.size wx wq)
              case first =>
                have hSd : Below wx.heap.size wx wx.drew := (Below.refl _ _).drew
                refine wp_region_z (fun v => Below wx.heap.size wx v) 20 (by kernel_rfl) hSd (fun hS => ?_)
                clear hSd
                generalize World.drew _ = w9 at hS ⊢
                refine wpAnyZ_take (i := 0) (v := .pointer (some ⟨g0, 0, none⟩)) rfl (by kernel_rfl) (by kernel_rfl) (by kernel_rfl) (by kernel_rfl) (fun _ _ _ h => h) hS (Or.inl ⟨by kernel_rfl, fun w hS => (by clear hS; go_simp)⟩) ?_
                simp only [Act.put, List.setIfInBounds_toArray, List.set_cons_zero, List.set_cons_succ]
                refine wpAnyZ_take (i := 1) (v := .slice pk nk ck) rfl (by kernel_rfl) (by kernel_rfl) (by kernel_rfl) (by kernel_rfl) (fun _ _ _ h => h) hS (Or.inl ⟨by kernel_rfl, fun w hS => (by have hc := (SXC.out.below hS).c0; clear hS; go_simp)⟩) ?_
                simp only [Act.put, List.setIfInBounds_toArray, List.set_cons_zero, List.set_cons_succ]
                refine wpAnyZ_take (i := 2) (v := .pointer (some ⟨g0, 1, none⟩)) rfl (by kernel_rfl) (by kernel_rfl) (by kernel_rfl) (by kernel_rfl) (fun _ _ _ h => h) hS (Or.inl ⟨by kernel_rfl, fun w hS => (by clear hS; go_simp)⟩) ?_
                simp only [Act.put, List.setIfInBounds_toArray, List.set_cons_zero, List.set_cons_succ]
                refine wpAnyZ_take (i := 3) (v := .slice pn (12 : Nat) cn) rfl (by kernel_rfl) (by kernel_rfl) (by kernel_rfl) (by kernel_rfl) (fun _ _ _ h => h) hS (Or.inl ⟨by kernel_rfl, fun w hS => (by have hc := (SXC.out.below hS).c1; clear hS; go_simp)⟩) ?_
                simp only [Act.put, List.setIfInBounds_toArray, List.set_cons_zero, List.set_cons_succ]
                refine wpAnyZ_take (i := 4) (v := .slice (some ⟨g5, 0, none⟩) L c5') rfl (by kernel_rfl) (by kernel_rfl) (by kernel_rfl) (by kernel_rfl) (fun _ _ _ h => h) hS (Or.inl ⟨by kernel_rfl, fun w hS => (by clear hS; go_simp)⟩) ?_
                simp only [Act.put, List.setIfInBounds_toArray, List.set_cons_zero, List.set_cons_succ]
                refine wpAnyZ_take (i := 5) (v := .pointer (some ⟨g0, 2, none⟩)) rfl (by kernel_rfl) (by kernel_rfl) (by kernel_rfl) (by kernel_rfl) (fun _ _ _ h => h) hS (Or.inl ⟨by kernel_rfl, fun w hS => (by clear hS; go_simp)⟩) ?_
                simp only [Act.put, List.setIfInBounds_toArray, List.set_cons_zero, List.set_cons_succ]
                refine wpAnyZ_take (i := 6) (v := .slice pa na ca) rfl (by kernel_rfl) (by kernel_rfl) (by kernel_rfl) (by kernel_rfl) (fun _ _ _ h => h) hS (Or.inl ⟨by kernel_rfl, fun w hS => (by have hc := (SXC.out.below hS).c2; clear hS; go_simp)⟩) ?_
                simp only [Act.put, List.setIfInBounds_toArray, List.set_cons_zero, List.set_cons_succ]
                refine wpAnyZ_take (i := 7) (v := .int .i64 (na : Int)) rfl (by kernel_rfl) (by kernel_rfl) (by kernel_rfl) (by kernel_rfl) (fun _ _ _ h => h) hS (Or.inl ⟨by kernel_rfl, fun w hS => (by clear hS; go_simp)⟩) ?_
                simp only [Act.put, List.setIfInBounds_toArray, List.set_cons_zero, List.set_cons_succ]
                refine wpAnyZ_take (i := 8) (v := .slice (some ⟨g5, 0, none⟩) na c5') rfl (by kernel_rfl) (by kernel_rfl) (by kernel_rfl) (by kernel_rfl) (fun _ _ _ h => h) hS (Or.inl ⟨by kernel_rfl, fun w hS => (by clear hS; go_simp)⟩) ?_
                simp only [Act.put, List.setIfInBounds_toArray, List.set_cons_zero, List.set_cons_succ]
                refine wpAnyZ_take (i := 9) (v := .slice (some ⟨g5, 0, none⟩) L c5') rfl (by kernel_rfl) (by kernel_rfl) (by kernel_rfl) (by kernel_rfl) (fun _ _ _ h => h) hS (Or.inl ⟨by kernel_rfl, fun w hS => (by clear hS; go_simp)⟩) ?_
                simp only [Act.put, List.setIfInBounds_toArray, List.set_cons_zero, List.set_cons_succ]
                refine wpAnyZ_take (i := 10) (v := .pointer (some ⟨g0, 2, none⟩)) rfl (by kernel_rfl) (by kernel_rfl) (by kernel_rfl) (by kernel_rfl) (fun _ _ _ h => h) hS (Or.inl ⟨by kernel_rfl, fun w hS => (by clear hS; go_simp)⟩) ?_
                simp only [Act.put, List.setIfInBounds_toArray, List.set_cons_zero, List.set_cons_succ]
                refine wpAnyZ_take (i := 11) (v := .slice pa na ca) rfl (by kernel_rfl) (by kernel_rfl) (by kernel_rfl) (by kernel_rfl) (fun _ _ _ h => h) hS (Or.inl ⟨by kernel_rfl, fun w hS => (by have hc := (SXC.out.below hS).c2; clear hS; go_simp)⟩) ?_
                simp only [Act.put, List.setIfInBounds_toArray, List.set_cons_zero, List.set_cons_succ]
                refine wpAnyZ_take (i := 12) (v := .int .i64 (na : Int)) rfl (by kernel_rfl) (by kernel_rfl) (by kernel_rfl) (by kernel_rfl) (fun _ _ _ h => h) hS (Or.inl ⟨by kernel_rfl, fun w hS => (by clear hS; go_simp)⟩) ?_
                simp only [Act.put, List.setIfInBounds_toArray, List.set_cons_zero, List.set_cons_succ]
                refine wpAnyZ_take (i := 13) (v := .slice (some ⟨g5, na, none⟩) M (c5' - na)) rfl (by kernel_rfl) (by kernel_rfl) (by kernel_rfl) (by kernel_rfl) (fun _ _ _ h => h) hS (Or.inl ⟨by kernel_rfl, fun w hS => (by clear hS; have hLM := HLM.out; go_simp)⟩) ?_
                simp only [Act.put, List.setIfInBounds_toArray, List.set_cons_zero, List.set_cons_succ]
                refine wpAnyZ_one (i := 14) (by kernel_rfl) rfl (fun K hK => ?_)
                go_simp
                go_at_call 22
                refine (OPX.out _ hS).mono ?_
                rintro e v8 ⟨v, rfl, hv, hb8⟩
                obtain ⟨p8, c8, rfl, _, hvb⟩ := hv.bin
                have HV := hid hvb
                clear hv hvb
                go_wp2_with fail
                refine hK.out _ _ (fun _ => hS.trans (hb8.mono hS.size)) ?_
                replace hS := hS.trans (hb8.mono hS.size)
                clear hK K hb8
                try simp only [Act.put, List.setIfInBounds_toArray, List.set_cons_zero, List.set_cons_succ]
                refine wpAnyZ_take (i := 15) (v := .tuple #[.slice p8 nt c8, .int .i64 0]) rfl (by kernel_rfl) (by kernel_rfl) (by kernel_rfl) (by kernel_rfl) (fun _ _ _ h => h) hS (Or.inl ⟨by kernel_rfl, fun w hS => (by clear hS; go_simp)⟩) ?_
                simp only [Act.put, List.setIfInBounds_toArray, List.set_cons_zero, List.set_cons_succ]
                refine wpAnyZ_take (i := 16) (v := .slice p8 nt c8) rfl (by kernel_rfl) (by kernel_rfl) (by kernel_rfl) (by kernel_rfl) (fun _ _ _ h => h) hS (Or.inl ⟨by kernel_rfl, fun w hS => (by clear hS; go_simp)⟩) ?_
                simp only [Act.put, List.setIfInBounds_toArray, List.set_cons_zero, List.set_cons_succ]
                refine wpAnyZ_take (i := 17) (v := .int .i64 0) rfl (by kernel_rfl) (by kernel_rfl) (by kernel_rfl) (by kernel_rfl) (fun _ _ _ h => h) hS (Or.inl ⟨by kernel_rfl, fun w hS => (by clear hS; go_simp)⟩) ?_
                simp only [Act.put, List.setIfInBounds_toArray, List.set_cons_zero, List.set_cons_succ]
                refine wpAnyZ_one (i := 18) (by kernel_rfl) rfl (fun K hK => ?_)
                go_simp
                refine hK.out _ _ (fun _ => hS) ?_
                clear hK K
                try simp only [Act.put, List.setIfInBounds_toArray, List.set_cons_zero, List.set_cons_succ]
                refine wpAnyZ_one (i := 19) (by kernel_rfl) rfl (fun K hK => ?_)
                go_simp
                refine hK.out _ _ (fun _ => hS) ?_
                clear hK K
                try simp only [Act.put, List.setIfInBounds_toArray, List.set_cons_zero, List.set_cons_succ]
                refine wpAnyZ_done (by kernel_rfl) ?_ _
                go_wp2_with fail
                go_meet
                exact ⟨_, _, rfl, rfl, HV.out, hS⟩
              case rest =>
                obtain ⟨p8, c8, rfl, rfl, b8, hS8⟩ := hcut
                obtain ⟨wy, rfl⟩ : ∃ wy, wy = wc := ⟨_, rfl⟩
                have SXD := hid (SXC.out.below hS8)
                have HS8 := hid hS8
                have B8 := hid b8
                clear b8
                clear hS8
                go_upto_region 13 with fail
                go_cut [11, 12] (fun s t wq => ∃ p8 c8, s = .slice p8 nt c8 ∧ t = .int .i64 0 ∧ Bin wq p8 TX ∧ Below wy.heap.size wy wq)
                case first =>
                  have hSd : Below wy.heap.size wy wy.drew := (Below.refl _ _).drew
                  refine wp_region_z (fun v => Below wy.heap.size wy v) 20 (by kernel_rfl) hSd (fun hS => ?_)
                  clear hSd
                  generalize World.drew _ = w9 at hS ⊢
                  refine wpAnyZ_take (i := 0) (v := .pointer (some ⟨g0, 0, none⟩)) rfl (by kernel_rfl) (by kernel_rfl) (by kernel_rfl) (by kernel_rfl) (fun _ _ _ h => h) hS (Or.inl ⟨by kernel_rfl, fun w hS => (by clear hS; go_simp)⟩) ?_
                  simp only [Act.put, List.setIfInBounds_toArray, List.set_cons_zero, List.set_cons_succ]
                  refine wpAnyZ_take (i := 1) (v := .slice pk nk ck) rfl (by kernel_rfl) (by kernel_rfl) (by kernel_rfl) (by kernel_rfl) (fun _ _ _ h => h) hS (Or.inl ⟨by kernel_rfl, fun w hS => (by have hc := (SXD.out.below hS).c0; clear hS; go_simp)⟩) ?_
                  simp only [Act.put, List.setIfInBounds_toArray, List.set_cons_zero, List.set_cons_succ]
                  refine wpAnyZ_take (i := 2) (v := .pointer (some ⟨g0, 1, none⟩)) rfl (by kernel_rfl) (by kernel_rfl) (by kernel_rfl) (by kernel_rfl) (fun _ _ _ h => h) hS (Or.inl ⟨by kernel_rfl, fun w hS => (by clear hS; go_simp)⟩) ?_
                  simp only [Act.put, List.setIfInBounds_toArray, List.set_cons_zero, List.set_cons_succ]
                  refine wpAnyZ_take (i := 3) (v := .slice pn (12 : Nat) cn) rfl (by kernel_rfl) (by kernel_rfl) (by kernel_rfl) (by kernel_rfl) (fun _ _ _ h => h) hS (Or.inl ⟨by kernel_rfl, fun w hS => (by have hc := (SXD.out.below hS).c1; clear hS; go_simp)⟩) ?_
                  simp only [Act.put, List.setIfInBounds_toArray, List.set_cons_zero, List.set_cons_succ]
                  refine wpAnyZ_take (i := 4) (v := .slice (some ⟨g5, 0, none⟩) L c5') rfl (by kernel_rfl) (by kernel_rfl) (by kernel_rfl) (by kernel_rfl) (fun _ _ _ h => h) hS (Or.inl ⟨by kernel_rfl, fun w hS => (by clear hS; go_simp)⟩) ?_
                  simp only [Act.put, List.setIfInBounds_toArray, List.set_cons_zero, List.set_cons_succ]
                  refine wpAnyZ_take (i := 5) (v := .pointer (some ⟨g0, 2, none⟩)) rfl (by kernel_rfl) (by kernel_rfl) (by kernel_rfl) (by kernel_rfl) (fun _ _ _ h => h) hS (Or.inl ⟨by kernel_rfl, fun w hS => (by clear hS; go_simp)⟩) ?_
                  simp only [Act.put, List.setIfInBounds_toArray, List.set_cons_zero, List.set_cons_succ]
                  refine wpAnyZ_take (i := 6) (v := .slice pa na ca) rfl (by kernel_rfl) (by kernel_rfl) (by kernel_rfl) (by kernel_rfl) (fun _ _ _ h => h) hS (Or.inl ⟨by kernel_rfl, fun w hS => (by have hc := (SXD.out.below hS).c2; clear hS; go_simp)⟩) ?_
                  simp only [Act.put, List.setIfInBounds_toArray, List.set_cons_zero, List.set_cons_succ]
                  refine wpAnyZ_take (i := 7) (v := .int .i64 (na : Int)) rfl (by kernel_rfl) (by kernel_rfl) (by kernel_rfl) (by kernel_rfl) (fun _ _ _ h => h) hS (Or.inl ⟨by kernel_rfl, fun w hS => (by clear hS; go_simp)⟩) ?_
                  simp only [Act.put, List.setIfInBounds_toArray, List.set_cons_zero, List.set_cons_succ]
                  refine wpAnyZ_take (i := 8) (v := .slice (some ⟨g5, 0, none⟩) na c5') rfl (by kernel_rfl) (by kernel_rfl) (by kernel_rfl) (by kernel_rfl) (fun _ _ _ h => h) hS (Or.inl ⟨by kernel_rfl, fun w hS => (by clear hS; go_simp)⟩) ?_
                  simp only [Act.put, List.setIfInBounds_toArray, List.set_cons_zero, List.set_cons_succ]
                  refine wpAnyZ_take (i := 9) (v := .slice (some ⟨g5, 0, none⟩) L c5') rfl (by kernel_rfl) (by kernel_rfl) (by kernel_rfl) (by kernel_rfl) (fun _ _ _ h => h) hS (Or.inl ⟨by kernel_rfl, fun w hS => (by clear hS; go_simp)⟩) ?_
                  simp only [Act.put, List.setIfInBounds_toArray, List.set_cons_zero, List.set_cons_succ]
                  refine wpAnyZ_take (i := 10) (v := .pointer (some ⟨g0, 2, none⟩)) rfl (by kernel_rfl) (by kernel_rfl) (by kernel_rfl) (by kernel_rfl) (fun _ _ _ h => h) hS (Or.inl ⟨by kernel_rfl, fun w hS => (by clear hS; go_simp)⟩) ?_
                  simp only [Act.put, List.setIfInBounds_toArray, List.set_cons_zero, List.set_cons_succ]
                  refine wpAnyZ_take (i := 11) (v := .slice pa na ca) rfl (by kernel_rfl) (by kernel_rfl) (by kernel_rfl) (by kernel_rfl) (fun _ _ _ h => h) hS (Or.inl ⟨by kernel_rfl, fun w hS => (by have hc := (SXD.out.below hS).c2; clear hS; go_simp)⟩) ?_
                  simp only [Act.put, List.setIfInBounds_toArray, List.set_cons_zero, List.set_cons_succ]
                  refine wpAnyZ_take (i := 12) (v := .int .i64 (na : Int)) rfl (by kernel_rfl) (by kernel_rfl) (by kernel_rfl) (by kernel_rfl) (fun _ _ _ h => h) hS (Or.inl ⟨by kernel_rfl, fun w hS => (by clear hS; go_simp)⟩) ?_
                  simp only [Act.put, List.setIfInBounds_toArray, List.set_cons_zero, List.set_cons_succ]
                  refine wpAnyZ_take (i := 13) (v := .slice (some ⟨g5, na, none⟩) M (c5' - na)) rfl (by kernel_rfl) (by kernel_rfl) (by kernel_rfl) (by kernel_rfl) (fun _ _ _ h => h) hS (Or.inl ⟨by kernel_rfl, fun w hS => (by clear hS; have hLM := HLM.out; go_simp)⟩) ?_
                  simp only [Act.put, List.setIfInBounds_toArray, List.set_cons_zero, List.set_cons_succ]
                  refine wpAnyZ_one (i := 14) (by kernel_rfl) rfl (fun K hK => ?_)
                  go_simp
                  go_at_call 23
                  refine (RPX.out _ (HS8.out.trans (hS.mono HS8.out.size))).mono ?_
                  rintro e v8 ⟨v, rfl, hv, hb8⟩
                  obtain ⟨p8, c8, rfl, _, hvb⟩ := hv.bin
                  have HV := hid hvb
                  clear hv hvb
                  go_wp2_with fail
                  refine hK.out _ _ (fun _ => hS.trans (hb8.mono hS.size)) ?_
                  replace hS := hS.trans (hb8.mono hS.size)
                  clear hK K hb8
                  try simp only [Act.put, List.setIfInBounds_toArray, List.set_cons_zero, List.set_cons_succ]
                  refine wpAnyZ_take (i := 15) (v := .tuple #[.slice p8 nt c8, .int .i64 0]) rfl (by kernel_rfl) (by kernel_rfl) (by kernel_rfl) (by kernel_rfl) (fun _ _ _ h => h) hS (Or.inl ⟨by kernel_rfl, fun w hS => (by clear hS; go_simp)⟩) ?_
                  simp only [Act.put, List.setIfInBounds_toArray, List.set_cons_zero, List.set_cons_succ]
                  refine wpAnyZ_take (i := 16) (v := .slice p8 nt c8) rfl (by kernel_rfl) (by kernel_rfl) (by kernel_rfl) (by kernel_rfl) (fun _ _ _ h => h) hS (Or.inl ⟨by kernel_rfl, fun w hS => (by clear hS; go_simp)⟩) ?_
                  simp only [Act.put, List.setIfInBounds_toArray, List.set_cons_zero, List.set_cons_succ]
                  refine wpAnyZ_take (i := 17) (v := .int .i64 0) rfl (by kernel_rfl) (by kernel_rfl) (by kernel_rfl) (by kernel_rfl) (fun _ _ _ h => h) hS (Or.inl ⟨by kernel_rfl, fun w hS => (by clear hS; go_simp)⟩) ?_
                  simp only [Act.put, List.setIfInBounds_toArray, List.set_cons_zero, List.set_cons_succ]
                  refine wpAnyZ_one (i := 18) (by kernel_rfl) rfl (fun K hK => ?_)
                  go_simp
                  refine hK.out _ _ (fun _ => hS) ?_
                  clear hK K
                  try simp only [Act.put, List.setIfInBounds_toArray, List.set_cons_zero, List.set_cons_succ]
                  refine wpAnyZ_one (i := 19) (by kernel_rfl) rfl (fun K hK => ?_)
                  go_simp
                  refine hK.out _ _ (fun _ => hS) ?_
                  clear hK K
                  try simp only [Act.put, List.setIfInBounds_toArray, List.set_cons_zero, List.set_cons_succ]
                  refine wpAnyZ_done (by kernel_rfl) ?_ _
                  go_wp2_with fail
                  go_meet
                  exact ⟨_, _, rfl, rfl, HV.out, hS⟩
                case rest =>
                  obtain ⟨p9, c9, rfl, rfl, b9, hS9⟩ := hcut
                  obtain ⟨wz, rfl⟩ : ∃ wz, wz = wc := ⟨_, rfl⟩
                  have SXE := hid (SXD.out.below hS9)
                  have HB9 := hid (HBX.out.trans ((HS8.out.trans (hS9.mono HS8.out.size)).mono HBX.out.size))
                  by_cases hy0 : y = 0
                  · have ey : ((y : Int) != 0) = false := by rw [hy0]; rfl
                    obtain ⟨c0, c1, c2, c3, c4, c5⟩ := SXE.out
                    have hsm := refSame_yes p8 p9 c8 c9 nt TX wz LTX.out (B8.out.below hS9) b9 OTX.out
                    clear hS9 b9
                    go_wp2_with fail
                    refine hsm.mono ?_
                    rintro e w' ⟨rfl, rfl⟩
                    clear hsm
                    go_wp2_with fail
                    refine (known6_any _).mono ?_
                    rintro e wk ⟨rfl, hbk⟩
                    go_wp2_with fail
                    go_ret
                    exact ⟨rfl, (HB9.out).trans (hbk.mono (HB9.out).size)⟩
                  · have ey : ((y : Int) != 0) = true := by simp; omega
                    obtain ⟨c0, c1, c2, c3, c4, c5⟩ := SXE.out
                    have hsm := refSame_yes p8 p9 c8 c9 nt TX wz LTX.out (B8.out.below hS9) b9 OTX.out
                    clear hS9 b9
                    go_wp2_with fail
                    refine hsm.mono ?_
                    rintro e w' ⟨rfl, rfl⟩
                    clear hsm
                    go_wp2_with fail
                    refine (known6_any _).mono ?_
                    rintro e wk ⟨rfl, hbk⟩
                    go_wp2_with fail
                    go_ret
                    exact ⟨rfl, (HB9.out).trans (hbk.mono (HB9.out).size)⟩
theorem gturned_at (pk : Option Addr) (ck : Nat) (ks : List Int) (pn : Option Addr) (cn : Nat) (ns : List Int) (pa : Option Addr) (ca : Nat) (az : List Int) (pt : Option Addr) (ct : Nat) (ts : List Int) (at0 y : Int) (w : World)
    (hkp : Bin w pk ks) (hks : Oct ks) (hck : ks.length ≤ ck) (hnp : Bin w pn ns) (hns : Oct ns) (hcn : ns.length ≤ cn) (hap : Bin w pa az) (has : Oct az) (hca : az.length ≤ ca) (htp : Bin w pt ts) (hts : Oct ts) (hct : ts.length ≤ ct) (haw : (Lit.int .i64 at0).wf = true) (hyw : (Lit.int .u8 y).wf = true) :
    Calls Try.prog 7 #[.agg #[.slice pk ks.length ck, .slice pn ns.length cn, .slice pa az.length ca, .slice pt ts.length ct, .int .i64 at0, .int .u8 y]] w fun e w' => e = .returned (.bool true) ∧ Below w.heap.size w w' := by
  have hy : 0 ≤ y ∧ y ≤ 255 := by simpa [Lit.wf, IntKind.min, IntKind.max, IntKind.signed, IntKind.bits] using hyw
  obtain ⟨n, rfl⟩ : ∃ n : Nat, y = (n : Int) := ⟨y.toNat, by omega⟩
  exact gturned_law pk ck ks pn cn ns pa ca az pt ct ts at0 n w hkp hks hck hnp hns hcn hap has hca htp hts hct (by omega)
end Go.Proofs.Ytgnhbfjngdgibaa
