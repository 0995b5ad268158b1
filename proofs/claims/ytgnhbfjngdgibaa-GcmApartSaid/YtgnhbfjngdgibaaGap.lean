/-
  The walk of GcmApart.
-/
import Derived.Test.YtgnhbfjngdgibaaGst
import Derived.Deep.QuietTactic
import Derived.BigQuiet
namespace Go.Proofs.Ytgnhbfjngdgibaa
open Go.RowKit
set_option linter.unusedVariables false
set_option linter.unusedSimpArgs false

theorem min_threeG {P : Program} (a b c : Int) (w : World) : (Builtin.min_ #[3, 3, 3] 3 #[.int .i64 a, .int .i64 b, .int .i64 c]).run P w = .ok (.int .i64 (if c < (if b < a then b else a) then c else if b < a then b else a)) w := by
  simp [Builtin.min_, Builtin.min2]
theorem sealN_no {nk nn na nt : Nat} (ha : na ≤ 65536) (ht : nt ≤ 65536) (h : sealN nk nn na nt ≠ 0) (mb mt : Nat) : sealN nk nn mb mt = 2 := by
  have h1 : mayN nk nn = false := Classical.not_not.1 fun hh => h (by unfold sealN; rw [if_neg hh, if_neg (by omega)])
  unfold sealN
  rw [if_pos h1]

set_option maxHeartbeats 16000000 in
set_option maxRecDepth 100000 in
theorem gapart_law (pk : Option Addr) (ck : Nat) (ks : List Int) (pn : Option Addr) (cn : Nat) (ns : List Int) (pa : Option Addr) (ca : Nat) (az : List Int) (p : Option Addr) (c : Nat) (xs : List Int) (q : Option Addr) (d : Nat) (ys : List Int) (w : World)
    (hkp : Bin w pk ks) (hks : Oct ks) (hkm : ks.length ≤ 140737488351232) (hck : ks.length ≤ ck) (hnp : Bin w pn ns) (hns : Oct ns) (hnm : ns.length ≤ 140737488351232) (hcn : ns.length ≤ cn) (hap : Bin w pa az) (has : Oct az) (ham : az.length ≤ 140737488351232) (hca : az.length ≤ ca)
    (hp : Bin w p xs) (hx : Oct xs) (hm1 : xs.length ≤ 140737488351232) (hc : xs.length ≤ c) (hq : Bin w q ys) (hy : Oct ys) (hm2 : ys.length ≤ 140737488351232) (hd : ys.length ≤ d) :
    Calls Try.prog 8 #[.slice pk ks.length ck, .slice pn ns.length cn, .slice pa az.length ca, .slice p xs.length c, .slice q ys.length d] w fun e w' => e = .returned (.bool true) ∧ Below w.heap.size w w' := by
  obtain ⟨nk, hnk⟩ : ∃ n, n = ks.length := ⟨_, rfl⟩
  obtain ⟨nn, hnn⟩ : ∃ n, n = ns.length := ⟨_, rfl⟩
  obtain ⟨na, hna⟩ : ∃ n, n = az.length := ⟨_, rfl⟩
  obtain ⟨n, hn⟩ : ∃ n, n = xs.length := ⟨_, rfl⟩
  obtain ⟨m, hm⟩ : ∃ m, m = ys.length := ⟨_, rfl⟩
  rw [← hnk] at hkm hck ⊢
  rw [← hnn] at hnm hcn ⊢
  rw [← hna] at ham hca ⊢
  rw [← hn] at hm1 hc ⊢
  rw [← hm] at hm2 hd ⊢
  obtain ⟨N, hN⟩ : ∃ N, Hid (N = min n (min m 2000)) := ⟨_, rfl⟩
  have HK := hid hnk.symm
  have HNN := hid hnn.symm
  have HA := hid hna.symm
  have HX := hid hn.symm
  have HY := hid hm.symm
  have KP := hid hkp
  have NP := hid hnp
  have AP := hid hap
  have HP := hid hp
  have HQ := hid hq
  clear hnk hnn hna hn hm hkp hnp hap hp hq
  have hNl : N ≤ n ∧ N ≤ m ∧ N ≤ 2000 := by have := hN.out; omega
  obtain ⟨hNn, hNm, hN2⟩ := hNl
  have hcN : N ≤ c := by omega
  have hdN : N ≤ d := by omega
  have hv : (if (2000 : Int) < (if (m : Int) < (n : Int) then (m : Int) else (n : Int)) then (2000 : Int) else if (m : Int) < (n : Int) then (m : Int) else (n : Int)) = (N : Int) := by have := hN.out; split <;> split at * <;> omega
  have hmin : ∀ wx, (Builtin.min_ #[3, 3, 3] 3 #[.int .i64 n, .int .i64 m, .int .i64 2000]).run Try.prog wx = .ok (.int .i64 N) wx := fun wx => by rw [← hv]; exact min_threeG n m 2000 wx
  clear hv
  by_cases hbig : 2000 < na
  · have i1 : (2000 : Int) < (na : Int) := by omega
    go_enter Try.func8, Try.ntmps8
    go_upto_region 2 with fail
    clear hmin
    go_wp2_with fail
    refine (known6_any _).mono ?_
    rintro e w1 ⟨rfl, hb1⟩
    go_wp2_with fail
    go_ret
    exact ⟨rfl, hb1⟩
  · have i1 : ¬ (2000 : Int) < (na : Int) := by omega
    have hta := hid (bin_take HP.out N)
    have htb := hid (bin_take HQ.out N)
    have hla := hid (show (xs.take N).length = N from by rw [List.length_take, HX.out]; omega)
    have hlb := hid (show (ys.take N).length = N from by rw [List.length_take, HY.out]; omega)
    have kI : (N : Int) ≤ (n : Int) := by omega
    have kJ : (N : Int) ≤ (m : Int) := by omega
    have kC : (N : Int) ≤ (c : Int) := by omega
    have kD : (N : Int) ≤ (d : Int) := by omega
    by_cases h0 : sealN nk nn na N = 0
    · obtain ⟨hk, hn12, _, _⟩ := sealN_yes h0
      subst hn12
      have hs1 := seal_of pk pn pa p ck cn ca c nk na N ks ns az (xs.take N) w KP.out hks HK.out hk hck NP.out hns HNN.out hcn AP.out has HA.out hca hta.out (hx.take N) hla.out hcN (by omega) (by omega)
      have hs2 := fun w' h1 h2 h3 => seal_of pk pn none q ck cn 0 d nk 0 N ks ns [] (ys.take N) w' h1 hks HK.out hk hck h2 hns HNN.out hcn (Bin.nil _ _) Oct.nil rfl (by decide) h3 (hy.take N) hlb.out hdN (by omega) (by omega)
      obtain ⟨E, hE⟩ : ∃ E, Hid (E = keyE nk ks) := ⟨_, rfl⟩
      have oE := hid (keyE_lt hks (nk := nk))
      rw [← hE.out] at hs1 hs2 oE
      have hX1 : ∀ j, byt (sealL E ns az (xs.take N)) j < 256 := byt_lt (sealL_oct az oE.out hns (hx.take N))
      have hY1 : ∀ j, byt (sealL E ns [] (ys.take N)) j < 256 := byt_lt (sealL_oct [] oE.out hns (hy.take N))
      have hAp : ∀ j, j < N → byt (sealL E ns az (xs.take N)) j ^^^ byt (sealL E ns [] (ys.take N)) j = byt xs j ^^^ byt ys j := fun j hj => by
        rw [seal_apart E ns az [] _ _ j (by rw [hla.out]; exact hj) (by rw [hlb.out]; exact hj), byt_take _ _ _ hj, byt_take _ _ _ hj]
      have oX : Oct (sealL E ns az (xs.take N)) := sealL_oct az oE.out hns (hx.take N)
      have oY : Oct (sealL E ns [] (ys.take N)) := sealL_oct [] oE.out hns (hy.take N)
      have lX : (sealL E ns az (xs.take N)).length = N + 16 := by rw [sealL_length, hla.out]
      have lY : (sealL E ns [] (ys.take N)).length = N + 16 := by rw [sealL_length, hlb.out]
      obtain ⟨X, hX⟩ : ∃ X, Hid (X = sealL E ns az (xs.take N)) := ⟨_, rfl⟩
      obtain ⟨Y, hY⟩ : ∃ Y, Hid (Y = sealL E ns [] (ys.take N)) := ⟨_, rfl⟩
      rw [← hX.out] at hs1 hX1 hAp oX lX
      rw [← hY.out] at hs2 hY1 hAp oY lY
      have HAP := hid hAp
      have HX1 := hid hX1
      have HY1 := hid hY1
      have HS2 := hid hs2
      have LX := hid lX
      have LY := hid lY
      have OX := hid oX
      have OY := hid oY
      clear hAp hX1 hY1 hs2 lX lY oX oY h0
      go_enter Try.func8, Try.ntmps8
      go_upto_region 2 with fail
      clear hmin
      go_wp2_with fail
      refine hs1.mono ?_
      rintro e w1 ⟨v1, rfl, hv1, hb1⟩
      clear hs1
      obtain ⟨p1, c1, rfl, _, vb1⟩ := hv1.bin
      clear hv1
      go_wp2_with fail
      refine (HS2.out w1 (KP.out.below hb1) (NP.out.below hb1) (htb.out.below hb1)).mono ?_
      rintro e w2 ⟨v2, rfl, hv2, hb2⟩
      obtain ⟨p2, c2, rfl, _, vb2⟩ := hv2.bin
      have hB2 := hid (hb1.trans (hb2.mono hb1.size))
      have V1 := hid (vb1.below hb2)
      have V2 := hid vb2
      have VX := hid (HP.out.below hB2.out)
      have VY := hid (HQ.out.below hB2.out)
      clear hv2 hb1 hb2 vb1 vb2
      have e1 : (((N + 16 : Nat) : Int) != (N : Int) + 16) = false := by simp
      go_wp2_with fail
      go_loopw [75] (fun i wr => ∃ k : Nat, k ≤ N ∧ i = .int .i64 (k : Int) ∧ Below w2.heap.size w2 wr) (fun i _ => N - (intOf i).toNat)
      case atStart => exact ⟨0, Nat.zero_le _, rfl, Below.refl _ _⟩
      case round =>
        obtain ⟨k, hk', rfl, hb⟩ := hrel
        by_cases hlt : k < N
        · obtain ⟨b1, o1, rfl, _, hcx⟩ := (V1.out.below hb).at (by have := LX.out; omega)
          obtain ⟨b2, o2, rfl, _, hcy⟩ := (V2.out.below hb).at (by have := LY.out; omega)
          obtain ⟨b3, o3, rfl, _, hca'⟩ := (VX.out.below hb).at (by have := HX.out; omega)
          obtain ⟨b4, o4, rfl, _, hcb'⟩ := (VY.out.below hb).at (by have := HY.out; omega)
          have hx1 := hcx k (by have := LX.out; omega)
          have hy1 := hcy k (by have := LY.out; omega)
          have hx2 := hca' k (by have := HX.out; omega)
          have hy2 := hcb' k (by have := HY.out; omega)
          rw [byt_at OX.out k] at hx1
          rw [byt_at OY.out k] at hy1
          rw [byt_at hx k] at hx2
          rw [byt_at hy k] at hy2
          have r1 := xor8 (HX1.out k) (HY1.out k)
          have r2 := xor8 (byt_lt hx k) (byt_lt hy k)
          rw [HAP.out k hlt] at r1
          have kN : (k : Int) < (N : Int) := by omega
          have kn : (k : Int) < (n : Int) := by omega
          have km : (k : Int) < (m : Int) := by omega
          have kp : (k : Int) < (N : Int) + 16 := by omega
          generalize byt X k = bX at hx1 r1
          generalize byt Y k = bY at hy1 r1
          generalize byt xs k = ba at hx2 r1 r2
          generalize byt ys k = bb at hy2 r1 r2
          generalize ba ^^^ bb = bz at r1 r2
          clear hcx hcy hca' hcb'
          go_wp2
          go_quiet (fail)
          rename_i nq
          have hb' := hid (below_drewN hb nq)
          clear hx1 hy1 hx2 hy2 r1 r2 hb
          go_wp2
          go_roundw
          case rel => exact ⟨k + 1, by omega, by go_num, hb'.out⟩
          case measure => simp [intOf]; omega
        · obtain rfl : k = N := by omega
          have hB := hB2.out.trans (hb.mono hB2.out.size)
          clear hb
          go_wp2_with fail
          refine (known6_any _).mono ?_
          rintro e w7 ⟨rfl, hb7⟩
          go_wp2_with fail
          go_ret
          exact ⟨rfl, hB.trans (hb7.mono hB.size)⟩
    · have hz1 := sealN_no (show na ≤ 65536 by omega) (show N ≤ 65536 by omega) h0 na N
      have hz2 := sealN_no (show na ≤ 65536 by omega) (show N ≤ 65536 by omega) h0 0 N
      have hs1 := seal_no pk pn pa p ck cn ca c nk nn na N ks ns az (xs.take N) w KP.out hks HK.out hck NP.out hns HNN.out hcn AP.out has HA.out hca hta.out (hx.take N) hla.out hcN h0
      have hs2 := fun w' h1 h2 h3 => seal_no pk pn none q ck cn 0 d nk nn 0 N ks ns [] (ys.take N) w' h1 hks HK.out hck h2 hns HNN.out hcn (Bin.nil _ _) Oct.nil rfl (by decide) h3 (hy.take N) hlb.out hdN (by rw [hz2]; decide)
      rw [hz1] at hs1
      rw [hz2] at hs2
      have HS2 := hid hs2
      clear hs2 hz1 hz2 h0
      go_enter Try.func8, Try.ntmps8
      go_upto_region 2 with fail
      clear hmin
      go_wp2_with fail
      refine hs1.mono ?_
      rintro e w1 ⟨rfl, hb1⟩
      clear hs1
      go_wp2_with fail
      refine (HS2.out w1 (KP.out.below hb1) (NP.out.below hb1) (htb.out.below hb1)).mono ?_
      rintro e w2 ⟨rfl, hb2⟩
      have hB2 := hb1.trans (hb2.mono hb1.size)
      clear hb1 hb2
      go_wp2_with fail
      refine (known6_any _).mono ?_
      rintro e w7 ⟨rfl, hb7⟩
      go_wp2_with fail
      go_ret
      exact ⟨rfl, hB2.trans (hb7.mono hB2.size)⟩
end Go.Proofs.Ytgnhbfjngdgibaa
