/-
  The walk of OctetRing.
-/
import Derived.Test.YtgnhbfjngdgibaaKnown
import Derived.Test.YtgnhbfjngdgibaaKa
import Derived.WalkLawsBesides
import Derived.WalkSpells
namespace Go.Proofs.Ytgnhbfjngdgibaa
open Go.RowKit

theorem Bin.take {w : World} {p : Option Addr} {xs : List Int} (h : Bin w p xs) (n : Nat) : Bin w p (xs.take n) := fun hn => by
  have hl : (xs.take n).length ≤ xs.length := by simp; omega
  obtain ⟨b, o, rfl, hc⟩ := h (by omega)
  refine ⟨b, o, rfl, fun i hi => ?_⟩
  have hi' : i < n ∧ i < xs.length := by simpa [Nat.lt_min] using hi
  rw [hc i hi'.2, List.getD_eq_getElem?_getD, List.getD_eq_getElem?_getD, List.getElem?_take, if_pos hi'.1]

theorem xor_at (p q : Option Addr) (c d n : Nat) (xs ys : List Int) (w : World) (hp : Bin w p xs) (hq : Bin w q ys) (hx : Oct xs) (hy : Oct ys) (h1 : xs.length = n) (h2 : ys.length = n) (hm : n ≤ 140737488351232) :
    Calls Try.prog 11 #[.slice p n c, .slice q n d] w fun e w' => ∃ r cr, e = .returned (.tuple #[.slice r n cr, .int .i64 0]) ∧ Bin w' r (xorL xs ys) ∧ Below w.heap.size w w' := by
  subst h1
  refine (xor_any p q c d xs ys w hp hq hx hy h2 hm).mono ?_
  rintro e w' ⟨v, rfl, hown, hb⟩
  obtain ⟨r, cr, rfl, _, hbin⟩ := hown.bin
  exact ⟨r, cr, rfl, hbin, hb⟩

theorem same_at (p q : Option Addr) (c d n : Nat) (xs ys : List Int) (w : World) (h1 : xs.length = n) (h2 : ys.length = n) (hp : Bin w p xs) (hq : Bin w q ys) (hx : Oct xs) (hy : Oct ys) (hm : n ≤ 140737488351232) :
    Calls Try.prog 12 #[.slice p n c, .slice q n d] w fun e w' => e = .returned (.bool (sameB xs ys)) ∧ w = w' := by
  subst h1
  have h := same_any p q c d xs ys w hp hq hx hy (by unfold maxLen; omega)
  rwa [h2] at h

theorem same_is (p q : Option Addr) (c d n : Nat) (xs ys : List Int) (w : World) (he : xs = ys) (h1 : xs.length = n) (hp : Bin w p xs) (hq : Bin w q ys) (hx : Oct xs) (hm : n ≤ 140737488351232) :
    Calls Try.prog 12 #[.slice p n c, .slice q n d] w fun e w' => e = .returned (.bool true) ∧ w = w' := by
  subst he
  exact same_yes p q c d n xs w h1 (by unfold maxLen; omega) hp hq hx

theorem nought_is (p : Option Addr) (c n : Nat) (xs : List Int) (b : Bool) (w : World) (h1 : xs.length = n) (hp : Bin w p xs) (hm : n ≤ 140737488351232) (hb : noughtB xs = b) :
    Calls Try.prog 13 #[.slice p n c] w fun e w' => e = .returned (.bool b) ∧ w = w' := by
  subst h1 hb
  exact nought_any p c xs w hp (by unfold maxLen; omega)

theorem xorL_comm (xs ys : List Int) : xorL xs ys = xorL ys xs := by
  unfold xorL
  rw [List.zipWith_comm]
  congr 1
  funext a b
  rw [Nat.xor_comm]

theorem xorL_get (xs ys : List Int) (i : Nat) : (xorL xs ys)[i]? = (match xs[i]?, ys[i]? with | some a, some b => some ((a.toNat ^^^ b.toNat : Nat) : Int) | _, _ => none) := by
  unfold xorL
  rw [List.getElem?_zipWith]
  rcases xs[i]? with _ | a <;> rcases ys[i]? with _ | b <;> rfl

theorem xorL_assoc (xs ys zs : List Int) : xorL (xorL xs ys) zs = xorL xs (xorL ys zs) := by
  apply List.ext_getElem?
  intro i
  simp only [xorL_get]
  rcases xs[i]? with _ | a <;> rcases ys[i]? with _ | b <;> rcases zs[i]? with _ | c <;> simp [Nat.xor_assoc]

theorem xorL_self (xs : List Int) : xorL xs xs = List.replicate xs.length 0 := by
  apply List.ext_getElem?
  intro i
  rw [xorL_get, List.getElem?_replicate]
  by_cases h : i < xs.length
  · rw [List.getElem?_eq_getElem h, if_pos h]
    simp
  · rw [List.getElem?_eq_none (by omega), if_neg h]

theorem nought_zero (n : Nat) : noughtB (List.replicate n 0) = true := by simp [noughtB]

theorem xorL_zero (xs : List Int) (h : Oct xs) (n : Nat) (hn : xs.length = n) : xorL xs (List.replicate n 0) = xs := by
  apply List.ext_getElem?
  intro i
  rw [xorL_get, List.getElem?_replicate]
  by_cases hi : i < xs.length
  · rw [List.getElem?_eq_getElem hi, if_pos (by omega)]
    have := h.lt i hi
    simp
    omega
  · rw [List.getElem?_eq_none (by omega)]

theorem nought_xor (xs ys : List Int) (hx : Oct xs) (hy : Oct ys) (hl : ys.length = xs.length) : noughtB (xorL xs ys) = sameB xs ys := by
  rw [Bool.eq_iff_iff, sameB_iff]
  constructor
  · intro h
    apply List.ext_getElem (by omega)
    intro i h1 h2
    have e := xorL_get xs ys i
    rw [List.getElem?_eq_getElem h1, List.getElem?_eq_getElem h2] at e
    simp only [noughtB, List.all_eq_true, beq_iff_eq] at h
    have h0 := h _ (List.mem_of_getElem? e)
    have hx' := hx.lt i h1
    have hy' := hy.lt i h2
    have e0 : xs[i].toNat ^^^ ys[i].toNat = 0 := by omega
    have e1 : xs[i].toNat = ys[i].toNat := by
      apply Nat.eq_of_testBit_eq
      intro j
      have := congrArg (fun z => z.testBit j) e0
      simpa [Nat.testBit_xor] using this
    omega
  · intro h
    subst h
    rw [xorL_self]
    exact nought_zero _

set_option maxHeartbeats 1000000 in
set_option maxRecDepth 100000 in
theorem ring_1 (a b c : Option Addr) (ca cb cc n l2 l3 : Nat) (X Y Z : List Int) (w : World) (m2 : n ≤ l2) (m3 : n ≤ l3) (q1 : n ≤ ca) (q2 : l2 ≤ cb) (q3 : l3 ≤ cc)
    (HL : Hid (X.length = n ∧ Y.length = n ∧ Z.length = n)) (hx : Oct X) (hy : Oct Y) (hz : Oct Z) (ha : Bin w a X) (hb : Bin w b Y) (hc : Bin w c Z) (hn : n ≤ 140737488351232)
    (HXO : Hid (Oct (xorL X Y))) (HXL : Hid ((xorL X Y).length = n)) (HUO : Hid (Oct (xorL Y Z))) (HUL : Hid ((xorL Y Z).length = n)) (HWL : Hid ((xorL (xorL X Y) Z).length = n)) (HWO : Hid (Oct (xorL (xorL X Y) Z))) (HNL : Hid ((xorL X X).length = n)) (HNN : Hid (noughtB (xorL X X) = true))
    (HKE : Hid (xorL (xorL X Y) Y = X)) (HKL : Hid ((xorL (xorL X Y) Y).length = n)) (HKO : Hid (Oct (xorL (xorL X Y) Y))) (HNX : Hid (noughtB (xorL X Y) = sameB X Y)) :
    Calls Try.prog 4 #[.slice a n ca, .slice b l2 cb, .slice c l3 cc] w fun e w' => e = .returned (.bool true) ∧ Below w.heap.size w w' := by
  have hl1 := HL.out.1
  go_enter Try.func4, Try.ntmps4
  clear hl1
  go_wp2
  go_quiet (fail)
  rename_i nq
  have HA0 := hid (show Bin (w.drewN nq) a X from ha)
  have HB0 := hid (show Bin (w.drewN nq) b Y from hb)
  have HC0 := hid (show Bin (w.drewN nq) c Z from hc)
  have hd : Below w.heap.size w (w.drewN nq) := below_drewN (Below.refl _ _) nq
  clear ha hb hc
  go_wp2_with fail
  refine (xor_at _ _ _ _ n X Y _ HA0.out HB0.out hx hy HL.out.1 HL.out.2.1 hn).mono ?_
  rintro e w1 ⟨r1, c1, rfl, hbin, hb1⟩
  have HX1 := hid hbin
  have HA1 := hid (HA0.out.below hb1)
  have HB1 := hid (HB0.out.below hb1)
  have HC1 := hid (HC0.out.below hb1)
  have hd1 := hd.trans (hb1.mono hd.size)
  clear hbin hb1 HA0 HB0 HC0 hd
  go_wp2_with fail
  refine (xor_at _ _ _ _ n Y X _ HB1.out HA1.out hy hx HL.out.2.1 HL.out.1 hn).mono ?_
  rintro e w2 ⟨r2, c2, rfl, hbin, hb2⟩
  have HY2 := hid hbin
  have HX2 := hid (HX1.out.below hb2)
  have HA2 := hid (HA1.out.below hb2)
  have HB2 := hid (HB1.out.below hb2)
  have HC2 := hid (HC1.out.below hb2)
  have hd2 := hd1.trans (hb2.mono hd1.size)
  clear hbin hb2 HA1 HB1 HC1 HX1 hd1
  go_wp2_with fail
  refine (xor_at _ _ _ _ n (xorL X Y) Z _ HX2.out HC2.out HXO.out hz HXL.out HL.out.2.2 hn).mono ?_
  rintro e w3 ⟨r3, c3, rfl, hbin, hb3⟩
  have HZ3 := hid hbin
  have HX3 := hid (HX2.out.below hb3)
  have HY3 := hid (HY2.out.below hb3)
  have HA3 := hid (HA2.out.below hb3)
  have HB3 := hid (HB2.out.below hb3)
  have HC3 := hid (HC2.out.below hb3)
  have hd3 := hd2.trans (hb3.mono hd2.size)
  clear hbin hb3 HA2 HB2 HC2 HX2 HY2 hd2
  go_wp2_with fail
  refine (xor_at _ _ _ _ n Y Z _ HB3.out HC3.out hy hz HL.out.2.1 HL.out.2.2 hn).mono ?_
  rintro e w4 ⟨r4, c4, rfl, hbin, hb4⟩
  have HU4 := hid hbin
  have HZ4 := hid (HZ3.out.below hb4)
  have HX4 := hid (HX3.out.below hb4)
  have HY4 := hid (HY3.out.below hb4)
  have HA4 := hid (HA3.out.below hb4)
  have HB4 := hid (HB3.out.below hb4)
  have hd4 := hd3.trans (hb4.mono hd3.size)
  clear hbin hb4 HA3 HB3 HC3 HX3 HY3 HZ3 hd3
  go_wp2_with fail
  refine (xor_at _ _ _ _ n X (xorL Y Z) _ HA4.out HU4.out hx HUO.out HL.out.1 HUL.out hn).mono ?_
  rintro e w5 ⟨r5, c5, rfl, hbin, hb5⟩
  have HV5 := hid hbin
  have HZ5 := hid (HZ4.out.below hb5)
  have HX5 := hid (HX4.out.below hb5)
  have HY5 := hid (HY4.out.below hb5)
  have HA5 := hid (HA4.out.below hb5)
  have HB5 := hid (HB4.out.below hb5)
  have hd5 := hd4.trans (hb5.mono hd4.size)
  clear hbin hb5 HA4 HB4 HU4 HX4 HY4 HZ4 hd4
  go_wp2_with fail
  refine (xor_at _ _ _ _ n X X _ HA5.out HA5.out hx hx HL.out.1 HL.out.1 hn).mono ?_
  rintro e w6 ⟨r6, c6, rfl, hbin, hb6⟩
  have HN6 := hid hbin
  have HV6 := hid (HV5.out.below hb6)
  have HZ6 := hid (HZ5.out.below hb6)
  have HX6 := hid (HX5.out.below hb6)
  have HY6 := hid (HY5.out.below hb6)
  have HA6 := hid (HA5.out.below hb6)
  have HB6 := hid (HB5.out.below hb6)
  have hd6 := hd5.trans (hb6.mono hd5.size)
  clear hbin hb6 HA5 HB5 HV5 HX5 HY5 HZ5 hd5
  go_wp2_with fail
  refine (xor_at _ _ _ _ n (xorL X Y) Y _ HX6.out HB6.out HXO.out hy HXL.out HL.out.2.1 hn).mono ?_
  rintro e w7 ⟨r7, c7, rfl, hbin, hb7⟩
  have HK7 := hid hbin
  have HN7 := hid (HN6.out.below hb7)
  have HV7 := hid (HV6.out.below hb7)
  have HZ7 := hid (HZ6.out.below hb7)
  have HX7 := hid (HX6.out.below hb7)
  have HY7 := hid (HY6.out.below hb7)
  have HA7 := hid (HA6.out.below hb7)
  have HB7 := hid (HB6.out.below hb7)
  have hd7 := hd6.trans (hb7.mono hd6.size)
  clear hbin hb7 HA6 HB6 HV6 HX6 HY6 HZ6 HN6 hd6
  go_wp2_with fail
  refine (same_is _ _ _ _ n (xorL X Y) (xorL Y X) _ (xorL_comm _ _) HXL.out HX7.out HY7.out HXO.out (by omega)).mono ?_
  rintro e w8 ⟨rfl, rfl⟩
  go_wp2_with fail
  refine (same_is _ _ _ _ n (xorL (xorL X Y) Z) (xorL X (xorL Y Z)) _ (xorL_assoc _ _ _) HWL.out HZ7.out HV7.out HWO.out (by omega)).mono ?_
  rintro e w8 ⟨rfl, rfl⟩
  go_wp2_with fail
  refine (nought_is _ _ n (xorL X X) true _ HNL.out HN7.out hn HNN.out).mono ?_
  rintro e w8 ⟨rfl, rfl⟩
  go_wp2_with fail
  refine (same_is _ _ _ _ n (xorL (xorL X Y) Y) X _ HKE.out HKL.out HK7.out HA7.out HKO.out (by omega)).mono ?_
  rintro e w8 ⟨rfl, rfl⟩
  go_wp2_with fail
  refine (nought_is _ _ n (xorL X Y) (sameB X Y) _ HXL.out HX7.out hn HNX.out).mono ?_
  rintro e w8 ⟨rfl, rfl⟩
  go_wp2_with fail
  refine (same_at _ _ _ _ n X Y _ HL.out.1 HL.out.2.1 HA7.out HB7.out hx hy (by omega)).mono ?_
  rintro e w8 ⟨rfl, rfl⟩
  go_wp2_with fail
  refine (known_any _).mono ?_
  rintro e w9 ⟨rfl, hb9⟩
  go_wp2
  go_ret
  exact ⟨rfl, hd7.trans (hb9.mono hd7.size)⟩

set_option maxHeartbeats 1000000 in
set_option maxRecDepth 100000 in
theorem ring_2 (a b c : Option Addr) (ca cb cc n l1 l3 : Nat) (X Y Z : List Int) (w : World) (m1 : n < l1) (m3 : n ≤ l3) (q1 : l1 ≤ ca) (q2 : n ≤ cb) (q3 : l3 ≤ cc)
    (HL : Hid (X.length = n ∧ Y.length = n ∧ Z.length = n)) (hx : Oct X) (hy : Oct Y) (hz : Oct Z) (ha : Bin w a X) (hb : Bin w b Y) (hc : Bin w c Z) (hn : n ≤ 140737488351232)
    (HXO : Hid (Oct (xorL X Y))) (HXL : Hid ((xorL X Y).length = n)) (HUO : Hid (Oct (xorL Y Z))) (HUL : Hid ((xorL Y Z).length = n)) (HWL : Hid ((xorL (xorL X Y) Z).length = n)) (HWO : Hid (Oct (xorL (xorL X Y) Z))) (HNL : Hid ((xorL X X).length = n)) (HNN : Hid (noughtB (xorL X X) = true))
    (HKE : Hid (xorL (xorL X Y) Y = X)) (HKL : Hid ((xorL (xorL X Y) Y).length = n)) (HKO : Hid (Oct (xorL (xorL X Y) Y))) (HNX : Hid (noughtB (xorL X Y) = sameB X Y)) :
    Calls Try.prog 4 #[.slice a l1 ca, .slice b n cb, .slice c l3 cc] w fun e w' => e = .returned (.bool true) ∧ Below w.heap.size w w' := by
  have hl1 := HL.out.1
  go_enter Try.func4, Try.ntmps4
  clear hl1
  go_wp2
  go_quiet (fail)
  rename_i nq
  have HA0 := hid (show Bin (w.drewN nq) a X from ha)
  have HB0 := hid (show Bin (w.drewN nq) b Y from hb)
  have HC0 := hid (show Bin (w.drewN nq) c Z from hc)
  have hd : Below w.heap.size w (w.drewN nq) := below_drewN (Below.refl _ _) nq
  clear ha hb hc
  go_wp2_with fail
  refine (xor_at _ _ _ _ n X Y _ HA0.out HB0.out hx hy HL.out.1 HL.out.2.1 hn).mono ?_
  rintro e w1 ⟨r1, c1, rfl, hbin, hb1⟩
  have HX1 := hid hbin
  have HA1 := hid (HA0.out.below hb1)
  have HB1 := hid (HB0.out.below hb1)
  have HC1 := hid (HC0.out.below hb1)
  have hd1 := hd.trans (hb1.mono hd.size)
  clear hbin hb1 HA0 HB0 HC0 hd
  go_wp2_with fail
  refine (xor_at _ _ _ _ n Y X _ HB1.out HA1.out hy hx HL.out.2.1 HL.out.1 hn).mono ?_
  rintro e w2 ⟨r2, c2, rfl, hbin, hb2⟩
  have HY2 := hid hbin
  have HX2 := hid (HX1.out.below hb2)
  have HA2 := hid (HA1.out.below hb2)
  have HB2 := hid (HB1.out.below hb2)
  have HC2 := hid (HC1.out.below hb2)
  have hd2 := hd1.trans (hb2.mono hd1.size)
  clear hbin hb2 HA1 HB1 HC1 HX1 hd1
  go_wp2_with fail
  refine (xor_at _ _ _ _ n (xorL X Y) Z _ HX2.out HC2.out HXO.out hz HXL.out HL.out.2.2 hn).mono ?_
  rintro e w3 ⟨r3, c3, rfl, hbin, hb3⟩
  have HZ3 := hid hbin
  have HX3 := hid (HX2.out.below hb3)
  have HY3 := hid (HY2.out.below hb3)
  have HA3 := hid (HA2.out.below hb3)
  have HB3 := hid (HB2.out.below hb3)
  have HC3 := hid (HC2.out.below hb3)
  have hd3 := hd2.trans (hb3.mono hd2.size)
  clear hbin hb3 HA2 HB2 HC2 HX2 HY2 hd2
  go_wp2_with fail
  refine (xor_at _ _ _ _ n Y Z _ HB3.out HC3.out hy hz HL.out.2.1 HL.out.2.2 hn).mono ?_
  rintro e w4 ⟨r4, c4, rfl, hbin, hb4⟩
  have HU4 := hid hbin
  have HZ4 := hid (HZ3.out.below hb4)
  have HX4 := hid (HX3.out.below hb4)
  have HY4 := hid (HY3.out.below hb4)
  have HA4 := hid (HA3.out.below hb4)
  have HB4 := hid (HB3.out.below hb4)
  have hd4 := hd3.trans (hb4.mono hd3.size)
  clear hbin hb4 HA3 HB3 HC3 HX3 HY3 HZ3 hd3
  go_wp2_with fail
  refine (xor_at _ _ _ _ n X (xorL Y Z) _ HA4.out HU4.out hx HUO.out HL.out.1 HUL.out hn).mono ?_
  rintro e w5 ⟨r5, c5, rfl, hbin, hb5⟩
  have HV5 := hid hbin
  have HZ5 := hid (HZ4.out.below hb5)
  have HX5 := hid (HX4.out.below hb5)
  have HY5 := hid (HY4.out.below hb5)
  have HA5 := hid (HA4.out.below hb5)
  have HB5 := hid (HB4.out.below hb5)
  have hd5 := hd4.trans (hb5.mono hd4.size)
  clear hbin hb5 HA4 HB4 HU4 HX4 HY4 HZ4 hd4
  go_wp2_with fail
  refine (xor_at _ _ _ _ n X X _ HA5.out HA5.out hx hx HL.out.1 HL.out.1 hn).mono ?_
  rintro e w6 ⟨r6, c6, rfl, hbin, hb6⟩
  have HN6 := hid hbin
  have HV6 := hid (HV5.out.below hb6)
  have HZ6 := hid (HZ5.out.below hb6)
  have HX6 := hid (HX5.out.below hb6)
  have HY6 := hid (HY5.out.below hb6)
  have HA6 := hid (HA5.out.below hb6)
  have HB6 := hid (HB5.out.below hb6)
  have hd6 := hd5.trans (hb6.mono hd5.size)
  clear hbin hb6 HA5 HB5 HV5 HX5 HY5 HZ5 hd5
  go_wp2_with fail
  refine (xor_at _ _ _ _ n (xorL X Y) Y _ HX6.out HB6.out HXO.out hy HXL.out HL.out.2.1 hn).mono ?_
  rintro e w7 ⟨r7, c7, rfl, hbin, hb7⟩
  have HK7 := hid hbin
  have HN7 := hid (HN6.out.below hb7)
  have HV7 := hid (HV6.out.below hb7)
  have HZ7 := hid (HZ6.out.below hb7)
  have HX7 := hid (HX6.out.below hb7)
  have HY7 := hid (HY6.out.below hb7)
  have HA7 := hid (HA6.out.below hb7)
  have HB7 := hid (HB6.out.below hb7)
  have hd7 := hd6.trans (hb7.mono hd6.size)
  clear hbin hb7 HA6 HB6 HV6 HX6 HY6 HZ6 HN6 hd6
  go_wp2_with fail
  refine (same_is _ _ _ _ n (xorL X Y) (xorL Y X) _ (xorL_comm _ _) HXL.out HX7.out HY7.out HXO.out (by omega)).mono ?_
  rintro e w8 ⟨rfl, rfl⟩
  go_wp2_with fail
  refine (same_is _ _ _ _ n (xorL (xorL X Y) Z) (xorL X (xorL Y Z)) _ (xorL_assoc _ _ _) HWL.out HZ7.out HV7.out HWO.out (by omega)).mono ?_
  rintro e w8 ⟨rfl, rfl⟩
  go_wp2_with fail
  refine (nought_is _ _ n (xorL X X) true _ HNL.out HN7.out hn HNN.out).mono ?_
  rintro e w8 ⟨rfl, rfl⟩
  go_wp2_with fail
  refine (same_is _ _ _ _ n (xorL (xorL X Y) Y) X _ HKE.out HKL.out HK7.out HA7.out HKO.out (by omega)).mono ?_
  rintro e w8 ⟨rfl, rfl⟩
  go_wp2_with fail
  refine (nought_is _ _ n (xorL X Y) (sameB X Y) _ HXL.out HX7.out hn HNX.out).mono ?_
  rintro e w8 ⟨rfl, rfl⟩
  go_wp2_with fail
  refine (same_at _ _ _ _ n X Y _ HL.out.1 HL.out.2.1 HA7.out HB7.out hx hy (by omega)).mono ?_
  rintro e w8 ⟨rfl, rfl⟩
  go_wp2_with fail
  refine (known_any _).mono ?_
  rintro e w9 ⟨rfl, hb9⟩
  go_wp2
  go_ret
  exact ⟨rfl, hd7.trans (hb9.mono hd7.size)⟩

set_option maxHeartbeats 1000000 in
set_option maxRecDepth 100000 in
theorem ring_3 (a b c : Option Addr) (ca cb cc n l1 l2 : Nat) (X Y Z : List Int) (w : World) (m1 : n < l1) (m2 : n < l2) (q1 : l1 ≤ ca) (q2 : l2 ≤ cb) (q3 : n ≤ cc)
    (HL : Hid (X.length = n ∧ Y.length = n ∧ Z.length = n)) (hx : Oct X) (hy : Oct Y) (hz : Oct Z) (ha : Bin w a X) (hb : Bin w b Y) (hc : Bin w c Z) (hn : n ≤ 140737488351232)
    (HXO : Hid (Oct (xorL X Y))) (HXL : Hid ((xorL X Y).length = n)) (HUO : Hid (Oct (xorL Y Z))) (HUL : Hid ((xorL Y Z).length = n)) (HWL : Hid ((xorL (xorL X Y) Z).length = n)) (HWO : Hid (Oct (xorL (xorL X Y) Z))) (HNL : Hid ((xorL X X).length = n)) (HNN : Hid (noughtB (xorL X X) = true))
    (HKE : Hid (xorL (xorL X Y) Y = X)) (HKL : Hid ((xorL (xorL X Y) Y).length = n)) (HKO : Hid (Oct (xorL (xorL X Y) Y))) (HNX : Hid (noughtB (xorL X Y) = sameB X Y)) :
    Calls Try.prog 4 #[.slice a l1 ca, .slice b l2 cb, .slice c n cc] w fun e w' => e = .returned (.bool true) ∧ Below w.heap.size w w' := by
  rcases Nat.lt_or_ge l2 l1 with h12 | h12
  all_goals
    have hl1 := HL.out.1
    go_enter Try.func4, Try.ntmps4
    clear hl1
    go_wp2
    go_quiet (fail)
    rename_i nq
    have HA0 := hid (show Bin (w.drewN nq) a X from ha)
    have HB0 := hid (show Bin (w.drewN nq) b Y from hb)
    have HC0 := hid (show Bin (w.drewN nq) c Z from hc)
    have hd : Below w.heap.size w (w.drewN nq) := below_drewN (Below.refl _ _) nq
    clear ha hb hc
    go_wp2_with fail
    refine (xor_at _ _ _ _ n X Y _ HA0.out HB0.out hx hy HL.out.1 HL.out.2.1 hn).mono ?_
    rintro e w1 ⟨r1, c1, rfl, hbin, hb1⟩
    have HX1 := hid hbin
    have HA1 := hid (HA0.out.below hb1)
    have HB1 := hid (HB0.out.below hb1)
    have HC1 := hid (HC0.out.below hb1)
    have hd1 := hd.trans (hb1.mono hd.size)
    clear hbin hb1 HA0 HB0 HC0 hd
    go_wp2_with fail
    refine (xor_at _ _ _ _ n Y X _ HB1.out HA1.out hy hx HL.out.2.1 HL.out.1 hn).mono ?_
    rintro e w2 ⟨r2, c2, rfl, hbin, hb2⟩
    have HY2 := hid hbin
    have HX2 := hid (HX1.out.below hb2)
    have HA2 := hid (HA1.out.below hb2)
    have HB2 := hid (HB1.out.below hb2)
    have HC2 := hid (HC1.out.below hb2)
    have hd2 := hd1.trans (hb2.mono hd1.size)
    clear hbin hb2 HA1 HB1 HC1 HX1 hd1
    go_wp2_with fail
    refine (xor_at _ _ _ _ n (xorL X Y) Z _ HX2.out HC2.out HXO.out hz HXL.out HL.out.2.2 hn).mono ?_
    rintro e w3 ⟨r3, c3, rfl, hbin, hb3⟩
    have HZ3 := hid hbin
    have HX3 := hid (HX2.out.below hb3)
    have HY3 := hid (HY2.out.below hb3)
    have HA3 := hid (HA2.out.below hb3)
    have HB3 := hid (HB2.out.below hb3)
    have HC3 := hid (HC2.out.below hb3)
    have hd3 := hd2.trans (hb3.mono hd2.size)
    clear hbin hb3 HA2 HB2 HC2 HX2 HY2 hd2
    go_wp2_with fail
    refine (xor_at _ _ _ _ n Y Z _ HB3.out HC3.out hy hz HL.out.2.1 HL.out.2.2 hn).mono ?_
    rintro e w4 ⟨r4, c4, rfl, hbin, hb4⟩
    have HU4 := hid hbin
    have HZ4 := hid (HZ3.out.below hb4)
    have HX4 := hid (HX3.out.below hb4)
    have HY4 := hid (HY3.out.below hb4)
    have HA4 := hid (HA3.out.below hb4)
    have HB4 := hid (HB3.out.below hb4)
    have hd4 := hd3.trans (hb4.mono hd3.size)
    clear hbin hb4 HA3 HB3 HC3 HX3 HY3 HZ3 hd3
    go_wp2_with fail
    refine (xor_at _ _ _ _ n X (xorL Y Z) _ HA4.out HU4.out hx HUO.out HL.out.1 HUL.out hn).mono ?_
    rintro e w5 ⟨r5, c5, rfl, hbin, hb5⟩
    have HV5 := hid hbin
    have HZ5 := hid (HZ4.out.below hb5)
    have HX5 := hid (HX4.out.below hb5)
    have HY5 := hid (HY4.out.below hb5)
    have HA5 := hid (HA4.out.below hb5)
    have HB5 := hid (HB4.out.below hb5)
    have hd5 := hd4.trans (hb5.mono hd4.size)
    clear hbin hb5 HA4 HB4 HU4 HX4 HY4 HZ4 hd4
    go_wp2_with fail
    refine (xor_at _ _ _ _ n X X _ HA5.out HA5.out hx hx HL.out.1 HL.out.1 hn).mono ?_
    rintro e w6 ⟨r6, c6, rfl, hbin, hb6⟩
    have HN6 := hid hbin
    have HV6 := hid (HV5.out.below hb6)
    have HZ6 := hid (HZ5.out.below hb6)
    have HX6 := hid (HX5.out.below hb6)
    have HY6 := hid (HY5.out.below hb6)
    have HA6 := hid (HA5.out.below hb6)
    have HB6 := hid (HB5.out.below hb6)
    have hd6 := hd5.trans (hb6.mono hd5.size)
    clear hbin hb6 HA5 HB5 HV5 HX5 HY5 HZ5 hd5
    go_wp2_with fail
    refine (xor_at _ _ _ _ n (xorL X Y) Y _ HX6.out HB6.out HXO.out hy HXL.out HL.out.2.1 hn).mono ?_
    rintro e w7 ⟨r7, c7, rfl, hbin, hb7⟩
    have HK7 := hid hbin
    have HN7 := hid (HN6.out.below hb7)
    have HV7 := hid (HV6.out.below hb7)
    have HZ7 := hid (HZ6.out.below hb7)
    have HX7 := hid (HX6.out.below hb7)
    have HY7 := hid (HY6.out.below hb7)
    have HA7 := hid (HA6.out.below hb7)
    have HB7 := hid (HB6.out.below hb7)
    have hd7 := hd6.trans (hb7.mono hd6.size)
    clear hbin hb7 HA6 HB6 HV6 HX6 HY6 HZ6 HN6 hd6
    go_wp2_with fail
    refine (same_is _ _ _ _ n (xorL X Y) (xorL Y X) _ (xorL_comm _ _) HXL.out HX7.out HY7.out HXO.out (by omega)).mono ?_
    rintro e w8 ⟨rfl, rfl⟩
    go_wp2_with fail
    refine (same_is _ _ _ _ n (xorL (xorL X Y) Z) (xorL X (xorL Y Z)) _ (xorL_assoc _ _ _) HWL.out HZ7.out HV7.out HWO.out (by omega)).mono ?_
    rintro e w8 ⟨rfl, rfl⟩
    go_wp2_with fail
    refine (nought_is _ _ n (xorL X X) true _ HNL.out HN7.out hn HNN.out).mono ?_
    rintro e w8 ⟨rfl, rfl⟩
    go_wp2_with fail
    refine (same_is _ _ _ _ n (xorL (xorL X Y) Y) X _ HKE.out HKL.out HK7.out HA7.out HKO.out (by omega)).mono ?_
    rintro e w8 ⟨rfl, rfl⟩
    go_wp2_with fail
    refine (nought_is _ _ n (xorL X Y) (sameB X Y) _ HXL.out HX7.out hn HNX.out).mono ?_
    rintro e w8 ⟨rfl, rfl⟩
    go_wp2_with fail
    refine (same_at _ _ _ _ n X Y _ HL.out.1 HL.out.2.1 HA7.out HB7.out hx hy (by omega)).mono ?_
    rintro e w8 ⟨rfl, rfl⟩
    go_wp2_with fail
    refine (known_any _).mono ?_
    rintro e w9 ⟨rfl, hb9⟩
    go_wp2
    go_ret
    exact ⟨rfl, hd7.trans (hb9.mono hd7.size)⟩

theorem ring_walk (a : Option Addr) (ca : Nat) (xs : List Int) (b : Option Addr) (cb : Nat) (ys : List Int) (c : Option Addr) (cc : Nat) (zs : List Int) (w : World)
    (ha : Bin w a xs) (hx : Oct xs) (h1 : xs.length ≤ 140737488351232) (q1 : xs.length ≤ ca) (hb : Bin w b ys) (hy : Oct ys) (h2 : ys.length ≤ 140737488351232) (q2 : ys.length ≤ cb) (hc : Bin w c zs) (hz : Oct zs) (h3 : zs.length ≤ 140737488351232) (q3 : zs.length ≤ cc) :
    Calls Try.prog 4 #[.slice a xs.length ca, .slice b ys.length cb, .slice c zs.length cc] w fun e w' => e = .returned (.bool true) ∧ Below w.heap.size w w' := by
  have key : ∀ n, n ≤ xs.length → n ≤ ys.length → n ≤ zs.length → ∀ X Y Z : List Int, X = xs.take n → Y = ys.take n → Z = zs.take n →
      (X.length = n ∧ Y.length = n ∧ Z.length = n) ∧ Oct X ∧ Oct Y ∧ Oct Z ∧ Bin w a X ∧ Bin w b Y ∧ Bin w c Z := by
    intro n l1 l2 l3 X Y Z eX eY eZ
    subst eX eY eZ
    exact ⟨⟨by simp; omega, by simp; omega, by simp; omega⟩, hx.take n, hy.take n, hz.take n, ha.take n, hb.take n, hc.take n⟩
  have more : ∀ (n : Nat) (X Y Z : List Int), X.length = n → Y.length = n → Z.length = n → Oct X → Oct Y → Oct Z →
      Oct (xorL X Y) ∧ (xorL X Y).length = n ∧ Oct (xorL Y Z) ∧ (xorL Y Z).length = n ∧ (xorL (xorL X Y) Z).length = n ∧ Oct (xorL (xorL X Y) Z) ∧ (xorL X X).length = n ∧ noughtB (xorL X X) = true ∧ xorL (xorL X Y) Y = X ∧ (xorL (xorL X Y) Y).length = n ∧ Oct (xorL (xorL X Y) Y) ∧ noughtB (xorL X Y) = sameB X Y := by
    intro n X Y Z lX lY lZ oX oY oZ
    have l1 : (xorL X Y).length = n := by rw [xorL_length _ _ (by omega)]; exact lX
    refine ⟨xorL_oct oX oY, l1, xorL_oct oY oZ, by rw [xorL_length _ _ (by omega)]; exact lY, by rw [xorL_length _ _ (by omega)]; exact l1, xorL_oct (xorL_oct oX oY) oZ, by rw [xorL_length _ _ rfl]; exact lX, by rw [xorL_self]; exact nought_zero _, ?_, by rw [xorL_length _ _ (by omega)]; exact l1, xorL_oct (xorL_oct oX oY) oY, nought_xor X Y oX oY (by omega)⟩
    rw [xorL_assoc, xorL_self, xorL_zero X oX _ (by omega)]
  by_cases c1 : xs.length ≤ ys.length ∧ xs.length ≤ zs.length
  · obtain ⟨L, oX, oY, oZ, bX, bY, bZ⟩ := key xs.length (by omega) (by omega) (by omega) _ _ _ rfl rfl rfl
    obtain ⟨m1, m2, m3, m4, m5, m6, m7, m8, m9, m10, m11, m12⟩ := more _ _ _ _ L.1 L.2.1 L.2.2 oX oY oZ
    exact ring_1 a b c ca cb cc xs.length ys.length zs.length _ _ _ w c1.1 c1.2 q1 q2 q3 L oX oY oZ bX bY bZ h1 m1 m2 m3 m4 m5 m6 m7 m8 m9 m10 m11 m12
  · by_cases c2 : ys.length ≤ xs.length ∧ ys.length ≤ zs.length
    · obtain ⟨L, oX, oY, oZ, bX, bY, bZ⟩ := key ys.length (by omega) (by omega) (by omega) _ _ _ rfl rfl rfl
      obtain ⟨m1, m2, m3, m4, m5, m6, m7, m8, m9, m10, m11, m12⟩ := more _ _ _ _ L.1 L.2.1 L.2.2 oX oY oZ
      exact ring_2 a b c ca cb cc ys.length xs.length zs.length _ _ _ w (by omega) c2.2 q1 q2 q3 L oX oY oZ bX bY bZ h2 m1 m2 m3 m4 m5 m6 m7 m8 m9 m10 m11 m12
    · obtain ⟨L, oX, oY, oZ, bX, bY, bZ⟩ := key zs.length (by omega) (by omega) (by omega) _ _ _ rfl rfl rfl
      obtain ⟨m1, m2, m3, m4, m5, m6, m7, m8, m9, m10, m11, m12⟩ := more _ _ _ _ L.1 L.2.1 L.2.2 oX oY oZ
      exact ring_3 a b c ca cb cc zs.length xs.length ys.length _ _ _ w (by omega) (by omega) q1 q2 q3 L oX oY oZ bX bY bZ h3 m1 m2 m3 m4 m5 m6 m7 m8 m9 m10 m11 m12
end Go.Proofs.Ytgnhbfjngdgibaa
