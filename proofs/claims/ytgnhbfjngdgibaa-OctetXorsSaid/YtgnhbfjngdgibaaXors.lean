/-
  The walk of OctetXors.
-/
import Derived.Test.YtgnhbfjngdgibaaKnown
import Derived.Test.YtgnhbfjngdgibaaKa
import Derived.Test.YtgnhbfjngdgibaaRefXor
namespace Go.Proofs.Ytgnhbfjngdgibaa
open Go.RowKit

set_option maxRecDepth 100000 in
theorem xors_no (p q : Option Addr) (c d : Nat) (xs ys : List Int) (w : World) (hp : Bin w p xs) (hq : Bin w q ys) (hx : Oct xs) (hy : Oct ys) (hl : xs.length ≠ ys.length) (h1 : xs.length ≤ 140737488351232) (h2 : ys.length ≤ 140737488351232) :
    Calls Try.prog 3 #[.slice p xs.length c, .slice q ys.length d] w fun e w' => e = .returned (.bool true) ∧ Below w.heap.size w w' := by
  have hne : ((xs.length : Int) != (ys.length : Int)) = true := by simp; omega
  have HL := hid hl
  clear hl
  go_enter Try.func3, Try.ntmps3
  go_wp2_with fail
  refine (copy_any p c xs w hp h1).mono ?_
  rintro e w1 ⟨g, c1, rfl, hown, hb1⟩
  obtain ⟨_, _, hv, _, hbin⟩ := hown.bin
  obtain ⟨rfl, _, rfl⟩ := Value.slice.inj hv
  have HX1 := hid hbin
  clear hown hbin hv
  go_wp2_with fail
  refine (copy_any q d ys _ (hq.below hb1) h2).mono ?_
  rintro e w2 ⟨g2, c2, rfl, hown, hb2⟩
  obtain ⟨_, _, hv, _, hbin⟩ := hown.bin
  obtain ⟨rfl, _, rfl⟩ := Value.slice.inj hv
  have HY2 := hid hbin
  have HX2 := hid (HX1.out.below hb2)
  have HA2 := hid ((hp.below hb1).below hb2)
  have HB2 := hid ((hq.below hb1).below hb2)
  clear hown hbin hv hp hq
  go_wp2_with fail
  refine (xor_no _ _ _ _ _ _ _ HL.out).mono ?_
  rintro e w3 ⟨rfl, rfl⟩
  go_wp2_with fail
  refine (same_any _ _ _ _ xs ys _ HX2.out HY2.out hx hy (by unfold maxLen; omega)).mono ?_
  rintro e w3 ⟨rfl, rfl⟩
  go_wp2_with fail
  refine (nought_any _ _ xs _ HX2.out (by unfold maxLen; omega)).mono ?_
  rintro e w3 ⟨rfl, rfl⟩
  go_wp2_with fail
  refine (refSame_yes _ _ _ _ _ xs _ rfl HX2.out HA2.out hx).mono ?_
  rintro e w3 ⟨rfl, rfl⟩
  go_wp2_with fail
  refine (refSame_yes _ _ _ _ _ ys _ rfl HY2.out HB2.out hy).mono ?_
  rintro e w3 ⟨rfl, rfl⟩
  go_wp2_with fail
  refine (refSame_any _ _ _ _ xs ys _ HA2.out HB2.out hx hy).mono ?_
  rintro e w3 ⟨rfl, rfl⟩
  go_wp2_with fail
  refine (refNought_any _ _ xs _ HA2.out (by unfold maxLen; omega)).mono ?_
  rintro e w3 ⟨rfl, rfl⟩
  go_wp2_with fail
  refine (known_any _).mono ?_
  rintro e w3 ⟨rfl, hb3⟩
  go_wp2
  go_ret
  exact ⟨rfl, (hb1.trans (hb2.mono hb1.size)).trans (hb3.mono (Nat.le_trans hb1.size hb2.size))⟩
set_option maxRecDepth 100000 in
/-- Whether two rows are the same, and noughts, as the second half asks it. -/
theorem xors_yes (p q : Option Addr) (c d : Nat) (xs ys : List Int) (w : World) (hp : Bin w p xs) (hq : Bin w q ys) (hx : Oct xs) (hy : Oct ys) (hl : ys.length = xs.length) (h1 : xs.length ≤ 140737488351232) :
    Calls Try.prog 3 #[.slice p xs.length c, .slice q xs.length d] w fun e w' => e = .returned (.bool true) ∧ Below w.heap.size w w' := by
  have HL := hid hl
  have copy2 : ∀ (w : World), Bin w q ys → Calls Try.prog 10 #[.slice q xs.length d] w fun e w' => ∃ g c, e = .returned (.slice (some ⟨g, 0, none⟩) xs.length c) ∧ Bin w' (some ⟨g, 0, none⟩) ys ∧ Below w.heap.size w w' := by
    intro w hq
    have h := copy_any q d ys w hq (by omega)
    rw [hl] at h
    refine h.mono ?_
    rintro e w' ⟨g, c, rfl, hown, hb⟩
    obtain ⟨_, _, hv, _, hbin⟩ := hown.bin
    obtain ⟨rfl, _, rfl⟩ := Value.slice.inj hv
    exact ⟨g, c, rfl, hbin, hb⟩
  have HC := hid copy2
  have hsame : ∀ (p q : Option Addr) (c d : Nat) (w : World), Bin w p xs → Bin w q ys → Calls Try.prog 12 #[.slice p xs.length c, .slice q xs.length d] w fun e w' => e = .returned (.bool (sameB xs ys)) ∧ w = w' := by
    intro p q c d w hp hq
    have h := same_any p q c d xs ys w hp hq hx hy (by unfold maxLen; omega)
    rwa [hl] at h
  have HS := hid hsame
  have hrsame : ∀ (p q : Option Addr) (c d : Nat) (w : World), Bin w p xs → Bin w q ys → Calls Try.prog 14 #[.slice p xs.length c, .slice q xs.length d] w fun e w' => e = .returned (.bool (sameB xs ys)) ∧ w = w' := by
    intro p q c d w hp hq
    have h := refSame_any p q c d xs ys w hp hq hx hy
    rwa [hl] at h
  have HR := hid hrsame
  have HXL := hid (xorL_length xs ys hl)
  clear hl copy2 hsame hrsame
  go_enter Try.func3, Try.ntmps3
  go_wp2_with fail
  refine (copy_any p c xs w hp h1).mono ?_
  rintro e w1 ⟨g, c1, rfl, hown, hb1⟩
  obtain ⟨_, _, hv, _, hbin⟩ := hown.bin
  obtain ⟨rfl, _, rfl⟩ := Value.slice.inj hv
  have HX1 := hid hbin
  clear hown hbin hv
  go_wp2_with fail
  refine (HC.out _ (hq.below hb1)).mono ?_
  rintro e w2 ⟨g2, c2, rfl, hbin, hb2⟩
  have HY2 := hid hbin
  have HX2 := hid (HX1.out.below hb2)
  have HA2 := hid ((hp.below hb1).below hb2)
  have HB2 := hid ((hq.below hb1).below hb2)
  clear hbin hp hq
  go_wp2_with fail
  refine (xor_any _ _ _ _ xs ys _ HX2.out HY2.out hx hy HL.out h1).mono ?_
  rintro e w3 ⟨v, rfl, hown, hb3⟩
  obtain ⟨r, cr, rfl, _, hbin⟩ := hown.bin
  have HO3 := hid hown
  have HZ3 := hid hbin
  have HX3 := hid (HX2.out.below hb3)
  have HY3 := hid (HY2.out.below hb3)
  have HA3 := hid (HA2.out.below hb3)
  have HB3 := hid (HB2.out.below hb3)
  clear hown hbin
  go_wp2_with fail
  refine (HS.out _ _ _ _ _ HX3.out HY3.out).mono ?_
  rintro e w4 ⟨rfl, rfl⟩
  go_wp2_with fail
  refine (nought_any _ _ xs _ HX3.out (by unfold maxLen; omega)).mono ?_
  rintro e w4 ⟨rfl, rfl⟩
  go_wp2_with fail
  refine (refSame_yes _ _ _ _ _ xs _ rfl HX3.out HA3.out hx).mono ?_
  rintro e w4 ⟨rfl, rfl⟩
  go_wp2_with fail
  refine (refSame_yes _ _ _ _ _ ys _ HL.out HY3.out HB3.out hy).mono ?_
  rintro e w4 ⟨rfl, rfl⟩
  go_wp2_with fail
  refine (HR.out _ _ _ _ _ HA3.out HB3.out).mono ?_
  rintro e w4 ⟨rfl, rfl⟩
  go_wp2_with fail
  refine (refNought_any _ _ xs _ HA3.out (by unfold maxLen; omega)).mono ?_
  rintro e w4 ⟨rfl, rfl⟩
  go_wp2_with fail
  refine (refXor_any _ _ _ _ xs ys _ HA3.out HB3.out hx hy HL.out h1).mono ?_
  rintro e w4 ⟨v, rfl, hown, hb4⟩
  obtain ⟨r2, cr2, rfl, _, hbin⟩ := hown.bin
  have HZ4 := hid hbin
  clear hown hbin
  go_wp2_with fail
  refine (refSame_yes _ _ _ _ _ (xorL xs ys) _ HXL.out (HZ3.out.below hb4) HZ4.out (xorL_oct hx hy)).mono ?_
  rintro e w5 ⟨rfl, rfl⟩
  have HO4 := hid (HO3.out.below hb4)
  have HB4 := hid (show Below w2.heap.size w2 w4 from hb3.trans (hb4.mono hb3.size))
  have HK := hid (show Below w.heap.size w w2 from hb1.trans (hb2.mono hb1.size))
  clear HO3 HZ3 HZ4 hb3 hb4 hb1 hb2 HX3 HY3 HA3 HB3 HX1
  go_wp2_with fail
  go_loopw [77] (fun i wr => ∃ k : Nat, k ≤ xs.length ∧ i = .int .i64 (k : Int) ∧ (∃ zs, Own w2.heap.size wr (.slice r xs.length cr) xs.length zs) ∧ Below w2.heap.size w2 wr) (fun i _ => xs.length - (intOf i).toNat)
  case atStart => exact ⟨0, by omega, rfl, ⟨_, HO4.out⟩, HB4.out⟩
  case round =>
    obtain ⟨k, hk, rfl, ⟨zs, hown⟩, hbel⟩ := hrel
    by_cases hlt : k < xs.length
    · rcases hown.shape with ⟨_, hn⟩ | ⟨gr, cr', hv, hB, _⟩
      · omega
      · obtain ⟨rfl, _, rfl⟩ := Value.slice.inj hv
        have hcell := hown.cellAt k hlt
        have hfz := hown.frozenAt k
        have HN := hid (hown.stored k 7)
        clear hown hv
        go_wp2
        go_roundw
        case rel => exact ⟨k + 1, by omega, by go_num, ⟨_, HN.out⟩, hbel.setCell hB _⟩
        case measure => simp [intOf]; omega
    · clear hown
      have HX5 := hid (HX2.out.below hbel)
      have HY5 := hid (HY2.out.below hbel)
      have HA5 := hid (HA2.out.below hbel)
      have HB5 := hid (HB2.out.below hbel)
      go_wp2_with fail
      refine (refSame_yes _ _ _ _ _ xs _ rfl HX5.out HA5.out hx).mono ?_
      rintro e w6 ⟨rfl, rfl⟩
      go_wp2_with fail
      refine (refSame_yes _ _ _ _ _ ys _ HL.out HY5.out HB5.out hy).mono ?_
      rintro e w6 ⟨rfl, rfl⟩
      go_wp2_with fail
      refine (known_any _).mono ?_
      rintro e w6 ⟨rfl, hb6⟩
      go_wp2
      go_ret
      exact ⟨rfl, (HK.out.trans (hbel.mono HK.out.size)).trans (hb6.mono (Nat.le_trans HK.out.size hbel.size))⟩

theorem xors_walk (p : Option Addr) (c : Nat) (xs : List Int) (q : Option Addr) (d : Nat) (ys : List Int) (w : World) (hp : Bin w p xs) (hx : Oct xs) (h1 : xs.length ≤ 140737488351232) (hq : Bin w q ys) (hy : Oct ys) (h2 : ys.length ≤ 140737488351232) :
    Calls Try.prog 3 #[.slice p xs.length c, .slice q ys.length d] w fun e w' => e = .returned (.bool true) ∧ Below w.heap.size w w' := by
  by_cases hl : ys.length = xs.length
  · rw [hl]
    exact xors_yes p q c d xs ys w hp hq hx hy hl h1
  · exact xors_no p q c d xs ys w hp hq hx hy (fun h => hl h.symm) h1 h2
end Go.Proofs.Ytgnhbfjngdgibaa
