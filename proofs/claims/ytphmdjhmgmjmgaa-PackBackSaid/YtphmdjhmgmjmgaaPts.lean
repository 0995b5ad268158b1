/-
  The walk of PackTexts.
-/
import Derived.Test.YtphmdjhmgmjmgaaPkn
import Derived.Test.YtphmdjhmgmjmgaaKa
namespace Go.Proofs.Ytphmdjhmgmjmgaa
open Go.RowKit
set_option linter.unusedVariables false
set_option linter.unusedSimpArgs false

theorem gb_setCell {w w1 : World} {g : Nat} (h : w.grownBy w1 (some g)) (o : Nat) (v : Value) : w.grownBy (w1.setCell ⟨g, o, none⟩ v) (some g) := gb_set (vs := [v]) (o := o) h (.inl rfl)
theorem Bin.aside {w w' : World} {p : Option Addr} {xs : List Int} {g : Nat} (h : Bin w p xs) (hg : w.grownBy w' (some g)) (hne : ∀ a, p = some a → a.block ≠ g) : Bin w' p xs :=
  h.grown hg fun a ha e => hne a ha (Option.some.inj e)

/-- What the caller handed in, where a block of one's own is turned. -/
theorem Bin.asideB {w0 w w' : World} {p : Option Addr} {xs : List Int} {g : Nat} (h0 : Bin w0 p xs) (h : Bin w p xs) (hg : w.grownBy w' (some g)) (hlt : w0.heap.size ≤ g) : Bin w' p xs := fun hn => by
  obtain ⟨b, o, rfl, hbl, _⟩ := h0.at hn
  exact (h.aside hg (fun a e => by cases e; show b ≠ g; omega)) hn

set_option maxHeartbeats 4000000 in
set_option maxRecDepth 100000 in
theorem ptexts_law (p : Option Addr) (c : Nat) (xs : List Int) (w : World) (hp : Bin w p xs) (ho : Oct xs) (hm : xs.length ≤ 140737488351232) (hc : xs.length ≤ c) :
    Calls Try.prog 4 #[.slice p xs.length c] w fun e w' => e = .returned (.bool true) ∧ Below w.heap.size w w' := by
  have hcopy := copy_any p c xs w hp hm
  obtain ⟨n, hn⟩ : ∃ n, n = xs.length := ⟨_, rfl⟩
  rw [← hn] at hcopy hm hc ⊢
  have HL := hid hn.symm
  clear hn
  by_cases hlt : 4096 < n
  · have i1 : (4096 : Int) < (n : Int) := by omega
    go_enter Try.func4, Try.ntmps4
    go_wp2_with fail
    refine (known7_any w).mono ?_
    rintro e w1 ⟨rfl, hb1⟩
    go_wp2_with fail
    go_ret
    exact ⟨rfl, hb1⟩
  · have i1 : ¬ (4096 : Int) < (n : Int) := by omega
    have HP := hid hp
    have HP0 := hid hp
    clear hp
    go_enter Try.func4, Try.ntmps4
    go_wp2_with fail
    refine hcopy.mono ?_
    rintro e w1 ⟨g, c1, rfl, hown, hb1⟩
    clear hcopy
    obtain ⟨hgl, hnc, hbin⟩ := hown.slice
    have hgw : g < w1.heap.size := by
      obtain ⟨_, _, hv, _, _⟩ := hown.bin
      exact (World.ownsRow.lt hown g rfl).2
    have HB1 := hid hb1
    have HI := hid hbin
    clear hown hbin hb1
    go_wp2_with fail
    refine (pText_of _ _ n xs w1 HI.out ho HL.out hnc hm).mono ?_
    rintro e w2 ⟨v, rfl, hv, hb2⟩
    have hpos := numL_pos n
    have hten := numL_ten (n := n) (by omega)
    obtain ⟨nt, hnt⟩ : ∃ nt, Hid (nt = (numL n).length + n) := ⟨_, rfl⟩
    have hnt0 : 0 < nt ∧ nt ≤ 5000 := by have := hnt.out; omega
    rw [← hnt.out] at hv
    rcases hv.shape with ⟨_, h0⟩ | ⟨gt, cap, rfl, hgt, hcap⟩
    · omega
    have HB2 := hid (HB1.out.trans (hb2.mono HB1.out.size))
    have HI2 := hid (HI.out.below hb2)
    have HP2 := hid (HP.out.below HB2.out)
    have HV := hid hv
    have hs2 := hb2.size
    clear hv hb2 HB1 HI HP
    go_wp2_with fail
    refine (refText_of p c n xs w2 HP2.out ho HL.out hm).mono ?_
    rintro e w3 ⟨v3, rfl, hv3, hb3⟩
    obtain ⟨p3, c3, rfl, _, bv3⟩ := hv3.bin
    have HB3 := hid (HB2.out.trans (hb3.mono HB2.out.size))
    have HI3 := hid (HI2.out.below hb3)
    have HP3 := hid (HP2.out.below hb3)
    have HV3 := hid (HV.out.below hb3)
    have B3 := hid bv3
    have hgtl : gt < w2.heap.size := (World.ownsRow.lt HV.out gt rfl).2
    have hs3 := hb3.size
    clear hv3 hb3 HB2 HI2 HP2 HV bv3
    have hol : Oct (numL n ++ xs) := fun x hx => by
      rcases List.mem_append.1 hx with hx | hx
      · exact numL_oct n x hx
      · exact ho x hx
    have hll : (numL n ++ xs).length = nt := by rw [List.length_append, HL.out, hnt.out]
    have hsame := refSame_len (some ⟨gt, 0, none⟩) p3 cap c3 nt nt (numL n ++ xs) (numL n ++ xs) w3 hll hll HV3.out.slice.2.2 B3.out hol hol
    rw [sameB_iff.2 rfl] at hsame
    rw [← hnt.out]
    clear hol hll
    go_wp2_with fail
    refine hsame.mono ?_
    rintro e w4 ⟨rfl, rfl⟩
    clear hsame B3
    obtain ⟨ys, hys⟩ : ∃ ys, Own w1.heap.size w3 (.slice (some ⟨gt, 0, none⟩) nt cap) nt ys := ⟨_, HV3.out⟩
    clear HV3
    go_wp2_with fail
    go_loopw [21] (fun i wr => ∃ k : Nat, k ≤ nt ∧ i = .int .i64 (k : Int) ∧ (∃ ys, Own w1.heap.size wr (.slice (some ⟨gt, 0, none⟩) nt cap) nt ys) ∧ Bin wr (some ⟨g, 0, none⟩) xs ∧ Bin wr p xs ∧ Below w.heap.size w wr) (fun i _ => nt - (intOf i).toNat)
    case atStart => exact ⟨0, Nat.zero_le _, rfl, ⟨ys, hys⟩, HI3.out, HP3.out, HB3.out⟩
    case round =>
      clear hys HI3 HP3 HB3
      obtain ⟨k, hk, rfl, ⟨zs, hO⟩, hI, hP, hB⟩ := hrel
      by_cases hlt : k < nt
      · have hcell := hO.cellAt k hlt
        have hfz := hO.frozenAt k
        have HO := hid (hO.stored k 7)
        have hgb := gb_setCell (gb_of (some gt) (Below.refl wr.heap.size wr)) k (.int .u8 7)
        have HI := hid (hI.aside hgb (fun a e => by cases e; show g ≠ gt; omega))
        have HP := hid (HP0.out.asideB hP hgb (by omega))
        have HB := hid (hB.setCell (p := ⟨gt, k, none⟩) (show w.heap.size ≤ gt from by omega) (.int .u8 7))
        have kI : (k : Int) < (nt : Int) := by omega
        clear hO hI hP hB hgb
        go_wp2_with fail
        go_roundw
        case rel => exact ⟨k + 1, by omega, by go_num, ⟨_, HO.out⟩, HI.out, HP.out, HB.out⟩
        case measure => simp [intOf]; omega
      · obtain rfl : k = nt := by omega
        have kI : ¬ (k : Int) < (k : Int) := by omega
        have HB := hid hB
        have hsame := refSame_len (some ⟨g, 0, none⟩) p c1 c n n xs xs wr HL.out HL.out hI hP ho ho
        rw [sameB_iff.2 rfl] at hsame
        clear hO hI hP hB
        go_wp2_with fail
        refine hsame.mono ?_
        rintro e w4 ⟨rfl, rfl⟩
        clear hsame
        go_wp2_with fail
        refine (known7_any _).mono ?_
        rintro e w5 ⟨rfl, hb5⟩
        go_wp2_with fail
        go_ret
        exact ⟨rfl, HB.out.trans (hb5.mono HB.out.size)⟩
end Go.Proofs.Ytphmdjhmgmjmgaa
