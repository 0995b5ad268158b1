/-
  The walk of PackBack.
-/
import Derived.Test.YtphmdjhmgmjmgaaPrl
import Derived.Test.YtphmdjhmgmjmgaaOwi
import Derived.Test.YtphmdjhmgmjmgaaPbp
import Derived.Deep.CutRange
import Derived.Deep.DeepCutAuto
namespace Go.Proofs.Ytphmdjhmgmjmgaa
open Go.RowKit
set_option linter.unusedVariables false
set_option linter.unusedSimpArgs false

/-- Where each of the first k items ends. -/
def ends (I : Nat → Bool) (N : Nat → Nat) (T : Nat → List Int) (k : Nat) : List Int := (List.range k).map fun i => (((cats I N T (i + 1)).length : Nat) : Int)
theorem own_bin {B n c : Nat} {w : World} {p : Option Addr} {xs : List Int} (h : Own B w (.slice p n c) n xs) : Bin w p xs := by
  obtain ⟨_, _, e, _, hb⟩ := h.bin
  cases e
  exact hb
theorem ends_snoc (I : Nat → Bool) (N : Nat → Nat) (T : Nat → List Int) (k : Nat) : ends I N T k ++ [(((cats I N T (k + 1)).length : Nat) : Int)] = ends I N T (k + 1) := by
  rw [ends, ends, List.range_succ, List.map_append]
  rfl
theorem ends_at (I : Nat → Bool) (N : Nat → Nat) (T : Nat → List Int) {j k : Nat} (h : j < k) : (ends I N T k).getD j 0 = (((cats I N T (j + 1)).length : Nat) : Int) := by
  rw [ends, List.getD_eq_getElem?_getD, List.getElem?_map, List.getElem?_range h]
  rfl

/-- The two readers and the ends. -/
structure BSt (w : World) (g1 k1 g2 k2 : Nat) (X Y : List Int) (v6 : Value) (k : Nat) (es : List Int) (E at2 : Nat) (f2 : Int) (W : World) : Prop where
  r : PRd W g1 k1 X E 0
  s : PRd W g2 k2 Y at2 f2
  e : OwI w.heap.size W v6 k es
  bel : Below w.heap.size w W
structure BAp (B g1 k1 g2 k2 : Nat) (v6 : Value) : Prop where
  b1 : B ≤ g1
  b2 : B ≤ g2
  n12 : g1 ≠ g2
  n12k : g1 ≠ k2
  n21k : g2 ≠ k1
  u : ∀ q, v6.ownBlock = some q → q ≠ g1 ∧ q ≠ g2
section
variable {w W W' : World} {g1 k1 g2 k2 k E E' at2 at3 : Nat} {X Y es : List Int} {v6 : Value} {f2 f3 : Int}
theorem BSt.stepR (h : BSt w g1 k1 g2 k2 X Y v6 k es E at2 f2 W) (D : BAp w.heap.size g1 k1 g2 k2 v6) (hg : W.grownBy W' (some g1)) (hp : PRd W' g1 k1 X E' 0) : BSt w g1 k1 g2 k2 X Y v6 k es E' at2 f2 W' :=
  ⟨hp, h.s.grown hg (fun e => D.n12 (Option.some.inj e).symm) (fun e => D.n12k (Option.some.inj e).symm), row_aside h.e hg (fun q hq e => (D.u q hq).1 (Option.some.inj e)), h.bel.grown hg h.bel.size (fun q hq => by cases hq; exact D.b1)⟩
theorem BSt.stepS (h : BSt w g1 k1 g2 k2 X Y v6 k es E at2 f2 W) (D : BAp w.heap.size g1 k1 g2 k2 v6) (hg : W.grownBy W' (some g2)) (hp : PRd W' g2 k2 Y at3 f3) : BSt w g1 k1 g2 k2 X Y v6 k es E at3 f3 W' :=
  ⟨h.r.grown hg (fun e => D.n12 (Option.some.inj e)) (fun e => D.n21k (Option.some.inj e).symm), hp, row_aside h.e hg (fun q hq e => (D.u q hq).2 (Option.some.inj e)), h.bel.grown hg h.bel.size (fun q hq => by cases hq; exact D.b2)⟩
theorem BSt.step0 (h : BSt w g1 k1 g2 k2 X Y v6 k es E at2 f2 W) (D : BAp w.heap.size g1 k1 g2 k2 v6) (hb : Below W.heap.size W W') : BSt w g1 k1 g2 k2 X Y v6 k es E at2 f2 W' :=
  ⟨h.r.grown (gb_of none hb) (by simp) (by simp), h.s.grown (gb_of none hb) (by simp) (by simp), row_below h.e hb, h.bel.trans (hb.mono h.bel.size)⟩
end

set_option maxHeartbeats 16000000 in
set_option maxRecDepth 100000 in
theorem pback_in (a : Option Addr) (len cl : Nat) (N : Nat → Nat) (I : Nat → Bool) (P2 : Nat → Option Addr) (C2 : Nat → Nat) (T : Nat → List Int) (cut : Int) (w : World)
    (hlc : len ≤ cl) (hr : Rws w a len [fun i => .int .u64 (N i : Nat), fun i => .bool (I i), fun i => .slice (P2 i) (T i).length (C2 i)]) (hn : ∀ i, i < len → N i < 2 ^ 64) (ht : ∀ i, i < len → Bin w (P2 i) (T i) ∧ Oct (T i) ∧ (T i).length ≤ C2 i) (hcut : (Lit.int .i64 cut).wf = true) (hlm : len ≤ maxLen) :
    Calls Try.prog 7 #[.slice a len cl, .int .i64 cut] w fun e w' => e = .returned (.bool true) ∧ Below w.heap.size w w' := by
  obtain ⟨i0, hi, hz0, hz1, hz2⟩ := info_parts Try.infoU8
  unfold maxLen at hlm
  by_cases hlt : 60 < len
  · have i1 : (60 : Int) < (len : Int) := by omega
    go_enter Try.func7, Try.ntmps7
    go_wp2_with fail
    refine (known7_any w).mono ?_
    rintro e w1 ⟨rfl, hb1⟩
    go_wp2_with fail
    go_ret
    exact ⟨rfl, hb1⟩
  · have i1 : ¬ (60 : Int) < (len : Int) := by omega
    have HR := hid hr
    have HT := hid ht
    have HN := hid hn
    clear hr ht hn
    go_enter Try.func7, Try.ntmps7
    go_wp2_with fail
    go_loopw [5, 6, 27] (fun v5 v6 i wr => ∃ (k L : Nat) (p5 : Option Addr) (c5 : Nat), k ≤ len ∧ i = .int .i64 (k : Int) ∧ Hid (L = (cats I N T k).length) ∧ v5 = .slice p5 L c5 ∧ L ≤ c5 ∧ Own w.heap.size wr (.slice p5 L c5) L (cats I N T k) ∧ OwI w.heap.size wr v6 k (ends I N T k) ∧
      Hid (∀ i, i < k → (T i).length ≤ 200) ∧ (∀ q, v6.ownBlock = some q → (Value.slice p5 L c5).ownBlock ≠ some q) ∧ Below w.heap.size w wr) (fun _ _ i _ => len - (intOf i).toNat)
    case atStart => exact ⟨0, 0, none, 0, Nat.zero_le _, rfl, rfl, rfl, Nat.le_refl _, Own.nil _ _, OwI.nil _ _, hid (fun i hi => absurd hi (Nat.not_lt_zero _)), (fun q hq => by cases hq), Below.refl _ _⟩
    case round =>
      obtain ⟨k, L, p5, c5, hk, rfl, hL, rfl, hLc, hO, hI, h2, hsep, hB⟩ := hrel
      have HO := hid hO
      have HI := hid hI
      have HB := hid hB
      have hLb : L ≤ 12600 := by
        have := cats_len (I := I) (N := N) (T := T) k (fun i hi => ⟨HN.out i (by omega), h2.out i hi⟩)
        rw [hL.out]
        omega
      clear hO hI hB
      by_cases hkl : k < len
      · have kI : (k : Int) < (len : Int) := by omega
        obtain ⟨b, o, rfl, hbl, hcol⟩ := HR.out.at hkl (Nat.succ_pos _)
        have hc0 : wr.cell? ⟨b, o + k * 3, none⟩ = some (.int .u64 (N k : Nat)) := (HB.out.cell (p := ⟨b, o + k * 3, none⟩) hbl).trans (hcol 0 _ rfl)
        have hc1 : wr.cell? ⟨b, o + k * 3 + 1, none⟩ = some (.bool (I k)) := (HB.out.cell (p := ⟨b, o + k * 3 + 1, none⟩) hbl).trans (hcol 1 _ rfl)
        have hc2 : wr.cell? ⟨b, o + k * 3 + 2, none⟩ = some (.slice (P2 k) (T k).length (C2 k)) := (HB.out.cell (p := ⟨b, o + k * 3 + 2, none⟩) hbl).trans (hcol 2 _ rfl)
        obtain ⟨hbt, hot, hct⟩ := HT.out k hkl
        have hNk := HN.out k hkl
        obtain ⟨tl, htl⟩ : ∃ tl, Hid (tl = (T k).length) := ⟨_, rfl⟩
        rw [← htl.out] at hc2 hct
        obtain ⟨L', hL'⟩ : ∃ L', Hid (L' = L + (itm (I k) (N k) (T k)).length) := ⟨_, rfl⟩
        have hLL : Hid (L' = (cats I N T (k + 1)).length) := hid (by rw [hL'.out, cats, List.length_append, ← hL.out])
        clear hcol
        by_cases h200 : 200 < tl
        · have i2 : (200 : Int) < (tl : Int) := by omega
          go_wp2_with fail
          refine (known7_any _).mono ?_
          rintro e w5 ⟨rfl, hb5⟩
          go_wp2_with fail
          go_ret
          exact ⟨rfl, HB.out.trans (hb5.mono HB.out.size)⟩
        · have i2 : ¬ (200 : Int) < (tl : Int) := by omega
          have h2' : Hid (∀ i, i < k + 1 → (T i).length ≤ 200) := hid (fun i hi => by
            rcases Nat.lt_succ_iff_lt_or_eq.1 hi with h | rfl
            · exact h2.out i h
            · have := htl.out; omega)
          have hten := numL_ten (n := N k) hNk
          have htent := numL_ten (n := tl) (by omega)
          have HBT := hid (hbt.below HB.out)
          clear hbt
          cases hIk : I k with
          | true =>
            rw [hIk] at hc1
            have hit : itm (I k) (N k) (T k) = numL tl ++ T k := by rw [itm, hIk, if_pos rfl, ← htl.out]
            have hil : Hid ((itm (I k) (N k) (T k)).length = (numL tl).length + tl) := hid (by rw [hit, List.length_append, ← htl.out])
            have hL'e : L' = L + ((numL tl).length + tl) := by rw [hL'.out, hil.out]
            have hL' := hid hL'e
            clear hL'e
            go_wp2_with fail
            refine (pText_of _ _ tl (T k) _ HBT.out hot htl.out.symm hct (by omega)).mono ?_
            rintro e w2 ⟨v2, rfl, hv2, hb2⟩
            obtain ⟨p2, c2, rfl, _, hvb2⟩ := hv2.bin
            have HB2 := hid (HB.out.trans (hb2.mono HB.out.size))
            have HO2 := hid (HO.out.below hb2)
            have HI2 := hid (show OwI w.heap.size w2 u6 k (ends I N T k) from row_below HI.out hb2)
            have hlb := hid hvb2
            have hu6l : ∀ q, u6.ownBlock = some q → q < w2.heap.size := fun q hq => (World.ownsRow.lt HI2.out q hq).2
            have hs2 : w.heap.size ≤ w2.heap.size := HB2.out.size
            clear hv2 hb2 hvb2 HB HO HI
            go_upto_region 13 with (at_builtin; refine wpList_append_bin rfl (.tmp 43) (.tmp 49) 24 rfl i0 Try.underlying24 hi hz0 hz1 hz2 w.heap.size _ L _ rfl (by exact HO2.out) p2 _ c2 (numL tl ++ T k) rfl (by rw [List.length_append, ← htl.out]) (by exact hlb.out) (by omega) hs2 ?_; intro p7 c7 w4 hO4 hg4 hat4)
            have HO4 : Hid (Own w.heap.size w4 (.slice p7 L' c7) L' (cats I N T (k + 1))) := hid (by rw [hL'.out, cats, hit]; exact hO4)
            have hI4 : OwI w.heap.size w4 u6 k (ends I N T k) := row_aside HI2.out hg4 (fun q hq e => hsep q hq e.symm)
            have HI4 := hid hI4
            have hsep4 : ∀ q, u6.ownBlock = some q → (Value.slice p7 L' c7).ownBlock ≠ some q := fun q hq e => by
              rcases hat4 with h | h
              · exact hsep q hq (h.symm.trans (by rw [hL'.out] at e; exact e))
              · have h5 : some w2.heap.size = some q := h.symm.trans (by rw [hL'.out] at e; exact e)
                have := hu6l q hq
                have := Option.some.inj h5
                omega
            have HB4 := hid (HB2.out.grown hg4 HB2.out.size (fun q hq => (World.ownsRow.lt HO2.out q hq).1))
            have hc7 : L' ≤ c7 := by obtain ⟨_, _, e, h, _⟩ := HO4.out.bin; cases e; exact h
            rw [← hL'.out]
            clear hO4 hI4 hg4 hat4 HO2 HI2 HB2 hlb hu6l hs2
            have hs4 : w.heap.size ≤ w4.heap.size := HB4.out.size
            have HBA := hid (HB4.out.alloc HB4.out.size (.cells #[.int .i64 (L' : Nat)] 3))
            have hba : Below w4.heap.size w4 (w4.alloc (.cells #[.int .i64 (L' : Nat)] 3)) := (Below.refl _ _).alloc (Nat.le_refl _) _
            have HOA := hid (HO4.out.below hba)
            have HIA := hid (show OwI w.heap.size (w4.alloc (.cells #[.int .i64 (L' : Nat)] 3)) u6 k (ends I N T k) from row_below HI4.out hba)
            have hl7 : ∀ q, (Value.slice p7 L' c7).ownBlock = some q → q < w4.heap.size := fun q hq => (World.ownsRow.lt HO4.out q hq).2
            clear HB4 HO4 HI4 hba
            go_wp2_with (at_builtin; refine wpList_append_int rfl (.tmp 59) (.tmp 62) 47 rfl Try.underlying47 w.heap.size _ k _ rfl (by exact HIA.out) w4.heap.size L' rfl (by simp) (by omega) (by simp; omega) ?_; intro g8 c8 w8 hI8 hg8 hat8)
            have hg8' : (w4.alloc (.cells #[.int .i64 (L' : Nat)] 3)).grownBy w8 u6.ownBlock := hg8
            have hat8' : u6.ownBlock = some g8 ∨ g8 = (w4.alloc (.cells #[.int .i64 (L' : Nat)] 3)).heap.size := hat8
            have hO8 := HOA.out.aside hg8' (fun q hq e => hsep4 q e.symm hq)
            have hsep8 : ∀ q, (Value.slice (some ⟨g8, 0, none⟩) (k + 1) c8).ownBlock = some q → (Value.slice p7 L' c7).ownBlock ≠ some q := fun q hq e => by
              have hq' : g8 = q := Option.some.inj hq
              have hlt := hl7 q e
              rcases hat8' with h | h
              · exact hsep4 q (by rw [h, hq']) e
              · rw [World.size_alloc] at h
                omega
            have hI9 : OwI w.heap.size w8 (.slice (some ⟨g8, 0, none⟩) (k + 1) c8) (k + 1) (ends I N T (k + 1)) := by
              rw [← ends_snoc, ← hLL.out]
              exact hI8
            have hB8 := HBA.out.grown hg8' HBA.out.size (fun q hq => (World.ownsRow.lt HIA.out q hq).1)
            exact ⟨⟨k + 1, L', p7, c7, by omega, by go_num, hLL, rfl, hc7, hO8, hI9, h2', hsep8, hB8⟩, by simp [intOf]; omega⟩
          | false =>
            rw [hIk] at hc1
            have hit : itm (I k) (N k) (T k) = numL (N k) := by rw [itm, hIk]; rfl
            have hil : Hid ((itm (I k) (N k) (T k)).length = (numL (N k)).length) := hid (by rw [hit])
            have hL'e : L' = L + (numL (N k)).length := by rw [hL'.out, hil.out]
            have hL' := hid hL'e
            clear hL'e
            go_wp2_with fail
            refine (pNum_of (N k) _ hNk).mono ?_
            rintro e w2 ⟨v2, rfl, hv2, hb2⟩
            obtain ⟨p2, c2, rfl, _, hvb2⟩ := hv2.bin
            have HB2 := hid (HB.out.trans (hb2.mono HB.out.size))
            have HO2 := hid (HO.out.below hb2)
            have HI2 := hid (show OwI w.heap.size w2 u6 k (ends I N T k) from row_below HI.out hb2)
            have hlb := hid hvb2
            have hu6l : ∀ q, u6.ownBlock = some q → q < w2.heap.size := fun q hq => (World.ownsRow.lt HI2.out q hq).2
            have hs2 : w.heap.size ≤ w2.heap.size := HB2.out.size
            clear hv2 hb2 hvb2 HB HO HI
            go_upto_region 13 with (at_builtin; refine wpList_append_bin rfl (.tmp 51) (.tmp 57) 24 rfl i0 Try.underlying24 hi hz0 hz1 hz2 w.heap.size _ L _ rfl (by exact HO2.out) p2 _ c2 (numL (N k)) rfl rfl (by exact hlb.out) (by omega) hs2 ?_; intro p7 c7 w4 hO4 hg4 hat4)
            have HO4 : Hid (Own w.heap.size w4 (.slice p7 L' c7) L' (cats I N T (k + 1))) := hid (by rw [hL'.out, cats, hit]; exact hO4)
            have hI4 : OwI w.heap.size w4 u6 k (ends I N T k) := row_aside HI2.out hg4 (fun q hq e => hsep q hq e.symm)
            have HI4 := hid hI4
            have hsep4 : ∀ q, u6.ownBlock = some q → (Value.slice p7 L' c7).ownBlock ≠ some q := fun q hq e => by
              rcases hat4 with h | h
              · exact hsep q hq (h.symm.trans (by rw [hL'.out] at e; exact e))
              · have h5 : some w2.heap.size = some q := h.symm.trans (by rw [hL'.out] at e; exact e)
                have := hu6l q hq
                have := Option.some.inj h5
                omega
            have HB4 := hid (HB2.out.grown hg4 HB2.out.size (fun q hq => (World.ownsRow.lt HO2.out q hq).1))
            have hc7 : L' ≤ c7 := by obtain ⟨_, _, e, h, _⟩ := HO4.out.bin; cases e; exact h
            rw [← hL'.out]
            clear hO4 hI4 hg4 hat4 HO2 HI2 HB2 hlb hu6l hs2
            have hs4 : w.heap.size ≤ w4.heap.size := HB4.out.size
            have HBA := hid (HB4.out.alloc HB4.out.size (.cells #[.int .i64 (L' : Nat)] 3))
            have hba : Below w4.heap.size w4 (w4.alloc (.cells #[.int .i64 (L' : Nat)] 3)) := (Below.refl _ _).alloc (Nat.le_refl _) _
            have HOA := hid (HO4.out.below hba)
            have HIA := hid (show OwI w.heap.size (w4.alloc (.cells #[.int .i64 (L' : Nat)] 3)) u6 k (ends I N T k) from row_below HI4.out hba)
            have hl7 : ∀ q, (Value.slice p7 L' c7).ownBlock = some q → q < w4.heap.size := fun q hq => (World.ownsRow.lt HO4.out q hq).2
            clear HB4 HO4 HI4 hba
            go_wp2_with (at_builtin; refine wpList_append_int rfl (.tmp 59) (.tmp 62) 47 rfl Try.underlying47 w.heap.size _ k _ rfl (by exact HIA.out) w4.heap.size L' rfl (by simp) (by omega) (by simp; omega) ?_; intro g8 c8 w8 hI8 hg8 hat8)
            have hg8' : (w4.alloc (.cells #[.int .i64 (L' : Nat)] 3)).grownBy w8 u6.ownBlock := hg8
            have hat8' : u6.ownBlock = some g8 ∨ g8 = (w4.alloc (.cells #[.int .i64 (L' : Nat)] 3)).heap.size := hat8
            have hO8 := HOA.out.aside hg8' (fun q hq e => hsep4 q e.symm hq)
            have hsep8 : ∀ q, (Value.slice (some ⟨g8, 0, none⟩) (k + 1) c8).ownBlock = some q → (Value.slice p7 L' c7).ownBlock ≠ some q := fun q hq e => by
              have hq' : g8 = q := Option.some.inj hq
              have hlt := hl7 q e
              rcases hat8' with h | h
              · exact hsep4 q (by rw [h, hq']) e
              · rw [World.size_alloc] at h
                omega
            have hI9 : OwI w.heap.size w8 (.slice (some ⟨g8, 0, none⟩) (k + 1) c8) (k + 1) (ends I N T (k + 1)) := by
              rw [← ends_snoc, ← hLL.out]
              exact hI8
            have hB8 := HBA.out.grown hg8' HBA.out.size (fun q hq => (World.ownsRow.lt HIA.out q hq).1)
            exact ⟨⟨k + 1, L', p7, c7, by omega, by go_num, hLL, rfl, hc7, hO8, hI9, h2', hsep8, hB8⟩, by simp [intOf]; omega⟩
      · obtain rfl : k = len := by omega
        have kI : ¬ (k : Int) < (k : Int) := by omega
        have hBo : Oct (cats I N T k) := cats_oct k (fun i hi => (HT.out i hi).2.1)
        have hcw := i64_of_wf hcut
        go_upto_if 68 with fail
        go_cut [8] (fun s8 wx => (∃ nn : Nat, nn ≤ L ∧ s8 = .int .i64 (nn : Int)) ∧ wx = wr)
        case first =>
          by_cases hc : 0 < cut
          · have hcb : decide (0 < cut) = true := decide_eq_true hc
            obtain ⟨nn, hnn, hnl⟩ : ∃ nn : Nat, cut.tmod ((L : Int) + 1) = (nn : Int) ∧ nn ≤ L := by
              have h0 := Int.tmod_nonneg ((L : Int) + 1) (show 0 ≤ cut by omega)
              have h1 := Int.tmod_lt_of_pos cut (show 0 < (L : Int) + 1 by omega)
              exact ⟨(cut.tmod ((L : Int) + 1)).toNat, by omega, by omega⟩
            go_wp2_with fail
            go_meet
            exact ⟨⟨nn, hnl, rfl⟩, rfl⟩
          · have hcb : decide (0 < cut) = false := decide_eq_false hc
            go_wp2_with fail
            go_meet
            exact ⟨⟨L, Nat.le_refl _, rfl⟩, rfl⟩
        case rest =>
          obtain ⟨⟨nn, hnn, rfl⟩, rfl⟩ := hcut
          obtain ⟨X, hX⟩ : ∃ X, Hid (X = cats I N T k) := ⟨_, rfl⟩
          rw [← hX.out] at HO hBo
          have HXL := hid HO.out.len
          have hn5 : (nn : Int) ≤ (c5 : Int) := by omega
          have hnL : (nn : Int) ≤ (L : Int) := by omega
          have hS0 : (fun v => Own w.heap.size v (.slice p5 L c5) L X ∧ OwI w.heap.size v u6 k (ends I N T k) ∧ Below w.heap.size w v) wc.drew := ⟨World.ownsRow.drew HO.out, World.ownsRow.drew HI.out, HB.out.trans (Below.refl _ _).drew⟩
          clear HO HI HB
          go_upto_region 18 with fail
          refine wp_region_z (fun v => Own w.heap.size v (.slice p5 L c5) L X ∧ OwI w.heap.size v u6 k (ends I N T k) ∧ Below w.heap.size w v) 8 (by kernel_rfl) hS0 (fun hS => ?_)
          clear hS0
          generalize World.drew _ = w9 at hS ⊢
          refine wpAnyZ_take (i := 0) (v := .slice p5 L c5) rfl (by kernel_rfl) (by kernel_rfl) (by kernel_rfl) (by kernel_rfl) (fun _ _ _ h => h) hS (Or.inl ⟨by kernel_rfl, fun w hS => (by clear hS; go_simp)⟩) ?_
          simp only [Act.put, List.setIfInBounds_toArray, List.set_cons_zero, List.set_cons_succ]
          refine wpAnyZ_take (i := 2) (v := .slice p5 L c5) rfl (by kernel_rfl) (by kernel_rfl) (by kernel_rfl) (by kernel_rfl) (fun _ _ _ h => h) hS (Or.inl ⟨by kernel_rfl, fun w hS => (by clear hS; go_simp)⟩) ?_
          simp only [Act.put, List.setIfInBounds_toArray, List.set_cons_zero, List.set_cons_succ]
          refine wpAnyZ_take (i := 3) (v := .int .i64 (nn : Nat)) rfl (by kernel_rfl) (by kernel_rfl) (by kernel_rfl) (by kernel_rfl) (fun _ _ _ h => h) hS (Or.inl ⟨by kernel_rfl, fun w hS => (by clear hS; go_simp)⟩) ?_
          simp only [Act.put, List.setIfInBounds_toArray, List.set_cons_zero, List.set_cons_succ]
          refine wpAnyZ_take (i := 4) (v := .slice p5 nn c5) rfl (by kernel_rfl) (by kernel_rfl) (by kernel_rfl) (by kernel_rfl) (fun _ _ _ h => h) hS (Or.inl ⟨by kernel_rfl, fun w hS => (by clear hS; go_simp)⟩) ?_
          simp only [Act.put, List.setIfInBounds_toArray, List.set_cons_zero, List.set_cons_succ]
          refine wpAnyZ_one (i := 1) (by kernel_rfl) rfl (fun K hK => ?_)
          go_simp
          go_at_call 16
          refine (newReader_of p5 c5 L X _ (own_bin hS.1) hBo HXL.out hLc (by omega)).mono ?_
          rintro e v8 ⟨g1, k1, rfl, hR1, hg1, hk1, hb8⟩
          have hz8 := hS.2.2.size
          have hu1 : ∀ q, u6.ownBlock = some q → q < g1 := fun q hq => Nat.lt_of_lt_of_le (World.ownsRow.lt hS.2.1 q hq).2 hg1
          go_wp2_with fail
          refine hK.out _ _ (fun _ => And.intro (hS.1.below hb8) (And.intro (show OwI w.heap.size _ u6 k _ from row_below hS.2.1 hb8) (hS.2.2.trans (hb8.mono hS.2.2.size)))) ?_
          replace hS := And.intro (hS.1.below hb8) (And.intro (show OwI w.heap.size _ u6 k _ from row_below hS.2.1 hb8) (hS.2.2.trans (hb8.mono hS.2.2.size)))
          clear hK K hb8
          try simp only [Act.put, List.setIfInBounds_toArray, List.set_cons_zero, List.set_cons_succ]
          refine wpAnyZ_one (i := 5) (by kernel_rfl) rfl (fun K hK => ?_)
          go_simp
          go_at_call 16
          refine (newReader_of p5 c5 nn (X.take nn) _ (bin_takeP (own_bin hS.1) nn) (hBo.take nn) (by rw [List.length_take, HXL.out]; omega) (by omega) (by omega)).mono ?_
          rintro e v9 ⟨g2, k2, rfl, hR2, hg2, hk2, hb8⟩
          have hR1' := hR1; have hR1 := hR1'.grown (gb_of none hb8) (by simp) (by simp)
          have D : Hid (BAp w.heap.size g1 k1 g2 k2 u6) := hid ⟨by omega, by have := hS.2.2.size; omega, by have := hR1'.lg; omega, by have := hR1'.lg; omega, by have := hR1'.lk; omega, fun q hq => ⟨by have := hu1 q hq; omega, by have := hu1 q hq; have := hR1'.lg; omega⟩⟩
          go_wp2_with fail
          refine hK.out _ _ (fun _ => And.intro (hS.1.below hb8) (And.intro (show OwI w.heap.size _ u6 k _ from row_below hS.2.1 hb8) (hS.2.2.trans (hb8.mono hS.2.2.size)))) ?_
          replace hS := And.intro (hS.1.below hb8) (And.intro (show OwI w.heap.size _ u6 k _ from row_below hS.2.1 hb8) (hS.2.2.trans (hb8.mono hS.2.2.size)))
          clear hK K hb8 hu1
          try simp only [Act.put, List.setIfInBounds_toArray, List.set_cons_zero, List.set_cons_succ]
          refine wpAnyZ_one (i := 6) (by kernel_rfl) rfl (fun K hK => ?_)
          go_simp
          refine hK.out _ _ (fun _ => hS) ?_
          clear hK K
          try simp only [Act.put, List.setIfInBounds_toArray, List.set_cons_zero, List.set_cons_succ]
          refine wpAnyZ_one (i := 7) (by kernel_rfl) rfl (fun K hK => ?_)
          go_simp
          refine hK.out _ _ (fun _ => hS) ?_
          clear hK K
          try simp only [Act.put, List.setIfInBounds_toArray, List.set_cons_zero, List.set_cons_succ]
          refine wpAnyZ_done (by kernel_rfl) ?_ _
          have HS0 : Hid (BSt w g1 k1 g2 k2 X (X.take nn) u6 k (ends I N T k) 0 0 0 v9) := hid ⟨hR1, hR2, hS.2.1, hS.2.2⟩
          clear hR1 hR2 hR1' hS hg1 hk1 hg2 hk2 hz8
          have hg1n : True := trivial
          go_wp2_with fail
          go_loopw [88] (fun i wr => ∃ (j E0 at2 : Nat) (f2 : Int), j ≤ k ∧ i = .int .i64 (j : Int) ∧ Hid (E0 = (cats I N T j).length) ∧ ((E0 ≤ nn ∧ at2 = E0 ∧ f2 = 0) ∨ (nn < E0 ∧ f2 = 4)) ∧ BSt w g1 k1 g2 k2 X (X.take nn) u6 k (ends I N T k) E0 at2 f2 wr) (fun i _ => k - (intOf i).toNat)
          case atStart => exact ⟨0, 0, 0, 0, Nat.zero_le _, rfl, rfl, .inl ⟨Nat.zero_le _, rfl, rfl⟩, HS0.out⟩
          case round =>
            clear HS0
            obtain ⟨j, E0, at2, f2, hj, rfl, hE0, hcs, hS⟩ := hrel
            have HS := hid hS
            clear hS
            by_cases hjk : j < k
            · have jI : (j : Int) < (k : Int) := by omega
              rcases HS.out.e.shape with ⟨_, h0⟩ | ⟨ge, ce, e, hge, hce⟩
              · omega
              subst e
              have hec := HS.out.e.cellAt j hjk
              rw [ends_at I N T hjk] at hec
              obtain ⟨E1, hE1⟩ : ∃ E1, Hid (E1 = (cats I N T (j + 1)).length) := ⟨_, rfl⟩
              rw [← hE1.out] at hec
              have hE01 : E0 ≤ E1 := by rw [hE0.out, hE1.out]; exact cats_le I N T (by omega)
              obtain ⟨b, o, rfl, hbl, hcol⟩ := HR.out.at hjk (Nat.succ_pos _)
              have hc0 : wr.cell? ⟨b, o + j * 3, none⟩ = some (.int .u64 (N j : Nat)) := (HS.out.bel.cell (p := ⟨b, o + j * 3, none⟩) hbl).trans (hcol 0 _ rfl)
              have hc1 : wr.cell? ⟨b, o + j * 3 + 1, none⟩ = some (.bool (I j)) := (HS.out.bel.cell (p := ⟨b, o + j * 3 + 1, none⟩) hbl).trans (hcol 1 _ rfl)
              have hc2 : wr.cell? ⟨b, o + j * 3 + 2, none⟩ = some (.slice (P2 j) (T j).length (C2 j)) := (HS.out.bel.cell (p := ⟨b, o + j * 3 + 2, none⟩) hbl).trans (hcol 2 _ rfl)
              have hc0w := hcol 0 _ rfl
              have hc2w := hcol 2 _ rfl
              obtain ⟨hbt, hot, hct⟩ := HT.out j hjk
              have hNj := HN.out j hjk
              have h200 := h2.out j hjk
              have hnn' : nn ≤ (cats I N T k).length := by rw [← hX.out, HXL.out]; exact hnn
              clear hcol
              cases hIj : I j with
              | true =>
                rw [hIj] at hc1
                obtain ⟨hr, hsA, hsB⟩ := txt_step (I := I) (N := N) (T := T) hjk hIj h200 hnn'
                rw [← hX.out, ← hE0.out, ← hE1.out] at hr hsA hsB
                obtain ⟨t, htj⟩ : ∃ t, Hid (t = T j) := ⟨_, rfl⟩
                rw [← htj.out] at hr hsA hc2 hc2w hbt hot hct
                obtain ⟨tl, htl⟩ : ∃ tl, Hid (tl = t.length) := ⟨_, rfl⟩
                rw [← htl.out] at hc2 hc2w hct
                have HRT := hid (prText_of g1 k1 E0 0 200 X wr HS.out.r (by decide))
                rw [hr, ← htl.out] at HRT
                by_cases hw : E1 ≤ nn
                · have wI : (E1 : Int) ≤ (nn : Int) := by omega
                  have wB : decide ((E1 : Int) ≤ (nn : Int)) = true := decide_eq_true wI
                  obtain ⟨_, e5, e6⟩ : E0 ≤ nn ∧ at2 = E0 ∧ f2 = 0 := by
                    rcases hcs with h | h
                    · exact h
                    · omega
                  rw [e5, e6] at HS
                  clear e5 e6
                  clear hcs hsB
                  go_wp2_with fail
                  refine HRT.out.mono ?_
                  rintro e wa ⟨v, rfl, hv, hRa, hga⟩
                  have HSa := hid (HS.out.stepR D.out hga hRa)
                  have hgr : g1 < wr.heap.size ∧ g2 < wr.heap.size := ⟨HS.out.r.lg, HS.out.s.lg⟩
                  obtain ⟨pv, cv, rfl, _, _⟩ := hv.bin
                  have HV := hid hv
                  have HST := hid (prText_of g2 k2 E0 0 200 (X.take nn) wa HSa.out.s (by decide))
                  rw [hsA hw, ← htl.out] at HST
                  clear hv hRa hga HS HRT
                  go_wp2_with fail
                  refine HST.out.mono ?_
                  rintro e wb ⟨v2, rfl, hv2, hRb, hgb⟩
                  have HSb : Hid (BSt w g1 k1 g2 k2 X (X.take nn) _ k (ends I N T k) E1 E1 0 wb) := hid (HSa.out.stepS D.out hgb hRb)
                  have hVb := HV.out.aside_lt hgb hgr.2
                  have hc2b : wb.cell? ⟨b, o + j * 3 + 2, none⟩ = some (.slice (P2 j) tl (C2 j)) := (HSb.out.bel.cell (p := ⟨b, o + j * 3 + 2, none⟩) hbl).trans hc2w
                  obtain ⟨p2, c2, rfl, _, hvb2⟩ := hv2.bin
                  have hS0 : (fun v => BSt w g1 k1 g2 k2 X (X.take nn) (.slice (some ⟨ge, 0, none⟩) k ce) k (ends I N T k) E1 E1 0 v ∧ Bin v pv t ∧ Bin v (P2 j) t ∧ v.cell? ⟨b, o + j * 3 + 2, none⟩ = some (.slice (P2 j) tl (C2 j)) ∧ Bin v p2 t) wb.drew := ⟨HSb.out.step0 D.out (Below.refl _ _).drew, (show Bin wb pv t from own_bin hVb), (show Bin wb (P2 j) t from hbt.below HSb.out.bel), hc2b, hvb2⟩
                  clear hRb hgb HSa HST HV hVb hc0 hc2 hec hv2 HSb hc2b
                  go_upto_region 27 with fail
                  refine wp_region_z (fun v => BSt w g1 k1 g2 k2 X (X.take nn) (.slice (some ⟨ge, 0, none⟩) k ce) k (ends I N T k) E1 E1 0 v ∧ Bin v pv t ∧ Bin v (P2 j) t ∧ v.cell? ⟨b, o + j * 3 + 2, none⟩ = some (.slice (P2 j) tl (C2 j)) ∧ Bin v p2 t) 19 (by kernel_rfl) hS0 (fun hS => ?_)
                  clear hS0
                  generalize World.drew _ = wq at hS ⊢
                  refine wpAnyZ_take (i := 0) (v := .slice pv tl cv) rfl (by kernel_rfl) (by kernel_rfl) (by kernel_rfl) (by kernel_rfl) (fun _ _ _ h => h) hS (Or.inl ⟨by kernel_rfl, fun w hS => (by clear hS; go_simp)⟩) ?_
                  simp only [Act.put, List.getElem_toArray, List.getElem_cons_succ, List.getElem_cons_zero, List.setIfInBounds_toArray, List.set_cons_zero, List.set_cons_succ]
                  refine wpAnyZ_take (i := 1) (v := .string (strOfNums t)) rfl (by kernel_rfl) (by kernel_rfl) (by kernel_rfl) (by kernel_rfl) (fun _ _ _ h => h) hS (Or.inl ⟨by kernel_rfl, fun w hS => (by have h := conv_at hS.2.1 htl.out.symm cv; clear hS; go_simp)⟩) ?_
                  simp only [Act.put, List.getElem_toArray, List.getElem_cons_succ, List.getElem_cons_zero, List.setIfInBounds_toArray, List.set_cons_zero, List.set_cons_succ]
                  refine wpAnyZ_take (i := 2) (v := .slice (some ⟨b, o, none⟩) k cl) rfl (by kernel_rfl) (by kernel_rfl) (by kernel_rfl) (by kernel_rfl) (fun _ _ _ h => h) hS (Or.inl ⟨by kernel_rfl, fun w hS => (by clear hS; go_simp)⟩) ?_
                  simp only [Act.put, List.getElem_toArray, List.getElem_cons_succ, List.getElem_cons_zero, List.setIfInBounds_toArray, List.set_cons_zero, List.set_cons_succ]
                  refine wpAnyZ_take (i := 3) (v := .int .i64 (j : Nat)) rfl (by kernel_rfl) (by kernel_rfl) (by kernel_rfl) (by kernel_rfl) (fun _ _ _ h => h) hS (Or.inl ⟨by kernel_rfl, fun w hS => (by clear hS; go_simp)⟩) ?_
                  simp only [Act.put, List.getElem_toArray, List.getElem_cons_succ, List.getElem_cons_zero, List.setIfInBounds_toArray, List.set_cons_zero, List.set_cons_succ]
                  refine wpAnyZ_take (i := 4) (v := .pointer (some ⟨b, o + j * 3, none⟩)) rfl (by kernel_rfl) (by kernel_rfl) (by kernel_rfl) (by kernel_rfl) (fun _ _ _ h => h) hS (Or.inl ⟨by kernel_rfl, fun w hS => (by clear hS; go_simp)⟩) ?_
                  simp only [Act.put, List.getElem_toArray, List.getElem_cons_succ, List.getElem_cons_zero, List.setIfInBounds_toArray, List.set_cons_zero, List.set_cons_succ]
                  refine wpAnyZ_take (i := 5) (v := .pointer (some ⟨b, o + j * 3 + 2, none⟩)) rfl (by kernel_rfl) (by kernel_rfl) (by kernel_rfl) (by kernel_rfl) (fun _ _ _ h => h) hS (Or.inl ⟨by kernel_rfl, fun w hS => (by clear hS; go_simp)⟩) ?_
                  simp only [Act.put, List.getElem_toArray, List.getElem_cons_succ, List.getElem_cons_zero, List.setIfInBounds_toArray, List.set_cons_zero, List.set_cons_succ]
                  refine wpAnyZ_take (i := 6) (v := .slice (P2 j) tl (C2 j)) rfl (by kernel_rfl) (by kernel_rfl) (by kernel_rfl) (by kernel_rfl) (fun _ _ _ h => h) hS (Or.inl ⟨by kernel_rfl, fun w hS => (by have h := hS.2.2.2.1; clear hS; go_simp)⟩) ?_
                  simp only [Act.put, List.getElem_toArray, List.getElem_cons_succ, List.getElem_cons_zero, List.setIfInBounds_toArray, List.set_cons_zero, List.set_cons_succ]
                  refine wpAnyZ_take (i := 7) (v := .string (strOfNums t)) rfl (by kernel_rfl) (by kernel_rfl) (by kernel_rfl) (by kernel_rfl) (fun _ _ _ h => h) hS (Or.inl ⟨by kernel_rfl, fun w hS => (by have h := conv_at hS.2.2.1 htl.out.symm (C2 j); clear hS; go_simp)⟩) ?_
                  simp only [Act.put, List.getElem_toArray, List.getElem_cons_succ, List.getElem_cons_zero, List.setIfInBounds_toArray, List.set_cons_zero, List.set_cons_succ]
                  refine wpAnyZ_take (i := 8) (v := .bool false) rfl (by kernel_rfl) (by kernel_rfl) (by kernel_rfl) (by kernel_rfl) (fun _ _ _ h => h) hS (Or.inl ⟨by kernel_rfl, fun w hS => (by clear hS; go_simp)⟩) ?_
                  simp only [Act.put, List.getElem_toArray, List.getElem_cons_succ, List.getElem_cons_zero, List.setIfInBounds_toArray, List.set_cons_zero, List.set_cons_succ]
                  refine wpAnyZ_take (i := 9) (v := .bool false) rfl (by kernel_rfl) (by kernel_rfl) (by kernel_rfl) (by kernel_rfl) (fun _ _ _ h => h) hS (Or.inl ⟨by kernel_rfl, fun w hS => (by clear hS; go_simp)⟩) ?_
                  simp only [Act.put, List.getElem_toArray, List.getElem_cons_succ, List.getElem_cons_zero, List.setIfInBounds_toArray, List.set_cons_zero, List.set_cons_succ]
                  refine wpAnyZ_take (i := 10) (v := .bool true) rfl (by kernel_rfl) (by kernel_rfl) (by kernel_rfl) (by kernel_rfl) (fun _ _ _ h => h) hS (Or.inl ⟨by kernel_rfl, fun w hS => (by clear hS; go_simp)⟩) ?_
                  simp only [Act.put, List.getElem_toArray, List.getElem_cons_succ, List.getElem_cons_zero, List.setIfInBounds_toArray, List.set_cons_zero, List.set_cons_succ]
                  refine wpAnyZ_take (i := 11) (v := .bool true) rfl (by kernel_rfl) (by kernel_rfl) (by kernel_rfl) (by kernel_rfl) (fun _ _ _ h => h) hS (Or.inl ⟨by kernel_rfl, fun w hS => (by clear hS; go_simp)⟩) ?_
                  simp only [Act.put, List.getElem_toArray, List.getElem_cons_succ, List.getElem_cons_zero, List.setIfInBounds_toArray, List.set_cons_zero, List.set_cons_succ]
                  refine wpAnyZ_take (i := 12) (v := .slice p2 tl c2) rfl (by kernel_rfl) (by kernel_rfl) (by kernel_rfl) (by kernel_rfl) (fun _ _ _ h => h) hS (Or.inl ⟨by kernel_rfl, fun w hS => (by clear hS; go_simp)⟩) ?_
                  simp only [Act.put, List.getElem_toArray, List.getElem_cons_succ, List.getElem_cons_zero, List.setIfInBounds_toArray, List.set_cons_zero, List.set_cons_succ]
                  refine wpAnyZ_take (i := 13) (v := .string (strOfNums t)) rfl (by kernel_rfl) (by kernel_rfl) (by kernel_rfl) (by kernel_rfl) (fun _ _ _ h => h) hS (Or.inl ⟨by kernel_rfl, fun w hS => (by have h := conv_at hS.2.2.2.2 htl.out.symm c2; clear hS; go_simp)⟩) ?_
                  simp only [Act.put, List.getElem_toArray, List.getElem_cons_succ, List.getElem_cons_zero, List.setIfInBounds_toArray, List.set_cons_zero, List.set_cons_succ]
                  refine wpAnyZ_take (i := 14) (v := .slice pv tl cv) rfl (by kernel_rfl) (by kernel_rfl) (by kernel_rfl) (by kernel_rfl) (fun _ _ _ h => h) hS (Or.inl ⟨by kernel_rfl, fun w hS => (by clear hS; go_simp)⟩) ?_
                  simp only [Act.put, List.getElem_toArray, List.getElem_cons_succ, List.getElem_cons_zero, List.setIfInBounds_toArray, List.set_cons_zero, List.set_cons_succ]
                  refine wpAnyZ_take (i := 15) (v := .string (strOfNums t)) rfl (by kernel_rfl) (by kernel_rfl) (by kernel_rfl) (by kernel_rfl) (fun _ _ _ h => h) hS (Or.inl ⟨by kernel_rfl, fun w hS => (by have h := conv_at hS.2.1 htl.out.symm cv; clear hS; go_simp)⟩) ?_
                  simp only [Act.put, List.getElem_toArray, List.getElem_cons_succ, List.getElem_cons_zero, List.setIfInBounds_toArray, List.set_cons_zero, List.set_cons_succ]
                  refine wpAnyZ_take (i := 16) (v := .bool false) rfl (by kernel_rfl) (by kernel_rfl) (by kernel_rfl) (by kernel_rfl) (fun _ _ _ h => h) hS (Or.inl ⟨by kernel_rfl, fun w hS => (by clear hS; go_simp)⟩) ?_
                  simp only [Act.put, List.getElem_toArray, List.getElem_cons_succ, List.getElem_cons_zero, List.setIfInBounds_toArray, List.set_cons_zero, List.set_cons_succ]
                  refine wpAnyZ_take (i := 17) (v := .bool false) rfl (by kernel_rfl) (by kernel_rfl) (by kernel_rfl) (by kernel_rfl) (fun _ _ _ h => h) hS (Or.inl ⟨by kernel_rfl, fun w hS => (by clear hS; go_simp)⟩) ?_
                  simp only [Act.put, List.getElem_toArray, List.getElem_cons_succ, List.getElem_cons_zero, List.setIfInBounds_toArray, List.set_cons_zero, List.set_cons_succ]
                  refine wpAnyZ_take (i := 18) (v := .bool false) rfl (by kernel_rfl) (by kernel_rfl) (by kernel_rfl) (by kernel_rfl) (fun _ _ _ h => h) hS (Or.inl ⟨by kernel_rfl, fun w hS => (by clear hS; go_simp)⟩) ?_
                  simp only [Act.put, List.getElem_toArray, List.getElem_cons_succ, List.getElem_cons_zero, List.setIfInBounds_toArray, List.set_cons_zero, List.set_cons_succ]
                  refine wpAnyZ_done (by kernel_rfl) ?_ _
                  have HSq := hid hS.1
                  clear hS
                  have HD := hid (prDone_of g2 k2 E1 0 (X.take nn) wq HSq.out.s)
                  obtain ⟨dd, hdd⟩ : ∃ dd, Hid (dd = rdDone (X.take nn).length E1 0) := ⟨_, rfl⟩
                  rw [← hdd.out] at HD
                  go_wp2_with fail
                  refine HD.out.mono ?_
                  rintro e wd ⟨rfl, hRd, hgd⟩
                  have HSd := hid (HSq.out.stepS D.out hgd hRd)
                  clear hRd hgd HSq HD
                  go_wp2_with fail
                  go_roundw
                  case rel => exact ⟨j + 1, E1, E1, 0, by omega, by go_num, hE1, .inl ⟨hw, rfl, rfl⟩, HSd.out⟩
                  case measure => simp [intOf]; omega
                · have wI : ¬ (E1 : Int) ≤ (nn : Int) := by omega
                  have wB : decide ((E1 : Int) ≤ (nn : Int)) = false := decide_eq_false wI
                  obtain ⟨a3, hs4⟩ : ∃ a3, rdText (X.take nn) 200 at2 f2 = ([], a3, 4) := by
                    rcases hcs with ⟨h1, e5, e6⟩ | ⟨_, e6⟩
                    · exact ⟨E0, by rw [e5, e6]; exact hsB h1 hw⟩
                    · exact ⟨at2, by rw [e6]; exact rdText_stuck _ _ _⟩
                  clear hcs hsA hsB
                  go_wp2_with fail
                  refine HRT.out.mono ?_
                  rintro e wa ⟨v, rfl, hv, hRa, hga⟩
                  have HSa := hid (HS.out.stepR D.out hga hRa)
                  have hgr : g1 < wr.heap.size ∧ g2 < wr.heap.size := ⟨HS.out.r.lg, HS.out.s.lg⟩
                  obtain ⟨pv, cv, rfl, _, _⟩ := hv.bin
                  have HV := hid hv
                  have HST := hid (prText_of g2 k2 at2 f2 200 (X.take nn) wa HSa.out.s (by decide))
                  rw [hs4] at HST
                  clear hv hRa hga HS HRT
                  go_wp2_with fail
                  refine HST.out.mono ?_
                  rintro e wb ⟨v2, rfl, hv2, hRb, hgb⟩
                  have HSb : Hid (BSt w g1 k1 g2 k2 X (X.take nn) _ k (ends I N T k) E1 a3 4 wb) := hid (HSa.out.stepS D.out hgb hRb)
                  have hVb := HV.out.aside_lt hgb hgr.2
                  have hc2b : wb.cell? ⟨b, o + j * 3 + 2, none⟩ = some (.slice (P2 j) tl (C2 j)) := (HSb.out.bel.cell (p := ⟨b, o + j * 3 + 2, none⟩) hbl).trans hc2w
                  have hS0 : (fun v => BSt w g1 k1 g2 k2 X (X.take nn) (.slice (some ⟨ge, 0, none⟩) k ce) k (ends I N T k) E1 a3 4 v ∧ Bin v pv t ∧ Bin v (P2 j) t ∧ v.cell? ⟨b, o + j * 3 + 2, none⟩ = some (.slice (P2 j) tl (C2 j))) wb.drew := ⟨HSb.out.step0 D.out (Below.refl _ _).drew, (show Bin wb pv t from own_bin hVb), (show Bin wb (P2 j) t from hbt.below HSb.out.bel), hc2b⟩
                  clear hRb hgb HSa HST HV hVb hc0 hc2 hec hv2 HSb hc2b
                  go_upto_region 27 with fail
                  refine wp_region_z (fun v => BSt w g1 k1 g2 k2 X (X.take nn) (.slice (some ⟨ge, 0, none⟩) k ce) k (ends I N T k) E1 a3 4 v ∧ Bin v pv t ∧ Bin v (P2 j) t ∧ v.cell? ⟨b, o + j * 3 + 2, none⟩ = some (.slice (P2 j) tl (C2 j))) 19 (by kernel_rfl) hS0 (fun hS => ?_)
                  clear hS0
                  generalize World.drew _ = wq at hS ⊢
                  refine wpAnyZ_take (i := 0) (v := .slice pv tl cv) rfl (by kernel_rfl) (by kernel_rfl) (by kernel_rfl) (by kernel_rfl) (fun _ _ _ h => h) hS (Or.inl ⟨by kernel_rfl, fun w hS => (by clear hS; go_simp)⟩) ?_
                  simp only [Act.put, List.getElem_toArray, List.getElem_cons_succ, List.getElem_cons_zero, List.setIfInBounds_toArray, List.set_cons_zero, List.set_cons_succ]
                  refine wpAnyZ_take (i := 1) (v := .string (strOfNums t)) rfl (by kernel_rfl) (by kernel_rfl) (by kernel_rfl) (by kernel_rfl) (fun _ _ _ h => h) hS (Or.inl ⟨by kernel_rfl, fun w hS => (by have h := conv_at hS.2.1 htl.out.symm cv; clear hS; go_simp)⟩) ?_
                  simp only [Act.put, List.getElem_toArray, List.getElem_cons_succ, List.getElem_cons_zero, List.setIfInBounds_toArray, List.set_cons_zero, List.set_cons_succ]
                  refine wpAnyZ_take (i := 2) (v := .slice (some ⟨b, o, none⟩) k cl) rfl (by kernel_rfl) (by kernel_rfl) (by kernel_rfl) (by kernel_rfl) (fun _ _ _ h => h) hS (Or.inl ⟨by kernel_rfl, fun w hS => (by clear hS; go_simp)⟩) ?_
                  simp only [Act.put, List.getElem_toArray, List.getElem_cons_succ, List.getElem_cons_zero, List.setIfInBounds_toArray, List.set_cons_zero, List.set_cons_succ]
                  refine wpAnyZ_take (i := 3) (v := .int .i64 (j : Nat)) rfl (by kernel_rfl) (by kernel_rfl) (by kernel_rfl) (by kernel_rfl) (fun _ _ _ h => h) hS (Or.inl ⟨by kernel_rfl, fun w hS => (by clear hS; go_simp)⟩) ?_
                  simp only [Act.put, List.getElem_toArray, List.getElem_cons_succ, List.getElem_cons_zero, List.setIfInBounds_toArray, List.set_cons_zero, List.set_cons_succ]
                  refine wpAnyZ_take (i := 4) (v := .pointer (some ⟨b, o + j * 3, none⟩)) rfl (by kernel_rfl) (by kernel_rfl) (by kernel_rfl) (by kernel_rfl) (fun _ _ _ h => h) hS (Or.inl ⟨by kernel_rfl, fun w hS => (by clear hS; go_simp)⟩) ?_
                  simp only [Act.put, List.getElem_toArray, List.getElem_cons_succ, List.getElem_cons_zero, List.setIfInBounds_toArray, List.set_cons_zero, List.set_cons_succ]
                  refine wpAnyZ_take (i := 5) (v := .pointer (some ⟨b, o + j * 3 + 2, none⟩)) rfl (by kernel_rfl) (by kernel_rfl) (by kernel_rfl) (by kernel_rfl) (fun _ _ _ h => h) hS (Or.inl ⟨by kernel_rfl, fun w hS => (by clear hS; go_simp)⟩) ?_
                  simp only [Act.put, List.getElem_toArray, List.getElem_cons_succ, List.getElem_cons_zero, List.setIfInBounds_toArray, List.set_cons_zero, List.set_cons_succ]
                  refine wpAnyZ_take (i := 6) (v := .slice (P2 j) tl (C2 j)) rfl (by kernel_rfl) (by kernel_rfl) (by kernel_rfl) (by kernel_rfl) (fun _ _ _ h => h) hS (Or.inl ⟨by kernel_rfl, fun w hS => (by have h := hS.2.2.2; clear hS; go_simp)⟩) ?_
                  simp only [Act.put, List.getElem_toArray, List.getElem_cons_succ, List.getElem_cons_zero, List.setIfInBounds_toArray, List.set_cons_zero, List.set_cons_succ]
                  refine wpAnyZ_take (i := 7) (v := .string (strOfNums t)) rfl (by kernel_rfl) (by kernel_rfl) (by kernel_rfl) (by kernel_rfl) (fun _ _ _ h => h) hS (Or.inl ⟨by kernel_rfl, fun w hS => (by have h := conv_at hS.2.2.1 htl.out.symm (C2 j); clear hS; go_simp)⟩) ?_
                  simp only [Act.put, List.getElem_toArray, List.getElem_cons_succ, List.getElem_cons_zero, List.setIfInBounds_toArray, List.set_cons_zero, List.set_cons_succ]
                  refine wpAnyZ_take (i := 8) (v := .bool false) rfl (by kernel_rfl) (by kernel_rfl) (by kernel_rfl) (by kernel_rfl) (fun _ _ _ h => h) hS (Or.inl ⟨by kernel_rfl, fun w hS => (by clear hS; go_simp)⟩) ?_
                  simp only [Act.put, List.getElem_toArray, List.getElem_cons_succ, List.getElem_cons_zero, List.setIfInBounds_toArray, List.set_cons_zero, List.set_cons_succ]
                  refine wpAnyZ_take (i := 9) (v := .bool false) rfl (by kernel_rfl) (by kernel_rfl) (by kernel_rfl) (by kernel_rfl) (fun _ _ _ h => h) hS (Or.inl ⟨by kernel_rfl, fun w hS => (by clear hS; go_simp)⟩) ?_
                  simp only [Act.put, List.getElem_toArray, List.getElem_cons_succ, List.getElem_cons_zero, List.setIfInBounds_toArray, List.set_cons_zero, List.set_cons_succ]
                  refine wpAnyZ_take (i := 10) (v := .bool false) rfl (by kernel_rfl) (by kernel_rfl) (by kernel_rfl) (by kernel_rfl) (fun _ _ _ h => h) hS (Or.inl ⟨by kernel_rfl, fun w hS => (by clear hS; go_simp)⟩) ?_
                  simp only [Act.put, List.getElem_toArray, List.getElem_cons_succ, List.getElem_cons_zero, List.setIfInBounds_toArray, List.set_cons_zero, List.set_cons_succ]
                  refine wpAnyZ_take (i := 11) (v := .bool false) rfl (by kernel_rfl) (by kernel_rfl) (by kernel_rfl) (by kernel_rfl) (fun _ _ _ h => h) hS (Or.inl ⟨by kernel_rfl, fun w hS => (by clear hS; go_simp)⟩) ?_
                  simp only [Act.put, List.getElem_toArray, List.getElem_cons_succ, List.getElem_cons_zero, List.setIfInBounds_toArray, List.set_cons_zero, List.set_cons_succ]
                  refine wpAnyZ_take (i := 12) (v := undef) rfl (by kernel_rfl) (by kernel_rfl) (by kernel_rfl) (by kernel_rfl) (fun _ _ _ h => h) hS (Or.inr ⟨by kernel_rfl, rfl⟩) ?_
                  simp only [Act.put, List.getElem_toArray, List.getElem_cons_succ, List.getElem_cons_zero, List.setIfInBounds_toArray, List.set_cons_zero, List.set_cons_succ]
                  refine wpAnyZ_take (i := 13) (v := undef) rfl (by kernel_rfl) (by kernel_rfl) (by kernel_rfl) (by kernel_rfl) (fun _ _ _ h => h) hS (Or.inr ⟨by kernel_rfl, rfl⟩) ?_
                  simp only [Act.put, List.getElem_toArray, List.getElem_cons_succ, List.getElem_cons_zero, List.setIfInBounds_toArray, List.set_cons_zero, List.set_cons_succ]
                  refine wpAnyZ_take (i := 14) (v := undef) rfl (by kernel_rfl) (by kernel_rfl) (by kernel_rfl) (by kernel_rfl) (fun _ _ _ h => h) hS (Or.inr ⟨by kernel_rfl, rfl⟩) ?_
                  simp only [Act.put, List.getElem_toArray, List.getElem_cons_succ, List.getElem_cons_zero, List.setIfInBounds_toArray, List.set_cons_zero, List.set_cons_succ]
                  refine wpAnyZ_take (i := 15) (v := undef) rfl (by kernel_rfl) (by kernel_rfl) (by kernel_rfl) (by kernel_rfl) (fun _ _ _ h => h) hS (Or.inr ⟨by kernel_rfl, rfl⟩) ?_
                  simp only [Act.put, List.getElem_toArray, List.getElem_cons_succ, List.getElem_cons_zero, List.setIfInBounds_toArray, List.set_cons_zero, List.set_cons_succ]
                  refine wpAnyZ_take (i := 16) (v := undef) rfl (by kernel_rfl) (by kernel_rfl) (by kernel_rfl) (by kernel_rfl) (fun _ _ _ h => h) hS (Or.inr ⟨by kernel_rfl, rfl⟩) ?_
                  simp only [Act.put, List.getElem_toArray, List.getElem_cons_succ, List.getElem_cons_zero, List.setIfInBounds_toArray, List.set_cons_zero, List.set_cons_succ]
                  refine wpAnyZ_take (i := 17) (v := .bool false) rfl (by kernel_rfl) (by kernel_rfl) (by kernel_rfl) (by kernel_rfl) (fun _ _ _ h => h) hS (Or.inl ⟨by kernel_rfl, fun w hS => (by clear hS; go_simp)⟩) ?_
                  simp only [Act.put, List.getElem_toArray, List.getElem_cons_succ, List.getElem_cons_zero, List.setIfInBounds_toArray, List.set_cons_zero, List.set_cons_succ]
                  refine wpAnyZ_take (i := 18) (v := .bool false) rfl (by kernel_rfl) (by kernel_rfl) (by kernel_rfl) (by kernel_rfl) (fun _ _ _ h => h) hS (Or.inl ⟨by kernel_rfl, fun w hS => (by clear hS; go_simp)⟩) ?_
                  simp only [Act.put, List.getElem_toArray, List.getElem_cons_succ, List.getElem_cons_zero, List.setIfInBounds_toArray, List.set_cons_zero, List.set_cons_succ]
                  refine wpAnyZ_done (by kernel_rfl) ?_ _
                  have HSq := hid hS.1
                  clear hS
                  have HD := hid (prDone_of g2 k2 a3 4 (X.take nn) wq HSq.out.s)
                  rw [show rdDone (X.take nn).length a3 4 = 4 from by rw [rdDone, if_neg (by simp)]] at HD
                  go_wp2_with fail
                  refine HD.out.mono ?_
                  rintro e wd ⟨rfl, hRd, hgd⟩
                  have HSd := hid (HSq.out.stepS D.out hgd hRd)
                  clear hRd hgd HSq HD
                  go_wp2_with fail
                  go_roundw
                  case rel => exact ⟨j + 1, E1, a3, 4, by omega, by go_num, hE1, .inr ⟨by omega, rfl⟩, HSd.out⟩
                  case measure => simp [intOf]; omega
              | false =>
                rw [hIj] at hc1
                obtain ⟨hr, hsA, hsB⟩ := num_step (I := I) (N := N) (T := T) hjk hIj hNj hnn'
                rw [← hX.out, ← hE0.out, ← hE1.out] at hr hsA hsB
                have HRT := hid (prNum_of g1 k1 E0 0 X wr HS.out.r)
                rw [hr] at HRT
                by_cases hw : E1 ≤ nn
                · have wI : (E1 : Int) ≤ (nn : Int) := by omega
                  have wB : decide ((E1 : Int) ≤ (nn : Int)) = true := decide_eq_true wI
                  obtain ⟨_, e5, e6⟩ : E0 ≤ nn ∧ at2 = E0 ∧ f2 = 0 := by
                    rcases hcs with h | h
                    · exact h
                    · omega
                  rw [e5, e6] at HS
                  clear hcs hsB e5 e6
                  go_wp2_with fail
                  refine HRT.out.mono ?_
                  rintro e wa ⟨rfl, hRa, hga⟩
                  have HSa := hid (HS.out.stepR D.out hga hRa)
                  have HST := hid (prNum_of g2 k2 E0 0 (X.take nn) wa HSa.out.s)
                  rw [hsA hw] at HST
                  clear hRa hga HS HRT
                  go_wp2_with fail
                  refine HST.out.mono ?_
                  rintro e wq ⟨rfl, hRb, hgb⟩
                  have HSq : Hid (BSt w g1 k1 g2 k2 X (X.take nn) (.slice (some ⟨ge, 0, none⟩) k ce) k (ends I N T k) E1 E1 0 wq) := hid (HSa.out.stepS D.out hgb hRb)
                  have hc0b : wq.cell? ⟨b, o + j * 3, none⟩ = some (.int .u64 (N j : Nat)) := (HSq.out.bel.cell (p := ⟨b, o + j * 3, none⟩) hbl).trans hc0w
                  clear hRb hgb HSa HST hc0 hec
                  have HD := hid (prDone_of g2 k2 E1 0 (X.take nn) wq HSq.out.s)
                  obtain ⟨dd, hdd⟩ : ∃ dd, Hid (dd = rdDone (X.take nn).length E1 0) := ⟨_, rfl⟩
                  rw [← hdd.out] at HD
                  go_wp2_with fail
                  refine HD.out.mono ?_
                  rintro e wd ⟨rfl, hRd, hgd⟩
                  have HSd := hid (HSq.out.stepS D.out hgd hRd)
                  clear hRd hgd HSq HD
                  go_wp2_with fail
                  go_roundw
                  case rel => exact ⟨j + 1, E1, E1, 0, by omega, by go_num, hE1, .inl ⟨hw, rfl, rfl⟩, HSd.out⟩
                  case measure => simp [intOf]; omega
                · have wI : ¬ (E1 : Int) ≤ (nn : Int) := by omega
                  have wB : decide ((E1 : Int) ≤ (nn : Int)) = false := decide_eq_false wI
                  obtain ⟨a3, hs4⟩ : ∃ a3, rdNum (X.take nn) at2 f2 = (0, a3, 4) := by
                    rcases hcs with ⟨h1, e5, e6⟩ | ⟨_, e6⟩
                    · exact ⟨E0, by rw [e5, e6]; exact hsB h1 hw⟩
                    · exact ⟨at2, by rw [e6]; exact rdNum_stuck _ _⟩
                  clear hcs hsA hsB
                  go_wp2_with fail
                  refine HRT.out.mono ?_
                  rintro e wa ⟨rfl, hRa, hga⟩
                  have HSa := hid (HS.out.stepR D.out hga hRa)
                  have HST := hid (prNum_of g2 k2 at2 f2 (X.take nn) wa HSa.out.s)
                  rw [hs4] at HST
                  clear hRa hga HS HRT
                  go_wp2_with fail
                  refine HST.out.mono ?_
                  rintro e wq ⟨rfl, hRb, hgb⟩
                  have HSq : Hid (BSt w g1 k1 g2 k2 X (X.take nn) (.slice (some ⟨ge, 0, none⟩) k ce) k (ends I N T k) E1 a3 4 wq) := hid (HSa.out.stepS D.out hgb hRb)
                  have hc0b : wq.cell? ⟨b, o + j * 3, none⟩ = some (.int .u64 (N j : Nat)) := (HSq.out.bel.cell (p := ⟨b, o + j * 3, none⟩) hbl).trans hc0w
                  clear hRb hgb HSa HST hc0 hec
                  have HD := hid (prDone_of g2 k2 a3 4 (X.take nn) wq HSq.out.s)
                  rw [show rdDone (X.take nn).length a3 4 = 4 from by rw [rdDone, if_neg (by simp)]] at HD
                  go_wp2_with fail
                  refine HD.out.mono ?_
                  rintro e wd ⟨rfl, hRd, hgd⟩
                  have HSd := hid (HSq.out.stepS D.out hgd hRd)
                  clear hRd hgd HSq HD
                  go_wp2_with fail
                  go_roundw
                  case rel => exact ⟨j + 1, E1, a3, 4, by omega, by go_num, hE1, .inr ⟨by omega, rfl⟩, HSd.out⟩
                  case measure => simp [intOf]; omega
            · obtain rfl : j = k := by omega
              have jI : ¬ (j : Int) < (j : Int) := by omega
              have hEL : E0 = L := by rw [hE0.out, ← hX.out, HXL.out]
              subst hEL
              have HD := hid (prDone_of g1 k1 E0 0 X wr HS.out.r)
              rw [show rdDone X.length E0 0 = 0 from by rw [HXL.out, rdDone, if_neg (by omega)]] at HD
              go_wp2_with fail
              refine HD.out.mono ?_
              rintro e wd ⟨rfl, hRd, hgd⟩
              have HB := hid (HS.out.stepR D.out hgd hRd).bel
              clear hRd hgd HS HD
              go_wp2_with fail
              refine (known7_any _).mono ?_
              rintro e w5 ⟨rfl, hb5⟩
              go_wp2_with fail
              go_ret
              exact ⟨rfl, HB.out.trans (hb5.mono HB.out.size)⟩
end Go.Proofs.Ytphmdjhmgmjmgaa
