/-
  DiskSynced's walk.
-/
import Derived.Test.YthnakonndlebbaaDsp
import Derived.Test.YthnakonndlebbaaArz
import Derived.Test.YthnakonndlebbaaOrw
import Derived.Test.YthnakonndlebbaaKa
import Derived.Deep.CutRange
import Derived.Deep.DeepCutAuto
namespace Go.Proofs.Ythnakonndlebbaa
open Go.RowKit
set_option linter.unusedVariables false
set_option linter.unusedSimpArgs false

/-- Is byte j right by the first t of what was written? -/
def okf (x y z : Int) (E : List Int) (t : Nat) : Bool := decide ((x = y ∧ x = z) ∨ ∃ s, s < t ∧ x = E.getD s 0 ∧ z = E.getD s 0)
theorem okf_zero (x y z : Int) (E : List Int) : okf x y z E 0 = decide (x = y ∧ x = z) := by
  unfold okf
  rw [decide_eq_decide]
  exact ⟨fun h => h.elim id (fun ⟨s, hs, _⟩ => absurd hs (Nat.not_lt_zero _)), .inl⟩
theorem okf_succ (x y z : Int) (E : List Int) (t : Nat) : okf x y z E (t + 1) = (okf x y z E t || decide (x = E.getD t 0 ∧ z = E.getD t 0)) := by
  unfold okf
  rw [← Bool.decide_or, decide_eq_decide]
  constructor
  · rintro (h | ⟨s, hs, h⟩)
    · exact .inl (.inl h)
    · rcases Nat.lt_succ_iff_lt_or_eq.1 hs with h1 | rfl
      · exact .inl (.inr ⟨s, h1, h⟩)
      · exact .inr h
  · rintro ((h | ⟨s, hs, h⟩) | h)
    · exact .inl h
    · exact .inr ⟨s, by omega, h⟩
    · exact .inr ⟨t, by omega, h⟩
theorem tdiv64 (m : Nat) : Int.tdiv (m : Int) 64 * 64 = ((m / 64 * 64 : Nat) : Int) := by
  have : Int.tdiv (m : Int) 64 = ((m / 64 : Nat) : Int) := rfl
  rw [this]
  rfl
theorem bdN (w : World) (n : Nat) : Below w.heap.size w (w.drewN n) := below_drewN (Below.refl _ _) n
theorem crs_ok' {k r : Nat} {S : Dst} (h : Cal k S) (ms : List Nat) (hr : r < 8) : (crs S.firm S.ws ms r).length = 256 ∧ Oct (crs S.firm S.ws ms r) :=
  Dst.crs_ok _ _ _ _ h.hok.firm h.hok.ws r (by rw [h.hn]; exact hr)
theorem nil8_cell (w : World) : ∀ i, i < 8 → (w.alloc (.cells #[.slice none 0 0, .slice none 0 0, .slice none 0 0, .slice none 0 0, .slice none 0 0, .slice none 0 0, .slice none 0 0, .slice none 0 0] 55)).cell? ⟨w.heap.size, i, none⟩ = some (.slice none 0 0) := fun i hi => by
  have : i = 0 ∨ i = 1 ∨ i = 2 ∨ i = 3 ∨ i = 4 ∨ i = 5 ∨ i = 6 ∨ i = 7 := by omega
  rcases this with rfl | rfl | rfl | rfl | rfl | rfl | rfl | rfl <;> simp
theorem nil8_free (w : World) : ∀ i, i < 8 → (w.alloc (.cells #[.slice none 0 0, .slice none 0 0, .slice none 0 0, .slice none 0 0, .slice none 0 0, .slice none 0 0, .slice none 0 0, .slice none 0 0] 55)).frozen? ⟨w.heap.size, i, none⟩ = false := fun i hi => by
  have : i = 0 ∨ i = 1 ∨ i = 2 ∨ i = 3 ∨ i = 4 ∨ i = 5 ∨ i = 6 ∨ i = 7 := by omega
  rcases this with rfl | rfl | rfl | rfl | rfl | rfl | rfl | rfl <;> simp
theorem u_block {B n c q : Nat} {w : World} {g : Nat} {xs : List Int} (h : Own B w (.slice (some ⟨g, 0, none⟩) n c) n xs) (hq : (Value.slice (some ⟨g, 0, none⟩) n c).ownBlock = some q) : q = g := (Option.some.inj hq).symm

set_option maxHeartbeats 32000000 in
set_option maxRecDepth 100000 in
theorem dsynced_law (a0 : Option Addr) (len0 cl0 : Nat) (F0 F1 F2 : Nat → Int) (F3 F4 : Nat → Option Addr × Nat × List Int) (a1 : Option Addr) (len1 cl1 : Nat) (G0 G1 G2 : Nat → Int) (G3 G4 : Nat → Option Addr × Nat × List Int) (p2 : Option Addr) (c2 : Nat) (ms : List Int) (w : World)
    (hlm0 : len0 ≤ maxLen) (hlc0 : len0 ≤ cl0) (hr0 : Rws w a0 len0 [fun i => .int .i64 (F0 i), fun i => .int .i64 (F1 i), fun i => .int .i64 (F2 i), fun i => .slice (F3 i).1 (F3 i).2.2.length (F3 i).2.1, fun i => .slice (F4 i).1 (F4 i).2.2.length (F4 i).2.1]) (hf0 : ∀ i, i < len0 → (Lit.int .i64 (F0 i)).wf = true) (hf1 : ∀ i, i < len0 → (Lit.int .i64 (F1 i)).wf = true) (hf2 : ∀ i, i < len0 → (Lit.int .i64 (F2 i)).wf = true) (hf3 : ∀ i, i < len0 → Bin w (F3 i).1 (F3 i).2.2 ∧ Oct (F3 i).2.2 ∧ (F3 i).2.2.length ≤ (F3 i).2.1) (hf4 : ∀ i, i < len0 → Bin w (F4 i).1 (F4 i).2.2 ∧ Oct (F4 i).2.2 ∧ (F4 i).2.2.length ≤ (F4 i).2.1)
    (hlm1 : len1 ≤ maxLen) (hlc1 : len1 ≤ cl1) (hr1 : Rws w a1 len1 [fun i => .int .i64 (G0 i), fun i => .int .i64 (G1 i), fun i => .int .i64 (G2 i), fun i => .slice (G3 i).1 (G3 i).2.2.length (G3 i).2.1, fun i => .slice (G4 i).1 (G4 i).2.2.length (G4 i).2.1]) (hg0 : ∀ i, i < len1 → (Lit.int .i64 (G0 i)).wf = true) (hg1 : ∀ i, i < len1 → (Lit.int .i64 (G1 i)).wf = true) (hg2 : ∀ i, i < len1 → (Lit.int .i64 (G2 i)).wf = true) (hg3 : ∀ i, i < len1 → Bin w (G3 i).1 (G3 i).2.2 ∧ Oct (G3 i).2.2 ∧ (G3 i).2.2.length ≤ (G3 i).2.1) (hg4 : ∀ i, i < len1 → Bin w (G4 i).1 (G4 i).2.2 ∧ Oct (G4 i).2.2 ∧ (G4 i).2.2.length ≤ (G4 i).2.1)
    (hmp : Bin w p2 ms) (hmo : Oct ms) (hmm : ms.length ≤ 140737488351232) (hmc : ms.length ≤ c2) :
    Calls Try.prog 5 #[.slice a0 len0 cl0, .slice a1 len1 cl1, .slice p2 ms.length c2] w fun e w' => e = .returned (.bool true) ∧ Below w.heap.size w w' := by
  clear hlm0 hlc0 hf0 hf1 hf2 hf3 hf4 hlm1 hlc1 hg0 hg1 hg2 hg3 hg4
  obtain ⟨i0, hi, hz0, hz1, hz2⟩ := info_parts Try.infoU8
  obtain ⟨nm, hnm⟩ : ∃ n, Hid (n = ms.length) := ⟨_, rfl⟩
  rw [← hnm.out] at hmm hmc ⊢
  by_cases hlt : 60 < len0
  · have i1 : (60 : Int) < (len0 : Int) := by omega
    go_enter Try.func5, Try.ntmps5
    go_wp2_with fail
    refine (known8_any w).mono ?_
    rintro e w1 ⟨rfl, hb1⟩
    go_wp2_with fail
    go_ret
    exact ⟨rfl, hb1⟩
  · have i1 : ¬ (60 : Int) < (len0 : Int) := by omega
    by_cases hlt1 : 60 < len1
    · have i2 : (60 : Int) < (len1 : Int) := by omega
      go_enter Try.func5, Try.ntmps5
      go_wp2_with fail
      refine (known8_any w).mono ?_
      rintro e w1 ⟨rfl, hb1⟩
      go_wp2_with fail
      go_ret
      exact ⟨rfl, hb1⟩
    · have i2 : ¬ (60 : Int) < (len1 : Int) := by omega
      have HR0 := hid hr0
      have HR1 := hid hr1
      have HMP := hid hmp
      have HMO := hid hmo
      clear hr0 hr1 hmp hmo
      go_enter Try.func5, Try.ntmps5
      go_wp2_with fail
      refine (dNew_of w 8 (by decide) (by decide)).mono ?_
      rintro e w1 ⟨g, F, rfl, hD, hb1⟩
      obtain ⟨wa, hwa⟩ : ∃ wa, Hid (wa = w1.alloc (.cells #[.slice none 0 0, .slice none 0 0, .slice none 0 0, .slice none 0 0, .slice none 0 0, .slice none 0 0, .slice none 0 0, .slice none 0 0] 55)) := ⟨_, rfl⟩
      have hbl : Below w1.heap.size w1 wa := by rw [hwa.out]; exact (Below.refl _ _).alloc (Nat.le_refl _) _
      have HA0 : Hid (Arz w.heap.size wa w1.heap.size (fun _ => .slice none 0 0) (fun _ => [])) := hid (Arz.nils hb1.size (fun i hi => by rw [hwa.out]; exact nil8_cell w1 i hi) (fun i hi => by rw [hwa.out]; exact nil8_free w1 i hi))
      have HDS : Hid (∀ q, Arz.has w1.heap.size (fun _ => Value.slice none 0 0) q → ¬ F q) := hid (fun q hq h => by
        rcases hq with rfl | ⟨i, _, hq⟩
        · exact Nat.lt_irrefl _ (hD.lt _ h).2
        · cases hq)
      have HD := hid (hD.below hbl)
      have HB := hid (hb1.trans (hbl.mono hb1.size))
      obtain ⟨b1, hb1'⟩ : ∃ b, Hid (b = w1.heap.size) := ⟨_, rfl⟩
      rw [← hb1'.out] at HA0 HDS
      clear hD hb1 hbl
      go_upto_region 7 with fail
      skip
      rw [← hwa.out, ← hb1'.out]
      clear hwa hb1'
      go_wp2_with fail
      go_loopw [42] (fun i wr => ∃ (k : Nat) (V : Nat → Value) (D : Nat → List Int), k ≤ 8 ∧ i = .int .i64 (k : Int) ∧ Arz w.heap.size wr b1 V D ∧ (∀ i, i < k → D i = fullL 0) ∧ PDk w.heap.size wr g F (Dst.new 8) ∧ (∀ q, Arz.has b1 V q → ¬ F q) ∧ Below w.heap.size w wr) (fun i _ => 8 - (intOf i).toNat)
      case atStart => exact ⟨0, _, _, Nat.zero_le _, rfl, HA0.out, fun i hi => absurd hi (Nat.not_lt_zero _), HD.out, HDS.out, HB.out⟩
      case round =>
        clear HA0 HD HDS HB
        obtain ⟨k, V, D, hk, rfl, hA, hDf, hD, hds, hB⟩ := hrel
        have HA := hid hA
        have HDF := hid hDf
        have HD := hid hD
        have HDS := hid hds
        have HB := hid hB
        clear hA hDf hD hds hB
        by_cases hk8 : k < 8
        · have kI : (k : Int) < 8 := by omega
          go_wp2_with fail
          refine (full_of 0 wr (by decide)).mono ?_
          rintro e w2 ⟨g2, c3, rfl, hc3, hO, hb⟩
          have hA2 := HA.out.below hb
          have hc := hA2.cell k hk8
          have hfr := hA2.free k hk8
          have hg2 := (World.ownsRow.lt hO g2 rfl).1
          have hO' : Own w.heap.size w2 (.slice (some ⟨g2, 0, none⟩) 256 c3) (fullL 0).length (fullL 0) := by rw [fullL_len]; exact Own.mono hO HB.out.size
          have HA3 := hid (hA2.put hk8 hO' (fun e => by have := u_block hO e; have := HA.out.blt; omega) (fun j hj _ q hq e => by have := u_block hO e; have := (HA.out.lt q (.inr ⟨j, hj, hq⟩)).2; omega))
          have HD3 := hid ((HD.out.below hb).tb (tb_one (b := b1) (o := k) (v := .slice (some ⟨g2, 0, none⟩) 256 c3)) (fun q hq e => HDS.out b1 (.inl rfl) (e ▸ hq)))
          have HB3 := hid ((HB.out.trans (hb.mono HB.out.size)).setCell (p := ⟨b1, k, none⟩) HA.out.lo (.slice (some ⟨g2, 0, none⟩) 256 c3))
          have HDS3 : Hid (∀ q, Arz.has b1 (fun j => if j = k then Value.slice (some ⟨g2, 0, none⟩) 256 c3 else V j) q → ¬ F q) := hid (fun q hq h => by
            rcases Arz.has_put hq with h1 | h1
            · exact HDS.out q h1 h
            · have := u_block hO h1; have := (HD.out.lt q h).2; omega)
          have HDF3 : Hid (∀ i, i < k + 1 → (if i = k then fullL 0 else D i) = fullL 0) := hid (fun i hi => by
            split
            · rfl
            · exact HDF.out i (by omega))
          clear hA2 hO hO' hb HA HD HB HDS HDF
          go_wp2_with fail
          go_roundw
          case rel => exact ⟨k + 1, _, _, by omega, by go_num, HA3.out, HDF3.out, HD3.out, HDS3.out, HB3.out⟩
          case measure => simp [intOf]; omega
        · obtain rfl : k = 8 := by omega
          have HDA : Hid (∀ i, i < 8 → D i = (Dst.new 8).now i ∧ ∃ y, D i = fullL y) := hid (fun i hi => ⟨HDF.out i hi, 0, HDF.out i hi⟩)
          clear HDF
          have kI : ¬ ((8 : Nat) : Int) < 8 := by omega
          go_wp2_with fail
          go_loopw [51] (fun i wr => ∃ (k : Nat) (S : Dst) (F : Nat → Prop) (V : Nat → Value) (D : Nat → List Int), k ≤ len0 ∧ i = .int .i64 (k : Int) ∧ Cal k S ∧ Arz w.heap.size wr b1 V D ∧ (∀ i, i < 8 → D i = S.now i ∧ ∃ y, D i = fullL y) ∧ PDk w.heap.size wr g F S ∧ (∀ q, Arz.has b1 V q → ¬ F q) ∧ Below w.heap.size w wr) (fun i _ => len0 - (intOf i).toNat)
          case atStart => exact ⟨0, _, _, _, _, Nat.zero_le _, rfl, Cal.new, HA.out, HDA.out, HD.out, HDS.out, HB.out⟩
          case round =>
            clear HA HDA HD HDS HB
            obtain ⟨k, S, F, V, D, hk, rfl, hS, hA, hDa, hD, hds, hB⟩ := hrel
            have HS := hid hS
            have HA := hid hA
            have HDA := hid hDa
            have HD := hid hD
            have HDS := hid hds
            have HB := hid hB
            clear hS hA hDa hD hds hB
            by_cases hkl : k < len0
            · have kI : (k : Int) < (len0 : Int) := by omega
              obtain ⟨b, o, rfl, hbl, hcol⟩ := HR0.out.at hkl (Nat.succ_pos _)
              have hc0 : wr.cell? ⟨b, o + k * 5, none⟩ = some (.int .i64 (F0 k)) := (HB.out.cell (p := ⟨b, o + k * 5, none⟩) hbl).trans (hcol 0 _ rfl)
              have hc1 : wr.cell? ⟨b, o + k * 5 + 1, none⟩ = some (.int .i64 (F1 k)) := (HB.out.cell (p := ⟨b, o + k * 5 + 1, none⟩) hbl).trans (hcol 1 _ rfl)
              have hc2 : wr.cell? ⟨b, o + k * 5 + 2, none⟩ = some (.int .i64 (F2 k)) := (HB.out.cell (p := ⟨b, o + k * 5 + 2, none⟩) hbl).trans (hcol 2 _ rfl)
              have hc3 : wr.cell? ⟨b, o + k * 5 + 3, none⟩ = some (.slice (F3 k).1 (F3 k).2.2.length (F3 k).2.1) := (HB.out.cell (p := ⟨b, o + k * 5 + 3, none⟩) hbl).trans (hcol 3 _ rfl)
              have hc4 : wr.cell? ⟨b, o + k * 5 + 4, none⟩ = some (.slice (F4 k).1 (F4 k).2.2.length (F4 k).2.1) := (HB.out.cell (p := ⟨b, o + k * 5 + 4, none⟩) hbl).trans (hcol 4 _ rfl)
              clear hcol
              obtain ⟨f0, hf0⟩ : ∃ v, Hid (v = F0 k) := ⟨_, rfl⟩
              obtain ⟨f1, hf1⟩ : ∃ v, Hid (v = F1 k) := ⟨_, rfl⟩
              obtain ⟨f2, hf2⟩ : ∃ v, Hid (v = F2 k) := ⟨_, rfl⟩
              obtain ⟨p3, n3, d3, hf3⟩ : ∃ p n d, Hid (p = (F3 k).1 ∧ n = (F3 k).2.2.length ∧ d = (F3 k).2.1) := ⟨_, _, _, rfl, rfl, rfl⟩
              obtain ⟨p4, n4, d4, hf4⟩ : ∃ p n d, Hid (p = (F4 k).1 ∧ n = (F4 k).2.2.length ∧ d = (F4 k).2.1) := ⟨_, _, _, rfl, rfl, rfl⟩
              rw [← hf0.out] at hc0
              rw [← hf1.out] at hc1
              rw [← hf2.out] at hc2
              rw [← hf3.out.1, ← hf3.out.2.1, ← hf3.out.2.2] at hc3
              rw [← hf4.out.1, ← hf4.out.2.1, ← hf4.out.2.2] at hc4
              clear hf0 hf1 hf2 hf3 hf4
              obtain ⟨wb, hwb⟩ : ∃ wa, Hid (wa = wr.alloc (.cells #[.int .i64 f0, .int .i64 f1, .int .i64 f2, .slice p3 n3 d3, .slice p4 n4 d4] 36)) := ⟨_, rfl⟩
              have hbw : Below wr.heap.size wr wb := by rw [hwb.out]; exact (Below.refl _ _).alloc (Nat.le_refl _) _
              have H5 : Hid (Five wb wr.heap.size (.int .i64 f0) (.int .i64 f1) (.int .i64 f2) (.slice p3 n3 d3) (.slice p4 n4 d4)) := hid (by rw [hwb.out]; exact five_new _ _ _ _ _ _ _)
              have HDb := hid (HD.out.below hbw)
              have HBb := hid (HB.out.trans (hbw.mono HB.out.size))
              have HFb : Hid (¬ F wr.heap.size) := hid (fun h => Nat.lt_irrefl _ (HD.out.lt _ h).2)
              have HAb := hid (HA.out.below hbw)
              have HNb : Hid (∀ q, Arz.has b1 V q → q ≠ wr.heap.size) := hid (fun q hq e => by have := (HA.out.lt q hq).2; omega)
              obtain ⟨gb, hgb⟩ : ∃ g, Hid (g = wr.heap.size) := ⟨_, rfl⟩
              rw [← hgb.out] at H5 HFb HNb
              obtain ⟨r, hr8, hre⟩ : ∃ r : Nat, r < 8 ∧ f1 % 8 = (r : Int) := ⟨(f1 % 8).toNat, by omega, by omega⟩
              have e7 : bits .and .i64 f1 7 = (r : Int) := (i64_and7 f1).trans hre
              have hr8I : (r : Int) < 8 := by omega
              obtain ⟨x, hx, hxe⟩ : ∃ x : Int, (0 ≤ x ∧ x ≤ 255) ∧ IntKind.u8.wrap f2 = x := ⟨f2 % 256, by omega, IntKind.wrap_u8' f2⟩
              obtain ⟨S2, hS2⟩ : ∃ S2, Hid (S2 = S.write r (fullL x)) := ⟨_, rfl⟩
              have hwr := HS.out.write hr8 (fullL_len x) (fullL_oct hx)
              rw [← hS2.out] at hwr
              obtain ⟨hwe, hs2, hfm2, hws2, hst2, hnw2⟩ := hwr
              have HS2 := hid hs2
              have HWE := hid hwe
              have HI2 := hid (And.intro hfm2 (And.intro hws2 (And.intro hst2 hnw2)))
              have HST : Hid (S.steps < 9223372036854775807 ∧ S.ws.length < 4294967296) := hid (by have := HS.out.hst; have := HS.out.hws; omega)
              clear hs2 hwe hfm2 hws2 hst2 hnw2 hre hbw
              go_upto_region 15 with fail
              rw [← hwb.out, ← hgb.out]
              clear hc0 hc1 hc2 hc3 hc4 hwb hgb HD HB HA
              have hS0 : (fun v => Five v gb (.int .i64 f0) (.int .i64 f1) (.int .i64 f2) (.slice p3 n3 d3) (.slice p4 n4 d4)) wb.drew := H5.out.below ((Below.refl _ _).drew)
              have HD5d := hid HDb.out.drew
              have HB5d := hid (show Below w.heap.size w wb.drew from HBb.out.trans ((Below.refl wb.heap.size wb).drew.mono HBb.out.size))
              have HA5d := hid (HAb.out.below ((Below.refl _ _).drew))
              clear HDb HBb H5 HAb
              refine wp_region_z (fun v => Five v gb (.int .i64 f0) (.int .i64 f1) (.int .i64 f2) (.slice p3 n3 d3) (.slice p4 n4 d4)) 10 (by kernel_rfl) hS0 (fun hS => ?_)
              clear hS0
              generalize World.drew _ = w9 at hS HD5d HB5d HA5d ⊢
              refine wpAnyZ_take (i := 0) (v := .pointer (some ⟨g, 0, none⟩)) rfl (by kernel_rfl) (by kernel_rfl) (by kernel_rfl) (by kernel_rfl) (fun _ _ _ h => h) hS (Or.inl ⟨by kernel_rfl, fun w hS => (by clear hS; go_simp)⟩) ?_
              simp only [Act.put, List.setIfInBounds_toArray, List.set_cons_zero, List.set_cons_succ]
              refine wpAnyZ_take (i := 1) (v := .pointer (some ⟨gb, 1, none⟩)) rfl (by kernel_rfl) (by kernel_rfl) (by kernel_rfl) (by kernel_rfl) (fun _ _ _ h => h) hS (Or.inl ⟨by kernel_rfl, fun w hS => (by clear hS; go_simp)⟩) ?_
              simp only [Act.put, List.setIfInBounds_toArray, List.set_cons_zero, List.set_cons_succ]
              refine wpAnyZ_take (i := 2) (v := .int .i64 f1) rfl (by kernel_rfl) (by kernel_rfl) (by kernel_rfl) (by kernel_rfl) (fun _ _ _ h => h) hS (Or.inl ⟨by kernel_rfl, fun w hS => (by have hc := hS.c1; clear hS; go_simp)⟩) ?_
              simp only [Act.put, List.setIfInBounds_toArray, List.set_cons_zero, List.set_cons_succ]
              refine wpAnyZ_take (i := 3) (v := .int .i64 (r : Nat)) rfl (by kernel_rfl) (by kernel_rfl) (by kernel_rfl) (by kernel_rfl) (fun _ _ _ h => h) hS (Or.inl ⟨by kernel_rfl, fun w hS => (by clear hS; go_simp)⟩) ?_
              simp only [Act.put, List.setIfInBounds_toArray, List.set_cons_zero, List.set_cons_succ]
              refine wpAnyZ_take (i := 4) (v := .pointer (some ⟨gb, 2, none⟩)) rfl (by kernel_rfl) (by kernel_rfl) (by kernel_rfl) (by kernel_rfl) (fun _ _ _ h => h) hS (Or.inl ⟨by kernel_rfl, fun w hS => (by clear hS; go_simp)⟩) ?_
              simp only [Act.put, List.setIfInBounds_toArray, List.set_cons_zero, List.set_cons_succ]
              refine wpAnyZ_take (i := 5) (v := .int .i64 f2) rfl (by kernel_rfl) (by kernel_rfl) (by kernel_rfl) (by kernel_rfl) (fun _ _ _ h => h) hS (Or.inl ⟨by kernel_rfl, fun w hS => (by have hc := hS.c2; clear hS; go_simp)⟩) ?_
              simp only [Act.put, List.setIfInBounds_toArray, List.set_cons_zero, List.set_cons_succ]
              refine wpAnyZ_take (i := 6) (v := .int .u8 x) rfl (by kernel_rfl) (by kernel_rfl) (by kernel_rfl) (by kernel_rfl) (fun _ _ _ h => h) hS (Or.inl ⟨by kernel_rfl, fun w hS => (by clear hS; go_simp)⟩) ?_
              simp only [Act.put, List.setIfInBounds_toArray, List.set_cons_zero, List.set_cons_succ]
              refine wpAnyZ_one (i := 7) (by kernel_rfl) rfl (fun K hK => ?_)
              go_simp
              go_at_call 29
              refine (full_of x _ hx).mono ?_
              rintro e v8 ⟨g8, c8, rfl, hc8, hO8, hb8⟩
              have HGL := hid hS.lt
              replace hS := hS.below hb8
              have HDF := hid (HD5d.out.newer' hO8)
              have HLE : Hid (w9.heap.size ≤ v8.heap.size) := hid hb8.size
              have HD8 := hid (HD5d.out.below hb8)
              have HB8 := hid (HB5d.out.trans (hb8.mono HB5d.out.size))
              have HA8 := hid (HA5d.out.below hb8)
              have HO8 := hid hO8
              clear hb8 hO8 HD5d HB5d HA5d
              go_wp2_with fail
              refine hK.out _ _ (fun _ => hS) ?_
              clear hK K
              try simp only [Act.put, List.setIfInBounds_toArray, List.set_cons_zero, List.set_cons_succ]
              refine wpAnyZ_one (i := 8) (by kernel_rfl) rfl (fun K hK => ?_)
              go_simp
              go_at_call 24
              refine (dWrite_of _ g F S v8 HD8.out r (by simp [Lit.wf, IntKind.min, IntKind.max, IntKind.signed, IntKind.bits]; omega) _ c8 256 _ HO8.out.slice'.2 (fullL_oct hx) (fullL_len x) hc8 (by decide) HDF.out HST.out.1 HST.out.2).mono ?_
              rintro e w6 ⟨rfl, hs⟩
              obtain ⟨F6, hD6, hB6, hT6, hF6⟩ := hs.out (B := 0) HD8.out HB8.out
              replace hS := hS.tb hT6 HFb.out
              have HFB6 : Hid (¬ F6 gb) := hid (fun h => by
                rcases hF6 _ h with h1 | h1
                · exact HFb.out h1
                · have := hS.lt; have := HGL.out; have := HLE.out; omega)
              have HA6 := hid (HA8.out.tb hT6 HDS.out)
              have HDS6 : Hid (∀ q, Arz.has b1 V q → ¬ F6 q) := hid (fun q hq h => by
                rcases hF6 _ h with h1 | h1
                · exact HDS.out q hq h1
                · have := (HA8.out.lt q hq).2; omega)
              rw [← hS2.out] at hD6
              rw [HWE.out]
              have HD6 := hid hD6
              have HB6 := hid hB6
              clear HD8 HB8 HO8 HA8 hs hD6 hB6 hT6 hF6 HGL
              go_wp2_with fail
              refine hK.out _ _ (fun _ => hS) ?_
              clear hK K
              try simp only [Act.put, List.setIfInBounds_toArray, List.set_cons_zero, List.set_cons_succ]
              refine wpAnyZ_take (i := 9) (v := .bool false) rfl (by kernel_rfl) (by kernel_rfl) (by kernel_rfl) (by kernel_rfl) (fun _ _ _ h => h) hS (Or.inl ⟨by kernel_rfl, fun w hS => (by clear hS; go_simp)⟩) ?_
              simp only [Act.put, List.setIfInBounds_toArray, List.set_cons_zero, List.set_cons_succ]
              refine wpAnyZ_done (by kernel_rfl) ?_ _
              have H56 := hid hS
              clear hS HLE HFb HWE HST
              go_upto_region 17 with fail
              have hS0 : (fun v => Five v gb (.int .i64 f0) (.int .i64 f1) (.int .i64 f2) (.slice p3 n3 d3) (.slice p4 n4 d4)) w6.drew := H56.out.below ((Below.refl _ _).drew)
              have HD7d := hid HD6.out.drew
              have HB7d := hid (show Below w.heap.size w w6.drew from HB6.out.trans ((Below.refl w6.heap.size w6).drew.mono HB6.out.size))
              have HA7d := hid (HA6.out.below ((Below.refl _ _).drew))
              clear HD6 HB6 HA6 H56
              refine wp_region_z (fun v => Five v gb (.int .i64 f0) (.int .i64 f1) (.int .i64 f2) (.slice p3 n3 d3) (.slice p4 n4 d4)) 9 (by kernel_rfl) hS0 (fun hS => ?_)
              clear hS0
              generalize World.drew _ = w7 at hS HD7d HB7d HA7d ⊢
              refine wpAnyZ_take (i := 0) (v := .pointer (some ⟨gb, 1, none⟩)) rfl (by kernel_rfl) (by kernel_rfl) (by kernel_rfl) (by kernel_rfl) (fun _ _ _ h => h) hS (Or.inl ⟨by kernel_rfl, fun w hS => (by clear hS; go_simp)⟩) ?_
              simp only [Act.put, List.setIfInBounds_toArray, List.set_cons_zero, List.set_cons_succ]
              refine wpAnyZ_take (i := 1) (v := .int .i64 f1) rfl (by kernel_rfl) (by kernel_rfl) (by kernel_rfl) (by kernel_rfl) (fun _ _ _ h => h) hS (Or.inl ⟨by kernel_rfl, fun w hS => (by have hc := hS.c1; clear hS; go_simp)⟩) ?_
              simp only [Act.put, List.setIfInBounds_toArray, List.set_cons_zero, List.set_cons_succ]
              refine wpAnyZ_take (i := 2) (v := .int .i64 (r : Nat)) rfl (by kernel_rfl) (by kernel_rfl) (by kernel_rfl) (by kernel_rfl) (fun _ _ _ h => h) hS (Or.inl ⟨by kernel_rfl, fun w hS => (by clear hS; go_simp)⟩) ?_
              simp only [Act.put, List.setIfInBounds_toArray, List.set_cons_zero, List.set_cons_succ]
              refine wpAnyZ_take (i := 3) (v := .pointer (some ⟨gb, 2, none⟩)) rfl (by kernel_rfl) (by kernel_rfl) (by kernel_rfl) (by kernel_rfl) (fun _ _ _ h => h) hS (Or.inl ⟨by kernel_rfl, fun w hS => (by clear hS; go_simp)⟩) ?_
              simp only [Act.put, List.setIfInBounds_toArray, List.set_cons_zero, List.set_cons_succ]
              refine wpAnyZ_take (i := 4) (v := .int .i64 f2) rfl (by kernel_rfl) (by kernel_rfl) (by kernel_rfl) (by kernel_rfl) (fun _ _ _ h => h) hS (Or.inl ⟨by kernel_rfl, fun w hS => (by have hc := hS.c2; clear hS; go_simp)⟩) ?_
              simp only [Act.put, List.setIfInBounds_toArray, List.set_cons_zero, List.set_cons_succ]
              refine wpAnyZ_take (i := 5) (v := .int .u8 x) rfl (by kernel_rfl) (by kernel_rfl) (by kernel_rfl) (by kernel_rfl) (fun _ _ _ h => h) hS (Or.inl ⟨by kernel_rfl, fun w hS => (by clear hS; go_simp)⟩) ?_
              simp only [Act.put, List.setIfInBounds_toArray, List.set_cons_zero, List.set_cons_succ]
              refine wpAnyZ_one (i := 6) (by kernel_rfl) rfl (fun K hK => ?_)
              go_simp
              go_at_call 29
              refine (full_of x _ hx).mono ?_
              rintro e v8 ⟨g8, c8, rfl, hc8, hO8, hb8⟩
              replace hS := hS.below hb8
              have hg8 := (World.ownsRow.lt hO8 g8 rfl).1
              have hA8 := HA7d.out.below hb8
              have hO' : Own w.heap.size v8 (.slice (some ⟨g8, 0, none⟩) 256 c8) (fullL x).length (fullL x) := by rw [fullL_len]; exact Own.mono hO8 HB7d.out.size
              have HA9 := hid (hA8.put hr8 hO' (fun e => by have := u_block hO8 e; have := HA7d.out.blt; omega) (fun j hj _ q hq e => by have := u_block hO8 e; have := (HA7d.out.lt q (.inr ⟨j, hj, hq⟩)).2; omega))
              have HD9 := hid ((HD7d.out.below hb8).tb (tb_one (b := b1) (o := r) (v := .slice (some ⟨g8, 0, none⟩) 256 c8)) (fun q hq e => HDS6.out b1 (.inl rfl) (e ▸ hq)))
              have HB9 := hid ((HB7d.out.trans (hb8.mono HB7d.out.size)).setCell (p := ⟨b1, r, none⟩) HA7d.out.lo (.slice (some ⟨g8, 0, none⟩) 256 c8))
              have HS9 : Hid (Five (v8.setCell ⟨b1, r, none⟩ (.slice (some ⟨g8, 0, none⟩) 256 c8)) gb (.int .i64 f0) (.int .i64 f1) (.int .i64 f2) (.slice p3 n3 d3) (.slice p4 n4 d4)) := hid (hS.tb (tb_one (b := b1) (o := r) (v := .slice (some ⟨g8, 0, none⟩) 256 c8)) (fun e => HNb.out b1 (.inl rfl) e.symm))
              have HDS9 : Hid (∀ q, Arz.has b1 (fun j => if j = r then Value.slice (some ⟨g8, 0, none⟩) 256 c8 else V j) q → ¬ F6 q) := hid (fun q hq h => by
                rcases Arz.has_put hq with h1 | h1
                · exact HDS6.out q h1 h
                · have := u_block hO8 h1; have := (HD7d.out.lt q h).2; omega)
              have HC9 := hid (And.intro (hA8.cell r hr8) (hA8.free r hr8))
              clear hb8 hO8 hO' hA8 HD7d HB7d HA7d
              go_wp2_with fail
              refine hK.out _ _ (fun _ => hS) ?_
              clear hK K
              try simp only [Act.put, List.setIfInBounds_toArray, List.set_cons_zero, List.set_cons_succ]
              refine wpAnyZ_take (i := 7) (v := .pointer (some ⟨b1, r, none⟩)) rfl (by kernel_rfl) (by kernel_rfl) (by kernel_rfl) (by kernel_rfl) (fun _ _ _ h => h) hS (Or.inl ⟨by kernel_rfl, fun w hS => (by clear hS; go_simp)⟩) ?_
              simp only [Act.put, List.setIfInBounds_toArray, List.set_cons_zero, List.set_cons_succ]
              refine wpAnyZ_one (i := 8) (by kernel_rfl) rfl (fun K hK => ?_)
              obtain ⟨hcc, hff⟩ := HC9.out
              go_simp
              refine hK.out _ _ (fun _ => HS9.out) ?_
              clear hK K hcc hff
              try simp only [Act.put, List.setIfInBounds_toArray, List.set_cons_zero, List.set_cons_succ]
              refine wpAnyZ_done (by kernel_rfl) ?_ _
              clear hS HS9 HC9
              have HDA9 : Hid (∀ i, i < 8 → (if i = r then fullL x else D i) = S2.now i ∧ ∃ y, (if i = r then fullL x else D i) = fullL y) := hid (fun i hi => by
                rw [HI2.out.2.2.2]
                unfold putB
                split
                · exact ⟨rfl, x, rfl⟩
                · exact HDA.out i hi)
              go_wp2_with fail
              go_roundw
              case rel => exact ⟨k + 1, S2, F6, _, _, by omega, by go_num, HS2.out, HA9.out, HDA9.out, HD9.out, HDS9.out, HB9.out⟩
              case measure => simp [intOf]; omega
            · obtain rfl : k = len0 := by omega
              have kI : ¬ (k : Int) < (k : Int) := by omega
              have HSY := hid (HS.out.sync (j := k + 1) (by have := HS.out.hst; omega) (Nat.le_succ _))
              have HSC := hid (dSync_of _ g F S wr HD.out (by have := HS.out.hst; omega))
              obtain ⟨S1, hS1⟩ : ∃ s, Hid (s = S.sync) := ⟨_, rfl⟩
              rw [HS.out.err, ← hS1.out] at HSC
              rw [← hS1.out] at HSY
              go_wp2_with fail
              refine HSC.out.mono ?_
              rintro e w3 ⟨rfl, hs⟩
              obtain ⟨F3', hD3, hB3, hT3, hF3⟩ := hs.out (B := 0) HD.out HB.out
              have HA3 := hid (HA.out.tb hT3 HDS.out)
              have HDS3 : Hid (∀ q, Arz.has b1 V q → ¬ F3' q) := hid (fun q hq h => by
                rcases hF3 _ h with h1 | h1
                · exact HDS.out q hq h1
                · have := (HA.out.lt q hq).2; omega)
              have HDA1 : Hid (∀ i, i < 8 → D i = S1.firm i ∧ ∃ y, D i = fullL y) := hid (fun i hi => by rw [HSY.out.2.1]; exact HDA.out i hi)
              obtain ⟨wa2, hwa⟩ : ∃ wa, Hid (wa = w3.alloc (.cells #[.slice none 0 0, .slice none 0 0, .slice none 0 0, .slice none 0 0, .slice none 0 0, .slice none 0 0, .slice none 0 0, .slice none 0 0] 55)) := ⟨_, rfl⟩
              have hbl : Below w3.heap.size w3 wa2 := by rw [hwa.out]; exact (Below.refl _ _).alloc (Nat.le_refl _) _
              have HE0 : Hid (Arz w.heap.size wa2 w3.heap.size (fun _ => .slice none 0 0) (fun _ => [])) := hid (Arz.nils hB3.size (fun i hi => by rw [hwa.out]; exact nil8_cell w3 i hi) (fun i hi => by rw [hwa.out]; exact nil8_free w3 i hi))
              have HDT : Hid (∀ q, Arz.has w3.heap.size (fun _ => Value.slice none 0 0) q → ¬ F3' q) := hid (fun q hq h => by
                rcases hq with rfl | ⟨i, _, hq⟩
                · exact Nat.lt_irrefl _ (hD3.lt _ h).2
                · cases hq)
              have HAE : Hid (∀ q, Arz.has b1 V q → ¬ Arz.has w3.heap.size (fun _ => Value.slice none 0 0) q) := hid (fun q hq h => by
                rcases h with rfl | ⟨i, _, h⟩
                · exact Nat.lt_irrefl _ (HA3.out.lt _ hq).2
                · cases h)
              have HDa := hid (hD3.below hbl)
              have HBa := hid (hB3.trans (hbl.mono hB3.size))
              have HAa := hid (HA3.out.below hbl)
              obtain ⟨b2, hb2'⟩ : ∃ b, Hid (b = w3.heap.size) := ⟨_, rfl⟩
              rw [← hb2'.out] at HE0 HDT HAE
              clear HSC hs hD3 hB3 hT3 hF3 hbl HA HD HDS HB HA3 HDA
              go_upto_region 22 with fail
              rw [← hwa.out, ← hb2'.out]
              clear hwa hb2'
              have HDS := hid HDS3.out
              clear HDS3
              go_wp2_with fail
              go_loopw [79] (fun i wr => ∃ (j : Nat) (S : Dst) (F : Nat → Prop) (V2 : Nat → Value) (E : Nat → List Int) (xs : List (Nat × Int)), j ≤ len1 ∧ i = .int .i64 (j : Int) ∧ Cal (k + 1 + j) S ∧ S.ws = fulls xs ∧ xs.length = j ∧ S.firm = S1.firm ∧ (∀ i, i < 8 → E i = bytesOf xs i) ∧ Arz w.heap.size wr b1 V D ∧ Arz w.heap.size wr b2 V2 E ∧ PDk w.heap.size wr g F S ∧ (∀ q, Arz.has b1 V q → ¬ F q) ∧ (∀ q, Arz.has b2 V2 q → ¬ F q) ∧ (∀ q, Arz.has b1 V q → ¬ Arz.has b2 V2 q) ∧ Below w.heap.size w wr) (fun i _ => len1 - (intOf i).toNat)
              case atStart => exact ⟨0, S1, F3', _, _, [], Nat.zero_le _, rfl, HSY.out.1, HSY.out.2.2.2.1, rfl, rfl, fun i hi => rfl, HAa.out, HE0.out, HDa.out, HDS.out, HDT.out, HAE.out, HBa.out⟩
              case round =>
                clear HAa HE0 HDa HDS HDT HAE HBa HS
                obtain ⟨j, S, F, V2, E, xs, hj, rfl, hS, hws, hxl, hfm, hEe, hA, hE, hD, hds, hdt, hae, hB⟩ := hrel
                have HS := hid hS
                have HWS := hid hws
                have HXL := hid hxl
                have HFM := hid hfm
                have HEE := hid hEe
                have HA := hid hA
                have HE := hid hE
                have HD := hid hD
                have HDS := hid hds
                have HDT := hid hdt
                have HAE := hid hae
                have HB := hid hB
                clear hS hws hxl hfm hEe hA hE hD hds hdt hae hB
                by_cases hkl : j < len1
                · have HEL : Hid (∀ i, i < 8 → (E i).length ≤ 60) := hid (fun i hi => by rw [HEE.out i hi]; have := bytesOf_len xs i; have := HXL.out; omega)
                  have kI : (j : Int) < (len1 : Int) := by omega
                  obtain ⟨b, o, rfl, hbl, hcol⟩ := HR1.out.at hkl (Nat.succ_pos _)
                  have hc0 : wr.cell? ⟨b, o + j * 5, none⟩ = some (.int .i64 (G0 j)) := (HB.out.cell (p := ⟨b, o + j * 5, none⟩) hbl).trans (hcol 0 _ rfl)
                  have hc1 : wr.cell? ⟨b, o + j * 5 + 1, none⟩ = some (.int .i64 (G1 j)) := (HB.out.cell (p := ⟨b, o + j * 5 + 1, none⟩) hbl).trans (hcol 1 _ rfl)
                  have hc2 : wr.cell? ⟨b, o + j * 5 + 2, none⟩ = some (.int .i64 (G2 j)) := (HB.out.cell (p := ⟨b, o + j * 5 + 2, none⟩) hbl).trans (hcol 2 _ rfl)
                  have hc3 : wr.cell? ⟨b, o + j * 5 + 3, none⟩ = some (.slice (G3 j).1 (G3 j).2.2.length (G3 j).2.1) := (HB.out.cell (p := ⟨b, o + j * 5 + 3, none⟩) hbl).trans (hcol 3 _ rfl)
                  have hc4 : wr.cell? ⟨b, o + j * 5 + 4, none⟩ = some (.slice (G4 j).1 (G4 j).2.2.length (G4 j).2.1) := (HB.out.cell (p := ⟨b, o + j * 5 + 4, none⟩) hbl).trans (hcol 4 _ rfl)
                  clear hcol
                  obtain ⟨f0, hf0⟩ : ∃ v, Hid (v = G0 j) := ⟨_, rfl⟩
                  obtain ⟨f1, hf1⟩ : ∃ v, Hid (v = G1 j) := ⟨_, rfl⟩
                  obtain ⟨f2, hf2⟩ : ∃ v, Hid (v = G2 j) := ⟨_, rfl⟩
                  obtain ⟨p3, n3, d3, hf3⟩ : ∃ p n d, Hid (p = (G3 j).1 ∧ n = (G3 j).2.2.length ∧ d = (G3 j).2.1) := ⟨_, _, _, rfl, rfl, rfl⟩
                  obtain ⟨p4, n4, d4, hf4⟩ : ∃ p n d, Hid (p = (G4 j).1 ∧ n = (G4 j).2.2.length ∧ d = (G4 j).2.1) := ⟨_, _, _, rfl, rfl, rfl⟩
                  rw [← hf0.out] at hc0
                  rw [← hf1.out] at hc1
                  rw [← hf2.out] at hc2
                  rw [← hf3.out.1, ← hf3.out.2.1, ← hf3.out.2.2] at hc3
                  rw [← hf4.out.1, ← hf4.out.2.1, ← hf4.out.2.2] at hc4
                  clear hf0 hf1 hf2 hf3 hf4
                  obtain ⟨wb, hwb⟩ : ∃ wa, Hid (wa = wr.alloc (.cells #[.int .i64 f0, .int .i64 f1, .int .i64 f2, .slice p3 n3 d3, .slice p4 n4 d4] 36)) := ⟨_, rfl⟩
                  have hbw : Below wr.heap.size wr wb := by rw [hwb.out]; exact (Below.refl _ _).alloc (Nat.le_refl _) _
                  have H5 : Hid (Five wb wr.heap.size (.int .i64 f0) (.int .i64 f1) (.int .i64 f2) (.slice p3 n3 d3) (.slice p4 n4 d4)) := hid (by rw [hwb.out]; exact five_new _ _ _ _ _ _ _)
                  have HDb := hid (HD.out.below hbw)
                  have HBb := hid (HB.out.trans (hbw.mono HB.out.size))
                  have HFb : Hid (¬ F wr.heap.size) := hid (fun h => Nat.lt_irrefl _ (HD.out.lt _ h).2)
                  have HAb := hid (HA.out.below hbw)
                  have HNb : Hid (∀ q, Arz.has b1 V q → q ≠ wr.heap.size) := hid (fun q hq e => by have := (HA.out.lt q hq).2; omega)
                  have HEb := hid (HE.out.below hbw)
                  have HMb : Hid (∀ q, Arz.has b2 V2 q → q ≠ wr.heap.size) := hid (fun q hq e => by have := (HE.out.lt q hq).2; omega)
                  obtain ⟨gb, hgb⟩ : ∃ g, Hid (g = wr.heap.size) := ⟨_, rfl⟩
                  rw [← hgb.out] at H5 HFb HNb HMb
                  obtain ⟨r, hr8, hre⟩ : ∃ r : Nat, r < 8 ∧ f1 % 8 = (r : Int) := ⟨(f1 % 8).toNat, by omega, by omega⟩
                  have e7 : bits .and .i64 f1 7 = (r : Int) := (i64_and7 f1).trans hre
                  have hr8I : (r : Int) < 8 := by omega
                  obtain ⟨x, hx, hxe⟩ : ∃ x : Int, (0 ≤ x ∧ x ≤ 255) ∧ IntKind.u8.wrap f2 = x := ⟨f2 % 256, by omega, IntKind.wrap_u8' f2⟩
                  obtain ⟨S2, hS2⟩ : ∃ S2, Hid (S2 = S.write r (fullL x)) := ⟨_, rfl⟩
                  have hwr := HS.out.write hr8 (fullL_len x) (fullL_oct hx)
                  rw [← hS2.out] at hwr
                  obtain ⟨hwe, hs2, hfm2, hws2, hst2, hnw2⟩ := hwr
                  have HS2 := hid hs2
                  have HWE := hid hwe
                  have HI2 := hid (And.intro hfm2 (And.intro hws2 (And.intro hst2 hnw2)))
                  have HST : Hid (S.steps < 9223372036854775807 ∧ S.ws.length < 4294967296) := hid (by have := HS.out.hst; have := HS.out.hws; omega)
                  clear hs2 hwe hfm2 hws2 hst2 hnw2 hre hbw
                  go_upto_region 25 with fail
                  rw [← hwb.out, ← hgb.out]
                  clear hc0 hc1 hc2 hc3 hc4 hwb hgb HD HB HA HE
                  have hS0 : (fun v => Five v gb (.int .i64 f0) (.int .i64 f1) (.int .i64 f2) (.slice p3 n3 d3) (.slice p4 n4 d4)) wb.drew := H5.out.below ((Below.refl _ _).drew)
                  have HD5d := hid HDb.out.drew
                  have HB5d := hid (show Below w.heap.size w wb.drew from HBb.out.trans ((Below.refl wb.heap.size wb).drew.mono HBb.out.size))
                  have HA5d := hid (HAb.out.below ((Below.refl _ _).drew))
                  have HE5d := hid (HEb.out.below ((Below.refl _ _).drew))
                  clear HDb HBb H5 HAb HEb
                  refine wp_region_z (fun v => Five v gb (.int .i64 f0) (.int .i64 f1) (.int .i64 f2) (.slice p3 n3 d3) (.slice p4 n4 d4)) 10 (by kernel_rfl) hS0 (fun hS => ?_)
                  clear hS0
                  generalize World.drew _ = w9 at hS HD5d HB5d HA5d HE5d ⊢
                  refine wpAnyZ_take (i := 0) (v := .pointer (some ⟨g, 0, none⟩)) rfl (by kernel_rfl) (by kernel_rfl) (by kernel_rfl) (by kernel_rfl) (fun _ _ _ h => h) hS (Or.inl ⟨by kernel_rfl, fun w hS => (by clear hS; go_simp)⟩) ?_
                  simp only [Act.put, List.setIfInBounds_toArray, List.set_cons_zero, List.set_cons_succ]
                  refine wpAnyZ_take (i := 1) (v := .pointer (some ⟨gb, 1, none⟩)) rfl (by kernel_rfl) (by kernel_rfl) (by kernel_rfl) (by kernel_rfl) (fun _ _ _ h => h) hS (Or.inl ⟨by kernel_rfl, fun w hS => (by clear hS; go_simp)⟩) ?_
                  simp only [Act.put, List.setIfInBounds_toArray, List.set_cons_zero, List.set_cons_succ]
                  refine wpAnyZ_take (i := 2) (v := .int .i64 f1) rfl (by kernel_rfl) (by kernel_rfl) (by kernel_rfl) (by kernel_rfl) (fun _ _ _ h => h) hS (Or.inl ⟨by kernel_rfl, fun w hS => (by have hc := hS.c1; clear hS; go_simp)⟩) ?_
                  simp only [Act.put, List.setIfInBounds_toArray, List.set_cons_zero, List.set_cons_succ]
                  refine wpAnyZ_take (i := 3) (v := .int .i64 (r : Nat)) rfl (by kernel_rfl) (by kernel_rfl) (by kernel_rfl) (by kernel_rfl) (fun _ _ _ h => h) hS (Or.inl ⟨by kernel_rfl, fun w hS => (by clear hS; go_simp)⟩) ?_
                  simp only [Act.put, List.setIfInBounds_toArray, List.set_cons_zero, List.set_cons_succ]
                  refine wpAnyZ_take (i := 4) (v := .pointer (some ⟨gb, 2, none⟩)) rfl (by kernel_rfl) (by kernel_rfl) (by kernel_rfl) (by kernel_rfl) (fun _ _ _ h => h) hS (Or.inl ⟨by kernel_rfl, fun w hS => (by clear hS; go_simp)⟩) ?_
                  simp only [Act.put, List.setIfInBounds_toArray, List.set_cons_zero, List.set_cons_succ]
                  refine wpAnyZ_take (i := 5) (v := .int .i64 f2) rfl (by kernel_rfl) (by kernel_rfl) (by kernel_rfl) (by kernel_rfl) (fun _ _ _ h => h) hS (Or.inl ⟨by kernel_rfl, fun w hS => (by have hc := hS.c2; clear hS; go_simp)⟩) ?_
                  simp only [Act.put, List.setIfInBounds_toArray, List.set_cons_zero, List.set_cons_succ]
                  refine wpAnyZ_take (i := 6) (v := .int .u8 x) rfl (by kernel_rfl) (by kernel_rfl) (by kernel_rfl) (by kernel_rfl) (fun _ _ _ h => h) hS (Or.inl ⟨by kernel_rfl, fun w hS => (by clear hS; go_simp)⟩) ?_
                  simp only [Act.put, List.setIfInBounds_toArray, List.set_cons_zero, List.set_cons_succ]
                  refine wpAnyZ_one (i := 7) (by kernel_rfl) rfl (fun K hK => ?_)
                  go_simp
                  go_at_call 29
                  refine (full_of x _ hx).mono ?_
                  rintro e v8 ⟨g8, c8, rfl, hc8, hO8, hb8⟩
                  have HGL := hid hS.lt
                  replace hS := hS.below hb8
                  have HDF := hid (HD5d.out.newer' hO8)
                  have HLE : Hid (w9.heap.size ≤ v8.heap.size) := hid hb8.size
                  have HD8 := hid (HD5d.out.below hb8)
                  have HB8 := hid (HB5d.out.trans (hb8.mono HB5d.out.size))
                  have HA8 := hid (HA5d.out.below hb8)
                  have HE8 := hid (HE5d.out.below hb8)
                  have HO8 := hid hO8
                  clear hb8 hO8 HD5d HB5d HA5d HE5d
                  go_wp2_with fail
                  refine hK.out _ _ (fun _ => hS) ?_
                  clear hK K
                  try simp only [Act.put, List.setIfInBounds_toArray, List.set_cons_zero, List.set_cons_succ]
                  refine wpAnyZ_one (i := 8) (by kernel_rfl) rfl (fun K hK => ?_)
                  go_simp
                  go_at_call 24
                  refine (dWrite_of _ g F S v8 HD8.out r (by simp [Lit.wf, IntKind.min, IntKind.max, IntKind.signed, IntKind.bits]; omega) _ c8 256 _ HO8.out.slice'.2 (fullL_oct hx) (fullL_len x) hc8 (by decide) HDF.out HST.out.1 HST.out.2).mono ?_
                  rintro e w6 ⟨rfl, hs⟩
                  obtain ⟨F6, hD6, hB6, hT6, hF6⟩ := hs.out (B := 0) HD8.out HB8.out
                  replace hS := hS.tb hT6 HFb.out
                  have HFB6 : Hid (¬ F6 gb) := hid (fun h => by
                    rcases hF6 _ h with h1 | h1
                    · exact HFb.out h1
                    · have := hS.lt; have := HGL.out; have := HLE.out; omega)
                  have HA6 := hid (HA8.out.tb hT6 HDS.out)
                  have HE6 := hid (HE8.out.tb hT6 HDT.out)
                  have HDS6 : Hid (∀ q, Arz.has b1 V q → ¬ F6 q) := hid (fun q hq h => by
                    rcases hF6 _ h with h1 | h1
                    · exact HDS.out q hq h1
                    · have := (HA8.out.lt q hq).2; omega)
                  have HDT6 : Hid (∀ q, Arz.has b2 V2 q → ¬ F6 q) := hid (fun q hq h => by
                    rcases hF6 _ h with h1 | h1
                    · exact HDT.out q hq h1
                    · have := (HE8.out.lt q hq).2; omega)
                  rw [← hS2.out] at hD6
                  rw [HWE.out]
                  have HD6 := hid hD6
                  have HB6 := hid hB6
                  clear HD8 HB8 HO8 HA8 hs hD6 hB6 hT6 hF6 HGL HE8
                  go_wp2_with fail
                  refine hK.out _ _ (fun _ => hS) ?_
                  clear hK K
                  try simp only [Act.put, List.setIfInBounds_toArray, List.set_cons_zero, List.set_cons_succ]
                  refine wpAnyZ_take (i := 9) (v := .bool false) rfl (by kernel_rfl) (by kernel_rfl) (by kernel_rfl) (by kernel_rfl) (fun _ _ _ h => h) hS (Or.inl ⟨by kernel_rfl, fun w hS => (by clear hS; go_simp)⟩) ?_
                  simp only [Act.put, List.setIfInBounds_toArray, List.set_cons_zero, List.set_cons_succ]
                  refine wpAnyZ_done (by kernel_rfl) ?_ _
                  have H56 := hid hS
                  clear hS HLE HFb HWE HST
                  go_upto_region 27 with fail
                  have hS0 : (fun v => Five v gb (.int .i64 f0) (.int .i64 f1) (.int .i64 f2) (.slice p3 n3 d3) (.slice p4 n4 d4) ∧ v.cell? ⟨b2, r, none⟩ = some (V2 r)) w6.drew := ⟨H56.out.below ((Below.refl _ _).drew), HE6.out.cell r hr8⟩
                  have HD7 := hid HD6.out.drew
                  have HB7 := hid (show Below w.heap.size w w6.drew from HB6.out.trans ((Below.refl w6.heap.size w6).drew.mono HB6.out.size))
                  have HA7 := hid (HA6.out.below ((Below.refl _ _).drew))
                  have HE7 := hid (HE6.out.below ((Below.refl _ _).drew))
                  clear HD6 HB6 HA6 HE6 H56
                  refine wp_region_z (fun v => Five v gb (.int .i64 f0) (.int .i64 f1) (.int .i64 f2) (.slice p3 n3 d3) (.slice p4 n4 d4) ∧ v.cell? ⟨b2, r, none⟩ = some (V2 r)) 14 (by kernel_rfl) hS0 (fun hS => ?_)
                  clear hS0
                  generalize World.drew _ = w7 at hS HD7 HB7 HA7 HE7 ⊢
                  refine wpAnyZ_take (i := 0) (v := .pointer (some ⟨gb, 1, none⟩)) rfl (by kernel_rfl) (by kernel_rfl) (by kernel_rfl) (by kernel_rfl) (fun _ _ _ h => h) hS (Or.inl ⟨by kernel_rfl, fun w hS => (by clear hS; go_simp)⟩) ?_
                  simp only [Act.put, List.setIfInBounds_toArray, List.set_cons_zero, List.set_cons_succ]
                  refine wpAnyZ_take (i := 1) (v := .int .i64 f1) rfl (by kernel_rfl) (by kernel_rfl) (by kernel_rfl) (by kernel_rfl) (fun _ _ _ h => h) hS (Or.inl ⟨by kernel_rfl, fun w hS => (by have hc := hS.1.c1; clear hS; go_simp)⟩) ?_
                  simp only [Act.put, List.setIfInBounds_toArray, List.set_cons_zero, List.set_cons_succ]
                  refine wpAnyZ_take (i := 2) (v := .int .i64 (r : Nat)) rfl (by kernel_rfl) (by kernel_rfl) (by kernel_rfl) (by kernel_rfl) (fun _ _ _ h => h) hS (Or.inl ⟨by kernel_rfl, fun w hS => (by clear hS; go_simp)⟩) ?_
                  simp only [Act.put, List.setIfInBounds_toArray, List.set_cons_zero, List.set_cons_succ]
                  refine wpAnyZ_take (i := 3) (v := .pointer (some ⟨gb, 1, none⟩)) rfl (by kernel_rfl) (by kernel_rfl) (by kernel_rfl) (by kernel_rfl) (fun _ _ _ h => h) hS (Or.inl ⟨by kernel_rfl, fun w hS => (by clear hS; go_simp)⟩) ?_
                  simp only [Act.put, List.setIfInBounds_toArray, List.set_cons_zero, List.set_cons_succ]
                  refine wpAnyZ_take (i := 4) (v := .int .i64 f1) rfl (by kernel_rfl) (by kernel_rfl) (by kernel_rfl) (by kernel_rfl) (fun _ _ _ h => h) hS (Or.inl ⟨by kernel_rfl, fun w hS => (by have hc := hS.1.c1; clear hS; go_simp)⟩) ?_
                  simp only [Act.put, List.setIfInBounds_toArray, List.set_cons_zero, List.set_cons_succ]
                  refine wpAnyZ_take (i := 5) (v := .int .i64 (r : Nat)) rfl (by kernel_rfl) (by kernel_rfl) (by kernel_rfl) (by kernel_rfl) (fun _ _ _ h => h) hS (Or.inl ⟨by kernel_rfl, fun w hS => (by clear hS; go_simp)⟩) ?_
                  simp only [Act.put, List.setIfInBounds_toArray, List.set_cons_zero, List.set_cons_succ]
                  refine wpAnyZ_take (i := 6) (v := .pointer (some ⟨b2, r, none⟩)) rfl (by kernel_rfl) (by kernel_rfl) (by kernel_rfl) (by kernel_rfl) (fun _ _ _ h => h) hS (Or.inl ⟨by kernel_rfl, fun w hS => (by clear hS; go_simp)⟩) ?_
                  simp only [Act.put, List.setIfInBounds_toArray, List.set_cons_zero, List.set_cons_succ]
                  refine wpAnyZ_take (i := 7) (v := V2 r) rfl (by kernel_rfl) (by kernel_rfl) (by kernel_rfl) (by kernel_rfl) (fun _ _ _ h => h) hS (Or.inl ⟨by kernel_rfl, fun w hS => (by have hc := hS.2; clear hS; go_simp)⟩) ?_
                  simp only [Act.put, List.setIfInBounds_toArray, List.set_cons_zero, List.set_cons_succ]
                  refine wpAnyZ_take (i := 8) (v := .pointer (some ⟨gb, 2, none⟩)) rfl (by kernel_rfl) (by kernel_rfl) (by kernel_rfl) (by kernel_rfl) (fun _ _ _ h => h) hS (Or.inl ⟨by kernel_rfl, fun w hS => (by clear hS; go_simp)⟩) ?_
                  simp only [Act.put, List.setIfInBounds_toArray, List.set_cons_zero, List.set_cons_succ]
                  refine wpAnyZ_take (i := 9) (v := .int .i64 f2) rfl (by kernel_rfl) (by kernel_rfl) (by kernel_rfl) (by kernel_rfl) (fun _ _ _ h => h) hS (Or.inl ⟨by kernel_rfl, fun w hS => (by have hc := hS.1.c2; clear hS; go_simp)⟩) ?_
                  simp only [Act.put, List.setIfInBounds_toArray, List.set_cons_zero, List.set_cons_succ]
                  refine wpAnyZ_take (i := 10) (v := .int .u8 x) rfl (by kernel_rfl) (by kernel_rfl) (by kernel_rfl) (by kernel_rfl) (fun _ _ _ h => h) hS (Or.inl ⟨by kernel_rfl, fun w hS => (by clear hS; go_simp)⟩) ?_
                  simp only [Act.put, List.setIfInBounds_toArray, List.set_cons_zero, List.set_cons_succ]
                  have hbl : Below w7.heap.size w7 (w7.alloc (.cells #[.int .u8 x] 5)) := (Below.refl _ _).alloc (Nat.le_refl _) _
                  have HN8 := hid (own_one w7 x)
                  have HS8 : Hid ((fun v => Five v gb (.int .i64 f0) (.int .i64 f1) (.int .i64 f2) (.slice p3 n3 d3) (.slice p4 n4 d4) ∧ v.cell? ⟨b2, r, none⟩ = some (V2 r)) (w7.alloc (.cells #[.int .u8 x] 5))) := hid ⟨hS.1.below hbl, (HE7.out.below hbl).cell r hr8⟩
                  have HD8 := hid (HD7.out.below hbl)
                  have HB8 := hid (HB7.out.trans (hbl.mono HB7.out.size))
                  have HA8 := hid (HA7.out.below hbl)
                  have HE8 := hid (HE7.out.below hbl)
                  have HH8 : Hid (w7.heap.size < (w7.alloc (.cells #[.int .u8 x] 5)).heap.size) := hid (by simp)
                  refine wpAnyZ_one (i := 11) (by kernel_rfl) rfl (fun K hK => ?_)
                  go_simp
                  refine hK.out _ _ (fun _ => HS8.out) ?_
                  clear hK K
                  try simp only [Act.put, List.setIfInBounds_toArray, List.set_cons_zero, List.set_cons_succ]
                  clear hS hbl HD7 HB7 HA7 HE7
                  obtain ⟨g7, hg7⟩ : ∃ g, Hid (g = w7.heap.size) := ⟨_, rfl⟩
                  rw [← hg7.out] at HN8 HH8 ⊢
                  generalize World.alloc w7 (.cells #[.int .u8 x] 5) = w8 at HN8 HS8 HD8 HB8 HA8 HE8 HH8 ⊢
                  have hS := HS8.out
                  obtain ⟨nE, hnE⟩ : ∃ n, Hid (n = (E r).length) := ⟨_, rfl⟩
                  have hEb := HEL.out r hr8
                  rw [← hnE.out] at hEb
                  have hrow := HE8.out.row r hr8
                  rw [← hnE.out] at hrow
                  have HROW := hid hrow
                  clear hrow HS8
                  refine wpAnyZ_one (i := 12) (by kernel_rfl) rfl (fun K hK => ?_)
                  refine step_append_lies _ rfl (.tmp 100) (.tmp 104) 34 rfl w.heap.size 5 i0 (.int .u8 0) 1 1 Try.underlying34 hi hz0 hz1 hz2 rfl (by decide) (V2 r) nE _ rfl (by exact HROW.out) ⟨g7, 0, none⟩ 1 1 [.int .u8 x] rfl rfl (fun j u hj => by (have hjl : j < 1 := (List.getElem?_eq_some_iff.1 hj).1); obtain rfl : j = 0 := (by omega); cases hj; exact HN8.out.cellAt 0 (by decide)) (int_one x) (by decide) (by unfold maxLen; omega) (by omega) HB8.out.size _ rfl ?_
                  intro g9 cap9 w9 hown hgrow hat hlt9
                  have hat' : (Value.slice (some ⟨g9, 0, none⟩) (nE + 1) cap9).ownBlock = (V2 r).ownBlock ∨ (Value.slice (some ⟨g9, 0, none⟩) (nE + 1) cap9).ownBlock = some w8.heap.size := by
                    rcases hat with h1 | h1
                    · exact .inl h1.symm
                    · exact .inr (congrArg some h1)
                  have hown' : Own w.heap.size w9 (.slice (some ⟨g9, 0, none⟩) (nE + 1) cap9) (E r ++ [x]).length (E r ++ [x]) := by
                    rw [List.length_append, ← hnE.out]; unfold Own; rw [List.map_append]; exact hown
                  have HE9 := hid (HE8.out.more hr8 hgrow hat' (Nat.le_refl _) hown')
                  have hgt := HE8.out.grown hr8 hgrow hat' (Nat.le_refl _)
                  have HC9 := hid (And.intro (hgt.1 r hr8) (hgt.2.1 r hr8))
                  have hV : ∀ q, (V2 r).ownBlock = some q → Arz.has b2 V2 q := fun q hq => .inr ⟨r, hr8, hq⟩
                  have ht9 : Tb (fun q => (V2 r).ownBlock = some q) w8 w9 := Tb.of_grown hgrow fun q e => e
                  have hS9 : (fun v => Five v gb (.int .i64 f0) (.int .i64 f1) (.int .i64 f2) (.slice p3 n3 d3) (.slice p4 n4 d4) ∧ v.cell? ⟨b2, r, none⟩ = some (V2 r)) w9 := ⟨hS.1.tb ht9 (fun e => HMb.out gb (hV gb e) rfl), hgt.1 r hr8⟩
                  have HA9 := hid ((HA8.out.tb ht9 (fun q hq e => HAE.out q hq (hV q e))).tb (tb_one (b := b2) (o := r) (v := .slice (some ⟨g9, 0, none⟩) (nE + 1) cap9)) (fun q hq e => HAE.out q hq (.inl e)))
                  have HD9 := hid ((HD8.out.tb ht9 (fun q hq e => HDT6.out q (hV q e) hq)).tb (tb_one (b := b2) (o := r) (v := .slice (some ⟨g9, 0, none⟩) (nE + 1) cap9)) (fun q hq e => HDT6.out b2 (.inl rfl) (e ▸ hq)))
                  have HB9 := hid ((HB8.out.grown hgrow HB8.out.size (fun q hq => (HE8.out.lt q (hV q hq)).1)).setCell (p := ⟨b2, r, none⟩) HE8.out.lo (.slice (some ⟨g9, 0, none⟩) (nE + 1) cap9))
                  have hnew : ∀ q, Arz.has b2 (fun j => if j = r then Value.slice (some ⟨g9, 0, none⟩) (nE + 1) cap9 else V2 j) q → Arz.has b2 V2 q ∨ w8.heap.size ≤ q := fun q hq => by
                    rcases Arz.has_put hq with h1 | h1
                    · exact .inl h1
                    · rcases hat' with h2 | h2
                      · exact .inl (hV q (h2.symm.trans h1))
                      · exact .inr (by have := Option.some.inj (h2.symm.trans h1); omega)
                  have HDT9 : Hid (∀ q, Arz.has b2 (fun j => if j = r then Value.slice (some ⟨g9, 0, none⟩) (nE + 1) cap9 else V2 j) q → ¬ F6 q) := hid (fun q hq h => by
                    rcases hnew q hq with h1 | h1
                    · exact HDT6.out q h1 h
                    · have := (HD8.out.lt q h).2; omega)
                  have HAE9 : Hid (∀ q, Arz.has b1 V q → ¬ Arz.has b2 (fun j => if j = r then Value.slice (some ⟨g9, 0, none⟩) (nE + 1) cap9 else V2 j) q) := hid (fun q hq h => by
                    rcases hnew q h with h1 | h1
                    · exact HAE.out q hq h1
                    · have := (HA8.out.lt q hq).2; omega)
                  clear hgt hV ht9 hnew hown hown' hgrow hat hat' hS
                  have hS := hS9
                  clear hS9 HD8 HB8 HA8 HE8 HROW
                  refine hK.out _ _ (fun _ => hS) ?_
                  clear hK K
                  try simp only [Act.put, List.setIfInBounds_toArray, List.set_cons_zero, List.set_cons_succ]
                  refine wpAnyZ_take (i := 13) (v := .pointer (some ⟨b2, r, none⟩)) rfl (by kernel_rfl) (by kernel_rfl) (by kernel_rfl) (by kernel_rfl) (fun _ _ _ h => h) hS (Or.inl ⟨by kernel_rfl, fun w hS => (by clear hS; go_simp)⟩) ?_
                  simp only [Act.put, List.setIfInBounds_toArray, List.set_cons_zero, List.set_cons_succ]
                  refine wpAnyZ_one (i := 14) (by kernel_rfl) rfl (fun K hK => ?_)
                  obtain ⟨hcc, hff⟩ := HC9.out
                  clear hS
                  go_simp
                  refine hK.out _ _ (fun h => absurd h (by decide)) ?_
                  clear hK K hcc hff
                  try simp only [Act.put, List.setIfInBounds_toArray, List.set_cons_zero, List.set_cons_succ]
                  refine wpAnyZ_done (by kernel_rfl) ?_ _
                  clear HC9
                  have HEE9 : Hid (∀ i, i < 8 → (if i = r then E r ++ [x] else E i) = bytesOf (xs ++ [(r, x)]) i) := hid (fun i hi => by
                    rw [bytesOf_snoc]
                    split
                    · rw [HEE.out r hr8]
                    · exact HEE.out i hi)
                  have HW9 : Hid (S2.ws = fulls (xs ++ [(r, x)])) := hid (by rw [HI2.out.2.1, fulls_snoc, HWS.out])
                  go_wp2_with fail
                  go_roundw
                  case rel => exact ⟨j + 1, S2, F6, _, _, xs ++ [(r, x)], by omega, by go_num, HS2.out, HW9.out, by rw [List.length_append, HXL.out]; rfl, HI2.out.1.trans HFM.out, HEE9.out, HA9.out, HE9.out, HD9.out, HDS6.out, HDT9.out, HAE9.out, HB9.out⟩
                  case measure => simp [intOf]; omega
                · obtain rfl : j = len1 := by omega
                  have kI2 : ¬ (j : Int) < (j : Int) := by omega
                  have HWL : Hid (S.ws.length = j) := hid (by rw [HWS.out]; unfold fulls; rw [List.length_map]; exact HXL.out)
                  have HWT := hid (dWaiting_of _ g F S wr HD.out)
                  rw [HWL.out] at HWT
                  go_wp2_with fail
                  refine HWT.out.mono ?_
                  rintro e v1 ⟨rfl, hb⟩
                  have HD1 := hid (HD.out.below hb)
                  have HB1 := hid (HB.out.trans (hb.mono HB.out.size))
                  have HA1 := hid (HA.out.below hb)
                  have HE1 := hid (HE.out.below hb)
                  have HCR := hid (dCrash_of _ g F S v1 HD1.out p2 c2 nm ms (HMP.out.below HB1.out) HMO.out hnm.out.symm hmc hmm (HD1.out.elder HMP.out hnm.out.symm))
                  clear hb HWT HD HB HA HE
                  go_wp2_with fail
                  refine HCR.out.mono ?_
                  rintro e v2 ⟨rfl, hs⟩
                  obtain ⟨F2, hD2, hB2, hT2, hF2⟩ := hs.out (B := 0) HD1.out HB1.out
                  have HA2 := hid (HA1.out.tb hT2 HDS.out)
                  have HE2 := hid (HE1.out.tb hT2 HDT.out)
                  have HCC := hid (fun r hr => HS.out.crash (ms.map Int.toNat) (r := r) hr)
                  have HOK := hid (Dst.ok_crash HS.out.hok (ms.map Int.toNat))
                  have HNN := hid HS.out.hn
                  have HWT2 := hid (dWaiting_of _ g F2 _ v2 hD2)
                  rw [show (S.crash (ms.map Int.toNat)).ws.length = 0 from rfl] at HWT2
                  obtain ⟨S3, hS3⟩ : ∃ s, Hid (s = S.crash (ms.map Int.toNat)) := ⟨_, rfl⟩
                  rw [← hS3.out] at hD2 HOK HCC
                  have HD2 := hid hD2
                  have HB2 := hid hB2
                  clear HCR hs hD2 hB2 hT2 hF2 HD1 HB1 HA1 HE1
                  go_wp2_with fail
                  refine HWT2.out.mono ?_
                  rintro e v3 ⟨rfl, hb⟩
                  have HD3 := hid (HD2.out.below hb)
                  have HB3 := hid (HB2.out.trans (hb.mono HB2.out.size))
                  have HA3 := hid (HA2.out.below hb)
                  have HE3 := hid (HE2.out.below hb)
                  clear hb HWT2 HD2 HB2 HA2 HE2
                  go_wp2_with fail
                  go_loopw [124] (fun i wr => ∃ r : Nat, r ≤ 8 ∧ i = .int .i64 (r : Int) ∧ Arz w.heap.size wr b1 V D ∧ Arz w.heap.size wr b2 V2 E ∧ PDk w.heap.size wr g F2 S3 ∧ Below w.heap.size w wr) (fun i _ => 8 - (intOf i).toNat)
                  case atStart => exact ⟨0, Nat.zero_le _, rfl, HA3.out, HE3.out, HD3.out, HB3.out⟩
                  case round =>
                    clear HA3 HE3 HD3 HB3
                    obtain ⟨r, hr, rfl, hA, hE, hD, hB⟩ := hrel
                    have HA := hid hA
                    have HE := hid hE
                    have HD := hid hD
                    have HB := hid hB
                    clear hA hE hD hB
                    by_cases hr8 : r < 8
                    · have rI : (r : Int) < 8 := by omega
                      obtain ⟨q1, q2, -, -⟩ := HCC.out r hr8
                      have HRD := hid (dRead_of _ g F2 S3 wr HD.out r (by simp [Lit.wf, IntKind.min, IntKind.max, IntKind.signed, IntKind.bits]; omega))
                      obtain ⟨L, hL⟩ : ∃ l, Hid (l = crs S.firm S.ws (ms.map Int.toNat) r) := ⟨_, rfl⟩
                      rw [q1, q2, ← hL.out] at HRD
                      have hL256 : L.length = 256 := by rw [hL.out]; exact (crs_ok' HS.out (ms.map Int.toNat) hr8).1
                      have HLO : Hid (Oct L) := hid (by rw [hL.out]; exact (crs_ok' HS.out (ms.map Int.toNat) hr8).2)
                      rw [hL256] at HRD
                      have HL256 := hid hL256
                      have HSYN : Hid (∀ m, m < 256 → synB L (D r) (E r) m) := hid (fun m hm => by
                        obtain ⟨e1, y, e2⟩ := HDA1.out r hr8
                        rw [hL.out, HEE.out r hr8, e1, HWS.out, ← HFM.out]
                        exact syn_all S.firm xs (ms.map Int.toNat) r m y hm (by rw [HFM.out, ← e1]; exact e2))
                      have hD256 : (D r).length = 256 := by obtain ⟨_, y, e2⟩ := HDA1.out r hr8; rw [e2]; exact fullL_len y
                      clear q1 q2 hL256
                      go_wp2_with fail
                      refine HRD.out.mono ?_
                      rintro e v4 ⟨v, rfl, hO, hb⟩
                      obtain ⟨pv, cv, rfl, _, hbv⟩ := hO.bin
                      obtain ⟨bv, ov, rfl, _, _⟩ := hbv.at (by rw [HL256.out]; decide)
                      have HV := hid hbv
                      have HA4 := hid (HA.out.below hb)
                      have HE4 := hid (HE.out.below hb)
                      have HD4 := hid (HD.out.below hb)
                      have HB4 := hid (HB.out.trans (hb.mono HB.out.size))
                      clear hb hO hbv HRD HA HE HD HB
                      go_wp2_with fail
                      go_loopw [142] (fun i wr => ∃ m : Nat, m ≤ 256 ∧ i = .int .i64 (m : Int) ∧ Bin wr (some ⟨bv, ov, none⟩) L ∧ Arz w.heap.size wr b1 V D ∧ Arz w.heap.size wr b2 V2 E ∧ PDk w.heap.size wr g F2 S3 ∧ Below w.heap.size w wr) (fun i _ => 256 - (intOf i).toNat)
                      case atStart => exact ⟨0, Nat.zero_le _, rfl, HV.out, HA4.out, HE4.out, HD4.out, HB4.out⟩
                      case round =>
                        clear HV HA4 HE4 HD4 HB4
                        obtain ⟨m, hm, rfl, hV, hA, hE, hD, hB⟩ := hrel
                        have HQ := hid (And.intro hV (And.intro hA (And.intro hE (And.intro hD hB))))
                        clear hV hA hE hD hB
                        by_cases hm8 : m < 256
                        · have mI : (m : Int) < 256 := by omega
                          obtain ⟨b', o', e', _, hcv⟩ := HQ.out.1.at (by rw [HL256.out]; decide)
                          cases e'
                          have c1 := hcv m (by rw [HL256.out]; exact hm8)
                          have c2' := hcv (m / 64 * 64) (by rw [HL256.out]; omega)
                          clear hcv
                          have c3 := HQ.out.2.1.cell r hr8
                          obtain ⟨pD, cD, hVD, _, hbD⟩ := (HQ.out.2.1.row r hr8).bin
                          obtain ⟨bD, oD, rfl, _, hcD⟩ := hbD.at (by rw [hD256]; decide)
                          have c4 := hcD m (by rw [hD256]; exact hm8)
                          rw [hVD, hD256] at c3
                          clear hcD hbD
                          have c5 := HQ.out.2.2.1.cell r hr8
                          obtain ⟨pE, cE, hVE, _, hbE⟩ := (HQ.out.2.2.1.row r hr8).bin
                          rw [hVE] at c5
                          obtain ⟨nE, hnE⟩ : ∃ n, Hid (n = (E r).length) := ⟨_, rfl⟩
                          rw [← hnE.out] at c5
                          have HNE : Hid ((E r).length = nE) := hid hnE.out.symm
                          have hnE60 : nE ≤ 60 := by rw [hnE.out, HEE.out r hr8]; have := bytesOf_len xs r; have := HXL.out; omega
                          have HS0 := hid (HSYN.out m hm8)
                          unfold synB at HS0
                          obtain ⟨x, hx⟩ : ∃ v, Hid (v = L.getD m 0) := ⟨_, rfl⟩
                          obtain ⟨z, hz⟩ : ∃ v, Hid (v = L.getD (m / 64 * 64) 0) := ⟨_, rfl⟩
                          obtain ⟨y, hy⟩ : ∃ v, Hid (v = (D r).getD m 0) := ⟨_, rfl⟩
                          rw [← hx.out] at c1 HS0
                          rw [← hz.out] at c2' HS0
                          rw [← hy.out] at c4 HS0
                          have HSB : Hid (okf x y z (E r) nE = true) := hid (decide_eq_true (by rw [hnE.out]; exact HS0.out))
                          obtain ⟨s0, hs0⟩ : ∃ s : Nat, Hid (s = m / 64 * 64) := ⟨_, rfl⟩
                          rw [← hs0.out] at c2'
                          have e64 : Int.tdiv (m : Int) 64 * 64 = (s0 : Int) := by rw [hs0.out]; exact tdiv64 m
                          have hs0m : (s0 : Int) < 256 := by have := hs0.out; omega
                          have e64' : (m : Int) / 64 * 64 = (s0 : Int) := by have := hs0.out; omega
                          by_cases hxy : x = y
                          · subst hxy
                            by_cases hxz : x = z
                            · subst hxz
                              go_upto_region 40 with fail
                              go_quiet (fail)
                              rename_i nq
                              have hQ : Hid (Bin (wr.drewN nq) (some ⟨bv, ov, none⟩) L ∧ Arz w.heap.size (wr.drewN nq) b1 V D ∧ Arz w.heap.size (wr.drewN nq) b2 V2 E ∧ PDk w.heap.size (wr.drewN nq) g F2 S3 ∧ Below w.heap.size w (wr.drewN nq)) := hid ⟨HQ.out.1.below (bdN wr nq), HQ.out.2.1.below (bdN wr nq), HQ.out.2.2.1.below (bdN wr nq), HQ.out.2.2.2.1.below (bdN wr nq), HQ.out.2.2.2.2.trans ((bdN wr nq).mono HQ.out.2.2.2.2.size)⟩
                              have HBE := hid (hbE.below (bdN wr nq))
                              have c5' : (wr.drewN nq).cell? ⟨b2, r, none⟩ = some (.slice pE nE cE) := c5
                              have c1' : (wr.drewN nq).cell? ⟨bv, ov + m, none⟩ = some (.int .u8 x) := c1
                              have c2'' : (wr.drewN nq).cell? ⟨bv, ov + s0, none⟩ = some (.int .u8 x) := c2'
                              generalize wr.drewN nq = wq at hQ HBE c5' c1' c2'' ⊢
                              clear c1 c2' c3 c4 c5 hbE HQ
                              go_wp2_with fail
                              go_loopw [20, 173] (fun ok i wr => ∃ t : Nat, t ≤ nE ∧ i = .int .i64 (t : Int) ∧ ok = .bool (okf x x x (E r) t) ∧ wr = wq) (fun _ i _ => nE - (intOf i).toNat)
                              case atStart => exact ⟨0, Nat.zero_le _, rfl, by rw [okf_zero]; simp [], rfl⟩
                              case round =>
                                obtain ⟨t, ht, rfl, rfl, rfl⟩ := hrel
                                by_cases htn : t < nE
                                · have tI : (t : Int) < (nE : Int) := by omega
                                  obtain ⟨be, oe, rfl, _, hce⟩ := HBE.out.at (by rw [HNE.out]; omega)
                                  have hcet := hce t (by rw [HNE.out]; exact htn)
                                  have HK := hid (okf_succ x x x (E r) t)
                                  obtain ⟨en, hen⟩ : ∃ v, Hid (v = (E r).getD t 0) := ⟨_, rfl⟩
                                  rw [← hen.out] at hcet HK
                                  clear hce
                                  obtain ⟨ok, hok⟩ : ∃ v, Hid (v = okf x x x (E r) t) := ⟨_, rfl⟩
                                  obtain ⟨ok1, hok1⟩ : ∃ v, Hid (v = okf x x x (E r) (t + 1)) := ⟨_, rfl⟩
                                  rw [← hok.out, ← hok1.out] at HK
                                  rw [← hok.out]
                                  cases ok with
                                  | true =>
                                    have hk1 : ok1 = true := by rw [HK.out]; rfl
                                    subst hk1
                                    go_wp2_with fail
                                    go_roundw
                                    case rel => exact ⟨t + 1, by omega, by go_num, (by first | (rw [← hok1.out]; done) | (rw [← hok1.out]; simp [h2]; done) | exact absurd h1 h2), (by trivial)⟩
                                    case measure => simp [intOf]; omega
                                  | false =>
                                    by_cases h1 : x = en
                                    · by_cases h2 : x = en
                                      · have hk1 : ok1 = true := by rw [HK.out, decide_eq_true ⟨h1, h2⟩]; rfl
                                        subst hk1
                                        go_wp2_with fail
                                        go_roundw
                                        case rel => exact ⟨t + 1, by omega, by go_num, (by first | (rw [← hok1.out]; done) | (rw [← hok1.out]; simp [h2]; done) | exact absurd h1 h2), (by trivial)⟩
                                        case measure => simp [intOf]; omega
                                      · have hk1 : ok1 = false := by rw [HK.out, decide_eq_false (fun h => h2 h.2)]; rfl
                                        subst hk1
                                        go_wp2_with fail
                                        go_roundw
                                        case rel => exact ⟨t + 1, by omega, by go_num, (by first | (rw [← hok1.out]; done) | (rw [← hok1.out]; simp [h2]; done) | exact absurd h1 h2), (by trivial)⟩
                                        case measure => simp [intOf]; omega
                                    · have hk1 : ok1 = false := by rw [HK.out, decide_eq_false (fun h => h1 h.1)]; rfl
                                      subst hk1
                                      go_wp2_with fail
                                      go_roundw
                                      case rel => exact ⟨t + 1, by omega, by go_num, (by first | (rw [← hok1.out]; done) | (rw [← hok1.out]; simp [h2]; done) | exact absurd h1 h2), (by trivial)⟩
                                      case measure => simp [intOf]; omega
                                · obtain rfl : t = nE := by omega
                                  have tI : ¬ (t : Int) < (t : Int) := by omega
                                  rw [show okf x x x (E r) t = true from HSB.out]
                                  go_wp2_with fail
                                  go_roundw
                                  case rel => exact ⟨m + 1, by omega, by go_num, hQ.out⟩
                                  case measure => simp [intOf]; omega
                            · go_upto_region 40 with fail
                              go_quiet (fail)
                              rename_i nq
                              have hQ : Hid (Bin (wr.drewN nq) (some ⟨bv, ov, none⟩) L ∧ Arz w.heap.size (wr.drewN nq) b1 V D ∧ Arz w.heap.size (wr.drewN nq) b2 V2 E ∧ PDk w.heap.size (wr.drewN nq) g F2 S3 ∧ Below w.heap.size w (wr.drewN nq)) := hid ⟨HQ.out.1.below (bdN wr nq), HQ.out.2.1.below (bdN wr nq), HQ.out.2.2.1.below (bdN wr nq), HQ.out.2.2.2.1.below (bdN wr nq), HQ.out.2.2.2.2.trans ((bdN wr nq).mono HQ.out.2.2.2.2.size)⟩
                              have HBE := hid (hbE.below (bdN wr nq))
                              have c5' : (wr.drewN nq).cell? ⟨b2, r, none⟩ = some (.slice pE nE cE) := c5
                              have c1' : (wr.drewN nq).cell? ⟨bv, ov + m, none⟩ = some (.int .u8 x) := c1
                              have c2'' : (wr.drewN nq).cell? ⟨bv, ov + s0, none⟩ = some (.int .u8 z) := c2'
                              generalize wr.drewN nq = wq at hQ HBE c5' c1' c2'' ⊢
                              clear c1 c2' c3 c4 c5 hbE HQ
                              go_wp2_with fail
                              go_loopw [20, 173] (fun ok i wr => ∃ t : Nat, t ≤ nE ∧ i = .int .i64 (t : Int) ∧ ok = .bool (okf x x z (E r) t) ∧ wr = wq) (fun _ i _ => nE - (intOf i).toNat)
                              case atStart => exact ⟨0, Nat.zero_le _, rfl, by rw [okf_zero]; simp [hxz], rfl⟩
                              case round =>
                                obtain ⟨t, ht, rfl, rfl, rfl⟩ := hrel
                                by_cases htn : t < nE
                                · have tI : (t : Int) < (nE : Int) := by omega
                                  obtain ⟨be, oe, rfl, _, hce⟩ := HBE.out.at (by rw [HNE.out]; omega)
                                  have hcet := hce t (by rw [HNE.out]; exact htn)
                                  have HK := hid (okf_succ x x z (E r) t)
                                  obtain ⟨en, hen⟩ : ∃ v, Hid (v = (E r).getD t 0) := ⟨_, rfl⟩
                                  rw [← hen.out] at hcet HK
                                  clear hce
                                  obtain ⟨ok, hok⟩ : ∃ v, Hid (v = okf x x z (E r) t) := ⟨_, rfl⟩
                                  obtain ⟨ok1, hok1⟩ : ∃ v, Hid (v = okf x x z (E r) (t + 1)) := ⟨_, rfl⟩
                                  rw [← hok.out, ← hok1.out] at HK
                                  rw [← hok.out]
                                  cases ok with
                                  | true =>
                                    have hk1 : ok1 = true := by rw [HK.out]; rfl
                                    subst hk1
                                    go_wp2_with fail
                                    go_roundw
                                    case rel => exact ⟨t + 1, by omega, by go_num, (by first | (rw [← hok1.out]; done) | (rw [← hok1.out]; simp [h2]; done) | exact absurd h1 h2), (by trivial)⟩
                                    case measure => simp [intOf]; omega
                                  | false =>
                                    by_cases h1 : x = en
                                    · by_cases h2 : z = en
                                      · have hk1 : ok1 = true := by rw [HK.out, decide_eq_true ⟨h1, h2⟩]; rfl
                                        subst hk1
                                        go_wp2_with fail
                                        go_roundw
                                        case rel => exact ⟨t + 1, by omega, by go_num, (by first | (rw [← hok1.out]; done) | (rw [← hok1.out]; simp [h2]; done) | exact absurd h1 h2), (by trivial)⟩
                                        case measure => simp [intOf]; omega
                                      · have hk1 : ok1 = false := by rw [HK.out, decide_eq_false (fun h => h2 h.2)]; rfl
                                        subst hk1
                                        go_wp2_with fail
                                        go_roundw
                                        case rel => exact ⟨t + 1, by omega, by go_num, (by first | (rw [← hok1.out]; done) | (rw [← hok1.out]; simp [h2]; done) | exact absurd h1 h2), (by trivial)⟩
                                        case measure => simp [intOf]; omega
                                    · have hk1 : ok1 = false := by rw [HK.out, decide_eq_false (fun h => h1 h.1)]; rfl
                                      subst hk1
                                      go_wp2_with fail
                                      go_roundw
                                      case rel => exact ⟨t + 1, by omega, by go_num, (by first | (rw [← hok1.out]; done) | (rw [← hok1.out]; simp [h2]; done) | exact absurd h1 h2), (by trivial)⟩
                                      case measure => simp [intOf]; omega
                                · obtain rfl : t = nE := by omega
                                  have tI : ¬ (t : Int) < (t : Int) := by omega
                                  rw [show okf x x z (E r) t = true from HSB.out]
                                  go_wp2_with fail
                                  go_roundw
                                  case rel => exact ⟨m + 1, by omega, by go_num, hQ.out⟩
                                  case measure => simp [intOf]; omega
                          · go_upto_region 40 with fail
                            go_quiet (fail)
                            rename_i nq
                            have hQ : Hid (Bin (wr.drewN nq) (some ⟨bv, ov, none⟩) L ∧ Arz w.heap.size (wr.drewN nq) b1 V D ∧ Arz w.heap.size (wr.drewN nq) b2 V2 E ∧ PDk w.heap.size (wr.drewN nq) g F2 S3 ∧ Below w.heap.size w (wr.drewN nq)) := hid ⟨HQ.out.1.below (bdN wr nq), HQ.out.2.1.below (bdN wr nq), HQ.out.2.2.1.below (bdN wr nq), HQ.out.2.2.2.1.below (bdN wr nq), HQ.out.2.2.2.2.trans ((bdN wr nq).mono HQ.out.2.2.2.2.size)⟩
                            have HBE := hid (hbE.below (bdN wr nq))
                            have c5' : (wr.drewN nq).cell? ⟨b2, r, none⟩ = some (.slice pE nE cE) := c5
                            have c1' : (wr.drewN nq).cell? ⟨bv, ov + m, none⟩ = some (.int .u8 x) := c1
                            have c2'' : (wr.drewN nq).cell? ⟨bv, ov + s0, none⟩ = some (.int .u8 z) := c2'
                            generalize wr.drewN nq = wq at hQ HBE c5' c1' c2'' ⊢
                            clear c1 c2' c3 c4 c5 hbE HQ
                            go_wp2_with fail
                            go_loopw [20, 173] (fun ok i wr => ∃ t : Nat, t ≤ nE ∧ i = .int .i64 (t : Int) ∧ ok = .bool (okf x y z (E r) t) ∧ wr = wq) (fun _ i _ => nE - (intOf i).toNat)
                            case atStart => exact ⟨0, Nat.zero_le _, rfl, by rw [okf_zero]; simp [hxy], rfl⟩
                            case round =>
                              obtain ⟨t, ht, rfl, rfl, rfl⟩ := hrel
                              by_cases htn : t < nE
                              · have tI : (t : Int) < (nE : Int) := by omega
                                obtain ⟨be, oe, rfl, _, hce⟩ := HBE.out.at (by rw [HNE.out]; omega)
                                have hcet := hce t (by rw [HNE.out]; exact htn)
                                have HK := hid (okf_succ x y z (E r) t)
                                obtain ⟨en, hen⟩ : ∃ v, Hid (v = (E r).getD t 0) := ⟨_, rfl⟩
                                rw [← hen.out] at hcet HK
                                clear hce
                                obtain ⟨ok, hok⟩ : ∃ v, Hid (v = okf x y z (E r) t) := ⟨_, rfl⟩
                                obtain ⟨ok1, hok1⟩ : ∃ v, Hid (v = okf x y z (E r) (t + 1)) := ⟨_, rfl⟩
                                rw [← hok.out, ← hok1.out] at HK
                                rw [← hok.out]
                                cases ok with
                                | true =>
                                  have hk1 : ok1 = true := by rw [HK.out]; rfl
                                  subst hk1
                                  go_wp2_with fail
                                  go_roundw
                                  case rel => exact ⟨t + 1, by omega, by go_num, (by first | (rw [← hok1.out]; done) | (rw [← hok1.out]; simp [h2]; done) | exact absurd h1 h2), (by trivial)⟩
                                  case measure => simp [intOf]; omega
                                | false =>
                                  by_cases h1 : x = en
                                  · by_cases h2 : z = en
                                    · have hk1 : ok1 = true := by rw [HK.out, decide_eq_true ⟨h1, h2⟩]; rfl
                                      subst hk1
                                      go_wp2_with fail
                                      go_roundw
                                      case rel => exact ⟨t + 1, by omega, by go_num, (by first | (rw [← hok1.out]; done) | (rw [← hok1.out]; simp [h2]; done) | exact absurd h1 h2), (by trivial)⟩
                                      case measure => simp [intOf]; omega
                                    · have hk1 : ok1 = false := by rw [HK.out, decide_eq_false (fun h => h2 h.2)]; rfl
                                      subst hk1
                                      go_wp2_with fail
                                      go_roundw
                                      case rel => exact ⟨t + 1, by omega, by go_num, (by first | (rw [← hok1.out]; done) | (rw [← hok1.out]; simp [h2]; done) | exact absurd h1 h2), (by trivial)⟩
                                      case measure => simp [intOf]; omega
                                  · have hk1 : ok1 = false := by rw [HK.out, decide_eq_false (fun h => h1 h.1)]; rfl
                                    subst hk1
                                    go_wp2_with fail
                                    go_roundw
                                    case rel => exact ⟨t + 1, by omega, by go_num, (by first | (rw [← hok1.out]; done) | (rw [← hok1.out]; simp [h2]; done) | exact absurd h1 h2), (by trivial)⟩
                                    case measure => simp [intOf]; omega
                              · obtain rfl : t = nE := by omega
                                have tI : ¬ (t : Int) < (t : Int) := by omega
                                rw [show okf x y z (E r) t = true from HSB.out]
                                go_wp2_with fail
                                go_roundw
                                case rel => exact ⟨m + 1, by omega, by go_num, hQ.out⟩
                                case measure => simp [intOf]; omega
                        · obtain rfl : m = 256 := by omega
                          have mI : ¬ ((256 : Nat) : Int) < 256 := by omega
                          go_wp2_with fail
                          go_roundw
                          case rel => exact ⟨r + 1, by omega, by go_num, HQ.out.2.1, HQ.out.2.2.1, HQ.out.2.2.2.1, HQ.out.2.2.2.2⟩
                          case measure => simp [intOf]; omega
                    · obtain rfl : r = 8 := by omega
                      have rI : ¬ ((8 : Nat) : Int) < 8 := by omega
                      go_wp2_with fail
                      refine (known8_any _).mono ?_
                      rintro e w5 ⟨rfl, hb5⟩
                      go_wp2_with fail
                      go_ret
                      exact ⟨rfl, HB.out.trans (hb5.mono HB.out.size)⟩
end Go.Proofs.Ythnakonndlebbaa
