/-
  RegsDraws.
-/
import Derived.Test.YtlbhoijjbpjmoaaRri
import Derived.Test.YtlbhoijjbpjmoaaDfp
namespace Go.Proofs.Ytlbhoijjbpjmoaa
open Go.RowKit
set_option linter.unusedVariables false
set_option linter.unusedSimpArgs false

theorem Rig.aside {wI w w' : World} {B g gd b : Nat} {F Fd : Nat → Prop} {R : Rst} {S : Dst} (h : Rig wI B w g F gd Fd R S) (ht : Tb (fun q => q = b) w w') (h1 : ¬ F b) (h2 : ¬ Fd b) (hB : B ≤ b) : Rig wI B w' g F gd Fd R S :=
  ⟨h.r.tb ht fun q hq e => h1 (e ▸ hq), h.d.tb ht fun q hq e => h2 (e ▸ hq), h.x, h.b.trans (ht.out h.s fun q e => by omega), Nat.le_trans h.s ht.size⟩
theorem drop_rows {n t : Nat} (D : Nat → List Int) (h : t < n) : ((List.range n).map D).drop t = D t :: ((List.range n).map D).drop (t + 1) := by
  rw [List.drop_eq_getElem_cons (by rw [List.length_map, List.length_range]; exact h)]
  congr 1
  rw [List.getElem_map, List.getElem_range]
theorem len_rows (n t : Nat) (D : Nat → List Int) : (((List.range n).map D).drop t).length = n - t := by rw [List.length_drop, List.length_map, List.length_range]

set_option maxHeartbeats 32000000 in
set_option maxRecDepth 100000 in
theorem rdraws_law (a : Option Addr) (n cl : Nat) (Fr : Nat → Option Addr × Nat × List Int) (a2 : Option Addr) (m c2 : Nat) (G0 : Nat → Int) (w : World) (hlm : n ≤ maxLen) (hlc : n ≤ cl) (hr : Rws w a n [fun i => .slice (Fr i).1 (Fr i).2.2.length (Fr i).2.1])
    (g0 : ∀ i, i < n → Bin w (Fr i).1 (Fr i).2.2 ∧ Oct (Fr i).2.2 ∧ (Fr i).2.2.length ≤ (Fr i).2.1 ∧ (Fr i).2.2.length ≤ 140737488351232) (hlm2 : m ≤ maxLen) (hlc2 : m ≤ c2) (hr2 : Rws w a2 m [fun i => .int .i64 (G0 i)]) (h0 : ∀ i, i < m → (Lit.int .i64 (G0 i)).wf = true) :
    Calls Try.prog 6 #[.slice a n cl, .slice a2 m c2] w fun e w' => e = .returned (.bool true) ∧ Below w.heap.size w w' := by
  have hin : Ins w a n Fr := ⟨fun hn => by
    obtain ⟨b, o, e, hc⟩ := hr hn
    exact ⟨b, o, e, fun i hi => by have h9 : w.cell? ⟨b, o + (i * 1 + 0), none⟩ = _ := hc i hi 0 _ rfl; rw [Nat.mul_one, Nat.add_zero] at h9; exact h9⟩, g0⟩
  have HI := hid hin
  have HR2 := hid hr2
  have HZ := hid h0
  unfold maxLen at hlm hlm2
  clear hr hr2 g0 h0 hin
  by_cases h200 : 200 < n
  · have i1 : (200 : Int) < (n : Int) := by omega
    go_enter Try.func6, Try.ntmps6
    go_wp2_with fail
    refine (known9_any w).mono ?_
    rintro e w9 ⟨rfl, hb⟩
    have HB9 := hid ((Below.refl w.heap.size w).trans (hb.mono (Below.refl w.heap.size w).size))
    clear hb
    go_wp2
    go_ret
    exact ⟨rfl, HB9.out⟩
  · have i1 : ¬ (200 : Int) < (n : Int) := by omega
    go_enter Try.func6, Try.ntmps6
    go_wp2_with fail
    go_loopw [22] (fun i wr => ∃ k : Nat, k ≤ n ∧ i = .int .i64 (k : Int) ∧ wr = w) (fun i _ => n - (intOf i).toNat)
    case atStart => exact ⟨0, Nat.zero_le _, rfl, rfl⟩
    case round =>
      obtain ⟨k, hk, rfl, hwr⟩ := hrel
      rw [hwr]
      clear hwr
      by_cases hkl : k < n
      · have kI : (k : Int) < (n : Int) := by omega
        obtain ⟨b, o, rfl, hca⟩ := HI.out.1 (by omega)
        have hck := hca k hkl
        clear hca
        obtain ⟨l, hl⟩ : ∃ l, Hid (l = (Fr k).2.2.length) := ⟨_, rfl⟩
        rw [← hl.out] at hck
        by_cases h80 : 80 < l
        · have i2 : (80 : Int) < (l : Int) := by omega
          go_wp2_with fail
          refine (known9_any w).mono ?_
          rintro e w9 ⟨rfl, hb⟩
          have HB9 := hid ((Below.refl w.heap.size w).trans (hb.mono (Below.refl w.heap.size w).size))
          clear hb
          go_wp2
          go_ret
          exact ⟨rfl, HB9.out⟩
        · have i2 : ¬ (80 : Int) < (l : Int) := by omega
          go_wp2_with fail
          go_roundw
          case rel => exact ⟨k + 1, by omega, by go_num, trivial⟩
          case measure => simp [intOf]; omega
      · obtain rfl : k = n := by omega
        have kI : ¬ (k : Int) < (k : Int) := by omega
        go_wp2_with fail
        refine (dNew_of w 8 (by decide) (by decide)).mono ?_
        rintro e w2 ⟨gd, Fd, rfl, hD, hb2⟩
        have HD := hid hD
        have HB2 := hid hb2
        have HI2 := hid (HI.out.below hb2)
        clear hD hb2
        go_wp2_with fail
        refine (gNew_of gd w2 0 k cl a Fr (by decide) (by omega) HI2.out).mono ?_
        rintro e w3 ⟨g, F, rfl, hr, hb3⟩
        have HG := hid (rig_made (wd := w2) HD.out HB2.out hr hb3)
        clear hr hb3 HD HB2 HI2
        go_wp2_with fail
        go_loopw [10, 59] (fun at0 i wr => ∃ (q t : Nat) (F Fd : Nat → Prop) (R : Rst) (S : Dst), q ≤ m ∧ t ≤ k ∧ i = .int .i64 (q : Int) ∧ at0 = .int .i64 (t : Int) ∧ (S.steps = 0 ∧ R.draws = ((List.range k).map fun i => (Fr i).2.2).drop t) ∧ Rig w w.heap.size wr g F gd Fd R S) (fun _ i _ => m - (intOf i).toNat)
        case atStart => exact ⟨0, 0, F, Fd, _, _, Nat.zero_le _, Nat.zero_le _, rfl, rfl, ⟨rfl, rfl⟩, HG.out⟩
        case round =>
          clear HG
          obtain ⟨q, t, F, Fd, R, S, hq, htk, rfl, rfl, hRS, hG⟩ := hrel
          have HG := hid hG
          have HRS := hid hRS
          clear hG hRS
          by_cases hql : q < m
          · have qI : (q : Int) < (m : Int) := by omega
            obtain ⟨b2, o2, rfl, hbl2, hcol⟩ := HR2.out.at hql (Nat.succ_pos _)
            obtain ⟨zz, hzz⟩ : ∃ z, Hid (z = G0 q) := ⟨_, rfl⟩
            have hzw : (Lit.int .i64 zz).wf = true := by rw [hzz.out]; exact HZ.out q hql
            have hz64 := i64_of_wf hzw
            have x0 : wr.cell? ⟨b2, o2 + q, none⟩ = some (.int .i64 zz) := by
              have := (HG.out.b.cell (p := ⟨b2, o2 + (q * 1 + 0), none⟩) hbl2).trans (hcol 0 _ rfl)
              rw [show o2 + (q * 1 + 0) = o2 + q from by omega] at this
              rw [hzz.out]; exact this
            have hdr := gDraw_of _ g gd F R wr HG.out.r zz hzw
            clear hcol hbl2 hzw hzz
            unfold Rst.drE Rst.drL Rst.drR at hdr
            by_cases hbad : zz < 1 ∨ 64 < zz
            · rw [if_pos hbad, if_pos hbad, if_pos hbad] at hdr
              have HC := hid hdr
              clear hdr
              go_wp2_with fail
              refine HC.out.mono ?_
              rintro e w5 ⟨v, rfl, hs⟩
              obtain ⟨F5, hg, hO, hv5⟩ := HG.out.draw hs
              rw [List.length_nil] at hO
              obtain ⟨pv, cv, rfl, _, _⟩ := hO.bin
              have HG5 := hid hg
              clear hs hg hO hv5 HC HG
              have hz : zz < 1 ∨ (1 ≤ zz ∧ 64 < zz) := by omega
              clear hbad
              rcases hz with hz | ⟨hz, hz'⟩
              · have HLF := hid (gLeft_of _ g gd _ _ w5 HG5.out.r)
                rw [HRS.out.2, len_rows] at HLF
                have i9 : IntKind.i64.wrap ((k : Int) - ((t : Nat) : Int)) = (k : Int) - ((t : Nat) : Int) := by simp [IntKind.wrap, IntKind.signed, IntKind.bits] <;> omega
                have i8 : ((k - (t) : Nat) : Int) = (k : Int) - ((t : Nat) : Int) := by omega
                rw [i8] at HLF
                clear i8
                go_wp2_with fail
                refine HLF.out.mono ?_
                rintro e w8 ⟨rfl, hb⟩
                have HG8 := hid (HG5.out.below hb)
                clear hb HLF HG5
                go_wp2_with fail
                go_roundw
                case rel => exact ⟨q + 1, t, _, Fd, _, S, by omega, by omega, by go_num, by go_num, ⟨HRS.out.1, HRS.out.2⟩, HG8.out⟩
                case measure => simp [intOf]; omega
              · have HLF := hid (gLeft_of _ g gd _ _ w5 HG5.out.r)
                rw [HRS.out.2, len_rows] at HLF
                have i9 : IntKind.i64.wrap ((k : Int) - ((t : Nat) : Int)) = (k : Int) - ((t : Nat) : Int) := by simp [IntKind.wrap, IntKind.signed, IntKind.bits] <;> omega
                have i8 : ((k - (t) : Nat) : Int) = (k : Int) - ((t : Nat) : Int) := by omega
                rw [i8] at HLF
                clear i8
                go_wp2_with fail
                refine HLF.out.mono ?_
                rintro e w8 ⟨rfl, hb⟩
                have HG8 := hid (HG5.out.below hb)
                clear hb HLF HG5
                go_wp2_with fail
                go_roundw
                case rel => exact ⟨q + 1, t, _, Fd, _, S, by omega, by omega, by go_num, by go_num, ⟨HRS.out.1, HRS.out.2⟩, HG8.out⟩
                case measure => simp [intOf]; omega
            · rw [if_neg hbad, if_neg hbad, if_neg hbad, HRS.out.2] at hdr
              have j1 : ¬ zz < 1 := by omega
              have j2 : ¬ 64 < zz := by omega
              have j3 : 1 ≤ zz := by omega
              have j4 : zz ≤ 64 := by omega
              clear hbad
              by_cases htl : t < k
              · rw [drop_rows _ htl] at hdr
                simp only at hdr
                obtain ⟨b, o, rfl, hca⟩ := (HI.out.below HG.out.b).1 (by omega)
                have hck := hca t htl
                clear hca
                have tI : (t : Int) < (k : Int) := by omega
                have tI2 : ¬ (k : Int) ≤ (t : Int) := by omega
                obtain ⟨pt, lt, ct, hpt⟩ : ∃ p l c, Hid (p = (Fr t).1 ∧ l = (Fr t).2.2.length ∧ c = (Fr t).2.1) := ⟨_, _, _, rfl, rfl, rfl⟩
                rw [← hpt.out.2.1] at hdr
                rw [← hpt.out.1, ← hpt.out.2.1, ← hpt.out.2.2] at hck
                by_cases hsh : (lt : Int) < zz
                · rw [if_pos hsh, if_pos hsh, if_pos hsh] at hdr
                  have j5 : ¬ zz ≤ (lt : Int) := by omega
                  have hlo : b < w.heap.size := by obtain ⟨b', o', e', hc'⟩ := HI.out.1 (by omega); cases e'; exact World.block_lt_of_cell? _ _ (hc' t htl)
                  have HC := hid hdr
                  clear hdr
                  go_wp2_with fail
                  refine HC.out.mono ?_
                  rintro e w5 ⟨v, rfl, hs⟩
                  obtain ⟨F5, hg, hO, hv5⟩ := HG.out.draw hs
                  clear x0
                  rw [List.length_nil] at hO
                  obtain ⟨pv, cv, rfl, _, _⟩ := hO.bin
                  have hck5 := (hg.b.cell (p := ⟨b, o + t, none⟩) hlo).trans ((HG.out.b.cell (p := ⟨b, o + t, none⟩) hlo).symm.trans hck)
                  have HG5 := hid hg
                  clear hs hg hO hv5 HC HG hck
                  have HLF := hid (gLeft_of _ g gd _ _ w5 HG5.out.r)
                  rw [HRS.out.2, len_rows] at HLF
                  have i9 : IntKind.i64.wrap ((k : Int) - ((t : Nat) : Int)) = (k : Int) - ((t : Nat) : Int) := by simp [IntKind.wrap, IntKind.signed, IntKind.bits] <;> omega
                  have i8 : ((k - (t) : Nat) : Int) = (k : Int) - ((t : Nat) : Int) := by omega
                  rw [i8] at HLF
                  clear i8
                  go_wp2_with fail
                  refine HLF.out.mono ?_
                  rintro e w8 ⟨rfl, hb⟩
                  have HG8 := hid (HG5.out.below hb)
                  clear hb HLF HG5
                  go_wp2_with fail
                  go_roundw
                  case rel => exact ⟨q + 1, t, _, Fd, _, S, by omega, by omega, by go_num, by go_num, ⟨HRS.out.1, HRS.out.2⟩, HG8.out⟩
                  case measure => simp [intOf]; omega
                · rw [if_neg hsh, if_neg hsh, if_neg hsh] at hdr
                  have j5 : ¬ (lt : Int) < zz := hsh
                  have hlo : b < w.heap.size := by obtain ⟨b', o', e', hc'⟩ := HI.out.1 (by omega); cases e'; exact World.block_lt_of_cell? _ _ (hc' t htl)
                  obtain ⟨z, rfl⟩ : ∃ z : Nat, zz = (z : Int) := ⟨zz.toNat, by omega⟩
                  rw [Int.toNat_natCast] at hdr
                  obtain ⟨L, hL⟩ : ∃ L, Hid (L = (Fr t).2.2.take z) := ⟨_, rfl⟩
                  rw [← hL.out] at hdr
                  have hLl : L.length = z := by rw [hL.out, List.length_take, ← hpt.out.2.1]; omega
                  have HC := hid hdr
                  clear hdr
                  go_wp2_with fail
                  refine HC.out.mono ?_
                  rintro e w5 ⟨v, rfl, hs⟩
                  obtain ⟨F5, hg, hO, hv5⟩ := HG.out.draw hs
                  clear x0
                  have hck5 := (hg.b.cell (p := ⟨b, o + t, none⟩) hlo).trans ((HG.out.b.cell (p := ⟨b, o + t, none⟩) hlo).symm.trans hck)
                  rw [hLl] at hO
                  obtain ⟨pv, cv, rfl, hzc, hbv⟩ := hO.bin
                  have hbt : Bin w5 pt (L) := by
                    have h8 := (HI.out.below hg.b).2 t htl
                    rw [← hpt.out.1] at h8
                    rw [hL.out]
                    intro hn
                    obtain ⟨b', o', e', _, hcc⟩ := h8.1.at (by rw [List.length_take] at hn; omega)
                    exact ⟨b', o', e', fun j hj => by rw [List.length_take] at hj; rw [hcc j (by omega), List.getD_eq_getElem?_getD, List.getD_eq_getElem?_getD, List.getElem?_take, if_pos (by omega)]⟩
                  have hlct : lt ≤ ct := by rw [hpt.out.2.1, hpt.out.2.2]; exact (HI.out.2 t htl).2.2.1
                  have cv1 : ∀ j, (convert 31 9 (.slice pv z cv)).run Try.prog (w5.drewN j) = .ok (.string (strOfNums L)) (w5.drewN j) := fun j => conv_str' (w := w5.drewN j) hbv hLl cv
                  have cv2 : ∀ j, (convert 31 9 (.slice pt z ct)).run Try.prog (w5.drewN j) = .ok (.string (strOfNums L)) (w5.drewN j) := fun j => conv_str' (w := w5.drewN j) hbt hLl ct
                  have HO := hid hO
                  have HV5 := hid hv5
                  have HG5 := hid hg
                  have hzl : z ≤ lt := by omega
                  have hzct : (z : Int) ≤ (ct : Int) := by omega
                  clear hs hg hO hv5 HC HG hck hbv hbt
                  go_upto_region 19 with fail
                  go_quiet (fail)
                  rename_i nq
                  have HO6 := hid (HO.out.below (below_drewN (Below.refl w5.heap.size w5) nq))
                  have HG6 := hid (HG5.out.below (below_drewN (Below.refl w5.heap.size w5) nq))
                  clear HO HG5 cv1 cv2 hck5
                  go_wp2_with fail
                  go_loopw [106] (fun j wr => ∃ (s : Nat) (zs : List Int), s ≤ z ∧ j = .int .i64 (s : Int) ∧ Ort w.heap.size wr (.slice pv z cv) z zs ∧ Rig w w.heap.size wr g F5 gd Fd _ S) (fun j _ => z - (intOf j).toNat)
                  case atStart => exact ⟨0, L, Nat.zero_le _, rfl, HO6.out, HG6.out⟩
                  case round =>
                    clear HO6 HG6
                    obtain ⟨s, zs, hs, rfl, hO, hG⟩ := hrel
                    by_cases hsz : s < z
                    · have sI : (s : Int) < (z : Int) := by omega
                      obtain ⟨bi, ci, hve, _, _⟩ := hO.isSlice (by omega)
                      injection hve with hv1 _ hv3
                      subst hv1
                      subst hv3
                      have hcI := hO.cellAt s hsz
                      have hfz := hO.frozenAt s
                      obtain ⟨x, hx⟩ : ∃ x, Hid (x = zs.getD s 0) := ⟨_, rfl⟩
                      rw [← hx.out] at hcI
                      have HO := hid (hO.stored s (bits .xor .u8 x 255))
                      have hlb := (hO.lt bi rfl).1
                      have HG7 := hid (hG.aside (b := bi) (Tb.setCell (F := fun q => q = bi) (b := bi) (Tb.refl _ wr) (.inl rfl) s (.int .u8 (bits .xor .u8 x 255))) (HV5.out bi rfl).1 (HV5.out bi rfl).2 hlb)
                      clear hO hG
                      go_wp2_with fail
                      go_roundw
                      case rel => exact ⟨s + 1, _, by omega, by go_num, HO.out, HG7.out⟩
                      case measure => simp [intOf]; omega
                    · obtain rfl : s = z := by omega
                      have sI : ¬ (s : Int) < (s : Int) := by omega
                      have i7 : IntKind.i64.wrap ((t : Int) + 1) = (t : Int) + 1 := by simp [IntKind.wrap, IntKind.signed, IntKind.bits]; omega
                      have HG5 := hid hG
                      clear hG hO
                      have HLF := hid (gLeft_of _ g gd _ _ wr HG5.out.r)
                      rw [(show (_ : Rst).draws = _ from rfl), len_rows] at HLF
                      have i9 : IntKind.i64.wrap ((k : Int) - ((t + 1 : Nat) : Int)) = (k : Int) - ((t + 1 : Nat) : Int) := by simp [IntKind.wrap, IntKind.signed, IntKind.bits] <;> omega
                      have i8 : ((k - (t + 1) : Nat) : Int) = (k : Int) - ((t + 1 : Nat) : Int) := by omega
                      rw [i8] at HLF
                      clear i8
                      go_wp2_with fail
                      refine HLF.out.mono ?_
                      rintro e w8 ⟨rfl, hb⟩
                      have HG8 := hid (HG5.out.below hb)
                      clear hb HLF HG5
                      go_wp2_with fail
                      go_roundw
                      case rel => exact ⟨q + 1, t + 1, _, Fd, _, S, by omega, by omega, by go_num, by go_num, ⟨HRS.out.1, (show (_ : Rst).draws = _ from rfl)⟩, HG8.out⟩
                      case measure => simp [intOf]; omega
              · obtain rfl : t = k := by omega
                rw [List.drop_of_length_le (by rw [List.length_map, List.length_range]; exact Nat.le_refl _)] at hdr
                simp only at hdr
                have tI : ¬ (t : Int) < (t : Int) := by omega
                have HC := hid hdr
                clear hdr
                go_wp2_with fail
                refine HC.out.mono ?_
                rintro e w5 ⟨v, rfl, hs⟩
                obtain ⟨F5, hg, hO, hv5⟩ := HG.out.draw hs
                clear x0
                rw [List.length_nil] at hO
                obtain ⟨pv, cv, rfl, _, _⟩ := hO.bin
                have HG5 := hid hg
                clear hs hg hO hv5 HC HG
                have HLF := hid (gLeft_of _ g gd _ _ w5 HG5.out.r)
                rw [HRS.out.2, len_rows] at HLF
                have i9 : IntKind.i64.wrap ((t : Int) - ((t : Nat) : Int)) = (t : Int) - ((t : Nat) : Int) := by simp [IntKind.wrap, IntKind.signed, IntKind.bits] <;> omega
                have i8 : ((t - (t) : Nat) : Int) = (t : Int) - ((t : Nat) : Int) := by omega
                rw [i8] at HLF
                clear i8
                go_wp2_with fail
                refine HLF.out.mono ?_
                rintro e w8 ⟨rfl, hb⟩
                have HG8 := hid (HG5.out.below hb)
                clear hb HLF HG5
                go_wp2_with fail
                go_roundw
                case rel => exact ⟨q + 1, t, _, Fd, _, S, by omega, by omega, by go_num, by go_num, ⟨HRS.out.1, HRS.out.2⟩, HG8.out⟩
                case measure => simp [intOf]; omega
          · obtain rfl : q = m := by omega
            have qI : ¬ (q : Int) < (q : Int) := by omega
            have HSS := hid (dSteps_of _ gd Fd S wr HG.out.d)
            rw [HRS.out.1] at HSS
            go_wp2_with fail
            refine HSS.out.mono ?_
            rintro e w6 ⟨rfl, hb⟩
            have HB6 := hid (HG.out.b.trans (hb.mono HG.out.s))
            clear hb HSS
            go_wp2_with fail
            refine (known9_any w6).mono ?_
            rintro e w9 ⟨rfl, hb⟩
            have HB9 := hid (HB6.out.trans (hb.mono HB6.out.size))
            clear hb
            go_wp2
            go_ret
            exact ⟨rfl, HB9.out⟩
end Go.Proofs.Ytlbhoijjbpjmoaa
