/-
  RegsPlays.
-/
import Derived.Test.YtlbhoijjbpjmoaaRq
import Derived.Deep.CutRange
import Derived.Deep.CutBlock
import Derived.Deep.DeepCutAuto
namespace Go.Proofs.Ytlbhoijjbpjmoaa
open Go.RowKit
set_option linter.unusedVariables false
set_option linter.unusedSimpArgs false

set_option maxHeartbeats 64000000 in
set_option maxRecDepth 100000 in
theorem rplays_law (l0 : Int) (d : Option Addr) (n cn : Nat) (Fr : Nat → Option Addr × Nat × List Int) (a : Option Addr) (len cl : Nat) (F0 F1 Ff2 F3 F4 F5 : Nat → Int) (F6 F7 : Nat → Option Addr × Nat × List Int) (w : World) (hlw : (Lit.int .u64 l0).wf = true)
    (hnm : n ≤ maxLen) (hnc : n ≤ cn) (hrd : Rws w d n [fun i => .slice (Fr i).1 (Fr i).2.2.length (Fr i).2.1]) (gd0 : ∀ i, i < n → Bin w (Fr i).1 (Fr i).2.2 ∧ Oct (Fr i).2.2 ∧ (Fr i).2.2.length ≤ (Fr i).2.1 ∧ (Fr i).2.2.length ≤ 140737488351232)
    (hlm : len ≤ maxLen) (hlc : len ≤ cl) (hr : Rws w a len [fun i => .int .i64 (F0 i), fun i => .int .u64 (F1 i), fun i => .int .i64 (Ff2 i), fun i => .int .i64 (F3 i), fun i => .int .i64 (F4 i), fun i => .int .i64 (F5 i), fun i => .slice (F6 i).1 (F6 i).2.2.length (F6 i).2.1, fun i => .slice (F7 i).1 (F7 i).2.2.length (F7 i).2.1])
    (g0 : ∀ i, i < len → (Lit.int .i64 (F0 i)).wf = true) (g1 : ∀ i, i < len → (Lit.int .u64 (F1 i)).wf = true) (g2 : ∀ i, i < len → (Lit.int .i64 (Ff2 i)).wf = true) (g3 : ∀ i, i < len → (Lit.int .i64 (F3 i)).wf = true) (g4 : ∀ i, i < len → (Lit.int .i64 (F4 i)).wf = true) (g5 : ∀ i, i < len → (Lit.int .i64 (F5 i)).wf = true) (g6 : ∀ i, i < len → Bin w (F6 i).1 (F6 i).2.2 ∧ Oct (F6 i).2.2 ∧ (F6 i).2.2.length ≤ (F6 i).2.1 ∧ (F6 i).2.2.length ≤ 140737488351232) (g7 : ∀ i, i < len → Bin w (F7 i).1 (F7 i).2.2 ∧ Oct (F7 i).2.2 ∧ (F7 i).2.2.length ≤ (F7 i).2.1 ∧ (F7 i).2.2.length ≤ 140737488351232) :
    Calls Try.prog 3 #[.int .u64 l0, .slice d n cn, .slice a len cl] w fun e w' => e = .returned (.bool true) ∧ Below w.heap.size w w' := by
  have hin : Ins w d n Fr := ⟨fun hn => by
    obtain ⟨b, o, e, hc⟩ := hrd hn
    exact ⟨b, o, e, fun i hi => by have h9 : w.cell? ⟨b, o + (i * 1 + 0), none⟩ = _ := hc i hi 0 _ rfl; rw [Nat.mul_one, Nat.add_zero] at h9; exact h9⟩, gd0⟩
  have HI := hid hin
  have HR := hid hr
  have HG0 := hid g0
  have HG1 := hid g1
  have HG2 := hid g2
  have HG3 := hid g3
  have HG4 := hid g4
  have HG5 := hid g5
  have HG6 := hid g6
  have HG7 := hid g7
  unfold maxLen at hnm
  obtain ⟨lim, rfl⟩ : ∃ n : Nat, l0 = (n : Int) := ⟨l0.toNat, by have := u64_of_wf hlw; omega⟩
  have hlim : lim ≤ 18446744073709551615 := by have := u64_of_wf hlw; omega
  have HH := hid (heavy9_of d n cn Fr a len cl F0 F1 Ff2 F3 F4 F5 F6 F7 w hnm hin hlm hr g6 g7)
  unfold maxLen at hlm
  clear hr hrd gd0 g0 g1 g2 g3 g4 g5 g6 g7 hlw hin
  go_enter Try.func3, Try.ntmps3
  go_wp2_with fail
  refine HH.out.mono ?_
  rintro e w1 ⟨b, rfl, hb, hb1⟩
  have HB1 := hid hb1
  have HL := hid hb
  clear hb hb1 HH
  cases b with
  | true =>
    go_wp2_with fail
    refine (known9_any w1).mono ?_
    rintro e w9 ⟨rfl, hb⟩
    have HB9 := hid (HB1.out.trans (hb.mono HB1.out.size))
    clear hb
    go_wp2
    go_ret
    exact ⟨rfl, HB9.out⟩
  | false =>
    have hn1 := (HL.out rfl).1
    have hl4 := (HL.out rfl).2
    clear HL
    obtain ⟨j0, hj, hy0, hy1, hy2⟩ := info_parts Try.infoBytes
    go_wp2_with fail
    refine (dNew_of w1 8 (by decide) (by decide)).mono ?_
    rintro e w2 ⟨gd, Fd, rfl, hD, hb2⟩
    have HX1 := hid (fun q hq => (hD.lt q hq).2)
    have HD := hid (hD.mono HB1.out.size)
    have HB2 := hid (HB1.out.trans (hb2.mono HB1.out.size))
    have HI2 := hid (HI.out.below HB2.out)
    clear hD hb2 HB1
    go_wp2_with fail
    go_loopw [9, 43] (fun vD i wr => ∃ (k : Nat) (V : Nat → Value), k ≤ n ∧ i = .int .i64 (k : Int) ∧ Rowu w2.heap.size wr vD k V (fun i => (Fr i).2.2) ∧ Below w2.heap.size w2 wr) (fun _ i _ => n - (intOf i).toNat)
    case atStart => exact ⟨0, fun _ => .slice none 0 0, Nat.zero_le _, rfl, Rowu.nil _ _ _ _, Below.refl _ _⟩
    case round =>
      obtain ⟨k, V, hk, rfl, hr, ht⟩ := hrel
      have HRW := hid hr
      have HT := hid ht
      clear hr ht
      by_cases hkn : k < n
      · have kI : (k : Int) < (n : Int) := by omega
        have hin' := HI2.out.below HT.out
        obtain ⟨bA, oA, ea, hca⟩ := hin'.1 (by omega)
        subst ea
        have hck := hca k hkn
        have hfk := hin'.2 k hkn
        obtain ⟨pk, lk, ck, hpk, HLK, hckk⟩ : ∃ p l c, (Fr k).1 = p ∧ Hid (l = (Fr k).2.2.length) ∧ (Fr k).2.1 = c := ⟨_, _, _, rfl, rfl, rfl⟩
        rw [hpk, hckk, ← HLK.out] at hck
        have HCP : Hid (Calls Try.prog 10 #[.slice pk lk ck] wr fun e w' => ∃ g c, e = .returned (.slice (some ⟨g, 0, none⟩) lk c) ∧ Own wr.heap.size w' (.slice (some ⟨g, 0, none⟩) lk c) lk (Fr k).2.2 ∧ Below wr.heap.size wr w') := hid (by rw [HLK.out]; exact copy_any pk ck (Fr k).2.2 wr (hpk ▸ hfk.1) hfk.2.2.2)
        clear hca hfk hpk hckk hin'
        go_wp2_with fail
        refine HCP.out.mono ?_
        rintro e v8 ⟨g8, c8, rfl, hO8, hb8⟩
        have hw2 := HT.out.size
        have hbl : Below v8.heap.size v8 (World.alloc v8 (.cells #[.slice (some ⟨g8, 0, none⟩) lk c8] 31)) := (Below.refl _ _).alloc (Nat.le_refl _) _
        have HNW := hid (one_cell v8 (.slice (some ⟨g8, 0, none⟩) lk c8) 31)
        have HR4 := hid ((HRW.out.below hb8).below hbl)
        have HT4 := hid ((HT.out.trans (hb8.mono hw2)).trans (hbl.mono (Nat.le_trans hw2 hb8.size)))
        have HO4 := hid ((Own.mono hO8 hw2).below hbl)
        have HLg : Hid (wr.heap.size ≤ g8) := hid (World.ownsRow.lt hO8 g8 rfl).1
        have HL2 : Hid (∀ q, Rowu.has u9 k V q → q < wr.heap.size) := hid (fun q hq => (HRW.out.lt q hq).2)
        have HSZ : Hid (w2.heap.size ≤ v8.heap.size) := hid (Nat.le_trans hw2 hb8.size)
        have hsz2 : w2.heap.size ≤ (World.alloc v8 (.cells #[.slice (some ⟨g8, 0, none⟩) lk c8] 31)).heap.size := Nat.le_trans HSZ.out hbl.size
        have HROW := hid HR4.out.out
        clear hO8 hb8 hbl HRW HT hw2 HCP hck
        go_wp2_with (at_builtin; refine wpList_append_lies _ rfl (.tmp 46) (.tmp 52) 23 rfl w2.heap.size 31 j0 (.slice none 0 0) 1 24 Try.underlying23 hj hy0 hy1 hy2 rfl (by decide) _ k _ rfl (by exact HROW.out) ⟨v8.heap.size, 0, none⟩ 1 1 [.slice (some ⟨g8, 0, none⟩) lk c8] rfl rfl (by exact HNW.out) (fun u hu => by (rw [List.mem_singleton.1 hu]; rfl)) (by decide) (by unfold maxLen; omega) (by omega) (by exact hsz2) _ rfl ?_; intro g9 cap9 w9 hown hgrow hat hlt9)
        have hat' : (Value.slice (some ⟨g9, 0, none⟩) (k + 1) cap9).ownBlock = u9.ownBlock ∨ (Value.slice (some ⟨g9, 0, none⟩) (k + 1) cap9).ownBlock = some (World.alloc v8 (.cells #[.slice (some ⟨g8, 0, none⟩) lk c8] 31)).heap.size := by
          rcases hat with h1 | h1
          · exact .inl h1.symm
          · exact .inr (congrArg some h1)
        have hr9 := HR4.out.snoc (xs := (Fr k).2.2) hgrow hown (by rw [← HLK.out]; exact HO4.out) (fun q e1 e2 => by have h1 := HL2.out q (.inl e2); have h2 := HLg.out; have h3 : g8 = q := Option.some.inj e1; omega) (fun i hi q e1 e2 => by have h1 := HL2.out q (.inr ⟨i, hi, e1⟩); have h2 := HLg.out; have h3 : g8 = q := Option.some.inj e2; omega) hat' (Nat.le_refl _)
        have HR9 := hid hr9
        have HT9 := hid (HT4.out.grown hgrow HT4.out.size (fun q hq => (World.ownsRow.lt HROW.out q hq).1))
        clear hown hgrow hat hat' hr9 HR4 HT4 HO4 HROW HNW hsz2
        go_roundw
        case rel => exact ⟨k + 1, _, by omega, by go_num, HR9.out.same (fun i hi => by by_cases e : i = k; (subst e; rw [if_pos rfl]); rw [if_neg e]), HT9.out⟩
        case measure => simp [intOf]; omega
      · obtain rfl : k = n := by omega
        have kI : ¬ (k : Int) < (k : Int) := by omega
        obtain ⟨pI, cI, FI, rfl, hins, hmap⟩ := HRW.out.ins (fun i hi => ⟨(HI.out.2 i hi).2.1, (HI.out.2 i hi).2.2.2⟩)
        have HN := hid (gNew_of gd wr lim k cI pI FI hlim (by omega) hins)
        rw [hmap] at HN
        have HPD := hid (HD.out.below (HT.out.mono (Nat.le_refl _)))
        have HX2 := hid (fun q hq => (HRW.out.lt q hq).2)
        have HSZ := hid (And.intro HB2.out.size HT.out.size)
        have HBW := hid (HB2.out.trans (HT.out.mono HB2.out.size))
        clear hins hmap HD HT
        go_wp2_with fail
        refine HN.out.mono ?_
        rintro e w4 ⟨g, F, rfl, hg, hb⟩
        obtain ⟨w3, hw3⟩ : ∃ x, x = wr := ⟨_, rfl⟩
        rw [← hw3] at hg hb HX2 HSZ HPD HBW HRW
        obtain ⟨R0, hR0⟩ : ∃ R : Rst, Hid (R = ⟨lim, 0, 0, (List.range k).map fun i => (Fr i).2.2⟩) := ⟨_, rfl⟩
        rw [← hR0.out] at hg
        have HP := hid (show Pre w w2 w3 w4 g gd F Fd R0 (Dst.new 8) (.slice pI k cI) k V (fun i => (Fr i).2.2) from ⟨HPD.out.below hb, hg, HRW.out.below hb, HX1.out, HX2.out, HBW.out.trans (hb.mono HBW.out.size), HSZ.out.1, HSZ.out.2⟩)
        clear hg hb HN HX1 HX2 HPD HBW HRW HSZ hw3
        go_wp2_with fail
        go_loopw [70] (fun i wr => ∃ (m : Nat) (D : Nat → List Int), m ≤ k ∧ i = .int .i64 (m : Int) ∧ Pre w w2 w3 wr g gd F Fd R0 (Dst.new 8) (.slice pI k cI) k V D) (fun i _ => k - (intOf i).toNat)
        case atStart => exact ⟨0, _, Nat.zero_le _, rfl, HP.out⟩
        case round =>
          clear HP
          obtain ⟨m, D, hm, rfl, hp⟩ := hrel
          have HP := hid hp
          clear hp
          by_cases hmk : m < k
          · have mI : (m : Int) < (k : Int) := by omega
            have hsh : ∃ gL, pI = some ⟨gL, 0, none⟩ := by
              rcases HP.out.i.shape with ⟨e, h0⟩ | ⟨gL, cap, e, _, _⟩
              · omega
              · injection e with e1; exact ⟨gL, e1⟩
            obtain ⟨gL, rfl⟩ := hsh
            have hcL := HP.out.i.cellAt m hmk
            obtain ⟨pm, cm, hVm, _, _⟩ := (HP.out.i.row m hmk).bin
            obtain ⟨z, hz⟩ : ∃ z, Hid (z = (D m).length) := ⟨_, rfl⟩
            have HVM := hid hVm
            rw [hVm, ← hz.out] at hcL
            clear hVm
            go_wp2_with fail
            clear hcL
            go_loopw [78] (fun i wr => ∃ (s : Nat) (D : Nat → List Int), s ≤ z ∧ i = .int .i64 (s : Int) ∧ z = (D m).length ∧ Pre w w2 w3 wr g gd F Fd R0 (Dst.new 8) (.slice (some ⟨gL, 0, none⟩) k cI) k V D) (fun i _ => z - (intOf i).toNat)
            case atStart => exact ⟨0, D, Nat.zero_le _, rfl, hz.out, HP.out⟩
            case round =>
              rw [← hz.out] at HVM
              clear HP hz
              obtain ⟨s, D, hs, rfl, hz, hp⟩ := hrel
              have HP := hid hp
              have HZ := hid hz
              clear hp hz
              by_cases hsz : s < z
              · have sI : (s : Int) < (z : Int) := by omega
                have hcL := HP.out.i.cellAt m hmk
                have hO := HP.out.i.row m hmk
                rw [← HZ.out] at hO
                have hpm : ∃ gm, pm = some ⟨gm, 0, none⟩ := by
                  rcases Own.shape hO with ⟨e, h0⟩ | ⟨gm, cap, e, _, _⟩
                  · omega
                  · rw [HVM.out] at e; injection e with e1; exact ⟨gm, e1⟩
                obtain ⟨gm, rfl⟩ := hpm
                rw [HVM.out] at hcL hO
                have hzm := own_max hO
                unfold maxLen at hzm
                have HZM := hid hzm
                have iw : IntKind.i64.wrap ((s : Int) + 1) = (s : Int) + 1 := by simp [IntKind.wrap, IntKind.signed, IntKind.bits]; omega
                have hcI := Own.cellAt hO s hsz
                have hfz := Own.frozenAt hO s
                obtain ⟨x, hx⟩ : ∃ x, Hid (x = (D m).getD s 0) := ⟨_, rfl⟩
                rw [← hx.out] at hcI
                have HP2 := hid (HP.out.byte hmk (by rw [← HZ.out]; exact HVM.out) s (bits .xor .u8 x 255))
                clear hO HP
                go_wp2_with fail
                clear hcL hcI hfz
                go_roundw
                case rel => exact ⟨s + 1, _, by omega, by go_num, by rw [if_pos rfl, List.length_set]; exact HZ.out, HP2.out⟩
                case measure => simp [intOf]; omega
              · obtain rfl : s = z := by omega
                have sI : ¬ (s : Int) < (s : Int) := by omega
                go_wp2_with fail
                go_roundw
                case rel => exact ⟨m + 1, D, by omega, by go_num, HP.out⟩
                case measure => simp [intOf]; omega
          · obtain rfl : m = k := by omega
            have mI : ¬ (m : Int) < (m : Int) := by omega
            have HIw := hid (HI.out.below HP.out.b)
            have hsz := HP.out.b.size
            go_wp2_with fail
            refine (rNew_of 8 wr (by decide) (by decide)).mono ?_
            rintro e w5 ⟨g2, F2, rfl, hv5, hb5⟩
            have HI5 := hid (HIw.out.below hb5)
            have HP5 := hid (And.intro (HP.out.d.below hb5) (And.intro (HP.out.r.below hb5) (HP.out.b.trans (hb5.mono hsz))))
            have HV5 := hid hv5
            have HSb := hid (And.intro (fun q hq => (HP.out.d.lt q hq).2) (And.intro (fun q hq => (HP.out.r.lt q hq).2) (And.intro hb5.size hsz)))
            have HXX := hid (And.intro HP.out.x1 (And.intro (fun q hq => (HP.out.r.lt q hq).1) HP.out.s2))
            have HS1 := hid (Nat.le_trans HP.out.s1 HP.out.s2)
            clear hv5 hb5 HP HIw hsz
            go_wp2_with fail
            refine (rrNew_of g2 lim m cn d Fr w5 hlim (by omega) HI5.out).mono ?_
            rintro e w6 ⟨hh, H, rfl, hq, hb6⟩
            rw [← hR0.out] at hq
            have hz5 := HSb.out.2.2.1
            have hz0 := HSb.out.2.2.2
            have hlq := hq.lt
            have HQ := hid (show Quad w w.heap.size w6 g gd hh g2 F Fd H F2 R0 R0 (Dst.new 8) (Dst.new 8) from ⟨(HP5.out.2.1.below hb6).mono HS1.out, hq.mono (Nat.le_trans hz0 hz5), HP5.out.1.below hb6, (HV5.out.mono hz0).below hb6, fun x h1 h2 => by have a1 := HXX.out.2.1 x h1; have a2 := HXX.out.1 x h2; have a3 := HXX.out.2.2; omega, fun x h1 h2 => by have a1 := HSb.out.2.1 x h1; have a2 := (hlq x h2).1; omega, fun x h1 h2 => by have a1 := HSb.out.2.1 x h1; have a2 := (HV5.out.lt x h2).1; omega, fun x h1 h2 => by have a1 := HSb.out.1 x h1; have a2 := (hlq x h2).1; omega, fun x h1 h2 => by have a1 := HSb.out.1 x h1; have a2 := (HV5.out.lt x h2).1; omega, fun x h1 h2 => by have a1 := (hlq x h1).1; have a2 := (HV5.out.lt x h2).2; omega, HP5.out.2.2.trans (hb6.mono HP5.out.2.2.size), Nat.le_trans (Nat.le_trans hz0 hz5) hb6.size⟩)
            clear hq hb6 hz5 hz0 hlq HSb HXX HS1 HP5 HV5 HI5 hR0
            go_wp2_with fail
            go_loopw [99] (fun i wr => ∃ (k : Nat) (F Fd H F2 : Nat → Prop) (R : Rst) (S : Dst), k ≤ len ∧ i = .int .i64 (k : Int) ∧ Quad w w.heap.size wr g gd hh g2 F Fd H F2 R R S S ∧ S.steps ≤ k ∧ S.ws.length ≤ k) (fun i _ => len - (intOf i).toNat)
            case atStart => exact ⟨0, F, Fd, H, F2, _, _, Nat.zero_le _, rfl, HQ.out, Nat.le_refl _, Nat.le_refl _⟩
            case round =>
              clear HQ
              obtain ⟨k, F, Fd, H, F2', R, S, hk, rfl, hQ, hSs, hSw⟩ := hrel
              obtain ⟨F2, hF2⟩ : ∃ x, x = F2' := ⟨_, rfl⟩
              rw [← hF2] at hQ
              clear hF2
              have HQ := hid hQ
              have HSS := hid (And.intro hSs hSw)
              clear hQ hSs hSw
              by_cases hkl : k < len
              · have kI : (k : Int) < (len : Int) := by omega
                obtain ⟨b, o, rfl, hbl, hcol⟩ := HR.out.at hkl (Nat.succ_pos _)
                obtain ⟨f0, hf0⟩ : ∃ v, Hid (v = F0 k) := ⟨_, rfl⟩
                obtain ⟨f1, hf1⟩ : ∃ v, Hid (v = F1 k) := ⟨_, rfl⟩
                obtain ⟨f2, hf2⟩ : ∃ v, Hid (v = Ff2 k) := ⟨_, rfl⟩
                obtain ⟨f3, hf3⟩ : ∃ v, Hid (v = F3 k) := ⟨_, rfl⟩
                obtain ⟨f4, hf4⟩ : ∃ v, Hid (v = F4 k) := ⟨_, rfl⟩
                obtain ⟨f5, hf5⟩ : ∃ v, Hid (v = F5 k) := ⟨_, rfl⟩
                obtain ⟨p6, n6, d6, x6, hf6⟩ : ∃ p n d x, Hid (p = (F6 k).1 ∧ n = (F6 k).2.2.length ∧ d = (F6 k).2.1 ∧ x = (F6 k).2.2) := ⟨_, _, _, _, rfl, rfl, rfl, rfl⟩
                obtain ⟨p7, n7, d7, x7, hf7⟩ : ∃ p n d x, Hid (p = (F7 k).1 ∧ n = (F7 k).2.2.length ∧ d = (F7 k).2.1 ∧ x = (F7 k).2.2) := ⟨_, _, _, _, rfl, rfl, rfl, rfl⟩
                have hcw0 : w.cell? ⟨b, o + k * 8, none⟩ = some (.int .i64 f0) := by rw [hf0.out]; exact hcol 0 _ rfl
                have hc0 : wr.cell? ⟨b, o + k * 8, none⟩ = some (.int .i64 f0) := (HQ.out.b.cell (p := ⟨b, o + k * 8, none⟩) hbl).trans hcw0
                have hcw1 : w.cell? ⟨b, o + k * 8 + 1, none⟩ = some (.int .u64 f1) := by rw [hf1.out]; exact hcol 1 _ rfl
                have hc1 : wr.cell? ⟨b, o + k * 8 + 1, none⟩ = some (.int .u64 f1) := (HQ.out.b.cell (p := ⟨b, o + k * 8 + 1, none⟩) hbl).trans hcw1
                have hcw2 : w.cell? ⟨b, o + k * 8 + 2, none⟩ = some (.int .i64 f2) := by rw [hf2.out]; exact hcol 2 _ rfl
                have hc2 : wr.cell? ⟨b, o + k * 8 + 2, none⟩ = some (.int .i64 f2) := (HQ.out.b.cell (p := ⟨b, o + k * 8 + 2, none⟩) hbl).trans hcw2
                have hcw3 : w.cell? ⟨b, o + k * 8 + 3, none⟩ = some (.int .i64 f3) := by rw [hf3.out]; exact hcol 3 _ rfl
                have hc3 : wr.cell? ⟨b, o + k * 8 + 3, none⟩ = some (.int .i64 f3) := (HQ.out.b.cell (p := ⟨b, o + k * 8 + 3, none⟩) hbl).trans hcw3
                have hcw4 : w.cell? ⟨b, o + k * 8 + 4, none⟩ = some (.int .i64 f4) := by rw [hf4.out]; exact hcol 4 _ rfl
                have hc4 : wr.cell? ⟨b, o + k * 8 + 4, none⟩ = some (.int .i64 f4) := (HQ.out.b.cell (p := ⟨b, o + k * 8 + 4, none⟩) hbl).trans hcw4
                have hcw5 : w.cell? ⟨b, o + k * 8 + 5, none⟩ = some (.int .i64 f5) := by rw [hf5.out]; exact hcol 5 _ rfl
                have hc5 : wr.cell? ⟨b, o + k * 8 + 5, none⟩ = some (.int .i64 f5) := (HQ.out.b.cell (p := ⟨b, o + k * 8 + 5, none⟩) hbl).trans hcw5
                have hcw6 : w.cell? ⟨b, o + k * 8 + 6, none⟩ = some (.slice p6 n6 d6) := by rw [hf6.out.1, hf6.out.2.1, hf6.out.2.2.1]; exact hcol 6 _ rfl
                have hc6 : wr.cell? ⟨b, o + k * 8 + 6, none⟩ = some (.slice p6 n6 d6) := (HQ.out.b.cell (p := ⟨b, o + k * 8 + 6, none⟩) hbl).trans hcw6
                have hcw7 : w.cell? ⟨b, o + k * 8 + 7, none⟩ = some (.slice p7 n7 d7) := by rw [hf7.out.1, hf7.out.2.1, hf7.out.2.2.1]; exact hcol 7 _ rfl
                have hc7 : wr.cell? ⟨b, o + k * 8 + 7, none⟩ = some (.slice p7 n7 d7) := (HQ.out.b.cell (p := ⟨b, o + k * 8 + 7, none⟩) hbl).trans hcw7
                have hw1 : (Lit.int .u64 f1).wf = true := by rw [hf1.out]; exact HG1.out k hkl
                have hw2 : (Lit.int .i64 f2).wf = true := by rw [hf2.out]; exact HG2.out k hkl
                have hw4 : (Lit.int .i64 f4).wf = true := by rw [hf4.out]; exact HG4.out k hkl
                have hw5 : (Lit.int .i64 f5).wf = true := by rw [hf5.out]; exact HG5.out k hkl
                have B6 : Hid (Bin w p6 x6 ∧ Oct x6 ∧ x6.length = n6 ∧ n6 ≤ d6 ∧ n6 ≤ 140737488351232 ∧ ∀ ad, p6 = some ad → 0 < n6 → ad.block < w.heap.size) := hid (by obtain ⟨h1, h2, h3, h4⟩ := HG6.out k hkl; rw [hf6.out.1, hf6.out.2.1, hf6.out.2.2.1, hf6.out.2.2.2]; exact ⟨h1, h2, rfl, h3, h4, fun ad hd hn => by obtain ⟨x, y, e, hx, _⟩ := h1.at hn; rw [hd] at e; injection e with e; rw [e]; exact hx⟩)
                have B7 : Hid (Bin w p7 x7 ∧ Oct x7 ∧ x7.length = n7 ∧ n7 ≤ d7 ∧ n7 ≤ 140737488351232 ∧ ∀ ad, p7 = some ad → 0 < n7 → ad.block < w.heap.size) := hid (by obtain ⟨h1, h2, h3, h4⟩ := HG7.out k hkl; rw [hf7.out.1, hf7.out.2.1, hf7.out.2.2.1, hf7.out.2.2.2]; exact ⟨h1, h2, rfl, h3, h4, fun ad hd hn => by obtain ⟨x, y, e, hx, _⟩ := h1.at hn; rw [hd] at e; injection e with e; rw [e]; exact hx⟩)
                clear hcol hf0 hf1 hf2 hf3 hf4 hf5 hf6 hf7
                have HW1 := hid hcw1
                have HW2 := hid hcw2
                clear hcw0 hcw3 hcw4 hcw5 hcw6 hcw7
                go_upto_block 8 with fail
                go_cut [18, 19, 20, 21, 22, 23, 24, 25, 26] from 107 to 191 (fun s18 _ _ _ _ _ _ _ _ wx => s18 = .bool true ∧ ∃ (F Fd H F2 : Nat → Prop) (R : Rst) (S : Dst), Quad w w.heap.size wx g gd hh g2 F Fd H F2 R R S S ∧ S.steps ≤ k + 1 ∧ S.ws.length ≤ k + 1)
                case first =>
                  clear hc0
                  by_cases e1 : f0 = 1
                  · subst e1
                    have HC := hid (gReserve_of _ g gd F Fd R S wr HQ.out.p HQ.out.u HQ.out.d1 (by have := HSS.out; omega))
                    have HV1 : Hid (R.resV S ≤ 18446744073709551615) := hid (by have h1 := HQ.out.p.ok.res; have h2 := HQ.out.p.ok.lim; unfold Rst.resV; split; exact Nat.zero_le _; split; omega; exact Nat.zero_le _)
                    have HST : Hid ((R.resS S).steps ≤ k + 1 ∧ (R.resS S).ws.length ≤ k + 1) := hid (by have h1 := Rst.resS_facts R S; have h2 := HSS.out; rw [h1.2.1]; omega)
                    obtain ⟨rv, hrv⟩ : ∃ x, Hid (x = R.resV S) := ⟨_, rfl⟩
                    obtain ⟨re, hre⟩ : ∃ x, Hid (x = R.resE S) := ⟨_, rfl⟩
                    rw [← hrv.out, ← hre.out] at HC
                    go_wp2_with fail
                    refine HC.out.mono ?_
                    rintro e w5 ⟨rfl, hs⟩
                    obtain ⟨F', Fd', hq⟩ := HQ.out.stepP hs
                    have HQ5 := hid hq
                    clear hs hq HC HQ
                    have HC := hid (rrReserve_of HQ5.out.q HQ5.out.v HQ5.out.d6 (by have := HSS.out; omega))
                    rw [← hrv.out, ← hre.out] at HC
                    go_wp2_with fail
                    refine HC.out.mono ?_
                    rintro e w6 ⟨rfl, hs⟩
                    obtain ⟨F2', hq⟩ := HQ5.out.stepR hs
                    have HQ9 := hid hq
                    clear hs hq HC HQ5
                    go_wp2_with fail
                    go_meet
                    exact ⟨rfl, F', Fd', H, F2', _, _, HQ9.out, HST.out⟩
                  by_cases e2 : f0 = 2
                  · subst e2
                    obtain ⟨m, hm⟩ : ∃ m : Nat, f1 = (m : Int) := ⟨f1.toNat, by have := u64_of_wf hw1; omega⟩
                    subst hm
                    have hmm : m ≤ 18446744073709551615 := by have := u64_of_wf hw1; omega
                    have HC1 := hid (fun W (h : Quad w w.heap.size W g gd hh g2 F Fd H F2 R R S S) => gAdvance_of _ g gd F Fd R S W h.p h.u h.d1 (by have := HSS.out; omega) m hmm)
                    have HC2 := hid (fun W F Fd R' S' (h : Quad w w.heap.size W g gd hh g2 F Fd H F2 R' R S' S) => rrAdvance_of h.q h.v h.d6 (by have := HSS.out; omega) m hmm)
                    have HST : Hid ((R.advS S m).steps ≤ k + 1 ∧ (R.advS S m).ws.length ≤ k + 1) := hid (by have h1 := Rst.advS_facts R S m; have h2 := HSS.out; rw [h1.2.1]; omega)
                    obtain ⟨re, hre⟩ : ∃ x, Hid (x = R.advE S m) := ⟨_, rfl⟩
                    rw [← hre.out] at HC1 HC2
                    go_upto_region 38 with fail
                    have HQd := hid HQ.out.drew
                    have hcd : wr.drew.cell? ⟨b, o + k * 8 + 1, none⟩ = some (.int .u64 (m : Nat)) := hc1
                    have hS0 : (fun v => v.cell? ⟨b, o + k * 8 + 1, none⟩ = some (.int .u64 (m : Nat))) wr.drew := hcd
                    clear hc1 hcd HQ
                    refine wp_region_z (fun v => v.cell? ⟨b, o + k * 8 + 1, none⟩ = some (.int .u64 (m : Nat))) 16 (by kernel_rfl) hS0 (fun hS => ?_)
                    clear hS0
                    generalize World.drew _ = w4 at hS HQd ⊢
                    refine wpAnyZ_take (i := 0) (v := .pointer (some ⟨g, 0, none⟩)) rfl (by kernel_rfl) (by kernel_rfl) (by kernel_rfl) (by kernel_rfl) (fun _ _ _ h => h) hS (Or.inl ⟨by kernel_rfl, fun w hS => (by clear hS; go_simp)⟩) ?_
                    simp only [Act.put, List.setIfInBounds_toArray, List.set_cons_zero, List.set_cons_succ]
                    refine wpAnyZ_take (i := 1) (v := .slice (some ⟨b, o, none⟩) len cl) rfl (by kernel_rfl) (by kernel_rfl) (by kernel_rfl) (by kernel_rfl) (fun _ _ _ h => h) hS (Or.inl ⟨by kernel_rfl, fun w hS => (by clear hS; go_simp)⟩) ?_
                    simp only [Act.put, List.setIfInBounds_toArray, List.set_cons_zero, List.set_cons_succ]
                    refine wpAnyZ_take (i := 2) (v := .int .i64 (k : Nat)) rfl (by kernel_rfl) (by kernel_rfl) (by kernel_rfl) (by kernel_rfl) (fun _ _ _ h => h) hS (Or.inl ⟨by kernel_rfl, fun w hS => (by clear hS; go_simp)⟩) ?_
                    simp only [Act.put, List.setIfInBounds_toArray, List.set_cons_zero, List.set_cons_succ]
                    refine wpAnyZ_take (i := 3) (v := .pointer (some ⟨b, o + k * 8, none⟩)) rfl (by kernel_rfl) (by kernel_rfl) (by kernel_rfl) (by kernel_rfl) (fun _ _ _ h => h) hS (Or.inl ⟨by kernel_rfl, fun w hS => (by clear hS; go_simp)⟩) ?_
                    simp only [Act.put, List.setIfInBounds_toArray, List.set_cons_zero, List.set_cons_succ]
                    refine wpAnyZ_take (i := 4) (v := .pointer (some ⟨b, o + k * 8 + 1, none⟩)) rfl (by kernel_rfl) (by kernel_rfl) (by kernel_rfl) (by kernel_rfl) (fun _ _ _ h => h) hS (Or.inl ⟨by kernel_rfl, fun w hS => (by clear hS; go_simp)⟩) ?_
                    simp only [Act.put, List.setIfInBounds_toArray, List.set_cons_zero, List.set_cons_succ]
                    refine wpAnyZ_take (i := 5) (v := .int .u64 (m : Nat)) rfl (by kernel_rfl) (by kernel_rfl) (by kernel_rfl) (by kernel_rfl) (fun _ _ _ h => h) hS (Or.inl ⟨by kernel_rfl, fun w hS => (by have hc : w.cell? _ = _ := hS; clear hS; go_simp)⟩) ?_
                    simp only [Act.put, List.setIfInBounds_toArray, List.set_cons_zero, List.set_cons_succ]
                    refine wpAnyZ_take (i := 7) (v := .pointer (some ⟨hh, 0, none⟩)) rfl (by kernel_rfl) (by kernel_rfl) (by kernel_rfl) (by kernel_rfl) (fun _ _ _ h => h) hS (Or.inl ⟨by kernel_rfl, fun w hS => (by clear hS; go_simp)⟩) ?_
                    simp only [Act.put, List.setIfInBounds_toArray, List.set_cons_zero, List.set_cons_succ]
                    refine wpAnyZ_take (i := 8) (v := .slice (some ⟨b, o, none⟩) len cl) rfl (by kernel_rfl) (by kernel_rfl) (by kernel_rfl) (by kernel_rfl) (fun _ _ _ h => h) hS (Or.inl ⟨by kernel_rfl, fun w hS => (by clear hS; go_simp)⟩) ?_
                    simp only [Act.put, List.setIfInBounds_toArray, List.set_cons_zero, List.set_cons_succ]
                    refine wpAnyZ_take (i := 9) (v := .int .i64 (k : Nat)) rfl (by kernel_rfl) (by kernel_rfl) (by kernel_rfl) (by kernel_rfl) (fun _ _ _ h => h) hS (Or.inl ⟨by kernel_rfl, fun w hS => (by clear hS; go_simp)⟩) ?_
                    simp only [Act.put, List.setIfInBounds_toArray, List.set_cons_zero, List.set_cons_succ]; try simp only [List.getElem_toArray, List.getElem_cons_succ, List.getElem_cons_zero]
                    refine wpAnyZ_take (i := 10) (v := .pointer (some ⟨b, o + k * 8, none⟩)) rfl (by kernel_rfl) (by kernel_rfl) (by kernel_rfl) (by kernel_rfl) (fun _ _ _ h => h) hS (Or.inl ⟨by kernel_rfl, fun w hS => (by clear hS; go_simp)⟩) ?_
                    simp only [Act.put, List.setIfInBounds_toArray, List.set_cons_zero, List.set_cons_succ]; try simp only [List.getElem_toArray, List.getElem_cons_succ, List.getElem_cons_zero]
                    refine wpAnyZ_take (i := 11) (v := .pointer (some ⟨b, o + k * 8 + 1, none⟩)) rfl (by kernel_rfl) (by kernel_rfl) (by kernel_rfl) (by kernel_rfl) (fun _ _ _ h => h) hS (Or.inl ⟨by kernel_rfl, fun w hS => (by clear hS; go_simp)⟩) ?_
                    simp only [Act.put, List.setIfInBounds_toArray, List.set_cons_zero, List.set_cons_succ]; try simp only [List.getElem_toArray, List.getElem_cons_succ, List.getElem_cons_zero]
                    refine wpAnyZ_take (i := 12) (v := .int .u64 (m : Nat)) rfl (by kernel_rfl) (by kernel_rfl) (by kernel_rfl) (by kernel_rfl) (fun _ _ _ h => h) hS (Or.inl ⟨by kernel_rfl, fun w hS => (by have hc : w.cell? _ = _ := hS; clear hS; go_simp)⟩) ?_
                    simp only [Act.put, List.setIfInBounds_toArray, List.set_cons_zero, List.set_cons_succ]; try simp only [List.getElem_toArray, List.getElem_cons_succ, List.getElem_cons_zero]
                    refine wpAnyZ_one (i := 6) (by kernel_rfl) rfl (fun K hK => ?_)
                    go_simp
                    go_at_call 16
                    refine (HC1.out w4 HQd.out).mono ?_
                    rintro e v5 ⟨rfl, hs⟩
                    obtain ⟨F', Fd', hq⟩ := HQd.out.stepP hs
                    have hS2 : (fun v => v.cell? ⟨b, o + k * 8 + 1, none⟩ = some (.int .u64 (m : Nat))) v5 := (hq.b.cell (p := ⟨b, o + k * 8 + 1, none⟩) hbl).trans hcw1
                    have HQ5 := hid hq
                    clear hs hq hS HQd
                    have hS := hS2
                    clear hS2
                    go_wp2_with fail
                    refine hK.out _ _ (fun _ => hS) ?_
                    clear hK K
                    try simp only [Act.put, List.setIfInBounds_toArray, List.set_cons_zero, List.set_cons_succ]; try simp only [List.getElem_toArray, List.getElem_cons_succ, List.getElem_cons_zero]
                    refine wpAnyZ_one (i := 13) (by kernel_rfl) rfl (fun K hK => ?_)
                    go_simp
                    go_at_call 17
                    refine (HC2.out v5 _ _ _ _ HQ5.out).mono ?_
                    rintro e v6 ⟨rfl, hs⟩
                    obtain ⟨F2', hq⟩ := HQ5.out.stepR hs
                    have hS2 : (fun v => v.cell? ⟨b, o + k * 8 + 1, none⟩ = some (.int .u64 (m : Nat))) v6 := (hq.b.cell (p := ⟨b, o + k * 8 + 1, none⟩) hbl).trans hcw1
                    have HQ9 := hid hq
                    clear hs hq hS HQ5
                    have hS := hS2
                    clear hS2
                    go_wp2_with fail
                    refine hK.out _ _ (fun _ => hS) ?_
                    clear hK K
                    try simp only [Act.put, List.setIfInBounds_toArray, List.set_cons_zero, List.set_cons_succ]; try simp only [List.getElem_toArray, List.getElem_cons_succ, List.getElem_cons_zero]
                    refine wpAnyZ_take (i := 14) (v := .bool true) rfl (by kernel_rfl) (by kernel_rfl) (by kernel_rfl) (by kernel_rfl) (fun _ _ _ h => h) hS (Or.inl ⟨by kernel_rfl, fun w hS => (by clear hS; go_simp)⟩) ?_
                    simp only [Act.put, List.setIfInBounds_toArray, List.set_cons_zero, List.set_cons_succ]; try simp only [List.getElem_toArray, List.getElem_cons_succ, List.getElem_cons_zero]
                    refine wpAnyZ_take (i := 15) (v := .bool true) rfl (by kernel_rfl) (by kernel_rfl) (by kernel_rfl) (by kernel_rfl) (fun _ _ _ h => h) hS (Or.inl ⟨by kernel_rfl, fun w hS => (by clear hS; go_simp)⟩) ?_
                    simp only [Act.put, List.setIfInBounds_toArray, List.set_cons_zero, List.set_cons_succ]; try simp only [List.getElem_toArray, List.getElem_cons_succ, List.getElem_cons_zero]
                    refine wpAnyZ_done (by kernel_rfl) ?_ _
                    clear hS HC1 HC2
                    go_wp2_with fail
                    go_meet
                    exact ⟨rfl, F', Fd', H, F2', _, _, HQ9.out, HST.out⟩
                  by_cases e3 : f0 = 3
                  · subst e3
                    have HC := hid (gDraw_of _ g gd F R wr HQ.out.p f2 hw2)
                    have HLL : Hid ((R.drL f2).length ≤ 64 ∧ Oct (R.drL f2)) := hid ⟨Rst.drL_len R f2, Rst.drL_oct HQ.out.p.ok f2⟩
                    have HST : Hid (S.steps ≤ k + 1 ∧ S.ws.length ≤ k + 1) := hid (by have := HSS.out; omega)
                    obtain ⟨re, hre⟩ : ∃ x, Hid (x = R.drE f2) := ⟨_, rfl⟩
                    obtain ⟨L, hL⟩ : ∃ x, Hid (x = R.drL f2) := ⟨_, rfl⟩
                    rw [← hre.out, ← hL.out] at HC
                    rw [← hL.out] at HLL
                    go_wp2_with fail
                    refine HC.out.mono ?_
                    rintro e w5 ⟨v5, rfl, hs⟩
                    obtain ⟨F', hq, hO, hnh⟩ := HQ.out.drawP hs
                    have HQ5 := hid hq
                    have HO := hid hO
                    have HNH := hid hnh
                    obtain ⟨p5, c5, rfl, _, _⟩ := hO.bin
                    have hc2 : w5.cell? ⟨b, o + k * 8 + 2, none⟩ = some (.int .i64 f2) := (hq.b.cell (p := ⟨b, o + k * 8 + 2, none⟩) hbl).trans hcw2
                    clear hs hq hO hnh HC HQ
                    have HC := hid (rrDraw_of HQ5.out.q f2 hw2)
                    rw [← hre.out, ← hL.out] at HC
                    go_wp2_with fail
                    refine HC.out.mono ?_
                    rintro e w6 ⟨v6, rfl, hO6, hg6, ht6⟩
                    have HQ9 := hid (HQ5.out.drawR hg6 ht6)
                    have hO5 := HO.out.tb ht6 HNH.out
                    obtain ⟨p6, c6, rfl, _, hb6⟩ := hO6.bin
                    obtain ⟨_, hb5⟩ := hO5.slice'
                    have HSM := hid (refSame_yes p5 p6 c5 c6 L.length L w6 rfl hb5 hb6 HLL.out.2)
                    clear hO6 hg6 ht6 hO5 hb6 hb5 HO HNH HC HQ5 hc2
                    go_wp2_with fail
                    refine HSM.out.mono ?_
                    rintro e w7 ⟨rfl, rfl⟩
                    go_wp2_with fail
                    go_meet
                    exact ⟨rfl, F', Fd, H, F2, _, _, HQ9.out, HST.out⟩
                  by_cases k9 : f3 = 9
                  · have HST : Hid (S.steps ≤ k + 1 ∧ S.ws.length ≤ k + 1) := hid (by have := HSS.out; omega)
                    have HQ9 := HQ
                    go_wp2_with fail
                    go_meet
                    exact ⟨rfl, F, Fd, H, F2, _, _, HQ9.out, HST.out⟩
                  · have HDO := hid (does_at w.heap.size gd g2 Fd F2 S f3 f4 f5 p6 d6 n6 x6 p7 d7 n7 x7 wr HQ.out.duo HQ.out.s hw4 hw5 (B6.out.1.below HQ.out.b) B6.out.2.1 B6.out.2.2.1 B6.out.2.2.2.1 B6.out.2.2.2.2.1 B6.out.2.2.2.2.2 (B7.out.1.below HQ.out.b) B7.out.2.1 B7.out.2.2.1 B7.out.2.2.2.1 B7.out.2.2.2.2.1 B7.out.2.2.2.2.2 (by have := HSS.out; omega) (by have := HSS.out; omega) k9)
                    go_wp2_with fail
                    refine HDO.out.mono ?_
                    rintro e w5 ⟨Fd', F2', S', rfl, hd, hb, hs, t1, t2, t3⟩
                    have HQ9 := hid (HQ.out.does hd hb hs)
                    have HST : Hid (S'.steps ≤ k + 1 ∧ S'.ws.length ≤ k + 1) := hid (by have := HSS.out; omega)
                    clear hd hb hs t1 t2 t3 HDO HQ
                    go_wp2_with fail
                    go_meet
                    exact ⟨rfl, F, Fd', H, F2', _, S', HQ9.out, HST.out⟩
                case rest =>
                  clear HQ HSS hc0 hc1 hc2 hc3 hc4 hc5 hc6 hc7 hcw1 hcw2 B6 B7 hw1 hw2 hw4 hw5
                  obtain ⟨rfl, F, Fd, H, F2, R, S, hQ, hSs, hSw⟩ := hcut
                  have HQ := hid hQ
                  have HSS := hid (And.intro hSs hSw)
                  clear hQ hSs hSw
                  obtain ⟨rs, hrs⟩ : ∃ x, Hid (x = R.res) := ⟨_, rfl⟩
                  obtain ⟨cm, hcm⟩ : ∃ x, Hid (x = R.com) := ⟨_, rfl⟩
                  obtain ⟨lf, hlf⟩ : ∃ x, Hid (x = R.draws.length) := ⟨_, rfl⟩
                  obtain ⟨st, hst⟩ : ∃ x, Hid (x = S.steps) := ⟨_, rfl⟩
                  obtain ⟨dn, hdn⟩ : ∃ x, Hid (x = S.down) := ⟨_, rfl⟩
                  have q1 : ∀ j, Calls Try.prog 22 #[.pointer (some ⟨g, 0, none⟩)] (wc.drewN j) fun e w' => e = .returned (.int .u64 (rs : Nat)) ∧ w' = wc.drewN j := fun j => by have := gReserved_is (HQ.out.below (below_drewN (Below.refl _ _) j)).p; rwa [← hrs.out] at this
                  have q2 : ∀ j, Calls Try.prog 23 #[.pointer (some ⟨g, 0, none⟩)] (wc.drewN j) fun e w' => e = .returned (.int .u64 (cm : Nat)) ∧ w' = wc.drewN j := fun j => by have := gCommitted_is (HQ.out.below (below_drewN (Below.refl _ _) j)).p; rwa [← hcm.out] at this
                  have q3 : ∀ j, Calls Try.prog 24 #[.pointer (some ⟨g, 0, none⟩)] (wc.drewN j) fun e w' => e = .returned (.int .i64 (lf : Nat)) ∧ w' = wc.drewN j := fun j => by have := gLeft_is (HQ.out.below (below_drewN (Below.refl _ _) j)).p; rwa [← hlf.out] at this
                  have q4 : ∀ j, Calls Try.prog 25 #[.pointer (some ⟨gd, 0, none⟩)] (wc.drewN j) fun e w' => e = .returned (.int .u64 (st : Nat)) ∧ w' = wc.drewN j := fun j => by have := dSteps_is (HQ.out.below (below_drewN (Below.refl _ _) j)).u; rwa [← hst.out] at this
                  have q5 : ∀ j, Calls Try.prog 26 #[.pointer (some ⟨gd, 0, none⟩)] (wc.drewN j) fun e w' => e = .returned (.bool dn) ∧ w' = wc.drewN j := fun j => by have := dDown_is (HQ.out.below (below_drewN (Below.refl _ _) j)).u; rwa [← hdn.out] at this
                  have Q1 := hid q1
                  have Q2 := hid q2
                  have Q3 := hid q3
                  have Q4 := hid q4
                  have Q5 := hid q5
                  clear q1 q2 q3 q4 q5
                  obtain ⟨_, pR, cR, hvR⟩ := HQ.out.q
                  have x2 := hvR.c2
                  have x3 := hvR.c3
                  have x4 := hvR.c4
                  rw [← hrs.out] at x2
                  rw [← hcm.out] at x3
                  rw [← hlf.out] at x4
                  obtain ⟨vN, VN, vF, VF, vW, VW, hv9⟩ := HQ.out.v.at'
                  have y3 := hv9.c3
                  have y6 := hv9.c6
                  rw [← hst.out] at y3
                  rw [← hdn.out] at y6
                  clear hvR hv9
                  go_upto_region 43 with fail
                  go_quiet (first | (go_at_call 22; refine Calls.quiet_of_same (Q1.out _)) | (go_at_call 23; refine Calls.quiet_of_same (Q2.out _)) | (go_at_call 24; refine Calls.quiet_of_same (Q3.out _)) | (go_at_call 25; refine Calls.quiet_of_same (Q4.out _)) | (go_at_call 26; refine Calls.quiet_of_same (Q5.out _)))
                  rename_i nq
                  have HQ8 := hid (HQ.out.below (below_drewN (Below.refl _ _) nq))
                  clear HQ x2 x3 x4 y3 y6 Q1 Q2 Q3 Q4 Q5 hrs hcm hlf hst hdn
                  go_wp2_with fail
                  go_roundw
                  case rel => exact ⟨k + 1, F, Fd, H, F2, R, S, by omega, by go_num, HQ8.out, HSS.out.1, HSS.out.2⟩
                  case measure => simp [intOf]; omega
              · obtain rfl : k = len := by omega
                have kI : ¬ (k : Int) < (k : Int) := by omega
                go_wp2_with fail
                refine (known9_any wr).mono ?_
                rintro e w9 ⟨rfl, hb⟩
                have HB9 := hid (HQ.out.b.trans (hb.mono HQ.out.b.size))
                clear hb
                go_wp2
                go_ret
                exact ⟨rfl, HB9.out⟩
end Go.Proofs.Ytlbhoijjbpjmoaa
