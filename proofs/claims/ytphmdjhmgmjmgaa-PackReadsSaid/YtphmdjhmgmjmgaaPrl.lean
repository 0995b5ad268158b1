/-
  The walk of PackReads.
-/
import Derived.Test.YtphmdjhmgmjmgaaPon
import Derived.Test.YtphmdjhmgmjmgaaOrw
import Derived.Test.YtphmdjhmgmjmgaaPru
import Derived.Deep.CutRange
import Derived.Deep.DeepCutAuto
namespace Go.Proofs.Ytphmdjhmgmjmgaa
open Go.RowKit
set_option linter.unusedVariables false
set_option linter.unusedSimpArgs false

/-- The blocks of the two readers and of their bytes are unlike ones. -/
structure Apart (B g kk gw : Nat) (p : Option Addr) : Prop where
  bg : B ≤ g
  bw : B ≤ gw
  ng : g ≠ gw
  kw : kk ≠ gw
  pb : ∀ a, p = some a → a.block ≠ g ∧ a.block ≠ gw
/-- Both readers, each at its place. -/
structure PSt (w : World) (g kk gw n cb : Nat) (p : Option Addr) (xs : List Int) (at1 : Nat) (f1 : Int) (at2 : Nat) (f2 : Int) (W : World) : Prop where
  pr : PRd W g kk xs at1 f1
  rd : Rdr W gw (.slice p n cb) at2 f2
  bin : Bin W p xs
  bel : Below w.heap.size w W
  pl : ∀ a, p = some a → a.block < W.heap.size
section
variable {w W W' : World} {g kk gw n cb at1 at2 at3 : Nat} {p : Option Addr} {xs : List Int} {f1 f2 f3 : Int}
theorem PSt.step1 (h : PSt w g kk gw n cb p xs at1 f1 at2 f2 W) (D : Apart w.heap.size g kk gw p) (hg : W.grownBy W' (some g)) (hp : PRd W' g kk xs at3 f3) : PSt w g kk gw n cb p xs at3 f3 at2 f2 W' :=
  ⟨hp, h.rd.grown hg (fun e => D.ng (Option.some.inj e).symm), h.bin.aside hg (fun a ha => (D.pb a ha).1), h.bel.grown hg h.bel.size (fun q hq => by cases hq; exact D.bg), fun a ha => Nat.lt_of_lt_of_le (h.pl a ha) hg.size⟩
theorem PSt.step2 (h : PSt w g kk gw n cb p xs at1 f1 at2 f2 W) (D : Apart w.heap.size g kk gw p) (hg : W.grownBy W' (some gw)) (hp : Rdr W' gw (.slice p n cb) at3 f3) : PSt w g kk gw n cb p xs at1 f1 at3 f3 W' :=
  ⟨h.pr.grown hg (fun e => D.ng (Option.some.inj e)) (fun e => D.kw (Option.some.inj e)), hp, h.bin.aside hg (fun a ha => (D.pb a ha).2), h.bel.grown hg h.bel.size (fun q hq => by cases hq; exact D.bw), fun a ha => Nat.lt_of_lt_of_le (h.pl a ha) hg.size⟩
theorem PSt.step0 (h : PSt w g kk gw n cb p xs at1 f1 at2 f2 W) (D : Apart w.heap.size g kk gw p) (hb : Below W.heap.size W W') : PSt w g kk gw n cb p xs at1 f1 at2 f2 W' :=
  ⟨h.pr.grown (gb_of none hb) (by simp) (by simp), h.rd.grown (gb_of none hb) (by simp), h.bin.below hb, h.bel.trans (hb.mono h.bel.size), fun a ha => Nat.lt_of_lt_of_le (h.pl a ha) hb.size⟩
theorem PSt.stepO {q : Nat} (h : PSt w g kk gw n cb p xs at1 f1 at2 f2 W) (D : Apart w.heap.size g kk gw p) (hg : W.grownBy W' (some q)) (hq : w.heap.size ≤ q) (h1 : g ≠ q) (h2 : kk ≠ q) (h3 : gw ≠ q) (h4 : ∀ a, p = some a → a.block ≠ q) : PSt w g kk gw n cb p xs at1 f1 at2 f2 W' :=
  ⟨h.pr.grown hg (fun e => h1 (Option.some.inj e)) (fun e => h2 (Option.some.inj e)), h.rd.grown hg (fun e => h3 (Option.some.inj e)), h.bin.aside hg h4, h.bel.grown hg h.bel.size (fun r hr => by cases hr; exact hq), fun a ha => Nat.lt_of_lt_of_le (h.pl a ha) hg.size⟩
end
theorem rdText_oct {xs : List Int} (h : Oct xs) (most : Int) (at0 : Nat) (f : Int) : Oct (rdText xs most at0 f).1 := by
  unfold rdText
  split
  · exact Oct.nil
  · split
    · exact Oct.nil
    · exact fun x hx => h x (List.mem_of_mem_drop (List.mem_of_mem_take hx))
/-- A reader in a new block. -/
theorem rdr_new (w : World) (v : Value) (t : TypeId) : Rdr (w.alloc (.cells #[v, .int .i64 0, .int .i64 0] t)) w.heap.size v 0 0 := by
  refine ⟨?_, ?_, ?_, ?_, ?_⟩ <;> simp

set_option maxHeartbeats 16000000 in
set_option maxRecDepth 100000 in
theorem preads_law (p0 : Option Addr) (c0 : Nat) (xs : List Int) (a : Option Addr) (len cl : Nat) (F0 F1 : Nat → Int) (w : World) (hp : Bin w p0 xs) (ho : Oct xs) (hm : xs.length ≤ 140737488351232) (hc : xs.length ≤ c0)
    (hlm : len ≤ maxLen) (hlc : len ≤ cl) (hr : Rws w a len [fun i => .int .i64 (F0 i), fun i => .int .i64 (F1 i)]) (hf0 : ∀ i, i < len → (Lit.int .i64 (F0 i)).wf = true) (hf1 : ∀ i, i < len → (Lit.int .i64 (F1 i)).wf = true) :
    Calls Try.prog 5 #[.slice p0 xs.length c0, .slice a len cl] w fun e w' => e = .returned (.bool true) ∧ Below w.heap.size w w' := by
  unfold maxLen at hlm
  have hcopy := fun (w' : World) (h : Bin w' p0 xs) => copy_any p0 c0 xs w' h hm
  obtain ⟨n, hn⟩ : ∃ n, n = xs.length := ⟨_, rfl⟩
  rw [← hn] at hcopy hm hc ⊢
  have HL := hid hn.symm
  clear hn
  by_cases hlt : 4096 < n
  · have i1 : (4096 : Int) < (n : Int) := by omega
    go_enter Try.func5, Try.ntmps5
    go_wp2_with fail
    refine (known7_any w).mono ?_
    rintro e w1 ⟨rfl, hb1⟩
    go_wp2_with fail
    go_ret
    exact ⟨rfl, hb1⟩
  · have i1 : ¬ (4096 : Int) < (n : Int) := by omega
    have HP := hid hp
    have HCOPY := hid hcopy
    have HR := hid hr
    have HF := hid (And.intro hf0 hf1)
    clear hp hcopy hr hf0 hf1
    go_enter Try.func5, Try.ntmps5
    go_wp2_with fail
    refine (HCOPY.out w HP.out).mono ?_
    rintro e w1 ⟨gi, ci, rfl, hown, hb1⟩
    have hgi := (World.ownsRow.lt hown gi rfl)
    have HO1 := hid hown
    have HB1 := hid hb1
    clear hown hb1
    go_wp2_with fail
    refine (newReader_of _ ci n xs w1 HO1.out.slice.2.2 ho HL.out HO1.out.slice.2.1 hm).mono ?_
    rintro e w2 ⟨g, kk, rfl, hR2, hg2, hk2, hb2⟩
    have HO2 := hid (HO1.out.below hb2)
    have HB2 := hid (HB1.out.trans (hb2.mono HB1.out.size))
    have hs2 := hb2.size
    have hs1 := HB1.out.size
    have hgl2 := hR2.lg
    have hkl2 := hR2.lk
    clear HO1 HB1 hb2
    go_wp2_with fail
    refine (HCOPY.out w2 (HP.out.below HB2.out)).mono ?_
    rintro e w3 ⟨gb, cb, rfl, hown3, hb3⟩
    have hgb := (World.ownsRow.lt hown3 gb rfl)
    have HB3 := hid (HB2.out.trans (hb3.mono HB2.out.size))
    have HO3 := hid (HO2.out.below hb3)
    have hR3 := hR2.grown (gb_of none hb3) (by simp) (by simp)
    have hbin3 := hown3.slice.2.2
    have hcb := hown3.slice.2.1
    have hs3 := hb3.size
    have hN := rdr_new w3 (.slice (some ⟨gb, 0, none⟩) n cb) 35
    have hgA : w3.grownBy (w3.alloc (.cells #[.slice (some ⟨gb, 0, none⟩) n cb, .int .i64 0, .int .i64 0] 35)) none := gb_of none ((Below.refl _ _).alloc (Nat.le_refl _) _)
    have hbA := HB3.out.alloc HB3.out.size (.cells #[.slice (some ⟨gb, 0, none⟩) n cb, .int .i64 0, .int .i64 0] 35)
    have HS0 := hid (PSt.mk (hR3.grown hgA (by simp) (by simp)) hN (hbin3.grown hgA (fun a ha e => by cases e)) hbA (fun a ha => by cases ha; show gb < _; simp; omega) : PSt w g kk w3.heap.size n cb (some ⟨gb, 0, none⟩) xs 0 0 0 0 _)
    have HO4 := hid (HO3.out.aside hgA (by simp))
    have D : Hid (Apart w.heap.size g kk w3.heap.size (some ⟨gb, 0, none⟩)) := hid ⟨by omega, by omega, by omega, by omega, fun a ha => by cases ha; exact ⟨by show gb ≠ g; omega, by show gb ≠ w3.heap.size; omega⟩⟩
    obtain ⟨gw, hgw⟩ : ∃ gw, Hid (gw = w3.heap.size) := ⟨_, rfl⟩
    have hgwl : w3.heap.size ≤ gw := by rw [hgw.out]; exact Nat.le_refl _
    rw [← hgw.out] at HS0 D
    clear hR2 hR3 hown3 hbin3 hN hgA hbA hb3 HO2 HO3 HB2 HB3 HCOPY
    go_upto_region 6 with fail
    rw [← hgw.out]
    generalize w3.alloc (.cells #[.slice (some ⟨gb, 0, none⟩) n cb, .int .i64 0, .int .i64 0] 35) = wA at HS0 HO4 ⊢
    have dgi : g ≠ gi ∧ kk ≠ gi ∧ gw ≠ gi ∧ gb ≠ gi ∧ w.heap.size ≤ gi := by omega
    have hsp : (some ⟨gb, 0, none⟩ : Option Addr) = none ∧ cb = 0 ∨ ∃ b o, (some ⟨gb, 0, none⟩ : Option Addr) = some ⟨b, o, none⟩ := .inr ⟨gb, 0, rfl⟩
    have hpw : ∀ a, (some ⟨gb, 0, none⟩ : Option Addr) = some a → a.block ≠ gw := fun a ha => (D.out.pb a ha).2
    obtain ⟨p, hp⟩ : ∃ p, Hid (p = (some ⟨gb, 0, none⟩ : Option Addr)) := ⟨_, rfl⟩
    rw [← hp.out] at HS0 D hsp hpw
    have dpi : ∀ a, p = some a → a.block ≠ gi := fun a ha => by rw [hp.out] at ha; cases ha; exact dgi.2.2.2.1
    have hgn : n ≤ 4096 := by omega
    clear hgi hs1 hs2 hs3 hg2 hk2 hgl2 hkl2 hgb hgwl hgw hp HP
    go_wp2_with fail
    go_loopw [31] (fun i wr => ∃ k : Nat, k ≤ n ∧ i = .int .i64 (k : Int) ∧ (∃ zs, Own w.heap.size wr (.slice (some ⟨gi, 0, none⟩) n ci) n zs) ∧ PSt w g kk gw n cb p xs 0 0 0 0 wr) (fun i _ => n - (intOf i).toNat)
    case atStart => exact ⟨0, Nat.zero_le _, rfl, ⟨_, HO4.out⟩, HS0.out⟩
    case round =>
      clear HO4 HS0
      obtain ⟨k, hk, rfl, ⟨zs, hO⟩, hS⟩ := hrel
      by_cases hkn : k < n
      · have kI : (k : Int) < (n : Int) := by omega
        have hlz : k < zs.length := by rw [hO.len]; exact hkn
        have hcell := hO.cellAt k hkn
        have hfz := hO.frozenAt k
        have HO := hid (hO.stored k (bits .xor .u8 (zs[k]'hlz) 255))
        have HS := hid (hS.stepO D.out (gb_setCell (gb_of (some gi) (Below.refl wr.heap.size wr)) k (.int .u8 (bits .xor .u8 (zs[k]'hlz) 255))) dgi.2.2.2.2 dgi.1 dgi.2.1 dgi.2.2.1 dpi)
        clear hO hS
        go_wp2_with fail
        go_roundw
        case rel => exact ⟨k + 1, by omega, by go_num, ⟨_, HO.out⟩, HS.out⟩
        case measure => simp [intOf]; omega
      · obtain rfl : k = n := by omega
        have kI : ¬ (k : Int) < (k : Int) := by omega
        have HS := hid hS
        clear hO hS
        go_wp2_with fail
        obtain ⟨W0, hW0⟩ : ∃ W0, W0 = wr := ⟨_, rfl⟩
        go_loopw [43] (fun i wr => ∃ (j at0 : Nat) (f : Int), j ≤ len ∧ i = .int .i64 (j : Int) ∧ PSt w g kk gw k cb p xs at0 f at0 f wr) (fun i _ => len - (intOf i).toNat)
        case atStart => exact ⟨0, 0, 0, Nat.zero_le _, rfl, HS.out⟩
        case round =>
          clear HS
          obtain ⟨j, at0, f, hj, rfl, hS⟩ := hrel
          have HS := hid hS
          clear hS
          by_cases hjl : j < len
          · have jI : (j : Int) < (len : Int) := by omega
            obtain ⟨b, o, rfl, hbl, hcol⟩ := HR.out.at hjl (Nat.succ_pos _)
            have hc0 : wr.cell? ⟨b, o + j * 2, none⟩ = some (.int .i64 (F0 j)) := (HS.out.bel.cell (p := ⟨b, o + j * 2, none⟩) hbl).trans (hcol 0 _ rfl)
            have hc1 : wr.cell? ⟨b, o + j * 2 + 1, none⟩ = some (.int .i64 (F1 j)) := (HS.out.bel.cell (p := ⟨b, o + j * 2 + 1, none⟩) hbl).trans (hcol 1 _ rfl)
            have hwf := (HF.out.2 j hjl)
            generalize F0 j = K at hc0
            generalize F1 j = M at hc1 hwf
            clear hcol
            have hat : at0 ≤ k := by rw [← HL.out]; exact HS.out.pr.le
            by_cases h1 : K = 1
            · subst h1
              have HN := hid (prNum_of g kk at0 f xs wr HS.out.pr)
              have HRN := hid (fun (wa : World) (h1 : Rdr wa gw (.slice p k cb) at0 f) (h2 : Bin wa p xs) => refRNum_of gw p k cb at0 f xs wa h1 h2 ho HL.out hat (by omega) hcb hsp)
              obtain ⟨⟨t0, t1, t2⟩, hT⟩ : ∃ T, Hid (T = rdNum xs at0 f) := ⟨_, rfl⟩
              rw [← hT.out] at HN HRN
              clear hT
              go_wp2_with fail
              refine HN.out.mono ?_
              rintro e wa ⟨rfl, hRa, hga⟩
              have HSa : Hid (PSt w g kk gw k cb p xs t1 t2 at0 f wa) := hid (HS.out.step1 D.out hga hRa)
              clear hRa hga HS HN
              go_wp2_with fail
              refine (HRN.out wa HSa.out.rd HSa.out.bin).mono ?_
              rintro e wb ⟨rfl, hRb, hgb⟩
              have HS : Hid (PSt w g kk gw k cb p xs t1 t2 t1 t2 wb) := hid (HSa.out.step2 D.out hgb hRb)
              clear hRb hgb HSa HRN
              have HD := hid (prDone_of g kk t1 t2 xs wb HS.out.pr)
              go_wp2_with fail
              refine HD.out.mono ?_
              rintro e wd ⟨rfl, hRd, hgd⟩
              have HS2 := hid (HS.out.step1 D.out hgd hRd)
              clear hRd hgd HS HD
              rw [HL.out]
              go_wp2_with fail
              refine (refDone_of gw p k cb t1 t2 wd HS2.out.rd).mono ?_
              rintro e we ⟨rfl, hbe⟩
              have HS3 := hid (HS2.out.step0 D.out hbe)
              clear hbe HS2
              go_wp2_with fail
              go_roundw
              case rel => exact ⟨j + 1, t1, t2, by omega, by go_num, HS3.out⟩
              case measure => simp [intOf]; omega
            · by_cases h2 : K = 2
              · subst h2
                have HN := hid (prByte_of g kk at0 f xs wr HS.out.pr)
                have HRN := hid (fun (wa : World) (h1 : Rdr wa gw (.slice p k cb) at0 f) (h2 : Bin wa p xs) => refByte_of gw p k cb at0 f xs wa h1 h2 ho HL.out hat (by omega) hpw)
                obtain ⟨⟨t0, t1, t2⟩, hT⟩ : ∃ T, Hid (T = rdByte xs at0 f) := ⟨_, rfl⟩
                rw [← hT.out] at HN HRN
                clear hT h1
                go_wp2_with fail
                refine HN.out.mono ?_
                rintro e wa ⟨rfl, hRa, hga⟩
                have HSa : Hid (PSt w g kk gw k cb p xs t1 t2 at0 f wa) := hid (HS.out.step1 D.out hga hRa)
                clear hRa hga HS HN
                go_wp2_with fail
                refine (HRN.out wa HSa.out.rd HSa.out.bin).mono ?_
                rintro e wb ⟨rfl, hRb, hgb⟩
                have HS : Hid (PSt w g kk gw k cb p xs t1 t2 t1 t2 wb) := hid (HSa.out.step2 D.out hgb hRb)
                clear hRb hgb HSa HRN
                have HD := hid (prDone_of g kk t1 t2 xs wb HS.out.pr)
                go_wp2_with fail
                refine HD.out.mono ?_
                rintro e wd ⟨rfl, hRd, hgd⟩
                have HS2 := hid (HS.out.step1 D.out hgd hRd)
                clear hRd hgd HS HD
                rw [HL.out]
                go_wp2_with fail
                refine (refDone_of gw p k cb t1 t2 wd HS2.out.rd).mono ?_
                rintro e we ⟨rfl, hbe⟩
                have HS3 := hid (HS2.out.step0 D.out hbe)
                clear hbe HS2
                go_wp2_with fail
                go_roundw
                case rel => exact ⟨j + 1, t1, t2, by omega, by go_num, HS3.out⟩
                case measure => simp [intOf]; omega
              · by_cases h3 : K = 3
                · subst h3
                  have HN := hid (prText_of g kk at0 f M xs wr HS.out.pr hwf)
                  have HRN := hid (fun (wa : World) (h1 : Rdr wa gw (.slice p k cb) at0 f) (h2 : Bin wa p xs) => refRText_of gw p k cb at0 f M xs wa h1 h2 ho HL.out hat (by omega) hcb hsp hpw hwf)
                  have HYO := hid (rdText_oct ho M at0 f)
                  obtain ⟨⟨Y, t1, t2⟩, hT⟩ : ∃ T, Hid (T = rdText xs M at0 f) := ⟨_, rfl⟩
                  rw [← hT.out] at HN HRN HYO
                  obtain ⟨l, hl⟩ : ∃ l, Hid (l = Y.length) := ⟨_, rfl⟩
                  clear hT h1 h2
                  go_wp2_with fail
                  refine HN.out.mono ?_
                  rintro e wa ⟨v, rfl, hv, hRa, hga⟩
                  have HV := hid (show Own wr.heap.size wa v l Y from by rw [hl.out]; exact hv)
                  have HSa : Hid (PSt w g kk gw k cb p xs t1 t2 at0 f wa) := hid (HS.out.step1 D.out hga hRa)
                  have hc1a := (hga.cell_far ⟨b, o + j * 2 + 1, none⟩ (World.block_lt_of_cell? wr _ hc1) (fun e => by have := D.out.bg; have := Option.some.inj e; simp only at this; omega)).trans hc1
                  have hgwr : gw < wr.heap.size := World.block_lt_of_cell? wr _ HS.out.rd.c0
                  have dr : w.heap.size ≤ wr.heap.size ∧ g < wr.heap.size ∧ kk < wr.heap.size := ⟨HS.out.bel.size, HS.out.pr.lg, HS.out.pr.lk⟩
                  have hpb : ∀ a, p = some a → a.block < wr.heap.size := HS.out.pl
                  obtain ⟨pv, cv, rfl, _, _⟩ := HV.out.bin
                  clear hv hRa hga HS HN hc0 hc1
                  go_wp2_with fail
                  refine (HRN.out wa HSa.out.rd HSa.out.bin).mono ?_
                  rintro e wb ⟨v2, rfl, hv2, hRb, hgb⟩
                  rw [← hl.out] at hv2
                  obtain ⟨p2, c2, rfl, _, hvb2⟩ := hv2.bin
                  have HSb : Hid (PSt w g kk gw k cb p xs t1 t2 t1 t2 wb) := hid (HSa.out.step2 D.out hgb hRb)
                  have HVb := hid (HV.out.aside_lt hgb hgwr)
                  have hsame := refSame_len pv p2 cv c2 l l Y Y wb hl.out.symm hl.out.symm (by obtain ⟨_, _, e, _, h⟩ := HVb.out.bin; cases e; exact h) hvb2 HYO.out HYO.out
                  rw [sameB_iff.2 rfl] at hsame
                  have hll : l ≤ 9223372036854775807 := by
                    have h0 := HVb.out.len
                    rcases HVb.out.shape with ⟨_, h⟩ | ⟨_, _, _, _, _⟩
                    · omega
                    · have := HVb.out.2
                      rcases this with h | ⟨_, _, _, e, _, _, h5, h6, _⟩
                      · have := h.2; omega
                      · unfold maxLen at h6; omega
                  clear hv2 hRb hgb HSa HRN hvb2 HV hc1a
                  go_wp2_with fail
                  refine hsame.mono ?_
                  rintro e wc ⟨rfl, rfl⟩
                  clear hsame
                  go_wp2_with fail
                  go_loopw [83] (fun i wx => ∃ q : Nat, q ≤ l ∧ i = .int .i64 (q : Int) ∧ (∃ ys, Own wr.heap.size wx (.slice pv l cv) l ys) ∧ PSt w g kk gw k cb p xs t1 t2 t1 t2 wx) (fun i _ => l - (intOf i).toNat)
                  case atStart => exact ⟨0, Nat.zero_le _, rfl, ⟨_, HVb.out⟩, HSb.out⟩
                  case round =>
                    clear HVb HSb
                    obtain ⟨q, hq, rfl, ⟨ys, hO⟩, hS⟩ := hrel
                    by_cases hql : q < l
                    · have qI : (q : Int) < (l : Int) := by omega
                      rcases hO.shape with ⟨_, h0⟩ | ⟨gt, cap, e, hgt, hcap⟩
                      · omega
                      cases e
                      have hcell := hO.cellAt q hql
                      have hfz := hO.frozenAt q
                      have HO := hid (hO.stored q 7)
                      have HS := hid (hS.stepO D.out (gb_setCell (gb_of (some gt) (Below.refl _ _)) q (.int .u8 7)) (by omega) (by omega) (by omega) (by omega) (fun a ha => by have := hpb a ha; omega))
                      clear hO hS
                      go_wp2_with fail
                      go_roundw
                      case rel => exact ⟨q + 1, by omega, by go_num, ⟨_, HO.out⟩, HS.out⟩
                      case measure => simp [intOf]; omega
                    · obtain rfl : q = l := by omega
                      have qI : ¬ (q : Int) < (q : Int) := by omega
                      have HS := hid hS
                      clear hO hS
                      have HD := hid (prDone_of g kk t1 t2 xs _ HS.out.pr)
                      go_wp2_with fail
                      refine HD.out.mono ?_
                      rintro e wd ⟨rfl, hRd, hgd⟩
                      have HS2 := hid (HS.out.step1 D.out hgd hRd)
                      clear hRd hgd HS HD
                      rw [HL.out]
                      go_wp2_with fail
                      refine (refDone_of gw p k cb t1 t2 wd HS2.out.rd).mono ?_
                      rintro e we ⟨rfl, hbe⟩
                      have HS3 := hid (HS2.out.step0 D.out hbe)
                      clear hbe HS2
                      go_wp2_with fail
                      go_roundw
                      case rel => exact ⟨j + 1, t1, t2, by omega, by go_num, HS3.out⟩
                      case measure => simp [intOf]; omega
                · by_cases h4 : K = 4
                  · subst h4
                    clear h1 h2 h3 hwf
                    obtain ⟨dd, hdd⟩ : ∃ dd, Hid (dd = k - at0) := ⟨_, rfl⟩
                    have j1 : (k : Int) - (at0 : Int) = (dd : Int) := by have := hdd.out; omega
                    have hdl : dd ≤ 4096 := by have := hdd.out; omega
                    have j2 : IntKind.i64.wrap (dd : Int) = (dd : Int) := by simp [IntKind.wrap, IntKind.signed, IntKind.bits]; omega
                    go_upto_region 33 with fail
                    have hS0 : PSt w g kk gw k cb p xs at0 f at0 f wr.drew := HS.out.step0 D.out (Below.refl _ _).drew
                    clear HS
                    refine wp_region_z (fun v => PSt w g kk gw k cb p xs at0 f at0 f v) 9 (by kernel_rfl) hS0 (fun hS => ?_)
                    clear hS0
                    generalize World.drew _ = w9 at hS ⊢
                    refine wpAnyZ_take (i := 0) (v := .pointer (some ⟨g, 0, none⟩)) rfl (by kernel_rfl) (by kernel_rfl) (by kernel_rfl) (by kernel_rfl) (fun _ _ _ h => h) hS (Or.inl ⟨by kernel_rfl, fun w hS => (by clear hS; go_simp)⟩) ?_
                    simp only [Act.put, List.setIfInBounds_toArray, List.set_cons_zero, List.set_cons_succ]
                    refine wpAnyZ_take (i := 2) (v := .pointer (some ⟨gw, 0, none⟩)) rfl (by kernel_rfl) (by kernel_rfl) (by kernel_rfl) (by kernel_rfl) (fun _ _ _ h => h) hS (Or.inl ⟨by kernel_rfl, fun w hS => (by clear hS; go_simp)⟩) ?_
                    simp only [Act.put, List.setIfInBounds_toArray, List.set_cons_zero, List.set_cons_succ]
                    refine wpAnyZ_take (i := 3) (v := .slice p k cb) rfl (by kernel_rfl) (by kernel_rfl) (by kernel_rfl) (by kernel_rfl) (fun _ _ _ h => h) hS (Or.inl ⟨by kernel_rfl, fun w hS => (by have hc := hS.rd.c0; clear hS; go_simp)⟩) ?_
                    simp only [Act.put, List.setIfInBounds_toArray, List.set_cons_zero, List.set_cons_succ]
                    refine wpAnyZ_take (i := 4) (v := .int .i64 (k : Nat)) rfl (by kernel_rfl) (by kernel_rfl) (by kernel_rfl) (by kernel_rfl) (fun _ _ _ h => h) hS (Or.inl ⟨by kernel_rfl, fun w hS => (by clear hS; go_simp)⟩) ?_
                    simp only [Act.put, List.setIfInBounds_toArray, List.set_cons_zero, List.set_cons_succ]
                    refine wpAnyZ_take (i := 5) (v := .pointer (some ⟨gw, 1, none⟩)) rfl (by kernel_rfl) (by kernel_rfl) (by kernel_rfl) (by kernel_rfl) (fun _ _ _ h => h) hS (Or.inl ⟨by kernel_rfl, fun w hS => (by clear hS; go_simp)⟩) ?_
                    simp only [Act.put, List.setIfInBounds_toArray, List.set_cons_zero, List.set_cons_succ]
                    refine wpAnyZ_take (i := 6) (v := .int .i64 (at0 : Nat)) rfl (by kernel_rfl) (by kernel_rfl) (by kernel_rfl) (by kernel_rfl) (fun _ _ _ h => h) hS (Or.inl ⟨by kernel_rfl, fun w hS => (by have hc := hS.rd.c1; clear hS; go_simp)⟩) ?_
                    simp only [Act.put, List.setIfInBounds_toArray, List.set_cons_zero, List.set_cons_succ]
                    refine wpAnyZ_take (i := 7) (v := .int .i64 (dd : Nat)) rfl (by kernel_rfl) (by kernel_rfl) (by kernel_rfl) (by kernel_rfl) (fun _ _ _ h => h) hS (Or.inl ⟨by kernel_rfl, fun w hS => (by clear hS; go_simp)⟩) ?_
                    simp only [Act.put, List.setIfInBounds_toArray, List.set_cons_zero, List.set_cons_succ]
                    refine wpAnyZ_one (i := 1) (by kernel_rfl) rfl (fun K hK => ?_)
                    go_simp
                    go_at_call 23
                    refine (prLeft_of g kk at0 f xs _ hS.pr).mono ?_
                    rw [HL.out, ← hdd.out]
                    rintro e v8 ⟨rfl, hR8, hg8⟩
                    go_wp2_with fail
                    have hS2 := hS.step1 D.out hg8 hR8
                    refine hK.out _ _ (fun _ => hS2) ?_
                    clear hK K hS hR8 hg8
                    have hS := hS2
                    clear hS2
                    try simp only [Act.put, List.setIfInBounds_toArray, List.set_cons_zero, List.set_cons_succ]
                    refine wpAnyZ_take (i := 8) (v := .bool false) rfl (by kernel_rfl) (by kernel_rfl) (by kernel_rfl) (by kernel_rfl) (fun _ _ _ h => h) hS (Or.inl ⟨by kernel_rfl, fun w hS => (by clear hS; go_simp)⟩) ?_
                    simp only [Act.put, List.setIfInBounds_toArray, List.set_cons_zero, List.set_cons_succ]
                    refine wpAnyZ_done (by kernel_rfl) ?_ _
                    have HS := hid hS
                    clear hS
                    have HD := hid (prDone_of g kk at0 f xs _ HS.out.pr)
                    go_wp2_with fail
                    refine HD.out.mono ?_
                    rintro e wd ⟨rfl, hRd, hgd⟩
                    have HS2 := hid (HS.out.step1 D.out hgd hRd)
                    clear hRd hgd HS HD
                    rw [HL.out]
                    go_wp2_with fail
                    refine (refDone_of gw p k cb at0 f wd HS2.out.rd).mono ?_
                    rintro e we ⟨rfl, hbe⟩
                    have HS3 := hid (HS2.out.step0 D.out hbe)
                    clear hbe HS2
                    go_wp2_with fail
                    go_roundw
                    case rel => exact ⟨j + 1, at0, f, by omega, by go_num, HS3.out⟩
                    case measure => simp [intOf]; omega
                  · clear hwf
                    have HD := hid (prDone_of g kk at0 f xs _ HS.out.pr)
                    go_wp2_with fail
                    refine HD.out.mono ?_
                    rintro e wd ⟨rfl, hRd, hgd⟩
                    have HS2 := hid (HS.out.step1 D.out hgd hRd)
                    clear hRd hgd HS HD
                    rw [HL.out]
                    go_wp2_with fail
                    refine (refDone_of gw p k cb at0 f wd HS2.out.rd).mono ?_
                    rintro e we ⟨rfl, hbe⟩
                    have HS3 := hid (HS2.out.step0 D.out hbe)
                    clear hbe HS2
                    go_wp2_with fail
                    go_roundw
                    case rel => exact ⟨j + 1, at0, f, by omega, by go_num, HS3.out⟩
                    case measure => simp [intOf]; omega
          · obtain rfl : j = len := by omega
            have jI : ¬ (j : Int) < (j : Int) := by omega
            go_wp2_with fail
            refine (known7_any _).mono ?_
            rintro e w5 ⟨rfl, hb5⟩
            go_wp2_with fail
            go_ret
            exact ⟨rfl, HS.out.bel.trans (hb5.mono HS.out.bel.size)⟩
end Go.Proofs.Ytphmdjhmgmjmgaa
