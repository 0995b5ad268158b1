/-
  The document's words of a key.
-/
import Derived.Test.YtgnhbfjngdgibaaKf
import Derived.Test.YtgnhbfjngdgibaaKe
import Derived.Test.YtgnhbfjngdgibaaKa
namespace Go.Proofs.Ytgnhbfjngdgibaa
open Go.RowKit
set_option linter.unusedVariables false
set_option linter.unusedSimpArgs false

/-- The first n of F. -/
def fl (F : Nat → Nat) (n : Nat) : List Int := (List.range n).map fun j => ((F j : Nat) : Int)
theorem fl_length (F : Nat → Nat) (n : Nat) : (fl F n).length = n := by simp [fl]
theorem fl_snoc (F : Nat → Nat) (n : Nat) : fl F (n + 1) = fl F n ++ [((F n : Nat) : Int)] := by simp [fl, List.range_succ]
theorem fl_at (F : Nat → Nat) (n j : Nat) (h : j < n) : (fl F n).getD j 0 = ((F j : Nat) : Int) := by
  simp [fl, List.getD_eq_getElem?_getD, h]
theorem fl_key {k : Nat} {xs : List Int} (hx : Oct xs) (hl : xs.length = 4 * k) : xs = fl (wordB k (nats xs)) (4 * k) := by
  apply List.ext_getElem?
  intro j
  by_cases h : j < 4 * k
  · have e := nats_at hx j
    rw [List.getD_eq_getElem?_getD, List.getElem?_eq_getElem (show j < xs.length by omega)] at e
    rw [List.getElem?_eq_getElem (show j < xs.length by omega)]
    simp only [Option.getD_some] at e
    rw [e]
    simp [fl, h, wordB_key (show (nats xs).length = 4 * k by rw [nats_length, hl]) j h]
  · rw [List.getElem?_eq_none (by omega), List.getElem?_eq_none (by rw [fl_length]; omega)]

theorem Own.at {B n : Nat} {w : World} {v : Value} {F : Nat → Nat} (h : Own B w v n (fl F n)) (hn : 0 < n) :
    ∃ g cap, v = .slice (some ⟨g, 0, none⟩) n cap ∧ B ≤ g ∧ g < w.heap.size ∧ n ≤ cap ∧ (∀ j, j < n → w.cell? ⟨g, j, none⟩ = some (.int .u8 (F j : Nat))) ∧ (∀ j, w.frozen? ⟨g, j, none⟩ = false) := by
  rcases h.shape with ⟨rfl, rfl⟩ | ⟨g, cap, rfl, hB, hc⟩
  · omega
  · have hcell : ∀ j, j < n → w.cell? ⟨g, j, none⟩ = some (.int .u8 (F j : Nat)) := fun j hj => by rw [h.cellAt j hj, fl_at F n j hj]
    exact ⟨g, cap, rfl, hB, World.block_lt_of_cell? w _ (hcell 0 hn), hc, hcell, fun j => h.frozenAt j⟩

theorem refPower2_any (n : Nat) (w : World) (hn : n < 2 ^ 32) :
    Calls Try.prog 75 #[.int .u8 2, .int .u32 n] w fun e w' => e = .returned (.int .u8 (pw 2 n : Nat)) ∧ w = w' := refPower_any 2 n w (by decide) hn

set_option maxHeartbeats 8000000 in
set_option maxRecDepth 100000 in
theorem refWords4_any (p : Option Addr) (cap : Nat) (xs : List Int) (w : World) (hp : Bin w p xs) (hx : Oct xs) (hl : xs.length = 16) :
    Calls Try.prog 60 #[.slice p 16 cap] w fun e w' => ∃ g c, e = .returned (.slice (some ⟨g, 0, none⟩) 176 c) ∧ w.heap.size ≤ g ∧ (∀ i, i < 176 → w'.cell? ⟨g, i, none⟩ = some (.int .u8 (wordB 4 (nats xs) i : Nat))) ∧ Below w.heap.size w w' := by
  obtain ⟨i0, hi, hz0, hz1, hz2⟩ := info_parts Try.infoU8
  have hcp := copy_any p cap xs w hp (by omega)
  rw [hl] at hcp
  obtain ⟨F, hF⟩ : ∃ F, Hid (F = wordB 4 (nats xs)) := ⟨_, rfl⟩
  have oF : ∀ j, F j < 256 := by rw [hF.out]; exact wordB_lt (nats_lt hx)
  have hxs : xs = fl F 16 := by rw [hF.out]; exact fl_key hx hl
  have hstep : ∀ i p, 4 ≤ i → i < 44 → p < 4 → F (4 * i + p) = F (4 * (i - 4) + p) ^^^ chg 4 i (fun q => F (4 * (i - 1) + q)) p := fun i p h1 h2 h3 => by
    rw [hF.out]; exact wordB_step (by rw [nats_length, hl]) (by decide) i p h1 (by omega) h3
  rw [← hF.out]
  have HST := hid hstep
  have HXS := hid hxs
  clear hp hstep hxs hl
  go_enter Try.func60, Try.ntmps60
  go_wp2_with fail
  refine hcp.mono ?_
  rintro e w1 ⟨g0, c0, rfl, hO, hb1⟩
  rw [HXS.out] at hO
  have HO := hid hO
  clear hO hcp
  go_wp2_with fail
  go_loopw [4, 5] (fun v i wr => ∃ m : Nat, m ≤ 40 ∧ i = .int .i64 ((m : Int) + 4) ∧ Own w.heap.size wr v (4 * (4 + m)) (fl F (4 * (4 + m))) ∧ Below w.heap.size w wr) (fun _ i _ => 44 - (intOf i).toNat)
  case atStart => exact ⟨0, by decide, rfl, HO.out, hb1⟩
  case round =>
    clear HO hb1
    obtain ⟨m, hm, rfl, hO, hB⟩ := hrel
    obtain ⟨wo, rfl⟩ : ∃ wo, wo = wr := ⟨_, rfl⟩
    by_cases hlt : m < 40
    · have hc0 : (m : Int) + 4 < 44 := by omega
      have hd0 : decide ((m : Int) + 4 < 44) = true := by simp; omega
      obtain ⟨gw, cw, rfl, hgB, hgl, hgc, hcell, hfz⟩ := hO.at (by omega)
      have HO := hid hO
      have HC := hid hcell
      have hsz := hB.size
      have HB := hid hB
      obtain ⟨A, hA⟩ : ∃ A : Nat → Nat, Hid (A = fun q => F (4 * (m + 3) + q)) := ⟨_, rfl⟩
      have oA : ∀ q, A q < 256 := by rw [hA.out]; exact fun q => oF _
      clear hO hcell hfz hB
      go_wp2_with fail
      go_loopw [6, 7] (fun t i w2 => ∃ p : Nat, p ≤ 4 ∧ i = .int .i64 (p : Int) ∧ Own wo.heap.size w2 t p (fl A p) ∧ Below wo.heap.size wo w2) (fun _ i _ => 4 - (intOf i).toNat)
      case atStart => exact ⟨0, by decide, rfl, Own.nil _ _, Below.refl _ _⟩
      case round =>
        obtain ⟨p, hp, rfl, hOt, hB2⟩ := hrel
        by_cases hlp : p < 4
        · have hcw := (hB2.cell (p := ⟨gw, 4 * (m + 3) + p, none⟩) hgl).trans (HC.out (4 * (m + 3) + p) (by omega))
          rw [show F (4 * (m + 3) + p) = A p from by rw [hA.out]] at hcw
          have HOt := hid hOt
          have hsz2 := hB2.size
          have pI : (p : Int) < 4 := by omega
          have o0 : IntKind.i64.wrap ((m : Int) + 4 - 1) = (m : Int) + 3 := by simp [IntKind.wrap, IntKind.bits, IntKind.signed]; omega
          have o1 : (0 : Int) ≤ 4 * ((m : Int) + 3) + (p : Int) := by omega
          have o2 : 4 * ((m : Int) + 3) + (p : Int) < ((4 * (4 + m) : Nat) : Int) := by omega
          have o3 : (4 * ((m : Int) + 3) + (p : Int)).toNat = 4 * (m + 3) + p := by omega
          clear hOt
          go_wp2_with (at_builtin; refine wpList_append_lies _ rfl (.tmp 29) (.tmp 38) 22 rfl wo.heap.size 5 i0 (.int .u8 0) 1 1 Try.underlying22 hi hz0 hz1 hz2 rfl (by decide) _ p _ rfl (by exact World.ownsRow.alloc HOt.out _) ⟨wr.heap.size, 0, none⟩ 1 1 [.int .u8 (A p : Nat)] rfl rfl (by exact one_new _ _ _) (int_one _) (by decide) (by unfold maxLen; omega) (by omega) (by simp; omega) _ rfl ?_; intro g2 cap2 w3 hown2 hgrow2 _ _)
          have HN := hid (show Own wo.heap.size w3 (.slice (some ⟨g2, 0, none⟩) (p + 1) cap2) (p + 1) (fl A (p + 1)) from by
            rw [fl_snoc]; unfold Own; rw [List.map_append]; exact hown2)
          have hb3 : Below wo.heap.size wo w3 := (hB2.alloc hsz2 _).grown hgrow2 (by simp; omega) (fun q hq => (World.ownsRow.lt HOt.out q hq).1)
          clear hown2 hgrow2
          go_wp2
          go_roundw
          case rel => exact ⟨p + 1, by omega, by go_num, HN.out, hb3⟩
          case measure => simp [intOf]; omega
        · obtain rfl : p = 4 := by omega
          obtain ⟨w2, rfl⟩ : ∃ w2, w2 = wr := ⟨_, rfl⟩
          obtain ⟨h, hcap, rfl, hhB, hhl, hhc, htc, htf⟩ := hOt.at (by decide)
          have HOt := hid hOt
          have HTC := hid htc
          clear hOt htc htf
          rw [show ((4 : Nat) : Int) = (4 : Int) from rfl]
          by_cases hmk : m % 4 = 0
          · have hmk' : ((m : Int) % 4 == 0) = true := by rw [beq_iff_eq]; omega
            have HMK := hid (show (m + 4) % 4 = 0 from by omega)
            obtain ⟨nn, hnn⟩ : ∃ nn, Hid (nn = (m + 4) / 4 - 1) := ⟨_, rfl⟩
            have E := hid (show IntKind.u32.wrap (IntKind.i64.wrap (IntKind.i64.wrap (((m : Int) + 4).tdiv 4) - 1)) = ((nn : Nat) : Int) from by rw [hnn.out, Int.tdiv_eq_ediv_of_nonneg (by omega)]; simp [IntKind.wrap, IntKind.bits, IntKind.signed]; omega)
            clear hmk
            go_wp2_with fail
            generalize ((m : Int) + 4) % 4 = z42
            obtain ⟨U, hU⟩ : ∃ U : Nat → Nat, Hid (U = fun q => sub (A ((q + 1) % 4))) := ⟨_, rfl⟩
            have oU : ∀ q, U q < 256 := by rw [hU.out]; exact fun q => sub_lt (oA _)
            go_loopw [8, 9] (fun u i wr => ∃ p : Nat, p ≤ 4 ∧ i = .int .i64 (p : Int) ∧ Own w2.heap.size wr u p (fl U p) ∧ Below w2.heap.size w2 wr) (fun _ i _ => 4 - (intOf i).toNat)
            case atStart => exact ⟨0, by decide, rfl, Own.nil _ _, Below.refl _ _⟩
            case round =>
              obtain ⟨p, hp, rfl, hOu, hB3⟩ := hrel
              by_cases hlp : p < 4
              · obtain ⟨r, hr4, hr⟩ : ∃ r, r < 4 ∧ Hid (r = (p + 1) % 4) := ⟨_, Nat.mod_lt _ (by decide), rfl⟩
                have hct := (hB3.cell (p := ⟨h, r, none⟩) hhl).trans (HTC.out r hr4)
                have e2 : ((p : Int) + 1).tmod 4 = (r : Int) := by rw [Int.tmod_eq_emod_of_nonneg (by omega), hr.out]; omega
                have e3 : ((p : Int) + 1) % 4 = (r : Int) := by rw [hr.out]; omega
                have rI : (r : Int) < 4 := by omega
                have hUr : sub (A r) = U p := by rw [hU.out, hr.out]
                have HUr := hid hUr
                have HOu := hid hOu
                have hsz3 := hB3.size
                clear hOu hUr
                go_wp2_with fail
                refine (refSub_any (A r) _ (oA r)).mono ?_
                rintro e w' ⟨rfl, rfl⟩
                rw [HUr.out]
                go_wp2_with (at_builtin; refine wpList_append_lies _ rfl (.tmp 48) (.tmp 56) 22 rfl w2.heap.size 5 i0 (.int .u8 0) 1 1 Try.underlying22 hi hz0 hz1 hz2 rfl (by decide) _ p _ rfl (by exact World.ownsRow.alloc HOu.out _) ⟨wr.heap.size, 0, none⟩ 1 1 [.int .u8 (U p : Nat)] rfl rfl (by exact one_new _ _ _) (int_one _) (by decide) (by unfold maxLen; omega) (by omega) (by simp; omega) _ rfl ?_; intro g3 cap3 w4 hown3 hgrow3 _ _)
                have HN := hid (show Own w2.heap.size w4 (.slice (some ⟨g3, 0, none⟩) (p + 1) cap3) (p + 1) (fl U (p + 1)) from by
                  rw [fl_snoc]; unfold Own; rw [List.map_append]; exact hown3)
                have hb4 : Below w2.heap.size w2 w4 := (hB3.alloc hsz3 _).grown hgrow3 (by simp; omega) (fun q hq => (World.ownsRow.lt HOu.out q hq).1)
                clear hown3 hgrow3
                go_wp2
                go_roundw
                case rel => exact ⟨p + 1, by omega, by go_num, HN.out, hb4⟩
                case measure => simp [intOf]; omega
              · obtain rfl : p = 4 := by omega
                obtain ⟨w3, rfl⟩ : ∃ w3, w3 = wr := ⟨_, rfl⟩
                obtain ⟨hu, ucap, rfl, huB, hul, huc, uc, uf⟩ := hOu.at (by decide)
                have u0 := uc 0 (by decide)
                have f0 := uf 0
                have HUC := hid uc
                have HUF := hid uf
                clear hOu uc uf
                rw [show ((4 : Nat) : Int) = (4 : Int) from rfl]
                go_wp2_with fail
                change w3.drew.cell? _ = _ at u0
                change w3.drew.frozen? _ = _ at f0
                have hn : nn < 2 ^ 32 := by have := hnn.out; omega
                go_region_law (first | (go_simp; go_at_call 75; rw [E.out]; with_reducible refine (refPower2_any nn _ hn).mono ?_; rintro e w' ⟨rfl, rfl⟩))
                all_goals
                  obtain ⟨T, hTd⟩ : ∃ T, Hid (T = chg 4 (m + 4) A) := ⟨_, rfl⟩
                  have oT : ∀ q, T q < 256 := by rw [hTd.out]; exact chg_lt oA
                  have hX := xor_nat (oU 0) (pw_lt (a := 2) (by decide) nn)
                  rw [hX]
                  have hTU : ∀ q, q < 4 → T q = if q = 0 then U 0 ^^^ pw 2 nn else U q := by
                    rw [hTd.out, hU.out]
                    exact four (by unfold chg; rw [if_pos HMK.out, hnn.out]; rfl) (by unfold chg; rw [if_pos HMK.out]; simp) (by unfold chg; rw [if_pos HMK.out]; simp) (by unfold chg; rw [if_pos HMK.out]; simp)
                  have hT : ∀ q, q < 4 → ((w3.setCell ⟨hu, 0, none⟩ (.int .u8 (U 0 ^^^ pw 2 nn : Nat))).drew).cell? ⟨hu, q, none⟩ = some (.int .u8 (T q : Nat)) := fun q hq => by
                    have hA3 : Arr w3 hu 4 U := fun j hj => ⟨HUC.out j hj, HUF.out j⟩
                    rw [hTU q hq]
                    exact ((hA3.set 0 _ (by decide)).drew q hq).1
                  have hb3' : Below wo.heap.size wo ((w3.setCell ⟨hu, 0, none⟩ (.int .u8 (U 0 ^^^ pw 2 nn : Nat))).drew) := ((hB2.trans (hB3.mono (by omega))).setCell (by simp; omega) _).drew
                  have hFs : ∀ q, q < 4 → F (4 * (m + 4) + q) = F (4 * m + q) ^^^ T q := fun q hq => by
                    have e := HST.out (m + 4) q (by omega) (by omega) hq
                    rw [show m + 4 - 4 = m from by omega, show m + 4 - 1 = m + 3 from by omega, ← hA.out] at e
                    rw [e, hTd.out]
                  have hOw := HO.out.below hb3'
                  have hne : ∀ g n c, Value.slice (some ⟨gw, 0, none⟩) (4 * (4 + m)) cw = .slice (some ⟨g, 0, none⟩) n c → hu ≠ g := fun g n c e => by injection e with e1 _ _; injection e1 with e2; injection e2 with e3 _ _; omega
                  have hBw := HB.out.trans (hb3'.mono hsz)
                  clear HTC HC HO HB HOt hTd hB2 hB3 hb3' hTU hX HUC HUF u0 f0
                  generalize (w3.setCell ⟨hu, 0, none⟩ (.int .u8 (U 0 ^^^ pw 2 nn : Nat))).drew = w4 at hT hOw hBw ⊢
                  go_wp2_with fail
                  try generalize IntKind.i64.wrap (IntKind.i64.wrap (((m : Int) + 4).tdiv 4) - 1) = z65
                  try generalize IntKind.i64.wrap (((m : Int) + 4).tdiv 4) = z64
                  try generalize ((m : Int) + 4).tdiv 4 = z63
                  try generalize ((U 0 ^^^ pw 2 nn : Nat) : Int) = z68
                  have HT := hid hT
                  have HOw := hid hOw
                  clear hT hOw
                  go_loopw [4, 11] (fun v i w5 => ∃ p : Nat, p ≤ 4 ∧ i = .int .i64 (p : Int) ∧ Own w.heap.size w5 v (4 * (4 + m) + p) (fl F (4 * (4 + m) + p)) ∧ (∀ q, q < 4 → w5.cell? ⟨hu, q, none⟩ = some (.int .u8 (T q : Nat))) ∧ (∀ g n c, v = .slice (some ⟨g, 0, none⟩) n c → hu ≠ g) ∧ Below w.heap.size w w5) (fun _ i _ => 4 - (intOf i).toNat)
                  case atStart => exact ⟨0, by decide, rfl, HOw.out, HT.out, hne, hBw⟩
                  case round =>
                    clear HT HOw hne hBw
                    obtain ⟨p, hp, rfl, hOw, hT, hne, hBw⟩ := hrel
                    by_cases hlp : p < 4
                    · obtain ⟨g, gc, rfl, hgB, hgl, hgc, hcell, hfz⟩ := hOw.at (by omega)
                      have hhg := hne g _ _ rfl
                      have c1 := hT p hlp
                      have c2 := hcell (4 * m + p) (by omega)
                      have hhl : hu < wr.heap.size := World.block_lt_of_cell? wr _ c1
                      have HOw := hid hOw
                      have HT := hid hT
                      have pI : (p : Int) < 4 := by omega
                      have o0 : IntKind.i64.wrap ((m : Int) + 4 - 4) = (m : Int) := by simp [IntKind.wrap, IntKind.bits, IntKind.signed]; omega
                      have o1 : (0 : Int) ≤ 4 * (m : Int) + (p : Int) := by omega
                      have o2 : 4 * (m : Int) + (p : Int) < 4 * (4 + (m : Int)) + (p : Int) := by omega
                      have o3 : (4 * (m : Int) + (p : Int)).toNat = 4 * m + p := by omega
                      have o4 : IntKind.i64.wrap (m : Int) = (m : Int) := by simp [IntKind.wrap, IntKind.bits, IntKind.signed]; omega
                      have o5 : IntKind.i64.wrap (4 * (m : Int)) = 4 * (m : Int) := by simp [IntKind.wrap, IntKind.bits, IntKind.signed]; omega
                      have o6 : IntKind.i64.wrap (4 * (m : Int) + (p : Int)) = 4 * (m : Int) + (p : Int) := by simp [IntKind.wrap, IntKind.bits, IntKind.signed]; omega
                      have hsz := hBw.size
                      have HX := hid (xor_nat (oT p) (oF (4 * m + p)))
                      have HF := hid (hFs p hlp)
                      clear hOw hT hcell hfz hne
                      go_wp2
                      go_region_law (refine step_append_lies _ rfl (.tmp 94) (.tmp 109) 22 rfl w.heap.size 5 i0 (.int .u8 0) 1 1 Try.underlying22 hi hz0 hz1 hz2 rfl (by decide) (.slice (some ⟨g, 0, none⟩) (4 * (4 + m) + p) gc) (4 * (4 + m) + p) _ (by simp [Act.eval]) (by exact World.ownsRow.alloc HOw.out _) ⟨wr.heap.size, 0, none⟩ 1 1 [.int .u8 (bits .xor .u8 (T p : Nat) (F (4 * m + p) : Nat))] rfl rfl (by exact one_new _ _ _) (int_one _) (by decide) (by unfold maxLen; omega) (by omega) (by simp; omega) _ rfl ?_; intro g2 cap2 w6 hown2 hgrow2 hat2 _)
                      all_goals
                        have hFp : F (4 * (4 + m) + p) = T p ^^^ F (4 * m + p) := by rw [show 4 * (4 + m) + p = 4 * (m + 4) + p from by omega, HF.out, Nat.xor_comm]
                        have HN := hid (show Own w.heap.size w6 (.slice (some ⟨g2, 0, none⟩) (4 * (4 + m) + p + 1) cap2) (4 * (4 + m) + p + 1) (fl F (4 * (4 + m) + p + 1)) from by
                          rw [fl_snoc, hFp, ← HX.out]; unfold Own; rw [List.map_append]; exact hown2)
                        have hb6 : Below w.heap.size w w6 := (hBw.drew.alloc (by simp; omega) _).grown hgrow2 (by simp; omega) (fun q hq => (World.ownsRow.lt HOw.out q hq).1)
                        have hT6 : ∀ q, q < 4 → w6.cell? ⟨hu, q, none⟩ = some (.int .u8 (T q : Nat)) := fun q hq => by
                          refine (hgrow2.cell_far ⟨hu, q, none⟩ (by simp; omega) (fun e => hhg (Option.some.inj e))).trans ?_
                          exact (World.cell?_alloc_past _ _ _ hhl).trans (HT.out q hq)
                        have hne6 : ∀ g n c, Value.slice (some ⟨g2, 0, none⟩) (4 * (4 + m) + p + 1) cap2 = .slice (some ⟨g, 0, none⟩) n c → hu ≠ g := fun g' n c e => by
                          injection e with e1 _ _; injection e1 with e2; injection e2 with e3 _ _
                          rcases hat2 with ha | ha
                          · have e6 : g = g2 := Option.some.inj ha
                            omega
                          · have e5 : g2 = wr.heap.size + 1 := by simpa using ha
                            omega
                        clear hown2 hgrow2 hat2
                        go_wp2
                        go_roundw
                        case rel => exact ⟨p + 1, by omega, by go_num, HN.out, hT6, hne6, hb6⟩
                        case measure => simp [intOf]; omega
                    · obtain rfl : p = 4 := by omega
                      have HOw := hid hOw
                      clear hOw hT hne
                      go_wp2_with fail
                      go_roundw
                      case rel => exact ⟨m + 1, by omega, by go_num, by rw [show 4 * (4 + (m + 1)) = 4 * (4 + m) + 4 from by omega]; exact HOw.out, hBw⟩
                      case measure => simp [intOf]; omega
          · have hmk' : ((m : Int) % 4 == 0) = false := by rw [beq_eq_false_iff_ne]; omega
            have HT := hid (show ∀ q, q < 4 → chg 4 (m + 4) A q = A q from fun q hq => by unfold chg; rw [if_neg (by omega), if_neg (by omega)])
            clear hmk
            go_wp2_with fail
            generalize ((m : Int) + 4) % 4 = z42
            obtain ⟨T, hTd⟩ : ∃ T, Hid (T = A) := ⟨_, rfl⟩
            have oT : ∀ q, T q < 256 := by rw [hTd.out]; exact oA
            have hT : ∀ q, q < 4 → w2.cell? ⟨h, q, none⟩ = some (.int .u8 (T q : Nat)) := by rw [hTd.out]; exact HTC.out
            have hFs : ∀ q, q < 4 → F (4 * (m + 4) + q) = F (4 * m + q) ^^^ T q := fun q hq => by
              have e := HST.out (m + 4) q (by omega) (by omega) hq
              rw [show m + 4 - 4 = m from by omega, show m + 4 - 1 = m + 3 from by omega, ← hA.out, HT.out q hq] at e
              rw [e, hTd.out]
            have hOw := HO.out.below hB2
            have hne : ∀ g n c, Value.slice (some ⟨gw, 0, none⟩) (4 * (4 + m)) cw = .slice (some ⟨g, 0, none⟩) n c → h ≠ g := fun g n c e => by injection e with e1 _ _; injection e1 with e2; injection e2 with e3 _ _; omega
            have hBw := HB.out.trans (hB2.mono hsz)
            clear HT HTC HC HO HB HOt hTd hB2
            have HT := hid hT
            have HOw := hid hOw
            clear hT hOw
            go_loopw [4, 11] (fun v i w5 => ∃ p : Nat, p ≤ 4 ∧ i = .int .i64 (p : Int) ∧ Own w.heap.size w5 v (4 * (4 + m) + p) (fl F (4 * (4 + m) + p)) ∧ (∀ q, q < 4 → w5.cell? ⟨h, q, none⟩ = some (.int .u8 (T q : Nat))) ∧ (∀ g n c, v = .slice (some ⟨g, 0, none⟩) n c → h ≠ g) ∧ Below w.heap.size w w5) (fun _ i _ => 4 - (intOf i).toNat)
            case atStart => exact ⟨0, by decide, rfl, HOw.out, HT.out, hne, hBw⟩
            case round =>
              clear HT HOw hne hBw
              obtain ⟨p, hp, rfl, hOw, hT, hne, hBw⟩ := hrel
              by_cases hlp : p < 4
              · obtain ⟨g, gc, rfl, hgB, hgl, hgc, hcell, hfz⟩ := hOw.at (by omega)
                have hhg := hne g _ _ rfl
                have c1 := hT p hlp
                have c2 := hcell (4 * m + p) (by omega)
                have hhl : h < wr.heap.size := World.block_lt_of_cell? wr _ c1
                have HOw := hid hOw
                have HT := hid hT
                have pI : (p : Int) < 4 := by omega
                have o0 : IntKind.i64.wrap ((m : Int) + 4 - 4) = (m : Int) := by simp [IntKind.wrap, IntKind.bits, IntKind.signed]; omega
                have o1 : (0 : Int) ≤ 4 * (m : Int) + (p : Int) := by omega
                have o2 : 4 * (m : Int) + (p : Int) < 4 * (4 + (m : Int)) + (p : Int) := by omega
                have o3 : (4 * (m : Int) + (p : Int)).toNat = 4 * m + p := by omega
                have o4 : IntKind.i64.wrap (m : Int) = (m : Int) := by simp [IntKind.wrap, IntKind.bits, IntKind.signed]; omega
                have o5 : IntKind.i64.wrap (4 * (m : Int)) = 4 * (m : Int) := by simp [IntKind.wrap, IntKind.bits, IntKind.signed]; omega
                have o6 : IntKind.i64.wrap (4 * (m : Int) + (p : Int)) = 4 * (m : Int) + (p : Int) := by simp [IntKind.wrap, IntKind.bits, IntKind.signed]; omega
                have hsz := hBw.size
                have HX := hid (xor_nat (oT p) (oF (4 * m + p)))
                have HF := hid (hFs p hlp)
                clear hOw hT hcell hfz hne
                go_wp2
                go_region_law (refine step_append_lies _ rfl (.tmp 94) (.tmp 109) 22 rfl w.heap.size 5 i0 (.int .u8 0) 1 1 Try.underlying22 hi hz0 hz1 hz2 rfl (by decide) (.slice (some ⟨g, 0, none⟩) (4 * (4 + m) + p) gc) (4 * (4 + m) + p) _ (by simp [Act.eval]) (by exact World.ownsRow.alloc HOw.out _) ⟨wr.heap.size, 0, none⟩ 1 1 [.int .u8 (bits .xor .u8 (T p : Nat) (F (4 * m + p) : Nat))] rfl rfl (by exact one_new _ _ _) (int_one _) (by decide) (by unfold maxLen; omega) (by omega) (by simp; omega) _ rfl ?_; intro g2 cap2 w6 hown2 hgrow2 hat2 _)
                all_goals
                  have hFp : F (4 * (4 + m) + p) = T p ^^^ F (4 * m + p) := by rw [show 4 * (4 + m) + p = 4 * (m + 4) + p from by omega, HF.out, Nat.xor_comm]
                  have HN := hid (show Own w.heap.size w6 (.slice (some ⟨g2, 0, none⟩) (4 * (4 + m) + p + 1) cap2) (4 * (4 + m) + p + 1) (fl F (4 * (4 + m) + p + 1)) from by
                    rw [fl_snoc, hFp, ← HX.out]; unfold Own; rw [List.map_append]; exact hown2)
                  have hb6 : Below w.heap.size w w6 := (hBw.drew.alloc (by simp; omega) _).grown hgrow2 (by simp; omega) (fun q hq => (World.ownsRow.lt HOw.out q hq).1)
                  have hT6 : ∀ q, q < 4 → w6.cell? ⟨h, q, none⟩ = some (.int .u8 (T q : Nat)) := fun q hq => by
                    refine (hgrow2.cell_far ⟨h, q, none⟩ (by simp; omega) (fun e => hhg (Option.some.inj e))).trans ?_
                    exact (World.cell?_alloc_past _ _ _ hhl).trans (HT.out q hq)
                  have hne6 : ∀ g n c, Value.slice (some ⟨g2, 0, none⟩) (4 * (4 + m) + p + 1) cap2 = .slice (some ⟨g, 0, none⟩) n c → h ≠ g := fun g' n c e => by
                    injection e with e1 _ _; injection e1 with e2; injection e2 with e3 _ _
                    rcases hat2 with ha | ha
                    · have e6 : g = g2 := Option.some.inj ha
                      omega
                    · have e5 : g2 = wr.heap.size + 1 := by simpa using ha
                      omega
                  clear hown2 hgrow2 hat2
                  go_wp2
                  go_roundw
                  case rel => exact ⟨p + 1, by omega, by go_num, HN.out, hT6, hne6, hb6⟩
                  case measure => simp [intOf]; omega
              · obtain rfl : p = 4 := by omega
                have HOw := hid hOw
                clear hOw hT hne
                go_wp2_with fail
                go_roundw
                case rel => exact ⟨m + 1, by omega, by go_num, by rw [show 4 * (4 + (m + 1)) = 4 * (4 + m) + 4 from by omega]; exact HOw.out, hBw⟩
                case measure => simp [intOf]; omega
    · obtain rfl : m = 40 := by omega
      obtain ⟨g, gc, rfl, hgB, hgl, hgc, hcell, hfz⟩ := hO.at (by decide)
      have HC := hid hcell
      clear hO hcell hfz
      go_wp2_with fail
      go_ret
      exact ⟨g, gc, rfl, hgB, HC.out, hB⟩

set_option maxHeartbeats 8000000 in
set_option maxRecDepth 100000 in
theorem refWords8_any (p : Option Addr) (cap : Nat) (xs : List Int) (w : World) (hp : Bin w p xs) (hx : Oct xs) (hl : xs.length = 32) :
    Calls Try.prog 60 #[.slice p 32 cap] w fun e w' => ∃ g c, e = .returned (.slice (some ⟨g, 0, none⟩) 240 c) ∧ w.heap.size ≤ g ∧ (∀ i, i < 240 → w'.cell? ⟨g, i, none⟩ = some (.int .u8 (wordB 8 (nats xs) i : Nat))) ∧ Below w.heap.size w w' := by
  obtain ⟨i0, hi, hz0, hz1, hz2⟩ := info_parts Try.infoU8
  have hcp := copy_any p cap xs w hp (by omega)
  rw [hl] at hcp
  obtain ⟨F, hF⟩ : ∃ F, Hid (F = wordB 8 (nats xs)) := ⟨_, rfl⟩
  have oF : ∀ j, F j < 256 := by rw [hF.out]; exact wordB_lt (nats_lt hx)
  have hxs : xs = fl F 32 := by rw [hF.out]; exact fl_key hx hl
  have hstep : ∀ i p, 8 ≤ i → i < 60 → p < 4 → F (4 * i + p) = F (4 * (i - 8) + p) ^^^ chg 8 i (fun q => F (4 * (i - 1) + q)) p := fun i p h1 h2 h3 => by
    rw [hF.out]; exact wordB_step (by rw [nats_length, hl]) (by decide) i p h1 (by omega) h3
  rw [← hF.out]
  have HST := hid hstep
  have HXS := hid hxs
  clear hp hstep hxs hl
  go_enter Try.func60, Try.ntmps60
  go_wp2_with fail
  refine hcp.mono ?_
  rintro e w1 ⟨g0, c0, rfl, hO, hb1⟩
  rw [HXS.out] at hO
  have HO := hid hO
  clear hO hcp
  go_wp2_with fail
  go_loopw [4, 5] (fun v i wr => ∃ m : Nat, m ≤ 52 ∧ i = .int .i64 ((m : Int) + 8) ∧ Own w.heap.size wr v (4 * (8 + m)) (fl F (4 * (8 + m))) ∧ Below w.heap.size w wr) (fun _ i _ => 60 - (intOf i).toNat)
  case atStart => exact ⟨0, by decide, rfl, HO.out, hb1⟩
  case round =>
    clear HO hb1
    obtain ⟨m, hm, rfl, hO, hB⟩ := hrel
    obtain ⟨wo, rfl⟩ : ∃ wo, wo = wr := ⟨_, rfl⟩
    by_cases hlt : m < 52
    · have hc0 : (m : Int) + 8 < 60 := by omega
      have hd0 : decide ((m : Int) + 8 < 60) = true := by simp; omega
      obtain ⟨gw, cw, rfl, hgB, hgl, hgc, hcell, hfz⟩ := hO.at (by omega)
      have HO := hid hO
      have HC := hid hcell
      have hsz := hB.size
      have HB := hid hB
      obtain ⟨A, hA⟩ : ∃ A : Nat → Nat, Hid (A = fun q => F (4 * (m + 7) + q)) := ⟨_, rfl⟩
      have oA : ∀ q, A q < 256 := by rw [hA.out]; exact fun q => oF _
      clear hO hcell hfz hB
      go_wp2_with fail
      go_loopw [6, 7] (fun t i w2 => ∃ p : Nat, p ≤ 4 ∧ i = .int .i64 (p : Int) ∧ Own wo.heap.size w2 t p (fl A p) ∧ Below wo.heap.size wo w2) (fun _ i _ => 4 - (intOf i).toNat)
      case atStart => exact ⟨0, by decide, rfl, Own.nil _ _, Below.refl _ _⟩
      case round =>
        obtain ⟨p, hp, rfl, hOt, hB2⟩ := hrel
        by_cases hlp : p < 4
        · have hcw := (hB2.cell (p := ⟨gw, 4 * (m + 7) + p, none⟩) hgl).trans (HC.out (4 * (m + 7) + p) (by omega))
          rw [show F (4 * (m + 7) + p) = A p from by rw [hA.out]] at hcw
          have HOt := hid hOt
          have hsz2 := hB2.size
          have pI : (p : Int) < 4 := by omega
          have o0 : IntKind.i64.wrap ((m : Int) + 8 - 1) = (m : Int) + 7 := by simp [IntKind.wrap, IntKind.bits, IntKind.signed]; omega
          have o1 : (0 : Int) ≤ 4 * ((m : Int) + 7) + (p : Int) := by omega
          have o2 : 4 * ((m : Int) + 7) + (p : Int) < ((4 * (8 + m) : Nat) : Int) := by omega
          have o3 : (4 * ((m : Int) + 7) + (p : Int)).toNat = 4 * (m + 7) + p := by omega
          clear hOt
          go_wp2_with (at_builtin; refine wpList_append_lies _ rfl (.tmp 29) (.tmp 38) 22 rfl wo.heap.size 5 i0 (.int .u8 0) 1 1 Try.underlying22 hi hz0 hz1 hz2 rfl (by decide) _ p _ rfl (by exact World.ownsRow.alloc HOt.out _) ⟨wr.heap.size, 0, none⟩ 1 1 [.int .u8 (A p : Nat)] rfl rfl (by exact one_new _ _ _) (int_one _) (by decide) (by unfold maxLen; omega) (by omega) (by simp; omega) _ rfl ?_; intro g2 cap2 w3 hown2 hgrow2 _ _)
          have HN := hid (show Own wo.heap.size w3 (.slice (some ⟨g2, 0, none⟩) (p + 1) cap2) (p + 1) (fl A (p + 1)) from by
            rw [fl_snoc]; unfold Own; rw [List.map_append]; exact hown2)
          have hb3 : Below wo.heap.size wo w3 := (hB2.alloc hsz2 _).grown hgrow2 (by simp; omega) (fun q hq => (World.ownsRow.lt HOt.out q hq).1)
          clear hown2 hgrow2
          go_wp2
          go_roundw
          case rel => exact ⟨p + 1, by omega, by go_num, HN.out, hb3⟩
          case measure => simp [intOf]; omega
        · obtain rfl : p = 4 := by omega
          obtain ⟨w2, rfl⟩ : ∃ w2, w2 = wr := ⟨_, rfl⟩
          obtain ⟨h, hcap, rfl, hhB, hhl, hhc, htc, htf⟩ := hOt.at (by decide)
          have HOt := hid hOt
          have HTC := hid htc
          have HTF := hid htf
          clear hOt htc htf
          rw [show ((4 : Nat) : Int) = (4 : Int) from rfl]
          by_cases hmk : m % 8 = 0
          · have hmk' : ((m : Int) % 8 == 0) = true := by rw [beq_iff_eq]; omega
            have HMK := hid (show (m + 8) % 8 = 0 from by omega)
            obtain ⟨nn, hnn⟩ : ∃ nn, Hid (nn = (m + 8) / 8 - 1) := ⟨_, rfl⟩
            have E := hid (show IntKind.u32.wrap (IntKind.i64.wrap (IntKind.i64.wrap (((m : Int) + 8).tdiv 8) - 1)) = ((nn : Nat) : Int) from by rw [hnn.out, Int.tdiv_eq_ediv_of_nonneg (by omega)]; simp [IntKind.wrap, IntKind.bits, IntKind.signed]; omega)
            clear hmk
            go_wp2_with fail
            generalize ((m : Int) + 8) % 8 = z42
            obtain ⟨U, hU⟩ : ∃ U : Nat → Nat, Hid (U = fun q => sub (A ((q + 1) % 4))) := ⟨_, rfl⟩
            have oU : ∀ q, U q < 256 := by rw [hU.out]; exact fun q => sub_lt (oA _)
            go_loopw [8, 9] (fun u i wr => ∃ p : Nat, p ≤ 4 ∧ i = .int .i64 (p : Int) ∧ Own w2.heap.size wr u p (fl U p) ∧ Below w2.heap.size w2 wr) (fun _ i _ => 4 - (intOf i).toNat)
            case atStart => exact ⟨0, by decide, rfl, Own.nil _ _, Below.refl _ _⟩
            case round =>
              obtain ⟨p, hp, rfl, hOu, hB3⟩ := hrel
              by_cases hlp : p < 4
              · obtain ⟨r, hr4, hr⟩ : ∃ r, r < 4 ∧ Hid (r = (p + 1) % 4) := ⟨_, Nat.mod_lt _ (by decide), rfl⟩
                have hct := (hB3.cell (p := ⟨h, r, none⟩) hhl).trans (HTC.out r hr4)
                have e2 : ((p : Int) + 1).tmod 4 = (r : Int) := by rw [Int.tmod_eq_emod_of_nonneg (by omega), hr.out]; omega
                have e3 : ((p : Int) + 1) % 4 = (r : Int) := by rw [hr.out]; omega
                have rI : (r : Int) < 4 := by omega
                have hUr : sub (A r) = U p := by rw [hU.out, hr.out]
                have HUr := hid hUr
                have HOu := hid hOu
                have hsz3 := hB3.size
                clear hOu hUr
                go_wp2_with fail
                refine (refSub_any (A r) _ (oA r)).mono ?_
                rintro e w' ⟨rfl, rfl⟩
                rw [HUr.out]
                go_wp2_with (at_builtin; refine wpList_append_lies _ rfl (.tmp 48) (.tmp 56) 22 rfl w2.heap.size 5 i0 (.int .u8 0) 1 1 Try.underlying22 hi hz0 hz1 hz2 rfl (by decide) _ p _ rfl (by exact World.ownsRow.alloc HOu.out _) ⟨wr.heap.size, 0, none⟩ 1 1 [.int .u8 (U p : Nat)] rfl rfl (by exact one_new _ _ _) (int_one _) (by decide) (by unfold maxLen; omega) (by omega) (by simp; omega) _ rfl ?_; intro g3 cap3 w4 hown3 hgrow3 _ _)
                have HN := hid (show Own w2.heap.size w4 (.slice (some ⟨g3, 0, none⟩) (p + 1) cap3) (p + 1) (fl U (p + 1)) from by
                  rw [fl_snoc]; unfold Own; rw [List.map_append]; exact hown3)
                have hb4 : Below w2.heap.size w2 w4 := (hB3.alloc hsz3 _).grown hgrow3 (by simp; omega) (fun q hq => (World.ownsRow.lt HOu.out q hq).1)
                clear hown3 hgrow3
                go_wp2
                go_roundw
                case rel => exact ⟨p + 1, by omega, by go_num, HN.out, hb4⟩
                case measure => simp [intOf]; omega
              · obtain rfl : p = 4 := by omega
                obtain ⟨w3, rfl⟩ : ∃ w3, w3 = wr := ⟨_, rfl⟩
                obtain ⟨hu, ucap, rfl, huB, hul, huc, uc, uf⟩ := hOu.at (by decide)
                have u0 := uc 0 (by decide)
                have f0 := uf 0
                have HUC := hid uc
                have HUF := hid uf
                clear hOu uc uf
                rw [show ((4 : Nat) : Int) = (4 : Int) from rfl]
                go_wp2_with fail
                change w3.drew.cell? _ = _ at u0
                change w3.drew.frozen? _ = _ at f0
                have hn : nn < 2 ^ 32 := by have := hnn.out; omega
                go_region_law (first | (go_simp; go_at_call 75; rw [E.out]; with_reducible refine (refPower2_any nn _ hn).mono ?_; rintro e w' ⟨rfl, rfl⟩))
                all_goals
                  obtain ⟨T, hTd⟩ : ∃ T, Hid (T = chg 8 (m + 8) A) := ⟨_, rfl⟩
                  have oT : ∀ q, T q < 256 := by rw [hTd.out]; exact chg_lt oA
                  have hX := xor_nat (oU 0) (pw_lt (a := 2) (by decide) nn)
                  rw [hX]
                  have hTU : ∀ q, q < 4 → T q = if q = 0 then U 0 ^^^ pw 2 nn else U q := by
                    rw [hTd.out, hU.out]
                    exact four (by unfold chg; rw [if_pos HMK.out, hnn.out]; rfl) (by unfold chg; rw [if_pos HMK.out]; simp) (by unfold chg; rw [if_pos HMK.out]; simp) (by unfold chg; rw [if_pos HMK.out]; simp)
                  have hT : ∀ q, q < 4 → ((w3.setCell ⟨hu, 0, none⟩ (.int .u8 (U 0 ^^^ pw 2 nn : Nat))).drew).cell? ⟨hu, q, none⟩ = some (.int .u8 (T q : Nat)) := fun q hq => by
                    have hA3 : Arr w3 hu 4 U := fun j hj => ⟨HUC.out j hj, HUF.out j⟩
                    rw [hTU q hq]
                    exact ((hA3.set 0 _ (by decide)).drew q hq).1
                  have hb3' : Below wo.heap.size wo ((w3.setCell ⟨hu, 0, none⟩ (.int .u8 (U 0 ^^^ pw 2 nn : Nat))).drew) := ((hB2.trans (hB3.mono (by omega))).setCell (by simp; omega) _).drew
                  have hFs : ∀ q, q < 4 → F (4 * (m + 8) + q) = F (4 * m + q) ^^^ T q := fun q hq => by
                    have e := HST.out (m + 8) q (by omega) (by omega) hq
                    rw [show m + 8 - 8 = m from by omega, show m + 8 - 1 = m + 7 from by omega, ← hA.out] at e
                    rw [e, hTd.out]
                  have hOw := HO.out.below hb3'
                  have hne : ∀ g n c, Value.slice (some ⟨gw, 0, none⟩) (4 * (8 + m)) cw = .slice (some ⟨g, 0, none⟩) n c → hu ≠ g := fun g n c e => by injection e with e1 _ _; injection e1 with e2; injection e2 with e3 _ _; omega
                  have hBw := HB.out.trans (hb3'.mono hsz)
                  clear HTC HC HO HB HOt hTd hB2 hB3 hb3' hTU hX HUC HUF u0 f0
                  generalize (w3.setCell ⟨hu, 0, none⟩ (.int .u8 (U 0 ^^^ pw 2 nn : Nat))).drew = w4 at hT hOw hBw ⊢
                  go_wp2_with fail
                  try generalize IntKind.i64.wrap (IntKind.i64.wrap (((m : Int) + 8).tdiv 8) - 1) = z65
                  try generalize IntKind.i64.wrap (((m : Int) + 8).tdiv 8) = z64
                  try generalize ((m : Int) + 8).tdiv 8 = z63
                  try generalize ((U 0 ^^^ pw 2 nn : Nat) : Int) = z68
                  have HT := hid hT
                  have HOw := hid hOw
                  clear hT hOw
                  go_loopw [4, 11] (fun v i w5 => ∃ p : Nat, p ≤ 4 ∧ i = .int .i64 (p : Int) ∧ Own w.heap.size w5 v (4 * (8 + m) + p) (fl F (4 * (8 + m) + p)) ∧ (∀ q, q < 4 → w5.cell? ⟨hu, q, none⟩ = some (.int .u8 (T q : Nat))) ∧ (∀ g n c, v = .slice (some ⟨g, 0, none⟩) n c → hu ≠ g) ∧ Below w.heap.size w w5) (fun _ i _ => 4 - (intOf i).toNat)
                  case atStart => exact ⟨0, by decide, rfl, HOw.out, HT.out, hne, hBw⟩
                  case round =>
                    clear HT HOw hne hBw
                    obtain ⟨p, hp, rfl, hOw, hT, hne, hBw⟩ := hrel
                    by_cases hlp : p < 4
                    · obtain ⟨g, gc, rfl, hgB, hgl, hgc, hcell, hfz⟩ := hOw.at (by omega)
                      have hhg := hne g _ _ rfl
                      have c1 := hT p hlp
                      have c2 := hcell (4 * m + p) (by omega)
                      have hhl : hu < wr.heap.size := World.block_lt_of_cell? wr _ c1
                      have HOw := hid hOw
                      have HT := hid hT
                      have pI : (p : Int) < 4 := by omega
                      have o0 : IntKind.i64.wrap ((m : Int) + 8 - 8) = (m : Int) := by simp [IntKind.wrap, IntKind.bits, IntKind.signed]; omega
                      have o1 : (0 : Int) ≤ 4 * (m : Int) + (p : Int) := by omega
                      have o2 : 4 * (m : Int) + (p : Int) < 4 * (8 + (m : Int)) + (p : Int) := by omega
                      have o3 : (4 * (m : Int) + (p : Int)).toNat = 4 * m + p := by omega
                      have o4 : IntKind.i64.wrap (m : Int) = (m : Int) := by simp [IntKind.wrap, IntKind.bits, IntKind.signed]; omega
                      have o5 : IntKind.i64.wrap (4 * (m : Int)) = 4 * (m : Int) := by simp [IntKind.wrap, IntKind.bits, IntKind.signed]; omega
                      have o6 : IntKind.i64.wrap (4 * (m : Int) + (p : Int)) = 4 * (m : Int) + (p : Int) := by simp [IntKind.wrap, IntKind.bits, IntKind.signed]; omega
                      have hsz := hBw.size
                      have HX := hid (xor_nat (oT p) (oF (4 * m + p)))
                      have HF := hid (hFs p hlp)
                      clear hOw hT hcell hfz hne
                      go_wp2
                      go_region_law (refine step_append_lies _ rfl (.tmp 94) (.tmp 109) 22 rfl w.heap.size 5 i0 (.int .u8 0) 1 1 Try.underlying22 hi hz0 hz1 hz2 rfl (by decide) (.slice (some ⟨g, 0, none⟩) (4 * (8 + m) + p) gc) (4 * (8 + m) + p) _ (by simp [Act.eval]) (by exact World.ownsRow.alloc HOw.out _) ⟨wr.heap.size, 0, none⟩ 1 1 [.int .u8 (bits .xor .u8 (T p : Nat) (F (4 * m + p) : Nat))] rfl rfl (by exact one_new _ _ _) (int_one _) (by decide) (by unfold maxLen; omega) (by omega) (by simp; omega) _ rfl ?_; intro g2 cap2 w6 hown2 hgrow2 hat2 _)
                      all_goals
                        have hFp : F (4 * (8 + m) + p) = T p ^^^ F (4 * m + p) := by rw [show 4 * (8 + m) + p = 4 * (m + 8) + p from by omega, HF.out, Nat.xor_comm]
                        have HN := hid (show Own w.heap.size w6 (.slice (some ⟨g2, 0, none⟩) (4 * (8 + m) + p + 1) cap2) (4 * (8 + m) + p + 1) (fl F (4 * (8 + m) + p + 1)) from by
                          rw [fl_snoc, hFp, ← HX.out]; unfold Own; rw [List.map_append]; exact hown2)
                        have hb6 : Below w.heap.size w w6 := (hBw.drew.alloc (by simp; omega) _).grown hgrow2 (by simp; omega) (fun q hq => (World.ownsRow.lt HOw.out q hq).1)
                        have hT6 : ∀ q, q < 4 → w6.cell? ⟨hu, q, none⟩ = some (.int .u8 (T q : Nat)) := fun q hq => by
                          refine (hgrow2.cell_far ⟨hu, q, none⟩ (by simp; omega) (fun e => hhg (Option.some.inj e))).trans ?_
                          exact (World.cell?_alloc_past _ _ _ hhl).trans (HT.out q hq)
                        have hne6 : ∀ g n c, Value.slice (some ⟨g2, 0, none⟩) (4 * (8 + m) + p + 1) cap2 = .slice (some ⟨g, 0, none⟩) n c → hu ≠ g := fun g' n c e => by
                          injection e with e1 _ _; injection e1 with e2; injection e2 with e3 _ _
                          rcases hat2 with ha | ha
                          · have e6 : g = g2 := Option.some.inj ha
                            omega
                          · have e5 : g2 = wr.heap.size + 1 := by simpa using ha
                            omega
                        clear hown2 hgrow2 hat2
                        go_wp2
                        go_roundw
                        case rel => exact ⟨p + 1, by omega, by go_num, HN.out, hT6, hne6, hb6⟩
                        case measure => simp [intOf]; omega
                    · obtain rfl : p = 4 := by omega
                      have HOw := hid hOw
                      clear hOw hT hne
                      go_wp2_with fail
                      go_roundw
                      case rel => exact ⟨m + 1, by omega, by go_num, by rw [show 4 * (8 + (m + 1)) = 4 * (8 + m) + 4 from by omega]; exact HOw.out, hBw⟩
                      case measure => simp [intOf]; omega
          · by_cases hm4 : m % 8 = 4
            · have hmk' : ((m : Int) % 8 == 0) = false := by rw [beq_eq_false_iff_ne]; omega
              have hm4' : ((m : Int) % 8 == 4) = true := by rw [beq_iff_eq]; omega
              have HCH := hid (show ∀ q, chg 8 (m + 8) A q = sub (A q) from fun q => by unfold chg; rw [if_neg (by omega), if_pos ⟨rfl, by omega⟩])
              clear hmk hm4
              go_wp2_with fail
              generalize ((m : Int) + 8) % 8 = z42
              go_loopw [10] (fun i wr => ∃ p : Nat, p ≤ 4 ∧ i = .int .i64 (p : Int) ∧ Arr wr h 4 (mixk (fun q => sub (A q)) A p) ∧ Below wo.heap.size wo wr) (fun i _ => 4 - (intOf i).toNat)
              case atStart => exact ⟨0, by decide, rfl, fun j hj => by rw [mixk_zero]; exact ⟨HTC.out j hj, HTF.out j⟩, hB2⟩
              case round =>
                obtain ⟨p, hp, rfl, hA4, hB3⟩ := hrel
                by_cases hlp : p < 4
                · obtain ⟨hc1, hf1⟩ := hA4 p hlp
                  rw [mixk_at _ _ _ _ (Nat.le_refl _)] at hc1
                  have HS := hid (hA4.set p (sub (A p)) hlp)
                  have pI : (p : Int) < 4 := by omega
                  clear hA4
                  go_wp2_with fail
                  refine (refSub_any (A p) _ (oA p)).mono ?_
                  rintro e w' ⟨rfl, rfl⟩
                  go_wp2_with fail
                  go_roundw
                  case rel => exact ⟨p + 1, by omega, by go_num, HS.out.same fun j _ => mixk_step (fun q => sub (A q)) A p j, hB3.setCell hhB _⟩
                  case measure => simp [intOf]; omega
                · obtain rfl : p = 4 := by omega
                  obtain ⟨w3, rfl⟩ : ∃ w3, w3 = wr := ⟨_, rfl⟩
                  rw [show ((4 : Nat) : Int) = (4 : Int) from rfl]
                  obtain ⟨T, hTd⟩ : ∃ T : Nat → Nat, Hid (T = fun q => sub (A q)) := ⟨_, rfl⟩
                  have oT : ∀ q, T q < 256 := by rw [hTd.out]; exact fun q => sub_lt (oA q)
                  have hT : ∀ q, q < 4 → w3.cell? ⟨h, q, none⟩ = some (.int .u8 (T q : Nat)) := fun q hq => by
                    rw [hTd.out, (hA4 q hq).1, mixk_full _ _ 4 q hq]
                  have hFs : ∀ q, q < 4 → F (4 * (m + 8) + q) = F (4 * m + q) ^^^ T q := fun q hq => by
                    have e := HST.out (m + 8) q (by omega) (by omega) hq
                    rw [show m + 8 - 8 = m from by omega, show m + 8 - 1 = m + 7 from by omega, ← hA.out, HCH.out q] at e
                    rw [e, hTd.out]
                  have hOw := HO.out.below hB3
                  have hne : ∀ g n c, Value.slice (some ⟨gw, 0, none⟩) (4 * (8 + m)) cw = .slice (some ⟨g, 0, none⟩) n c → h ≠ g := fun g n c e => by injection e with e1 _ _; injection e1 with e2; injection e2 with e3 _ _; omega
                  have hBw := HB.out.trans (hB3.mono hsz)
                  clear HTC HTF HC HO HB HOt hTd hB2 hB3 hA4 HCH
                  go_wp2_with fail
                  have HT := hid hT
                  have HOw := hid hOw
                  clear hT hOw
                  go_loopw [4, 11] (fun v i w5 => ∃ p : Nat, p ≤ 4 ∧ i = .int .i64 (p : Int) ∧ Own w.heap.size w5 v (4 * (8 + m) + p) (fl F (4 * (8 + m) + p)) ∧ (∀ q, q < 4 → w5.cell? ⟨h, q, none⟩ = some (.int .u8 (T q : Nat))) ∧ (∀ g n c, v = .slice (some ⟨g, 0, none⟩) n c → h ≠ g) ∧ Below w.heap.size w w5) (fun _ i _ => 4 - (intOf i).toNat)
                  case atStart => exact ⟨0, by decide, rfl, HOw.out, HT.out, hne, hBw⟩
                  case round =>
                    clear HT HOw hne hBw
                    obtain ⟨p, hp, rfl, hOw, hT, hne, hBw⟩ := hrel
                    by_cases hlp : p < 4
                    · obtain ⟨g, gc, rfl, hgB, hgl, hgc, hcell, hfz⟩ := hOw.at (by omega)
                      have hhg := hne g _ _ rfl
                      have c1 := hT p hlp
                      have c2 := hcell (4 * m + p) (by omega)
                      have hhl : h < wr.heap.size := World.block_lt_of_cell? wr _ c1
                      have HOw := hid hOw
                      have HT := hid hT
                      have pI : (p : Int) < 4 := by omega
                      have o0 : IntKind.i64.wrap ((m : Int) + 8 - 8) = (m : Int) := by simp [IntKind.wrap, IntKind.bits, IntKind.signed]; omega
                      have o1 : (0 : Int) ≤ 4 * (m : Int) + (p : Int) := by omega
                      have o2 : 4 * (m : Int) + (p : Int) < 4 * (8 + (m : Int)) + (p : Int) := by omega
                      have o3 : (4 * (m : Int) + (p : Int)).toNat = 4 * m + p := by omega
                      have o4 : IntKind.i64.wrap (m : Int) = (m : Int) := by simp [IntKind.wrap, IntKind.bits, IntKind.signed]; omega
                      have o5 : IntKind.i64.wrap (4 * (m : Int)) = 4 * (m : Int) := by simp [IntKind.wrap, IntKind.bits, IntKind.signed]; omega
                      have o6 : IntKind.i64.wrap (4 * (m : Int) + (p : Int)) = 4 * (m : Int) + (p : Int) := by simp [IntKind.wrap, IntKind.bits, IntKind.signed]; omega
                      have hsz := hBw.size
                      have HX := hid (xor_nat (oT p) (oF (4 * m + p)))
                      have HF := hid (hFs p hlp)
                      clear hOw hT hcell hfz hne
                      go_wp2
                      go_region_law (refine step_append_lies _ rfl (.tmp 94) (.tmp 109) 22 rfl w.heap.size 5 i0 (.int .u8 0) 1 1 Try.underlying22 hi hz0 hz1 hz2 rfl (by decide) (.slice (some ⟨g, 0, none⟩) (4 * (8 + m) + p) gc) (4 * (8 + m) + p) _ (by simp [Act.eval]) (by exact World.ownsRow.alloc HOw.out _) ⟨wr.heap.size, 0, none⟩ 1 1 [.int .u8 (bits .xor .u8 (T p : Nat) (F (4 * m + p) : Nat))] rfl rfl (by exact one_new _ _ _) (int_one _) (by decide) (by unfold maxLen; omega) (by omega) (by simp; omega) _ rfl ?_; intro g2 cap2 w6 hown2 hgrow2 hat2 _)
                      all_goals
                        have hFp : F (4 * (8 + m) + p) = T p ^^^ F (4 * m + p) := by rw [show 4 * (8 + m) + p = 4 * (m + 8) + p from by omega, HF.out, Nat.xor_comm]
                        have HN := hid (show Own w.heap.size w6 (.slice (some ⟨g2, 0, none⟩) (4 * (8 + m) + p + 1) cap2) (4 * (8 + m) + p + 1) (fl F (4 * (8 + m) + p + 1)) from by
                          rw [fl_snoc, hFp, ← HX.out]; unfold Own; rw [List.map_append]; exact hown2)
                        have hb6 : Below w.heap.size w w6 := (hBw.drew.alloc (by simp; omega) _).grown hgrow2 (by simp; omega) (fun q hq => (World.ownsRow.lt HOw.out q hq).1)
                        have hT6 : ∀ q, q < 4 → w6.cell? ⟨h, q, none⟩ = some (.int .u8 (T q : Nat)) := fun q hq => by
                          refine (hgrow2.cell_far ⟨h, q, none⟩ (by simp; omega) (fun e => hhg (Option.some.inj e))).trans ?_
                          exact (World.cell?_alloc_past _ _ _ hhl).trans (HT.out q hq)
                        have hne6 : ∀ g n c, Value.slice (some ⟨g2, 0, none⟩) (4 * (8 + m) + p + 1) cap2 = .slice (some ⟨g, 0, none⟩) n c → h ≠ g := fun g' n c e => by
                          injection e with e1 _ _; injection e1 with e2; injection e2 with e3 _ _
                          rcases hat2 with ha | ha
                          · have e6 : g = g2 := Option.some.inj ha
                            omega
                          · have e5 : g2 = wr.heap.size + 1 := by simpa using ha
                            omega
                        clear hown2 hgrow2 hat2
                        go_wp2
                        go_roundw
                        case rel => exact ⟨p + 1, by omega, by go_num, HN.out, hT6, hne6, hb6⟩
                        case measure => simp [intOf]; omega
                    · obtain rfl : p = 4 := by omega
                      have HOw := hid hOw
                      clear hOw hT hne
                      go_wp2_with fail
                      go_roundw
                      case rel => exact ⟨m + 1, by omega, by go_num, by rw [show 4 * (8 + (m + 1)) = 4 * (8 + m) + 4 from by omega]; exact HOw.out, hBw⟩
                      case measure => simp [intOf]; omega
            · have hm4' : ((m : Int) % 8 == 4) = false := by rw [beq_eq_false_iff_ne]; omega
              have hmk' : ((m : Int) % 8 == 0) = false := by rw [beq_eq_false_iff_ne]; omega
              have HT := hid (show ∀ q, q < 4 → chg 8 (m + 8) A q = A q from fun q hq => by unfold chg; rw [if_neg (by omega), if_neg (by omega)])
              clear hmk hm4
              go_wp2_with fail
              generalize ((m : Int) + 8) % 8 = z42
              obtain ⟨T, hTd⟩ : ∃ T, Hid (T = A) := ⟨_, rfl⟩
              have oT : ∀ q, T q < 256 := by rw [hTd.out]; exact oA
              have hT : ∀ q, q < 4 → w2.cell? ⟨h, q, none⟩ = some (.int .u8 (T q : Nat)) := by rw [hTd.out]; exact HTC.out
              have hFs : ∀ q, q < 4 → F (4 * (m + 8) + q) = F (4 * m + q) ^^^ T q := fun q hq => by
                have e := HST.out (m + 8) q (by omega) (by omega) hq
                rw [show m + 8 - 8 = m from by omega, show m + 8 - 1 = m + 7 from by omega, ← hA.out, HT.out q hq] at e
                rw [e, hTd.out]
              have hOw := HO.out.below hB2
              have hne : ∀ g n c, Value.slice (some ⟨gw, 0, none⟩) (4 * (8 + m)) cw = .slice (some ⟨g, 0, none⟩) n c → h ≠ g := fun g n c e => by injection e with e1 _ _; injection e1 with e2; injection e2 with e3 _ _; omega
              have hBw := HB.out.trans (hB2.mono hsz)
              clear HT HTC HTF HC HO HB HOt hTd hB2
              have HT := hid hT
              have HOw := hid hOw
              clear hT hOw
              go_loopw [4, 11] (fun v i w5 => ∃ p : Nat, p ≤ 4 ∧ i = .int .i64 (p : Int) ∧ Own w.heap.size w5 v (4 * (8 + m) + p) (fl F (4 * (8 + m) + p)) ∧ (∀ q, q < 4 → w5.cell? ⟨h, q, none⟩ = some (.int .u8 (T q : Nat))) ∧ (∀ g n c, v = .slice (some ⟨g, 0, none⟩) n c → h ≠ g) ∧ Below w.heap.size w w5) (fun _ i _ => 4 - (intOf i).toNat)
              case atStart => exact ⟨0, by decide, rfl, HOw.out, HT.out, hne, hBw⟩
              case round =>
                clear HT HOw hne hBw
                obtain ⟨p, hp, rfl, hOw, hT, hne, hBw⟩ := hrel
                by_cases hlp : p < 4
                · obtain ⟨g, gc, rfl, hgB, hgl, hgc, hcell, hfz⟩ := hOw.at (by omega)
                  have hhg := hne g _ _ rfl
                  have c1 := hT p hlp
                  have c2 := hcell (4 * m + p) (by omega)
                  have hhl : h < wr.heap.size := World.block_lt_of_cell? wr _ c1
                  have HOw := hid hOw
                  have HT := hid hT
                  have pI : (p : Int) < 4 := by omega
                  have o0 : IntKind.i64.wrap ((m : Int) + 8 - 8) = (m : Int) := by simp [IntKind.wrap, IntKind.bits, IntKind.signed]; omega
                  have o1 : (0 : Int) ≤ 4 * (m : Int) + (p : Int) := by omega
                  have o2 : 4 * (m : Int) + (p : Int) < 4 * (8 + (m : Int)) + (p : Int) := by omega
                  have o3 : (4 * (m : Int) + (p : Int)).toNat = 4 * m + p := by omega
                  have o4 : IntKind.i64.wrap (m : Int) = (m : Int) := by simp [IntKind.wrap, IntKind.bits, IntKind.signed]; omega
                  have o5 : IntKind.i64.wrap (4 * (m : Int)) = 4 * (m : Int) := by simp [IntKind.wrap, IntKind.bits, IntKind.signed]; omega
                  have o6 : IntKind.i64.wrap (4 * (m : Int) + (p : Int)) = 4 * (m : Int) + (p : Int) := by simp [IntKind.wrap, IntKind.bits, IntKind.signed]; omega
                  have hsz := hBw.size
                  have HX := hid (xor_nat (oT p) (oF (4 * m + p)))
                  have HF := hid (hFs p hlp)
                  clear hOw hT hcell hfz hne
                  go_wp2
                  go_region_law (refine step_append_lies _ rfl (.tmp 94) (.tmp 109) 22 rfl w.heap.size 5 i0 (.int .u8 0) 1 1 Try.underlying22 hi hz0 hz1 hz2 rfl (by decide) (.slice (some ⟨g, 0, none⟩) (4 * (8 + m) + p) gc) (4 * (8 + m) + p) _ (by simp [Act.eval]) (by exact World.ownsRow.alloc HOw.out _) ⟨wr.heap.size, 0, none⟩ 1 1 [.int .u8 (bits .xor .u8 (T p : Nat) (F (4 * m + p) : Nat))] rfl rfl (by exact one_new _ _ _) (int_one _) (by decide) (by unfold maxLen; omega) (by omega) (by simp; omega) _ rfl ?_; intro g2 cap2 w6 hown2 hgrow2 hat2 _)
                  all_goals
                    have hFp : F (4 * (8 + m) + p) = T p ^^^ F (4 * m + p) := by rw [show 4 * (8 + m) + p = 4 * (m + 8) + p from by omega, HF.out, Nat.xor_comm]
                    have HN := hid (show Own w.heap.size w6 (.slice (some ⟨g2, 0, none⟩) (4 * (8 + m) + p + 1) cap2) (4 * (8 + m) + p + 1) (fl F (4 * (8 + m) + p + 1)) from by
                      rw [fl_snoc, hFp, ← HX.out]; unfold Own; rw [List.map_append]; exact hown2)
                    have hb6 : Below w.heap.size w w6 := (hBw.drew.alloc (by simp; omega) _).grown hgrow2 (by simp; omega) (fun q hq => (World.ownsRow.lt HOw.out q hq).1)
                    have hT6 : ∀ q, q < 4 → w6.cell? ⟨h, q, none⟩ = some (.int .u8 (T q : Nat)) := fun q hq => by
                      refine (hgrow2.cell_far ⟨h, q, none⟩ (by simp; omega) (fun e => hhg (Option.some.inj e))).trans ?_
                      exact (World.cell?_alloc_past _ _ _ hhl).trans (HT.out q hq)
                    have hne6 : ∀ g n c, Value.slice (some ⟨g2, 0, none⟩) (4 * (8 + m) + p + 1) cap2 = .slice (some ⟨g, 0, none⟩) n c → h ≠ g := fun g' n c e => by
                      injection e with e1 _ _; injection e1 with e2; injection e2 with e3 _ _
                      rcases hat2 with ha | ha
                      · have e6 : g = g2 := Option.some.inj ha
                        omega
                      · have e5 : g2 = wr.heap.size + 1 := by simpa using ha
                        omega
                    clear hown2 hgrow2 hat2
                    go_wp2
                    go_roundw
                    case rel => exact ⟨p + 1, by omega, by go_num, HN.out, hT6, hne6, hb6⟩
                    case measure => simp [intOf]; omega
                · obtain rfl : p = 4 := by omega
                  have HOw := hid hOw
                  clear hOw hT hne
                  go_wp2_with fail
                  go_roundw
                  case rel => exact ⟨m + 1, by omega, by go_num, by rw [show 4 * (8 + (m + 1)) = 4 * (8 + m) + 4 from by omega]; exact HOw.out, hBw⟩
                  case measure => simp [intOf]; omega
    · obtain rfl : m = 52 := by omega
      obtain ⟨g, gc, rfl, hgB, hgl, hgc, hcell, hfz⟩ := hO.at (by decide)
      have HC := hid hcell
      clear hO hcell hfz
      go_wp2_with fail
      go_ret
      exact ⟨g, gc, rfl, hgB, HC.out, hB⟩
end Go.Proofs.Ytgnhbfjngdgibaa
