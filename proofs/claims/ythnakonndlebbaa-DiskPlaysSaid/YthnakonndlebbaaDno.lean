/-
  DiskNone's walk.
-/
import Derived.Test.YthnakonndlebbaaDkn
namespace Go.Proofs.Ythnakonndlebbaa
open Go.RowKit
set_option linter.unusedVariables false
set_option linter.unusedSimpArgs false

/-- Five cells at the head of a block. -/
structure Five (w : World) (b : Nat) (v0 v1 v2 v3 v4 : Value) : Prop where
  c0 : w.cell? ⟨b, 0, none⟩ = some v0
  c1 : w.cell? ⟨b, 1, none⟩ = some v1
  c2 : w.cell? ⟨b, 2, none⟩ = some v2
  c3 : w.cell? ⟨b, 3, none⟩ = some v3
  c4 : w.cell? ⟨b, 4, none⟩ = some v4
theorem Five.lt {w : World} {b : Nat} {v0 v1 v2 v3 v4 : Value} (h : Five w b v0 v1 v2 v3 v4) : b < w.heap.size := World.block_lt_of_cell? w _ h.c0
theorem Five.tb {w w' : World} {F : Nat → Prop} {b : Nat} {v0 v1 v2 v3 v4 : Value} (h : Five w b v0 v1 v2 v3 v4) (hb : Tb F w w') (hF : ¬ F b) : Five w' b v0 v1 v2 v3 v4 := by
  have hl := h.lt
  exact ⟨(hb.cell (p := ⟨b, 0, none⟩) hl hF).trans h.c0, (hb.cell (p := ⟨b, 1, none⟩) hl hF).trans h.c1, (hb.cell (p := ⟨b, 2, none⟩) hl hF).trans h.c2, (hb.cell (p := ⟨b, 3, none⟩) hl hF).trans h.c3, (hb.cell (p := ⟨b, 4, none⟩) hl hF).trans h.c4⟩
theorem Five.below {w w' : World} {b : Nat} {v0 v1 v2 v3 v4 : Value} (h : Five w b v0 v1 v2 v3 v4) (hb : Below w.heap.size w w') : Five w' b v0 v1 v2 v3 v4 := h.tb (F := fun _ => False) (Tb.of_below hb) (fun h => h)
theorem five_new (w : World) (v0 v1 v2 v3 v4 : Value) (t : TypeId) : Five (w.alloc (.cells #[v0, v1, v2, v3, v4] t)) w.heap.size v0 v1 v2 v3 v4 := by
  constructor <;> simp

set_option maxHeartbeats 8000000 in
set_option maxRecDepth 100000 in
theorem dnone_law (kd i at0 : Int) (pb : Option Addr) (cb : Nat) (bs : List Int) (pm : Option Addr) (cm : Nat) (ms : List Int) (w : World) (hk : (Lit.int .i64 kd).wf = true) (hi : (Lit.int .i64 i).wf = true) (ha : (Lit.int .i64 at0).wf = true)
    (hbp : Bin w pb bs) (hbo : Oct bs) (hbc : bs.length ≤ cb) (hmp : Bin w pm ms) (hmo : Oct ms) (hmc : ms.length ≤ cm) :
    Calls Try.prog 4 #[.agg #[.int .i64 kd, .int .i64 i, .int .i64 at0, .slice pb bs.length cb, .slice pm ms.length cm]] w fun e w' => e = .returned (.bool true) ∧ Below w.heap.size w w' := by
  clear hk hi ha hbp hbo hbc hmp hmo hmc
  obtain ⟨n1, h1⟩ : ∃ n, Hid (n = bs.length) := ⟨_, rfl⟩
  obtain ⟨n2, h2⟩ : ∃ n, Hid (n = ms.length) := ⟨_, rfl⟩
  rw [← h1.out, ← h2.out]
  clear h1 h2
  obtain ⟨w0, hw0⟩ : ∃ wa, Hid (wa = w.alloc (.cells #[.int .i64 kd, .int .i64 i, .int .i64 at0, .slice pb n1 cb, .slice pm n2 cm] 36)) := ⟨_, rfl⟩
  have HS0 : Hid (Five w0 w.heap.size (.int .i64 kd) (.int .i64 i) (.int .i64 at0) (.slice pb n1 cb) (.slice pm n2 cm)) := hid (by rw [hw0.out]; exact five_new _ _ _ _ _ _ _)
  have HB0 : Hid (Below w.heap.size w w0) := hid (by rw [hw0.out]; exact (Below.refl _ _).alloc (Nat.le_refl _) _)
  obtain ⟨g0, hg0⟩ : ∃ g, Hid (g = w.heap.size) := ⟨_, rfl⟩
  rw [← hg0.out] at HS0
  go_enter Try.func4, Try.ntmps4
  go_upto_region 2 with fail
  rw [← hw0.out, ← hg0.out]
  obtain ⟨c0, c1, c2, c3, c4⟩ := HS0.out
  go_wp2_with fail
  refine (dFail_nil _ i).mono ?_
  rintro e w1 ⟨rfl, hb⟩
  have HS1 := hid (HS0.out.below hb)
  have HB1 := hid (HB0.out.trans (hb.mono HB0.out.size))
  clear hb c0 c1 c2 c3 c4 HS0 HB0
  obtain ⟨c0, c1, c2, c3, c4⟩ := HS1.out
  go_wp2_with fail
  refine (dCut_nil _ i).mono ?_
  rintro e w2 ⟨rfl, hb⟩
  have HS2 := hid (HS1.out.below hb)
  have HB2 := hid (HB1.out.trans (hb.mono HB1.out.size))
  clear hb c0 c1 c2 c3 c4 HS1 HB1
  obtain ⟨c0, c1, c2, c3, c4⟩ := HS2.out
  go_wp2_with fail
  refine (dRead_nil _ i).mono ?_
  rintro e w3 ⟨rfl, hb⟩
  have HS3 := hid (HS2.out.below hb)
  have HB3 := hid (HB2.out.trans (hb.mono HB2.out.size))
  clear hb c0 c1 c2 c3 c4 HS2 HB2
  obtain ⟨c0, c1, c2, c3, c4⟩ := HS3.out
  go_wp2_with fail
  refine (dFirm_nil _ i).mono ?_
  rintro e w4 ⟨rfl, hb⟩
  have HS4 := hid (HS3.out.below hb)
  have HB4 := hid (HB3.out.trans (hb.mono HB3.out.size))
  clear hb c0 c1 c2 c3 c4 HS3 HB3
  obtain ⟨c0, c1, c2, c3, c4⟩ := HS4.out
  go_wp2_with fail
  refine (dBlocks_nil _).mono ?_
  rintro e w5 ⟨rfl, hb⟩
  have HS5 := hid (HS4.out.below hb)
  have HB5 := hid (HB4.out.trans (hb.mono HB4.out.size))
  clear hb c0 c1 c2 c3 c4 HS4 HB4
  obtain ⟨c0, c1, c2, c3, c4⟩ := HS5.out
  go_wp2_with fail
  refine (dSteps_nil _).mono ?_
  rintro e w6 ⟨rfl, hb⟩
  have HS6 := hid (HS5.out.below hb)
  have HB6 := hid (HB5.out.trans (hb.mono HB5.out.size))
  clear hb c0 c1 c2 c3 c4 HS5 HB5
  obtain ⟨c0, c1, c2, c3, c4⟩ := HS6.out
  go_wp2_with fail
  refine (dWaiting_nil _).mono ?_
  rintro e w7 ⟨rfl, hb⟩
  have HS7 := hid (HS6.out.below hb)
  have HB7 := hid (HB6.out.trans (hb.mono HB6.out.size))
  clear hb c0 c1 c2 c3 c4 HS6 HB6
  obtain ⟨c0, c1, c2, c3, c4⟩ := HS7.out
  go_wp2_with fail
  refine (dDown_nil _).mono ?_
  rintro e w8 ⟨rfl, hb⟩
  have HS8 := hid (HS7.out.below hb)
  have HB8 := hid (HB7.out.trans (hb.mono HB7.out.size))
  clear hb c0 c1 c2 c3 c4 HS7 HB7
  obtain ⟨c0, c1, c2, c3, c4⟩ := HS8.out
  go_wp2_with fail
  refine (dFork_nil _).mono ?_
  rintro e w9 ⟨rfl, hb⟩
  have HS9 := hid (HS8.out.below hb)
  have HB9 := hid (HB8.out.trans (hb.mono HB8.out.size))
  clear hb c0 c1 c2 c3 c4 HS8 HB8
  obtain ⟨c0, c1, c2, c3, c4⟩ := HS9.out
  go_wp2_with fail
  refine (dWrite_nil _ i _).mono ?_
  rintro e w10 ⟨rfl, hb⟩
  have HS10 := hid (HS9.out.below hb)
  have HB10 := hid (HB9.out.trans (hb.mono HB9.out.size))
  clear hb c0 c1 c2 c3 c4 HS9 HB9
  obtain ⟨c0, c1, c2, c3, c4⟩ := HS10.out
  go_wp2_with fail
  refine (dSync_nil _).mono ?_
  rintro e w11 ⟨rfl, hb⟩
  have HS11 := hid (HS10.out.below hb)
  have HB11 := hid (HB10.out.trans (hb.mono HB10.out.size))
  clear hb c0 c1 c2 c3 c4 HS10 HB10
  obtain ⟨c0, c1, c2, c3, c4⟩ := HS11.out
  go_wp2_with fail
  refine (dStep_nil _).mono ?_
  rintro e w12 ⟨rfl, hb⟩
  have HS12 := hid (HS11.out.below hb)
  have HB12 := hid (HB11.out.trans (hb.mono HB11.out.size))
  clear hb c0 c1 c2 c3 c4 HS11 HB11
  obtain ⟨c0, c1, c2, c3, c4⟩ := HS12.out
  go_wp2_with fail
  refine (dCrash_nil _ _).mono ?_
  rintro e w13 ⟨rfl, hb⟩
  have HS13 := hid (HS12.out.below hb)
  have HB13 := hid (HB12.out.trans (hb.mono HB12.out.size))
  clear hb c0 c1 c2 c3 c4 HS12 HB12
  obtain ⟨c0, c1, c2, c3, c4⟩ := HS13.out
  go_wp2_with fail
  refine (dForeign_nil _ i at0 _).mono ?_
  rintro e w14 ⟨rfl, hb⟩
  have HS14 := hid (HS13.out.below hb)
  have HB14 := hid (HB13.out.trans (hb.mono HB13.out.size))
  clear hb c0 c1 c2 c3 c4 HS13 HB13
  obtain ⟨c0, c1, c2, c3, c4⟩ := HS14.out
  go_wp2_with fail
  refine (known8_any _).mono ?_
  rintro e w15 ⟨rfl, hb⟩
  have HS15 := hid (HS14.out.below hb)
  have HB15 := hid (HB14.out.trans (hb.mono HB14.out.size))
  clear hb c0 c1 c2 c3 c4 HS14 HB14
  go_wp2_with fail
  go_ret
  exact ⟨rfl, HB15.out⟩
end Go.Proofs.Ythnakonndlebbaa
