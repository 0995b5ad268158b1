/-
  The registers and the device together; known of law09; RegsNone.
-/
import Derived.Test.YtlbhoijjbpjmoaaPrg
import Derived.Test.YtlbhoijjbpjmoaaKa
namespace Go.Proofs.Ytlbhoijjbpjmoaa
open Go.RowKit
set_option linter.unusedVariables false
set_option linter.unusedSimpArgs false

/-- The program's registers and device, from B on; nothing below B was turned since wI. -/
structure Rig (wI : World) (B : Nat) (w : World) (g : Nat) (F : Nat → Prop) (gd : Nat) (Fd : Nat → Prop) (R : Rst) (S : Dst) : Prop where
  r : PRg B w g F gd R
  d : PDk B w gd Fd S
  x : ∀ q, F q → ¬ Fd q
  b : Below B wI w
  s : B ≤ w.heap.size
section
variable {wI w w' : World} {B g gd : Nat} {F Fd : Nat → Prop} {R R' : Rst} {S S' : Dst}
theorem Rig.below (h : Rig wI B w g F gd Fd R S) (hb : Below w.heap.size w w') : Rig wI B w' g F gd Fd R S :=
  ⟨h.r.below hb, h.d.below hb, h.x, h.b.trans (hb.mono h.s), Nat.le_trans h.s hb.size⟩
theorem Rig.step (h : Rig wI B w g F gd Fd R S) (hs : PRstep B w g F gd Fd R' S' w') : ∃ F' Fd', Rig wI B w' g F' gd Fd' R' S' := by
  obtain ⟨F', Fd', h1, h2, h3, h4, _⟩ := hs
  exact ⟨F', Fd', h1, h2, h3, h.b.trans (h4.out h.s fun q hq => hq.elim (fun h5 => (h.r.lt q h5).1) (fun h5 => (h.d.lt q h5).1)), Nat.le_trans h.s h4.size⟩
theorem Rig.dstep (h : Rig wI B w g F gd Fd R S) (hs : Dstep B w gd Fd S' w') : ∃ Fd', Rig wI B w' g F gd Fd' R S' := by
  obtain ⟨Fd', h1, h2, h3⟩ := hs
  refine ⟨Fd', h.r.tb h2 (fun q hq => h.x q hq), h1, fun q hq hd => ?_, h.b.trans (h2.out h.s fun q hq => (h.d.lt q hq).1), Nat.le_trans h.s h2.size⟩
  rcases h3 q hd with h5 | h5
  · exact h.x q hq h5
  · have := (h.r.lt q hq).2; omega
theorem Rig.draw {v : Value} {L : List Int} (h : Rig wI B w g F gd Fd R S) (hs : PRdraw B w g F gd R' v L w') : ∃ F', Rig wI B w' g F' gd Fd R' S ∧ Ort B w' v L.length L ∧ ∀ q, v.ownBlock = some q → ¬ F' q ∧ ¬ Fd q := by
  obtain ⟨F', h1, h2, h3, h4, h5⟩ := hs
  refine ⟨F', ⟨h1, h.d.tb h2 (fun q hq hf => h.x q hf hq), fun q hq hd => ?_, h.b.trans (h2.out h.s fun q hq => (h.r.lt q hq).1), Nat.le_trans h.s h2.size⟩, h4, fun q hq => ⟨(h5 q hq).2, fun hd => ?_⟩⟩
  · rcases h3 q hq with h6 | h6
    · exact h.x q h6 hd
    · have := (h.d.lt q hd).2; omega
  · rcases (h5 q hq).1 with h6 | h6
    · exact h.x q h6 hd
    · have := (h.d.lt q hd).2; omega
end
theorem rig_made {wI wd w w' : World} {g gd : Nat} {F Fd : Nat → Prop} {R : Rst} {S : Dst} (hd : PDk wI.heap.size w gd Fd S) (hb : Below wI.heap.size wI w) (hr : PRg w.heap.size w' g F gd R) (hb2 : Below w.heap.size w w') : Rig wI wI.heap.size w' g F gd Fd R S :=
  ⟨hr.mono hb.size, hd.below hb2, fun q h1 h2 => by have := (hr.lt q h1).1; have := (hd.lt q h2).2; omega, hb.trans (hb2.mono hb.size), Nat.le_trans hb.size hb2.size⟩

/-- One row of three bytes, as it is laid. -/
theorem ins_one (w : World) : Ins ((w.alloc (.cells #[.int .u8 1, .int .u8 2, .int .u8 3] 5)).alloc (.cells #[.slice (some ⟨w.heap.size, 0, none⟩) 3 3] 31)) (some ⟨w.heap.size + 1, 0, none⟩) 1 (fun _ => (some ⟨w.heap.size, 0, none⟩, 3, [1, 2, 3])) := by
  refine ⟨fun _ => ⟨w.heap.size + 1, 0, rfl, fun i hi => ?_⟩, fun i hi => ⟨fun _ => ⟨w.heap.size, 0, rfl, fun j hj => ?_⟩, fun x hx => ?_, Nat.le_refl _, by show 3 ≤ 140737488351232; decide⟩⟩
  · obtain rfl : i = 0 := by omega
    simp
  · have hlt : w.heap.size < (w.alloc (.cells #[.int .u8 1, .int .u8 2, .int .u8 3] 5)).heap.size := by simp
    rw [World.cell?_alloc_past _ _ _ (show (⟨w.heap.size, 0 + j, none⟩ : Addr).block < _ from hlt)]
    have hj' : j < 3 := hj
    rcases (show j = 0 ∨ j = 1 ∨ j = 2 from by omega) with rfl | rfl | rfl <;> simp
  · simp at hx
    rcases hx with rfl | rfl | rfl <;> decide
theorem conv_12 {w : World} {p : Option Addr} (h : Bin w p [1, 2]) (cap : Nat) :
    (convert 31 9 (.slice p 2 cap)).run Try.prog w = .ok (.string { data := #[1, 2] }) w := by
  have := conv_str h cap
  rw [show ([1, 2] : List Int).length = 2 from rfl] at this
  rw [this]
  rfl

set_option maxHeartbeats 8000000 in
set_option maxRecDepth 100000 in
theorem known9_any (w : World) : Calls Try.prog 8 #[] w fun e w' => e = .returned (.bool true) ∧ Below w.heap.size w w' := by
  go_enter Try.func8, Try.ntmps8
  go_wp2_with fail
  refine (dNew_of w 8 (by decide) (by decide)).mono ?_
  rintro e w1 ⟨gd, Fd, rfl, hD, hb1⟩
  have hbx : Below w1.heap.size w1 ((w1.alloc (.cells #[.int .u8 1, .int .u8 2, .int .u8 3] 5)).alloc (.cells #[.slice (some ⟨w1.heap.size, 0, none⟩) 3 3] 31)) := ((Below.refl _ _).alloc (Nat.le_refl _) _).alloc (by simp) _
  have HD := hid (hD.below hbx)
  have HB := hid (hb1.trans (hbx.mono hb1.size))
  have HI := hid (ins_one w1)
  clear hD hb1 hbx
  go_wp2_with fail
  refine (gNew_of gd _ 9 1 1 (some ⟨w1.heap.size + 1, 0, none⟩) (fun _ => (some ⟨w1.heap.size, 0, none⟩, 3, [1, 2, 3])) (by decide) (by decide) HI.out).mono ?_
  rintro e w2 ⟨g, F, rfl, hR, hb2⟩
  have HG := hid (rig_made (wd := w1) HD.out HB.out hR hb2)
  clear hR hb2 HD HB HI
  obtain ⟨R0, hR0⟩ : ∃ R, Hid (R = (⟨9, 0, 0, [[1, 2, 3]]⟩ : Rst)) := ⟨_, rfl⟩
  obtain ⟨S0, hS0⟩ : ∃ S, Hid (S = Dst.new 8) := ⟨_, rfl⟩
  have HG1 : Hid (Rig w w.heap.size w2 g F gd Fd R0 S0) := hid (by rw [hR0.out, hS0.out]; exact HG.out)
  have r1 := gReserve_of _ g gd F Fd R0 S0 w2 HG1.out.r HG1.out.d HG1.out.x (by rw [hS0.out]; decide)
  rw [show R0.resV S0 = 1 from by rw [hR0.out, hS0.out]; decide +kernel, show R0.resE S0 = 0 from by rw [hR0.out, hS0.out]; decide +kernel] at r1
  have HC := hid r1
  clear r1 HG
  go_wp2_with fail
  refine HC.out.mono ?_
  rintro e w3 ⟨rfl, hs⟩
  obtain ⟨F3, Fd3, hg⟩ := HG1.out.step hs
  obtain ⟨R1, hR1⟩ : ∃ R, Hid (R = R0.resR S0) := ⟨_, rfl⟩
  obtain ⟨S1, hS1⟩ : ∃ S, Hid (S = R0.resS S0) := ⟨_, rfl⟩
  rw [← hR1.out, ← hS1.out] at hg
  have HG2 := hid hg
  have e1 : R1 = ⟨9, 1, 0, [[1, 2, 3]]⟩ := by rw [hR1.out, hR0.out, hS0.out]; rfl
  have e2 : S1.down = false ∧ S1.cut = -1 ∧ S1.fail = 0 ∧ S1.steps = 1 := by rw [hS1.out, hR0.out, hS0.out]; exact ⟨rfl, rfl, rfl, rfl⟩
  have q1 : S1.err = 0 := by unfold Dst.err; rw [e2.1, e2.2.1, e2.2.2.1]; decide
  have r2 := gReserve_of _ g gd F3 Fd3 R1 S1 w3 HG2.out.r HG2.out.d HG2.out.x (by rw [e2.2.2.2]; decide)
  rw [show R1.resV S1 = 2 from by unfold Rst.resV; rw [q1, e1]; decide, show R1.resE S1 = 0 from by unfold Rst.resE; rw [q1, e1]; decide] at r2
  have E1 := hid e1
  have E2 := hid e2
  have Q1 := hid q1
  have HC2 := hid r2
  clear r2 hs hg e1 e2 q1 HC HG1
  go_wp2_with fail
  refine HC2.out.mono ?_
  rintro e w4 ⟨rfl, hs⟩
  obtain ⟨F4, Fd4, hg⟩ := HG2.out.step hs
  obtain ⟨R2, hR2⟩ : ∃ R, Hid (R = R1.resR S1) := ⟨_, rfl⟩
  obtain ⟨S2, hS2⟩ : ∃ S, Hid (S = R1.resS S1) := ⟨_, rfl⟩
  rw [← hR2.out, ← hS2.out] at hg
  have HG3 := hid hg
  have e1 : R2 = ⟨9, 2, 0, [[1, 2, 3]]⟩ := by rw [hR2.out]; unfold Rst.resR; rw [Q1.out, E1.out]; rfl
  have e2 : S2.down = false ∧ S2.cut = -1 ∧ S2.fail = 0 ∧ S2.steps = 2 := by
    rw [hS2.out]; unfold Rst.resS Dst.step
    rw [E1.out, E2.out.1, E2.out.2.1, E2.out.2.2.1, E2.out.2.2.2]
    exact ⟨rfl, rfl, rfl, rfl⟩
  have q1 : S2.err = 0 := by unfold Dst.err; rw [e2.1, e2.2.1, e2.2.2.1]; decide
  have r3 := gAdvance_of _ g gd F4 Fd4 R2 S2 w4 HG3.out.r HG3.out.d HG3.out.x (by rw [e2.2.2.2]; decide) 2 (by decide)
  rw [show R2.advE S2 2 = 0 from by unfold Rst.advE; rw [q1, e1]; decide] at r3
  have E3 := hid e1
  have Q2 := hid q1
  have HC3 := hid r3
  clear r3 hs hg e1 e2 q1 HC2 HG2 E1 E2 Q1
  go_wp2_with fail
  refine HC3.out.mono ?_
  rintro e w5 ⟨rfl, hs⟩
  obtain ⟨F5, Fd5, hg⟩ := HG3.out.step hs
  obtain ⟨R3, hR3⟩ : ∃ R, Hid (R = R2.advR S2 2) := ⟨_, rfl⟩
  obtain ⟨S3, hS3⟩ : ∃ S, Hid (S = R2.advS S2 2) := ⟨_, rfl⟩
  rw [← hR3.out, ← hS3.out] at hg
  have HG4 := hid hg
  have e1 : R3 = ⟨9, 2, 2, [[1, 2, 3]]⟩ := by rw [hR3.out]; unfold Rst.advR; rw [Q2.out, E3.out]; rfl
  have r4 := gDraw_of _ g gd F5 R3 w5 HG4.out.r 2 (by decide)
  rw [e1] at r4
  rw [show (⟨9, 2, 2, [[1, 2, 3]]⟩ : Rst).drE 2 = 0 from rfl, show (⟨9, 2, 2, [[1, 2, 3]]⟩ : Rst).drL 2 = [1, 2] from rfl, show (⟨9, 2, 2, [[1, 2, 3]]⟩ : Rst).drR 2 = ⟨9, 2, 2, []⟩ from rfl] at r4
  have HC4 := hid r4
  clear r4 hs hg e1 HC3 HG3 E3 Q2
  go_wp2_with fail
  refine HC4.out.mono ?_
  rintro e w6 ⟨v, rfl, hs⟩
  obtain ⟨F6, hg, hO, _⟩ := HG4.out.draw hs
  obtain ⟨pv, cv, rfl, _, hbv⟩ := hO.bin
  have hcv := conv_12 hbv cv
  have HCM := hid (gCommitted_of _ g gd F6 _ w6 hg.r)
  have HG5 := hid hg
  clear hs hg hO hbv HC4 HG4
  go_wp2_with fail
  refine HCM.out.mono ?_
  rintro e w7 ⟨rfl, hb7⟩
  have HG6 := hid (HG5.out.below hb7)
  have HLF := hid (gLeft_of _ g gd F6 _ w7 HG6.out.r)
  clear hb7 HCM HG5 hcv
  go_wp2_with fail
  refine HLF.out.mono ?_
  rintro e w8 ⟨rfl, hb8⟩
  have HG7 := hid (HG6.out.below hb8)
  clear hb8 HLF HG6
  go_wp2
  go_ret
  exact ⟨rfl, HG7.out.b⟩

set_option maxHeartbeats 8000000 in
set_option maxRecDepth 100000 in
theorem rnone_law (n z : Int) (w : World) (hn : (Lit.int .u64 n).wf = true) (hz : (Lit.int .i64 z).wf = true) :
    Calls Try.prog 4 #[.int .u64 n, .int .i64 z] w fun e w' => e = .returned (.bool true) ∧ Below w.heap.size w w' := by
  clear hn hz
  go_enter Try.func4, Try.ntmps4
  go_wp2_with fail
  refine (gNew_nil w n _).mono ?_
  rintro e w1 ⟨rfl, hb⟩
  have HB1 := hid hb
  clear hb
  go_wp2_with fail
  refine (gReserve_nil w1).mono ?_
  rintro e w2 ⟨rfl, hb⟩
  have HB2 := hid (HB1.out.trans (hb.mono HB1.out.size))
  clear hb HB1
  go_wp2_with fail
  refine (gDraw_nil w2 z).mono ?_
  rintro e w3 ⟨rfl, hb⟩
  have HB3 := hid (HB2.out.trans (hb.mono HB2.out.size))
  clear hb HB2
  go_wp2_with fail
  refine (gAdvance_nil w3 n).mono ?_
  rintro e w4 ⟨rfl, hb⟩
  have HB4 := hid (HB3.out.trans (hb.mono HB3.out.size))
  clear hb HB3
  go_wp2_with fail
  refine (gReserved_nil w4).mono ?_
  rintro e w5 ⟨rfl, hb⟩
  have HB5 := hid (HB4.out.trans (hb.mono HB4.out.size))
  clear hb HB4
  go_wp2_with fail
  refine (gCommitted_nil w5).mono ?_
  rintro e w6 ⟨rfl, hb⟩
  have HB6 := hid (HB5.out.trans (hb.mono HB5.out.size))
  clear hb HB5
  go_wp2_with fail
  refine (gLeft_nil w6).mono ?_
  rintro e w7 ⟨rfl, hb⟩
  have HB7 := hid (HB6.out.trans (hb.mono HB6.out.size))
  clear hb HB6
  go_wp2_with fail
  refine (known9_any w7).mono ?_
  rintro e w8 ⟨rfl, hb⟩
  have HB8 := hid (HB7.out.trans (hb.mono HB7.out.size))
  clear hb HB7
  go_wp2
  go_ret
  exact ⟨rfl, HB8.out⟩
end Go.Proofs.Ytlbhoijjbpjmoaa
