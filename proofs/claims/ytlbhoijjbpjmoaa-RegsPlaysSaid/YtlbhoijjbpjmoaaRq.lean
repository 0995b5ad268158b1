/-
  RegsPlays: both registers beside both devices; the rows that are handed to New.
-/
import Derived.Test.YtlbhoijjbpjmoaaRk
import Derived.Test.YtlbhoijjbpjmoaaRh
import Derived.Test.YtlbhoijjbpjmoaaDp3
import Derived.Test.YtlbhoijjbpjmoaaRdm
namespace Go.Proofs.Ytlbhoijjbpjmoaa
open Go.RowKit
set_option linter.unusedVariables false
set_option linter.unusedSimpArgs false

/-- What is new is none of another thing's. -/
theorem far {n : Nat} {F F' X : Nat → Prop} (hX : ∀ q, X q → q < n) (h : ∀ q, F' q → F q ∨ n ≤ q) (d : ∀ q, F q → ¬ X q) (q : Nat) (hq : F' q) : ¬ X q := fun hx => by
  rcases h q hq with h1 | h1
  · exact d q h1 hx
  · have := hX q hx; omega
theorem RRg.mono {B B' g gd : Nat} {w : World} {F : Nat → Prop} {R : Rst} (h : RRg B w g F gd R) (hB : B' ≤ B) : RRg B' w g F gd R := by
  obtain ⟨ho, p, c, hv⟩ := h
  exact ⟨ho, p, c, hv.c0, hv.c1, hv.c2, hv.c3, hv.c4, hv.z, hv.dr, hv.fg, fun q hq => ⟨Nat.le_trans hB (hv.lt q hq).1, (hv.lt q hq).2⟩⟩

/-- The program's registers and device (R1, S1), the document's (R2, S2), no block in two of them. -/
structure Quad (wI : World) (B : Nat) (w : World) (g gd h g2 : Nat) (F Fd H F2 : Nat → Prop) (R1 R2 : Rst) (S1 S2 : Dst) : Prop where
  p : PRg B w g F gd R1
  q : RRg B w h H g2 R2
  u : PDk B w gd Fd S1
  v : RDs B w g2 F2 S2
  d1 : ∀ x, F x → ¬ Fd x
  d2 : ∀ x, F x → ¬ H x
  d3 : ∀ x, F x → ¬ F2 x
  d4 : ∀ x, Fd x → ¬ H x
  d5 : ∀ x, Fd x → ¬ F2 x
  d6 : ∀ x, H x → ¬ F2 x
  b : Below B wI w
  s : B ≤ w.heap.size
section
variable {wI w w' : World} {B g gd h g2 : Nat} {F Fd H F2 : Nat → Prop} {R1 R2 R' : Rst} {S1 S2 S' : Dst}
theorem Quad.below (a : Quad wI B w g gd h g2 F Fd H F2 R1 R2 S1 S2) (hb : Below w.heap.size w w') : Quad wI B w' g gd h g2 F Fd H F2 R1 R2 S1 S2 :=
  ⟨a.p.below hb, a.q.below hb, a.u.below hb, a.v.below hb, a.d1, a.d2, a.d3, a.d4, a.d5, a.d6, a.b.trans (hb.mono a.s), Nat.le_trans a.s hb.size⟩
theorem Quad.drew (a : Quad wI B w g gd h g2 F Fd H F2 R1 R2 S1 S2) : Quad wI B w.drew g gd h g2 F Fd H F2 R1 R2 S1 S2 := a.below (Below.refl _ _).drew
theorem Quad.stepP (a : Quad wI B w g gd h g2 F Fd H F2 R1 R2 S1 S2) (hs : PRstep B w g F gd Fd R' S' w') : ∃ F' Fd', Quad wI B w' g gd h g2 F' Fd' H F2 R' R2 S' S2 := by
  obtain ⟨F', Fd', h1, h2, h3, h4, h5, h6⟩ := hs
  have lH := fun q hq => (a.q.lt q hq).2
  have l2 := fun q hq => (a.v.lt q hq).2
  exact ⟨F', Fd', h1, a.q.tb h4 (fun q hq e => e.elim (fun e => a.d2 q e hq) fun e => a.d4 q e hq), h2, a.v.tb h4 (fun q hq e => e.elim (fun e => a.d3 q e hq) fun e => a.d5 q e hq), h3, far lH h5 a.d2, far l2 h5 a.d3, far lH h6 a.d4, far l2 h6 a.d5, a.d6,
    a.b.trans (h4.out a.s fun q hq => hq.elim (fun e => (a.p.lt q e).1) fun e => (a.u.lt q e).1), Nat.le_trans a.s h4.size⟩
theorem Quad.stepR (a : Quad wI B w g gd h g2 F Fd H F2 R1 R2 S1 S2) (hs : RRstep B w h H g2 F2 R' S' w') : ∃ F2', Quad wI B w' g gd h g2 F Fd H F2' R1 R' S1 S' := by
  obtain ⟨F2', h1, h2, h4, h6⟩ := hs
  have fr := fun {X : Nat → Prop} (l : ∀ q, X q → q < w.heap.size) (d : ∀ q, X q → ¬ F2 q) => fun q (hq : X q) (e : F2' q) => far l h6 (fun q e hq => d q hq e) q e hq
  exact ⟨F2', a.p.tb h4 (fun q hq e => e.elim (fun e => a.d2 q hq e) fun e => a.d3 q hq e), h1, a.u.tb h4 (fun q hq e => e.elim (fun e => a.d4 q hq e) fun e => a.d5 q hq e), h2, a.d1, a.d2, fr (fun q hq => (a.p.lt q hq).2) a.d3, a.d4, fr (fun q hq => (a.u.lt q hq).2) a.d5, fr (fun q hq => (a.q.lt q hq).2) a.d6,
    a.b.trans (h4.out a.s fun q hq => hq.elim (fun e => (a.q.lt q e).1) fun e => (a.v.lt q e).1), Nat.le_trans a.s h4.size⟩
theorem Quad.drawP {v : Value} {L : List Int} (a : Quad wI B w g gd h g2 F Fd H F2 R1 R2 S1 S2) (hs : PRdraw B w g F gd R' v L w') : ∃ F', Quad wI B w' g gd h g2 F' Fd H F2 R' R2 S1 S2 ∧ Ort B w' v L.length L ∧ ∀ q, v.ownBlock = some q → ¬ H q := by
  obtain ⟨F', h1, h4, h5, hO, hv⟩ := hs
  have lH := fun q hq => (a.q.lt q hq).2
  refine ⟨F', ⟨h1, a.q.tb h4 (fun q hq e => a.d2 q e hq), a.u.tb h4 (fun q hq e => a.d1 q e hq), a.v.tb h4 (fun q hq e => a.d3 q e hq), far (fun q hq => (a.u.lt q hq).2) h5 a.d1, far lH h5 a.d2, far (fun q hq => (a.v.lt q hq).2) h5 a.d3, a.d4, a.d5, a.d6, a.b.trans (h4.out a.s fun q hq => (a.p.lt q hq).1), Nat.le_trans a.s h4.size⟩, hO, fun q hq hh => ?_⟩
  rcases (hv q hq).1 with h6 | h6
  · exact a.d2 q h6 hh
  · have := lH q hh; omega
theorem Quad.drawR (a : Quad wI B w g gd h g2 F Fd H F2 R1 R2 S1 S2) (h1 : RRg B w' h H g2 R') (h4 : Tb H w w') : Quad wI B w' g gd h g2 F Fd H F2 R1 R' S1 S2 :=
  ⟨a.p.tb h4 (fun q hq e => a.d2 q hq e), h1, a.u.tb h4 (fun q hq e => a.d4 q hq e), a.v.tb h4 (fun q hq e => a.d6 q e hq), a.d1, a.d2, a.d3, a.d4, a.d5, a.d6, a.b.trans (h4.out a.s fun q hq => (a.q.lt q hq).1), Nat.le_trans a.s h4.size⟩
theorem Quad.duo (a : Quad wI B w g gd h g2 F Fd H F2 R1 R2 S1 S2) : Duo w (fun q => Fd q ∨ F2 q) B w gd g2 Fd F2 S1 S2 := Duo.base a.u a.v a.d5
theorem Quad.does {Fd' F2' : Nat → Prop} (a : Quad wI B w g gd h g2 F Fd H F2 R1 R2 S1 S2) (d : Duo w (fun q => Fd q ∨ F2 q) B w' gd g2 Fd' F2' S' S') (hb : Below B w w') (hs : B ≤ w'.heap.size) : Quad wI B w' g gd h g2 F Fd' H F2' R1 R2 S' S' := by
  have nw : ∀ {X : Nat → Prop}, (∀ q, X q → q < w.heap.size) → (∀ q, X q → ¬ Fd q) → (∀ q, X q → ¬ F2 q) → ∀ q, X q → ¬ (Fd' q ∨ F2' q) := fun l h1 h2 q hq e => by
    rcases d.c q e with h3 | h3
    · exact h3.elim (h1 q hq) (h2 q hq)
    · have := l q hq; omega
  have nF := nw (fun q hq => (a.p.lt q hq).2) a.d1 a.d3
  have nH := nw (fun q hq => (a.q.lt q hq).2) (fun q hq e => a.d4 q e hq) a.d6
  exact ⟨a.p.tb d.t (fun q hq e => e.elim (a.d1 q hq) (a.d3 q hq)), a.q.tb d.t (fun q hq e => e.elim (fun e => a.d4 q e hq) (a.d6 q hq)), d.p, d.r, fun q hq e => nF q hq (.inl e), a.d2, fun q hq e => nF q hq (.inr e), fun q e hq => nH q hq (.inl e), d.d, fun q hq e => nH q hq (.inr e), a.b.trans hb, hs⟩
end

theorem own_max {B n : Nat} {w : World} {v : Value} {xs : List Int} (h : Own B w v n xs) : n ≤ maxLen := by
  rcases h.2 with ⟨_, h2⟩ | ⟨g, cap, cur, _, _, _, h4, h5, _⟩
  · rw [h2]; exact Nat.zero_le _
  · exact Nat.le_trans h4 h5
/-- What New is handed, as it lies. -/
theorem Rowu.ins {B n : Nat} {w : World} {v : Value} {V : Nat → Value} {D : Nat → List Int} (h : Rowu B w v n V D) (ho : ∀ i, i < n → Oct (D i) ∧ (D i).length ≤ 140737488351232) :
    ∃ p c Fr, v = .slice p n c ∧ Ins w p n Fr ∧ (List.range n).map (fun i => (Fr i).2.2) = (List.range n).map D := by
  have hx : ∀ i, i < n → ∃ x : Option Addr × Nat × List Int, x.2.2 = D i ∧ V i = .slice x.1 x.2.2.length x.2.1 ∧ Bin w x.1 x.2.2 ∧ x.2.2.length ≤ x.2.1 := fun i hi => by
    obtain ⟨p, c, e, hc, hb⟩ := (h.row i hi).bin
    exact ⟨(p, c, D i), rfl, e, hb, hc⟩
  obtain ⟨Fr, hF⟩ := Go.Deep.choose_lt hx
  have hm : (List.range n).map (fun i => (Fr i).2.2) = (List.range n).map D := List.map_congr_left fun i hi => (hF i (List.mem_range.1 hi)).1
  have h2 : ∀ i, i < n → Bin w (Fr i).1 (Fr i).2.2 ∧ Oct (Fr i).2.2 ∧ (Fr i).2.2.length ≤ (Fr i).2.1 ∧ (Fr i).2.2.length ≤ 140737488351232 := fun i hi => by
    obtain ⟨e, _, hb, hc⟩ := hF i hi
    exact ⟨hb, e ▸ (ho i hi).1, hc, e ▸ (ho i hi).2⟩
  rcases h.shape with ⟨rfl, rfl⟩ | ⟨g, cap, rfl, _, _⟩
  · exact ⟨none, 0, Fr, rfl, ⟨fun h => absurd h (Nat.lt_irrefl _), h2⟩, hm⟩
  · exact ⟨_, _, Fr, rfl, ⟨fun _ => ⟨g, 0, rfl, fun i hi => by rw [Nat.zero_add]; exact (h.cellAt i hi).trans (congrArg some (hF i hi).2.1)⟩, h2⟩, hm⟩

/-- The device, the registers, and the rows that were handed in, while these are turned. -/
structure Pre (wI w2 w3 w : World) (g gd : Nat) (F Fd : Nat → Prop) (R : Rst) (S : Dst) (v : Value) (n : Nat) (V : Nat → Value) (D : Nat → List Int) : Prop where
  d : PDk wI.heap.size w gd Fd S
  r : PRg w3.heap.size w g F gd R
  i : Rowu w2.heap.size w v n V D
  x1 : ∀ q, Fd q → q < w2.heap.size
  x2 : ∀ q, Rowu.has v n V q → q < w3.heap.size
  b : Below wI.heap.size wI w
  s1 : wI.heap.size ≤ w2.heap.size
  s2 : w2.heap.size ≤ w3.heap.size
theorem Pre.byte {wI w2 w3 w : World} {g gd g1 c i n : Nat} {F Fd : Nat → Prop} {R : Rst} {S : Dst} {v : Value} {V : Nat → Value} {D : Nat → List Int} (a : Pre wI w2 w3 w g gd F Fd R S v n V D) (hi : i < n) (hV : V i = .slice (some ⟨g1, 0, none⟩) (D i).length c) (j : Nat) (x : Int) :
    Pre wI w2 w3 (w.setCell ⟨g1, j, none⟩ (.int .u8 x)) g gd F Fd R S v n V (fun k => if k = i then (D i).set j x else D k) := by
  have ht : Tb (fun q => q = g1) w (w.setCell ⟨g1, j, none⟩ (.int .u8 x)) := Tb.setCell (F := fun q => q = g1) (b := g1) (Tb.refl _ w) (.inl rfl) j _
  have hh : Rowu.has v n V g1 := .inr ⟨i, hi, by rw [hV]; rfl⟩
  have hl := a.i.lt g1 hh
  have h3 := a.x2 g1 hh
  have h1 := a.s1
  exact ⟨a.d.tb ht (fun q hq e => by have := a.x1 q hq; omega), a.r.tb ht (fun q hq e => by have := (a.r.lt q hq).1; omega), a.i.byte hi hV j x, a.x1, a.x2, a.b.setCell (p := ⟨g1, j, none⟩) (by show wI.heap.size ≤ g1; omega) _, a.s1, a.s2⟩

section
variable {B g gd : Nat} {F : Nat → Prop} {R : Rst} {S : Dst} {w : World}
set_option maxHeartbeats 4000000 in
set_option maxRecDepth 100000 in
theorem dSteps_is (h : PDk B w g F S) : Calls Try.prog 25 #[.pointer (some ⟨g, 0, none⟩)] w fun e w' => e = .returned (.int .u64 (S.steps : Nat)) ∧ w' = w := by
  obtain ⟨kN, cN, kF, cF, vW, fl, ct, hv, _⟩ := h.at'
  have cc := hv.c4
  clear h hv
  go_enter Try.func25, Try.ntmps25
  go_wp2
  go_ret
  exact ⟨rfl, rfl⟩
set_option maxHeartbeats 4000000 in
set_option maxRecDepth 100000 in
theorem dDown_is (h : PDk B w g F S) : Calls Try.prog 26 #[.pointer (some ⟨g, 0, none⟩)] w fun e w' => e = .returned (.bool S.down) ∧ w' = w := by
  obtain ⟨kN, cN, kF, cF, vW, fl, ct, hv, _⟩ := h.at'
  have cc := hv.c3
  clear h hv
  go_enter Try.func26, Try.ntmps26
  go_wp2
  go_ret
  exact ⟨rfl, rfl⟩
set_option maxHeartbeats 4000000 in
set_option maxRecDepth 100000 in
theorem gReserved_is (h : PRg B w g F gd R) : Calls Try.prog 22 #[.pointer (some ⟨g, 0, none⟩)] w fun e w' => e = .returned (.int .u64 (R.res : Nat)) ∧ w' = w := by
  obtain ⟨p, c, hv, _⟩ := h.stand
  have cc := hv.c2
  clear hv h
  obtain ⟨m, hm⟩ : ∃ m, Hid (m = R.res) := ⟨_, rfl⟩
  rw [← hm.out] at cc ⊢
  go_enter Try.func22, Try.ntmps22
  go_wp2
  go_ret
  exact ⟨rfl, rfl⟩
set_option maxHeartbeats 4000000 in
set_option maxRecDepth 100000 in
theorem gCommitted_is (h : PRg B w g F gd R) : Calls Try.prog 23 #[.pointer (some ⟨g, 0, none⟩)] w fun e w' => e = .returned (.int .u64 (R.com : Nat)) ∧ w' = w := by
  obtain ⟨p, c, hv, _⟩ := h.stand
  have cc := hv.c3
  clear hv h
  obtain ⟨m, hm⟩ : ∃ m, Hid (m = R.com) := ⟨_, rfl⟩
  rw [← hm.out] at cc ⊢
  go_enter Try.func23, Try.ntmps23
  go_wp2
  go_ret
  exact ⟨rfl, rfl⟩
set_option maxHeartbeats 4000000 in
set_option maxRecDepth 100000 in
theorem gLeft_is (h : PRg B w g F gd R) : Calls Try.prog 24 #[.pointer (some ⟨g, 0, none⟩)] w fun e w' => e = .returned (.int .i64 (R.draws.length : Nat)) ∧ w' = w := by
  obtain ⟨p, c, hv, _⟩ := h.stand
  have cc := hv.c4
  clear hv h
  obtain ⟨m, hm⟩ : ∃ m, Hid (m = R.draws.length) := ⟨_, rfl⟩
  rw [← hm.out] at cc ⊢
  go_enter Try.func24, Try.ntmps24
  go_wp2
  go_ret
  exact ⟨rfl, rfl⟩
end
end Go.Proofs.Ytlbhoijjbpjmoaa
