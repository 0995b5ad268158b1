/-
  DiskPlays: both devices.
-/
import Derived.Test.YtlbhoijjbpjmoaaDno
import Derived.Test.YtlbhoijjbpjmoaaRdx
namespace Go.Proofs.Ytlbhoijjbpjmoaa
open Go.RowKit
set_option linter.unusedVariables false
set_option linter.unusedSimpArgs false

/-- Both devices: the program's over F, the document's over F2. -/
structure Duo (wR : World) (G : Nat → Prop) (B : Nat) (W : World) (g g2 : Nat) (F F2 : Nat → Prop) (S1 S2 : Dst) : Prop where
  p : PDk B W g F S1
  r : RDs B W g2 F2 S2
  d : ∀ q, F q → ¬ F2 q
  t : Tb G wR W
  c : ∀ q, F q ∨ F2 q → G q ∨ wR.heap.size ≤ q
section
variable {B g g2 : Nat} {wR w W W' : World} {G F F2 : Nat → Prop} {S1 S2 S' : Dst}
theorem Duo.base (p : PDk B W g F S1) (r : RDs B W g2 F2 S2) (d : ∀ q, F q → ¬ F2 q) : Duo W (fun q => F q ∨ F2 q) B W g g2 F F2 S1 S2 := ⟨p, r, d, Tb.refl _ _, fun q h => .inl h⟩
theorem Duo.again (h : Duo wR G B W g g2 F F2 S1 S2) : Duo W (fun q => F q ∨ F2 q) B W g g2 F F2 S1 S2 := Duo.base h.p h.r h.d
theorem Duo.below (h : Duo wR G B W g g2 F F2 S1 S2) (hb : Below W.heap.size W W') : Duo wR G B W' g g2 F F2 S1 S2 := ⟨h.p.below hb, h.r.below hb, h.d, h.t.below hb, h.c⟩
theorem Duo.lt1 (h : Duo wR G B W g g2 F F2 S1 S2) (q : Nat) (hq : F q) : B ≤ q ∧ q < W.heap.size := h.p.lt q hq
theorem Duo.lt2 (h : Duo wR G B W g g2 F F2 S1 S2) (q : Nat) (hq : F2 q) : B ≤ q ∧ q < W.heap.size := h.r.lt q hq
/-- Newer blocks of one's own are kept. -/
theorem Duo.aside {b : Nat} (h : Duo wR G B W g g2 F F2 S1 S2) (ht : Tb (fun q => q = b) W W') (h1 : ¬ F b) (h2 : ¬ F2 b) (h3 : wR.heap.size ≤ b) : Duo wR G B W' g g2 F F2 S1 S2 :=
  ⟨h.p.tb ht (fun q hq e => h1 (e ▸ hq)), h.r.tb ht (fun q hq e => h2 (e ▸ hq)), h.d, h.t.trans ht (fun q hq e => by omega), h.c⟩
theorem Duo.stepP (h : Duo wR G B W g g2 F F2 S1 S2) (hs : Dstep B W g F S' W') : ∃ F', Duo wR G B W' g g2 F' F2 S' S2 ∧ Tb F W W' ∧ ∀ q, F' q → F q ∨ W.heap.size ≤ q := by
  obtain ⟨F', h1, h2, h3⟩ := hs
  have hz := h.t.size
  refine ⟨F', ⟨h1, h.r.tb h2 (fun q hq hF => h.d q hF hq), fun q hq hF2 => ?_, h.t.trans h2 (fun q hq hF => (h.c q (.inl hF)).resolve_right (by omega)), fun q hq => ?_⟩, h2, h3⟩
  · rcases h3 q hq with h4 | h4
    · exact h.d q h4 hF2
    · have := (h.r.lt q hF2).2; omega
  · rcases hq with h4 | h4
    · rcases h3 q h4 with h5 | h5
      · exact h.c q (.inl h5)
      · exact .inr (by omega)
    · exact h.c q (.inr h4)
theorem Duo.stepR (h : Duo wR G B W g g2 F F2 S1 S2) (hs : Rstep B W g2 F2 S' W') : ∃ F', Duo wR G B W' g g2 F F' S1 S' ∧ Tb F2 W W' ∧ ∀ q, F' q → F2 q ∨ W.heap.size ≤ q := by
  obtain ⟨F', h1, h2, h3⟩ := hs
  have hz := h.t.size
  refine ⟨F', ⟨h.p.tb h2 (fun q hq hF => h.d q hq hF), h1, fun q hq hF2 => ?_, h.t.trans h2 (fun q hq hF => (h.c q (.inr hF)).resolve_right (by omega)), fun q hq => ?_⟩, h2, h3⟩
  · rcases h3 q hF2 with h4 | h4
    · exact h.d q hq h4
    · have := (h.p.lt q hq).2; omega
  · rcases hq with h4 | h4
    · exact h.c q (.inl h4)
    · rcases h3 q h4 with h5 | h5
      · exact h.c q (.inr h5)
      · exact .inr (by omega)
end
/-- What stays of the caller's. -/
theorem bel_step {B : Nat} {w W W' : World} {F : Nat → Prop} (hB : Below B w W) (hBW : B ≤ W.heap.size) (ht : Tb F W W') (hF : ∀ q, F q → B ≤ q) : Below B w W' ∧ B ≤ W'.heap.size :=
  ⟨hB.trans (ht.out hBW hF), Nat.le_trans hBW ht.size⟩
theorem bel_below {B : Nat} {w W W' : World} (hB : Below B w W) (hBW : B ≤ W.heap.size) (hb : Below W.heap.size W W') : Below B w W' ∧ B ≤ W'.heap.size :=
  ⟨hB.trans (hb.mono hBW), Nat.le_trans hBW hb.size⟩
/-- What one call leaves; of the elder blocks those of G alone were turned. -/
def Plays (wR : World) (G : Nat → Prop) (B : Nat) (w : World) (g2 : Nat) (S : Dst) (e : Ending) (w' : World) : Prop :=
  ∃ g' F' F2' S', e = .returned (.tuple #[.pointer (some ⟨g', 0, none⟩), .bool true]) ∧ Duo wR G B w' g' g2 F' F2' S' S' ∧ Below B w w' ∧ B ≤ w'.heap.size ∧ S'.n = S.n ∧ S'.steps ≤ S.steps + 1 ∧ S'.ws.length ≤ S.ws.length + 1
/-- The same, the device being where it was. -/
def PlaysAt (wR : World) (G : Nat → Prop) (B : Nat) (w : World) (g g2 : Nat) (S : Dst) (e : Ending) (w' : World) : Prop :=
  ∃ F' F2' S', e = .returned (.tuple #[.pointer (some ⟨g, 0, none⟩), .bool true]) ∧ Duo wR G B w' g g2 F' F2' S' S' ∧ Below B w w' ∧ B ≤ w'.heap.size ∧ S'.n = S.n ∧ S'.steps ≤ S.steps + 1 ∧ S'.ws.length ≤ S.ws.length + 1
theorem PlaysAt.plays {wR w w' : World} {G : Nat → Prop} {B g g2 : Nat} {S : Dst} {e : Ending} (h : PlaysAt wR G B w g g2 S e w') : Plays wR G B w g2 S e w' := ⟨g, h⟩
theorem own_box {wR : World} {G : Nat → Prop} {B : Nat} {W : World} {g g2 : Nat} {F F2 : Nat → Prop} {S1 S2 : Dst} (h : Duo wR G B W g g2 F F2 S1 S2) : ¬ F W.heap.size ∧ ¬ F2 W.heap.size :=
  ⟨fun hq => Nat.lt_irrefl _ (h.p.lt _ hq).2, fun hq => Nat.lt_irrefl _ (h.r.lt _ hq).2⟩
theorem write_facts (S : Dst) (i : Int) (b : List Int) : (S.write i b).n = S.n ∧ (S.write i b).steps ≤ S.steps + 1 ∧ (S.write i b).ws.length ≤ S.ws.length + 1 := by
  have h1 := Dst.step_n S
  have h2 := Dst.step_steps S
  have h3 := Dst.step_ws S
  unfold Dst.write
  split
  · exact ⟨rfl, Nat.le_succ _, Nat.le_succ _⟩
  · split
    · exact ⟨h1, h2, by rw [h3]; exact Nat.le_succ _⟩
    · refine ⟨h1, h2, ?_⟩
      show (S.step.ws ++ [_]).length ≤ _
      rw [List.length_append, h3]
      exact Nat.le_refl _
theorem sync_facts (S : Dst) : S.sync.n = S.n ∧ S.sync.steps ≤ S.steps + 1 ∧ S.sync.ws.length ≤ S.ws.length + 1 := by
  have h1 := Dst.step_n S
  have h2 := Dst.step_steps S
  have h3 := Dst.step_ws S
  unfold Dst.sync
  split
  · exact ⟨h1, h2, by rw [h3]; exact Nat.le_succ _⟩
  · exact ⟨h1, h2, Nat.zero_le _⟩
theorem step_facts (S : Dst) : S.step.n = S.n ∧ S.step.steps ≤ S.steps + 1 ∧ S.step.ws.length ≤ S.ws.length + 1 := ⟨Dst.step_n S, Dst.step_steps S, by rw [Dst.step_ws]; exact Nat.le_succ _⟩
theorem foreign_facts (S : Dst) (i a : Int) (b : List Int) : (S.foreign i a b).n = S.n ∧ (S.foreign i a b).steps ≤ S.steps + 1 ∧ (S.foreign i a b).ws.length ≤ S.ws.length + 1 := by
  unfold Dst.foreign
  split <;> exact ⟨rfl, Nat.le_succ _, Nat.le_succ _⟩
end Go.Proofs.Ytlbhoijjbpjmoaa
