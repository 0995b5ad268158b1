/-
  What a step keeps that turns blocks of a set alone: the frame of a thing that lies in many blocks.
-/
import Derived.Test.YtlbhoijjbpjmoaaWz
import Derived.Test.YtlbhoijjbpjmoaaCn
namespace Go.Proofs.Ytlbhoijjbpjmoaa
open Go.RowKit
set_option linter.unusedVariables false

/-- Of what was there only blocks of F were turned. -/
structure Tb (F : Nat → Prop) (w w' : World) : Prop where
  os : w'.os = w.os
  tape : w'.tape = w.tape
  output : w'.output = w.output
  size : w.heap.size ≤ w'.heap.size
  block : ∀ k, k < w.heap.size → ¬ F k → w'.heap[k]? = w.heap[k]?
section
variable {F F1 F2 : Nat → Prop} {w w1 w2 w' : World}
theorem Tb.refl (F : Nat → Prop) (w : World) : Tb F w w := ⟨rfl, rfl, rfl, Nat.le_refl _, fun _ _ _ => rfl⟩
theorem Tb.drewN (h : Tb F w w1) (k : Nat) : Tb F w (w1.drewN k) := ⟨h.os, h.tape, h.output, h.size, h.block⟩
theorem Tb.drew (h : Tb F w w1) : Tb F w w1.drew := h.drewN 1
theorem Tb.of_grown {row : Option Nat} (h : w.grownBy w1 row) (hr : ∀ q, row = some q → F q) : Tb F w w1 :=
  ⟨h.os, h.tape, h.output, h.size, fun k hk hn => h.block k hk fun e => hn (hr k e.symm)⟩
theorem Tb.of_below (h : Below w.heap.size w w1) : Tb F w w1 := ⟨h.os, h.tape, h.output, h.size, fun k hk _ => h.block k hk⟩
theorem Tb.mono (h : Tb F1 w w1) (hF : ∀ q, q < w.heap.size → F1 q → F q) : Tb F w w1 := ⟨h.os, h.tape, h.output, h.size, fun k hk hn => h.block k hk fun h1 => hn (hF k hk h1)⟩
theorem Tb.trans (h : Tb F w w1) (h2 : Tb F2 w1 w2) (hF : ∀ q, q < w.heap.size → F2 q → F q) : Tb F w w2 :=
  ⟨h2.os.trans h.os, h2.tape.trans h.tape, h2.output.trans h.output, Nat.le_trans h.size h2.size, fun k hk hn => (h2.block k (Nat.lt_of_lt_of_le hk h.size) fun h1 => hn (hF k hk h1)).trans (h.block k hk hn)⟩
theorem Tb.grown {row : Option Nat} (h : Tb F w w1) (hg : w1.grownBy w2 row) (hr : ∀ q, row = some q → q < w.heap.size → F q) : Tb F w w2 :=
  h.trans (F2 := fun q => row = some q) (Tb.of_grown hg fun q e => e) fun q hq e => hr q e hq
theorem Tb.below (h : Tb F w w1) (hb : Below w1.heap.size w1 w2) : Tb F w w2 := h.trans (F2 := fun _ => False) (Tb.of_below hb) fun q _ e => e.elim
theorem Tb.setCells {b : Nat} (h : Tb F w w1) (hb : F b ∨ w.heap.size ≤ b) (o : Nat) (vs : List Value) : Tb F w (w1.setCells b o vs) :=
  h.grown (row := some b) (gb_set (vs := vs) (o := o) (gb_of (some b) (Below.refl _ w1)) (.inl rfl)) fun q e hq => by
    rcases hb with h1 | h1
    · rwa [← Option.some.inj e]
    · have := Option.some.inj e; omega
theorem Tb.setCell {b : Nat} (h : Tb F w w1) (hb : F b ∨ w.heap.size ≤ b) (o : Nat) (v : Value) : Tb F w (w1.setCell ⟨b, o, none⟩ v) := h.setCells hb o [v]
theorem Tb.alloc (h : Tb F w w1) (ob : Obj) : Tb F w (w1.alloc ob) := h.below ((Below.refl _ _).alloc (Nat.le_refl _) ob)
/-- Nothing of the caller's was turned. -/
theorem Tb.out {B : Nat} (h : Tb F w w1) (hB : B ≤ w.heap.size) (hF : ∀ q, F q → B ≤ q) : Below B w w1 :=
  ⟨h.os, h.tape, h.output, h.size, fun k hk => h.block k (by omega) fun h1 => by have := hF k h1; omega⟩
theorem Tb.cell {p : Addr} (h : Tb F w w1) (hp : p.block < w.heap.size) (hn : ¬ F p.block) : w1.cell? p = w.cell? p := World.cell?_of_block (w := w) (h.block p.block hp hn)
theorem Tb.frozen {p : Addr} (h : Tb F w w1) (hp : p.block < w.heap.size) (hn : ¬ F p.block) : w1.frozen? p = w.frozen? p := World.frozen?_of_block (w := w) (h.block p.block hp hn)
end
section
variable {F : Nat → Prop} {w w' : World}
theorem row_tb {B n sz : Nat} {e : TypeId} {v : Value} {xs : List Value} (h : w.ownsRow B e sz v n xs) (ht : Tb F w w') (hne : ∀ q, v.ownBlock = some q → ¬ F q) : w'.ownsRow B e sz v n xs := by
  refine ⟨h.1, ?_⟩
  rcases h.2 with h2 | ⟨g, cap, cur, h1, h2, h3, h4⟩
  · exact .inl h2
  · subst h1
    exact .inr ⟨g, cap, cur, rfl, h2, (ht.block g (World.ownsRow.lt h g rfl).2 (hne g rfl)).trans h3, h4⟩
theorem Own.tb {B n : Nat} {v : Value} {xs : List Int} (h : Own B w v n xs) (ht : Tb F w w') (hne : ∀ q, v.ownBlock = some q → ¬ F q) : Own B w' v n xs := row_tb h ht hne
theorem Bin.tb {p : Option Addr} {xs : List Int} (h : Bin w p xs) (ht : Tb F w w') (hne : ∀ a, p = some a → ¬ F a.block) : Bin w' p xs := fun hn => by
  obtain ⟨b, o, rfl, hlt, hc⟩ := h.at hn
  exact ⟨b, o, rfl, fun i hi => (ht.cell (p := ⟨b, o + i, none⟩) hlt (hne ⟨b, o, none⟩ rfl)).trans (hc i hi)⟩
/-- What the caller handed in. -/
theorem Bin.tbB {w0 : World} {p : Option Addr} {xs : List Int} (h0 : Bin w0 p xs) (h : Bin w p xs) (ht : Tb F w w') (hF : ∀ q, F q → w0.heap.size ≤ q) : Bin w' p xs := fun hn => by
  obtain ⟨b, o, rfl, hlt, hc⟩ := h.at hn
  obtain ⟨b', o', e, hl0, _⟩ := h0.at hn
  cases e
  exact ⟨b, o, rfl, fun i hi => (ht.cell (p := ⟨b, o + i, none⟩) hlt (fun h1 => by have := hF b h1; omega)).trans (hc i hi)⟩
theorem Rowz.tb {B n m : Nat} {v : Value} {V : Nat → Value} {D : Nat → List Int} (h : Rowz B w v n m V D) (ht : Tb F w w') (hne : ∀ q, Rowz.has v n V q → ¬ F q) : Rowz B w' v n m V D :=
  ⟨row_tb h.out ht fun q hq => hne q (.inl hq), fun i hi => row_tb (h.row i hi) ht fun q hq => hne q (.inr ⟨i, hi, hq⟩), h.ap0, h.ap⟩
theorem Wtz.tb {e : TypeId} {B n m : Nat} {v : Value} {A : Nat → Int} {V : Nat → Value} {D : Nat → List Int} (h : Wtz e B w v n m A V D) (ht : Tb F w w') (hne : ∀ q, Rowz.has v n V q → ¬ F q) : Wtz e B w' v n m A V D :=
  ⟨row_tb h.out ht fun q hq => hne q (.inl hq), fun i hi => row_tb (h.row i hi) ht fun q hq => hne q (.inr ⟨i, hi, hq⟩), h.ap0, h.ap⟩
end
end Go.Proofs.Ytlbhoijjbpjmoaa
