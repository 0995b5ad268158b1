/-
  The walk of GaloisColumns.
-/
import Derived.Test.YtijgnlocpkandaaGmixlaw
import Derived.Test.YtijgnlocpkandaaGinvert
import Derived.Deep.DeepCutAuto
namespace Go.Proofs.Ytijgnlocpkandaa
open Go.RowKit
set_option linter.unusedVariables false

/-- Two columns in blocks of before stay, and nothing of before is changed. -/
abbrev Kept2 (w : World) (a b : Nat) (c d : Nat → Nat) (wr : World) : Prop := wr.cell? ⟨a, 0, none⟩ = some (.int .u8 (c 0 : Nat)) ∧ wr.cell? ⟨a, 1, none⟩ = some (.int .u8 (c 1 : Nat)) ∧ wr.cell? ⟨a, 2, none⟩ = some (.int .u8 (c 2 : Nat)) ∧ wr.cell? ⟨a, 3, none⟩ = some (.int .u8 (c 3 : Nat)) ∧ wr.cell? ⟨b, 0, none⟩ = some (.int .u8 (d 0 : Nat)) ∧ wr.cell? ⟨b, 1, none⟩ = some (.int .u8 (d 1 : Nat)) ∧ wr.cell? ⟨b, 2, none⟩ = some (.int .u8 (d 2 : Nat)) ∧ wr.cell? ⟨b, 3, none⟩ = some (.int .u8 (d 3 : Nat)) ∧ Below w.heap.size w wr

theorem Kept2.grow {w w1 w2 : World} {a b : Nat} {c d : Nat → Nat} (h : Kept2 w a b c d w1) (hb : Below w1.heap.size w1 w2) : Kept2 w a b c d w2 := by
  obtain ⟨h0, h1, h2, h3, k0, k1, k2, k3, hw⟩ := h
  have hl : a < w1.heap.size := World.block_lt_of_cell? w1 _ h0
  have hl2 : b < w1.heap.size := World.block_lt_of_cell? w1 _ k0
  have k : ∀ j v, w1.cell? ⟨a, j, none⟩ = some v → w2.cell? ⟨a, j, none⟩ = some v := fun j v h => (hb.cell (p := ⟨a, j, none⟩) hl).trans h
  have kk : ∀ j v, w1.cell? ⟨b, j, none⟩ = some v → w2.cell? ⟨b, j, none⟩ = some v := fun j v h => (hb.cell (p := ⟨b, j, none⟩) hl2).trans h
  exact ⟨k _ _ h0, k _ _ h1, k _ _ h2, k _ _ h3, kk _ _ k0, kk _ _ k1, kk _ _ k2, kk _ _ k3, hw.trans (hb.mono hw.size)⟩

theorem Kept2.alloc {w w1 : World} {a b : Nat} {c d : Nat → Nat} (h : Kept2 w a b c d w1) (o : Obj) : Kept2 w a b c d (w1.alloc o) := by
  obtain ⟨h0, h1, h2, h3, k0, k1, k2, k3, hw⟩ := h
  have hl : a < w1.heap.size := World.block_lt_of_cell? w1 _ h0
  have hl2 : b < w1.heap.size := World.block_lt_of_cell? w1 _ k0
  have k : ∀ j v, w1.cell? ⟨a, j, none⟩ = some v → (w1.alloc o).cell? ⟨a, j, none⟩ = some v := fun j v h => (World.cell?_alloc_past _ _ _ hl).trans h
  have kk : ∀ j v, w1.cell? ⟨b, j, none⟩ = some v → (w1.alloc o).cell? ⟨b, j, none⟩ = some v := fun j v h => (World.cell?_alloc_past _ _ _ hl2).trans h
  exact ⟨k _ _ h0, k _ _ h1, k _ _ h2, k _ _ h3, kk _ _ k0, kk _ _ k1, kk _ _ k2, kk _ _ k3, hw.alloc hw.size _⟩
theorem Kept2.drew {w w1 : World} {a b : Nat} {c d : Nat → Nat} (h : Kept2 w a b c d w1) : Kept2 w a b c d w1.drew :=
  ⟨h.1, h.2.1, h.2.2.1, h.2.2.2.1, h.2.2.2.2.1, h.2.2.2.2.2.1, h.2.2.2.2.2.2.1, h.2.2.2.2.2.2.2.1, h.2.2.2.2.2.2.2.2.drew⟩
theorem Kept2.set {w w1 : World} {a b : Nat} {c d : Nat → Nat} (h : Kept2 w a b c d w1) (g j : Nat) (v : Value) (ha : g ≠ a) (hb : g ≠ b) (hg : w.heap.size ≤ g) : Kept2 w a b c d (w1.setCell ⟨g, j, none⟩ v) := by
  obtain ⟨h0, h1, h2, h3, k0, k1, k2, k3, hw⟩ := h
  have k : ∀ j' v', w1.cell? ⟨a, j', none⟩ = some v' → (w1.setCell ⟨g, j, none⟩ v).cell? ⟨a, j', none⟩ = some v' := fun j' v' h => (World.cell?_setCell_other w1 _ _ _ (by intro hh; cases hh; exact ha rfl)).trans h
  have kk : ∀ j' v', w1.cell? ⟨b, j', none⟩ = some v' → (w1.setCell ⟨g, j, none⟩ v).cell? ⟨b, j', none⟩ = some v' := fun j' v' h => (World.cell?_setCell_other w1 _ _ _ (by intro hh; cases hh; exact hb rfl)).trans h
  exact ⟨k _ _ h0, k _ _ h1, k _ _ h2, k _ _ h3, kk _ _ k0, kk _ _ k1, kk _ _ k2, kk _ _ k3, hw.setCell hg _⟩
theorem Kept2.set4 {w w1 : World} {a b : Nat} {c d : Nat → Nat} (h : Kept2 w a b c d w1) (g : Nat) (v0 v1 v2 v3 : Value) (ha : g ≠ a) (hb : g ≠ b) (hg : w.heap.size ≤ g) :
    Kept2 w a b c d ((((w1.setCell ⟨g, 0, none⟩ v0).setCell ⟨g, 1, none⟩ v1).setCell ⟨g, 2, none⟩ v2).setCell ⟨g, 3, none⟩ v3) :=
  (((h.set g 0 v0 ha hb hg).set g 1 v1 ha hb hg).set g 2 v2 ha hb hg).set g 3 v3 ha hb hg
theorem Kept2.lt {w w1 : World} {a b : Nat} {c d : Nat → Nat} (h : Kept2 w a b c d w1) : a < w1.heap.size ∧ b < w1.heap.size ∧ w.heap.size ≤ w1.heap.size :=
  ⟨World.block_lt_of_cell? w1 _ h.1, World.block_lt_of_cell? w1 _ h.2.2.2.2.1, h.2.2.2.2.2.2.2.2.size⟩

theorem Kept2.self {w w1 : World} {a b : Nat} {c d : Nat → Nat} (h : Kept2 w a b c d w1) : Kept2 w1 a b c d w1 :=
  ⟨h.1, h.2.1, h.2.2.1, h.2.2.2.1, h.2.2.2.2.1, h.2.2.2.2.2.1, h.2.2.2.2.2.2.1, h.2.2.2.2.2.2.2.1, Below.refl _ _⟩

theorem mix_kept2 (f : Nat → Nat) (w0 w : World) (a b : Nat) (c d : Nat → Nat) (of : ∀ j, f j < 256) (h : Kept2 w0 a b c d w) :
    Calls Try.prog 24 #[(.agg #[.int .u8 (f 0 : Nat), .int .u8 (f 1 : Nat), .int .u8 (f 2 : Nat), .int .u8 (f 3 : Nat)])] w fun e w' => e = .returned (.agg #[.int .u8 (mix f 0 : Nat), .int .u8 (mix f 1 : Nat), .int .u8 (mix f 2 : Nat), .int .u8 (mix f 3 : Nat)]) ∧ Kept2 w0 a b c d w' ∧ Below w.heap.size w w' :=
  (mix_any f w of).mono fun e w' ⟨he, hb⟩ => ⟨he, h.grow hb, hb⟩
theorem unmix_kept2 (f : Nat → Nat) (w0 w : World) (a b : Nat) (c d : Nat → Nat) (of : ∀ j, f j < 256) (h : Kept2 w0 a b c d w) :
    Calls Try.prog 26 #[(.agg #[.int .u8 (f 0 : Nat), .int .u8 (f 1 : Nat), .int .u8 (f 2 : Nat), .int .u8 (f 3 : Nat)])] w fun e w' => e = .returned (.agg #[.int .u8 (unmix f 0 : Nat), .int .u8 (unmix f 1 : Nat), .int .u8 (unmix f 2 : Nat), .int .u8 (unmix f 3 : Nat)]) ∧ Kept2 w0 a b c d w' ∧ Below w.heap.size w w' :=
  (unmix_any f w of).mono fun e w' ⟨he, hb⟩ => ⟨he, h.grow hb, hb⟩

/-- A variable of the call's own, not written yet. -/
def Fresh (w : World) (g : Nat) : Prop := Arr w g 4 fun _ => 0
theorem fresh_new1 {w1 w' : World} (hb : Below (w1.alloc (.cells #[.int .u8 0, .int .u8 0, .int .u8 0, .int .u8 0] 30)).heap.size (w1.alloc (.cells #[.int .u8 0, .int .u8 0, .int .u8 0, .int .u8 0] 30)) w') : Fresh w' w1.heap.size := (arr_new w1 4 (fun _ => 0) 30).below hb
theorem fresh_new2 {w1 w' : World} (hb : Below ((w1.alloc (.cells #[.int .u8 0, .int .u8 0, .int .u8 0, .int .u8 0] 30)).alloc (.cells #[.int .u8 0, .int .u8 0, .int .u8 0, .int .u8 0] 30)).heap.size ((w1.alloc (.cells #[.int .u8 0, .int .u8 0, .int .u8 0, .int .u8 0] 30)).alloc (.cells #[.int .u8 0, .int .u8 0, .int .u8 0, .int .u8 0] 30)) w') : Fresh w' w1.heap.size ∧ Fresh w' (w1.heap.size + 1) := by
  constructor
  · exact ((arr_new w1 4 (fun _ => 0) 30).alloc _).below hb
  · have h := (arr_new (w1.alloc (.cells #[.int .u8 0, .int .u8 0, .int .u8 0, .int .u8 0] 30)) 4 (fun _ => 0) 30).below hb
    simp at h
    exact h
theorem fresh_new1d {w1 w' : World} (hb : Below (w1.alloc (.cells #[.int .u8 0, .int .u8 0, .int .u8 0, .int .u8 0] 30)).drew.heap.size (w1.alloc (.cells #[.int .u8 0, .int .u8 0, .int .u8 0, .int .u8 0] 30)).drew w') : Fresh w' w1.heap.size := Arr.below (w := (w1.alloc (.cells #[.int .u8 0, .int .u8 0, .int .u8 0, .int .u8 0] 30)).drew) (arr_new w1 4 (fun _ => 0) 30).drew hb
theorem fresh_new2d {w1 w' : World} (hb : Below ((w1.alloc (.cells #[.int .u8 0, .int .u8 0, .int .u8 0, .int .u8 0] 30)).alloc (.cells #[.int .u8 0, .int .u8 0, .int .u8 0, .int .u8 0] 30)).drew.heap.size ((w1.alloc (.cells #[.int .u8 0, .int .u8 0, .int .u8 0, .int .u8 0] 30)).alloc (.cells #[.int .u8 0, .int .u8 0, .int .u8 0, .int .u8 0] 30)).drew w') : Fresh w' w1.heap.size ∧ Fresh w' (w1.heap.size + 1) := by
  constructor
  · exact Arr.below (w := ((w1.alloc (.cells #[.int .u8 0, .int .u8 0, .int .u8 0, .int .u8 0] 30)).alloc (.cells #[.int .u8 0, .int .u8 0, .int .u8 0, .int .u8 0] 30)).drew) ((arr_new w1 4 (fun _ => 0) 30).alloc _).drew hb
  · have h := Arr.below (w := ((w1.alloc (.cells #[.int .u8 0, .int .u8 0, .int .u8 0, .int .u8 0] 30)).alloc (.cells #[.int .u8 0, .int .u8 0, .int .u8 0, .int .u8 0] 30)).drew) (arr_new (w1.alloc (.cells #[.int .u8 0, .int .u8 0, .int .u8 0, .int .u8 0] 30)) 4 (fun _ => 0) 30).drew hb
    simp at h
    exact h
theorem fresh_old0 {w1 w' : World} {g : Nat} (h : Fresh w1 g) (hb : Below w1.heap.size w1 w') : Fresh w' g := Arr.below h hb
theorem fresh_old1 {w1 w' : World} {g : Nat} {o : Obj} (h : Fresh w1 g) (hb : Below (w1.alloc o).heap.size (w1.alloc o) w') : Fresh w' g := Arr.below (Arr.alloc h o) hb
theorem fresh_pair0 {w1 w' : World} {g h : Nat} (hn : Fresh w1 g ∧ Fresh w1 h) (hb : Below w1.heap.size w1 w') : Fresh w' g ∧ Fresh w' h := ⟨Arr.below hn.1 hb, Arr.below hn.2 hb⟩
theorem Fresh.facts {w : World} {g : Nat} (h : Fresh w g) : (w.cell? ⟨g, 0, none⟩ = some (.int .u8 0) ∧ w.cell? ⟨g, 1, none⟩ = some (.int .u8 0) ∧ w.cell? ⟨g, 2, none⟩ = some (.int .u8 0) ∧ w.cell? ⟨g, 3, none⟩ = some (.int .u8 0)) ∧
    (w.frozen? ⟨g, 0, none⟩ = false ∧ w.frozen? ⟨g, 1, none⟩ = false ∧ w.frozen? ⟨g, 2, none⟩ = false ∧ w.frozen? ⟨g, 3, none⟩ = false) ∧ g < w.heap.size :=
  ⟨⟨(h 0 (by decide)).1, (h 1 (by decide)).1, (h 2 (by decide)).1, (h 3 (by decide)).1⟩, ⟨(h 0 (by decide)).2, (h 1 (by decide)).2, (h 2 (by decide)).2, (h 3 (by decide)).2⟩, h.lt (by decide)⟩

theorem arr_new4 {w : World} {x : Nat → Nat} {t : TypeId} {n : Nat} (hn : n = w.heap.size) : Arr (w.alloc (.cells #[.int .u8 (x 0 : Nat), .int .u8 (x 1 : Nat), .int .u8 (x 2 : Nat), .int .u8 (x 3 : Nat)] t)) n 4 x := by
  subst hn
  exact arr_new w 4 x t
theorem arr_set4 {w : World} {g : Nat} (h : Fresh w g) (x : Nat → Nat) :
    Arr ((((w.setCell ⟨g, 0, none⟩ (.int .u8 (x 0 : Nat))).setCell ⟨g, 1, none⟩ (.int .u8 (x 1 : Nat))).setCell ⟨g, 2, none⟩ (.int .u8 (x 2 : Nat))).setCell ⟨g, 3, none⟩ (.int .u8 (x 3 : Nat))) g 4 x := Arr.put4 h x
theorem Arr.beside4 {w : World} {g h : Nat} {x : Nat → Nat} (hx : Arr w h 4 x) (v0 v1 v2 v3 : Value) (hne : g ≠ h) :
    Arr ((((w.setCell ⟨g, 0, none⟩ v0).setCell ⟨g, 1, none⟩ v1).setCell ⟨g, 2, none⟩ v2).setCell ⟨g, 3, none⟩ v3) h 4 x :=
  (((hx.beside hne 0 v0).beside hne 1 v1).beside hne 2 v2).beside hne 3 v3
theorem fresh_beside4 {w : World} {g h : Nat} (hx : Fresh w h) (v0 v1 v2 v3 : Value) (hne : g ≠ h) :
    Fresh ((((w.setCell ⟨g, 0, none⟩ v0).setCell ⟨g, 1, none⟩ v1).setCell ⟨g, 2, none⟩ v2).setCell ⟨g, 3, none⟩ v3) h := Arr.beside4 hx v0 v1 v2 v3 hne

/-- Two new columns, and what is kept. -/
def Pair (w : World) (a b : Nat) (c d x y : Nat → Nat) (s t : Value) (wx : World) : Prop := ∃ g h : Nat, s = .pointer (some ⟨g, 0, none⟩) ∧ t = .pointer (some ⟨h, 0, none⟩) ∧ Arr wx g 4 x ∧ Arr wx h 4 y ∧ Kept2 w a b c d wx

/-- The cells of block b read as the four bytes x. -/
def Has (w : World) (b : Nat) (x : Nat → Nat) : Prop := ∀ j, j < 4 → w.cell? ⟨b, j, none⟩ = some (.int .u8 (x j : Nat))
theorem Has.lt {w : World} {b : Nat} {x : Nat → Nat} (h : Has w b x) : b < w.heap.size := World.block_lt_of_cell? w _ (h 0 (by decide))
theorem Arr.has {w : World} {b : Nat} {x : Nat → Nat} (h : Arr w b 4 x) : Has w b x := fun j hj => (h j hj).1
theorem Has.grow {w w' : World} {b : Nat} {x : Nat → Nat} (h : Has w b x) (hb : Below w.heap.size w w') : Has w' b x := fun j hj => (hb.cell (p := ⟨b, j, none⟩) h.lt).trans (h j hj)
theorem Has.beside {w : World} {b g : Nat} {x : Nat → Nat} (h : Has w b x) (hne : g ≠ b) (i : Nat) (v : Value) : Has (w.setCell ⟨g, i, none⟩ v).drew b x := fun j hj =>
  (World.cell?_setCell_other w _ _ _ (by intro hh; cases hh; exact hne rfl)).trans (h j hj)

/-- The two columns, and the four that were made of them. -/
def Six (w : World) (a b g h p q : Nat) (c d : Nat → Nat) (wr : World) : Prop :=
  (Has wr a c ∧ Has wr b d) ∧ (Has wr g (mix c) ∧ Has wr h (mix d)) ∧ (Has wr p (unmix c) ∧ Has wr q (unmix d)) ∧ Below w.heap.size w wr
theorem Six.grow {w w1 w2 : World} {a b g h p q : Nat} {c d : Nat → Nat} (s : Six w a b g h p q c d w1) (hb : Below w1.heap.size w1 w2) : Six w a b g h p q c d w2 :=
  ⟨⟨s.1.1.grow hb, s.1.2.grow hb⟩, ⟨s.2.1.1.grow hb, s.2.1.2.grow hb⟩, ⟨s.2.2.1.1.grow hb, s.2.2.1.2.grow hb⟩, s.2.2.2.trans (hb.mono s.2.2.2.size)⟩
theorem Has.drewN {w : World} {b : Nat} {x : Nat → Nat} (h : Has w b x) (n : Nat) : Has (w.drewN n) b x := h
theorem Six.drewN {w w1 : World} {a b g h p q : Nat} {c d : Nat → Nat} (s : Six w a b g h p q c d w1) (n : Nat) : Six w a b g h p q c d (w1.drewN n) :=
  ⟨s.1, s.2.1, s.2.2.1, ⟨s.2.2.2.os, s.2.2.2.tape, s.2.2.2.output, s.2.2.2.size, s.2.2.2.block⟩⟩
/-- Where they lie: all before e. -/
def Ahead (w : World) (a b g h p q e : Nat) : Prop := (a < e ∧ b < e) ∧ (g < e ∧ h < e) ∧ (p < e ∧ q < e) ∧ w.heap.size ≤ e
theorem Six.ahead {w w1 : World} {a b g h p q : Nat} {c d : Nat → Nat} (s : Six w a b g h p q c d w1) : Ahead w a b g h p q w1.heap.size :=
  ⟨⟨s.1.1.lt, s.1.2.lt⟩, ⟨s.2.1.1.lt, s.2.1.2.lt⟩, ⟨s.2.2.1.1.lt, s.2.2.1.2.lt⟩, s.2.2.2.size⟩
theorem Six.beside {w w1 : World} {a b g h p q e : Nat} {c d : Nat → Nat} (s : Six w a b g h p q c d w1) (l : Ahead w a b g h p q e) (i : Nat) (v : Value) : Six w a b g h p q c d (w1.setCell ⟨e, i, none⟩ v).drew := by
  obtain ⟨⟨l1, l2⟩, ⟨l3, l4⟩, ⟨l5, l6⟩, l7⟩ := l
  exact ⟨⟨s.1.1.beside (by omega) _ _, s.1.2.beside (by omega) _ _⟩, ⟨s.2.1.1.beside (by omega) _ _, s.2.1.2.beside (by omega) _ _⟩, ⟨s.2.2.1.1.beside (by omega) _ _, s.2.2.1.2.beside (by omega) _ _⟩, (s.2.2.2.setCell l7 _).drew⟩

/-- The sum of two columns as it stands when n elements are in. -/
def esum (c d : Nat → Nat) (n t : Nat) : Nat := if t < n then c t ^^^ d t else 0
theorem esum_step (c d : Nat → Nat) (n t : Nat) : (if t = n then c n ^^^ d n else esum c d n t) = esum c d (n + 1) t := by
  unfold esum
  by_cases h : t = n
  · subst h; simp
  · rw [if_neg h]
    by_cases h2 : t < n
    · rw [if_pos h2, if_pos (by omega)]
    · rw [if_neg h2, if_neg (by omega)]

/-- What the sum's loop keeps. -/
def Summing (w : World) (a b g h p q e : Nat) (c d : Nat → Nat) (n : Nat) (wr : World) : Prop := Six w a b g h p q c d wr ∧ Arr wr e 4 (esum c d n)
theorem Summing.step {w wr : World} {a b g h p q e : Nat} {c d : Nat → Nat} {n : Nat} (s : Summing w a b g h p q e c d n wr) (l : Ahead w a b g h p q e) (hn : n < 4) (oc : ∀ j, c j < 256) (od : ∀ j, d j < 256) :
    Summing w a b g h p q e c d (n + 1) (wr.setCell ⟨e, n, none⟩ (.int .u8 (bits .xor .u8 (c n : Nat) (d n : Nat)))).drew := by
  rw [xor_nat (oc n) (od n)]
  exact ⟨s.1.beside l _ _, ((s.2.set n (c n ^^^ d n) hn).drew).same fun t _ => esum_step c d n t⟩

/-- Three columns in blocks of before stay. -/
abbrev Kept3 (w : World) (g a p : Nat) (x c u : Nat → Nat) (wr : World) : Prop := wr.cell? ⟨g, 0, none⟩ = some (.int .u8 (x 0 : Nat)) ∧ wr.cell? ⟨g, 1, none⟩ = some (.int .u8 (x 1 : Nat)) ∧ wr.cell? ⟨g, 2, none⟩ = some (.int .u8 (x 2 : Nat)) ∧ wr.cell? ⟨g, 3, none⟩ = some (.int .u8 (x 3 : Nat)) ∧ wr.cell? ⟨a, 0, none⟩ = some (.int .u8 (c 0 : Nat)) ∧ wr.cell? ⟨a, 1, none⟩ = some (.int .u8 (c 1 : Nat)) ∧ wr.cell? ⟨a, 2, none⟩ = some (.int .u8 (c 2 : Nat)) ∧ wr.cell? ⟨a, 3, none⟩ = some (.int .u8 (c 3 : Nat)) ∧ wr.cell? ⟨p, 0, none⟩ = some (.int .u8 (u 0 : Nat)) ∧ wr.cell? ⟨p, 1, none⟩ = some (.int .u8 (u 1 : Nat)) ∧ wr.cell? ⟨p, 2, none⟩ = some (.int .u8 (u 2 : Nat)) ∧ wr.cell? ⟨p, 3, none⟩ = some (.int .u8 (u 3 : Nat)) ∧ Below w.heap.size w wr
theorem kept3 {w w1 : World} {g a p : Nat} {x c u : Nat → Nat} (h1 : Has w1 g x) (h2 : Has w1 a c) (h3 : Has w1 p u) (hb : Below w.heap.size w w1) : Kept3 w g a p x c u w1 :=
  ⟨h1 0 (by decide), h1 1 (by decide), h1 2 (by decide), h1 3 (by decide), h2 0 (by decide), h2 1 (by decide), h2 2 (by decide), h2 3 (by decide), h3 0 (by decide), h3 1 (by decide), h3 2 (by decide), h3 3 (by decide), hb⟩
theorem Kept3.has {w w1 : World} {g a p : Nat} {x c u : Nat → Nat} (h : Kept3 w g a p x c u w1) : Has w1 g x ∧ Has w1 a c ∧ Has w1 p u ∧ Below w.heap.size w w1 := by
  obtain ⟨h0, h1, h2, h3, k0, k1, k2, k3, l0, l1, l2, l3, hb⟩ := h
  exact ⟨four h0 h1 h2 h3, four k0 k1 k2 k3, four l0 l1 l2 l3, hb⟩
theorem Kept3.grow {w w1 w2 : World} {g a p : Nat} {x c u : Nat → Nat} (h : Kept3 w g a p x c u w1) (hb : Below w1.heap.size w1 w2) : Kept3 w g a p x c u w2 := by
  obtain ⟨h1, h2, h3, h4⟩ := h.has
  exact kept3 (h1.grow hb) (h2.grow hb) (h3.grow hb) (h4.trans (hb.mono h4.size))
theorem mix_kept3 (f : Nat → Nat) (w0 w : World) (g a p : Nat) (x c u : Nat → Nat) (of : ∀ j, f j < 256) (h : Kept3 w0 g a p x c u w) :
    Calls Try.prog 24 #[(.agg #[.int .u8 (f 0 : Nat), .int .u8 (f 1 : Nat), .int .u8 (f 2 : Nat), .int .u8 (f 3 : Nat)])] w fun e w' => e = .returned (.agg #[.int .u8 (mix f 0 : Nat), .int .u8 (mix f 1 : Nat), .int .u8 (mix f 2 : Nat), .int .u8 (mix f 3 : Nat)]) ∧ Kept3 w0 g a p x c u w' :=
  (mix_any f w of).mono fun e w' ⟨he, hb⟩ => ⟨he, h.grow hb⟩
theorem unmix_kept3 (f : Nat → Nat) (w0 w : World) (g a p : Nat) (x c u : Nat → Nat) (of : ∀ j, f j < 256) (h : Kept3 w0 g a p x c u w) :
    Calls Try.prog 26 #[(.agg #[.int .u8 (f 0 : Nat), .int .u8 (f 1 : Nat), .int .u8 (f 2 : Nat), .int .u8 (f 3 : Nat)])] w fun e w' => e = .returned (.agg #[.int .u8 (unmix f 0 : Nat), .int .u8 (unmix f 1 : Nat), .int .u8 (unmix f 2 : Nat), .int .u8 (unmix f 3 : Nat)]) ∧ Kept3 w0 g a p x c u w' :=
  (unmix_any f w of).mono fun e w' ⟨he, hb⟩ => ⟨he, h.grow hb⟩
theorem known_kept3 (w0 w : World) (g a p : Nat) (x c u : Nat → Nat) (h : Kept3 w0 g a p x c u w) :
    Calls Try.prog 15 #[] w fun e w' => e = .returned (.bool true) ∧ Kept3 w0 g a p x c u w' :=
  (known_any w).mono fun e w' ⟨he, hw⟩ => ⟨he, hw ▸ h⟩

set_option maxHeartbeats 8000000 in
theorem columns_law (c d : Nat → Nat) (w : World) (oc : ∀ j, c j < 256) (od : ∀ j, d j < 256) :
    Calls Try.prog 12 #[(.agg #[.int .u8 (c 0 : Nat), .int .u8 (c 1 : Nat), .int .u8 (c 2 : Nat), .int .u8 (c 3 : Nat)]), (.agg #[.int .u8 (d 0 : Nat), .int .u8 (d 1 : Nat), .int .u8 (d 2 : Nat), .int .u8 (d 3 : Nat)])] w fun e w' => e = .returned (.bool true) ∧ Below w.heap.size w w' := by
  go_enter Try.func12, Try.ntmps12
  go_upto_region 1 with fail
  obtain ⟨w1, hw1⟩ : ∃ w1, w1 = (w.alloc (.cells #[.int .u8 (c 0 : Nat), .int .u8 (c 1 : Nat), .int .u8 (c 2 : Nat), .int .u8 (c 3 : Nat)] 30)).alloc (.cells #[.int .u8 (d 0 : Nat), .int .u8 (d 1 : Nat), .int .u8 (d 2 : Nat), .int .u8 (d 3 : Nat)] 30) := ⟨_, rfl⟩
  have hk1 : Kept2 w w.heap.size (w.heap.size + 1) c d w1 := by
    rw [hw1]
    refine ⟨?_, ?_, ?_, ?_, ?_, ?_, ?_, ?_, ((Below.refl _ _).alloc (Nat.le_refl _) _).alloc (by simp) _⟩ <;> simp
  rw [← hw1]
  clear hw1
  have HK1 := hid hk1
  obtain ⟨a, ha⟩ : ∃ a, a = w.heap.size := ⟨_, rfl⟩
  obtain ⟨b, hb⟩ : ∃ b, b = w.heap.size + 1 := ⟨_, rfl⟩
  rw [← hb, ← ha] at hk1 ⊢
  have hk0 : Kept2 w1 a b c d w1 := hk1.self
  have hz0 := hk0.lt
  have HA := hid ha
  have HB := hid hb
  clear ha hb hk1
  go_cut [5, 6] (fun s5 s6 wx => Pair w1 a b c d (mix c) (mix d) s5 s6 wx)
  case first =>
    go_region_held3 (fun w' => w'.cell? ⟨a, 0, none⟩ = some (.int .u8 (c 0 : Nat)) ∧ w'.cell? ⟨a, 1, none⟩ = some (.int .u8 (c 1 : Nat)) ∧ w'.cell? ⟨a, 2, none⟩ = some (.int .u8 (c 2 : Nat)) ∧ w'.cell? ⟨a, 3, none⟩ = some (.int .u8 (c 3 : Nat)) ∧ w'.cell? ⟨b, 0, none⟩ = some (.int .u8 (d 0 : Nat)) ∧ w'.cell? ⟨b, 1, none⟩ = some (.int .u8 (d 1 : Nat)) ∧ w'.cell? ⟨b, 2, none⟩ = some (.int .u8 (d 2 : Nat)) ∧ w'.cell? ⟨b, 3, none⟩ = some (.int .u8 (d 3 : Nat)) ∧ Below w1.heap.size w1 w') (((repeat (first | with_reducible assumption | with_reducible refine Kept2.drew ?_ | with_reducible refine Kept2.alloc ?_ _ | with_reducible refine Kept2.set4 ?_ _ _ _ _ _ (by omega) (by omega) (by omega))); done))
      (first
        | (go_at_call 24; ((with_reducible refine (mix_kept2 c w1 _ _ _ c d oc (by assumption)).mono ?_); rintro e w' ⟨rfl, hk, hb⟩; have hz := hk.lt;  (first | ((with_reducible have n := fresh_new2d hb); have m1 := n.1.facts; have m2 := n.2.facts; have f1 := n.1; have f2 := n.2; have l1 := f1.lt (by decide); have l2 := f2.lt (by decide)) | ((with_reducible have n := fresh_new1d hb); have m1 := n.facts; have l1 := n.lt (by decide)) | skip)))
        | (go_at_call 24; ((with_reducible refine (mix_kept2 d w1 _ _ _ c d od (by assumption)).mono ?_); rintro e w' ⟨rfl, hk, hb⟩; have hz := hk.lt;  (first | ((with_reducible have n := fresh_new2 hb); have m1 := n.1.facts; have m2 := n.2.facts; have f1 := n.1; have f2 := n.2; have l1 := f1.lt (by decide); have l2 := f2.lt (by decide)) | ((with_reducible have n := fresh_pair0 (by assumption) hb); have m1 := n.1.facts; have m2 := n.2.facts; have f1 := n.1; have f2 := n.2; have l1 := f1.lt (by decide); have l2 := f2.lt (by decide)) | ((with_reducible have n := fresh_new1 hb); have m1 := n.facts; have l1 := n.lt (by decide); (try ((with_reducible have n' := fresh_old1 (by assumption) hb); have m2 := n'.facts; have l2 := n'.lt (by decide)))) | ((with_reducible have n := fresh_old0 (by assumption) hb); have m1 := n.facts; have l1 := n.lt (by decide)) | skip))))
    all_goals
      go_wp2_with fail
      go_meet
      refine ⟨_, _, rfl, rfl, ?_, ?_, ?_⟩
      · repeat (first | with_reducible exact arr_new4 (by simp) | with_reducible exact arr_set4 (by assumption) _ | with_reducible exact arr_set4 (fresh_beside4 (by assumption) _ _ _ _ (by omega)) _ | with_reducible refine Arr.alloc ?_ _ | with_reducible refine Arr.beside4 ?_ _ _ _ _ (by omega))
      · repeat (first | with_reducible exact arr_new4 (by simp) | with_reducible exact arr_set4 (by assumption) _ | with_reducible exact arr_set4 (fresh_beside4 (by assumption) _ _ _ _ (by omega)) _ | with_reducible refine Arr.alloc ?_ _ | with_reducible refine Arr.beside4 ?_ _ _ _ _ (by omega))
      · with_reducible assumption
  case rest =>
    obtain ⟨g, h, rfl, rfl, ax, ay, hk⟩ := hcut
    have hk0 : Kept2 wc a b c d wc := hk.self
    have hz0 := hk0.lt
    have AX := hid ax
    have AY := hid ay
    have HK2 := hid hk
    have BW := hid (HK1.out.2.2.2.2.2.2.2.2.trans (hk.2.2.2.2.2.2.2.2.mono HK1.out.2.2.2.2.2.2.2.2.size))
    clear ax ay hk HK1 HA HB
    go_upto_region 2 with fail
    go_cut [7, 8] (fun s7 s8 wx => Pair wc a b c d (unmix c) (unmix d) s7 s8 wx)
    case first =>
      go_region_held3 (fun w' => w'.cell? ⟨a, 0, none⟩ = some (.int .u8 (c 0 : Nat)) ∧ w'.cell? ⟨a, 1, none⟩ = some (.int .u8 (c 1 : Nat)) ∧ w'.cell? ⟨a, 2, none⟩ = some (.int .u8 (c 2 : Nat)) ∧ w'.cell? ⟨a, 3, none⟩ = some (.int .u8 (c 3 : Nat)) ∧ w'.cell? ⟨b, 0, none⟩ = some (.int .u8 (d 0 : Nat)) ∧ w'.cell? ⟨b, 1, none⟩ = some (.int .u8 (d 1 : Nat)) ∧ w'.cell? ⟨b, 2, none⟩ = some (.int .u8 (d 2 : Nat)) ∧ w'.cell? ⟨b, 3, none⟩ = some (.int .u8 (d 3 : Nat)) ∧ Below wc.heap.size wc w') (((repeat (first | with_reducible assumption | with_reducible refine Kept2.drew ?_ | with_reducible refine Kept2.alloc ?_ _ | with_reducible refine Kept2.set4 ?_ _ _ _ _ _ (by omega) (by omega) (by omega))); done))
        (first
          | (go_at_call 26; ((with_reducible refine (unmix_kept2 c wc _ _ _ c d oc (by assumption)).mono ?_); rintro e w' ⟨rfl, hk, hb⟩; have hz := hk.lt;  (first | ((with_reducible have n := fresh_new2d hb); have m1 := n.1.facts; have m2 := n.2.facts; have f1 := n.1; have f2 := n.2; have l1 := f1.lt (by decide); have l2 := f2.lt (by decide)) | ((with_reducible have n := fresh_new1d hb); have m1 := n.facts; have l1 := n.lt (by decide)) | skip)))
          | (go_at_call 26; ((with_reducible refine (unmix_kept2 d wc _ _ _ c d od (by assumption)).mono ?_); rintro e w' ⟨rfl, hk, hb⟩; have hz := hk.lt;  (first | ((with_reducible have n := fresh_new2 hb); have m1 := n.1.facts; have m2 := n.2.facts; have f1 := n.1; have f2 := n.2; have l1 := f1.lt (by decide); have l2 := f2.lt (by decide)) | ((with_reducible have n := fresh_pair0 (by assumption) hb); have m1 := n.1.facts; have m2 := n.2.facts; have f1 := n.1; have f2 := n.2; have l1 := f1.lt (by decide); have l2 := f2.lt (by decide)) | ((with_reducible have n := fresh_new1 hb); have m1 := n.facts; have l1 := n.lt (by decide); (try ((with_reducible have n' := fresh_old1 (by assumption) hb); have m2 := n'.facts; have l2 := n'.lt (by decide)))) | ((with_reducible have n := fresh_old0 (by assumption) hb); have m1 := n.facts; have l1 := n.lt (by decide)) | skip))))
      all_goals
        go_wp2_with fail
        go_meet
        refine ⟨_, _, rfl, rfl, ?_, ?_, ?_⟩
        · repeat (first | with_reducible exact arr_new4 (by simp) | with_reducible exact arr_set4 (by assumption) _ | with_reducible exact arr_set4 (fresh_beside4 (by assumption) _ _ _ _ (by omega)) _ | with_reducible refine Arr.alloc ?_ _ | with_reducible refine Arr.beside4 ?_ _ _ _ _ (by omega))
        · repeat (first | with_reducible exact arr_new4 (by simp) | with_reducible exact arr_set4 (by assumption) _ | with_reducible exact arr_set4 (fresh_beside4 (by assumption) _ _ _ _ (by omega)) _ | with_reducible refine Arr.alloc ?_ _ | with_reducible refine Arr.beside4 ?_ _ _ _ _ (by omega))
        · with_reducible assumption
    case rest =>
      obtain ⟨p, q, rfl, rfl, au, av, hk⟩ := hcut
      have HS := hid (show Six w a b g h p q c d wc from
        ⟨⟨four hk.1 hk.2.1 hk.2.2.1 hk.2.2.2.1, four hk.2.2.2.2.1 hk.2.2.2.2.2.1 hk.2.2.2.2.2.2.1 hk.2.2.2.2.2.2.2.1⟩, ⟨(AX.out.below hk.2.2.2.2.2.2.2.2).has, (AY.out.below hk.2.2.2.2.2.2.2.2).has⟩, ⟨au.has, av.has⟩, BW.out.trans (hk.2.2.2.2.2.2.2.2.mono BW.out.size)⟩)
      clear hk au av AX AY BW HK2 hk0 hz0
      obtain ⟨e, he⟩ : ∃ e, e = wc.heap.size := ⟨_, rfl⟩
      have HL := hid (show Ahead w a b g h p q e from by rw [he]; exact HS.out.ahead)
      have HE := hid he
      clear he
      go_wp2
      have HS0 := hid (show Summing w a b g h p q e c d 0 (wc.alloc (.cells #[.int .u8 0, .int .u8 0, .int .u8 0, .int .u8 0] 30)) from
        ⟨HS.out.grow ((Below.refl _ _).alloc (Nat.le_refl _) _), by rw [HE.out]; exact (arr_new wc 4 (fun _ => 0) 30).same fun j _ => by simp [esum]⟩)
      rw [← HE.out]
      generalize (wc.alloc (.cells #[.int .u8 0, .int .u8 0, .int .u8 0, .int .u8 0] 30)) = w4 at HS0 ⊢
      clear HS HE
      go_loopw [22] (fun i wr => ∃ n : Nat, n ≤ 4 ∧ i = .int .i64 (n : Int) ∧ Summing w a b g h p q e c d n wr) (fun i _ => 4 - (intOf i).toNat)
      case atStart => exact ⟨0, by decide, rfl, HS0.out⟩
      case round =>
        clear HS0
        obtain ⟨n, hn, rfl, hsum⟩ := hrel
        by_cases hlt : n < 4
        · have h1 := hsum.1.1.1 n hlt
          have h2 := hsum.1.1.2 n hlt
          obtain ⟨h3, h4⟩ := hsum.2 n hlt
          have hnI : (n : Int) < 4 := by omega
          have H := hid hsum
          clear hsum
          go_wp2
          go_region
          go_wp2
          go_roundw
          case rel => exact ⟨n + 1, by omega, by go_num, H.out.step HL.out hlt oc od⟩
          case measure => simp [intOf]; omega
        · obtain rfl : n = 4 := by omega
          rw [show ((4 : Nat) : Int) = 4 from rfl]
          have hE : Arr wr e 4 (fun t => c t ^^^ d t) := hsum.2.same fun j hj => by unfold esum; rw [if_pos hj]
          have HS := hid hsum.1
          clear hsum
          obtain ⟨E, hEq⟩ : ∃ E : Nat → Nat, E = fun t => c t ^^^ d t := ⟨_, rfl⟩
          have oe : ∀ j, E j < 256 := fun j => by rw [hEq]; exact xor_lt256 (oc j) (od j)
          rw [← hEq] at hE
          have HEq := hid hEq
          clear hEq
          have hk0 : Kept2 wr e e E E wr := ⟨hE.has 0 (by decide), hE.has 1 (by decide), hE.has 2 (by decide), hE.has 3 (by decide), hE.has 0 (by decide), hE.has 1 (by decide), hE.has 2 (by decide), hE.has 3 (by decide), Below.refl _ _⟩
          have hz0 := hk0.lt
          clear hE
          go_upto_region 9 with fail
          go_cut [11, 12] (fun s11 s12 wx => Pair wr e e E E (mix E) (unmix E) s11 s12 wx)
          case first =>
            go_region_held3 (fun w' => w'.cell? ⟨e, 0, none⟩ = some (.int .u8 (E 0 : Nat)) ∧ w'.cell? ⟨e, 1, none⟩ = some (.int .u8 (E 1 : Nat)) ∧ w'.cell? ⟨e, 2, none⟩ = some (.int .u8 (E 2 : Nat)) ∧ w'.cell? ⟨e, 3, none⟩ = some (.int .u8 (E 3 : Nat)) ∧ w'.cell? ⟨e, 0, none⟩ = some (.int .u8 (E 0 : Nat)) ∧ w'.cell? ⟨e, 1, none⟩ = some (.int .u8 (E 1 : Nat)) ∧ w'.cell? ⟨e, 2, none⟩ = some (.int .u8 (E 2 : Nat)) ∧ w'.cell? ⟨e, 3, none⟩ = some (.int .u8 (E 3 : Nat)) ∧ Below wr.heap.size wr w') (((repeat (first | with_reducible assumption | with_reducible refine Kept2.drew ?_ | with_reducible refine Kept2.alloc ?_ _ | with_reducible refine Kept2.set4 ?_ _ _ _ _ _ (by omega) (by omega) (by omega))); done))
              (first
                | (go_at_call 24; ((with_reducible refine (mix_kept2 E wr _ _ _ E E oe (by assumption)).mono ?_); rintro e' w' ⟨rfl, hk, hb⟩; have hz := hk.lt;  (first | ((with_reducible have n := fresh_new2d hb); have m1 := n.1.facts; have m2 := n.2.facts; have f1 := n.1; have f2 := n.2; have l1 := f1.lt (by decide); have l2 := f2.lt (by decide)) | ((with_reducible have n := fresh_new1d hb); have m1 := n.facts; have l1 := n.lt (by decide)) | skip)))
                | (go_at_call 26; ((with_reducible refine (unmix_kept2 E wr _ _ _ E E oe (by assumption)).mono ?_); rintro e' w' ⟨rfl, hk, hb⟩; have hz := hk.lt;  (first | ((with_reducible have n := fresh_new2 hb); have m1 := n.1.facts; have m2 := n.2.facts; have f1 := n.1; have f2 := n.2; have l1 := f1.lt (by decide); have l2 := f2.lt (by decide)) | ((with_reducible have n := fresh_pair0 (by assumption) hb); have m1 := n.1.facts; have m2 := n.2.facts; have f1 := n.1; have f2 := n.2; have l1 := f1.lt (by decide); have l2 := f2.lt (by decide)) | ((with_reducible have n := fresh_new1 hb); have m1 := n.facts; have l1 := n.lt (by decide); (try ((with_reducible have n' := fresh_old1 (by assumption) hb); have m2 := n'.facts; have l2 := n'.lt (by decide)))) | ((with_reducible have n := fresh_old0 (by assumption) hb); have m1 := n.facts; have l1 := n.lt (by decide)) | skip))))
            all_goals
              go_wp2_with fail
              go_meet
              refine ⟨_, _, rfl, rfl, ?_, ?_, ?_⟩
              · repeat (first | with_reducible exact arr_new4 (by simp) | with_reducible exact arr_set4 (by assumption) _ | with_reducible exact arr_set4 (fresh_beside4 (by assumption) _ _ _ _ (by omega)) _ | with_reducible refine Arr.alloc ?_ _ | with_reducible refine Arr.beside4 ?_ _ _ _ _ (by omega))
              · repeat (first | with_reducible exact arr_new4 (by simp) | with_reducible exact arr_set4 (by assumption) _ | with_reducible exact arr_set4 (fresh_beside4 (by assumption) _ _ _ _ (by omega)) _ | with_reducible refine Arr.alloc ?_ _ | with_reducible refine Arr.beside4 ?_ _ _ _ _ (by omega))
              · with_reducible assumption
          case rest =>
            obtain ⟨z, v, rfl, rfl, az, av, hk⟩ := hcut
            have HS2 := hid (HS.out.grow hk.2.2.2.2.2.2.2.2)
            have AZ := hid az.has
            have AV := hid av.has
            have MZ : ∀ t, Hid (mix E t = mix c t ^^^ mix d t) := fun t => by rw [HEq.out]; exact mix_add c d t
            have MV : ∀ t, Hid (unmix E t = unmix c t ^^^ unmix d t) := fun t => by rw [HEq.out]; exact unmix_add c d t
            clear az av hk HS hk0 hz0
            go_wp2
            go_loopw [39] (fun i w6 => ∃ n : Nat, n ≤ 4 ∧ i = .int .i64 (n : Int) ∧ Hid (Six w a b g h p q c d w6) ∧ Hid (Has w6 z (mix E)) ∧ Hid (Has w6 v (unmix E))) (fun i _ => 4 - (intOf i).toNat)
            case atStart => exact ⟨0, by decide, rfl, HS2, AZ, AV⟩
            case round =>
              clear HS2 AZ AV
              obtain ⟨n, hn, rfl, HS, AZ, AV⟩ := hrel
              by_cases hlt : n < 4
              · have h1 := HS.out.2.1.1 n hlt
                have h2 := HS.out.2.1.2 n hlt
                have h3 := HS.out.2.2.1.1 n hlt
                have h4 := HS.out.2.2.1.2 n hlt
                have h5 := AZ.out n hlt
                have h6 := AV.out n hlt
                have x1 : bits .xor .u8 (mix c n : Nat) (mix d n : Nat) = (mix E n : Nat) := by rw [(MZ n).out]; exact xor_nat (mix_lt c n) (mix_lt d n)
                have x2 : bits .xor .u8 (unmix c n : Nat) (unmix d n : Nat) = (unmix E n : Nat) := by rw [(MV n).out]; exact xor_nat (unmix_lt c n) (unmix_lt d n)
                have hnI : (n : Int) < 4 := by omega
                clear MZ MV
                go_wp2
                go_quiet (fail)
                go_wp2
                go_roundw
                case rel => exact ⟨n + 1, by omega, by go_num, hid (HS.out.drewN nq), hid (AZ.out.drewN nq), hid (AV.out.drewN nq)⟩
                case measure => simp [intOf]; omega
              · obtain rfl : n = 4 := by omega
                rw [show ((4 : Nat) : Int) = 4 from rfl]
                have hk0 : Kept3 wr g a p (mix c) c (unmix c) wr := kept3 HS.out.2.1.1 HS.out.1.1 HS.out.2.2.1.1 (Below.refl _ _)
                have hkd : Kept3 wr g a p (mix c) c (unmix c) wr.drew := kept3 HS.out.2.1.1 HS.out.1.1 HS.out.2.2.1.1 (Below.refl _ _).drew
                have BW := hid HS.out.2.2.2
                have om : ∀ j, mix c j < 256 := mix_lt c
                have ou : ∀ j, unmix c j < 256 := unmix_lt c
                have e1 := fun w => same4 (unmix (mix c)) c w (unmix_mix c oc)
                have e2 := fun w => same4 (mix (unmix c)) c w (mix_unmix c oc)
                clear HS AZ AV MZ MV
                go_upto_region 16 with fail
                go_region_held3 (fun w' => w'.cell? ⟨g, 0, none⟩ = some (.int .u8 (mix c 0 : Nat)) ∧ w'.cell? ⟨g, 1, none⟩ = some (.int .u8 (mix c 1 : Nat)) ∧ w'.cell? ⟨g, 2, none⟩ = some (.int .u8 (mix c 2 : Nat)) ∧ w'.cell? ⟨g, 3, none⟩ = some (.int .u8 (mix c 3 : Nat)) ∧ w'.cell? ⟨a, 0, none⟩ = some (.int .u8 (c 0 : Nat)) ∧ w'.cell? ⟨a, 1, none⟩ = some (.int .u8 (c 1 : Nat)) ∧ w'.cell? ⟨a, 2, none⟩ = some (.int .u8 (c 2 : Nat)) ∧ w'.cell? ⟨a, 3, none⟩ = some (.int .u8 (c 3 : Nat)) ∧ w'.cell? ⟨p, 0, none⟩ = some (.int .u8 (unmix c 0 : Nat)) ∧ w'.cell? ⟨p, 1, none⟩ = some (.int .u8 (unmix c 1 : Nat)) ∧ w'.cell? ⟨p, 2, none⟩ = some (.int .u8 (unmix c 2 : Nat)) ∧ w'.cell? ⟨p, 3, none⟩ = some (.int .u8 (unmix c 3 : Nat)) ∧ Below wr.heap.size wr w') (with_reducible assumption)
                  (first
                    | (go_at_call 26; ((with_reducible refine (unmix_kept3 (mix c) wr _ _ _ _ (mix c) c (unmix c) om (by assumption)).mono ?_); rintro e' w' ⟨rfl, hk⟩))
                    | (go_at_call 24; ((with_reducible refine (mix_kept3 (unmix c) wr _ _ _ _ (mix c) c (unmix c) ou (by assumption)).mono ?_); rintro e' w' ⟨rfl, hk⟩))
                    | (go_at_call 15; ((with_reducible refine (known_kept3 wr _ _ _ _ (mix c) c (unmix c) (by assumption)).mono ?_); rintro e' w' ⟨rfl, hk⟩)))
                all_goals
                  go_wp2
                  go_ret
                  exact ⟨rfl, BW.out.trans (hk.has.2.2.2.mono BW.out.size)⟩
end Go.Proofs.Ytijgnlocpkandaa
