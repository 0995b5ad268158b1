/-
  The document's reader: Num, Byte, Done.
-/
import Derived.Test.YtphmdjhmgmjmgaaPt
import Derived.Test.YtphmdjhmgmjmgaaCn
import Derived.Deep.QuietTactic
import Derived.BigQuiet
import Derived.BigRegion
namespace Go.Proofs.Ytphmdjhmgmjmgaa
open Go.RowKit
set_option linter.unusedVariables false
set_option linter.unusedSimpArgs false

/-- A reader in a block of its own: its bytes, its place, its fault. -/
structure Rdr (w : World) (g : Nat) (v : Value) (at0 : Nat) (f : Int) : Prop where
  c0 : w.cell? ⟨g, 0, none⟩ = some v
  c1 : w.cell? ⟨g, 1, none⟩ = some (.int .i64 (at0 : Nat))
  c2 : w.cell? ⟨g, 2, none⟩ = some (.int .i64 f)
  z1 : w.frozen? ⟨g, 1, none⟩ = false
  z2 : w.frozen? ⟨g, 2, none⟩ = false
/-- What Done answers. -/
def rdDone (n at0 : Nat) (f : Int) : Int := if f = 0 ∧ at0 < n then 5 else f

set_option maxHeartbeats 4000000 in
set_option maxRecDepth 100000 in
theorem refDone_of (g : Nat) (p : Option Addr) (n c at0 : Nat) (f : Int) (w : World) (hR : Rdr w g (.slice p n c) at0 f) :
    Calls Try.prog 25 #[.pointer (some ⟨g, 0, none⟩)] w fun e w' => e = .returned (.tuple #[.int .i64 (rdDone n at0 f), .int .i64 (at0 : Nat)]) ∧ Below w.heap.size w w' := by
  obtain ⟨c0, c1, c2, _, _⟩ := hR
  by_cases h : f = 0 ∧ at0 < n
  · have e : rdDone n at0 f = 5 := if_pos h
    rw [e]
    obtain ⟨rfl, hn⟩ := h
    have i1 : (at0 : Int) < (n : Int) := by omega
    go_enter Try.func25, Try.ntmps25
    go_wp2
    go_quiet (fail)
    all_goals
      go_wp2
      go_quiet (fail)
      rename_i nq
      go_wp2
      go_ret2
      exact ⟨rfl, below_drewN (below_drewN (Below.refl _ _) _) _⟩
  · have e : rdDone n at0 f = f := if_neg h
    rw [e]
    clear e
    by_cases hf : f = 0
    · have i1 : ¬ (at0 : Int) < (n : Int) := by omega
      subst hf
      clear h
      go_enter Try.func25, Try.ntmps25
      go_wp2
      go_quiet (fail)
      all_goals
        go_wp2
        go_quiet (fail)
        rename_i nq
        go_wp2
        go_ret2
        exact ⟨rfl, below_drewN (below_drewN (Below.refl _ _) _) _⟩
    · clear h
      go_enter Try.func25, Try.ntmps25
      go_wp2
      go_quiet (fail)
      all_goals
        go_wp2
        go_quiet (fail)
        rename_i nq
        go_wp2
        go_ret2
        exact ⟨rfl, below_drewN (below_drewN (Below.refl _ _) _) _⟩

/-- What Byte does. -/
def rdByte (xs : List Int) (at0 : Nat) (f : Int) : Int × Nat × Int := if f = 0 then (if at0 < xs.length then (xs.getD at0 0, at0 + 1, 0) else (0, at0, 4)) else (0, at0, f)
theorem Rdr.set1 {w : World} {g : Nat} {v : Value} {at0 : Nat} {f : Int} (h : Rdr w g v at0 f) (k : Nat) : Rdr (w.setCell ⟨g, 1, none⟩ (.int .i64 (k : Nat))) g v k f :=
  ⟨(World.cell?_setCell_other w _ _ _ (by simp)).trans h.c0, World.cell?_setCell_same w _ _ h.c1, (World.cell?_setCell_other w _ _ _ (by simp)).trans h.c2, (by rw [World.frozen?_setCell]; exact h.z1), (by rw [World.frozen?_setCell]; exact h.z2)⟩
theorem Rdr.set2 {w : World} {g : Nat} {v : Value} {at0 : Nat} {f : Int} (h : Rdr w g v at0 f) (e : Int) : Rdr (w.setCell ⟨g, 2, none⟩ (.int .i64 e)) g v at0 e :=
  ⟨(World.cell?_setCell_other w _ _ _ (by simp)).trans h.c0, (World.cell?_setCell_other w _ _ _ (by simp)).trans h.c1, World.cell?_setCell_same w _ _ h.c2, (by rw [World.frozen?_setCell]; exact h.z1), (by rw [World.frozen?_setCell]; exact h.z2)⟩
theorem Rdr.drewN {w : World} {g : Nat} {v : Value} {at0 : Nat} {f : Int} (h : Rdr w g v at0 f) (k : Nat) : Rdr (w.drewN k) g v at0 f := ⟨h.c0, h.c1, h.c2, h.z1, h.z2⟩
theorem gb_cell {w w1 : World} {g : Nat} (h : w.grownBy w1 (some g)) (o : Nat) (v : Value) : w.grownBy (w1.setCell ⟨g, o, none⟩ v) (some g) := gb_set (vs := [v]) (o := o) h (.inl rfl)
theorem gb_drewN {w w1 : World} {r : Option Nat} (h : w.grownBy w1 r) (k : Nat) : w.grownBy (w1.drewN k) r := ⟨h.os, h.tape, h.output, h.size, h.block⟩

set_option maxHeartbeats 4000000 in
set_option maxRecDepth 100000 in
theorem refByte_of (g : Nat) (p : Option Addr) (n c at0 : Nat) (f : Int) (xs : List Int) (w : World) (hR : Rdr w g (.slice p n c) at0 f) (hp : Bin w p xs) (ho : Oct xs) (hl : xs.length = n) (hat : at0 ≤ n) (hm : n ≤ 140737488351232) (hne : ∀ a, p = some a → a.block ≠ g) :
    Calls Try.prog 20 #[.pointer (some ⟨g, 0, none⟩)] w fun e w' => e = .returned (.int .u8 (rdByte xs at0 f).1) ∧ Rdr w' g (.slice p n c) (rdByte xs at0 f).2.1 (rdByte xs at0 f).2.2 ∧ w.grownBy w' (some g) := by
  have HRR := hid hR
  obtain ⟨c0, c1, c2, z1, z2⟩ := hR
  have hg0 := hid (gb_of (some g) (Below.refl w.heap.size w))
  by_cases hf : f = 0
  · by_cases h : at0 < n
    · have e : rdByte xs at0 f = (xs.getD at0 0, at0 + 1, 0) := by unfold rdByte; rw [if_pos hf, if_pos (by omega)]
      rw [e]
      clear e
      subst hf
      obtain ⟨b, o, rfl, _, hc⟩ := hp.at (by omega)
      have hck := hc at0 (by omega)
      have hbg := hne _ rfl
      have hbl : b < w.heap.size := World.block_lt_of_cell? w _ hck
      generalize xs.getD at0 0 = x at hck
      have i1 : ¬ (at0 : Int) = (n : Int) := by omega
      have i2 : (at0 : Int) < (n : Int) := by omega
      clear hc
      go_enter Try.func20, Try.ntmps20
      go_upto_region 3 with fail
      go_quiet (fail)
      rename_i nq
      have r1 : Rdr ((w.drewN nq).setCell ⟨g, 1, none⟩ (.int .i64 ((at0 : Int) + 1))) g (.slice (some ⟨b, o, none⟩) n c) (at0 + 1) 0 := (HRR.out.drewN nq).set1 (at0 + 1)
      have r2 : ((w.drewN nq).setCell ⟨g, 1, none⟩ (.int .i64 ((at0 : Int) + 1))).cell? ⟨b, o + at0, none⟩ = some (.int .u8 x) := (World.cell?_setCell_other (w.drewN nq) _ _ _ (by intro e; injection e with e1; exact hbg e1.symm)).trans hck
      have r3 : w.grownBy ((w.drewN nq).setCell ⟨g, 1, none⟩ (.int .i64 ((at0 : Int) + 1))) (some g) := gb_cell (gb_drewN hg0.out nq) 1 _
      have q1 := hid r1
      have q2 := hid r2
      have q3 := hid r3
      clear r1 r2 r3
      go_upto_region 7 with fail
      clear c0 c1 c2 hck z1 z2
      generalize (w.drewN nq).setCell ⟨g, 1, none⟩ (.int .i64 ((at0 : Int) + 1)) = w1 at q1 q2 q3 ⊢
      obtain ⟨c0, c1, c2, z1, z2⟩ := q1.out
      have hck := q2.out
      have i3 : ((at0 + 1 : Nat) : Int) - 1 = (at0 : Int) := by omega
      go_quiet (fail)
      go_wp2
      go_ret
      exact ⟨rfl, q1.out.drewN _, gb_drewN q3.out _⟩
    · have e : rdByte xs at0 f = (0, at0, 4) := by unfold rdByte; rw [if_pos hf, if_neg (by omega)]
      rw [e]
      clear e
      subst hf
      obtain rfl : at0 = n := by omega
      have HR2 := hid (HRR.out.set2 4)
      have HG2 := hid (gb_cell hg0.out 2 (.int .i64 4))
      go_enter Try.func20, Try.ntmps20
      go_wp2
      go_quiet (fail)
      rename_i nq
      go_wp2
      go_ret
      exact ⟨rfl, HR2.out.drewN nq, gb_drewN HG2.out nq⟩
  · have e : rdByte xs at0 f = (0, at0, f) := by unfold rdByte; rw [if_neg hf]
    rw [e]
    clear e
    go_enter Try.func20, Try.ntmps20
    go_wp2
    go_ret
    exact ⟨rfl, HRR.out, hg0.out⟩
end Go.Proofs.Ytphmdjhmgmjmgaa
