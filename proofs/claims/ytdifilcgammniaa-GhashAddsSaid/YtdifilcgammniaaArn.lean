/-
  Arrays of sixteen bytes in blocks of their own, as a region that makes and writes them keeps them.
-/
import Derived.Test.YtdifilcgammniaaGhsum
namespace Go.Proofs.Ytdifilcgammniaa
open Go.RowKit
set_option linter.unusedVariables false
set_option linter.unusedSimpArgs false

/-- No two in one block. -/
def Arn (w0 : World) (bs : List (Nat × (Nat → Nat))) (w : World) : Prop := Ars w0 bs w ∧ bs.Pairwise (fun p q => p.1 ≠ q.1) ∧ ∀ q ∈ bs, w0.heap.size ≤ q.1
variable {w0 w w' : World} {bs l : List (Nat × (Nat → Nat))} {a b c : Nat × (Nat → Nat)} {g : Nat} {x y : Nat → Nat}
theorem Arn.grow (h : Arn w0 bs w) (hb : Below w.heap.size w w') : Arn w0 bs w' := ⟨h.1.grow hb, h.2⟩
theorem Arn.below (h : Arn w0 bs w) : Below w0.heap.size w0 w := h.1.2
theorem Arn.at (h : Arn w0 bs w) (hm : (g, x) ∈ bs) : Arr w g 16 x := h.1.1 _ hm
theorem Arn.tail (h : Arn w0 (a :: l) w) : Arn w0 l w := ⟨⟨fun q hq => h.1.1 q (List.mem_cons_of_mem _ hq), h.1.2⟩, (List.pairwise_cons.1 h.2.1).2, fun q hq => h.2.2 q (List.mem_cons_of_mem _ hq)⟩
theorem Arn.swap (h : Arn w0 (a :: b :: l) w) : Arn w0 (b :: a :: l) w := by
  obtain ⟨h1, h2, h3⟩ := h
  rw [List.pairwise_cons, List.pairwise_cons] at h2
  refine ⟨⟨fun q hq => h1.1 q ?_, h1.2⟩, ?_, fun q hq => h3 q ?_⟩
  · simp at hq ⊢; rcases hq with h | h | h <;> simp [h]
  · rw [List.pairwise_cons, List.pairwise_cons]
    refine ⟨fun q hq => ?_, fun q hq => h2.1 q (List.mem_cons_of_mem _ hq), h2.2.2⟩
    rcases List.mem_cons.1 hq with rfl | hq
    · exact fun e => h2.1 b (by simp) e.symm
    · exact h2.2.1 q hq
  · simp at hq ⊢; rcases hq with h | h | h <;> simp [h]
/-- A new one. -/
theorem Arn.fresh (h : Arn w0 bs w) (t : TypeId) : Arn w0 ((w.heap.size, fun _ => 0) :: bs) (w.alloc (.cells (vals 16 fun _ => 0).toArray t)) := by
  have hg := h.grow ((Below.refl w.heap.size w).alloc (Nat.le_refl _) (.cells (vals 16 fun _ => 0).toArray t))
  refine ⟨⟨fun q hq => ?_, hg.1.2⟩, ?_, fun q hq => ?_⟩
  · rcases List.mem_cons.1 hq with rfl | hq
    · exact arr_new w 16 _ t
    · exact hg.1.1 q hq
  · rw [List.pairwise_cons]
    refine ⟨fun q hq e => ?_, h.2.1⟩
    have := (h.1.1 q hq).lt (by decide)
    simp only at e
    omega
  · rcases List.mem_cons.1 hq with rfl | hq
    · exact h.1.2.size
    · exact h.2.2 q hq
/-- The first one written. -/
theorem Arn.put0 (h : Arn w0 ((g, x) :: l) w) (y : Nat → Nat) : Arn w0 ((g, y) :: l) (w.setCells g 0 (vals 16 y)) := by
  obtain ⟨h1, h2, h3⟩ := h
  rw [List.pairwise_cons] at h2
  refine ⟨h1.put (h3 (g, x) (by simp)) (fun q hq e => h2.1 q hq e.symm) y, ?_, fun q hq => ?_⟩
  · rw [List.pairwise_cons]; exact h2
  · rcases List.mem_cons.1 hq with rfl | hq
    · exact h3 (g, x) (by simp)
    · exact h3 q (by simp [hq])
theorem Arn.put1 (h : Arn w0 (a :: (g, x) :: l) w) (y : Nat → Nat) : Arn w0 (a :: (g, y) :: l) (w.setCells g 0 (vals 16 y)) := (h.swap.put0 y).swap
/-- The second and the third changed about. -/
theorem Arn.swap1 (h : Arn w0 (a :: b :: c :: l) w) : Arn w0 (a :: c :: b :: l) w := by
  obtain ⟨h1, h2, h3⟩ := h
  rw [List.pairwise_cons, List.pairwise_cons, List.pairwise_cons] at h2
  refine ⟨⟨fun q hq => h1.1 q ?_, h1.2⟩, ?_, fun q hq => h3 q ?_⟩
  · simp at hq ⊢; rcases hq with h | h | h | h <;> simp [h]
  · rw [List.pairwise_cons, List.pairwise_cons, List.pairwise_cons]
    refine ⟨fun q hq => h2.1 q ?_, fun q hq => ?_, fun q hq => h2.2.1 q (List.mem_cons_of_mem _ hq), h2.2.2.2⟩
    · simp at hq ⊢; rcases hq with h | h | h <;> simp [h]
    · rcases List.mem_cons.1 hq with rfl | hq
      · exact fun e => h2.2.1 c (by simp) e.symm
      · exact h2.2.2.1 q hq
  · simp at hq ⊢; rcases hq with h | h | h | h <;> simp [h]

/-- One of three may come up. -/
theorem wpAnyZ_three {P : Program} {ops : Array Oper} {Q : Exit → Act → World → Prop} {md : Region.Mode} {S : World → Prop} {z : Nat} {i j k : Nat} {o p q : Oper} {fuel : Nat} {listed : Array Bool} {a : Act} {w : World}
    (hr : Region.ready md ops listed = [i, j, k]) (ho : ops[i]? = some o) (hp : ops[j]? = some p) (hq : ops[k]? = some q)
    (h : ∀ K' : Act → World → Prop, Shut (∀ a w, (i < z → S w) → wpAnyZ P md ops Q S z fuel (listed.setIfInBounds i true) a w → K' a w) → if Region.wanted o (yielded ops a.tmps) = true then Oper.wp P o a w K' Q else K' (a.put o.dst undef) w)
    (g : ∀ K' : Act → World → Prop, Shut (∀ a w, (j < z → S w) → wpAnyZ P md ops Q S z fuel (listed.setIfInBounds j true) a w → K' a w) → if Region.wanted p (yielded ops a.tmps) = true then Oper.wp P p a w K' Q else K' (a.put p.dst undef) w)
    (f : ∀ K' : Act → World → Prop, Shut (∀ a w, (k < z → S w) → wpAnyZ P md ops Q S z fuel (listed.setIfInBounds k true) a w → K' a w) → if Region.wanted q (yielded ops a.tmps) = true then Oper.wp P q a w K' Q else K' (a.put q.dst undef) w) :
    wpAnyZ P md ops Q S z (fuel + 1) listed a w :=
  ⟨fun h0 => (by rw [hr] at h0; cases h0), fun n hn => (by
    rw [hr, List.mem_cons, List.mem_cons, List.mem_singleton] at hn
    rcases hn with rfl | rfl | rfl
    · exact wpOp_step ho (fun K' hK => h K' (fun a w hS hW => hK a w ⟨hS, hW⟩))
    · exact wpOp_step hp (fun K' hK => g K' (fun a w hS hW => hK a w ⟨hS, hW⟩))
    · exact wpOp_step hq (fun K' hK => f K' (fun a w hS hW => hK a w ⟨hS, hW⟩)))⟩
end Go.Proofs.Ytdifilcgammniaa
