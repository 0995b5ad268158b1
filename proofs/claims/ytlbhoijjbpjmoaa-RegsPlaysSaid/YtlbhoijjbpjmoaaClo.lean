/-
  bytes.Clone: the same bytes in memory of its own.
-/
import Derived.Test.YtlbhoijjbpjmoaaKa
import Derived.Lib.SliceRun
namespace Go.Proofs.Ytlbhoijjbpjmoaa
open Go.RowKit
set_option linter.unusedVariables false
set_option linter.unusedSimpArgs false

/-- No byte in a new array is one's own slice. -/
theorem own_none (w : World) : Own w.heap.size (w.alloc (.cells #[] 5)) (.slice (some ⟨w.heap.size, 0, none⟩) 0 0) 0 [] :=
  ⟨rfl, .inr ⟨w.heap.size, 0, #[], rfl, Nat.le_refl _, heap_alloc_new w _, Nat.le_refl _, by unfold maxLen; omega, rfl, rfl⟩⟩

set_option maxHeartbeats 2000000 in
set_option maxRecDepth 100000 in
theorem clone_of (p : Option Addr) (c n : Nat) (xs : List Int) (w : World) (hp : Bin w p xs) (hl : xs.length = n) (hm : n ≤ 140737488351232) :
    Calls Try.prog 33 #[.slice p n c] w fun e w' => ∃ v, e = .returned v ∧ Own w.heap.size w' v n xs ∧ Below w.heap.size w w' := by
  obtain ⟨i0, hi, hz0, hz1, hz2⟩ := info_parts Try.infoU8
  have qT : ∀ (w : World) (a : Option Addr) (n c n' c' : Nat), (binOp .eql 31 (.slice a n c) (.slice none n' c')).run Try.prog w = .ok (.bool a.isNone) w := fun w a n c n' c' => Lib.run_eql_slice_nil w _ _ a n c n' c' Try.underlying31
  cases p with
  | none =>
    have h0 : xs.length = 0 := by
      by_cases h : 0 < xs.length
      · obtain ⟨_, _, e, _⟩ := hp h
        cases e
      · omega
    obtain rfl : n = 0 := by omega
    obtain rfl : xs = [] := List.length_eq_zero_iff.1 h0
    go_enter Try.func33, Try.ntmps33
    go_wp2
    go_ret
    exact ⟨_, rfl, Own.nil _ _, Below.refl _ _⟩
  | some a =>
    have hO := hid (own_none w)
    go_enter Try.func33, Try.ntmps33
    go_wp2_with (at_builtin; refine wpList_append_bin rfl (.tmp 5) (.tmp 6) 31 rfl i0 Try.underlying31 hi hz0 hz1 hz2 w.heap.size _ 0 _ rfl (by exact hO.out) (some a) n c xs rfl hl (by exact hp.below ((Below.refl _ _).alloc (Nat.le_refl _) _)) (by omega) (by simp) ?_; intro p3 c3 w3 hO3 hg3 _)
    go_ret
    refine ⟨_, rfl, ?_, ((Below.refl _ _).alloc (Nat.le_refl _) _).grown hg3 (by simp) (fun q hq => (World.ownsRow.lt hO.out q hq).1)⟩
    have := hO3
    rw [Nat.zero_add, List.nil_append] at this
    exact this
end Go.Proofs.Ytlbhoijjbpjmoaa
