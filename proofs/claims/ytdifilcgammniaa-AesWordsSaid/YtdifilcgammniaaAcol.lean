/-
  The document's column of a state.
-/
import Derived.Test.YtdifilcgammniaaAref2
import Derived.Test.YtdifilcgammniaaLast
namespace Go.Proofs.Ytdifilcgammniaa
open Go.RowKit
set_option linter.unusedVariables false
set_option linter.unusedSimpArgs false

set_option maxHeartbeats 2000000 in
set_option maxRecDepth 100000 in
theorem refColumn_any (x : Nat → Nat) (q : Nat) (w : World) (hq : q < 4) :
    Calls Try.prog 44 #[.agg (vals 16 x).toArray, .int .i64 q] w fun e w' =>
      e = .returned (.agg (vals 4 fun p => x (4 * q + p)).toArray) ∧ Below w.heap.size w w' := by
  have hzw := Try.zeroWord
  obtain ⟨wa, hwa, b1, b2, hB⟩ : ∃ wa, Hid (wa = (w.alloc (.cells (vals 16 x).toArray 35)).alloc (.cells (vals 4 fun _ => 0).toArray 34)) ∧ Arr wa w.heap.size 16 x ∧ Arr wa (w.heap.size + 1) 4 (fun _ => 0) ∧ Below w.heap.size w wa := by
    refine ⟨_, rfl, (arr_new w 16 x 35).alloc _, ?_, ((Below.refl w.heap.size w).alloc (Nat.le_refl _) _).alloc (by simp) _⟩
    have := arr_new (w.alloc (.cells (vals 16 x).toArray 35)) 4 (fun _ => 0) 34
    simpa using this
  have p1 : (0 : Int) ≤ 4 * (q : Int) + 1 := by omega
  have l1 : 4 * (q : Int) + 1 < 16 := by omega
  have t1 : (4 * (q : Int) + 1).toNat = 4 * q + 1 := by omega
  have p2 : (0 : Int) ≤ 4 * (q : Int) + 2 := by omega
  have l2 : 4 * (q : Int) + 2 < 16 := by omega
  have t2 : (4 * (q : Int) + 2).toNat = 4 * q + 2 := by omega
  have p3 : (0 : Int) ≤ 4 * (q : Int) + 3 := by omega
  have l3 : 4 * (q : Int) + 3 < 16 := by omega
  have t3 : (4 * (q : Int) + 3).toNat = 4 * q + 3 := by omega
  have p0 : (0 : Int) ≤ 4 * (q : Int) := by omega
  have l0 : 4 * (q : Int) < 16 := by omega
  have t0 : (4 * (q : Int)).toNat = 4 * q := by omega
  have v0 : IntKind.i64.wrap (4 * (q : Int)) = 4 * (q : Int) := by simp [IntKind.wrap, IntKind.bits, IntKind.signed]; omega
  have v1 : IntKind.i64.wrap (4 * (q : Int) + 1) = 4 * (q : Int) + 1 := by simp [IntKind.wrap, IntKind.bits, IntKind.signed]; omega
  have v2 : IntKind.i64.wrap (4 * (q : Int) + 2) = 4 * (q : Int) + 2 := by simp [IntKind.wrap, IntKind.bits, IntKind.signed]; omega
  have v3 : IntKind.i64.wrap (4 * (q : Int) + 3) = 4 * (q : Int) + 3 := by simp [IntKind.wrap, IntKind.bits, IntKind.signed]; omega
  go_enter Try.func44, Try.ntmps44
  go_wp2_with fail
  rw [← hwa.out]
  have c0 := (b1 (4 * q) (by omega)).1
  have c1 := (b1 (4 * q + 1) (by omega)).1
  have c2 := (b1 (4 * q + 2) (by omega)).1
  have c3 := (b1 (4 * q + 3) (by omega)).1
  obtain ⟨r0, f0⟩ := b2 0 (by decide)
  obtain ⟨r1, f1⟩ := b2 1 (by decide)
  obtain ⟨r2, f2⟩ := b2 2 (by decide)
  obtain ⟨r3, f3⟩ := b2 3 (by decide)
  have HP := hid (b2.put4 (fun p => x (4 * q + p)))
  have HB := hid (Below.put4 hB (b := w.heap.size + 1) (by omega) (fun p => x (4 * q + p)))
  clear b1 b2 hB hwa hzw
  go_region
  all_goals
    go_wp2_with fail
    have h4 := HP.out.drew
    have hbb := HB.out.drew
    unfold put4 at h4 hbb
    refine bodyPost_ret (v := .agg (vals 4 fun p => x (4 * q + p)).toArray) ?_ rfl ⟨rfl, hbb⟩
    exact results_cell_arr rfl _ _ 4 _ _ rfl h4 Try.underlying34 rfl Try.sizeWord
end Go.Proofs.Ytdifilcgammniaa
