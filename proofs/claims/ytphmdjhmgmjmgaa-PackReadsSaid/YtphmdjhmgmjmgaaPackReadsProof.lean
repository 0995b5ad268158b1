/-
  PackReads: the row's step round the walk 'preads_law'.
-/
import Derived.Test.YtphmdjhmgmjmgaaRows
import Derived.WalkKit
import Derived.ProofKit
import Derived.OpenShut
import Derived.ShutString
import Derived.ChangeOld
import Derived.Below
import Derived.SizedLaws
import Derived.Test.YtphmdjhmgmjmgaaPrl
import Derived.Test.YtphmdjhmgmjmgaaOrw
namespace Go.Proofs.Ytphmdjhmgmjmgaa.packReads
open Go.ChangeShapes Go.WideShapes Go.ChangeAt Go.RowKit
open Go.ChangeMaps (open_string shut_string)
set_option linter.unusedVariables false

theorem own : ownKnob Try.prog.godebug = none := by kernel_rfl
theorem laidOut : laidOutB Try.prog = true := by kernel_rfl
theorem bytesU8 : Try.prog.bytesOf 5 = 1 := by kernel_rfl

set_option maxRecDepth 100000 in
theorem lifted (os : Os) (started : os.Started) (H : Type) (enc : TypeId × Value → H) :
    ReturnsInHanded {} Try.checked os 5 .any (Rows.packReadsSpec.pre6 enc Try.prog Try.f5 Rows.packReadsRow.domain false) (Rows.packReadsSpec.post enc Try.prog Try.f5 false true false false) := by
  refine returnsInHanded_of_change_sized (C := Try.checked) own started (by kernel_rfl) Try.func5
    (ChangeSpec.witness6 (enc := enc) (C := Try.checked) false ⟨#[], #[.slice none 0 0, .slice none 0 0], []⟩ 8 (by kernel_rfl) (by kernel_rfl) (by kernel_rfl) (by kernel_rfl)) ?_
  intro W base args ds gs before hval0 hW hcnd hsz0 _
  have hval : ∀ (j : Nat) t v, Try.f5.params[j]? = some t → args[j]? = some v → Value.okWide Try.prog W .any base t v := hval0
  have hsz : (DataW.weightsEach Try.prog (Try.f5.params.toList ++ Rows.packReadsSpec.plain.varTypes Try.prog) (ds ++ gs)).all (· ≤ reachBytes) = true := hsz0
  have hW' := hW
  obtain ⟨p, q, hA0, hV, rfl, hfz, hnd⟩ := hW
  have hA : DataW.TrodAll enc Try.prog W 0 (fun _ => true) true Try.f5.params.toList args.toList ds p := hA0
  rw [Try.params5] at hA hval hsz
  obtain ⟨v0, vs0, d0, ds0, p0, q0, hargs, rfl, rfl, h0, r0⟩ := trodAll_cons hA
  obtain ⟨v1, vs1, d1, ds1, p1, q1, rfl, rfl, rfl, h1, r1⟩ := trodAll_cons r0
  obtain ⟨rfl, rfl, rfl⟩ := trodAll_nil r1
  obtain rfl : args = #[v0, v1] := by cases args; simp_all
  obtain ⟨rfl, rfl⟩ := trodVars_none hV
  obtain ⟨a0, len0, c0, rfl⟩ := okWide_slice Try.underlying24 (hval 0 24 v0 rfl rfl)
  have k0 := h0
  have lt0 : ∀ x ∈ p0, x.block < W.heap.size := by obtain ⟨m, hm⟩ := k0; exact DataW.trod_lt m _ _ _ hm
  obtain ⟨x0, b0, o0, hl0, s0, q0⟩ : ∃ xs : List Int, Bin W a0 xs ∧ Oct xs ∧ xs.length = len0 ∧ xs.length ≤ 140737488351232 ∧ xs.length ≤ c0 := by
    obtain ⟨fuel, hf⟩ := h0
    rcases open_ints Try.underlying24 Try.underlying5 (by kernel_rfl) hf with ⟨hcs, _⟩ | ⟨x, l, c, zs, hcs, _, hl, hm, hz, hx, hcell, hwz⟩
    · simp [Value.cells] at hcs
      obtain ⟨rfl, rfl, rfl⟩ := hcs
      exact ⟨[], Bin.nil _ _, Oct.nil, rfl, by simp, by simp⟩
    · simp [Value.cells] at hcs
      obtain ⟨rfl, rfl, rfl⟩ := hcs
      have hd := (Prod.mk.inj hx).1
      have hs := sized_slice hsz (j := 0) (t := 24) (e := 5) rfl (congrArg some hd) Try.underlying24
      rw [bytesU8] at hs
      simp only [lits, List.length_map, List.length_take, List.length_drop, reachBytes] at hs
      have hz' : zs.length = c0 := by simpa using hz
      exact ⟨zs.take len0, bin_of_cells hcell (by omega), oct_of_wf hwz, by simp; omega, by simp; omega, by simp; omega⟩
  subst hl0
  obtain ⟨a1, len1, c1, rfl⟩ := okWide_slice Try.underlying30 (hval 1 30 v1 rfl rfl)
  have k1 := h1
  have lt1 : ∀ x ∈ p1, x.block < W.heap.size := by obtain ⟨m, hm⟩ := k1; exact DataW.trod_lt m _ _ _ hm
  obtain ⟨F1_0, F1_1, s1, q1, b1, g1_0, g1_1⟩ : ∃ (F1_0 : Nat → Int) (F1_1 : Nat → Int), len1 ≤ maxLen ∧ len1 ≤ c1 ∧ Rws W a1 len1 [fun i => .int .i64 (F1_0 i), fun i => .int .i64 (F1_1 i)] ∧ (∀ i, i < len1 → (Lit.int .i64 (F1_0 i)).wf = true) ∧ (∀ i, i < len1 → (Lit.int .i64 (F1_1 i)).wf = true) := by
    obtain ⟨fuel, hf⟩ := h1
    rcases open_rows Try.underlying30 Try.underlying37 (by kernel_rfl) (by kernel_rfl) hf with hcs | ⟨x, l, c, V, hcs, hl, hm, hV⟩
    · simp [Value.cells] at hcs
      obtain ⟨rfl, rfl, rfl⟩ := hcs
      exact ⟨fun _ => 0, fun _ => 0, Nat.zero_le _, Nat.le_refl _, Rws.nil _ _ _, fun i hi => absurd hi (Nat.not_lt_zero _), fun i hi => absurd hi (Nat.not_lt_zero _)⟩
    · simp [Value.cells] at hcs
      obtain ⟨rfl, rfl, rfl⟩ := hcs
      obtain ⟨f0, hf0⟩ := rows_int Try.underlying3 (fun i hi => (hV i hi 0 _ rfl).2)
      obtain ⟨f1, hf1⟩ := rows_int Try.underlying3 (fun i hi => (hV i hi 1 _ rfl).2)
      refine ⟨f0, f1, Nat.le_trans hl hm, hl, rws_of (Nat.succ_pos _) (fun i hi j c hj => ?_), fun i hi => (hf0 i hi).2, fun i hi => (hf1 i hi).2⟩
      rcases j with _ | j
      · cases hj; exact (hV i hi 0 _ rfl).1.trans (congrArg some (hf0 i hi).1)
      rcases j with _ | j
      · cases hj; exact (hV i hi 1 _ rfl).1.trans (congrArg some (hf1 i hi).1)
      · cases hj
  clear hA0 hval0 hsz0 hsz
  refine (preads_law a0 c0 x0 a1 len1 c1 F1_0 F1_1 W b0 o0 s0 q0 s1 q1 b1 g1_0 g1_1).mono fun e W' ⟨he, bel⟩ => ?_
  subst he
  exact ⟨_, rfl, _, _, _, [], _, [], hW', trodAll_mk1 (shut_bool Try.underlying4 _), (trodAll_cons_mk (Below.trod laidOut (by kernel_rfl) (of_decide_eq_true (by kernel_rfl)) k0 bel lt0) (trodAll_cons_mk (Below.trod laidOut (by kernel_rfl) (of_decide_eq_true (by kernel_rfl)) k1 bel lt1) trodAll_mk0)), rfl, bel.frame _, fun h => by cases h⟩

theorem over : Rows.packReadsRow.holds Try.pinned (OpenSpec.ofChange Rows.packReadsSpec) :=
  OpenClaim.holds_of_wide 5 Try.f5 rfl rfl rfl rfl rfl rfl rfl ⟨rfl, rfl, rfl, rfl, rfl⟩ rfl rfl rfl rfl rfl (by kernel_rfl) Try.func5 (by kernel_rfl)
    (of_decide_eq_true (by kernel_rfl)) (by unfold Func.isWrapper; first | (rw [if_pos (by decide +kernel)]; kernel_rfl) | (rw [if_neg (by decide +kernel)]; exact ⟨rfl, rfl⟩))
    (fun os started H enc _ => lifted os started H enc)

/-- The statement. -/
theorem proved : Rows.PackReadsSaid := over
end Go.Proofs.Ytphmdjhmgmjmgaa.packReads
