/-
  DiskPlays: the row's step round the walk 'dplays_law'.
-/
import Derived.Test.YthnakonndlebbaaRows
import Derived.WalkKit
import Derived.ProofKit
import Derived.OpenShut
import Derived.ShutString
import Derived.ChangeOld
import Derived.Below
import Derived.SizedLaws
import Derived.Test.YthnakonndlebbaaDp4
import Derived.Test.YthnakonndlebbaaOsz
namespace Go.Proofs.Ythnakonndlebbaa.diskPlays
open Go.ChangeShapes Go.WideShapes Go.ChangeAt Go.RowKit
open Go.ChangeMaps (open_string shut_string)
set_option linter.unusedVariables false

theorem own : ownKnob Try.prog.godebug = none := by kernel_rfl
theorem laidOut : laidOutB Try.prog = true := by kernel_rfl
set_option maxRecDepth 100000 in
theorem lifted (os : Os) (started : os.Started) (H : Type) (enc : TypeId × Value → H) :
    ReturnsInHanded {} Try.checked os 3 .any (Rows.diskPlaysSpec.pre6 enc Try.prog Try.f3 Rows.diskPlaysRow.domain false) (Rows.diskPlaysSpec.post enc Try.prog Try.f3 false true false false) := by
  refine returnsInHanded_of_change_sized (C := Try.checked) own started (by kernel_rfl) Try.func3
    (ChangeSpec.witness6 (enc := enc) (C := Try.checked) false ⟨#[], #[.int .i64 0, .slice none 0 0], []⟩ 8 (by kernel_rfl) (by kernel_rfl) (by kernel_rfl) (by kernel_rfl)) ?_
  intro W base args ds gs before hval0 hW hcnd hsz0 _
  have hval : ∀ (j : Nat) t v, Try.f3.params[j]? = some t → args[j]? = some v → Value.okWide Try.prog W .any base t v := hval0
  have hsz : (DataW.weightsEach Try.prog (Try.f3.params.toList ++ Rows.diskPlaysSpec.plain.varTypes Try.prog) (ds ++ gs)).all (· ≤ reachBytes) = true := hsz0
  have hW' := hW
  obtain ⟨p, q, hA0, hV, rfl, hfz, hnd⟩ := hW
  have hA : DataW.TrodAll enc Try.prog W 0 (fun _ => true) true Try.f3.params.toList args.toList ds p := hA0
  rw [Try.params3] at hA hval hsz
  obtain ⟨v0, vs0, d0, ds0, p0, q0, hargs, rfl, rfl, h0, r0⟩ := trodAll_cons hA
  obtain ⟨v1, vs1, d1, ds1, p1, q1, rfl, rfl, rfl, h1, r1⟩ := trodAll_cons r0
  obtain ⟨rfl, rfl, rfl⟩ := trodAll_nil r1
  obtain rfl : args = #[v0, v1] := by cases args; simp_all
  obtain ⟨rfl, rfl⟩ := trodVars_none hV
  obtain ⟨a0, rfl, rfl, rfl, w0⟩ := open_int Try.underlying3 (hval 0 3 v0 rfl rfl) h0
  obtain ⟨a1, len1, c1, rfl⟩ := okWide_slice Try.underlying22 (hval 1 22 v1 rfl rfl)
  have k1 := h1
  have lt1 : ∀ x ∈ p1, x.block < W.heap.size := by obtain ⟨m, hm⟩ := k1; exact DataW.trod_lt m _ _ _ hm
  obtain ⟨F1_0, F1_1, F1_2, F1_3, F1_4, s1, q1, b1, g1_0, g1_1, g1_2, g1_3, g1_4⟩ : ∃ (F1_0 : Nat → Int) (F1_1 : Nat → Int) (F1_2 : Nat → Int) (F1_3 : Nat → Option Addr × Nat × List Int) (F1_4 : Nat → Option Addr × Nat × List Int), len1 ≤ maxLen ∧ len1 ≤ c1 ∧ Rws W a1 len1 [fun i => .int .i64 (F1_0 i), fun i => .int .i64 (F1_1 i), fun i => .int .i64 (F1_2 i), fun i => .slice (F1_3 i).1 (F1_3 i).2.2.length (F1_3 i).2.1, fun i => .slice (F1_4 i).1 (F1_4 i).2.2.length (F1_4 i).2.1] ∧ (∀ i, i < len1 → (Lit.int .i64 (F1_0 i)).wf = true) ∧ (∀ i, i < len1 → (Lit.int .i64 (F1_1 i)).wf = true) ∧ (∀ i, i < len1 → (Lit.int .i64 (F1_2 i)).wf = true) ∧ (∀ i, i < len1 → Bin W (F1_3 i).1 (F1_3 i).2.2 ∧ Oct (F1_3 i).2.2 ∧ (F1_3 i).2.2.length ≤ (F1_3 i).2.1 ∧ (F1_3 i).2.2.length ≤ 140737488351232) ∧ (∀ i, i < len1 → Bin W (F1_4 i).1 (F1_4 i).2.2 ∧ Oct (F1_4 i).2.2 ∧ (F1_4 i).2.2.length ≤ (F1_4 i).2.1 ∧ (F1_4 i).2.2.length ≤ 140737488351232) := by
    obtain ⟨fuel, hf⟩ := h1
    have hwk : Wok Try.prog 22 d1 := wok_param hsz (j := 1) rfl rfl
    rcases open_rows_sized Try.underlying22 Try.underlying36 (by kernel_rfl) (by kernel_rfl) hwk hf with hcs | ⟨x, l, c, V, hcs, hl, hm, hV⟩
    · simp [Value.cells] at hcs
      obtain ⟨rfl, rfl, rfl⟩ := hcs
      exact ⟨fun _ => 0, fun _ => 0, fun _ => 0, fun _ => (none, 0, []), fun _ => (none, 0, []), Nat.zero_le _, Nat.le_refl _, Rws.nil _ _ _, fun i hi => absurd hi (Nat.not_lt_zero _), fun i hi => absurd hi (Nat.not_lt_zero _), fun i hi => absurd hi (Nat.not_lt_zero _), fun i hi => absurd hi (Nat.not_lt_zero _), fun i hi => absurd hi (Nat.not_lt_zero _)⟩
    · simp [Value.cells] at hcs
      obtain ⟨rfl, rfl, rfl⟩ := hcs
      obtain ⟨f0, hf0⟩ := rows_int Try.underlying3 (fun i hi => let ⟨n, y, h, _⟩ := (hV i hi 0 _ rfl).2; ⟨n, y, h⟩)
      obtain ⟨f1, hf1⟩ := rows_int Try.underlying3 (fun i hi => let ⟨n, y, h, _⟩ := (hV i hi 1 _ rfl).2; ⟨n, y, h⟩)
      obtain ⟨f2, hf2⟩ := rows_int Try.underlying3 (fun i hi => let ⟨n, y, h, _⟩ := (hV i hi 2 _ rfl).2; ⟨n, y, h⟩)
      obtain ⟨f3, hf3⟩ := rows_bytes_sized Try.underlying34 Try.underlying5 (by kernel_rfl) (by kernel_rfl) (fun i hi => (hV i hi 3 _ rfl).2)
      obtain ⟨f4, hf4⟩ := rows_bytes_sized Try.underlying34 Try.underlying5 (by kernel_rfl) (by kernel_rfl) (fun i hi => (hV i hi 4 _ rfl).2)
      refine ⟨f0, f1, f2, f3, f4, Nat.le_trans hl hm, hl, rws_of (Nat.succ_pos _) (fun i hi j c hj => ?_), fun i hi => (hf0 i hi).2, fun i hi => (hf1 i hi).2, fun i hi => (hf2 i hi).2, fun i hi => (hf3 i hi).2, fun i hi => (hf4 i hi).2⟩
      rcases j with _ | j
      · cases hj; exact (hV i hi 0 _ rfl).1.trans (congrArg some (hf0 i hi).1)
      rcases j with _ | j
      · cases hj; exact (hV i hi 1 _ rfl).1.trans (congrArg some (hf1 i hi).1)
      rcases j with _ | j
      · cases hj; exact (hV i hi 2 _ rfl).1.trans (congrArg some (hf2 i hi).1)
      rcases j with _ | j
      · cases hj; exact (hV i hi 3 _ rfl).1.trans (congrArg some (hf3 i hi).1)
      rcases j with _ | j
      · cases hj; exact (hV i hi 4 _ rfl).1.trans (congrArg some (hf4 i hi).1)
      · cases hj
  clear hA0 hval0 hsz0 hsz
  refine (dplays_law a0 a1 len1 c1 F1_0 F1_1 F1_2 F1_3 F1_4 W w0 s1 q1 b1 g1_0 g1_1 g1_2 g1_3 g1_4).mono fun e W' ⟨he, bel⟩ => ?_
  subst he
  exact ⟨_, rfl, _, _, _, [], _, [], hW', trodAll_mk1 (shut_bool Try.underlying4 _), (trodAll_cons_mk (shut_int Try.underlying3 w0) (trodAll_cons_mk (Below.trod laidOut (by kernel_rfl) (of_decide_eq_true (by kernel_rfl)) k1 bel lt1) trodAll_mk0)), rfl, bel.frame _, fun h => by cases h⟩

theorem over : Rows.diskPlaysRow.holds Try.pinned (OpenSpec.ofChange Rows.diskPlaysSpec) :=
  OpenClaim.holds_of_wide 3 Try.f3 rfl rfl rfl rfl rfl rfl rfl ⟨rfl, rfl, rfl, rfl, rfl⟩ rfl rfl rfl rfl rfl (by kernel_rfl) Try.func3 (by kernel_rfl)
    (of_decide_eq_true (by kernel_rfl)) (by unfold Func.isWrapper; first | (rw [if_pos (by decide +kernel)]; kernel_rfl) | (rw [if_neg (by decide +kernel)]; exact ⟨rfl, rfl⟩))
    (fun os started H enc _ => lifted os started H enc)

/-- The statement. -/
theorem proved : Rows.DiskPlaysSaid := over
end Go.Proofs.Ythnakonndlebbaa.diskPlays
