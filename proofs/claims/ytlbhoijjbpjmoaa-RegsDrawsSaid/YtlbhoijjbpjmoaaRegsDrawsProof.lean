/-
  RegsDraws: the row's step round the walk 'rdraws_law'.
-/
import Derived.Test.YtlbhoijjbpjmoaaRows
import Derived.WalkKit
import Derived.ProofKit
import Derived.OpenShut
import Derived.ShutString
import Derived.ChangeOld
import Derived.Below
import Derived.SizedLaws
import Derived.Test.YtlbhoijjbpjmoaaRrd
import Derived.Test.YtlbhoijjbpjmoaaOfl
namespace Go.Proofs.Ytlbhoijjbpjmoaa.regsDraws
open Go.ChangeShapes Go.WideShapes Go.ChangeAt Go.RowKit
open Go.ChangeMaps (open_string shut_string)
set_option linter.unusedVariables false

theorem own : ownKnob Try.prog.godebug = none := by kernel_rfl
theorem laidOut : laidOutB Try.prog = true := by kernel_rfl
set_option maxRecDepth 100000 in
theorem lifted (os : Os) (started : os.Started) (H : Type) (enc : TypeId × Value → H) :
    ReturnsInHanded {} Try.checked os 6 .any (Rows.regsDrawsSpec.pre6 enc Try.prog Try.f6 Rows.regsDrawsRow.domain false) (Rows.regsDrawsSpec.post enc Try.prog Try.f6 false true false false) := by
  refine returnsInHanded_of_change_sized (C := Try.checked) own started (by kernel_rfl) Try.func6
    (ChangeSpec.witness6 (enc := enc) (C := Try.checked) false ⟨#[], #[.slice none 0 0, .slice none 0 0], []⟩ 8 (by kernel_rfl) (by kernel_rfl) (by kernel_rfl) (by kernel_rfl)) ?_
  intro W base args ds gs before hval0 hW hcnd hsz0 _
  have hval : ∀ (j : Nat) t v, Try.f6.params[j]? = some t → args[j]? = some v → Value.okWide Try.prog W .any base t v := hval0
  have hsz : (DataW.weightsEach Try.prog (Try.f6.params.toList ++ Rows.regsDrawsSpec.plain.varTypes Try.prog) (ds ++ gs)).all (· ≤ reachBytes) = true := hsz0
  have hW' := hW
  obtain ⟨p, q, hA0, hV, rfl, hfz, hnd⟩ := hW
  have hA : DataW.TrodAll enc Try.prog W 0 (fun _ => true) true Try.f6.params.toList args.toList ds p := hA0
  rw [Try.params6] at hA hval hsz
  obtain ⟨v0, vs0, d0, ds0, p0, q0, hargs, rfl, rfl, h0, r0⟩ := trodAll_cons hA
  obtain ⟨v1, vs1, d1, ds1, p1, q1, rfl, rfl, rfl, h1, r1⟩ := trodAll_cons r0
  obtain ⟨rfl, rfl, rfl⟩ := trodAll_nil r1
  obtain rfl : args = #[v0, v1] := by cases args; simp_all
  obtain ⟨rfl, rfl⟩ := trodVars_none hV
  obtain ⟨a0, len0, c0, rfl⟩ := okWide_slice Try.underlying23 (hval 0 23 v0 rfl rfl)
  have k0 := h0
  have lt0 : ∀ x ∈ p0, x.block < W.heap.size := by obtain ⟨m, hm⟩ := k0; exact DataW.trod_lt m _ _ _ hm
  obtain ⟨F0_0, s0, q0, b0, g0_0⟩ : ∃ (F0_0 : Nat → Option Addr × Nat × List Int), len0 ≤ maxLen ∧ len0 ≤ c0 ∧ Rws W a0 len0 [fun i => .slice (F0_0 i).1 (F0_0 i).2.2.length (F0_0 i).2.1] ∧ (∀ i, i < len0 → Bin W (F0_0 i).1 (F0_0 i).2.2 ∧ Oct (F0_0 i).2.2 ∧ (F0_0 i).2.2.length ≤ (F0_0 i).2.1 ∧ (F0_0 i).2.2.length ≤ 140737488351232) := by
    obtain ⟨fuel, hf⟩ := h0
    have hwk : Wok Try.prog 23 d0 := wok_param hsz (j := 0) rfl rfl
    have hce : Try.prog.cellsOf 31 = 1 := by kernel_rfl
    rcases open_flat Try.underlying23 hwk hf with hcs | ⟨x, l, c, V, hcs, hl, hm, hV⟩
    · simp [Value.cells] at hcs
      obtain ⟨rfl, rfl, rfl⟩ := hcs
      exact ⟨fun _ => (none, 0, []), Nat.zero_le _, Nat.le_refl _, Rws.nil _ _ _, fun i hi => absurd hi (Nat.not_lt_zero _)⟩
    · simp [Value.cells] at hcs
      obtain ⟨rfl, rfl, rfl⟩ := hcs
      rw [hce] at hV
      have R0 : ∀ i, i < len0 → Rd enc Try.prog W 0 (fun _ => true) true 31 [(V i).getD 0 undef] := fun i hi => by
        exact rd_all (hV i hi).2.2 (hV i hi).1
      obtain ⟨f0, hf0⟩ := col_bytes Try.underlying31 Try.underlying5 (by kernel_rfl) (by kernel_rfl) (V := fun i => (V i).getD 0 undef) R0
      refine ⟨f0, Nat.le_trans hl hm, hl, rws_of (Nat.succ_pos _) (fun i hi j c hj => ?_), fun i hi => (hf0 i hi).2⟩
      rcases j with _ | j
      · cases hj; exact ((hV i hi).2.1 0 (by decide)).trans (congrArg some (hf0 i hi).1)
      · cases hj
  obtain ⟨a1, len1, c1, rfl⟩ := okWide_slice Try.underlying64 (hval 1 64 v1 rfl rfl)
  have k1 := h1
  have lt1 : ∀ x ∈ p1, x.block < W.heap.size := by obtain ⟨m, hm⟩ := k1; exact DataW.trod_lt m _ _ _ hm
  obtain ⟨F1_0, s1, q1, b1, g1_0⟩ : ∃ (F1_0 : Nat → Int), len1 ≤ maxLen ∧ len1 ≤ c1 ∧ Rws W a1 len1 [fun i => .int .i64 (F1_0 i)] ∧ (∀ i, i < len1 → (Lit.int .i64 (F1_0 i)).wf = true) := by
    obtain ⟨fuel, hf⟩ := h1
    have hwk : Wok Try.prog 64 d1 := wok_param hsz (j := 1) rfl rfl
    have hce : Try.prog.cellsOf 3 = 1 := by kernel_rfl
    rcases open_flat Try.underlying64 hwk hf with hcs | ⟨x, l, c, V, hcs, hl, hm, hV⟩
    · simp [Value.cells] at hcs
      obtain ⟨rfl, rfl, rfl⟩ := hcs
      exact ⟨fun _ => 0, Nat.zero_le _, Nat.le_refl _, Rws.nil _ _ _, fun i hi => absurd hi (Nat.not_lt_zero _)⟩
    · simp [Value.cells] at hcs
      obtain ⟨rfl, rfl, rfl⟩ := hcs
      rw [hce] at hV
      have R0 : ∀ i, i < len1 → Rd enc Try.prog W 0 (fun _ => true) true 3 [(V i).getD 0 undef] := fun i hi => by
        exact rd_all (hV i hi).2.2 (hV i hi).1
      obtain ⟨f0, hf0⟩ := col_int Try.underlying3 (V := fun i => (V i).getD 0 undef) R0
      refine ⟨f0, Nat.le_trans hl hm, hl, rws_of (Nat.succ_pos _) (fun i hi j c hj => ?_), fun i hi => (hf0 i hi).2⟩
      rcases j with _ | j
      · cases hj; exact ((hV i hi).2.1 0 (by decide)).trans (congrArg some (hf0 i hi).1)
      · cases hj
  clear hA0 hval0 hsz0 hsz
  refine (rdraws_law a0 len0 c0 F0_0 a1 len1 c1 F1_0 W s0 q0 b0 g0_0 s1 q1 b1 g1_0).mono fun e W' ⟨he, bel⟩ => ?_
  subst he
  exact ⟨_, rfl, _, _, _, [], _, [], hW', trodAll_mk1 (shut_bool Try.underlying4 _), (trodAll_cons_mk (Below.trod laidOut (by kernel_rfl) (of_decide_eq_true (by kernel_rfl)) k0 bel lt0) (trodAll_cons_mk (Below.trod laidOut (by kernel_rfl) (of_decide_eq_true (by kernel_rfl)) k1 bel lt1) trodAll_mk0)), rfl, bel.frame _, fun h => by cases h⟩

theorem over : Rows.regsDrawsRow.holds Try.pinned (OpenSpec.ofChange Rows.regsDrawsSpec) :=
  OpenClaim.holds_of_wide 6 Try.f6 rfl rfl rfl rfl rfl rfl rfl ⟨rfl, rfl, rfl, rfl, rfl⟩ rfl rfl rfl rfl rfl (by kernel_rfl) Try.func6 (by kernel_rfl)
    (of_decide_eq_true (by kernel_rfl)) (by unfold Func.isWrapper; first | (rw [if_pos (by decide +kernel)]; kernel_rfl) | (rw [if_neg (by decide +kernel)]; exact ⟨rfl, rfl⟩))
    (fun os started H enc _ => lifted os started H enc)

/-- The statement. -/
theorem proved : Rows.RegsDrawsSaid := over
end Go.Proofs.Ytlbhoijjbpjmoaa.regsDraws
