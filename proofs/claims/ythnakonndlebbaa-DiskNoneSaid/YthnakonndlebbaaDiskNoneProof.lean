/-
  DiskNone: the row's step round the walk 'dnone_law'.
-/
import Derived.Test.YthnakonndlebbaaRows
import Derived.WalkKit
import Derived.ProofKit
import Derived.OpenShut
import Derived.ShutString
import Derived.ChangeOld
import Derived.Below
import Derived.SizedLaws
import Derived.Test.YthnakonndlebbaaDno
import Derived.Test.YthnakonndlebbaaOst
namespace Go.Proofs.Ythnakonndlebbaa.diskNone
open Go.ChangeShapes Go.WideShapes Go.ChangeAt Go.RowKit
open Go.ChangeMaps (open_string shut_string)
set_option linter.unusedVariables false

theorem own : ownKnob Try.prog.godebug = none := by kernel_rfl
theorem laidOut : laidOutB Try.prog = true := by kernel_rfl
theorem list_5 {α : Type} (l : List α) (h : l.length = 5) : ∃ e0 e1 e2 e3 e4, l = [e0, e1, e2, e3, e4] := by
  match l, h with
  | [e0, e1, e2, e3, e4], _ => exact ⟨_, _, _, _, _, rfl⟩

set_option maxRecDepth 100000 in
theorem lifted (os : Os) (started : os.Started) (H : Type) (enc : TypeId × Value → H) :
    ReturnsInHanded {} Try.checked os 4 .any (Rows.diskNoneSpec.pre6 enc Try.prog Try.f4 Rows.diskNoneRow.domain false) (Rows.diskNoneSpec.post enc Try.prog Try.f4 false true false false) := by
  refine returnsInHanded_of_change_sized (C := Try.checked) own started (by kernel_rfl) Try.func4
    (ChangeSpec.witness6 (enc := enc) (C := Try.checked) false ⟨#[], #[.agg #[.int .i64 0, .int .i64 0, .int .i64 0, .slice none 0 0, .slice none 0 0]], []⟩ 8 (by kernel_rfl) (by kernel_rfl) (by kernel_rfl) (by kernel_rfl)) ?_
  intro W base args ds gs before hval0 hW hcnd hsz0 _
  have hval : ∀ (j : Nat) t v, Try.f4.params[j]? = some t → args[j]? = some v → Value.okWide Try.prog W .any base t v := hval0
  have hsz : (DataW.weightsEach Try.prog (Try.f4.params.toList ++ Rows.diskNoneSpec.plain.varTypes Try.prog) (ds ++ gs)).all (· ≤ reachBytes) = true := hsz0
  have hW' := hW
  obtain ⟨p, q, hA0, hV, rfl, hfz, hnd⟩ := hW
  have hA : DataW.TrodAll enc Try.prog W 0 (fun _ => true) true Try.f4.params.toList args.toList ds p := hA0
  rw [Try.params4] at hA hval hsz
  obtain ⟨v0, vs0, d0, ds0, p0, q0, hargs, rfl, rfl, h0, r0⟩ := trodAll_cons hA
  obtain ⟨rfl, rfl, rfl⟩ := trodAll_nil r0
  obtain rfl : args = #[v0] := by cases args; simp_all
  obtain ⟨rfl, rfl⟩ := trodVars_none hV
  have k0 := h0
  have lt0 : ∀ x ∈ p0, x.block < W.heap.size := by obtain ⟨m, hm⟩ := k0; exact DataW.trod_lt m _ _ _ hm
  obtain ⟨l0, rfl, hl0, hf0⟩ := open_each Try.underlying36 (by kernel_rfl) (by kernel_rfl) (hval 0 36 v0 rfl rfl) h0
  obtain ⟨e0_0, e0_1, e0_2, e0_3, e0_4, rfl⟩ := list_5 l0 hl0
  obtain ⟨n0_0, y0_0, g0_0⟩ := hf0 0 _ _ rfl rfl
  obtain ⟨a0_0, rfl, w0_0⟩ := field_int (k := .i64) Try.underlying3 g0_0
  obtain ⟨n0_1, y0_1, g0_1⟩ := hf0 1 _ _ rfl rfl
  obtain ⟨a0_1, rfl, w0_1⟩ := field_int (k := .i64) Try.underlying3 g0_1
  obtain ⟨n0_2, y0_2, g0_2⟩ := hf0 2 _ _ rfl rfl
  obtain ⟨a0_2, rfl, w0_2⟩ := field_int (k := .i64) Try.underlying3 g0_2
  obtain ⟨n0_3, y0_3, g0_3⟩ := hf0 3 _ _ rfl rfl
  obtain ⟨a0_3, x0_3, c0_3, rfl, b0_3, o0_3, q0_3⟩ := field_bytes Try.underlying34 Try.underlying5 (by kernel_rfl) g0_3
  obtain ⟨n0_4, y0_4, g0_4⟩ := hf0 4 _ _ rfl rfl
  obtain ⟨a0_4, x0_4, c0_4, rfl, b0_4, o0_4, q0_4⟩ := field_bytes Try.underlying34 Try.underlying5 (by kernel_rfl) g0_4
  clear hA0 hval0 hsz0 hsz
  refine (dnone_law a0_0 a0_1 a0_2 a0_3 c0_3 x0_3 a0_4 c0_4 x0_4 W w0_0 w0_1 w0_2 b0_3 o0_3 q0_3 b0_4 o0_4 q0_4).mono fun e W' ⟨he, bel⟩ => ?_
  subst he
  exact ⟨_, rfl, _, _, _, [], _, [], hW', trodAll_mk1 (shut_bool Try.underlying4 _), (trodAll_cons_mk (Below.trod laidOut (by kernel_rfl) (of_decide_eq_true (by kernel_rfl)) k0 bel lt0) trodAll_mk0), rfl, bel.frame _, fun h => by cases h⟩

theorem over : Rows.diskNoneRow.holds Try.pinned (OpenSpec.ofChange Rows.diskNoneSpec) :=
  OpenClaim.holds_of_wide 4 Try.f4 rfl rfl rfl rfl rfl rfl rfl ⟨rfl, rfl, rfl, rfl, rfl⟩ rfl rfl rfl rfl rfl (by kernel_rfl) Try.func4 (by kernel_rfl)
    (of_decide_eq_true (by kernel_rfl)) (by unfold Func.isWrapper; first | (rw [if_pos (by decide +kernel)]; kernel_rfl) | (rw [if_neg (by decide +kernel)]; exact ⟨rfl, rfl⟩))
    (fun os started H enc _ => lifted os started H enc)

/-- The statement. -/
theorem proved : Rows.DiskNoneSaid := over
end Go.Proofs.Ythnakonndlebbaa.diskNone
