/-
  RegsPlays: the row's step round the walk 'rplays_law'.
-/
import Derived.Test.YtlbhoijjbpjmoaaRows
import Derived.WalkKit
import Derived.ProofKit
import Derived.OpenShut
import Derived.ShutString
import Derived.ChangeOld
import Derived.Below
import Derived.SizedLaws
import Derived.Test.YtlbhoijjbpjmoaaRpl
import Derived.Test.YtlbhoijjbpjmoaaOfl
namespace Go.Proofs.Ytlbhoijjbpjmoaa.regsPlays
open Go.ChangeShapes Go.WideShapes Go.ChangeAt Go.RowKit
open Go.ChangeMaps (open_string shut_string)
set_option linter.unusedVariables false

theorem own : ownKnob Try.prog.godebug = none := by kernel_rfl
theorem laidOut : laidOutB Try.prog = true := by kernel_rfl
set_option maxRecDepth 100000 in
theorem lifted (os : Os) (started : os.Started) (H : Type) (enc : TypeId × Value → H) :
    ReturnsInHanded {} Try.checked os 3 .any (Rows.regsPlaysSpec.pre6 enc Try.prog Try.f3 Rows.regsPlaysRow.domain false) (Rows.regsPlaysSpec.post enc Try.prog Try.f3 false true false false) := by
  refine returnsInHanded_of_change_sized (C := Try.checked) own started (by kernel_rfl) Try.func3
    (ChangeSpec.witness6 (enc := enc) (C := Try.checked) false ⟨#[], #[.int .u64 0, .slice none 0 0, .slice none 0 0], []⟩ 8 (by kernel_rfl) (by kernel_rfl) (by kernel_rfl) (by kernel_rfl)) ?_
  intro W base args ds gs before hval0 hW hcnd hsz0 _
  have hval : ∀ (j : Nat) t v, Try.f3.params[j]? = some t → args[j]? = some v → Value.okWide Try.prog W .any base t v := hval0
  have hsz : (DataW.weightsEach Try.prog (Try.f3.params.toList ++ Rows.regsPlaysSpec.plain.varTypes Try.prog) (ds ++ gs)).all (· ≤ reachBytes) = true := hsz0
  have hW' := hW
  obtain ⟨p, q, hA0, hV, rfl, hfz, hnd⟩ := hW
  have hA : DataW.TrodAll enc Try.prog W 0 (fun _ => true) true Try.f3.params.toList args.toList ds p := hA0
  rw [Try.params3] at hA hval hsz
  obtain ⟨v0, vs0, d0, ds0, p0, q0, hargs, rfl, rfl, h0, r0⟩ := trodAll_cons hA
  obtain ⟨v1, vs1, d1, ds1, p1, q1, rfl, rfl, rfl, h1, r1⟩ := trodAll_cons r0
  obtain ⟨v2, vs2, d2, ds2, p2, q2, rfl, rfl, rfl, h2, r2⟩ := trodAll_cons r1
  obtain ⟨rfl, rfl, rfl⟩ := trodAll_nil r2
  obtain rfl : args = #[v0, v1, v2] := by cases args; simp_all
  obtain ⟨rfl, rfl⟩ := trodVars_none hV
  obtain ⟨a0, rfl, rfl, rfl, w0⟩ := open_int Try.underlying22 (hval 0 22 v0 rfl rfl) h0
  obtain ⟨a1, len1, c1, rfl⟩ := okWide_slice Try.underlying23 (hval 1 23 v1 rfl rfl)
  have k1 := h1
  have lt1 : ∀ x ∈ p1, x.block < W.heap.size := by obtain ⟨m, hm⟩ := k1; exact DataW.trod_lt m _ _ _ hm
  obtain ⟨F1_0, s1, q1, b1, g1_0⟩ : ∃ (F1_0 : Nat → Option Addr × Nat × List Int), len1 ≤ maxLen ∧ len1 ≤ c1 ∧ Rws W a1 len1 [fun i => .slice (F1_0 i).1 (F1_0 i).2.2.length (F1_0 i).2.1] ∧ (∀ i, i < len1 → Bin W (F1_0 i).1 (F1_0 i).2.2 ∧ Oct (F1_0 i).2.2 ∧ (F1_0 i).2.2.length ≤ (F1_0 i).2.1 ∧ (F1_0 i).2.2.length ≤ 140737488351232) := by
    obtain ⟨fuel, hf⟩ := h1
    have hwk : Wok Try.prog 23 d1 := wok_param hsz (j := 1) rfl rfl
    have hce : Try.prog.cellsOf 31 = 1 := by kernel_rfl
    rcases open_flat Try.underlying23 hwk hf with hcs | ⟨x, l, c, V, hcs, hl, hm, hV⟩
    · simp [Value.cells] at hcs
      obtain ⟨rfl, rfl, rfl⟩ := hcs
      exact ⟨fun _ => (none, 0, []), Nat.zero_le _, Nat.le_refl _, Rws.nil _ _ _, fun i hi => absurd hi (Nat.not_lt_zero _)⟩
    · simp [Value.cells] at hcs
      obtain ⟨rfl, rfl, rfl⟩ := hcs
      rw [hce] at hV
      have R0 : ∀ i, i < len1 → Rd enc Try.prog W 0 (fun _ => true) true 31 [(V i).getD 0 undef] := fun i hi => by
        exact rd_all (hV i hi).2.2 (hV i hi).1
      obtain ⟨f0, hf0⟩ := col_bytes Try.underlying31 Try.underlying5 (by kernel_rfl) (by kernel_rfl) (V := fun i => (V i).getD 0 undef) R0
      refine ⟨f0, Nat.le_trans hl hm, hl, rws_of (Nat.succ_pos _) (fun i hi j c hj => ?_), fun i hi => (hf0 i hi).2⟩
      rcases j with _ | j
      · cases hj; exact ((hV i hi).2.1 0 (by decide)).trans (congrArg some (hf0 i hi).1)
      · cases hj
  obtain ⟨a2, len2, c2, rfl⟩ := okWide_slice Try.underlying24 (hval 2 24 v2 rfl rfl)
  have k2 := h2
  have lt2 : ∀ x ∈ p2, x.block < W.heap.size := by obtain ⟨m, hm⟩ := k2; exact DataW.trod_lt m _ _ _ hm
  obtain ⟨F2_0, F2_1, F2_2, F2_3, F2_4, F2_5, F2_6, F2_7, s2, q2, b2, g2_0, g2_1, g2_2, g2_3, g2_4, g2_5, g2_6, g2_7⟩ : ∃ (F2_0 : Nat → Int) (F2_1 : Nat → Int) (F2_2 : Nat → Int) (F2_3 : Nat → Int) (F2_4 : Nat → Int) (F2_5 : Nat → Int) (F2_6 : Nat → Option Addr × Nat × List Int) (F2_7 : Nat → Option Addr × Nat × List Int), len2 ≤ maxLen ∧ len2 ≤ c2 ∧ Rws W a2 len2 [fun i => .int .i64 (F2_0 i), fun i => .int .u64 (F2_1 i), fun i => .int .i64 (F2_2 i), fun i => .int .i64 (F2_3 i), fun i => .int .i64 (F2_4 i), fun i => .int .i64 (F2_5 i), fun i => .slice (F2_6 i).1 (F2_6 i).2.2.length (F2_6 i).2.1, fun i => .slice (F2_7 i).1 (F2_7 i).2.2.length (F2_7 i).2.1] ∧ (∀ i, i < len2 → (Lit.int .i64 (F2_0 i)).wf = true) ∧ (∀ i, i < len2 → (Lit.int .u64 (F2_1 i)).wf = true) ∧ (∀ i, i < len2 → (Lit.int .i64 (F2_2 i)).wf = true) ∧ (∀ i, i < len2 → (Lit.int .i64 (F2_3 i)).wf = true) ∧ (∀ i, i < len2 → (Lit.int .i64 (F2_4 i)).wf = true) ∧ (∀ i, i < len2 → (Lit.int .i64 (F2_5 i)).wf = true) ∧ (∀ i, i < len2 → Bin W (F2_6 i).1 (F2_6 i).2.2 ∧ Oct (F2_6 i).2.2 ∧ (F2_6 i).2.2.length ≤ (F2_6 i).2.1 ∧ (F2_6 i).2.2.length ≤ 140737488351232) ∧ (∀ i, i < len2 → Bin W (F2_7 i).1 (F2_7 i).2.2 ∧ Oct (F2_7 i).2.2 ∧ (F2_7 i).2.2.length ≤ (F2_7 i).2.1 ∧ (F2_7 i).2.2.length ≤ 140737488351232) := by
    obtain ⟨fuel, hf⟩ := h2
    have hwk : Wok Try.prog 24 d2 := wok_param hsz (j := 2) rfl rfl
    have hce : Try.prog.cellsOf 43 = 8 := by kernel_rfl
    rcases open_flat Try.underlying24 hwk hf with hcs | ⟨x, l, c, V, hcs, hl, hm, hV⟩
    · simp [Value.cells] at hcs
      obtain ⟨rfl, rfl, rfl⟩ := hcs
      exact ⟨fun _ => 0, fun _ => 0, fun _ => 0, fun _ => 0, fun _ => 0, fun _ => 0, fun _ => (none, 0, []), fun _ => (none, 0, []), Nat.zero_le _, Nat.le_refl _, Rws.nil _ _ _, fun i hi => absurd hi (Nat.not_lt_zero _), fun i hi => absurd hi (Nat.not_lt_zero _), fun i hi => absurd hi (Nat.not_lt_zero _), fun i hi => absurd hi (Nat.not_lt_zero _), fun i hi => absurd hi (Nat.not_lt_zero _), fun i hi => absurd hi (Nat.not_lt_zero _), fun i hi => absurd hi (Nat.not_lt_zero _), fun i hi => absurd hi (Nat.not_lt_zero _)⟩
    · simp [Value.cells] at hcs
      obtain ⟨rfl, rfl, rfl⟩ := hcs
      rw [hce] at hV
      have R0 : ∀ i, i < len2 → Rd enc Try.prog W 0 (fun _ => true) true 3 [(V i).getD 0 undef] := fun i hi => by
        have c1 : Try.prog.cellsOf 3 = 1 := by kernel_rfl
        have h : Rd enc Try.prog W 0 (fun _ => true) true 3 (((V i).drop 0).take (Try.prog.cellsOf 3)) := rd_field Try.underlying43 (hV i hi).2.2 (j := 0) rfl
        rw [c1] at h
        exact rd_cell h (by rw [(hV i hi).1]; decide)
      obtain ⟨f0, hf0⟩ := col_int Try.underlying3 (V := fun i => (V i).getD 0 undef) R0
      have R1 : ∀ i, i < len2 → Rd enc Try.prog W 0 (fun _ => true) true 22 [(V i).getD 1 undef] := fun i hi => by
        have c1 : Try.prog.cellsOf 22 = 1 := by kernel_rfl
        have h : Rd enc Try.prog W 0 (fun _ => true) true 22 (((V i).drop 1).take (Try.prog.cellsOf 22)) := rd_field Try.underlying43 (hV i hi).2.2 (j := 1) rfl
        rw [c1] at h
        exact rd_cell h (by rw [(hV i hi).1]; decide)
      obtain ⟨f1, hf1⟩ := col_int Try.underlying22 (V := fun i => (V i).getD 1 undef) R1
      have R2 : ∀ i, i < len2 → Rd enc Try.prog W 0 (fun _ => true) true 3 [(V i).getD 2 undef] := fun i hi => by
        have c1 : Try.prog.cellsOf 3 = 1 := by kernel_rfl
        have h : Rd enc Try.prog W 0 (fun _ => true) true 3 (((V i).drop 2).take (Try.prog.cellsOf 3)) := rd_field Try.underlying43 (hV i hi).2.2 (j := 2) rfl
        rw [c1] at h
        exact rd_cell h (by rw [(hV i hi).1]; decide)
      obtain ⟨f2, hf2⟩ := col_int Try.underlying3 (V := fun i => (V i).getD 2 undef) R2
      have R3 : ∀ i, i < len2 → Rd enc Try.prog W 0 (fun _ => true) true 3 [(V i).getD 3 undef] := fun i hi => by
        have c1 : Try.prog.cellsOf 3 = 1 := by kernel_rfl
        have h : Rd enc Try.prog W 0 (fun _ => true) true 41 (((V i).drop 3).take (Try.prog.cellsOf 41)) := rd_field Try.underlying43 (hV i hi).2.2 (j := 3) rfl
        have c2 : Try.prog.cellsOf 41 = 5 := by kernel_rfl
        have h2 : Rd enc Try.prog W 0 (fun _ => true) true 3 (((((V i).drop 3).take (Try.prog.cellsOf 41)).drop 0).take (Try.prog.cellsOf 3)) := rd_field Try.underlying41 h (j := 0) rfl
        rw [c2, c1] at h2
        exact rd_cell2 h2 (by decide) (by rw [(hV i hi).1]; decide)
      obtain ⟨f3, hf3⟩ := col_int Try.underlying3 (V := fun i => (V i).getD 3 undef) R3
      have R4 : ∀ i, i < len2 → Rd enc Try.prog W 0 (fun _ => true) true 3 [(V i).getD 4 undef] := fun i hi => by
        have c1 : Try.prog.cellsOf 3 = 1 := by kernel_rfl
        have h : Rd enc Try.prog W 0 (fun _ => true) true 41 (((V i).drop 3).take (Try.prog.cellsOf 41)) := rd_field Try.underlying43 (hV i hi).2.2 (j := 3) rfl
        have c2 : Try.prog.cellsOf 41 = 5 := by kernel_rfl
        have h2 : Rd enc Try.prog W 0 (fun _ => true) true 3 (((((V i).drop 3).take (Try.prog.cellsOf 41)).drop 1).take (Try.prog.cellsOf 3)) := rd_field Try.underlying41 h (j := 1) rfl
        rw [c2, c1] at h2
        exact rd_cell2 h2 (by decide) (by rw [(hV i hi).1]; decide)
      obtain ⟨f4, hf4⟩ := col_int Try.underlying3 (V := fun i => (V i).getD 4 undef) R4
      have R5 : ∀ i, i < len2 → Rd enc Try.prog W 0 (fun _ => true) true 3 [(V i).getD 5 undef] := fun i hi => by
        have c1 : Try.prog.cellsOf 3 = 1 := by kernel_rfl
        have h : Rd enc Try.prog W 0 (fun _ => true) true 41 (((V i).drop 3).take (Try.prog.cellsOf 41)) := rd_field Try.underlying43 (hV i hi).2.2 (j := 3) rfl
        have c2 : Try.prog.cellsOf 41 = 5 := by kernel_rfl
        have h2 : Rd enc Try.prog W 0 (fun _ => true) true 3 (((((V i).drop 3).take (Try.prog.cellsOf 41)).drop 2).take (Try.prog.cellsOf 3)) := rd_field Try.underlying41 h (j := 2) rfl
        rw [c2, c1] at h2
        exact rd_cell2 h2 (by decide) (by rw [(hV i hi).1]; decide)
      obtain ⟨f5, hf5⟩ := col_int Try.underlying3 (V := fun i => (V i).getD 5 undef) R5
      have R6 : ∀ i, i < len2 → Rd enc Try.prog W 0 (fun _ => true) true 31 [(V i).getD 6 undef] := fun i hi => by
        have c1 : Try.prog.cellsOf 31 = 1 := by kernel_rfl
        have h : Rd enc Try.prog W 0 (fun _ => true) true 41 (((V i).drop 3).take (Try.prog.cellsOf 41)) := rd_field Try.underlying43 (hV i hi).2.2 (j := 3) rfl
        have c2 : Try.prog.cellsOf 41 = 5 := by kernel_rfl
        have h2 : Rd enc Try.prog W 0 (fun _ => true) true 31 (((((V i).drop 3).take (Try.prog.cellsOf 41)).drop 3).take (Try.prog.cellsOf 31)) := rd_field Try.underlying41 h (j := 3) rfl
        rw [c2, c1] at h2
        exact rd_cell2 h2 (by decide) (by rw [(hV i hi).1]; decide)
      obtain ⟨f6, hf6⟩ := col_bytes Try.underlying31 Try.underlying5 (by kernel_rfl) (by kernel_rfl) (V := fun i => (V i).getD 6 undef) R6
      have R7 : ∀ i, i < len2 → Rd enc Try.prog W 0 (fun _ => true) true 31 [(V i).getD 7 undef] := fun i hi => by
        have c1 : Try.prog.cellsOf 31 = 1 := by kernel_rfl
        have h : Rd enc Try.prog W 0 (fun _ => true) true 41 (((V i).drop 3).take (Try.prog.cellsOf 41)) := rd_field Try.underlying43 (hV i hi).2.2 (j := 3) rfl
        have c2 : Try.prog.cellsOf 41 = 5 := by kernel_rfl
        have h2 : Rd enc Try.prog W 0 (fun _ => true) true 31 (((((V i).drop 3).take (Try.prog.cellsOf 41)).drop 4).take (Try.prog.cellsOf 31)) := rd_field Try.underlying41 h (j := 4) rfl
        rw [c2, c1] at h2
        exact rd_cell2 h2 (by decide) (by rw [(hV i hi).1]; decide)
      obtain ⟨f7, hf7⟩ := col_bytes Try.underlying31 Try.underlying5 (by kernel_rfl) (by kernel_rfl) (V := fun i => (V i).getD 7 undef) R7
      refine ⟨f0, f1, f2, f3, f4, f5, f6, f7, Nat.le_trans hl hm, hl, rws_of (Nat.succ_pos _) (fun i hi j c hj => ?_), fun i hi => (hf0 i hi).2, fun i hi => (hf1 i hi).2, fun i hi => (hf2 i hi).2, fun i hi => (hf3 i hi).2, fun i hi => (hf4 i hi).2, fun i hi => (hf5 i hi).2, fun i hi => (hf6 i hi).2, fun i hi => (hf7 i hi).2⟩
      rcases j with _ | j
      · cases hj; exact ((hV i hi).2.1 0 (by decide)).trans (congrArg some (hf0 i hi).1)
      rcases j with _ | j
      · cases hj; exact ((hV i hi).2.1 1 (by decide)).trans (congrArg some (hf1 i hi).1)
      rcases j with _ | j
      · cases hj; exact ((hV i hi).2.1 2 (by decide)).trans (congrArg some (hf2 i hi).1)
      rcases j with _ | j
      · cases hj; exact ((hV i hi).2.1 3 (by decide)).trans (congrArg some (hf3 i hi).1)
      rcases j with _ | j
      · cases hj; exact ((hV i hi).2.1 4 (by decide)).trans (congrArg some (hf4 i hi).1)
      rcases j with _ | j
      · cases hj; exact ((hV i hi).2.1 5 (by decide)).trans (congrArg some (hf5 i hi).1)
      rcases j with _ | j
      · cases hj; exact ((hV i hi).2.1 6 (by decide)).trans (congrArg some (hf6 i hi).1)
      rcases j with _ | j
      · cases hj; exact ((hV i hi).2.1 7 (by decide)).trans (congrArg some (hf7 i hi).1)
      · cases hj
  clear hA0 hval0 hsz0 hsz
  refine (rplays_law a0 a1 len1 c1 F1_0 a2 len2 c2 F2_0 F2_1 F2_2 F2_3 F2_4 F2_5 F2_6 F2_7 W w0 s1 q1 b1 g1_0 s2 q2 b2 g2_0 g2_1 g2_2 g2_3 g2_4 g2_5 g2_6 g2_7).mono fun e W' ⟨he, bel⟩ => ?_
  subst he
  exact ⟨_, rfl, _, _, _, [], _, [], hW', trodAll_mk1 (shut_bool Try.underlying4 _), (trodAll_cons_mk (shut_int Try.underlying22 w0) (trodAll_cons_mk (Below.trod laidOut (by kernel_rfl) (of_decide_eq_true (by kernel_rfl)) k1 bel lt1) (trodAll_cons_mk (Below.trod laidOut (by kernel_rfl) (of_decide_eq_true (by kernel_rfl)) k2 bel lt2) trodAll_mk0))), rfl, bel.frame _, fun h => by cases h⟩

theorem over : Rows.regsPlaysRow.holds Try.pinned (OpenSpec.ofChange Rows.regsPlaysSpec) :=
  OpenClaim.holds_of_wide 3 Try.f3 rfl rfl rfl rfl rfl rfl rfl ⟨rfl, rfl, rfl, rfl, rfl⟩ rfl rfl rfl rfl rfl (by kernel_rfl) Try.func3 (by kernel_rfl)
    (of_decide_eq_true (by kernel_rfl)) (by unfold Func.isWrapper; first | (rw [if_pos (by decide +kernel)]; kernel_rfl) | (rw [if_neg (by decide +kernel)]; exact ⟨rfl, rfl⟩))
    (fun os started H enc _ => lifted os started H enc)

/-- The statement. -/
theorem proved : Rows.RegsPlaysSaid := over
end Go.Proofs.Ytlbhoijjbpjmoaa.regsPlays
