/-
  Registers as numbers and rows: what each call answers and leaves. No program.
-/
import Derived.Test.YtlbhoijjbpjmoaaDs
namespace Go.Proofs.Ytlbhoijjbpjmoaa
open Go.RowKit
set_option linter.unusedVariables false

/-- The limit, what is reserved, what is committed, the draws that are left. -/
structure Rst where
  lim : Nat
  res : Nat
  com : Nat
  draws : List (List Int)
namespace Rst
structure ok (R : Rst) : Prop where
  lim : R.lim ≤ 18446744073709551615
  res : R.res ≤ R.lim
  com : R.com ≤ R.res
  oct : ∀ x ∈ R.draws, Oct x
/-- Reserve: its error, its number; what is left of the registers and of the device. -/
def resE (R : Rst) (S : Dst) : Int := if R.res = R.lim then 90 else S.err
def resV (R : Rst) (S : Dst) : Nat := if R.res = R.lim then 0 else if S.err = 0 then R.res + 1 else 0
def resR (R : Rst) (S : Dst) : Rst := if R.res = R.lim then R else if S.err = 0 then { R with res := R.res + 1 } else R
def resS (R : Rst) (S : Dst) : Dst := if R.res = R.lim then S else S.step
def advE (R : Rst) (S : Dst) (n : Nat) : Int := if n ≤ R.com ∨ R.res < n then 2 else S.err
def advR (R : Rst) (S : Dst) (n : Nat) : Rst := if n ≤ R.com ∨ R.res < n then R else if S.err = 0 then { R with com := n } else R
def advS (R : Rst) (S : Dst) (n : Nat) : Dst := if n ≤ R.com ∨ R.res < n then S else S.step
def drE (R : Rst) (z : Int) : Int := if z < 1 ∨ 64 < z then 2 else match R.draws with
  | [] => 91
  | x :: _ => if (x.length : Int) < z then 91 else 0
def drL (R : Rst) (z : Int) : List Int := if z < 1 ∨ 64 < z then [] else match R.draws with
  | [] => []
  | x :: _ => if (x.length : Int) < z then [] else x.take z.toNat
def drR (R : Rst) (z : Int) : Rst := if z < 1 ∨ 64 < z then R else match R.draws with
  | [] => R
  | x :: l => if (x.length : Int) < z then R else { R with draws := l }
theorem ok_res {R : Rst} (h : R.ok) (S : Dst) : (R.resR S).ok := by
  unfold resR
  by_cases h1 : R.res = R.lim
  · rw [if_pos h1]; exact h
  · rw [if_neg h1]
    by_cases h2 : S.err = 0
    · rw [if_pos h2]
      have := h.res
      exact ⟨h.lim, by show R.res + 1 ≤ R.lim; omega, Nat.le_succ_of_le h.com, h.oct⟩
    · rw [if_neg h2]; exact h
theorem ok_adv {R : Rst} (h : R.ok) (S : Dst) (n : Nat) : (R.advR S n).ok := by
  unfold advR
  by_cases h1 : n ≤ R.com ∨ R.res < n
  · rw [if_pos h1]; exact h
  · rw [if_neg h1]
    by_cases h2 : S.err = 0
    · rw [if_pos h2]; exact ⟨h.lim, h.res, by show n ≤ R.res; omega, h.oct⟩
    · rw [if_neg h2]; exact h
theorem ok_dr {R : Rst} (h : R.ok) (z : Int) : (R.drR z).ok := by
  unfold drR
  by_cases h1 : z < 1 ∨ 64 < z
  · rw [if_pos h1]; exact h
  · rw [if_neg h1]
    obtain ⟨lim, res, com, draws⟩ := R
    cases draws with
    | nil => exact h
    | cons x l =>
      show (if (x.length : Int) < z then (_ : Rst) else _).ok
      by_cases h2 : (x.length : Int) < z
      · rw [if_pos h2]; exact h
      · rw [if_neg h2]; exact ⟨h.lim, h.res, h.com, fun y hy => h.oct y (List.mem_cons_of_mem _ hy)⟩
theorem resS_facts (R : Rst) (S : Dst) : (R.resS S).steps ≤ S.steps + 1 ∧ (R.resS S).ws = S.ws ∧ (R.resS S).n = S.n := by
  unfold resS
  by_cases h1 : R.res = R.lim
  · rw [if_pos h1]; exact ⟨Nat.le_succ _, rfl, rfl⟩
  · rw [if_neg h1]; exact ⟨Dst.step_steps S, Dst.step_ws S, Dst.step_n S⟩
theorem advS_facts (R : Rst) (S : Dst) (n : Nat) : (R.advS S n).steps ≤ S.steps + 1 ∧ (R.advS S n).ws = S.ws ∧ (R.advS S n).n = S.n := by
  unfold advS
  by_cases h1 : n ≤ R.com ∨ R.res < n
  · rw [if_pos h1]; exact ⟨Nat.le_succ _, rfl, rfl⟩
  · rw [if_neg h1]; exact ⟨Dst.step_steps S, Dst.step_ws S, Dst.step_n S⟩
theorem drL_len (R : Rst) (z : Int) : (R.drL z).length ≤ 64 := by
  unfold drL
  by_cases h1 : z < 1 ∨ 64 < z
  · rw [if_pos h1]; exact Nat.zero_le _
  · rw [if_neg h1]
    cases R.draws with
    | nil => exact Nat.zero_le _
    | cons x l =>
      show (if (x.length : Int) < z then ([] : List Int) else _).length ≤ 64
      split
      · exact Nat.zero_le _
      · rw [List.length_take]; omega
theorem drL_oct {R : Rst} (h : R.ok) (z : Int) : Oct (R.drL z) := by
  unfold drL
  by_cases h1 : z < 1 ∨ 64 < z
  · rw [if_pos h1]; exact Oct.nil
  · rw [if_neg h1]
    have ho := h.oct
    revert ho
    cases R.draws with
    | nil => exact fun _ => Oct.nil
    | cons x l =>
      intro ho
      show Oct (if (x.length : Int) < z then ([] : List Int) else _)
      split
      · exact Oct.nil
      · exact (ho x (List.mem_cons_self ..)).take _
end Rst
end Go.Proofs.Ytlbhoijjbpjmoaa
