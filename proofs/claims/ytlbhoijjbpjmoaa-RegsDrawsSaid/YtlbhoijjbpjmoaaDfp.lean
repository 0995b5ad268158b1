/-
  DiskFails: the state at each step. No program.
-/
import Derived.Test.YtlbhoijjbpjmoaaDno
namespace Go.Proofs.Ytlbhoijjbpjmoaa
open Go.RowKit
set_option linter.unusedVariables false

theorem i64_and7 (n : Int) : bits .and .i64 n 7 = n % 8 := by
  have h7 : (BitVec.ofInt 64 7).toNat = 2 ^ 3 - 1 := by decide
  have key : (BitVec.ofInt 64 n &&& BitVec.ofInt 64 7).toNat = (n % ((2 ^ 64 : Nat) : Int)).toNat % 2 ^ 3 := by
    rw [BitVec.toNat_and, BitVec.toNat_ofInt, h7, Nat.and_two_pow_sub_one_eq_mod]
  show IntKind.i64.wrap ((BitVec.ofInt 64 n &&& BitVec.ofInt 64 7).toNat : Nat) = n % 8
  rw [key, IntKind.wrap_i64]
  omega
theorem i64_and1 (n : Int) : bits .and .i64 n 1 = n % 2 := by
  have h1 : (BitVec.ofInt 64 1).toNat = 2 ^ 1 - 1 := by decide
  have key : (BitVec.ofInt 64 n &&& BitVec.ofInt 64 1).toNat = (n % ((2 ^ 64 : Nat) : Int)).toNat % 2 ^ 1 := by
    rw [BitVec.toNat_and, BitVec.toNat_ofInt, h1, Nat.and_two_pow_sub_one_eq_mod]
  show IntKind.i64.wrap ((BitVec.ofInt 64 n &&& BitVec.ofInt 64 1).toNat : Nat) = n % 2
  rw [key, IntKind.wrap_i64]
  omega

/-- What step i answers. -/
def fwant (fail cut : Int) (i : Nat) : Int := if 0 ≤ cut ∧ cut ≤ (i : Int) then 81 else if (i : Int) + 1 = fail then 80 else 0
/-- The device behind i steps. -/
structure Fst (fail cut : Int) (i : Nat) (S : Dst) : Prop where
  hn : S.n = 8
  hok : S.ok
  hws : S.ws.length ≤ i
  hst : S.steps = if 0 ≤ cut ∧ cut ≤ (i : Int) then cut.toNat else i
  hdn : S.down = decide (0 ≤ cut ∧ cut < (i : Int))
  hct : S.cut = if cut < 0 then -1 else if cut ≤ (i : Int) then 0 else cut - i
  hfl : ¬ (0 ≤ cut ∧ cut < (i : Int)) → S.fail = fail.toNat - i
theorem Fst.start (fail cut : Int) (hf : fail ≤ 9223372036854775807) (hc : cut ≤ 9223372036854775807) : Fst fail cut 0 (((Dst.new 8).setFail fail).setCut cut) := by
  refine ⟨rfl, Dst.ok_setCut (Dst.ok_setFail (Dst.ok_new (by decide) (by decide)) hf) hc, Nat.le_refl _, ?_, ?_, ?_, fun _ => rfl⟩
  · show 0 = _
    split <;> omega
  · show false = _
    exact (decide_eq_false (by omega)).symm
  · show (if cut < 0 then -1 else cut) = _
    split
    · rfl
    · split <;> omega
theorem Fst.err {fail cut : Int} {i : Nat} {S : Dst} (h : Fst fail cut i S) : S.err = fwant fail cut i := by
  unfold Dst.err fwant
  have hd := h.hdn
  have hc := h.hct
  by_cases h1 : 0 ≤ cut ∧ cut ≤ (i : Int)
  · rw [if_pos h1, if_pos]
    by_cases h2 : cut < (i : Int)
    · exact .inl (by rw [hd]; exact decide_eq_true ⟨h1.1, h2⟩)
    · exact .inr (by rw [hc, if_neg (by omega), if_pos (by omega)])
  · have hno : ¬ (0 ≤ cut ∧ cut < (i : Int)) := by omega
    have hf := h.hfl hno
    rw [if_neg h1, if_neg]
    · by_cases h3 : (i : Int) + 1 = fail
      · rw [if_pos h3, if_pos (by omega)]
      · rw [if_neg h3, if_neg (by omega)]
    · rintro (h2 | h2)
      · rw [hd] at h2
        exact hno (of_decide_eq_true h2)
      · rw [hc] at h2
        split at h2
        · omega
        · split at h2 <;> omega
/-- One step more, whatever is told and waits. -/
theorem Fst.next {fail cut : Int} {i : Nat} {S S' : Dst} (h : Fst fail cut i S) (hok : S'.ok) (hn : S'.n = S.n) (hw : S'.ws.length ≤ i + 1) (h1 : S'.steps = S.step.steps) (h2 : S'.fail = S.step.fail) (h3 : S'.cut = S.step.cut) (h4 : S'.down = S.step.down) : Fst fail cut (i + 1) S' := by
  have hd := h.hdn
  have hc := h.hct
  have hs := h.hst
  refine ⟨hn.trans h.hn, hok, hw, ?_, ?_, ?_, fun hno => ?_⟩
  · rw [h1]
    unfold Dst.step
    by_cases hx : S.down = true ∨ S.cut = 0
    · have : 0 ≤ cut ∧ cut ≤ (i : Int) := by
        rcases hx with hx | hx
        · rw [hd] at hx
          have := of_decide_eq_true hx
          omega
        · rw [hc] at hx
          split at hx
          · omega
          · split at hx <;> omega
      rw [if_pos hx, if_pos (by omega)]
      show S.steps = _
      rw [hs, if_pos this]
    · rw [if_neg hx]
      show S.steps + 1 = _
      have : ¬ (0 ≤ cut ∧ cut ≤ (i : Int)) := fun h5 => hx (by
        by_cases h6 : cut < (i : Int)
        · exact .inl (by rw [hd]; exact decide_eq_true ⟨h5.1, h6⟩)
        · exact .inr (by rw [hc, if_neg (by omega), if_pos (by omega)]))
      rw [hs, if_neg this]
      split <;> omega
  · rw [h4]
    unfold Dst.step
    by_cases hx : S.down = true ∨ S.cut = 0
    · have : 0 ≤ cut ∧ cut ≤ (i : Int) := by
        rcases hx with hx | hx
        · rw [hd] at hx
          have := of_decide_eq_true hx
          omega
        · rw [hc] at hx
          split at hx
          · omega
          · split at hx <;> omega
      rw [if_pos hx]
      show true = _
      exact (decide_eq_true (by omega)).symm
    · rw [if_neg hx]
      have : ¬ (0 ≤ cut ∧ cut ≤ (i : Int)) := fun h5 => hx (by
        by_cases h6 : cut < (i : Int)
        · exact .inl (by rw [hd]; exact decide_eq_true ⟨h5.1, h6⟩)
        · exact .inr (by rw [hc, if_neg (by omega), if_pos (by omega)]))
      show S.down = _
      rw [hd, decide_eq_false (by omega), decide_eq_false (by omega)]
  · rw [h3]
    unfold Dst.step
    by_cases hx : S.down = true ∨ S.cut = 0
    · rw [if_pos hx]
      show S.cut = _
      have : 0 ≤ cut ∧ cut ≤ (i : Int) := by
        rcases hx with hx | hx
        · rw [hd] at hx
          have := of_decide_eq_true hx
          omega
        · rw [hc] at hx
          split at hx
          · omega
          · split at hx <;> omega
      rw [hc, if_neg (by omega), if_pos (by omega), if_neg (by omega), if_pos (by omega)]
    · rw [if_neg hx]
      show (if 0 < S.cut then S.cut - 1 else S.cut) = _
      rw [hc]
      have : ¬ (0 ≤ cut ∧ cut ≤ (i : Int)) := fun h5 => hx (by
        by_cases h6 : cut < (i : Int)
        · exact .inl (by rw [hd]; exact decide_eq_true ⟨h5.1, h6⟩)
        · exact .inr (by rw [hc, if_neg (by omega), if_pos (by omega)]))
      by_cases hneg : cut < 0
      · rw [if_pos hneg, if_neg (by decide), if_pos hneg]
      · have h7 : ¬ cut ≤ (i : Int) := fun h => this ⟨by omega, h⟩
        rw [if_neg hneg, if_neg h7, if_neg hneg, if_pos (by omega)]
        split <;> omega
  · have hno0 : ¬ (0 ≤ cut ∧ cut < (i : Int)) := by omega
    have hf := h.hfl hno0
    rw [h2]
    unfold Dst.step
    have hx : ¬ (S.down = true ∨ S.cut = 0) := by
      rintro (h5 | h5)
      · rw [hd] at h5
        exact hno0 (of_decide_eq_true h5)
      · rw [hc] at h5
        split at h5
        · omega
        · split at h5 <;> omega
    rw [if_neg hx]
    show S.fail - 1 = _
    rw [hf]
    omega
theorem Fst.step {fail cut : Int} {i : Nat} {S : Dst} (h : Fst fail cut i S) : Fst fail cut (i + 1) S.step :=
  h.next (Dst.ok_step h.hok) (Dst.step_n S) (by rw [Dst.step_ws]; have := h.hws; omega) rfl rfl rfl rfl
theorem Fst.write {fail cut : Int} {i : Nat} {S : Dst} (h : Fst fail cut i S) {k : Int} (hk : 0 ≤ k ∧ k < 8) {b : List Int} (hb : b.length = 256) (ho : Oct b) : S.writeE k b = S.err ∧ Fst fail cut (i + 1) (S.write k b) ∧ (S.err = 80 → (S.write k b).readL k = S.readL k ∧ (S.write k b).readE k = 0 ∧ (S.write k b).ws = S.ws) := by
  have hn := h.hn
  have hh : S.has k = true := by unfold Dst.has; rw [hn, decide_eq_true hk.1, decide_eq_true (show k < ((8 : Nat) : Int) from hk.2)]; rfl
  have hno : ¬ (S.has k = false ∨ b.length ≠ 256) := by rw [hh]; simp [hb]
  have hok := Dst.ok_write h.hok k ho
  have hw := h.hws
  refine ⟨by unfold Dst.writeE; rw [if_neg hno], ?_, fun he => ?_⟩
  · unfold Dst.write at hok ⊢
    rw [if_neg hno] at hok ⊢
    by_cases he : S.err ≠ 0
    · rw [if_pos he]; exact h.step
    · rw [if_neg he] at hok ⊢
      exact h.next hok (Dst.step_n S) (by show (S.step.ws ++ [_]).length ≤ _; rw [Dst.step_ws, List.length_append]; simpa using hw) rfl rfl rfl rfl
  · have hs : S.write k b = S.step := by unfold Dst.write; rw [if_neg hno, if_pos (by rw [he]; decide)]
    have hdn : ¬ (S.down = true ∨ S.cut = 0) := fun h5 => by unfold Dst.err at he; rw [if_pos h5] at he; cases he
    have h0 : S.down = false := by cases hd : S.down with | false => rfl | true => exact absurd (.inl hd) hdn
    have h1 : S.step.down = false := by unfold Dst.step; rw [if_neg hdn]; exact h0
    rw [hs]
    refine ⟨?_, ?_, Dst.step_ws S⟩
    · unfold Dst.readL
      rw [Dst.step_has, h1, h0, Dst.step_now]
    · unfold Dst.readE
      rw [Dst.step_has, h1, hh]
      rfl
theorem Fst.steps_end {fail cut : Int} {i : Nat} {S : Dst} (h : Fst fail cut i S) : ((S.steps : Nat) : Int) = if 0 ≤ cut then (if cut < (i : Int) then cut else i) else i := by
  rw [h.hst]
  split <;> split <;> (try split) <;> omega
theorem Dst.step80 {S : Dst} (he : S.err = 80) {r : Nat} (hr : r < S.n) : S.step.readL r = S.readL r ∧ S.step.readE r = 0 ∧ S.step.ws.length = S.ws.length := by
  have hdn : ¬ (S.down = true ∨ S.cut = 0) := fun h5 => by unfold Dst.err at he; rw [if_pos h5] at he; cases he
  have h0 : S.down = false := by cases hd : S.down with | false => rfl | true => exact absurd (.inl hd) hdn
  have h1 : S.step.down = false := by unfold Dst.step; rw [if_neg hdn]; exact h0
  have hh : S.has r = true := by unfold Dst.has; rw [decide_eq_true (show (0 : Int) ≤ (r : Int) by omega), decide_eq_true (show (r : Int) < ((S.n : Nat) : Int) by omega)]; rfl
  refine ⟨?_, ?_, by rw [Dst.step_ws]⟩
  · unfold Dst.readL
    rw [Dst.step_has, h1, h0, Dst.step_now]
  · unfold Dst.readE
    rw [Dst.step_has, h1, hh]
    rfl
theorem conv_str' {w : World} {p : Option Addr} {xs : List Int} {m : Nat} (h : Bin w p xs) (hl : xs.length = m) (cap : Nat) :
    (convert 31 9 (.slice p m cap)).run Try.prog w = .ok (.string (strOfNums xs)) w := by
  subst hl
  exact conv_str h cap
theorem own_block {p : Option Addr} {n c q : Nat} (h : (Value.slice p n c).ownBlock = some q) : ∃ a, p = some a ∧ a.block = q := by
  cases p with
  | none => cases h
  | some a => exact ⟨a, rfl, Option.some.inj h⟩
end Go.Proofs.Ytlbhoijjbpjmoaa
