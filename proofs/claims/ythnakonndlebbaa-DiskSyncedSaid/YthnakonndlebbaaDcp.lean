/-
  DiskCalm, DiskSynced: a device on which nothing fails. No program.
-/
import Derived.Test.YthnakonndlebbaaDfp
namespace Go.Proofs.Ythnakonndlebbaa
open Go.RowKit
set_option linter.unusedVariables false

/-- Nothing fails: no Fail, no Cut, the power on; what it tells is what is firm with all that waits. -/
structure Cal (k : Nat) (S : Dst) : Prop where
  hn : S.n = 8
  hok : S.ok
  hws : S.ws.length ≤ k
  hst : S.steps ≤ 2 * k
  hdn : S.down = false
  hct : S.cut = -1
  hfl : S.fail = 0
  tl : S.now = tells S.firm S.ws
theorem Cal.new : Cal 0 (Dst.new 8) := ⟨rfl, Dst.ok_new (by decide) (by decide), Nat.le_refl _, Nat.le_refl _, rfl, rfl, rfl, rfl⟩
theorem Cal.mono {k j : Nat} {S : Dst} (h : Cal k S) (hj : k ≤ j) : Cal j S := ⟨h.hn, h.hok, Nat.le_trans h.hws hj, by have := h.hst; omega, h.hdn, h.hct, h.hfl, h.tl⟩
theorem Cal.no {k : Nat} {S : Dst} (h : Cal k S) : ¬ (S.down = true ∨ S.cut = 0) := by
  rw [h.hdn, h.hct]
  rintro (h1 | h1)
  · cases h1
  · exact absurd h1 (by decide)
theorem Cal.err {k : Nat} {S : Dst} (h : Cal k S) : S.err = 0 := by
  unfold Dst.err
  rw [if_neg h.no, h.hfl]
  rfl
theorem Cal.step_eq {k : Nat} {S : Dst} (h : Cal k S) : S.step = { S with steps := S.steps + 1 } := by
  unfold Dst.step
  have h0 : S.fail - 1 = S.fail := by rw [h.hfl]
  rw [if_neg h.no, h0, if_neg (by rw [h.hct]; decide)]
theorem Cal.has {k : Nat} {S : Dst} (h : Cal k S) {r : Nat} (hr : r < 8) : S.has r = true := by
  unfold Dst.has
  have := h.hn
  rw [decide_eq_true (show (0 : Int) ≤ (r : Int) by omega), decide_eq_true (show (r : Int) < ((S.n : Nat) : Int) by omega)]; rfl
theorem Cal.write {k : Nat} {S : Dst} (h : Cal k S) {r : Nat} (hr : r < 8) {b : List Int} (hb : b.length = 256) (ho : Oct b) :
    S.writeE r b = 0 ∧ Cal (k + 1) (S.write r b) ∧ (S.write r b).firm = S.firm ∧ (S.write r b).ws = S.ws ++ [(r, b)] ∧ (S.write r b).steps = S.steps + 1 ∧ (S.write r b).now = putB S.now r b := by
  have hno : ¬ (S.has r = false ∨ b.length ≠ 256) := by rw [h.has hr]; simp [hb]
  have hok := Dst.ok_write h.hok r ho
  have e : S.write r b = { S with steps := S.steps + 1, now := putB S.now r b, ws := S.ws ++ [(r, b)] } := by
    unfold Dst.write
    rw [if_neg hno, if_neg (by rw [h.err]; simp), h.step_eq]
    rfl
  refine ⟨by unfold Dst.writeE; rw [if_neg hno]; exact h.err, ?_, by rw [e], by rw [e], by rw [e], by rw [e]⟩
  rw [e] at hok ⊢
  refine ⟨h.hn, hok, ?_, ?_, h.hdn, h.hct, h.hfl, ?_⟩
  · show (S.ws ++ [_]).length ≤ _
    rw [List.length_append]
    have := h.hws
    simpa using this
  · show S.steps + 1 ≤ _
    have := h.hst
    omega
  · show putB S.now r b = tells S.firm (S.ws ++ [(r, b)])
    rw [tells_snoc, ← h.tl]
theorem Cal.sync {k j : Nat} {S : Dst} (h : Cal k S) (hs : S.steps + 1 ≤ 2 * j) (hkj : k ≤ j) : Cal j S.sync ∧ S.sync.firm = S.now ∧ S.sync.now = S.now ∧ S.sync.ws = [] ∧ S.sync.steps = S.steps + 1 := by
  have hok := Dst.ok_sync h.hok
  have e : S.sync = { S with steps := S.steps + 1, firm := S.now, ws := [] } := by
    unfold Dst.sync
    rw [if_neg (by rw [h.err]; simp), h.step_eq]
    rfl
  rw [e] at hok ⊢
  exact ⟨⟨h.hn, hok, Nat.zero_le _, hs, h.hdn, h.hct, h.hfl, rfl⟩, rfl, rfl, rfl, rfl⟩
theorem Cal.readE {k : Nat} {S : Dst} (h : Cal k S) {r : Nat} (hr : r < 8) : S.readE r = 0 ∧ S.readL r = S.now r ∧ S.firmE r = 0 ∧ S.firmL r = S.firm r := by
  unfold Dst.readE Dst.readL Dst.firmE Dst.firmL
  rw [h.has hr, h.hdn]
  exact ⟨rfl, rfl, rfl, rfl⟩
theorem Cal.crash {k : Nat} {S : Dst} (h : Cal k S) (ms : List Nat) {r : Nat} (hr : r < 8) : (S.crash ms).readE r = 0 ∧ (S.crash ms).readL r = crs S.firm S.ws ms r ∧ (S.crash ms).firmE r = 0 ∧ (S.crash ms).firmL r = crs S.firm S.ws ms r := by
  have hh : (S.crash ms).has r = true := h.has hr
  unfold Dst.readE Dst.readL Dst.firmE Dst.firmL
  rw [hh]
  exact ⟨rfl, rfl, rfl, rfl⟩
/-- All that waits comes through. -/
theorem Cal.crash_all {k : Nat} {S : Dst} (h : Cal k S) {n : Nat} (hn : S.ws.length ≤ n) : crs S.firm S.ws (List.replicate n 15) = S.now := by
  rw [h.tl]
  exact crs_all _ _ _ (fun q hq => (h.hok.ws q hq).2.1) hn
end Go.Proofs.Ythnakonndlebbaa
