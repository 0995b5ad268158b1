/-
  A device's state, and what each call does to it. No program.
-/
import Derived.Test.YtlbhoijjbpjmoaaDk
namespace Go.Proofs.Ytlbhoijjbpjmoaa
open Go.RowKit
set_option linter.unusedVariables false

/-- What a device is: how many blocks, what it tells, what is firm, what waits, how many steps have counted, which one fails, how many more are asked, whether the power is off. -/
structure Dst where
  n : Nat
  now : Nat → List Int
  firm : Nat → List Int
  ws : List (Nat × List Int)
  steps : Nat
  fail : Nat
  cut : Int
  down : Bool
namespace Dst
def zeros : List Int := List.replicate 256 0
def new (n : Nat) : Dst := ⟨n, fun _ => zeros, fun _ => zeros, [], 0, 0, -1, false⟩
def has (S : Dst) (i : Int) : Bool := decide (0 ≤ i) && decide (i < (S.n : Int))
/-- A step is asked: its error. -/
def err (S : Dst) : Int := if S.down = true ∨ S.cut = 0 then 81 else if S.fail = 1 then 80 else 0
def step (S : Dst) : Dst :=
  if S.down = true ∨ S.cut = 0 then { S with down := true } else
  { S with steps := S.steps + 1, fail := S.fail - 1, cut := if 0 < S.cut then S.cut - 1 else S.cut }
def readE (S : Dst) (i : Int) : Int := if S.has i = false then 2 else if S.down = true then 81 else 0
def readL (S : Dst) (i : Int) : List Int := if S.has i = false then [] else if S.down = true then [] else S.now i.toNat
def firmE (S : Dst) (i : Int) : Int := if S.has i = false then 2 else 0
def firmL (S : Dst) (i : Int) : List Int := if S.has i = false then [] else S.firm i.toNat
def writeE (S : Dst) (i : Int) (b : List Int) : Int := if S.has i = false ∨ b.length ≠ 256 then 2 else S.err
def put (S : Dst) (i : Nat) (b : List Int) : Dst := { S with now := putB S.now i b, ws := S.ws ++ [(i, b)] }
def write (S : Dst) (i : Int) (b : List Int) : Dst := if S.has i = false ∨ b.length ≠ 256 then S else if S.err ≠ 0 then S.step else S.step.put i.toNat b
def calm (S : Dst) : Dst := { S with firm := S.now, ws := [] }
def sync (S : Dst) : Dst := if S.err ≠ 0 then S.step else S.step.calm
def setFail (S : Dst) (n : Int) : Dst := { S with fail := n.toNat }
def setCut (S : Dst) (n : Int) : Dst := { S with cut := if n < 0 then -1 else n }
def crash (S : Dst) (ms : List Nat) : Dst := { S with now := crs S.firm S.ws ms, firm := crs S.firm S.ws ms, ws := [], fail := 0, cut := -1, down := false }
/-- The bytes b over f, from the byte at on. -/
def lay (f : List Int) (at0 : Nat) (b : List Int) : List Int := f.take at0 ++ b ++ f.drop (at0 + b.length)
def foreignE (S : Dst) (i at0 : Int) (b : List Int) : Int := if S.has i = false ∨ at0 < 0 ∨ 256 < at0 + b.length then 2 else 0
def foreign (S : Dst) (i at0 : Int) (b : List Int) : Dst :=
  if S.has i = false ∨ at0 < 0 ∨ 256 < at0 + b.length then S else
  { S with now := putB S.now i.toNat (lay (S.now i.toNat) at0.toNat b), firm := putB S.firm i.toNat (lay (S.firm i.toNat) at0.toNat b) }

/-- As a device is that is made by calls. -/
structure ok (S : Dst) : Prop where
  now : ∀ i, i < S.n → (S.now i).length = 256 ∧ Oct (S.now i)
  firm : ∀ i, i < S.n → (S.firm i).length = 256 ∧ Oct (S.firm i)
  ws : ∀ q ∈ S.ws, q.1 < S.n ∧ q.2.length = 256 ∧ Oct q.2
  cut : -1 ≤ S.cut ∧ S.cut ≤ 9223372036854775807
  fail : S.fail ≤ 9223372036854775807
  n8 : 8 ≤ S.n
  n4 : S.n ≤ 4096
theorem zeros_oct : Oct zeros := fun x hx => by
  have := List.eq_of_mem_replicate hx
  omega
theorem zeros_len : zeros.length = 256 := List.length_replicate
theorem ok_new {n : Nat} (h8 : 8 ≤ n) (h4 : n ≤ 4096) : (new n).ok :=
  ⟨fun _ _ => ⟨zeros_len, zeros_oct⟩, fun _ _ => ⟨zeros_len, zeros_oct⟩, fun q hq => absurd hq (List.not_mem_nil), ⟨show (-1 : Int) ≤ -1 by decide, show (-1 : Int) ≤ 9223372036854775807 by decide⟩, Nat.zero_le _, h8, h4⟩
theorem step_n (S : Dst) : S.step.n = S.n := by unfold step; split <;> rfl
theorem step_now (S : Dst) : S.step.now = S.now := by unfold step; split <;> rfl
theorem step_firm (S : Dst) : S.step.firm = S.firm := by unfold step; split <;> rfl
theorem step_ws (S : Dst) : S.step.ws = S.ws := by unfold step; split <;> rfl
theorem step_has (S : Dst) (i : Int) : S.step.has i = S.has i := by unfold has; rw [step_n]
theorem ok_step {S : Dst} (h : S.ok) : S.step.ok := by
  refine ⟨by rw [step_now, step_n]; exact h.now, by rw [step_firm, step_n]; exact h.firm, by rw [step_ws, step_n]; exact h.ws, ?_, ?_, by rw [step_n]; exact h.n8, by rw [step_n]; exact h.n4⟩
  · have := h.cut
    unfold step
    split
    · exact this
    · show -1 ≤ (if 0 < S.cut then S.cut - 1 else S.cut) ∧ (if 0 < S.cut then S.cut - 1 else S.cut) ≤ 9223372036854775807
      split <;> omega
  · have := h.fail
    unfold step
    split
    · exact this
    · show S.fail - 1 ≤ _
      omega
theorem step_steps (S : Dst) : S.step.steps ≤ S.steps + 1 := by
  unfold step
  split
  · exact Nat.le_succ _
  · exact Nat.le_refl _
theorem putB_ok {s : Nat → List Int} {n i : Nat} {b : List Int} (h : ∀ k, k < n → (s k).length = 256 ∧ Oct (s k)) (hb : b.length = 256 ∧ Oct b) : ∀ k, k < n → (putB s i b k).length = 256 ∧ Oct (putB s i b k) := fun k hk => by
  unfold putB
  split
  · exact hb
  · exact h k hk
theorem has_lt {S : Dst} {i : Int} (h : ¬ S.has i = false) : 0 ≤ i ∧ i < (S.n : Int) ∧ i.toNat < S.n := by
  unfold has at h
  have h2 : (decide (0 ≤ i) && decide (i < (S.n : Int))) = true := by simpa using h
  rw [Bool.and_eq_true, decide_eq_true_eq, decide_eq_true_eq] at h2
  omega
theorem has_no {S : Dst} {i : Int} (h : S.has i = false) : ¬ (0 ≤ i ∧ i < (S.n : Int)) := fun h2 => by
  unfold has at h
  rw [decide_eq_true h2.1, decide_eq_true h2.2] at h
  cases h
theorem ok_put {S : Dst} (h : S.ok) {i : Nat} {b : List Int} (hi : i < S.n) (hb : b.length = 256 ∧ Oct b) : (S.put i b).ok :=
  ⟨putB_ok h.now hb, h.firm, fun q hq => by
    rcases List.mem_append.1 hq with h1 | h1
    · exact h.ws q h1
    · rw [List.mem_singleton.1 h1]; exact ⟨hi, hb⟩, h.cut, h.fail, h.n8, h.n4⟩
theorem ok_write {S : Dst} (h : S.ok) (i : Int) {b : List Int} (hb : Oct b) : (S.write i b).ok := by
  unfold write
  by_cases h1 : S.has i = false ∨ b.length ≠ 256
  · rw [if_pos h1]; exact h
  · rw [if_neg h1]
    by_cases h2 : S.err ≠ 0
    · rw [if_pos h2]; exact ok_step h
    · rw [if_neg h2]
      refine ok_put (ok_step h) ?_ ⟨?_, hb⟩
      · rw [step_n]; exact (has_lt (fun e => h1 (.inl e))).2.2
      · by_cases h3 : b.length = 256
        · exact h3
        · exact absurd (.inr h3) h1
theorem ok_calm {S : Dst} (h : S.ok) : S.calm.ok := ⟨h.now, h.now, fun q hq => absurd hq (List.not_mem_nil), h.cut, h.fail, h.n8, h.n4⟩
theorem ok_sync {S : Dst} (h : S.ok) : S.sync.ok := by
  unfold sync
  split
  · exact ok_step h
  · exact ok_calm (ok_step h)
theorem ok_setFail {S : Dst} (h : S.ok) {n : Int} (hn : n ≤ 9223372036854775807) : (S.setFail n).ok := ⟨h.now, h.firm, h.ws, h.cut, by show n.toNat ≤ _; omega, h.n8, h.n4⟩
theorem ok_setCut {S : Dst} (h : S.ok) {n : Int} (hn : n ≤ 9223372036854775807) : (S.setCut n).ok :=
  ⟨h.now, h.firm, h.ws, by show -1 ≤ (if n < 0 then -1 else n) ∧ (if n < 0 then -1 else n) ≤ 9223372036854775807; split <;> omega, h.fail, h.n8, h.n4⟩
theorem crs_ok : ∀ (ws : List (Nat × List Int)) (ms : List Nat) (s : Nat → List Int) (n : Nat), (∀ k, k < n → (s k).length = 256 ∧ Oct (s k)) → (∀ q ∈ ws, q.1 < n ∧ q.2.length = 256 ∧ Oct q.2) → ∀ k, k < n → (crs s ws ms k).length = 256 ∧ Oct (crs s ws ms k)
  | [], _, _, _, h, _ => h
  | _ :: _, [], _, _, h, _ => h
  | (i, b) :: ws, m :: ms, s, n, h, hw => by
    rw [crs]
    obtain ⟨hi, hb, ho⟩ := hw (i, b) (List.mem_cons_self ..)
    refine crs_ok ws ms _ n (putB_ok h ⟨mrg_length _ _ _, fun x hx => ?_⟩) (fun q hq => hw q (List.mem_cons_of_mem _ hq))
    obtain ⟨j, _, rfl⟩ := List.mem_map.1 hx
    split
    · exact ho.at j
    · exact (h i hi).2.at j
theorem ok_crash {S : Dst} (h : S.ok) (ms : List Nat) : (S.crash ms).ok :=
  ⟨crs_ok _ _ _ _ h.firm h.ws, crs_ok _ _ _ _ h.firm h.ws, fun q hq => absurd hq (List.not_mem_nil), ⟨by show -1 ≤ (-1 : Int); decide, by show (-1 : Int) ≤ _; decide⟩, by show 0 ≤ _; decide, h.n8, h.n4⟩
theorem lay_ok {f b : List Int} {at0 : Nat} (hf : f.length = 256 ∧ Oct f) (hb : Oct b) (h : at0 + b.length ≤ 256) : (lay f at0 b).length = 256 ∧ Oct (lay f at0 b) := by
  refine ⟨by rw [lay, List.length_append, List.length_append, List.length_take, List.length_drop]; omega, fun x hx => ?_⟩
  rcases List.mem_append.1 hx with h1 | h1
  · rcases List.mem_append.1 h1 with h2 | h2
    · exact hf.2 x (List.mem_of_mem_take h2)
    · exact hb x h2
  · exact hf.2 x (List.mem_of_mem_drop h1)
theorem ok_foreign {S : Dst} (h : S.ok) (i at0 : Int) {b : List Int} (hb : Oct b) : (S.foreign i at0 b).ok := by
  unfold foreign
  by_cases h1 : S.has i = false ∨ at0 < 0 ∨ 256 < at0 + b.length
  · rw [if_pos h1]; exact h
  · rw [if_neg h1]
    have hi := (has_lt (fun e => h1 (.inl e))).2.2
    have ha : at0.toNat + b.length ≤ 256 := by
      have h2 : ¬ at0 < 0 := fun e => h1 (.inr (.inl e))
      have h3 : ¬ 256 < at0 + (b.length : Int) := fun e => h1 (.inr (.inr e))
      omega
    exact ⟨putB_ok h.now (lay_ok (h.now _ hi) hb ha), putB_ok h.firm (lay_ok (h.firm _ hi) hb ha), h.ws, h.cut, h.fail, h.n8, h.n4⟩
end Dst
end Go.Proofs.Ytlbhoijjbpjmoaa
