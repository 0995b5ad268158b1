/-
  A device as lists of bytes: what it tells, what is firm, what waits. No program.
-/
import Derived.Test.YtlbhoijjbpjmoaaKa
namespace Go.Proofs.Ytlbhoijjbpjmoaa
open Go.RowKit
set_option linter.unusedVariables false

/-- The sectors of b whose bits m has, over f. -/
def mrg (m : Nat) (b f : List Int) : List Int := (List.range 256).map fun j => if m / 2 ^ (j / 64) % 2 = 1 then b.getD j 0 else f.getD j 0
theorem mrg_length (m : Nat) (b f : List Int) : (mrg m b f).length = 256 := by simp [mrg]
theorem mrg_at (m : Nat) (b f : List Int) (j : Nat) (h : j < 256) : (mrg m b f).getD j 0 = if m / 2 ^ (j / 64) % 2 = 1 then b.getD j 0 else f.getD j 0 := by
  rw [mrg, List.getD_eq_getElem?_getD, List.getElem?_map, List.getElem?_range h]
  rfl
theorem list_same {a b : List Int} (ha : a.length = 256) (hb : b.length = 256) (h : ∀ j, j < 256 → a.getD j 0 = b.getD j 0) : a = b := by
  refine List.ext_getElem (ha.trans hb.symm) fun i h1 h2 => ?_
  have := h i (by omega)
  rwa [List.getD_eq_getElem?_getD, List.getD_eq_getElem?_getD, List.getElem?_eq_getElem h1, List.getElem?_eq_getElem h2] at this
/-- All sectors come through. -/
theorem mrg_all {b : List Int} (f : List Int) (hb : b.length = 256) : mrg 15 b f = b := by
  refine list_same (mrg_length _ _ _) hb fun j hj => ?_
  rw [mrg_at _ _ _ _ hj, if_pos]
  have : j / 64 = 0 ∨ j / 64 = 1 ∨ j / 64 = 2 ∨ j / 64 = 3 := by omega
  rcases this with h | h | h | h <;> rw [h]
/-- No sector comes through. -/
theorem mrg_none {f : List Int} (b : List Int) (hf : f.length = 256) : mrg 0 b f = f := by
  refine list_same (mrg_length _ _ _) hf fun j hj => ?_
  rw [mrg_at _ _ _ _ hj, if_neg (by rw [Nat.zero_div]; decide)]
/-- Block i turned to b. -/
def putB (s : Nat → List Int) (i : Nat) (b : List Int) : Nat → List Int := fun k => if k = i then b else s k
/-- What is firm behind a loss of power: the waiting writes ws, the masks ms. -/
def crs (s : Nat → List Int) : List (Nat × List Int) → List Nat → Nat → List Int
  | [], _ => s
  | _ :: _, [] => s
  | (i, b) :: ws, m :: ms => crs (putB s i (mrg m b (s i))) ws ms
theorem crs_nil (s : Nat → List Int) (ws : List (Nat × List Int)) : crs s ws [] = s := by cases ws <;> rfl
/-- What the device tells: all waiting writes done. -/
def tells (s : Nat → List Int) : List (Nat × List Int) → Nat → List Int
  | [] => s
  | (i, b) :: ws => tells (putB s i b) ws
theorem tells_snoc : ∀ (ws : List (Nat × List Int)) (s : Nat → List Int) (i : Nat) (b : List Int), tells s (ws ++ [(i, b)]) = putB (tells s ws) i b
  | [], _, _, _ => rfl
  | (k, c) :: ws, s, i, b => tells_snoc ws (putB s k c) i b
/-- A loss of power in which all comes through leaves what the device told. -/
theorem crs_all : ∀ (ws : List (Nat × List Int)) (s : Nat → List Int) (n : Nat), (∀ q ∈ ws, q.2.length = 256) → ws.length ≤ n → crs s ws (List.replicate n 15) = tells s ws
  | [], _, _, _, _ => rfl
  | (i, b) :: ws, s, 0, _, h => by simp at h
  | (i, b) :: ws, s, n + 1, hq, h => by
    rw [List.replicate_succ, crs, mrg_all _ (hq (i, b) (List.mem_cons_self ..)), tells]
    exact crs_all ws _ n (fun q hm => hq q (List.mem_cons_of_mem _ hm)) (by simpa using h)
/-- Each sector of what is firm is what it was, or that of one of the writes to its block. -/
theorem crs_sector : ∀ (ws : List (Nat × List Int)) (ms : List Nat) (s : Nat → List Int) (k j : Nat), j < 256 →
    (crs s ws ms k).getD j 0 = (s k).getD j 0 ∧ (crs s ws ms k).getD (j / 64 * 64) 0 = (s k).getD (j / 64 * 64) 0 ∨
    ∃ q ∈ ws, q.1 = k ∧ (crs s ws ms k).getD j 0 = q.2.getD j 0 ∧ (crs s ws ms k).getD (j / 64 * 64) 0 = q.2.getD (j / 64 * 64) 0
  | [], _, _, _, _, _ => .inl ⟨rfl, rfl⟩
  | _ :: _, [], _, _, _, _ => .inl ⟨rfl, rfl⟩
  | (i, b) :: ws, m :: ms, s, k, j, hj => by
    have hjs : j / 64 * 64 < 256 := by omega
    have hsec : j / 64 * 64 / 64 = j / 64 := by omega
    rw [crs]
    rcases crs_sector ws ms (putB s i (mrg m b (s i))) k j hj with ⟨h1, h2⟩ | ⟨q, hq, h0, h1, h2⟩
    · rw [h1, h2]
      by_cases hk : k = i
      · subst hk
        have e : putB s k (mrg m b (s k)) k = mrg m b (s k) := if_pos rfl
        rw [e, mrg_at _ _ _ _ hj, mrg_at _ _ _ _ hjs, hsec]
        by_cases hm : m / 2 ^ (j / 64) % 2 = 1
        · rw [if_pos hm, if_pos hm]
          exact .inr ⟨(k, b), List.mem_cons_self .., rfl, rfl, rfl⟩
        · rw [if_neg hm, if_neg hm]
          exact .inl ⟨rfl, rfl⟩
      · have e : putB s i (mrg m b (s i)) k = s k := if_neg hk
        rw [e]
        exact .inl ⟨rfl, rfl⟩
    · exact .inr ⟨q, List.mem_cons_of_mem _ hq, h0, h1, h2⟩
theorem crs_length : ∀ (ws : List (Nat × List Int)) (ms : List Nat) (s : Nat → List Int) (k : Nat), (s k).length = 256 → (crs s ws ms k).length = 256
  | [], _, _, _, h => h
  | _ :: _, [], _, _, h => h
  | (i, b) :: ws, m :: ms, s, k, h => by
    rw [crs]
    refine crs_length ws ms _ k ?_
    unfold putB
    by_cases hk : k = i
    · rw [if_pos hk]; exact mrg_length _ _ _
    · rw [if_neg hk]; exact h

/-- One write more came through. -/
theorem crs_succ : ∀ {ws : List (Nat × List Int)} {ms : List Nat} (s : Nat → List Int) {k a : Nat} {b : List Int}, ws[k]? = some (a, b) → k < ms.length → crs s (ws.take (k + 1)) ms = putB (crs s (ws.take k) ms) a (mrg (ms.getD k 0) b (crs s (ws.take k) ms a))
  | [], _, _, _, _, _, h, _ => by simp at h
  | _ :: _, [], _, _, _, _, _, h => by simp at h
  | (i, c) :: ws, m :: ms, s, 0, a, b, h, _ => by
    simp at h
    obtain ⟨rfl, rfl⟩ := h
    rw [List.take_succ_cons, List.take_zero, List.take_zero]
    rfl
  | (i, c) :: ws, m :: ms, s, k + 1, a, b, h, hk => by
    rw [List.take_succ_cons, List.take_succ_cons, crs, crs]
    have := crs_succ (ws := ws) (ms := ms) (putB s i (mrg m c (s i))) (k := k) (a := a) (b := b) (by simpa using h) (by simpa using hk)
    rw [this]
    rfl
theorem crs_short : ∀ (s : Nat → List Int) (ws : List (Nat × List Int)) {ms : List Nat} {k : Nat}, ms.length ≤ k → crs s (ws.take k) ms = crs s ws ms
  | s, [], _, k, _ => by rw [List.take_nil]
  | s, _ :: _, [], k, _ => by rw [crs_nil, crs_nil]
  | s, (i, c) :: ws, m :: ms, 0, h => by simp at h
  | s, (i, c) :: ws, m :: ms, k + 1, h => by
    rw [List.take_succ_cons, crs, crs]
    exact crs_short _ ws (by simpa using h)
/-- No write to block j: it stays. -/
theorem crs_other : ∀ (ws : List (Nat × List Int)) (ms : List Nat) (s : Nat → List Int) (j : Nat), (∀ q ∈ ws, q.1 ≠ j) → crs s ws ms j = s j
  | [], _, _, _, _ => rfl
  | _ :: _, [], _, _, _ => rfl
  | (i, b) :: ws, m :: ms, s, j, h => by
    rw [crs, crs_other ws ms _ j fun q hq => h q (List.mem_cons_of_mem _ hq)]
    exact if_neg fun e => h (i, b) (List.mem_cons_self ..) e.symm
/-- The blocks that are written to taken from t. -/
def puts (t : Nat → List Int) : List (Nat × List Int) → (Nat → List Int) → Nat → List Int
  | [], s => s
  | q :: ws, s => puts t ws (putB s q.1 (t q.1))
theorem puts_snoc (t : Nat → List Int) : ∀ (ws : List (Nat × List Int)) (s : Nat → List Int) (q : Nat × List Int), puts t (ws ++ [q]) s = putB (puts t ws s) q.1 (t q.1)
  | [], _, _ => rfl
  | p :: ws, s, q => puts_snoc t ws (putB s p.1 (t p.1)) q
theorem puts_other (t : Nat → List Int) : ∀ (ws : List (Nat × List Int)) (s : Nat → List Int) (j : Nat), (∀ q ∈ ws, q.1 ≠ j) → puts t ws s j = s j
  | [], _, _, _ => rfl
  | p :: ws, s, j, h => by
    rw [puts, puts_other t ws _ j fun q hq => h q (List.mem_cons_of_mem _ hq)]
    exact if_neg fun e => h p (List.mem_cons_self ..) e.symm
theorem puts_same (t : Nat → List Int) : ∀ (ws : List (Nat × List Int)) (s : Nat → List Int) (j : Nat), ((∀ q ∈ ws, q.1 ≠ j) → s j = t j) → puts t ws s j = t j
  | [], s, j, h => h fun _ hq => absurd hq List.not_mem_nil
  | p :: ws, s, j, h => by
    rw [puts]
    refine puts_same t ws _ j fun h2 => ?_
    unfold putB
    by_cases e : j = p.1
    · rw [if_pos e, e]
    · rw [if_neg e]
      exact h fun q hq => by
        rcases List.mem_cons.1 hq with rfl | hq
        · exact fun e2 => e e2.symm
        · exact h2 q hq

/-- A step is asked: its error, how many steps count, which one fails, how many more are asked till the power goes, whether it is off. -/
def stp (steps fail : Nat) (cut : Int) (down : Bool) : Int × Nat × Nat × Int × Bool :=
  if down ∨ cut = 0 then (81, steps, fail, cut, true) else
  (if fail = 1 then 80 else 0, steps + 1, fail - 1, if 0 < cut then cut - 1 else cut, false)
end Go.Proofs.Ytlbhoijjbpjmoaa
