/-
  A slice of pairs, a number and a slice of bytes, each slice in a block of its own.
-/
import Derived.Test.YtlbhoijjbpjmoaaRz
namespace Go.Proofs.Ytlbhoijjbpjmoaa
open Go.RowKit
set_option linter.unusedVariables false

/-- The pairs' cells. -/
def pairsL (A V : Nat → Value) (n : Nat) : List Value := (List.range n).flatMap fun i => [A i, V i]
theorem pairsL_succ (A V : Nat → Value) (n : Nat) : pairsL A V (n + 1) = pairsL A V n ++ [A n, V n] := by
  rw [pairsL, List.range_succ, List.flatMap_append]
  simp [pairsL]
theorem pairsL_length (A V : Nat → Value) : ∀ n, (pairsL A V n).length = n * 2
  | 0 => rfl
  | n + 1 => by rw [pairsL_succ, List.length_append, pairsL_length A V n]; simp; omega
theorem pairsL_at (A V : Nat → Value) : ∀ n i, i < n → (pairsL A V n)[i * 2]? = some (A i) ∧ (pairsL A V n)[i * 2 + 1]? = some (V i)
  | 0, i, h => absurd h (Nat.not_lt_zero _)
  | n + 1, i, h => by
    have hl := pairsL_length A V n
    rw [pairsL_succ]
    by_cases hi : i < n
    · rw [List.getElem?_append_left (by omega), List.getElem?_append_left (by omega)]
      exact pairsL_at A V n i hi
    · obtain rfl : i = n := by omega
      rw [List.getElem?_append_right (by omega), List.getElem?_append_right (by omega), hl]
      refine ⟨by rw [Nat.sub_self]; rfl, by rw [Nat.add_sub_cancel_left]; rfl⟩
theorem pairsL_same {A V A' V' : Nat → Value} : ∀ {n}, (∀ i, i < n → A i = A' i ∧ V i = V' i) → pairsL A V n = pairsL A' V' n
  | 0, _ => rfl
  | n + 1, h => by rw [pairsL_succ, pairsL_succ, pairsL_same (fun i hi => h i (by omega)), (h n (by omega)).1, (h n (by omega)).2]

/-- v has n pairs: the number A i, and the slice V i of m bytes, which holds D i; no two slices lie in one block. -/
structure Wtz (e : TypeId) (B : Nat) (w : World) (v : Value) (n m : Nat) (A : Nat → Int) (V : Nat → Value) (D : Nat → List Int) : Prop where
  out : w.ownsRow B e 2 v n (pairsL (fun i => .int .i64 (A i)) V n)
  row : ∀ i, i < n → Own B w (V i) m (D i)
  ap0 : ∀ i, i < n → ∀ q, (V i).ownBlock = some q → v.ownBlock ≠ some q
  ap : ∀ i j, i < n → j < n → i ≠ j → ∀ q, (V i).ownBlock = some q → (V j).ownBlock ≠ some q
section
variable {e : TypeId} {B n m : Nat} {w w' : World} {v : Value} {A : Nat → Int} {V : Nat → Value} {D : Nat → List Int}
theorem Wtz.nil (e : TypeId) (B : Nat) (w : World) (m : Nat) (A : Nat → Int) (V : Nat → Value) (D : Nat → List Int) : Wtz e B w (.slice none 0 0) 0 m A V D :=
  ⟨World.ownsRow_nil _ _ _ _, fun i hi => absurd hi (Nat.not_lt_zero _), fun i hi => absurd hi (Nat.not_lt_zero _), fun i j hi => absurd hi (Nat.not_lt_zero _)⟩
theorem Wtz.lt (h : Wtz e B w v n m A V D) (q : Nat) (hq : Rowz.has v n V q) : B ≤ q ∧ q < w.heap.size := by
  rcases hq with hq | ⟨i, hi, hq⟩
  · exact World.ownsRow.lt h.out q hq
  · exact World.ownsRow.lt (h.row i hi) q hq
theorem Wtz.aside {row : Option Nat} (h : Wtz e B w v n m A V D) (hg : w.grownBy w' row) (hne : ∀ q, Rowz.has v n V q → some q ≠ row) : Wtz e B w' v n m A V D :=
  ⟨row_aside h.out hg fun q hq => hne q (.inl hq), fun i hi => row_aside (h.row i hi) hg fun q hq => hne q (.inr ⟨i, hi, hq⟩), h.ap0, h.ap⟩
theorem Wtz.below (h : Wtz e B w v n m A V D) (hb : Below w.heap.size w w') : Wtz e B w' v n m A V D :=
  ⟨row_below h.out hb, fun i hi => row_below (h.row i hi) hb, h.ap0, h.ap⟩
theorem Wtz.cells {g cap : Nat} (h : Wtz e B w (.slice (some ⟨g, 0, none⟩) n cap) n m A V D) (i : Nat) (hi : i < n) : w.cell? ⟨g, i * 2, none⟩ = some (.int .i64 (A i)) ∧ w.cell? ⟨g, i * 2 + 1, none⟩ = some (V i) := by
  obtain ⟨h1, h2⟩ := pairsL_at (fun i => .int .i64 (A i)) V n i hi
  exact ⟨(World.ownsRow.cellAt h.out (i * 2) (by omega)).trans h1, (World.ownsRow.cellAt h.out (i * 2 + 1) (by omega)).trans h2⟩
theorem Wtz.shape (h : Wtz e B w v n m A V D) : (v = .slice none 0 0 ∧ n = 0) ∨ ∃ g cap, v = .slice (some ⟨g, 0, none⟩) n cap ∧ B ≤ g ∧ n ≤ cap := by
  rcases h.out.2 with ⟨hv, hn⟩ | ⟨g, cap, cur, rfl, hB, _, hc, _⟩
  · exact .inl ⟨hv, hn⟩
  · exact .inr ⟨g, cap, rfl, hB, hc⟩
/-- One pair more. -/
theorem Wtz.snoc {v' u : Value} {xs : List Int} {H : Nat} {a : Int} (h : Wtz e B w v n m A V D) (hg : w.grownBy w' v.ownBlock) (ho : w'.ownsRow B e 2 v' (n + 1) (pairsL (fun i => .int .i64 (A i)) V n ++ [.int .i64 a, u])) (hu : Own B w u m xs)
    (hu0 : ∀ q, u.ownBlock = some q → v.ownBlock ≠ some q) (huv : ∀ i, i < n → ∀ q, (V i).ownBlock = some q → u.ownBlock ≠ some q) (hv : v'.ownBlock = v.ownBlock ∨ v'.ownBlock = some H) (hH : w.heap.size ≤ H) :
    Wtz e B w' v' (n + 1) m (fun k => if k = n then a else A k) (fun k => if k = n then u else V k) (fun k => if k = n then xs else D k) := by
  have ee : pairsL (fun i => .int .i64 (if i = n then a else A i)) (fun k => if k = n then u else V k) (n + 1) = pairsL (fun i => .int .i64 (A i)) V n ++ [.int .i64 a, u] := by
    rw [pairsL_succ, pairsL_same (A' := fun i => .int .i64 (A i)) (V' := V) (fun i hi => ⟨by rw [if_neg (by omega)], by rw [if_neg (by omega)]⟩)]
    simp
  have hv' : ∀ q, q < w.heap.size → v.ownBlock ≠ some q → v'.ownBlock ≠ some q := fun q hq hn e => by
    rcases hv with h1 | h1
    · exact hn (h1.symm.trans e)
    · have := Option.some.inj (h1.symm.trans e)
      omega
  refine ⟨by rw [ee]; exact ho, fun k hk => ?_, fun k hk q hq => ?_, fun j k hj hk hjk q hq => ?_⟩
  · by_cases hkn : k = n
    · simp only [if_pos hkn]
      exact row_aside hu hg fun q hq e => hu0 q hq e.symm
    · simp only [if_neg hkn]
      exact row_aside (h.row k (by omega)) hg fun q hq e => h.ap0 k (by omega) q hq e.symm
  · by_cases hkn : k = n
    · simp only [if_pos hkn] at hq
      exact hv' q (World.ownsRow.lt hu q hq).2 (hu0 q hq)
    · simp only [if_neg hkn] at hq
      exact hv' q (World.ownsRow.lt (h.row k (by omega)) q hq).2 (h.ap0 k (by omega) q hq)
  · by_cases hjn : j = n
    · simp only [if_pos hjn] at hq
      simp only [if_neg (show ¬ k = n from by omega)]
      exact fun e => huv k (by omega) q e hq
    · simp only [if_neg hjn] at hq
      by_cases hkn : k = n
      · simp only [if_pos hkn]
        exact huv j (by omega) q hq
      · simp only [if_neg hkn]
        exact h.ap j k (by omega) (by omega) hjk q hq
end
end Go.Proofs.Ytlbhoijjbpjmoaa
