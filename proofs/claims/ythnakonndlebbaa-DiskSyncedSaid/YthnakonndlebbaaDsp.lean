/-
  DiskSynced: what stays behind a loss of power. No program.
-/
import Derived.Test.YthnakonndlebbaaDcp
namespace Go.Proofs.Ythnakonndlebbaa
open Go.RowKit
set_option linter.unusedVariables false

/-- The writes of whole blocks of one byte. -/
def fulls (xs : List (Nat × Int)) : List (Nat × List Int) := xs.map fun q => (q.1, fullL q.2)
/-- The bytes that were written to block i. -/
def bytesOf (xs : List (Nat × Int)) (i : Nat) : List Int := (xs.filter fun q => q.1 == i).map fun q => q.2
theorem fulls_snoc (xs : List (Nat × Int)) (r : Nat) (x : Int) : fulls (xs ++ [(r, x)]) = fulls xs ++ [(r, fullL x)] := by simp [fulls]
theorem bytesOf_snoc (xs : List (Nat × Int)) (r : Nat) (x : Int) (i : Nat) : bytesOf (xs ++ [(r, x)]) i = if i = r then bytesOf xs r ++ [x] else bytesOf xs i := by
  unfold bytesOf
  rw [List.filter_append, List.map_append]
  by_cases h : i = r
  · subst h
    simp
  · have h2 : (r == i) = false := by simpa using fun e => h e.symm
    rw [if_neg h]
    simp [h2]
theorem bytesOf_len (xs : List (Nat × Int)) (i : Nat) : (bytesOf xs i).length ≤ xs.length := by
  unfold bytesOf
  rw [List.length_map]
  exact List.length_filter_le _ _
theorem fullL_at (x : Int) {j : Nat} (h : j < 256) : (fullL x).getD j 0 = x := by
  unfold fullL
  rw [List.getD_eq_getElem?_getD, List.getElem?_replicate, if_pos h]
  rfl
/-- What Synced asks of byte j of block i. -/
def synB (L Fi E : List Int) (j : Nat) : Prop := (L.getD j 0 = Fi.getD j 0 ∧ L.getD j 0 = L.getD (j / 64 * 64) 0) ∨ ∃ t, t < E.length ∧ L.getD j 0 = E.getD t 0 ∧ L.getD (j / 64 * 64) 0 = E.getD t 0
theorem syn_all (s : Nat → List Int) (xs : List (Nat × Int)) (ms : List Nat) (i j : Nat) (y : Int) (hj : j < 256) (hs : s i = fullL y) : synB (crs s (fulls xs) ms i) (s i) (bytesOf xs i) j := by
  rcases crs_sector (fulls xs) ms s i j hj with ⟨h1, h2⟩ | ⟨q, hq, h0, h1, h2⟩
  · refine .inl ⟨h1, ?_⟩
    rw [h1, h2, hs, fullL_at y hj, fullL_at y (by omega)]
  · obtain ⟨p, hp, rfl⟩ := List.mem_map.1 hq
    have hm : p.2 ∈ bytesOf xs i := List.mem_map.2 ⟨p, List.mem_filter.2 ⟨hp, by simpa using h0⟩, rfl⟩
    obtain ⟨t, ht, he⟩ := List.getElem_of_mem hm
    have hg : (bytesOf xs i).getD t 0 = p.2 := by rw [List.getD_eq_getElem?_getD, List.getElem?_eq_getElem ht]; exact he
    refine .inr ⟨t, ht, ?_, ?_⟩
    · rw [h1, hg]
      exact fullL_at p.2 hj
    · rw [h2, hg]
      exact fullL_at p.2 (by omega)
end Go.Proofs.Ythnakonndlebbaa
