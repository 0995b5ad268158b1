/-
  A slice of slices of bytes, each in a block of its own.
-/
import Derived.Test.YtlbhoijjbpjmoaaKa
import Derived.Test.YtlbhoijjbpjmoaaOwi
namespace Go.Proofs.Ytlbhoijjbpjmoaa
open Go.RowKit
set_option linter.unusedVariables false

/-- v has n slices V 0, V 1, .., of m bytes each; V i holds D i; no two lie in one block. -/
structure Rowz (B : Nat) (w : World) (v : Value) (n m : Nat) (V : Nat → Value) (D : Nat → List Int) : Prop where
  out : w.ownsRow B 31 1 v n ((List.range n).map V)
  row : ∀ i, i < n → Own B w (V i) m (D i)
  ap0 : ∀ i, i < n → ∀ q, (V i).ownBlock = some q → v.ownBlock ≠ some q
  ap : ∀ i j, i < n → j < n → i ≠ j → ∀ q, (V i).ownBlock = some q → (V j).ownBlock ≠ some q
/-- Is block q one of its blocks? -/
def Rowz.has (v : Value) (n : Nat) (V : Nat → Value) (q : Nat) : Prop := v.ownBlock = some q ∨ ∃ i, i < n ∧ (V i).ownBlock = some q
section
variable {B n m : Nat} {w w' : World} {v : Value} {V : Nat → Value} {D : Nat → List Int}
theorem Rowz.nil (B : Nat) (w : World) (m : Nat) (V : Nat → Value) (D : Nat → List Int) : Rowz B w (.slice none 0 0) 0 m V D :=
  ⟨World.ownsRow_nil _ _ _ _, fun i hi => absurd hi (Nat.not_lt_zero _), fun i hi => absurd hi (Nat.not_lt_zero _), fun i j hi => absurd hi (Nat.not_lt_zero _)⟩
theorem Rowz.lt (h : Rowz B w v n m V D) (q : Nat) (hq : Rowz.has v n V q) : B ≤ q ∧ q < w.heap.size := by
  rcases hq with hq | ⟨i, hi, hq⟩
  · exact World.ownsRow.lt h.out q hq
  · exact World.ownsRow.lt (h.row i hi) q hq
/-- Where another block is turned. -/
theorem Rowz.aside {row : Option Nat} (h : Rowz B w v n m V D) (hg : w.grownBy w' row) (hne : ∀ q, Rowz.has v n V q → some q ≠ row) : Rowz B w' v n m V D :=
  ⟨row_aside h.out hg fun q hq => hne q (.inl hq), fun i hi => row_aside (h.row i hi) hg fun q hq => hne q (.inr ⟨i, hi, hq⟩), h.ap0, h.ap⟩
theorem Rowz.below (h : Rowz B w v n m V D) (hb : Below w.heap.size w w') : Rowz B w' v n m V D :=
  ⟨row_below h.out hb, fun i hi => row_below (h.row i hi) hb, h.ap0, h.ap⟩
theorem Rowz.mono {B' : Nat} (h : Rowz B w v n m V D) (hB : B' ≤ B) : Rowz B' w v n m V D := by
  refine ⟨⟨h.out.1, ?_⟩, fun i hi => (h.row i hi).mono hB, h.ap0, h.ap⟩
  rcases h.out.2 with h2 | ⟨g, cap, cur, h1, h2, h3⟩
  · exact .inl h2
  · exact .inr ⟨g, cap, cur, h1, Nat.le_trans hB h2, h3⟩
/-- Its own block's cell i is slice i. -/
theorem Rowz.cellAt {g cap : Nat} (h : Rowz B w (.slice (some ⟨g, 0, none⟩) n cap) n m V D) (i : Nat) (hi : i < n) : w.cell? ⟨g, i, none⟩ = some (V i) := by
  have e := World.ownsRow.cellAt h.out i (by omega)
  rw [e, List.getElem?_map, List.getElem?_range hi]
  rfl
theorem Rowz.shape (h : Rowz B w v n m V D) : (v = .slice none 0 0 ∧ n = 0) ∨ ∃ g cap, v = .slice (some ⟨g, 0, none⟩) n cap ∧ B ≤ g ∧ n ≤ cap := by
  rcases h.out.2 with ⟨hv, hn⟩ | ⟨g, cap, cur, rfl, hB, _, hc, _⟩
  · exact .inl ⟨hv, hn⟩
  · exact .inr ⟨g, cap, rfl, hB, hc⟩
/-- Byte j of slice i written. -/
theorem Rowz.byte {g cap i : Nat} (h : Rowz B w v n m V D) (hi : i < n) (hV : V i = .slice (some ⟨g, 0, none⟩) m cap) (j : Nat) (x : Int) :
    Rowz B (w.setCell ⟨g, j, none⟩ (.int .u8 x)) v n m V (fun k => if k = i then (D i).set j x else D k) := by
  have hg : w.grownBy (w.setCell ⟨g, j, none⟩ (.int .u8 x)) (some g) := by
    have hs : ∀ k, k ≠ g → (w.setCell ⟨g, j, none⟩ (.int .u8 x)).heap[k]? = w.heap[k]? := fun k hk => Below.heap_setCell w _ _ k hk
    have h0 := (Below.refl 0 w).setCell (p := ⟨g, j, none⟩) (Nat.zero_le _) (.int .u8 x)
    exact ⟨h0.os, h0.tape, h0.output, h0.size, fun k hk hne => hs k (fun e => hne (by rw [e]))⟩
  have hgo : (V i).ownBlock = some g := by rw [hV]; rfl
  refine ⟨row_aside h.out hg fun q hq e => h.ap0 i hi q (by rw [hgo]; exact e.symm) hq, fun k hk => ?_, h.ap0, h.ap⟩
  by_cases hki : k = i
  · subst hki
    have := h.row k hk
    rw [hV] at this ⊢
    rw [if_pos rfl]
    exact this.stored j x
  · rw [if_neg hki]
    exact row_aside (h.row k hk) hg fun q hq e => h.ap k i hk hi hki q hq (by rw [hgo]; exact e.symm)
theorem map_put {n i : Nat} (V : Nat → Value) (u : Value) (hi : i < n) : ((List.range n).map V).set i u = (List.range n).map fun k => if k = i then u else V k := by
  refine List.ext_getElem (by simp) fun k h1 h2 => ?_
  rw [List.getElem_set]
  by_cases h : i = k
  · subst h; simp
  · rw [if_neg h]
    simp [show ¬ k = i from fun e => h e.symm]
/-- Slice i taken for another one. -/
theorem Rowz.put {g cap i : Nat} {u : Value} {xs : List Int} (h : Rowz B w (.slice (some ⟨g, 0, none⟩) n cap) n m V D) (hi : i < n) (hu : Own B w u m xs) (hu0 : u.ownBlock ≠ some g) (huv : ∀ k, k < n → k ≠ i → ∀ q, (V k).ownBlock = some q → u.ownBlock ≠ some q) :
    Rowz B (w.setCell ⟨g, i, none⟩ u) (.slice (some ⟨g, 0, none⟩) n cap) n m (fun k => if k = i then u else V k) (fun k => if k = i then xs else D k) := by
  obtain ⟨ho, hg⟩ := World.ownsRow.stored h.out i u
  rw [map_put V u hi] at ho
  refine ⟨ho, fun k hk => ?_, fun k hk q hq => ?_, fun j k hj hk hjk q hq => ?_⟩
  · by_cases hki : k = i
    · subst hki
      simp only [if_true]
      exact row_aside hu hg fun q hq e => hu0 (by rw [hq]; exact e)
    · simp only [if_neg hki]
      exact row_aside (h.row k hk) hg fun q hq e => h.ap0 k hk q hq e.symm
  · by_cases hki : k = i
    · subst hki
      simp only [if_true] at hq
      exact fun e => hu0 (hq.trans e.symm)
    · simp only [if_neg hki] at hq
      exact h.ap0 k hk q hq
  · by_cases hji : j = i
    · subst hji
      simp only [if_true] at hq
      simp only [if_neg (show ¬ k = j from fun e => hjk e.symm)]
      exact fun e => huv k hk (fun e => hjk e.symm) q e hq
    · simp only [if_neg hji] at hq
      by_cases hki : k = i
      · subst hki
        simp only [if_true]
        exact huv j hj hji q hq
      · simp only [if_neg hki]
        exact h.ap j k hj hk hjk q hq
/-- One slice more. -/
theorem Rowz.snoc {v' u : Value} {xs : List Int} {H : Nat} (h : Rowz B w v n m V D) (hg : w.grownBy w' v.ownBlock) (ho : w'.ownsRow B 31 1 v' (n + 1) ((List.range n).map V ++ [u])) (hu : Own B w u m xs)
    (hu0 : ∀ q, u.ownBlock = some q → v.ownBlock ≠ some q) (huv : ∀ i, i < n → ∀ q, (V i).ownBlock = some q → u.ownBlock ≠ some q) (hv : v'.ownBlock = v.ownBlock ∨ v'.ownBlock = some H) (hH : w.heap.size ≤ H) :
    Rowz B w' v' (n + 1) m (fun k => if k = n then u else V k) (fun k => if k = n then xs else D k) := by
  have e : (List.range (n + 1)).map (fun k => if k = n then u else V k) = (List.range n).map V ++ [u] := by
    rw [List.range_succ, List.map_append]
    congr 1
    · exact List.map_congr_left fun k hk => if_neg (by have := List.mem_range.1 hk; omega)
    · simp
  have hv' : ∀ q, q < w.heap.size → v.ownBlock ≠ some q → v'.ownBlock ≠ some q := fun q hq hn e => by
    rcases hv with h1 | h1
    · exact hn (h1.symm.trans e)
    · have := Option.some.inj (h1.symm.trans e)
      omega
  refine ⟨by rw [e]; exact ho, fun k hk => ?_, fun k hk q hq => ?_, fun j k hj hk hjk q hq => ?_⟩
  · by_cases hkn : k = n
    · simp only [if_pos hkn]
      exact row_aside hu hg fun q hq e => hu0 q hq e.symm
    · simp only [if_neg hkn]
      exact row_aside (h.row k (by omega)) hg fun q hq e => h.ap0 k (by omega) q hq e.symm
  · by_cases hkn : k = n
    · simp only [if_pos hkn] at hq
      exact hv' q (World.ownsRow.lt hu q hq).2 (hu0 q hq)
    · simp only [if_neg hkn] at hq
      exact hv' q (World.ownsRow.lt (h.row k (by omega)) q hq).2 (h.ap0 k (by omega) q hq)
  · by_cases hjn : j = n
    · simp only [if_pos hjn] at hq
      simp only [if_neg (show ¬ k = n from by omega)]
      exact fun e => huv k (by omega) q e hq
    · simp only [if_neg hjn] at hq
      by_cases hkn : k = n
      · simp only [if_pos hkn]
        exact huv j (by omega) q hq
      · simp only [if_neg hkn]
        exact h.ap j k (by omega) (by omega) hjk q hq
end
end Go.Proofs.Ytlbhoijjbpjmoaa
