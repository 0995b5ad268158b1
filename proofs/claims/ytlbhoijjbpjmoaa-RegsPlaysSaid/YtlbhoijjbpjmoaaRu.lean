/-
  A slice of slices of bytes, each of its own length, in a block of its own.
-/
import Derived.Test.YtlbhoijjbpjmoaaTb
namespace Go.Proofs.Ytlbhoijjbpjmoaa
open Go.RowKit
set_option linter.unusedVariables false

/-- v has n slices V 0, V 1, ..; V i holds D i; no two lie in one block. -/
structure Rowu (B : Nat) (w : World) (v : Value) (n : Nat) (V : Nat → Value) (D : Nat → List Int) : Prop where
  out : w.ownsRow B 31 1 v n ((List.range n).map V)
  row : ∀ i, i < n → Own B w (V i) (D i).length (D i)
  ap0 : ∀ i, i < n → ∀ q, (V i).ownBlock = some q → v.ownBlock ≠ some q
  ap : ∀ i j, i < n → j < n → i ≠ j → ∀ q, (V i).ownBlock = some q → (V j).ownBlock ≠ some q
/-- Is block q one of its blocks? -/
def Rowu.has (v : Value) (n : Nat) (V : Nat → Value) (q : Nat) : Prop := v.ownBlock = some q ∨ ∃ i, i < n ∧ (V i).ownBlock = some q
section
variable {B n : Nat} {w w' : World} {v : Value} {V : Nat → Value} {D : Nat → List Int}
theorem Rowu.nil (B : Nat) (w : World) (V : Nat → Value) (D : Nat → List Int) : Rowu B w (.slice none 0 0) 0 V D :=
  ⟨World.ownsRow_nil _ _ _ _, fun i hi => absurd hi (Nat.not_lt_zero _), fun i hi => absurd hi (Nat.not_lt_zero _), fun i j hi => absurd hi (Nat.not_lt_zero _)⟩
theorem Rowu.lt (h : Rowu B w v n V D) (q : Nat) (hq : Rowu.has v n V q) : B ≤ q ∧ q < w.heap.size := by
  rcases hq with hq | ⟨i, hi, hq⟩
  · exact World.ownsRow.lt h.out q hq
  · exact World.ownsRow.lt (h.row i hi) q hq
/-- Where another block is turned. -/
theorem Rowu.aside {row : Option Nat} (h : Rowu B w v n V D) (hg : w.grownBy w' row) (hne : ∀ q, Rowu.has v n V q → some q ≠ row) : Rowu B w' v n V D :=
  ⟨row_aside h.out hg fun q hq => hne q (.inl hq), fun i hi => row_aside (h.row i hi) hg fun q hq => hne q (.inr ⟨i, hi, hq⟩), h.ap0, h.ap⟩
theorem Rowu.below (h : Rowu B w v n V D) (hb : Below w.heap.size w w') : Rowu B w' v n V D :=
  ⟨row_below h.out hb, fun i hi => row_below (h.row i hi) hb, h.ap0, h.ap⟩
theorem Rowu.tb {F : Nat → Prop} (h : Rowu B w v n V D) (ht : Tb F w w') (hne : ∀ q, Rowu.has v n V q → ¬ F q) : Rowu B w' v n V D :=
  ⟨row_tb h.out ht fun q hq => hne q (.inl hq), fun i hi => row_tb (h.row i hi) ht fun q hq => hne q (.inr ⟨i, hi, hq⟩), h.ap0, h.ap⟩
theorem Rowu.same {D' : Nat → List Int} (h : Rowu B w v n V D) (e : ∀ i, i < n → D i = D' i) : Rowu B w v n V D' := ⟨h.out, fun i hi => by rw [← e i hi]; exact h.row i hi, h.ap0, h.ap⟩
theorem Rowu.mono {B' : Nat} (h : Rowu B w v n V D) (hB : B' ≤ B) : Rowu B' w v n V D := by
  refine ⟨⟨h.out.1, ?_⟩, fun i hi => (h.row i hi).mono hB, h.ap0, h.ap⟩
  rcases h.out.2 with h2 | ⟨g, cap, cur, h1, h2, h3⟩
  · exact .inl h2
  · exact .inr ⟨g, cap, cur, h1, Nat.le_trans hB h2, h3⟩
/-- Its own block's cell i is slice i. -/
theorem Rowu.cellAt {g cap : Nat} (h : Rowu B w (.slice (some ⟨g, 0, none⟩) n cap) n V D) (i : Nat) (hi : i < n) : w.cell? ⟨g, i, none⟩ = some (V i) := by
  have e := World.ownsRow.cellAt h.out i (by omega)
  rw [e, List.getElem?_map, List.getElem?_range hi]
  rfl
theorem Rowu.shape (h : Rowu B w v n V D) : (v = .slice none 0 0 ∧ n = 0) ∨ ∃ g cap, v = .slice (some ⟨g, 0, none⟩) n cap ∧ B ≤ g ∧ n ≤ cap := by
  rcases h.out.2 with ⟨hv, hn⟩ | ⟨g, cap, cur, rfl, hB, _, hc, _⟩
  · exact .inl ⟨hv, hn⟩
  · exact .inr ⟨g, cap, rfl, hB, hc⟩
/-- Byte j of slice i written. -/
theorem Rowu.byte {g cap i : Nat} (h : Rowu B w v n V D) (hi : i < n) (hV : V i = .slice (some ⟨g, 0, none⟩) (D i).length cap) (j : Nat) (x : Int) :
    Rowu B (w.setCell ⟨g, j, none⟩ (.int .u8 x)) v n V (fun k => if k = i then (D i).set j x else D k) := by
  have hg : w.grownBy (w.setCell ⟨g, j, none⟩ (.int .u8 x)) (some g) := by
    have hs : ∀ k, k ≠ g → (w.setCell ⟨g, j, none⟩ (.int .u8 x)).heap[k]? = w.heap[k]? := fun k hk => Below.heap_setCell w _ _ k hk
    have h0 := (Below.refl 0 w).setCell (p := ⟨g, j, none⟩) (Nat.zero_le _) (.int .u8 x)
    exact ⟨h0.os, h0.tape, h0.output, h0.size, fun k hk hne => hs k (fun e => hne (by rw [e]))⟩
  have hgo : (V i).ownBlock = some g := by rw [hV]; rfl
  refine ⟨row_aside h.out hg fun q hq e => h.ap0 i hi q (by rw [hgo]; exact e.symm) hq, fun k hk => ?_, h.ap0, h.ap⟩
  by_cases hki : k = i
  · subst hki
    have := h.row k hk
    rw [hV] at this ⊢
    rw [if_pos rfl, List.length_set]
    exact this.stored j x
  · rw [if_neg hki]
    exact row_aside (h.row k hk) hg fun q hq e => h.ap k i hk hi hki q hq (by rw [hgo]; exact e.symm)
/-- Slice i taken for another one. -/
theorem Rowu.put {g cap i : Nat} {u : Value} {xs : List Int} (h : Rowu B w (.slice (some ⟨g, 0, none⟩) n cap) n V D) (hi : i < n) (hu : Own B w u xs.length xs) (hu0 : u.ownBlock ≠ some g) (huv : ∀ k, k < n → k ≠ i → ∀ q, (V k).ownBlock = some q → u.ownBlock ≠ some q) :
    Rowu B (w.setCell ⟨g, i, none⟩ u) (.slice (some ⟨g, 0, none⟩) n cap) n (fun k => if k = i then u else V k) (fun k => if k = i then xs else D k) := by
  obtain ⟨ho, hg⟩ := World.ownsRow.stored h.out i u
  rw [map_put V u hi] at ho
  refine ⟨ho, fun k hk => ?_, fun k hk q hq => ?_, fun j k hj hk hjk q hq => ?_⟩
  · by_cases hki : k = i
    · subst hki
      simp only [if_true]
      exact row_aside hu hg fun q hq e => hu0 (by rw [hq]; exact e)
    · simp only [if_neg hki]
      exact row_aside (h.row k hk) hg fun q hq e => h.ap0 k hk q hq e.symm
  · by_cases hki : k = i
    · subst hki
      simp only [if_true] at hq
      exact fun e => hu0 (hq.trans e.symm)
    · simp only [if_neg hki] at hq
      exact h.ap0 k hk q hq
  · by_cases hji : j = i
    · subst hji
      simp only [if_true] at hq
      simp only [if_neg (show ¬ k = j from fun e => hjk e.symm)]
      exact fun e => huv k hk (fun e => hjk e.symm) q e hq
    · simp only [if_neg hji] at hq
      by_cases hki : k = i
      · subst hki
        simp only [if_true]
        exact huv j hj hji q hq
      · simp only [if_neg hki]
        exact h.ap j k hj hk hjk q hq
/-- One slice more. -/
theorem Rowu.snoc {v' u : Value} {xs : List Int} {H : Nat} (h : Rowu B w v n V D) (hg : w.grownBy w' v.ownBlock) (ho : w'.ownsRow B 31 1 v' (n + 1) ((List.range n).map V ++ [u])) (hu : Own B w u xs.length xs)
    (hu0 : ∀ q, u.ownBlock = some q → v.ownBlock ≠ some q) (huv : ∀ i, i < n → ∀ q, (V i).ownBlock = some q → u.ownBlock ≠ some q) (hv : v'.ownBlock = v.ownBlock ∨ v'.ownBlock = some H) (hH : w.heap.size ≤ H) :
    Rowu B w' v' (n + 1) (fun k => if k = n then u else V k) (fun k => if k = n then xs else D k) := by
  have e : (List.range (n + 1)).map (fun k => if k = n then u else V k) = (List.range n).map V ++ [u] := by
    rw [List.range_succ, List.map_append]
    congr 1
    · exact List.map_congr_left fun k hk => if_neg (by have := List.mem_range.1 hk; omega)
    · simp
  have hv' : ∀ q, q < w.heap.size → v.ownBlock ≠ some q → v'.ownBlock ≠ some q := fun q hq hn e => by
    rcases hv with h1 | h1
    · exact hn (h1.symm.trans e)
    · have := Option.some.inj (h1.symm.trans e)
      omega
  refine ⟨by rw [e]; exact ho, fun k hk => ?_, fun k hk q hq => ?_, fun j k hj hk hjk q hq => ?_⟩
  · by_cases hkn : k = n
    · simp only [if_pos hkn]
      exact row_aside hu hg fun q hq e => hu0 q hq e.symm
    · simp only [if_neg hkn]
      exact row_aside (h.row k (by omega)) hg fun q hq e => h.ap0 k (by omega) q hq e.symm
  · by_cases hkn : k = n
    · simp only [if_pos hkn] at hq
      exact hv' q (World.ownsRow.lt hu q hq).2 (hu0 q hq)
    · simp only [if_neg hkn] at hq
      exact hv' q (World.ownsRow.lt (h.row k (by omega)) q hq).2 (h.ap0 k (by omega) q hq)
  · by_cases hjn : j = n
    · simp only [if_pos hjn] at hq
      simp only [if_neg (show ¬ k = n from by omega)]
      exact fun e => huv k (by omega) q e hq
    · simp only [if_neg hjn] at hq
      by_cases hkn : k = n
      · simp only [if_pos hkn]
        exact huv j (by omega) q hq
      · simp only [if_neg hkn]
        exact h.ap j k (by omega) (by omega) hjk q hq
end

/-- Draws: the slice value .slice p L.length c reads as the rows L; what it lies in is of F. -/
def Drs (w : World) (F : Nat → Prop) (p : Option Addr) (c : Nat) (L : List (List Int)) : Prop :=
  L.length ≤ c ∧ ∀ i x, L[i]? = some x → ∃ b o pi ci, p = some ⟨b, o, none⟩ ∧ F b ∧ w.cell? ⟨b, o + i, none⟩ = some (.slice pi x.length ci) ∧ x.length ≤ ci ∧ Bin w pi x ∧ Oct x ∧ ∀ a, pi = some a → F a.block
section
variable {w w' : World} {F F' : Nat → Prop} {p : Option Addr} {c : Nat} {L : List (List Int)}
theorem Drs.nil (w : World) (F : Nat → Prop) (p : Option Addr) (c : Nat) : Drs w F p c [] := ⟨Nat.zero_le _, fun i x h => by simp at h⟩
theorem Drs.frame (h : Drs w F p c L) (hc : ∀ q : Addr, F q.block → q.block < w.heap.size → w'.cell? q = w.cell? q) : Drs w' F p c L :=
  ⟨h.1, fun i x hx => by
    obtain ⟨b, o, pi, ci, h1, h2, h3, h4, h5, h6, h7⟩ := h.2 i x hx
    refine ⟨b, o, pi, ci, h1, h2, (hc ⟨b, o + i, none⟩ h2 (World.block_lt_of_cell? _ _ h3)).trans h3, h4, fun hn => ?_, h6, h7⟩
    obtain ⟨b', o', e, hlt, hcc⟩ := h5.at hn
    exact ⟨b', o', e, fun j hj => (hc ⟨b', o' + j, none⟩ (h7 ⟨b', o', none⟩ e) hlt).trans (hcc j hj)⟩⟩
theorem Drs.below (h : Drs w F p c L) (hb : Below w.heap.size w w') : Drs w' F p c L := h.frame fun q _ hq => hb.cell hq
theorem Drs.mono (h : Drs w F p c L) (hF : ∀ q, F q → F' q) : Drs w F' p c L :=
  ⟨h.1, fun i x hx => by
    obtain ⟨b, o, pi, ci, h1, h2, h3, h4, h5, h6, h7⟩ := h.2 i x hx
    exact ⟨b, o, pi, ci, h1, hF _ h2, h3, h4, h5, h6, fun a ha => hF _ (h7 a ha)⟩⟩
/-- The first one gone. -/
theorem Drs.drop {x : List Int} (h : Drs w F p c (x :: L)) : ∃ p', (∀ w0, (Instr.sliceAt 23 (.slice p ((L.length + 1 : Nat)) c) (some (.int .i64 1)) none none).run Try.prog w0 = .ok (.slice p' L.length (c - 1)) w0) ∧ Drs w F p' (c - 1) L := by
  obtain ⟨b, o, pi, ci, rfl, h2, h3, h4, h5, h6, h7⟩ := h.2 0 x rfl
  have hc : L.length + 1 ≤ c := h.1
  by_cases h1 : c = 1
  · subst h1
    obtain rfl : L = [] := List.length_eq_zero_iff.1 (by omega)
    exact ⟨some ⟨b, o, none⟩, fun w0 => by go_simp, Drs.nil _ _ _ _⟩
  · refine ⟨some ⟨b, o + 1, none⟩, fun w0 => ?_, by omega, fun i y hy => ?_⟩
    · have i1 : (1 : Int) ≤ ((L.length + 1 : Nat) : Int) := by omega
      have i2 : (1 : Int) ≤ (c : Int) := by omega
      generalize L.length = n at *
      have i3 : ¬ (n : Int) + 1 < 1 := by omega
      go_simp
    · obtain ⟨b', o', pi', ci', e, g2, g3, g4⟩ := h.2 (i + 1) y (by simpa using hy)
      injection e with e1
      injection e1 with e2 e3 _
      subst e2
      subst e3
      exact ⟨b, o + 1, pi', ci', rfl, g2, by rw [show o + 1 + i = o + (i + 1) from by omega]; exact g3, g4⟩
/-- Out of one's own rows. -/
theorem Rowu.drs {B n : Nat} {v : Value} {V : Nat → Value} {D : Nat → List Int} (h : Rowu B w v n V D) (ho : ∀ i, i < n → Oct (D i)) : ∃ p c, v = .slice p n c ∧ Drs w (Rowu.has v n V) p c ((List.range n).map D) := by
  rcases h.shape with ⟨rfl, rfl⟩ | ⟨g, cap, rfl, hB, hc⟩
  · exact ⟨none, 0, rfl, Drs.nil _ _ _ _⟩
  · refine ⟨_, _, rfl, by rw [List.length_map, List.length_range]; exact hc, fun i x hx => ?_⟩
    rw [List.getElem?_map] at hx
    by_cases hi : i < n
    · rw [List.getElem?_range hi] at hx
      obtain rfl : D i = x := by simpa using hx
      obtain ⟨pi, ci, e, hci, hb⟩ := (h.row i hi).bin
      refine ⟨g, 0, pi, ci, rfl, .inl rfl, by rw [Nat.zero_add]; exact (h.cellAt i hi).trans (congrArg some e), hci, hb, ho i hi, fun a ha => .inr ⟨i, hi, by rw [e, ha]; rfl⟩⟩
    · rw [List.getElem?_eq_none (by simp; omega)] at hx
      cases hx
end
end Go.Proofs.Ytlbhoijjbpjmoaa
