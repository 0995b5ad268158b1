/-
  Numbers and texts written one behind the other, and read. No program.
-/
import Derived.Test.YtphmdjhmgmjmgaaPrt
namespace Go.Proofs.Ytphmdjhmgmjmgaa
open Go.RowKit
set_option linter.unusedVariables false
set_option linter.unusedSimpArgs false

theorem rdNum_whole {xs r : List Int} {at0 n : Nat} (h : xs.drop at0 = numL n ++ r) (hn : n < 2 ^ 64) : rdNum xs at0 0 = (n, at0 + (numL n).length, 0) := by
  have := tkn_numL r n 0 0 (by omega) (fun h => absurd h (Nat.lt_irrefl 0))
  rw [rdNum, if_pos rfl, h, this]
  simp
theorem rdNum_cut {xs : List Int} {at0 n m : Nat} (h : xs.drop at0 = (numL n).take m) (hn : n < 2 ^ 64) (hm : m < (numL n).length) : rdNum xs at0 0 = (0, at0, 4) := by
  have := tkn_cut n 0 0 m (by omega) hm
  rw [rdNum, if_pos rfl, h, this]
  simp
theorem txtE_of {n k : Nat} {most : Int} {m : Nat} (h1 : ¬ (if most ≤ 0 then 0 < n else most < (n : Int))) : txtE (n, k, 0) most m = if m - k < n then 4 else 0 := by
  rw [txtE, if_neg (by simp), if_neg h1]
theorem rdText_whole {xs t r : List Int} {at0 : Nat} (h : xs.drop at0 = numL t.length ++ (t ++ r)) (hat : at0 ≤ xs.length) (ht : t.length ≤ 200) : rdText xs 200 at0 0 = (t, at0 + (numL t.length).length + t.length, 0) := by
  have e := tkn_numL (t ++ r) t.length 0 0 (by omega) (fun h => absurd h (Nat.lt_irrefl 0))
  simp only [Nat.pow_zero, Nat.mul_one, Nat.zero_add] at e
  have hl := congrArg List.length h
  rw [List.length_drop, List.length_append, List.length_append] at hl
  have e2 : txtE (t.length, (numL t.length).length, 0) 200 (xs.length - at0) = 0 := by
    rw [txtE_of (by rw [if_neg (by decide)]; omega), if_neg (by omega)]
  rw [rdText, if_neg (by simp), h, e, e2, if_neg (by simp)]
  refine Prod.ext ?_ rfl
  show ((xs.drop (at0 + (numL t.length).length)).take t.length) = t
  rw [← List.drop_drop, h, List.drop_left, List.take_left]
theorem rdText_cut {xs t : List Int} {at0 m : Nat} (h : xs.drop at0 = (numL t.length ++ t).take m) (hat : at0 ≤ xs.length) (ht : t.length ≤ 200) (hm : m < (numL t.length).length + t.length) : rdText xs 200 at0 0 = ([], at0, 4) := by
  have hl := congrArg List.length h
  rw [List.length_drop, List.length_take, List.length_append] at hl
  have e2 : txtE (tkn (xs.drop at0) 0 0) 200 (xs.length - at0) = 4 := by
    by_cases hc : m < (numL t.length).length
    · rw [h, List.take_append_of_le_length (by omega), tkn_cut t.length 0 0 m (by omega) hc, txtE, if_pos (by simp)]
    · have ht' : (numL t.length ++ t).take m = numL t.length ++ t.take (m - (numL t.length).length) := by
        rw [List.take_append, List.take_of_length_le (by omega)]
      have e := tkn_numL (t.take (m - (numL t.length).length)) t.length 0 0 (by omega) (fun h => absurd h (Nat.lt_irrefl 0))
      simp only [Nat.pow_zero, Nat.mul_one, Nat.zero_add] at e
      rw [h, ht', e, txtE_of (by rw [if_neg (by decide)]; omega), if_pos (by omega)]
  rw [rdText, if_neg (by simp), e2, if_pos (by simp)]
theorem rdNum_stuck (xs : List Int) (at0 : Nat) : rdNum xs at0 4 = (0, at0, 4) := by rw [rdNum, if_neg (by simp)]
theorem rdText_stuck (xs : List Int) (most : Int) (at0 : Nat) : rdText xs most at0 4 = ([], at0, 4) := by rw [rdText, if_pos (by simp)]

/-- An item's bytes. -/
def itm (is : Bool) (n : Nat) (t : List Int) : List Int := if is then numL t.length ++ t else numL n
theorem itm_oct {is : Bool} {n : Nat} {t : List Int} (h : Oct t) : Oct (itm is n t) := by
  unfold itm
  cases is
  · exact numL_oct n
  · rw [if_pos rfl]
    intro x hx
    rcases List.mem_append.1 hx with hx | hx
    · exact numL_oct _ x hx
    · exact h x hx
theorem itm_len {is : Bool} {n : Nat} {t : List Int} (hn : n < 2 ^ 64) (h : t.length ≤ 200) : (itm is n t).length ≤ 210 := by
  unfold itm
  cases is
  · have := numL_ten hn; simpa using by omega
  · rw [if_pos rfl, List.length_append]
    have := numL_ten (n := t.length) (by omega)
    omega
/-- The bytes of the first k items. -/
def cats (I : Nat → Bool) (N : Nat → Nat) (T : Nat → List Int) : Nat → List Int
  | 0 => []
  | k + 1 => cats I N T k ++ itm (I k) (N k) (T k)
theorem cats_split (I : Nat → Bool) (N : Nat → Nat) (T : Nat → List Int) (k : Nat) : ∀ j, k ≤ j → ∃ r, cats I N T j = cats I N T k ++ r
  | 0, h => ⟨[], by rw [show k = 0 from by omega, List.append_nil]⟩
  | j + 1, h => by
    rcases Nat.lt_or_ge k (j + 1) with h1 | h1
    · obtain ⟨r, hr⟩ := cats_split I N T k j (by omega)
      exact ⟨r ++ itm (I j) (N j) (T j), by rw [cats, hr, List.append_assoc]⟩
    · obtain rfl : k = j + 1 := by omega
      exact ⟨[], by rw [List.append_nil]⟩
theorem cats_le (I : Nat → Bool) (N : Nat → Nat) (T : Nat → List Int) {k j : Nat} (h : k ≤ j) : (cats I N T k).length ≤ (cats I N T j).length := by
  obtain ⟨r, hr⟩ := cats_split I N T k j h
  rw [hr, List.length_append]
  omega
/-- Behind the first k items stands the next one. -/
theorem cats_drop (I : Nat → Bool) (N : Nat → Nat) (T : Nat → List Int) {k j : Nat} (h : k < j) : ∃ r, (cats I N T j).drop (cats I N T k).length = itm (I k) (N k) (T k) ++ r := by
  obtain ⟨r, hr⟩ := cats_split I N T (k + 1) j h
  exact ⟨r, by rw [hr, cats, List.append_assoc, List.drop_left]⟩
theorem cats_oct {I : Nat → Bool} {N : Nat → Nat} {T : Nat → List Int} : ∀ k, (∀ i, i < k → Oct (T i)) → Oct (cats I N T k)
  | 0, _ => Oct.nil
  | k + 1, h => by
    intro x hx
    rcases List.mem_append.1 hx with hx | hx
    · exact cats_oct k (fun i hi => h i (by omega)) x hx
    · exact itm_oct (h k (by omega)) x hx
theorem cats_len {I : Nat → Bool} {N : Nat → Nat} {T : Nat → List Int} : ∀ k, (∀ i, i < k → N i < 2 ^ 64 ∧ (T i).length ≤ 200) → (cats I N T k).length ≤ 210 * k
  | 0, _ => Nat.le_refl _
  | k + 1, h => by
    rw [cats, List.length_append]
    have := cats_len (I := I) k (fun i hi => h i (by omega))
    have := itm_len (is := I k) (h k (by omega)).1 (h k (by omega)).2
    omega
/-- What is cut behind n bytes: the next item whole, or its beginning. -/
theorem cut_whole {xs b r : List Int} {E n : Nat} (h : xs.drop E = b ++ r) (hw : E + b.length ≤ n) : (xs.take n).drop E = b ++ r.take (n - E - b.length) := by
  rw [List.drop_take, h, List.take_append, List.take_of_length_le (by omega)]
theorem cut_part {xs b r : List Int} {E n : Nat} (h : xs.drop E = b ++ r) (hw : ¬ E + b.length ≤ n) : (xs.take n).drop E = b.take (n - E) := by
  rw [List.drop_take, h, List.take_append_of_le_length (by omega)]
theorem tkn_fault : ∀ (xs : List Int) (i a : Nat), (tkn xs i a).2.2 ≠ 0 → (tkn xs i a).1 = 0 ∧ (tkn xs i a).2.1 = 0
  | [], _, _, _ => ⟨rfl, rfl⟩
  | x :: r, i, a, h => by
    rw [tkn] at h ⊢
    by_cases h1 : i = 9 ∧ 1 < x
    · rw [if_pos h1]; exact ⟨rfl, rfl⟩
    · rw [if_neg h1] at h ⊢
      by_cases h2 : 128 ≤ x
      · rw [if_pos h2] at h ⊢; exact tkn_fault r _ _ h
      · rw [if_neg h2] at h ⊢
        by_cases h3 : x = 0 ∧ 0 < i
        · rw [if_pos h3]; exact ⟨rfl, rfl⟩
        · rw [if_neg h3] at h; exact absurd rfl h
/-- A number is read, and its bytes are those that stand there; or nothing is. -/
theorem rdNum_cases {xs : List Int} (ho : Oct xs) (A : Nat) : (∃ e, rdNum xs A 0 = (0, A, e) ∧ e ≠ 0) ∨ ∃ n, rdNum xs A 0 = (n, A + (numL n).length, 0) ∧ n < 2 ^ 64 ∧ xs.take A ++ numL n = xs.take (A + (numL n).length) ∧ A + (numL n).length ≤ xs.length := by
  obtain ⟨T, hT⟩ : ∃ T, T = tkn (xs.drop A) 0 0 := ⟨_, rfl⟩
  have hf := tkn_fault (xs.drop A) 0 0
  rw [rdNum, if_pos rfl, ← hT]
  rw [← hT] at hf
  obtain ⟨N, k, e⟩ := T
  by_cases he : e = 0
  · subst he
    obtain ⟨n, h1, h2, h3, h4, _, h6⟩ := numL_tkn (xs.drop A) 0 0 N k (fun x hx => ho x (List.mem_of_mem_drop hx)) (by decide) hT.symm
    simp only [Nat.pow_zero, Nat.mul_one, Nat.zero_add, Nat.sub_zero] at h1 h2 h3 h4 h6
    subst h1
    subst h2
    right
    refine ⟨N, rfl, h4, ?_, ?_⟩
    · rw [List.take_add, ← h3]
    · have := numL_pos N
      rw [List.length_drop] at h6
      omega
  · obtain ⟨h1, h2⟩ := hf he
    simp only at h1 h2
    subst h1
    subst h2
    exact .inl ⟨e, rfl, he⟩
end Go.Proofs.Ytphmdjhmgmjmgaa
