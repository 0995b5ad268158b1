/-
  The contracts of Same, in all its forms, and of Nought.
-/
import Derived.Test.YtojbnobpdoigaaaOwn
namespace Go.Proofs.Ytojbnobpdoigaaa
open Go.RowKit

/-- Are they the same numbers? -/
def sameB (xs ys : List Int) : Bool := decide (xs = ys)

theorem sameB_iff {xs ys : List Int} : sameB xs ys = true ↔ xs = ys := by simp [sameB]

theorem bytes_inj : ∀ {xs ys : List Int}, Oct xs → Oct ys → xs.map (fun n => UInt8.ofNat n.toNat) = ys.map (fun n => UInt8.ofNat n.toNat) → xs = ys := by
  intro xs ys hx hy h1
  induction xs generalizing ys with
  | nil =>
    cases ys with
    | nil => rfl
    | cons y ys => simp at h1
  | cons x xs ih =>
    cases ys with
    | nil => simp at h1
    | cons y ys =>
      simp only [List.map_cons, List.cons.injEq] at h1
      have hx0 := hx x (by simp)
      have hy0 := hy y (by simp)
      have e : x = y := by
        have := congrArg UInt8.toNat h1.1
        rw [UInt8.toNat_ofNat', UInt8.toNat_ofNat'] at this
        omega
      rw [e, ih (fun z hz => hx z (by simp [hz])) (fun z hz => hy z (by simp [hz])) h1.2]

theorem strOfNums_list (xs : List Int) : (strOfNums xs).toList = xs.map (fun n => UInt8.ofNat n.toNat) := by
  rw [ByteArray.toList_eq, strOfNums_data]

theorem str_eq {xs ys : List Int} (hx : Oct xs) (hy : Oct ys) : ((strOfNums xs).toList == (strOfNums ys).toList) = sameB xs ys := by
  unfold sameB
  rw [strOfNums_list, strOfNums_list]
  by_cases h : xs = ys
  · simp [h]
  · have : ¬ xs.map (fun n => UInt8.ofNat n.toNat) = ys.map (fun n => UInt8.ofNat n.toNat) := fun e => h (bytes_inj hx hy e)
    simp only [h, decide_false]
    exact beq_false_of_ne this

/-- A slice of bytes as a string. -/
theorem conv_str {w : World} {p : Option Addr} {xs : List Int} (h : Bin w p xs) (cap : Nat) :
    (convert 23 9 (.slice p xs.length cap)).run Try.prog w = .ok (.string (strOfNums xs)) w := by
  rcases Nat.eq_zero_or_pos xs.length with hn | hn
  · obtain rfl : xs = [] := List.eq_nil_of_length_eq_zero hn
    rw [run_convert_bytes_string w 23 9 5 _ _ cap Try.underlying23 Try.underlying5 Try.underlying9]
    rcases p with _ | a
    · simp [Conv.bytesToString, strOfNums]
      rfl
    · rw [run_bytesToString w a _ cap [] (by have := run_loadCells_list (P := Try.prog) w a [] (by simp); simpa using this)]
      rfl
  · obtain ⟨b, o, rfl, hc⟩ := h hn
    exact run_convert_bytes_arg w 23 5 Try.underlying23 Try.underlying5 b o _ cap xs rfl hc 9 Try.underlying9

theorem refSame_any (p q : Option Addr) (c d : Nat) (xs ys : List Int) (w : World) (hp : Bin w p xs) (hq : Bin w q ys) (hx : Oct xs) (hy : Oct ys) :
    Calls Try.prog 13 #[.slice p xs.length c, .slice q ys.length d] w fun e w' => e = .returned (.bool (sameB xs ys)) ∧ w = w' := by
  have h1 := conv_str hp c
  have h2 := conv_str hq d
  have HE := hid (str_eq hx hy)
  clear hp hq hx hy
  go_enter Try.func13, Try.ntmps13
  go_wp2
  go_ret
  exact ⟨ret_bool HE.out, rfl⟩

theorem lawSame_any (p q : Option Addr) (c d : Nat) (xs ys : List Int) (w : World) (hp : Bin w p xs) (hq : Bin w q ys) (hx : Oct xs) (hy : Oct ys) :
    Calls Try.prog 27 #[.slice p xs.length c, .slice q ys.length d] w fun e w' => e = .returned (.bool (sameB xs ys)) ∧ w = w' := by
  have h1 := conv_str hp c
  have h2 := conv_str hq d
  have HE := hid (str_eq hx hy)
  clear hp hq hx hy
  go_enter Try.func27, Try.ntmps27
  go_wp2
  go_ret
  exact ⟨ret_bool HE.out, rfl⟩

theorem equal_any (p q : Option Addr) (c d : Nat) (xs ys : List Int) (w : World) (hp : Bin w p xs) (hq : Bin w q ys) (hx : Oct xs) (hy : Oct ys) :
    Calls Try.prog 30 #[.slice p xs.length c, .slice q ys.length d] w fun e w' => e = .returned (.bool (sameB xs ys)) ∧ w = w' := by
  have h1 := conv_str hp c
  have h2 := conv_str hq d
  have HE := hid (str_eq hx hy)
  clear hp hq hx hy
  go_enter Try.func30, Try.ntmps30
  go_wp2
  go_ret
  exact ⟨ret_bool HE.out, rfl⟩

theorem same_any (p q : Option Addr) (c d : Nat) (xs ys : List Int) (w : World) (hp : Bin w p xs) (hq : Bin w q ys) (hx : Oct xs) (hy : Oct ys) :
    Calls Try.prog 19 #[.slice p xs.length c, .slice q ys.length d] w fun e w' => e = .returned (.bool (sameB xs ys)) ∧ w = w' := by
  have HE := hid (equal_any p q c d xs ys w hp hq hx hy)
  clear hp hq hx hy
  go_enter Try.func19, Try.ntmps19
  go_wp2_with (go_at_call 30; refine HE.out.mono ?_; rintro e w' ⟨rfl, rfl⟩)
  go_ret
  exact ⟨rfl, rfl⟩

/-- The same bytes twice. -/
theorem refSame_yes (p q : Option Addr) (c d n : Nat) (xs : List Int) (w : World) (hn : xs.length = n) (hp : Bin w p xs) (hq : Bin w q xs) (hx : Oct xs) :
    Calls Try.prog 13 #[.slice p n c, .slice q n d] w fun e w' => e = .returned (.bool true) ∧ w = w' := by
  subst hn
  refine (refSame_any p q c d xs xs w hp hq hx hx).mono ?_
  rintro e w' ⟨he, hw⟩
  exact ⟨by rw [he, sameB_iff.2 rfl], hw⟩

/-- The same bytes twice. -/
theorem same_yes (p q : Option Addr) (c d n : Nat) (xs : List Int) (w : World) (hn : xs.length = n) (hp : Bin w p xs) (hq : Bin w q xs) (hx : Oct xs) :
    Calls Try.prog 19 #[.slice p n c, .slice q n d] w fun e w' => e = .returned (.bool true) ∧ w = w' := by
  subst hn
  refine (same_any p q c d xs xs w hp hq hx hx).mono ?_
  rintro e w' ⟨he, hw⟩
  exact ⟨by rw [he, sameB_iff.2 rfl], hw⟩

/-- Is each of them 0? -/
def noughtB (xs : List Int) : Bool := xs.all (· == 0)

theorem nought_yes {xs : List Int} (h : ∀ i, i < xs.length → xs.getD i 0 = 0) : noughtB xs = true := by
  simp only [noughtB, List.all_eq_true, beq_iff_eq]
  intro x hx
  obtain ⟨i, hi, rfl⟩ := List.getElem_of_mem hx
  have := h i hi
  rwa [List.getD_eq_getElem?_getD, List.getElem?_eq_getElem hi] at this

theorem nought_no {xs : List Int} (i : Nat) (hi : i < xs.length) (h : ¬ xs[i] = 0) : noughtB xs = false := by
  simp only [noughtB]
  rw [Bool.eq_false_iff]
  intro ha
  rw [List.all_eq_true] at ha
  exact h (by simpa using ha _ (List.getElem_mem hi))

set_option maxHeartbeats 400000 in
theorem nought_any (p : Option Addr) (c : Nat) (xs : List Int) (w : World) (hp : Bin w p xs) (hm : xs.length ≤ maxLen) :
    Calls Try.prog 20 #[.slice p xs.length c] w fun e w' => e = .returned (.bool (noughtB xs)) ∧ w = w' := by
  unfold maxLen at hm
  go_enter Try.func20, Try.ntmps20
  go_wp2
  go_loop [7] (fun i => ∃ k : Nat, k ≤ xs.length ∧ i = .int .i64 k ∧ Hid (∀ i, i < k → xs.getD i 0 = 0)) (fun i => xs.length - (intOf i).toNat)
  case atStart => exact ⟨0, Nat.zero_le _, rfl, hid (fun i hi => absurd hi (Nat.not_lt_zero _))⟩
  case round =>
    obtain ⟨k, hk, rfl, HN⟩ := hrel
    by_cases hlt : k < xs.length
    · obtain ⟨b, o, rfl, hlb, hc⟩ := hp.at (by omega)
      have hck := hc k hlt
      clear hc
      by_cases hz : xs[k] = 0
      · have hz' : (xs[k] != 0) = false := by simpa using hz
        have HZ := hid hz
        clear hz
        go_wp2
        go_round
        case rel =>
          refine ⟨k + 1, by omega, by go_num, hid fun i hi => ?_⟩
          rcases Nat.lt_succ_iff_lt_or_eq.1 hi with h | rfl
          · exact HN.out i h
          · rw [List.getD_eq_getElem?_getD, List.getElem?_eq_getElem hlt]
            exact HZ.out
        case measure => simp [intOf]; omega
      · have hz' : (xs[k] != 0) = true := by simpa using hz
        have HZ := hid (nought_no k hlt hz)
        clear hz
        go_wp2
        go_ret
        exact ⟨ret_bool HZ.out.symm, rfl⟩
    · have HZ := hid (nought_yes (xs := xs) (fun i hi => HN.out i (by omega)))
      go_wp2
      go_ret
      exact ⟨ret_bool HZ.out.symm, rfl⟩

set_option maxHeartbeats 400000 in
theorem refNought_any (p : Option Addr) (c : Nat) (xs : List Int) (w : World) (hp : Bin w p xs) (hm : xs.length ≤ maxLen) :
    Calls Try.prog 21 #[.slice p xs.length c] w fun e w' => e = .returned (.bool (noughtB xs)) ∧ w = w' := by
  unfold maxLen at hm
  go_enter Try.func21, Try.ntmps21
  go_wp2
  go_loop [3] (fun i => ∃ k : Nat, k ≤ xs.length ∧ i = .int .i64 k ∧ Hid (∀ i, i < k → xs.getD i 0 = 0)) (fun i => xs.length - (intOf i).toNat)
  case atStart => exact ⟨0, Nat.zero_le _, rfl, hid (fun i hi => absurd hi (Nat.not_lt_zero _))⟩
  case round =>
    obtain ⟨k, hk, rfl, HN⟩ := hrel
    by_cases hlt : k < xs.length
    · obtain ⟨b, o, rfl, hlb, hc⟩ := hp.at (by omega)
      have hck := hc k hlt
      clear hc
      by_cases hz : xs[k] = 0
      · have hz' : (xs[k] != 0) = false := by simpa using hz
        have HZ := hid hz
        clear hz
        go_wp2
        go_round
        case rel =>
          refine ⟨k + 1, by omega, by go_num, hid fun i hi => ?_⟩
          rcases Nat.lt_succ_iff_lt_or_eq.1 hi with h | rfl
          · exact HN.out i h
          · rw [List.getD_eq_getElem?_getD, List.getElem?_eq_getElem hlt]
            exact HZ.out
        case measure => simp [intOf]; omega
      · have hz' : (xs[k] != 0) = true := by simpa using hz
        have HZ := hid (nought_no k hlt hz)
        clear hz
        go_wp2
        go_ret
        exact ⟨ret_bool HZ.out.symm, rfl⟩
    · have HZ := hid (nought_yes (xs := xs) (fun i hi => HN.out i (by omega)))
      go_wp2
      go_ret
      exact ⟨ret_bool HZ.out.symm, rfl⟩
end Go.Proofs.Ytojbnobpdoigaaa
