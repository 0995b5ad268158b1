/-
  The contract of the document's Same.
-/
import Derived.Test.YtadpnkecdjleiaaOwn
namespace Go.Proofs.Ytadpnkecdjleiaa
open Go.RowKit

/-- Are they the same numbers? -/
def sameB (xs ys : List Int) : Bool := decide (xs = ys)

theorem sameB_iff {xs ys : List Int} : sameB xs ys = true ↔ xs = ys := by simp [sameB]

theorem bytes_inj : ∀ {xs ys : List Int}, Oct xs → Oct ys → xs.map (fun n => UInt8.ofNat n.toNat) = ys.map (fun n => UInt8.ofNat n.toNat) → xs = ys := by
  intro xs ys hx hy h1
  induction xs generalizing ys with
  | nil =>
    cases ys with
    | nil => rfl
    | cons y ys => simp at h1
  | cons x xs ih =>
    cases ys with
    | nil => simp at h1
    | cons y ys =>
      simp only [List.map_cons, List.cons.injEq] at h1
      have hx0 := hx x (by simp)
      have hy0 := hy y (by simp)
      have e : x = y := by
        have := congrArg UInt8.toNat h1.1
        rw [UInt8.toNat_ofNat', UInt8.toNat_ofNat'] at this
        omega
      rw [e, ih (fun z hz => hx z (by simp [hz])) (fun z hz => hy z (by simp [hz])) h1.2]

theorem strOfNums_list (xs : List Int) : (strOfNums xs).toList = xs.map (fun n => UInt8.ofNat n.toNat) := by
  rw [ByteArray.toList_eq, strOfNums_data]

theorem str_eq {xs ys : List Int} (hx : Oct xs) (hy : Oct ys) : ((strOfNums xs).toList == (strOfNums ys).toList) = sameB xs ys := by
  unfold sameB
  rw [strOfNums_list, strOfNums_list]
  by_cases h : xs = ys
  · simp [h]
  · have : ¬ xs.map (fun n => UInt8.ofNat n.toNat) = ys.map (fun n => UInt8.ofNat n.toNat) := fun e => h (bytes_inj hx hy e)
    simp only [h, decide_false]
    exact beq_false_of_ne this

/-- A slice of bytes as a string. -/
theorem conv_str {w : World} {p : Option Addr} {xs : List Int} (h : Bin w p xs) (cap : Nat) :
    (convert 22 9 (.slice p xs.length cap)).run Try.prog w = .ok (.string (strOfNums xs)) w := by
  rcases Nat.eq_zero_or_pos xs.length with hn | hn
  · obtain rfl : xs = [] := List.eq_nil_of_length_eq_zero hn
    rw [run_convert_bytes_string w 22 9 5 _ _ cap Try.underlying22 Try.underlying5 Try.underlying9]
    rcases p with _ | a
    · simp [Conv.bytesToString, strOfNums]
      rfl
    · rw [run_bytesToString w a _ cap [] (by have := run_loadCells_list (P := Try.prog) w a [] (by simp); simpa using this)]
      rfl
  · obtain ⟨b, o, rfl, hc⟩ := h hn
    exact run_convert_bytes_arg w 22 5 Try.underlying22 Try.underlying5 b o _ cap xs rfl hc 9 Try.underlying9

theorem refSame_any (p q : Option Addr) (c d : Nat) (xs ys : List Int) (w : World) (hp : Bin w p xs) (hq : Bin w q ys) (hx : Oct xs) (hy : Oct ys) :
    Calls Try.prog 14 #[.slice p xs.length c, .slice q ys.length d] w fun e w' => e = .returned (.bool (sameB xs ys)) ∧ w = w' := by
  have h1 := conv_str hp c
  have h2 := conv_str hq d
  have HE := hid (str_eq hx hy)
  clear hp hq hx hy
  go_enter Try.func14, Try.ntmps14
  go_wp2
  go_ret
  exact ⟨ret_bool HE.out, rfl⟩

/-- The same bytes twice. -/
theorem refSame_yes (p q : Option Addr) (c d n : Nat) (xs : List Int) (w : World) (hn : xs.length = n) (hp : Bin w p xs) (hq : Bin w q xs) (hx : Oct xs) :
    Calls Try.prog 14 #[.slice p n c, .slice q n d] w fun e w' => e = .returned (.bool true) ∧ w = w' := by
  subst hn
  refine (refSame_any p q c d xs xs w hp hq hx hx).mono ?_
  rintro e w' ⟨he, hw⟩
  exact ⟨by rw [he, sameB_iff.2 rfl], hw⟩
end Go.Proofs.Ytadpnkecdjleiaa
