/-
  The contracts of the program's Put, and of the document's Of.
-/
import Derived.Test.YtadpnkecdjleiaaOwn
namespace Go.Proofs.Ytadpnkecdjleiaa
open Go.RowKit

/-- What both answer: the bytes, or that the number does not fit. -/
def PutAns (n : Int) (size : Nat) (w : World) (ok no : Value) (e : Ending) (w' : World) : Prop :=
  (n / 256 ^ size ≠ 0 → e = .returned (.tuple #[.slice none 0 0, no])) ∧ 
  (n / 256 ^ size = 0 → ∃ v, e = .returned (.tuple #[v, ok]) ∧ Own w.heap.size w' v size (be size n)) ∧ Below w.heap.size w w'

set_option maxHeartbeats 400000 in
theorem put_any (n : Int) (size : Nat) (w : World) (h1 : 1 ≤ size) (h8 : size ≤ 8) (hn : 0 ≤ n ∧ n ≤ 18446744073709551615) :
    Calls Try.prog 18 #[.int .u64 n, .int .i64 size] w fun e w' => PutAns n size w (.int .i64 0) (.int .i64 6) e w' := by
  obtain ⟨i0, hi, hz0, hz1, hz2⟩ := info_parts Try.infoU8
  go_enter Try.func18, Try.ntmps18
  go_wp2_with (at_make; refine wpList_make_full _ rfl (.tmp 14) (.tmp 14) 22 rfl w.heap.size 5 i0 (.int .u8 0) 1 Try.underlying22 hi hz0 hz1 .i64 .i64 _ _ size rfl rfl rfl rfl (by rw [hz2]; omega) (by unfold maxLen; omega) (Nat.le_refl _) ?_; intro w1 hown hgrow)
  have hown0 : Own w.heap.size w1 (.slice (some ⟨w.heap.size, 0, none⟩) size size) size (part size 0 n) := by
    rw [made_u8] at hown
    rw [part_zero]
    exact hown
  have hb0 : Below w.heap.size w w1 := (Below.refl _ _).grown hgrow (Nat.le_refl _) (by simp)
  clear hown hgrow
  go_loopw [0, 7] (fun m i wr => ∃ r j : Nat, r + j = size ∧ i = .int .i64 ((r : Int) - 1) ∧ m = .int .u64 (n / 256 ^ j) ∧ Own w.heap.size wr (.slice (some ⟨w.heap.size, 0, none⟩) size size) size (part size j n) ∧ Below w.heap.size w wr)
    (fun _ i _ => (intOf i + 1).toNat)
  case atStart => exact ⟨size, 0, by omega, rfl, by simp, hown0, hb0⟩
  case round =>
    obtain ⟨r, j, hr, rfl, rfl, hown, hbel⟩ := hrel
    have hj0 : 0 ≤ n / 256 ^ j := Int.ediv_nonneg hn.1 (Int.le_of_lt (Int.pow_pos (by decide)))
    have hj1 : n / 256 ^ j ≤ 18446744073709551615 := Int.le_trans (Int.ediv_le_self _ hn.1) hn.2
    rcases r with _ | m
    · have ej : n / 256 ^ j = n / 256 ^ size := by rw [show j = size from by omega]
      have HJ := hid ej
      clear ej
      go_wp2
      · have hne : (n / 256 ^ j != 0) = true := by assumption
        go_ret2
        rw [HJ.out] at hne
        exact ⟨fun _ => rfl, fun h => absurd h (by simpa using hne), hbel⟩
      · have hne : (n / 256 ^ j != 0) = false := by assumption
        go_ret2
        rw [HJ.out] at hne
        rw [show j = size from by omega, part_full] at hown
        exact ⟨fun h => absurd (by simpa using hne) h, fun _ => ⟨_, rfl, hown⟩, hbel⟩
    · rw [show ((m + 1 : Nat) : Int) - 1 = (m : Int) from by omega]
      have hcell := hown.cellAt m (by omega)
      have hfz := hown.frozenAt m
      have HO := hid (hown.stored m (n / 256 ^ j % 256))
      clear hown
      go_wp2
      go_roundw
      case rel =>
        refine ⟨m, j + 1, by omega, rfl, by rw [div_succ], ?_, hbel.setCell (Nat.le_refl _) _⟩
        have := HO.out
        rw [show m = size - 1 - j from by omega, part_set size j n (by omega)] at this
        rw [show m = size - 1 - j from by omega]
        exact this
      case measure => simp [intOf]

theorem put_no (n size : Int) (w : World) (h : size < 1 ∨ 8 < size) :
    Calls Try.prog 18 #[.int .u64 n, .int .i64 size] w fun e w' => e = .returned (.tuple #[.slice none 0 0, .int .i64 2]) ∧ w = w' := by
  rcases h with h | h
  all_goals
    go_enter Try.func18, Try.ntmps18
    go_wp2
    go_ret2
    exact ⟨rfl, rfl⟩

set_option maxHeartbeats 400000 in
theorem of_any (n : Int) (size : Nat) (w : World) (h1 : 1 ≤ size) (h8 : size ≤ 8) (hn : 0 ≤ n ∧ n ≤ 18446744073709551615) :
    Calls Try.prog 20 #[.int .u64 n, .int .i64 size] w fun e w' => 
      ∃ v, e = .returned (.tuple #[v, .bool (n / 256 ^ size == 0)]) ∧ Own w.heap.size w' v size (be size n) ∧ Below w.heap.size w w' := by
  obtain ⟨i0, hi, hz0, hz1, hz2⟩ := info_parts Try.infoU8
  go_enter Try.func20, Try.ntmps20
  go_wp2_with (at_make; refine wpList_make_full _ rfl (.tmp 8) (.tmp 8) 22 rfl w.heap.size 5 i0 (.int .u8 0) 1 Try.underlying22 hi hz0 hz1 .i64 .i64 _ _ size rfl rfl rfl rfl (by rw [hz2]; omega) (by unfold maxLen; omega) (Nat.le_refl _) ?_; intro w1 hown hgrow)
  have hown0 : Own w.heap.size w1 (.slice (some ⟨w.heap.size, 0, none⟩) size size) size (part size 0 n) := by
    rw [made_u8] at hown
    rw [part_zero]
    exact hown
  have hb0 : Below w.heap.size w w1 := (Below.refl _ _).grown hgrow (Nat.le_refl _) (by simp)
  clear hown hgrow
  go_loopw [0, 7] (fun m i wr => ∃ j : Nat, j ≤ size ∧ i = .int .i64 (j : Int) ∧ m = .int .u64 (n / 256 ^ j) ∧ Own w.heap.size wr (.slice (some ⟨w.heap.size, 0, none⟩) size size) size (part size j n) ∧ Below w.heap.size w wr)
    (fun _ i _ => size - (intOf i).toNat)
  case atStart => exact ⟨0, by omega, rfl, by simp, hown0, hb0⟩
  case round =>
    obtain ⟨j, hr, rfl, rfl, hown, hbel⟩ := hrel
    have hj0 : 0 ≤ n / 256 ^ j := Int.ediv_nonneg hn.1 (Int.le_of_lt (Int.pow_pos (by decide)))
    have hj1 : n / 256 ^ j ≤ 18446744073709551615 := Int.le_trans (Int.ediv_le_self _ hn.1) hn.2
    by_cases hlt : j < size
    · have hcell := hown.cellAt (size - 1 - j) (by omega)
      have hfz := hown.frozenAt (size - 1 - j)
      have HO := hid (hown.stored (size - 1 - j) (n / 256 ^ j % 256))
      clear hown
      go_wp2
      go_roundw
      case rel =>
        refine ⟨j + 1, by omega, by go_num, by rw [div_succ], ?_, hbel.setCell (Nat.le_refl _) _⟩
        have := HO.out
        rw [part_set size j n (by omega)] at this
        exact this
      case measure => simp [intOf]; omega
    · obtain rfl : j = size := by omega
      rw [part_full] at hown
      have HO := hid hown
      clear hown
      go_wp2
      go_ret2
      exact ⟨_, rfl, HO.out, hbel⟩

end Go.Proofs.Ytadpnkecdjleiaa
