/-
  The contracts of what a digit counts, of both.
-/
import Derived.Test.YtojbnobpdoigaaaHex
import Derived.Lib.Bytealg
namespace Go.Proofs.Ytojbnobpdoigaaa
open Go.RowKit

/-- What a digit counts; below 0: it is none. -/
def dv (x : Int) : Int := if 48 ≤ x ∧ x ≤ 57 then x - 48 else if 97 ≤ x ∧ x ≤ 102 then x - 87 else -1

theorem dv_table : ∀ n : Nat, n < 256 → Lib.indexByte [48, 49, 50, 51, 52, 53, 54, 55, 56, 57, 97, 98, 99, 100, 101, 102] (n : Int).toNat.toUInt8 = dv (n : Int) := by decide +kernel

theorem dv_index (x : Int) (h : 0 ≤ x ∧ x ≤ 255) : Lib.indexByte [48, 49, 50, 51, 52, 53, 54, 55, 56, 57, 97, 98, 99, 100, 101, 102] x.toNat.toUInt8 = dv x := by
  have := dv_table x.toNat (by omega)
  rwa [show ((x.toNat : Nat) : Int) = x from by omega] at this

theorem liteIndex_any (s : ByteArray) (x : Int) (w : World) :
    Calls Try.prog 35 #[.string s, .int .u8 x] w fun e w' => e = .returned (.int .i64 (Lib.indexByte s.data.toList x.toNat.toUInt8)) ∧ w = w' := by
  go_enter Try.func35, Try.ntmps35
  go_wp2
  rw [run_callFunc_extern Try.func36 (by kernel_rfl) (by kernel_rfl) (by kernel_rfl) (e := Extern.BytealgIndexByte.indexByte) (by kernel_rfl), Lib.run_indexByteString]
  simp only [Result.andThen]
  rw [Oper.upon_value]
  go_wp2
  go_ret
  exact ⟨rfl, rfl⟩

theorem index_any (s : ByteArray) (x : Int) (w : World) :
    Calls Try.prog 34 #[.string s, .int .u8 x] w fun e w' => e = .returned (.int .i64 (Lib.indexByte s.data.toList x.toNat.toUInt8)) ∧ w = w' := by
  go_enter Try.func34, Try.ntmps34
  go_wp2_with (go_at_call 35; refine (liteIndex_any _ _ _).mono ?_; rintro e w' ⟨rfl, rfl⟩)
  go_ret
  exact ⟨rfl, rfl⟩

theorem value_any (x : Int) (w : World) (h : 0 ≤ x ∧ x ≤ 255) :
    Calls Try.prog 32 #[.int .u8 x] w fun e w' => e = .returned (.int .i64 (dv x)) ∧ w = w' := by
  have hI := fun w : World => index_any { data := #[48, 49, 50, 51, 52, 53, 54, 55, 56, 57, 97, 98, 99, 100, 101, 102] } x w
  simp only [dv_index x h] at hI
  have HI := hid hI
  clear hI
  go_enter Try.func32, Try.ntmps32
  go_wp2_with (go_at_call 34; refine (HI.out _).mono ?_; rintro e w' ⟨rfl, rfl⟩)
  go_ret
  exact ⟨rfl, rfl⟩

theorem dv_none (x : Int) (h : ∀ n, 0 ≤ n → n < 16 → ¬ hd n = x) : dv x = -1 := by
  unfold dv
  split
  · have := h (x - 48) (by omega) (by omega)
    unfold hd at this
    split at this <;> omega
  · split
    · have := h (x - 87) (by omega) (by omega)
      unfold hd at this
      split at this <;> omega
    · rfl

theorem dv_hd (n : Int) (h0 : 0 ≤ n) (h1 : n < 16) : dv (hd n) = n := by
  unfold hd dv
  split <;> split <;> first | omega | (split <;> omega)

set_option maxHeartbeats 400000 in
theorem digit_any (x : Int) (w : World) :
    Calls Try.prog 33 #[.int .u8 x] w fun e w' => e = .returned (.int .i64 (dv x)) ∧ w = w' := by
  go_enter Try.func33, Try.ntmps33
  go_wp2
  go_loop [3] (fun i => ∃ k : Nat, k ≤ 16 ∧ i = .int .i64 (k : Int) ∧ Hid (∀ n : Int, 0 ≤ n → n < k → ¬ hd n = x)) (fun i => 16 - (intOf i).toNat)
  case atStart => exact ⟨0, by omega, rfl, hid (fun n h0 h1 => by omega)⟩
  case round =>
    obtain ⟨k, hk, rfl, HN⟩ := hrel
    by_cases hlt : k < 16
    · have hA : ∀ w : World, (Instr.index 9 (.string { data := #[48, 49, 50, 51, 52, 53, 54, 55, 56, 57, 97, 98, 99, 100, 101, 102] }) (.int .i64 (k : Int))).run Try.prog w = .ok (.int .u8 (hd k)) w := by
        intro w
        rcases (show k = 0 ∨ k = 1 ∨ k = 2 ∨ k = 3 ∨ k = 4 ∨ k = 5 ∨ k = 6 ∨ k = 7 ∨ k = 8 ∨ k = 9 ∨ k = 10 ∨ k = 11 ∨ k = 12 ∨ k = 13 ∨ k = 14 ∨ k = 15 from by omega) with
          rfl | rfl | rfl | rfl | rfl | rfl | rfl | rfl | rfl | rfl | rfl | rfl | rfl | rfl | rfl | rfl
        all_goals kernel_rfl
      by_cases he : hd k = x
      · have he' : (hd k == x) = true := by simpa using he
        have HE := hid he
        clear he
        go_wp2
        go_ret
        exact ⟨ret_int (by rw [← HE.out, dv_hd _ (by omega) (by omega)]), rfl⟩
      · have he' : (hd k == x) = false := by simpa using he
        have HE := hid he
        clear he
        go_wp2
        go_round
        case rel =>
          refine ⟨k + 1, by omega, by go_num, hid fun n h0 h1 => ?_⟩
          by_cases hn : n < k
          · exact HN.out n h0 hn
          · rw [show n = k from by omega]
            exact HE.out
        case measure => simp [intOf]; omega
    · obtain rfl : k = 16 := by omega
      have HD := hid (dv_none x (fun n h0 h1 => HN.out n h0 (by omega)))
      go_wp2
      go_ret
      exact ⟨ret_int HD.out.symm, rfl⟩
end Go.Proofs.Ytojbnobpdoigaaa
