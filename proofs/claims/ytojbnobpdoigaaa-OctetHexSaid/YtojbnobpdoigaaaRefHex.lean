/-
  The contract of the document's Hex.
-/
import Derived.Test.YtojbnobpdoigaaaHex
import Derived.Deep.QuietTactic
import Derived.BigQuiet
namespace Go.Proofs.Ytojbnobpdoigaaa
open Go.RowKit

/-- One digit as a text, cut out of the constant text. -/
theorem slice_digit (n : Int) (h0 : 0 ≤ n) (h1 : n < 16) (w : World) :
    (Instr.slice 9 (.string { data := #[48, 49, 50, 51, 52, 53, 54, 55, 56, 57, 97, 98, 99, 100, 101, 102] }) (some (.int .u8 n)) (some (.int .u8 (n + 1))) none).run Try.prog w = .ok (.string (strOfNums [hd n])) w := by
  rcases (show n = 0 ∨ n = 1 ∨ n = 2 ∨ n = 3 ∨ n = 4 ∨ n = 5 ∨ n = 6 ∨ n = 7 ∨ n = 8 ∨ n = 9 ∨ n = 10 ∨ n = 11 ∨ n = 12 ∨ n = 13 ∨ n = 14 ∨ n = 15 from by omega) with
    rfl | rfl | rfl | rfl | rfl | rfl | rfl | rfl | rfl | rfl | rfl | rfl | rfl | rfl | rfl | rfl
  all_goals kernel_rfl

theorem add_str (xs ys : List Int) (w : World) (h : xs.length + ys.length ≤ 9223372036854775807) :
    (Op.stringOp .add (strOfNums xs) (strOfNums ys)).run Try.prog w = .ok (.string (strOfNums (xs ++ ys))) w := by
  rw [run_string_add_sum w _ _ (by rw [strOfNums_size, strOfNums_size]; exact h)]
  congr 2
  apply ByteArray.ext
  simp [strOfNums]

set_option maxHeartbeats 400000 in
theorem refHex_any (p : Option Addr) (c : Nat) (xs : List Int) (w : World) (hp : Bin w p xs) (ho : Oct xs) (hm : xs.length ≤ 1099511627776) :
    Calls Try.prog 24 #[.slice p xs.length c] w fun e w' => e = .returned (.string (strOfNums (hexL xs))) ∧ ∃ n, w' = w.drewN n := by
  go_enter Try.func24, Try.ntmps24
  go_wp2
  go_loopw [3, 4] (fun v i wr => ∃ k : Nat, k ≤ xs.length ∧ i = .int .i64 (k : Int) ∧ v = .string (strOfNums (hexL (xs.take k))) ∧ ∃ n, wr = w.drewN n)
    (fun _ i _ => xs.length - (intOf i).toNat)
  case atStart => exact ⟨0, by omega, rfl, rfl, 0, rfl⟩
  case round =>
    obtain ⟨k, hk, rfl, rfl, n, rfl⟩ := hrel
    by_cases hlt : k < xs.length
    · obtain ⟨b, o, rfl, hlb, hc⟩ := hp.at (by omega)
      have hck := hc k hlt
      have hx := ho.lt k hlt
      clear hc
      have hl : (hexL (xs.take k)).length ≤ 2199023255552 := by rw [hexL_length]; simp; omega
      have hS1 := fun w => slice_digit (xs[k] / 16) (by omega) (by omega) w
      have hS2 := fun w => slice_digit (xs[k] % 16) (by omega) (by omega) w
      have hA1 := fun w => add_str (hexL (xs.take k)) [hd (xs[k] / 16)] w (by simp; omega)
      have hA2 := fun w => add_str (hexL (xs.take k) ++ [hd (xs[k] / 16)]) [hd (xs[k] % 16)] w (by simp; omega)
      clear hl
      go_wp2
      go_quiet (fail)
      go_wp2
      go_roundw
      case rel =>
        refine ⟨k + 1, by omega, by go_num, ?_, _, rfl⟩
        rw [take_snoc xs k hlt, hexL_snoc, List.getD_eq_getElem?_getD, List.getElem?_eq_getElem hlt]
        simp
      case measure => simp [intOf]; omega
    · obtain rfl : k = xs.length := by omega
      rw [List.take_length]
      go_wp2
      go_ret
      exact ⟨rfl, n, rfl⟩
end Go.Proofs.Ytojbnobpdoigaaa
