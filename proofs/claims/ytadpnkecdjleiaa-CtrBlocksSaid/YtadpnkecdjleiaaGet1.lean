/-
  The contract of the program's Get.
-/
import Derived.Test.YtadpnkecdjleiaaBase
namespace Go.Proofs.Ytadpnkecdjleiaa
open Go.RowKit

set_option maxHeartbeats 400000 in
theorem get_any (p : Option Addr) (cap : Nat) (xs : List Int) (w : World) (hb : Bin w p xs) (ho : Oct xs) (h1 : 1 ≤ xs.length) (hl : xs.length ≤ 8) :
    Calls Try.prog 17 #[.slice p xs.length cap] w fun e w' => e = .returned (.tuple #[.int .u64 (num xs), .int .i64 0]) ∧ w = w' := by
  obtain ⟨b, o, rfl, hlb, hc⟩ := hb.at (by omega)
  go_enter Try.func17, Try.ntmps17
  go_wp2
  go_loop [4, 17] (fun n i => ∃ k : Nat, k ≤ xs.length ∧ i = .int .i64 k ∧ n = .int .u64 (num (xs.take k))) (fun _ i => xs.length - (intOf i).toNat)
  case atStart => exact ⟨0, Nat.zero_le _, rfl, rfl⟩
  case round =>
    obtain ⟨k, hk, rfl, rfl⟩ := hrel
    by_cases hlt : k < xs.length
    · have hck := hc k hlt
      have hx := ho.lt k hlt
      have hn := num_take7 xs ho k (by omega)
      have hs := hid (num_succ xs k hlt)
      clear hc
      go_wp2
      go_round
      case rel => exact ⟨k + 1, by omega, by go_num, by rw [hs.out, or_u64 _ _ hn.1 hn.2 hx.1 hx.2]; simp [hlt]⟩
      case measure => simp [intOf]; omega
    · go_wp2
      go_ret2
      exact ⟨ret_int2 (by rw [List.take_of_length_le (by omega)]), rfl⟩

theorem get_no (p : Option Addr) (cap n : Nat) (w : World) (h : n < 1 ∨ 8 < n) :
    Calls Try.prog 17 #[.slice p n cap] w fun e w' => e = .returned (.tuple #[.int .u64 0, .int .i64 2]) ∧ w = w' := by
  rcases h with h | h
  all_goals
    go_enter Try.func17, Try.ntmps17
    go_wp2
    go_ret2
    exact ⟨rfl, rfl⟩
end Go.Proofs.Ytadpnkecdjleiaa
