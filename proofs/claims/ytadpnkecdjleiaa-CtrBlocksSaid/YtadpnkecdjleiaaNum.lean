/-
  The contract of the document's Number.
-/
import Derived.Test.YtadpnkecdjleiaaBase
namespace Go.Proofs.Ytadpnkecdjleiaa
open Go.RowKit

set_option maxHeartbeats 400000 in
theorem number_any (p : Option Addr) (cap : Nat) (xs : List Int) (w : World) (hb : Bin w p xs) (ho : Oct xs) (hl : xs.length ≤ 8) :
    Calls Try.prog 19 #[.slice p xs.length cap] w fun e w' => e = .returned (.int .u64 (num xs)) ∧ w = w' := by
  go_enter Try.func19, Try.ntmps19
  go_wp2
  go_loop [3, 4] (fun n i => ∃ k : Nat, k ≤ xs.length ∧ i = .int .i64 k ∧ n = .int .u64 (num (xs.take k))) (fun _ i => xs.length - (intOf i).toNat)
  case atStart => exact ⟨0, Nat.zero_le _, rfl, rfl⟩
  case round =>
    obtain ⟨k, hk, rfl, rfl⟩ := hrel
    by_cases hlt : k < xs.length
    · obtain ⟨b, o, rfl, hlb, hc⟩ := hb.at (by omega)
      have hck := hc k hlt
      have hx := ho.lt k hlt
      have hn := num_take7 xs ho k (by omega)
      have hs := hid (num_succ xs k hlt)
      clear hc
      go_wp2
      go_round
      case rel => exact ⟨k + 1, by omega, by go_num, by rw [hs.out]; simp [hlt]⟩
      case measure => simp [intOf]; omega
    · go_wp2
      go_ret
      exact ⟨ret_int (by rw [List.take_of_length_le (by omega)]), rfl⟩

end Go.Proofs.Ytadpnkecdjleiaa
