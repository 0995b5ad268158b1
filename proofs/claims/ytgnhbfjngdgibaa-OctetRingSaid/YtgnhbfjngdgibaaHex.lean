/-
  The contracts of Hex, of both.
-/
import Derived.Test.YtgnhbfjngdgibaaSame
import Derived.Deep.AppendLies
import Derived.Deep.RegionLaw
import Derived.BigRegion
import Derived.KernelRfl
namespace Go.Proofs.Ytgnhbfjngdgibaa
open Go.RowKit

/-- The digit of a number below 16. -/
def hd (n : Int) : Int := if n < 10 then 48 + n else 87 + n
/-- The digits of some bytes. -/
def hexL (xs : List Int) : List Int := xs.flatMap fun x => [hd (x / 16), hd (x % 16)]

theorem hexL_length (xs : List Int) : (hexL xs).length = 2 * xs.length := by
  induction xs with
  | nil => rfl
  | cons x xs ih => simp only [hexL, List.flatMap_cons, List.length_append, List.length_cons, List.length_nil] at ih ⊢; omega

theorem hexL_snoc (xs : List Int) (x : Int) : hexL (xs ++ [x]) = hexL xs ++ [hd (x / 16), hd (x % 16)] := by simp [hexL]

theorem hd_oct (n : Int) (h0 : 0 ≤ n) (h1 : n < 16) : 0 ≤ hd n ∧ hd n ≤ 255 := by unfold hd; split <;> omega

theorem hexL_oct (xs : List Int) (h : Oct xs) : Oct (hexL xs) := by
  intro y hy
  simp only [hexL, List.mem_flatMap, List.mem_cons, List.not_mem_nil, or_false] at hy
  obtain ⟨x, hx, rfl | rfl⟩ := hy
  · have := h x hx; exact hd_oct _ (by omega) (by omega)
  · have := h x hx; exact hd_oct _ (by omega) (by omega)

/-- A digit, read off the constant text. -/
theorem index_digit (n : Int) (h0 : 0 ≤ n) (h1 : n < 16) (w : World) :
    (Instr.index 9 (.string { data := #[48, 49, 50, 51, 52, 53, 54, 55, 56, 57, 97, 98, 99, 100, 101, 102] }) (.int .u8 n)).run Try.prog w = .ok (.int .u8 (hd n)) w := by
  rcases (show n = 0 ∨ n = 1 ∨ n = 2 ∨ n = 3 ∨ n = 4 ∨ n = 5 ∨ n = 6 ∨ n = 7 ∨ n = 8 ∨ n = 9 ∨ n = 10 ∨ n = 11 ∨ n = 12 ∨ n = 13 ∨ n = 14 ∨ n = 15 from by omega) with
    rfl | rfl | rfl | rfl | rfl | rfl | rfl | rfl | rfl | rfl | rfl | rfl | rfl | rfl | rfl | rfl
  all_goals kernel_rfl

set_option maxHeartbeats 400000 in
set_option maxRecDepth 100000 in
theorem hex_any (p : Option Addr) (c : Nat) (xs : List Int) (w : World) (hp : Bin w p xs) (ho : Oct xs) (hm : xs.length ≤ 1099511627776) :
    Calls Try.prog 27 #[.slice p xs.length c] w fun e w' => e = .returned (.string (strOfNums (hexL xs))) ∧ Below w.heap.size w w' := by
  obtain ⟨i0, hi, hz0, hz1, hz2⟩ := info_parts Try.infoU8
  go_enter Try.func27, Try.ntmps27
  go_wp2_with (at_make; refine wpList_make_own _ rfl _ _ 22 rfl w.heap.size 5 i0 (.int .u8 0) 1 Try.underlying22 hi hz0 hz1 .i64 .i64 _ (2 * xs.length) rfl rfl (by omega) (by rw [hz2]; omega) (by unfold maxLen; omega) (Nat.le_refl _) ?_; intro w1 hown hgrow)
  have hown0 : Own w.heap.size w1 (.slice (some ⟨w.heap.size, 0, none⟩) 0 (2 * xs.length)) 0 [] := hown
  have hb0 : Below w.heap.size w w1 := (Below.refl _ _).grown hgrow (Nat.le_refl _) (by simp)
  clear hown hgrow
  go_loopw [3, 12] (fun v i wr => ∃ k : Nat, k ≤ xs.length ∧ i = .int .i64 (k : Int) ∧ Own w.heap.size wr v (2 * k) (hexL (xs.take k)) ∧ Below w.heap.size w wr)
    (fun _ i _ => xs.length - (intOf i).toNat)
  case atStart => exact ⟨0, by omega, rfl, hown0, hb0⟩
  case round =>
    obtain ⟨k, hk, rfl, hown, hbel⟩ := hrel
    by_cases hlt : k < xs.length
    · obtain ⟨b, o, rfl, hlb, hc⟩ := (hp.below hbel).at (by omega)
      have hck := hc k hlt
      have hx := ho.lt k hlt
      clear hc
      have hA : ∀ w : World, (Instr.index 9 (.string { data := #[48, 49, 50, 51, 52, 53, 54, 55, 56, 57, 97, 98, 99, 100, 101, 102] }) (.int .u8 (xs[k] / 16))).run Try.prog w = .ok (.int .u8 (hd (xs[k] / 16))) w :=
        index_digit _ (by omega) (by omega)
      have hB : ∀ w : World, (Instr.index 9 (.string { data := #[48, 49, 50, 51, 52, 53, 54, 55, 56, 57, 97, 98, 99, 100, 101, 102] }) (.int .u8 (bits .and .u8 xs[k] 15))).run Try.prog w = .ok (.int .u8 (hd (xs[k] % 16))) w := by
        rw [u8_and15 _ (by omega) (by omega)]
        exact index_digit _ (by omega) (by omega)
      go_wp2
      go_region_law (refine step_append_lies _ rfl (.tmp 16) (.tmp 23) 22 rfl w.heap.size 5 i0 (.int .u8 0) 1 1 Try.underlying22 hi hz0 hz1 hz2 rfl (by decide) u3 (2 * k) _ (by simp [Act.eval]) (by first | exact (World.ownsRow.alloc hown _).drew | exact (World.ownsRow.drew hown).alloc _) ⟨wr.heap.size, 0, none⟩ 2 2 [.int .u8 (hd (xs[k] / 16)), .int .u8 (hd (xs[k] % 16))] rfl rfl (by exact two_new _ _ _ _) (ints_one _ _) (by decide) (by unfold maxLen; omega) (by omega) (by have := hbel.size; simp; omega) _ rfl ?_; intro g cap w2 hown2 hgrow2 _ _)
      all_goals
        have HO := hid (show Own w.heap.size w2 (.slice (some ⟨g, 0, none⟩) (2 * k + 2) cap) (2 * k + 2) (hexL (xs.take k) ++ [hd (xs[k] / 16), hd (xs[k] % 16)]) from by
          unfold Own; rw [List.map_append]; exact hown2)
        have hb2 : Below w.heap.size w w2 := ((hbel.alloc (by have := hbel.size; omega) _).drew).grown hgrow2 (by have := hbel.size; simp; omega) (fun q hq => (World.ownsRow.lt hown q hq).1)
        clear hown2 hgrow2 hA hB hown
        go_wp2
        go_roundw
        case rel =>
          refine ⟨k + 1, by omega, by go_num, ?_, hb2⟩
          rw [take_snoc xs k hlt, hexL_snoc, List.getD_eq_getElem?_getD, List.getElem?_eq_getElem hlt]
          exact HO.out
        case measure => simp [intOf]; omega
    · obtain rfl : k = xs.length := by omega
      rw [List.take_length] at hown
      obtain ⟨q, cap, rfl, _, hq⟩ := hown.bin
      have hcv := conv_str hq cap
      rw [hexL_length] at hcv
      clear hq hown
      go_wp2
      go_ret
      exact ⟨rfl, hbel⟩
end Go.Proofs.Ytgnhbfjngdgibaa
