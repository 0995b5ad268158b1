/-
  The walk of OctetNumbers.
-/
import Derived.Test.YtojbnobpdoigaaaKnown
namespace Go.Proofs.Ytojbnobpdoigaaa
open Go.RowKit

/-- The same bytes twice. -/
theorem refSame_yes (p q : Option Addr) (c d n : Nat) (xs : List Int) (w : World) (hn : xs.length = n) (hp : Bin w p xs) (hq : Bin w q xs) (hx : Oct xs) :
    Calls Try.prog 13 #[.slice p n c, .slice q n d] w fun e w' => e = .returned (.bool true) ∧ w = w' := by
  subst hn
  refine (refSame_any p q c d xs xs w hp hq hx hx).mono ?_
  rintro e w' ⟨he, hw⟩
  exact ⟨by rw [he, sameB_iff.2 rfl], hw⟩

theorem numbers_no (n size : Int) (w : World) (e1 : Int) (hp : ∀ w, Calls Try.prog 11 #[.int .u64 n, .int .i64 size] w fun e w' => e = .returned (.tuple #[.slice none 0 0, .int .i64 e1]) ∧ Below w.heap.size w w')
    (hr : ∀ w, Calls Try.prog 12 #[.int .u64 n, .int .i64 size] w fun e w' => e = .returned (.tuple #[.slice none 0 0, .int .i64 e1]) ∧ Below w.heap.size w w') :
    Calls Try.prog 3 #[.int .u64 n, .int .i64 size] w fun e w' => e = .returned (.bool true) ∧ Below w.heap.size w w' := by
  have HP := hid hp
  have HR := hid hr
  clear hp hr
  go_enter Try.func3, Try.ntmps3
  go_wp2_with fail
  refine (HP.out _).mono ?_
  rintro e w1 ⟨rfl, hb1⟩
  go_wp2_with fail
  refine (HR.out _).mono ?_
  rintro e w2 ⟨rfl, hb2⟩
  go_wp2_with fail
  refine (refSame_yes none none 0 0 0 [] _ rfl (Bin.nil _ _) (Bin.nil _ _) Oct.nil).mono ?_
  rintro e w3 ⟨rfl, rfl⟩
  go_wp2_with fail
  refine (known_any _).mono ?_
  rintro e w3 ⟨rfl, hb3⟩
  go_wp2
  go_ret
  exact ⟨rfl, (hb1.trans (hb2.mono hb1.size)).trans (hb3.mono (Nat.le_trans hb1.size hb2.size))⟩

theorem numbers_walk (n size : Int) (w : World) (h0 : (Lit.int .u64 n).wf = true) (h1 : (Lit.int .i64 size).wf = true) :
    Calls Try.prog 3 #[.int .u64 n, .int .i64 size] w fun e w' => e = .returned (.bool true) ∧ Below w.heap.size w w' := by
  have hn := u64_of_wf h0
  by_cases hs : size < 1 ∨ 8 < size
  · refine numbers_no n size w 2 (fun w => (put_no n size w hs).mono ?_) (fun w => (refPut_no n size w hs).mono ?_)
    · rintro e w' ⟨he, rfl⟩; exact ⟨he, Below.refl _ _⟩
    · rintro e w' ⟨he, rfl⟩; exact ⟨he, Below.refl _ _⟩
  · obtain ⟨k, rfl⟩ : ∃ k : Nat, size = (k : Int) := ⟨size.toNat, by omega⟩
    by_cases hz : n / 256 ^ k = 0
    · have HN := hid hn
      have HZ := hid hz
      have hk1 : 1 ≤ k := by omega
      have hk8 : k ≤ 8 := by omega
      clear h0 h1 hn hz hs
      go_enter Try.func3, Try.ntmps3
      go_wp2_with fail
      refine (put_any n k _ hk1 hk8 HN.out).mono ?_
      rintro e w1 ⟨_, ha, hb1⟩
      obtain ⟨v, rfl, hown⟩ := ha HZ.out
      obtain ⟨p, c, rfl, _, hbin⟩ := hown.bin
      have HA := hid hbin
      clear ha hown hbin
      go_wp2_with fail
      refine (refPut_any n k _ hk1 hk8 HN.out).mono ?_
      rintro e w2 ⟨_, ha, hb2⟩
      obtain ⟨v, rfl, hown⟩ := ha HZ.out
      obtain ⟨q, d, rfl, _, hbin⟩ := hown.bin
      have HB := hid hbin
      clear ha hown hbin
      go_wp2_with fail
      refine (refSame_yes p q c d k (be k n) _ (be_length _ _) (HA.out.below hb2) HB.out (be_oct _ _)).mono ?_
      rintro e w3 ⟨rfl, rfl⟩
      go_wp2_with fail
      refine (known_any _).mono ?_
      rintro e w3 ⟨rfl, hb3⟩
      go_wp2
      go_ret
      exact ⟨rfl, (hb1.trans (hb2.mono hb1.size)).trans (hb3.mono (Nat.le_trans hb1.size hb2.size))⟩
    · refine numbers_no n k w 6 (fun w => (put_any n k w (by omega) (by omega) hn).mono ?_) (fun w => (refPut_any n k w (by omega) (by omega) hn).mono ?_)
      · rintro e w' ⟨ha, _, hb⟩; exact ⟨ha hz, hb⟩
      · rintro e w' ⟨ha, _, hb⟩; exact ⟨ha hz, hb⟩
end Go.Proofs.Ytojbnobpdoigaaa
