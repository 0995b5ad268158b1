/-
  The walk of OctetUnhex.
-/
import Derived.Test.YtojbnobpdoigaaaKnown
import Derived.Test.YtojbnobpdoigaaaRefUnhex
namespace Go.Proofs.Ytojbnobpdoigaaa
open Go.RowKit

theorem unhexlaw_no (s : ByteArray) (w : World) (e1 at1 : Int) (hp : ∀ w, Calls Try.prog 25 #[.string s] w fun e w' => e = .returned (.tuple #[.slice none 0 0, .int .i64 e1, .int .i64 at1]) ∧ w = w')
    (hr : ∀ w, Calls Try.prog 26 #[.string s] w fun e w' => e = .returned (.tuple #[.slice none 0 0, .int .i64 e1, .int .i64 at1]) ∧ w = w') :
    Calls Try.prog 7 #[.string s] w fun e w' => e = .returned (.bool true) ∧ Below w.heap.size w w' := by
  have HP := hid hp
  have HR := hid hr
  clear hp hr
  go_enter Try.func7, Try.ntmps7
  go_wp2_with fail
  refine (HP.out _).mono ?_
  rintro e w1 ⟨rfl, rfl⟩
  go_wp2_with fail
  refine (HR.out _).mono ?_
  rintro e w2 ⟨rfl, rfl⟩
  go_wp2_with fail
  refine (refSame_yes none none 0 0 0 [] _ rfl (Bin.nil _ _) (Bin.nil _ _) Oct.nil).mono ?_
  rintro e w3 ⟨rfl, rfl⟩
  go_wp2_with fail
  refine (known_any _).mono ?_
  rintro e w3 ⟨rfl, hb3⟩
  go_wp2
  go_ret
  exact ⟨rfl, hb3⟩

theorem unhexlaw_walk (s : ByteArray) (w : World) (hs : s.size ≤ 140737488351232) :
    Calls Try.prog 7 #[.string s] w fun e w' => e = .returned (.bool true) ∧ Below w.heap.size w w' := by
  rcases scan s s.size with ⟨i, hi, hg, hb⟩ | hg
  · exact unhexlaw_no s w 5 i (fun w => unhex_bad s i w hs hi hg hb) (fun w => refUnhex_bad s i w hs hi hg hb)
  · rcases Nat.mod_two_eq_zero_or_one s.size with h | h
    · obtain ⟨m, hm⟩ : ∃ m, s.size = 2 * m := ⟨s.size / 2, by omega⟩
      have HC := hid (fun w => unhex_even s m w hs hg hm)
      have HR := hid (fun w => refUnhex_even s m w hs hg hm)
      have HO := hid (unh_oct s m hg hm)
      clear h hg hm
      go_enter Try.func7, Try.ntmps7
      go_wp2_with fail
      refine (HC.out _).mono ?_
      rintro e w1 ⟨v, rfl, hown, hb1⟩
      obtain ⟨p, c, rfl, _, hbin⟩ := hown.bin
      have HA := hid hbin
      clear hown hbin
      go_wp2_with fail
      refine (HR.out _).mono ?_
      rintro e w2 ⟨v, rfl, hown, hb2⟩
      obtain ⟨q, d, rfl, _, hbin⟩ := hown.bin
      have HB := hid hbin
      clear hown hbin
      go_wp2_with fail
      refine (refSame_yes p q c d m (unh (cs s) m) _ (unh_length _ _) (HA.out.below hb2) HB.out HO.out).mono ?_
      rintro e w3 ⟨rfl, rfl⟩
      go_wp2_with fail
      refine (known_any _).mono ?_
      rintro e w3 ⟨rfl, hb3⟩
      go_wp2
      go_ret
      exact ⟨rfl, (hb1.trans (hb2.mono hb1.size)).trans (hb3.mono (Nat.le_trans hb1.size hb2.size))⟩
    · exact unhexlaw_no s w 4 s.size (fun w => unhex_odd s w hs hg h) (fun w => refUnhex_odd s w hs hg h)
end Go.Proofs.Ytojbnobpdoigaaa
