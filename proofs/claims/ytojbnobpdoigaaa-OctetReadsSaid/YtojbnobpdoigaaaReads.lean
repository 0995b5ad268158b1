/-
  The walk of OctetReads.
-/
import Derived.Test.YtojbnobpdoigaaaKnown
import Derived.Test.YtojbnobpdoigaaaCopy
namespace Go.Proofs.Ytojbnobpdoigaaa
open Go.RowKit

theorem reads_walk (a : Option Addr) (c : Nat) (xs : List Int) (w : World) (hb : Bin w a xs) (ho : Oct xs) (hr : xs.length ≤ 140737488351232) :
    Calls Try.prog 4 #[.slice a xs.length c] w fun e w' => e = .returned (.bool true) ∧ Below w.heap.size w w' := by
  by_cases h : 1 ≤ xs.length ∧ xs.length ≤ 8
  · go_enter Try.func4, Try.ntmps4
    go_wp2_with fail
    refine (copy_any a c xs w hb hr).mono ?_
    rintro e w1 ⟨g, c1, rfl, hown, hb1⟩
    obtain ⟨_, _, hv, _, hbin⟩ := hown.bin
    obtain ⟨rfl, _, rfl⟩ := Value.slice.inj hv
    go_wp2_with fail
    refine (get_any _ _ xs _ hbin ho h.1 h.2).mono ?_
    rintro e w2 ⟨rfl, rfl⟩
    go_wp2_with fail
    refine (refGet_any _ _ xs _ (hb.below hb1) ho h.1 h.2).mono ?_
    rintro e w2 ⟨rfl, rfl⟩
    go_wp2_with fail
    refine (known_any _).mono ?_
    rintro e w2 ⟨rfl, hb2⟩
    go_wp2
    go_ret
    exact ⟨rfl, hb1.trans (hb2.mono hb1.size)⟩
  · have hn : xs.length < 1 ∨ 8 < xs.length := by omega
    go_enter Try.func4, Try.ntmps4
    go_wp2_with fail
    refine (copy_any a c xs w hb hr).mono ?_
    rintro e w1 ⟨g, c1, rfl, hown, hb1⟩
    go_wp2_with fail
    refine (get_no _ _ _ _ hn).mono ?_
    rintro e w2 ⟨rfl, rfl⟩
    go_wp2_with fail
    refine (refGet_no _ _ _ _ hn).mono ?_
    rintro e w2 ⟨rfl, rfl⟩
    go_wp2_with fail
    refine (known_any _).mono ?_
    rintro e w2 ⟨rfl, hb2⟩
    go_wp2
    go_ret
    exact ⟨rfl, hb1.trans (hb2.mono hb1.size)⟩
end Go.Proofs.Ytojbnobpdoigaaa
