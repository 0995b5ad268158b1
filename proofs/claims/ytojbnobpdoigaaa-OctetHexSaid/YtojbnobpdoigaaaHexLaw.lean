/-
  The walk of OctetHex.
-/
import Derived.Test.YtojbnobpdoigaaaKnown
import Derived.Test.YtojbnobpdoigaaaCopy
import Derived.Test.YtojbnobpdoigaaaRefHex
namespace Go.Proofs.Ytojbnobpdoigaaa
open Go.RowKit

theorem hexlaw_walk (a : Option Addr) (c : Nat) (xs : List Int) (w : World) (hb : Bin w a xs) (ho : Oct xs) (hr : xs.length ≤ 140737488351232) :
    Calls Try.prog 6 #[.slice a xs.length c] w fun e w' => e = .returned (.bool true) ∧ Below w.heap.size w w' := by
  by_cases h : 4096 < xs.length
  · go_enter Try.func6, Try.ntmps6
    go_wp2_with fail
    refine (known_any _).mono ?_
    rintro e w2 ⟨rfl, hb2⟩
    go_wp2
    go_ret
    exact ⟨rfl, hb2⟩
  · go_enter Try.func6, Try.ntmps6
    go_wp2_with fail
    refine (copy_any a c xs w hb hr).mono ?_
    rintro e w1 ⟨g, c1, rfl, hown, hb1⟩
    obtain ⟨_, _, hv, _, hbin⟩ := hown.bin
    obtain ⟨rfl, _, rfl⟩ := Value.slice.inj hv
    have HX := hid hbin
    clear hown hbin hv
    go_wp2_with fail
    refine (hex_any _ _ xs _ HX.out ho (by omega)).mono ?_
    rintro e w2 ⟨rfl, hb2⟩
    go_wp2_with fail
    refine (refHex_any _ _ xs _ ((hb.below hb1).below hb2) ho (by omega)).mono ?_
    rintro e w3 ⟨rfl, n, rfl⟩
    go_wp2_with fail
    refine (known_any _).mono ?_
    rintro e w4 ⟨rfl, hb4⟩
    go_wp2
    go_ret
    have hb12 := hb1.trans (hb2.mono hb1.size)
    exact ⟨rfl, (show Below w.heap.size w (w2.drewN n) from ⟨hb12.os, hb12.tape, hb12.output, hb12.size, hb12.block⟩).trans (hb4.mono hb12.size)⟩
end Go.Proofs.Ytojbnobpdoigaaa
