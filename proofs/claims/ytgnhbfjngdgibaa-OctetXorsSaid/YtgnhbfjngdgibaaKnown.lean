/-
  'known' of layer 1's statements: it returns true.
-/
import Derived.Test.YtgnhbfjngdgibaaKa
import Derived.Test.YtgnhbfjngdgibaaHex
namespace Go.Proofs.Ytgnhbfjngdgibaa
open Go.RowKit

theorem put258 (w : World) : Calls Try.prog 25 #[.int .u64 258, .int .i64 2] w fun e w' =>
    ∃ g cap, e = .returned (.tuple #[.slice (some ⟨g, 0, none⟩) 2 cap, .int .i64 0]) ∧ w'.cell? ⟨g, 0, none⟩ = some (.int .u8 1) ∧ w'.cell? ⟨g, 1, none⟩ = some (.int .u8 2) ∧ g < w'.heap.size ∧ Below w.heap.size w w' := by
  refine (put_any 258 2 w (by decide) (by decide) (by decide)).mono ?_
  rintro e w' ⟨_, h, hb⟩
  obtain ⟨v, rfl, ho⟩ := h (by decide)
  rcases ho.shape with ⟨rfl, hn⟩ | ⟨g, cap, rfl, hB, hc⟩
  · omega
  · have h0 := ho.cellAt 0 (by decide)
    have h1 := ho.cellAt 1 (by decide)
    exact ⟨g, cap, rfl, h0, h1, World.block_lt_of_cell? w' _ h0, hb⟩

theorem bin_two (w : World) (x y : Int) (B : Nat) (hB : w.heap.size = B) : Bin (w.alloc (.cells #[.int .u8 x, .int .u8 y] 5)) (some ⟨B, 0, none⟩) [x, y] := fun _ => by
  subst hB
  refine ⟨w.heap.size, 0, rfl, fun i hi => ?_⟩
  match i, hi with
  | 0, _ => simp
  | 1, _ => simp
  | n + 2, hi => simp only [List.length_cons, List.length_nil] at hi; omega

theorem get12 (p : Option Addr) (w : World) (hb : Bin w p [1, 2]) : Calls Try.prog 26 #[.slice p 2 2] w fun e w' =>
    e = .returned (.tuple #[.int .u64 258, .int .i64 0]) ∧ w = w' :=
  get_any _ _ [1, 2] _ hb (by intro x hx; simp at hx; omega) (by decide) (by decide)

theorem hex00af (p : Option Addr) (w : World) (hb : Bin w p [0, 175]) : Calls Try.prog 27 #[.slice p 2 2] w fun e w' =>
    e = .returned (.string { data := #[48, 48, 97, 102] }) ∧ Below w.heap.size w w' :=
  hex_any _ 2 [0, 175] _ hb (by intro x hx; simp at hx; omega) (by decide)

set_option maxHeartbeats 400000 in
set_option maxRecDepth 100000 in
theorem known_any (w : World) : Calls Try.prog 16 #[] w fun e w' => e = .returned (.bool true) ∧ Below w.heap.size w w' := by
  go_enter Try.func16, Try.ntmps16
  go_wp2_with fail
  refine (put258 _).mono ?_
  rintro e w1 ⟨g, cap, rfl, h0, h1, hg, hb⟩
  have h0' : (w1.alloc (.cells #[.int .u8 1, .int .u8 2] 5)).cell? ⟨g, 0, none⟩ = some (.int .u8 1) := by rw [World.cell?_alloc_past _ _ _ hg]; exact h0
  have h1' : (w1.alloc (.cells #[.int .u8 1, .int .u8 2] 5)).cell? ⟨g, 1, none⟩ = some (.int .u8 2) := by rw [World.cell?_alloc_past _ _ _ hg]; exact h1
  go_wp2_with fail
  refine (get12 _ _ (bin_two w1 1 2 _ rfl)).mono ?_
  rintro e w2 ⟨rfl, rfl⟩
  go_wp2_with fail
  refine (hex00af _ _ (bin_two _ 0 175 _ (by simp))).mono ?_
  rintro e w3 ⟨rfl, hb3⟩
  go_wp2
  go_ret
  refine ⟨rfl, ((((hb.alloc hb.size _).alloc (by have := hb.size; simp; omega) _)).trans (hb3.mono (by have := hb.size; simp; omega)))⟩
end Go.Proofs.Ytgnhbfjngdgibaa
