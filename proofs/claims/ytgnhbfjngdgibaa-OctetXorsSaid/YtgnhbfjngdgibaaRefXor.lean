/-
  The contract of the document's Xor.
-/
import Derived.Test.YtgnhbfjngdgibaaKa
namespace Go.Proofs.Ytgnhbfjngdgibaa
open Go.RowKit

theorem bits_int (a b : Int) (w : World) (ha : 0 ≤ a ∧ a ≤ 255) (hb : 0 ≤ b ∧ b ≤ 255) :
    Calls Try.prog 28 #[.int .u8 a, .int .u8 b] w fun e w' => e = .returned (.int .u8 ((a.toNat ^^^ b.toNat : Nat) : Int)) ∧ ∃ n, w' = w.drewN n := by
  have h := bits_any a.toNat b.toNat w (by omega) (by omega)
  rw [show ((a.toNat : Nat) : Int) = a from by omega, show ((b.toNat : Nat) : Int) = b from by omega] at h
  exact h

set_option maxHeartbeats 400000 in
set_option maxRecDepth 100000 in
theorem refXor_any (p q : Option Addr) (c d : Nat) (xs ys : List Int) (w : World) (hp : Bin w p xs) (hq : Bin w q ys) (hx : Oct xs) (hy : Oct ys) (hl : ys.length = xs.length) (hm : xs.length ≤ 140737488351232) :
    Calls Try.prog 17 #[.slice p xs.length c, .slice q xs.length d] w fun e w' => ∃ v, e = .returned v ∧ Own w.heap.size w' v xs.length (xorL xs ys) ∧ Below w.heap.size w w' := by
  obtain ⟨i0, hi, hz0, hz1, hz2⟩ := info_parts Try.infoU8
  have HL := hid hl
  clear hl
  go_enter Try.func17, Try.ntmps17
  go_wp2
  go_loopw [5, 6] (fun v i wr => ∃ k : Nat, k ≤ xs.length ∧ i = .int .i64 (k : Int) ∧ Own w.heap.size wr v k (xorL (xs.take k) (ys.take k)) ∧ Below w.heap.size w wr)
    (fun _ i _ => xs.length - (intOf i).toNat)
  case atStart => exact ⟨0, by omega, rfl, Own.nil _ _, Below.refl _ _⟩
  case round =>
    obtain ⟨k, hk, rfl, hown, hbel⟩ := hrel
    by_cases hlt : k < xs.length
    · have hlt2 : k < ys.length := by rw [HL.out]; exact hlt
      obtain ⟨b, o, rfl, hlb, hc⟩ := (hp.below hbel).at (by omega)
      obtain ⟨b2, o2, rfl, hlb2, hc2⟩ := (hq.below hbel).at (by omega)
      have hck := hc k hlt
      have hck2 := hc2 k hlt2
      clear hc hc2
      have h1 := hx.lt k hlt
      have h2 := hy.lt k hlt2
      have HO := hid hown
      clear hown
      go_wp2
      go_region_law (first
        | (go_simp; go_at_call 28; refine (bits_int _ _ _ h1 h2).mono ?_; rintro e w2 ⟨rfl, n, rfl⟩)
        | (refine step_append_lies _ rfl (.tmp 13) (.tmp 23) 22 rfl w.heap.size 5 i0 (.int .u8 0) 1 1 Try.underlying22 hi hz0 hz1 hz2 rfl (by decide) u5 k _ (by simp [Act.eval]) (by exact World.ownsRow.alloc HO.out _) ⟨wr.heap.size, 0, none⟩ 1 1 [.int .u8 (((xs[k].toNat ^^^ ys[k].toNat : Nat) : Int))] rfl rfl (by exact one_new _ _ _) (int_one _) (by decide) (by unfold maxLen; omega) (by omega) (by have := hbel.size; simp; omega) _ rfl ?_; intro g cap w2 hown2 hgrow2 _ _))
      all_goals
        have HN := hid (show Own w.heap.size w2 (.slice (some ⟨g, 0, none⟩) (k + 1) cap) (k + 1) (xorL (xs.take k) (ys.take k) ++ [((xs[k].toNat ^^^ ys[k].toNat : Nat) : Int)]) from by
          unfold Own; rw [List.map_append]; exact hown2)
        have hb2 : Below w.heap.size w w2 := (((below_drewN hbel _).alloc (by have := hbel.size; simp; omega) _)).grown hgrow2 (by have := hbel.size; simp; omega) (fun q hq => (World.ownsRow.lt HO.out q hq).1)
        clear hown2 hgrow2
        go_wp2
        go_roundw
        case rel =>
          refine ⟨k + 1, by omega, by go_num, ?_, hb2⟩
          rw [take_snoc xs k hlt, take_snoc ys k hlt2, xorL_snoc _ _ _ _ (by simp; omega), List.getD_eq_getElem?_getD, List.getD_eq_getElem?_getD, List.getElem?_eq_getElem hlt, List.getElem?_eq_getElem hlt2]
          exact HN.out
        case measure => simp [intOf]; omega
    · obtain rfl : k = xs.length := by omega
      rw [List.take_length, ← HL.out, List.take_length, HL.out] at hown
      have HO := hid hown
      clear hown
      go_wp2
      go_ret
      exact ⟨_, rfl, HO.out, hbel⟩
end Go.Proofs.Ytgnhbfjngdgibaa
