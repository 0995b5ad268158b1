/-
  The program's pack: Num, Text.
-/
import Derived.Test.YtphmdjhmgmjmgaaPx
import Derived.Test.YtphmdjhmgmjmgaaClo
namespace Go.Proofs.Ytphmdjhmgmjmgaa
open Go.RowKit
set_option linter.unusedVariables false
set_option linter.unusedSimpArgs false

theorem and_low7 (n : Nat) (h : n < 2 ^ 64) : bits .and .u64 (n : Int) 127 = ((n % 128 : Nat) : Int) := by
  rw [← nat_mask7 n]
  exact u64_and_nat n 127 h (by decide)
theorem or_high : ∀ z : Nat, z < 128 → bits .or .u8 128 (z : Int) = ((z + 128 : Nat) : Int) := by decide +kernel

set_option maxHeartbeats 2000000 in
set_option maxRecDepth 100000 in
theorem pNum_of (n : Nat) (w : World) (h : n < 2 ^ 64) :
    Calls Try.prog 10 #[.int .u64 (n : Nat)] w fun e w' => ∃ v, e = .returned v ∧ Own w.heap.size w' v (numL n).length (numL n) ∧ Below w.heap.size w w' := by
  obtain ⟨i0, hi, hz0, hz1, hz2⟩ := info_parts Try.infoU8
  have hl10 := numL_ten h
  obtain ⟨zs, hzs⟩ : ∃ l, Hid (l = numL n) := ⟨_, rfl⟩
  rw [← hzs.out] at hl10 ⊢
  go_enter Try.func10, Try.ntmps10
  go_wp2_with fail
  go_loopw [0, 3] (fun i v wr => ∃ (m L : Nat) (p' : Option Addr) (c' : Nat) (ys : List Int), m < 2 ^ 64 ∧ i = .int .u64 (m : Int) ∧ v = .slice p' L c' ∧ Own w.heap.size wr (.slice p' L c') L ys ∧ Hid (ys ++ numL m = zs) ∧ Below w.heap.size w wr) (fun i _ _ => (intOf i).toNat)
  case atStart => exact ⟨n, 0, none, 0, [], h, rfl, rfl, Own.nil _ _, hid hzs.out.symm, Below.refl _ _⟩
  case round =>
    obtain ⟨m, L, p', c', ys, hm, rfl, rfl, hO, HY, hB⟩ := hrel
    have HO := hid hO
    have hLl := hO.len
    clear hO
    have hsz := hB.size
    by_cases hlt : 127 < m
    · have hnm : ¬ m < 128 := by omega
      have hL : L ≤ 10 := by
        have := congrArg List.length HY.out
        rw [List.length_append, hLl] at this
        omega
      have i1 : (127 : Int) < (m : Int) := by omega
      have e1 : bits .and .u64 (m : Int) 127 = ((m % 128 : Nat) : Int) := and_low7 m hm
      have e2 : IntKind.u8.wrap ((m : Int) % 128) = (m : Int) % 128 := by have := wrap_u8 (m % 128) (by omega); simpa using this
      have e3 : bits .or .u8 128 ((m : Int) % 128) = (m : Int) % 128 + 128 := by have := or_high (m % 128) (by omega); simpa using this
      have HY2 : Hid ((ys ++ [((m % 128 + 128 : Nat) : Int)]) ++ numL (m / 128) = zs) := by
        have := HY.out
        rw [numL_more hnm] at this
        rw [List.append_assoc]
        exact hid this
      clear HY hLl
      trace_state
      go_wp2_with (at_builtin; refine wpList_append_bin rfl (.tmp 6) (.tmp 11) 24 rfl i0 Try.underlying24 hi hz0 hz1 hz2 w.heap.size _ L _ rfl (by exact World.ownsRow.alloc HO.out _) (some ⟨wr.heap.size, 0, none⟩) 1 1 [((m % 128 + 128 : Nat) : Int)] rfl rfl (fun _ => ⟨wr.heap.size, 0, rfl, fun j hj => (by obtain rfl : j = 0 := (by simpa using hj); simp)⟩) (by omega) (by simp; omega) ?_; intro p2 cap2 w3 hown2 hgrow2 _)
      have HN := hid (show Own w.heap.size w3 (.slice p2 (L + 1) cap2) (L + 1) (ys ++ [((m % 128 + 128 : Nat) : Int)]) from hown2)
      have hb3 : Below w.heap.size w w3 := (hB.alloc hsz _).grown hgrow2 (by simp; omega) (fun q hq => (World.ownsRow.lt HO.out q hq).1)
      clear hown2 hgrow2
      go_wp2
      go_roundw
      case rel => exact ⟨m / 128, L + 1, p2, cap2, _, by omega, by go_num, rfl, HN.out, HY2, hb3⟩
      case measure => simp [intOf]; omega
    · have i1 : ¬ (127 : Int) < (m : Int) := by omega
      have hL : L ≤ 10 := by
        have := congrArg List.length HY.out
        rw [List.length_append, hLl] at this
        omega
      have e2 : IntKind.u8.wrap (m : Int) = (m : Int) := wrap_u8 m (by omega)
      have HY2 := HY.out
      rw [numL_one (by omega)] at HY2
      have HY3 : Hid (zs.length = L + 1) := hid (by rw [← HY2, List.length_append, hLl]; rfl)
      have HY4 := hid HY2
      clear HY2 HY hLl
      go_wp2_with (at_builtin; refine wpList_append_bin rfl (.tmp 15) (.tmp 18) 24 rfl i0 Try.underlying24 hi hz0 hz1 hz2 w.heap.size _ L _ rfl (by exact World.ownsRow.alloc HO.out _) (some ⟨wr.heap.size, 0, none⟩) 1 1 [(m : Int)] rfl rfl (fun _ => ⟨wr.heap.size, 0, rfl, fun j hj => (by obtain rfl : j = 0 := (by simpa using hj); simp)⟩) (by omega) (by simp; omega) ?_; intro p2 cap2 w3 hown2 hgrow2 _)
      have HN := hid (show Own w.heap.size w3 (.slice p2 (L + 1) cap2) zs.length zs from by rw [HY3.out, ← HY4.out]; exact hown2)
      have hb3 : Below w.heap.size w w3 := (hB.alloc hsz _).grown hgrow2 (by simp; omega) (fun q hq => (World.ownsRow.lt HO.out q hq).1)
      clear hown2 hgrow2
      go_ret
      exact ⟨_, rfl, HN.out, hb3⟩

set_option maxHeartbeats 2000000 in
set_option maxRecDepth 100000 in
theorem pText_of (p : Option Addr) (c n : Nat) (xs : List Int) (w : World) (hp : Bin w p xs) (ho : Oct xs) (hl : xs.length = n) (hc : n ≤ c) (hm : n ≤ 140737488351232) :
    Calls Try.prog 14 #[.slice p n c] w fun e w' => ∃ v, e = .returned v ∧ Own w.heap.size w' v ((numL n).length + n) (numL n ++ xs) ∧ Below w.heap.size w w' := by
  obtain ⟨i0, hi, hz0, hz1, hz2⟩ := info_parts Try.infoU8
  have hr := pNum_of n w (by omega)
  have i1 : IntKind.u64.wrap (n : Int) = (n : Int) := by simp [IntKind.wrap, IntKind.signed, IntKind.bits]; omega
  have hl10 := numL_ten (n := n) (by omega)
  obtain ⟨ys, hys⟩ : ∃ l, Hid (l = numL n) := ⟨_, rfl⟩
  rw [← hys.out] at hr hl10 ⊢
  obtain ⟨m, hm'⟩ : ∃ m, Hid (m = ys.length) := ⟨_, rfl⟩
  rw [← hm'.out] at hr hl10 ⊢
  have HL := hid hl
  have HP := hid hp
  clear hl hp
  go_enter Try.func14, Try.ntmps14
  go_wp2_with fail
  refine hr.mono ?_
  rintro e w1 ⟨v1, rfl, hv1, hb1⟩
  have HO := hid hv1
  have hsz := hb1.size
  clear hr hv1
  go_wp2_with (at_builtin; refine wpList_append_bin rfl (.tmp 6) (.tmp 7) 24 rfl i0 Try.underlying24 hi hz0 hz1 hz2 w.heap.size _ m _ rfl (by exact HO.out) p n c xs rfl HL.out (HP.out.below hb1) (by omega) hsz ?_; intro p2 cap2 w3 hown2 hgrow2 _)
  go_ret
  exact ⟨_, rfl, hown2, hb1.grown hgrow2 hsz (fun q hq => (World.ownsRow.lt HO.out q hq).1)⟩
end Go.Proofs.Ytphmdjhmgmjmgaa
