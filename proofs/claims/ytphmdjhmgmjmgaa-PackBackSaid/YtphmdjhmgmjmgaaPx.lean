/-
  The document's Text.
-/
import Derived.Test.YtphmdjhmgmjmgaaPr
namespace Go.Proofs.Ytphmdjhmgmjmgaa
open Go.RowKit
set_option linter.unusedVariables false
set_option linter.unusedSimpArgs false

theorem take_snocP {xs : List Int} {k : Nat} (h : k < xs.length) : xs.take (k + 1) = xs.take k ++ [xs.getD k 0] := by
  rw [List.take_add_one, List.getD_eq_getElem?_getD, List.getElem?_eq_getElem h]
  rfl

set_option maxHeartbeats 4000000 in
set_option maxRecDepth 100000 in
theorem refText_of (p : Option Addr) (cap n : Nat) (xs : List Int) (w : World) (hp : Bin w p xs) (ho : Oct xs) (hl : xs.length = n) (hm : n ≤ 140737488351232) :
    Calls Try.prog 15 #[.slice p n cap] w fun e w' => ∃ v, e = .returned v ∧ Own w.heap.size w' v ((numL n).length + n) (numL n ++ xs) ∧ Below w.heap.size w w' := by
  obtain ⟨i0, hi, hz0, hz1, hz2⟩ := info_parts Try.infoU8
  have hr := refNum_of n w (by omega)
  have i1 : IntKind.u64.wrap (n : Int) = (n : Int) := by simp [IntKind.wrap, IntKind.signed, IntKind.bits]; omega
  have hl10 := numL_ten (n := n) (by omega)
  obtain ⟨ys, hys⟩ : ∃ l, Hid (l = numL n) := ⟨_, rfl⟩
  rw [← hys.out] at hr hl10 ⊢
  obtain ⟨m, hm'⟩ : ∃ m, Hid (m = ys.length) := ⟨_, rfl⟩
  rw [← hm'.out] at hr hl10 ⊢
  have HL := hid hl
  have HP := hid hp
  clear hl hp
  go_enter Try.func15, Try.ntmps15
  go_wp2_with fail
  refine hr.mono ?_
  rintro e w1 ⟨v1, rfl, hv1, hb1⟩
  have HO := hid hv1
  clear hr hv1
  go_wp2_with fail
  go_loopw [3, 4] (fun v i wr => ∃ (k L : Nat) (p' : Option Addr) (c' : Nat), k ≤ n ∧ Hid (L = m + k) ∧ i = .int .i64 (k : Int) ∧ v = .slice p' L c' ∧ Own w.heap.size wr (.slice p' L c') L (ys ++ xs.take k) ∧ Below w.heap.size w wr) (fun _ i _ => n - (intOf i).toNat)
  case atStart =>
    obtain ⟨p1, c1, rfl, _, _⟩ := HO.out.bin
    exact ⟨0, m, p1, c1, Nat.zero_le _, rfl, rfl, rfl, by rw [List.take_zero, List.append_nil]; exact HO.out, hb1⟩
  case round =>
    clear HO hb1
    obtain ⟨k, L, p', c', hk, hL, rfl, rfl, hO, hB⟩ := hrel
    have HO := hid hO
    clear hO
    have hLb : L ≤ 140737488351300 := by have := hL.out; omega
    by_cases hlt : k < n
    · obtain ⟨b, o, rfl, _, hc⟩ := (HP.out.below hB).at (by rw [HL.out]; omega)
      have hck := hc k (by rw [HL.out]; exact hlt)
      have hkn : (k : Int) < (n : Int) := by omega
      have HT := hid (take_snocP (xs := xs) (k := k) (by rw [HL.out]; exact hlt))
      generalize xs.getD k 0 = x at hck HT
      have hsz := hB.size
      clear hc
      go_wp2_with (at_builtin; refine wpList_append_bin rfl (.tmp 15) (.tmp 20) 24 rfl i0 Try.underlying24 hi hz0 hz1 hz2 w.heap.size _ L _ rfl (by exact World.ownsRow.alloc HO.out _) (some ⟨wr.heap.size, 0, none⟩) 1 1 [x] rfl rfl (fun _ => ⟨wr.heap.size, 0, rfl, fun j hj => (by obtain rfl : j = 0 := (by simpa using hj); simp)⟩) (by omega) (by simp; omega) ?_; intro p2 cap2 w3 hown2 hgrow2 _)
      have HN := hid (show Own w.heap.size w3 (.slice p2 (L + 1) cap2) (L + 1) (ys ++ xs.take (k + 1)) from by
        rw [HT.out, ← List.append_assoc]; exact hown2)
      have hb3 : Below w.heap.size w w3 := (hB.alloc hsz _).grown hgrow2 (by simp; omega) (fun q hq => (World.ownsRow.lt HO.out q hq).1)
      clear hown2 hgrow2
      go_wp2
      go_roundw
      case rel => exact ⟨k + 1, L + 1, p2, cap2, by omega, (by have := hL.out; show L + 1 = _; omega), by go_num, rfl, HN.out, hb3⟩
      case measure => simp [intOf]; omega
    · obtain rfl : k = n := by omega
      have HO2 := hid (show Own w.heap.size wr (.slice p' L c') (m + k) (ys ++ xs) from by
        have := HO.out
        rw [List.take_of_length_le (by rw [HL.out]; exact Nat.le_refl _)] at this
        rw [← hL.out]; exact this)
      clear HO
      go_wp2
      go_ret
      exact ⟨_, rfl, HO2.out, hB⟩
end Go.Proofs.Ytphmdjhmgmjmgaa
