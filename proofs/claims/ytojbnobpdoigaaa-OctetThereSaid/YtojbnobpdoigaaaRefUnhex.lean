/-
  The contracts of the document's Unhex.
-/
import Derived.Test.YtojbnobpdoigaaaUnhex
namespace Go.Proofs.Ytojbnobpdoigaaa
open Go.RowKit

set_option maxHeartbeats 400000 in
theorem refUnhex_bad (s : ByteArray) (i : Nat) (w : World) (hs : s.size ≤ 140737488351232) (hi : i < s.size) (hg : Good s i) (hb : dv ((cs s).getD i 0) < 0) :
    Calls Try.prog 26 #[.string s] w fun e w' => e = .returned (.tuple #[.slice none 0 0, .int .i64 5, .int .i64 i]) ∧ w = w' := by
  have HG := hid hg
  have HB := hid hb
  clear hg hb
  go_enter Try.func26, Try.ntmps26
  go_wp2_with fail
  go_loop [5] (fun v => ∃ k : Nat, k ≤ i ∧ v = .int .i64 (k : Int)) (fun v => s.size - (intOf v).toNat)
  case atStart => exact ⟨0, by omega, rfl⟩
  case round =>
    obtain ⟨k, hk, rfl⟩ := hrel
    have hlt : k < s.size := by omega
    by_cases he : k < i
    · have hd : 0 ≤ dv ((s[k]'hlt).toNat : Int) := by rw [← cs_get s k hlt]; exact HG.out k he
      go_wp2_with (go_at_call 33; refine (digit_any _ _).mono ?_; rintro e w' ⟨rfl, rfl⟩)
      go_round
      case rel => exact ⟨k + 1, by omega, by go_num⟩
      case measure => simp [intOf]; omega
    · obtain rfl : k = i := by omega
      have hd : dv ((s[k]'hlt).toNat : Int) < 0 := by rw [← cs_get s k hlt]; exact HB.out
      go_wp2_with (go_at_call 33; refine (digit_any _ _).mono ?_; rintro e w' ⟨rfl, rfl⟩)
      go_ret3
      exact ⟨rfl, rfl⟩

set_option maxHeartbeats 400000 in
theorem refUnhex_odd (s : ByteArray) (w : World) (hs : s.size ≤ 140737488351232) (hg : Good s s.size) (ho : s.size % 2 = 1) :
    Calls Try.prog 26 #[.string s] w fun e w' => e = .returned (.tuple #[.slice none 0 0, .int .i64 4, .int .i64 s.size]) ∧ w = w' := by
  have HG := hid hg
  have HO := hid ho
  clear hg ho
  go_enter Try.func26, Try.ntmps26
  go_wp2_with fail
  go_loop [5] (fun v => ∃ k : Nat, k ≤ s.size ∧ v = .int .i64 (k : Int)) (fun v => s.size - (intOf v).toNat)
  case atStart => exact ⟨0, by omega, rfl⟩
  case round =>
    obtain ⟨k, hk, rfl⟩ := hrel
    by_cases hlt : k < s.size
    · have hd : 0 ≤ dv ((s[k]'hlt).toNat : Int) := by rw [← cs_get s k hlt]; exact HG.out k hlt
      go_wp2_with (go_at_call 33; refine (digit_any _ _).mono ?_; rintro e w' ⟨rfl, rfl⟩)
      go_round
      case rel => exact ⟨k + 1, by omega, by go_num⟩
      case measure => simp [intOf]; omega
    · have hodd : ((s.size : Int) % 2 == 1) = true := by have := HO.out; simp; omega
      go_wp2
      go_ret3
      exact ⟨rfl, rfl⟩

set_option maxHeartbeats 800000 in
theorem refUnhex_even (s : ByteArray) (m : Nat) (w : World) (hs : s.size ≤ 140737488351232) (hg : Good s s.size) (ho : s.size = 2 * m) :
    Calls Try.prog 26 #[.string s] w fun e w' => ∃ v, e = .returned (.tuple #[v, .int .i64 0, .int .i64 0]) ∧ Own w.heap.size w' v m (unh (cs s) m) ∧ Below w.heap.size w w' := by
  obtain ⟨i0, hi, hz0, hz1, hz2⟩ := info_parts Try.infoU8
  have HG := hid hg
  have HO := hid ho
  have hm : m ≤ 70368744175616 := by omega
  clear hg ho
  go_enter Try.func26, Try.ntmps26
  go_wp2_with fail
  go_loop [5] (fun v => ∃ k : Nat, k ≤ s.size ∧ v = .int .i64 (k : Int)) (fun v => s.size - (intOf v).toNat)
  case atStart => exact ⟨0, by omega, rfl⟩
  case round =>
    obtain ⟨k, hk, rfl⟩ := hrel
    by_cases hlt : k < s.size
    · have hd : 0 ≤ dv ((s[k]'hlt).toNat : Int) := by rw [← cs_get s k hlt]; exact HG.out k hlt
      go_wp2_with (go_at_call 33; refine (digit_any _ _).mono ?_; rintro e w' ⟨rfl, rfl⟩)
      go_round
      case rel => exact ⟨k + 1, by omega, by go_num⟩
      case measure => simp [intOf]; omega
    · have hodd : ((s.size : Int) % 2 == 1) = false := by have := HO.out; simp; omega
      go_wp2
      clear hodd
      go_loopw [6, 7] (fun v i wr => ∃ k : Nat, k ≤ m ∧ i = .int .i64 (2 * (k : Int)) ∧ Own w.heap.size wr v k (unh (cs s) k) ∧ Below w.heap.size w wr)
        (fun _ i _ => s.size - (intOf i).toNat)
      case atStart => exact ⟨0, by omega, rfl, Own.nil _ _, Below.refl _ _⟩
      case round =>
        obtain ⟨k, hk, rfl, hown, hbel⟩ := hrel
        by_cases hlt : k < m
        · have hs0 : 2 * k < s.size := by have := HO.out; omega
          have hs1 : 2 * k + 1 < s.size := by have := HO.out; omega
          have hA := index_text s (2 * (k : Int)) (2 * k) hs0 (by omega)
          have hB := index_text s (2 * (k : Int) + 1) (2 * k + 1) hs1 (by omega)
          have hv0 : 0 ≤ dv ((s[2 * k]'hs0).toNat : Int) := by rw [← cs_get s _ hs0]; exact HG.out _ hs0
          have hv1 : 0 ≤ dv ((s[2 * k + 1]'hs1).toNat : Int) := by rw [← cs_get s _ hs1]; exact HG.out _ hs1
          have hu0 := dv_lt ((s[2 * k]'hs0).toNat : Int)
          have hu1 := dv_lt ((s[2 * k + 1]'hs1).toNat : Int)
          have HO2 := hid hown
          have hb2' := hid (show w.heap.size ≤ wr.heap.size from hbel.size)
          clear hown
          have hw2 : IntKind.i64.wrap (2 * (k : Int) + 1) = 2 * (k : Int) + 1 := IntWalk.i64_in _ (by omega)
          have hw3 : IntKind.i64.wrap (16 * dv ((s[2 * k]'hs0).toNat : Int)) = 16 * dv ((s[2 * k]'hs0).toNat : Int) := IntWalk.i64_in _ (by omega)
          have hw4 : IntKind.i64.wrap (16 * dv ((s[2 * k]'hs0).toNat : Int) + dv ((s[2 * k + 1]'hs1).toNat : Int)) = 16 * dv ((s[2 * k]'hs0).toNat : Int) + dv ((s[2 * k + 1]'hs1).toNat : Int) := IntWalk.i64_in _ (by omega)
          have hw5 : IntKind.u8.wrap (16 * dv ((s[2 * k]'hs0).toNat : Int) + dv ((s[2 * k + 1]'hs1).toNat : Int)) = 16 * dv ((s[2 * k]'hs0).toNat : Int) + dv ((s[2 * k + 1]'hs1).toNat : Int) := IntWalk.u8_in _ (by omega)
          go_wp2
          go_region_law (first
            | (go_simp; go_at_call 33; refine (digit_any _ _).mono ?_; rintro e w' ⟨rfl, rfl⟩)
            | (refine step_append_lies _ rfl (.tmp 32) (.tmp 45) 23 rfl w.heap.size 5 i0 (.int .u8 0) 1 1 Try.underlying23 hi hz0 hz1 hz2 rfl (by decide) u6 k _ (by simp [Act.eval]) (by exact World.ownsRow.alloc HO2.out _) ⟨wr.heap.size, 0, none⟩ 1 1 [.int .u8 (16 * dv ((s[2 * k]'hs0).toNat : Int) + dv ((s[2 * k + 1]'hs1).toNat : Int))] rfl rfl (by exact one_new _ _ _) (int_one _) (by decide) (by unfold maxLen; omega) (by omega) (by have := hb2'.out; simp; omega) _ rfl ?_; intro g cap w2 hown2 hgrow2 _ _))
          clear hw2 hw3 hw4 hw5 hA hB
          all_goals
            have HN := hid (show Own w.heap.size w2 (.slice (some ⟨g, 0, none⟩) (k + 1) cap) (k + 1) (unh (cs s) (k + 1)) from by
              rw [unh_succ, cs_get s _ hs0, cs_get s _ hs1]
              unfold Own; rw [List.map_append]; exact hown2)
            have hb2 : Below w.heap.size w w2 := ((hbel.alloc hb2'.out _).drew).grown hgrow2 (by have := hb2'.out; simp; omega) (fun q hq => (World.ownsRow.lt HO2.out q hq).1)
            clear hown2 hgrow2
            go_wp2
            go_roundw
            case rel => exact ⟨k + 1, by omega, by go_num, HN.out, hb2⟩
            case measure => simp [intOf]; omega
        · obtain rfl : k = m := by omega
          have HN := hid hown
          have he : ¬ (2 * (k : Int) < (s.size : Int)) := by have := HO.out; omega
          clear hown
          go_wp2
          go_ret3
          exact ⟨_, rfl, HN.out, hbel⟩
/-- The first place that is no digit, or none. -/
theorem scan (s : ByteArray) (n : Nat) : (∃ i, i < n ∧ Good s i ∧ dv ((cs s).getD i 0) < 0) ∨ Good s n := by
  induction n with
  | zero => exact .inr fun i hi => absurd hi (Nat.not_lt_zero i)
  | succ n ih =>
    rcases ih with ⟨i, hi, hg, hb⟩ | hg
    · exact .inl ⟨i, by omega, hg, hb⟩
    · by_cases h : dv ((cs s).getD n 0) < 0
      · exact .inl ⟨n, by omega, hg, h⟩
      · refine .inr fun i hi => ?_
        by_cases hin : i < n
        · exact hg i hin
        · rw [show i = n from by omega]; omega

theorem unh_oct (s : ByteArray) (m : Nat) (hg : Good s s.size) (ho : s.size = 2 * m) : Oct (unh (cs s) m) := by
  intro x hx
  simp only [unh, List.mem_map, List.mem_range] at hx
  obtain ⟨i, hi, rfl⟩ := hx
  have h0 := hg (2 * i) (by omega)
  have h1 := hg (2 * i + 1) (by omega)
  have h2 := dv_lt ((cs s).getD (2 * i) 0)
  have h3 := dv_lt ((cs s).getD (2 * i + 1) 0)
  omega
end Go.Proofs.Ytojbnobpdoigaaa
