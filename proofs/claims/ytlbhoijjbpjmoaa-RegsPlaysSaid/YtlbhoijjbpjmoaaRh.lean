/-
  heavy of law09.
-/
import Derived.Test.YtlbhoijjbpjmoaaRgn
import Derived.Test.YtlbhoijjbpjmoaaOrw
namespace Go.Proofs.Ytlbhoijjbpjmoaa
open Go.RowKit
set_option linter.unusedVariables false
set_option linter.unusedSimpArgs false

set_option maxHeartbeats 16000000 in
set_option maxRecDepth 100000 in
theorem heavy9_of (d : Option Addr) (n cn : Nat) (Fr : Nat → Option Addr × Nat × List Int) (a : Option Addr) (len cl : Nat) (F0 F1 F2 F3 F4 F5 : Nat → Int) (F6 F7 : Nat → Option Addr × Nat × List Int) (w : World) (hn : n ≤ 9223372036854775807) (hin : Ins w d n Fr) (hlm : len ≤ maxLen) (hr : Rws w a len [fun i => .int .i64 (F0 i), fun i => .int .u64 (F1 i), fun i => .int .i64 (F2 i), fun i => .int .i64 (F3 i), fun i => .int .i64 (F4 i), fun i => .int .i64 (F5 i), fun i => .slice (F6 i).1 (F6 i).2.2.length (F6 i).2.1, fun i => .slice (F7 i).1 (F7 i).2.2.length (F7 i).2.1])
    (hf6 : ∀ i, i < len → Bin w (F6 i).1 (F6 i).2.2 ∧ Oct (F6 i).2.2 ∧ (F6 i).2.2.length ≤ (F6 i).2.1 ∧ (F6 i).2.2.length ≤ 140737488351232) (hf7 : ∀ i, i < len → Bin w (F7 i).1 (F7 i).2.2 ∧ Oct (F7 i).2.2 ∧ (F7 i).2.2.length ≤ (F7 i).2.1 ∧ (F7 i).2.2.length ≤ 140737488351232) :
    Calls Try.prog 7 #[.slice d n cn, .slice a len cl] w fun e w' => ∃ b, e = .returned (.bool b) ∧ (b = false → n ≤ 1000 ∧ len ≤ 4000) ∧ Below w.heap.size w w' := by
  unfold maxLen at hlm
  have HI := hid hin
  have HR := hid hr
  have H6 := hid (fun i hi => (hf6 i hi).2.2)
  have H7 := hid (fun i hi => (hf7 i hi).2.2)
  clear hr hf6 hf7 hin
  go_enter Try.func7, Try.ntmps7
  go_wp2_with fail
  go_loopw [5, 10] (fun s i wr => ∃ k t : Nat, k ≤ n ∧ k ≤ t ∧ t ≤ 1000 ∧ i = .int .i64 (k : Int) ∧ s = .int .i64 (t : Int) ∧ Below w.heap.size w wr) (fun _ i _ => n - (intOf i).toNat)
  case atStart => exact ⟨0, 0, Nat.zero_le _, Nat.le_refl _, by decide, rfl, rfl, Below.refl _ _⟩
  case round =>
    obtain ⟨k, t, hk, hkt, ht, rfl, rfl, hB⟩ := hrel
    have HB := hid hB
    clear hB
    by_cases hkl : k < n
    · have kI : (k : Int) < (n : Int) := by omega
      have hi2 := HI.out.below HB.out
      obtain ⟨b, o, rfl, hca⟩ := hi2.1 (by omega)
      have hck := hca k hkl
      have hlk := (hi2.2 k hkl).2.2.2
      obtain ⟨p3, n3, d3, hf3⟩ : ∃ p n d, Hid (p = (Fr k).1 ∧ n = (Fr k).2.2.length ∧ d = (Fr k).2.1) := ⟨_, _, _, rfl, rfl, rfl⟩
      rw [← hf3.out.1, ← hf3.out.2.1, ← hf3.out.2.2] at hck
      rw [← hf3.out.2.1] at hlk
      clear hca hi2
      obtain ⟨s, hs⟩ : ∃ s, Hid (s = n3 / 64) := ⟨_, rfl⟩
      have t1 : Int.tdiv (n3 : Int) 64 = (s : Int) := by rw [hs.out]; rfl
      have t2 : (n3 : Int) / 64 = (s : Int) := by rw [hs.out]; rfl
      have hs2 : s ≤ 281474976710656 := by have := hs.out; omega
      have w1' : IntKind.i64.wrap (1 + (s : Int)) = 1 + (s : Int) := by simp [IntKind.wrap, IntKind.signed, IntKind.bits]; omega
      have w3' : IntKind.i64.wrap ((t : Int) + (1 + (s : Int))) = (t : Int) + (1 + (s : Int)) := by simp [IntKind.wrap, IntKind.signed, IntKind.bits]; omega
      by_cases hbig : 1000 < t + (1 + s)
      · have j1 : (1000 : Int) < (t : Int) + (1 + (s : Int)) := by omega
        go_wp2_with fail
        go_ret
        exact ⟨true, rfl, fun h => (by cases h), HB.out⟩
      · have j1 : ¬ (1000 : Int) < (t : Int) + (1 + (s : Int)) := by omega
        go_wp2_with fail
        go_roundw
        case rel => exact ⟨k + 1, t + (1 + s), by omega, by omega, by omega, by go_num, by go_num, HB.out⟩
        case measure => simp [intOf]; omega
    · obtain rfl : k = n := by omega
      have kI : ¬ (k : Int) < (k : Int) := by omega
      go_wp2_with fail
      go_loopw [5, 27] (fun s i wr => ∃ q u : Nat, q ≤ len ∧ q ≤ u ∧ u ≤ 4000 ∧ i = .int .i64 (q : Int) ∧ s = .int .i64 (u : Int) ∧ Below w.heap.size w wr) (fun _ i _ => len - (intOf i).toNat)
      case atStart => exact ⟨0, t, Nat.zero_le _, Nat.zero_le _, by omega, rfl, rfl, HB.out⟩
      case round =>
        clear HB
        obtain ⟨q, u, hq, hqu, hu, rfl, rfl, hB⟩ := hrel
        have HB := hid hB
        clear hB
        by_cases hql : q < len
        · have qI : (q : Int) < (len : Int) := by omega
          obtain ⟨b, o, rfl, hbl, hcol⟩ := HR.out.at hql (Nat.succ_pos _)
          have hc6 : wr.cell? ⟨b, o + q * 8 + 6, none⟩ = some (.slice (F6 q).1 (F6 q).2.2.length (F6 q).2.1) := (HB.out.cell (p := ⟨b, o + q * 8 + 6, none⟩) hbl).trans (hcol 6 _ rfl)
          have hc7 : wr.cell? ⟨b, o + q * 8 + 7, none⟩ = some (.slice (F7 q).1 (F7 q).2.2.length (F7 q).2.1) := (HB.out.cell (p := ⟨b, o + q * 8 + 7, none⟩) hbl).trans (hcol 7 _ rfl)
          clear hcol
          obtain ⟨p3, n3, d3, hf3⟩ : ∃ p n d, Hid (p = (F6 q).1 ∧ n = (F6 q).2.2.length ∧ d = (F6 q).2.1) := ⟨_, _, _, rfl, rfl, rfl⟩
          obtain ⟨p4, n4, d4, hf4⟩ : ∃ p n d, Hid (p = (F7 q).1 ∧ n = (F7 q).2.2.length ∧ d = (F7 q).2.1) := ⟨_, _, _, rfl, rfl, rfl⟩
          rw [← hf3.out.1, ← hf3.out.2.1, ← hf3.out.2.2] at hc6
          rw [← hf4.out.1, ← hf4.out.2.1, ← hf4.out.2.2] at hc7
          have hb3 : n3 ≤ 281474976710656 := by rw [hf3.out.2.1]; have := (H6.out q hql).2; omega
          have hb4 : n4 ≤ 281474976710656 := by rw [hf4.out.2.1]; have := (H7.out q hql).2; omega
          obtain ⟨s, hs⟩ : ∃ s, Hid (s = n3 / 64) := ⟨_, rfl⟩
          have t1 : Int.tdiv (n3 : Int) 64 = (s : Int) := by rw [hs.out]; rfl
          have t2 : (n3 : Int) / 64 = (s : Int) := by rw [hs.out]; rfl
          have hs2 : s ≤ 281474976710656 := by have := hs.out; omega
          have w1' : IntKind.i64.wrap (1 + (s : Int)) = 1 + (s : Int) := by simp [IntKind.wrap, IntKind.signed, IntKind.bits]; omega
          have w2' : IntKind.i64.wrap (1 + (s : Int) + (n4 : Int)) = 1 + (s : Int) + (n4 : Int) := by simp [IntKind.wrap, IntKind.signed, IntKind.bits]; omega
          have w3' : IntKind.i64.wrap ((u : Int) + (1 + (s : Int) + (n4 : Int))) = (u : Int) + (1 + (s : Int) + (n4 : Int)) := by simp [IntKind.wrap, IntKind.signed, IntKind.bits]; omega
          by_cases hbig : 4000 < u + (1 + s + n4)
          · have j1 : (4000 : Int) < (u : Int) + (1 + (s : Int) + (n4 : Int)) := by omega
            go_upto_region 12 with fail
            go_quiet (fail)
            rename_i nq
            have HB2 := hid (HB.out.trans ((below_drewN (Below.refl wr.heap.size wr) nq).mono HB.out.size))
            clear hc6 hc7 HB
            go_wp2_with fail
            go_ret
            exact ⟨true, rfl, fun h => (by cases h), HB2.out⟩
          · have j1 : ¬ (4000 : Int) < (u : Int) + (1 + (s : Int) + (n4 : Int)) := by omega
            go_upto_region 12 with fail
            go_quiet (fail)
            rename_i nq
            have HB2 := hid (HB.out.trans ((below_drewN (Below.refl wr.heap.size wr) nq).mono HB.out.size))
            clear hc6 hc7 HB
            go_wp2_with fail
            go_roundw
            case rel => exact ⟨q + 1, u + (1 + s + n4), by omega, by omega, by omega, by go_num, by go_num, HB2.out⟩
            case measure => simp [intOf]; omega
        · obtain rfl : q = len := by omega
          have qI : ¬ (q : Int) < (q : Int) := by omega
          go_wp2_with fail
          go_ret
          exact .inl ⟨rfl, by omega, HB.out⟩
end Go.Proofs.Ytlbhoijjbpjmoaa
