/-
  DiskPlays: heavy, May, one call.
-/
import Derived.Test.YthnakonndlebbaaDp2
import Derived.Test.YthnakonndlebbaaOrw
namespace Go.Proofs.Ythnakonndlebbaa
open Go.RowKit
set_option linter.unusedVariables false
set_option linter.unusedSimpArgs false

set_option maxRecDepth 100000 in
theorem refMay8_of (n : Int) (w : World) : Calls Try.prog 8 #[.int .i64 n] w fun e w' => e = .returned (.bool (decide (8 ≤ n ∧ n ≤ 4096))) ∧ w = w' := by
  by_cases h1 : 8 ≤ n
  · by_cases h2 : n ≤ 4096
    · rw [decide_eq_true ⟨h1, h2⟩]
      go_enter Try.func8, Try.ntmps8
      go_wp2
      go_ret
      exact ⟨rfl, rfl⟩
    · rw [decide_eq_false (fun h => h2 h.2)]
      go_enter Try.func8, Try.ntmps8
      go_wp2
      go_ret
      exact ⟨rfl, rfl⟩
  · rw [decide_eq_false (fun h => h1 h.1)]
    go_enter Try.func8, Try.ntmps8
    go_wp2
    go_ret
    exact ⟨rfl, rfl⟩

set_option maxHeartbeats 8000000 in
set_option maxRecDepth 100000 in
theorem heavy_of (a : Option Addr) (len cl : Nat) (F0 F1 F2 : Nat → Int) (F3 F4 : Nat → Option Addr × Nat × List Int) (w : World) (hlm : len ≤ maxLen) (hr : Rws w a len [fun i => .int .i64 (F0 i), fun i => .int .i64 (F1 i), fun i => .int .i64 (F2 i), fun i => .slice (F3 i).1 (F3 i).2.2.length (F3 i).2.1, fun i => .slice (F4 i).1 (F4 i).2.2.length (F4 i).2.1])
    (hf3 : ∀ i, i < len → Bin w (F3 i).1 (F3 i).2.2 ∧ Oct (F3 i).2.2 ∧ (F3 i).2.2.length ≤ (F3 i).2.1 ∧ (F3 i).2.2.length ≤ 140737488351232) (hf4 : ∀ i, i < len → Bin w (F4 i).1 (F4 i).2.2 ∧ Oct (F4 i).2.2 ∧ (F4 i).2.2.length ≤ (F4 i).2.1 ∧ (F4 i).2.2.length ≤ 140737488351232) :
    Calls Try.prog 9 #[.slice a len cl] w fun e w' => ∃ b, e = .returned (.bool b) ∧ (b = false → len ≤ 4000) ∧ Below w.heap.size w w' := by
  unfold maxLen at hlm
  have HR := hid hr
  have H3 := hid (fun i hi => (hf3 i hi).2.2)
  have H4 := hid (fun i hi => (hf4 i hi).2.2)
  clear hr hf3 hf4
  go_enter Try.func9, Try.ntmps9
  go_wp2_with fail
  go_loopw [3, 7] (fun s i wr => ∃ k t : Nat, k ≤ len ∧ k ≤ t ∧ t ≤ 4000 ∧ i = .int .i64 (k : Int) ∧ s = .int .i64 (t : Int) ∧ Below w.heap.size w wr) (fun _ i _ => len - (intOf i).toNat)
  case atStart => exact ⟨0, 0, Nat.zero_le _, Nat.le_refl _, by decide, rfl, rfl, Below.refl _ _⟩
  case round =>
    obtain ⟨k, t, hk, hkt, ht, rfl, rfl, hB⟩ := hrel
    have HB := hid hB
    clear hB
    by_cases hkl : k < len
    · have kI : (k : Int) < (len : Int) := by omega
      obtain ⟨b, o, rfl, hbl, hcol⟩ := HR.out.at hkl (Nat.succ_pos _)
      have hc3 : wr.cell? ⟨b, o + k * 5 + 3, none⟩ = some (.slice (F3 k).1 (F3 k).2.2.length (F3 k).2.1) := (HB.out.cell (p := ⟨b, o + k * 5 + 3, none⟩) hbl).trans (hcol 3 _ rfl)
      have hc4 : wr.cell? ⟨b, o + k * 5 + 4, none⟩ = some (.slice (F4 k).1 (F4 k).2.2.length (F4 k).2.1) := (HB.out.cell (p := ⟨b, o + k * 5 + 4, none⟩) hbl).trans (hcol 4 _ rfl)
      clear hcol
      obtain ⟨p3, n3, d3, hf3⟩ : ∃ p n d, Hid (p = (F3 k).1 ∧ n = (F3 k).2.2.length ∧ d = (F3 k).2.1) := ⟨_, _, _, rfl, rfl, rfl⟩
      obtain ⟨p4, n4, d4, hf4⟩ : ∃ p n d, Hid (p = (F4 k).1 ∧ n = (F4 k).2.2.length ∧ d = (F4 k).2.1) := ⟨_, _, _, rfl, rfl, rfl⟩
      rw [← hf3.out.1, ← hf3.out.2.1, ← hf3.out.2.2] at hc3
      rw [← hf4.out.1, ← hf4.out.2.1, ← hf4.out.2.2] at hc4
      have hb3 : n3 ≤ 281474976710656 := by rw [hf3.out.2.1]; have := (H3.out k hkl).2; omega
      have hb4 : n4 ≤ 281474976710656 := by rw [hf4.out.2.1]; have := (H4.out k hkl).2; omega
      obtain ⟨s, hs⟩ : ∃ s, Hid (s = n3 / 64) := ⟨_, rfl⟩
      have t1 : Int.tdiv (n3 : Int) 64 = (s : Int) := by rw [hs.out]; rfl
      have t2 : (n3 : Int) / 64 = (s : Int) := by rw [hs.out]; rfl
      have hs2 : s ≤ 281474976710656 := by have := hs.out; omega
      by_cases hbig : 4000 < t + (1 + s + n4)
      have w1' : IntKind.i64.wrap (1 + (s : Int)) = 1 + (s : Int) := by simp [IntKind.wrap, IntKind.signed, IntKind.bits]; omega
      have w2' : IntKind.i64.wrap (1 + (s : Int) + (n4 : Int)) = 1 + (s : Int) + (n4 : Int) := by simp [IntKind.wrap, IntKind.signed, IntKind.bits]; omega
      have w3' : IntKind.i64.wrap ((t : Int) + (1 + (s : Int) + (n4 : Int))) = (t : Int) + (1 + (s : Int) + (n4 : Int)) := by simp [IntKind.wrap, IntKind.signed, IntKind.bits]; omega
      have i1 : True := trivial
      · have j1 : (4000 : Int) < (t : Int) + (1 + (s : Int) + (n4 : Int)) := by omega
        go_upto_region 5 with fail
        go_quiet (fail)
        rename_i nq
        have HB2 := hid (HB.out.trans ((below_drewN (Below.refl wr.heap.size wr) nq).mono HB.out.size))
        clear hc3 hc4 HB
        go_wp2_with fail
        go_ret
        exact ⟨true, rfl, fun h => (by cases h), HB2.out⟩
      · have j1 : ¬ (4000 : Int) < (t : Int) + (1 + (s : Int) + (n4 : Int)) := by omega
        go_upto_region 5 with fail
        go_quiet (fail)
        rename_i nq
        have HB2 := hid (HB.out.trans ((below_drewN (Below.refl wr.heap.size wr) nq).mono HB.out.size))
        clear hc3 hc4 HB
        go_wp2_with fail
        go_roundw
        case rel => exact ⟨k + 1, t + (1 + s + n4), by omega, by omega, by omega, by go_num, by go_num, HB2.out⟩
        case measure => simp [intOf]; omega
    · obtain rfl : k = len := by omega
      have kI : ¬ (k : Int) < (k : Int) := by omega
      go_wp2_with fail
      go_ret
      exact .inl ⟨rfl, by omega, HB.out⟩

theorem does_of (B g g2 : Nat) (F F2 : Nat → Prop) (S : Dst) (kd i at0 : Int) (p3 : Option Addr) (c3 n3 : Nat) (b3 : List Int) (p4 : Option Addr) (c4 n4 : Nat) (b4 : List Int) (w : World) (hU : Duo B w g g2 F F2 S S) (hBw : B ≤ w.heap.size)
    (hiw : (Lit.int .i64 i).wf = true) (haw : (Lit.int .i64 at0).wf = true) (h3 : Bin w p3 b3) (o3 : Oct b3) (l3 : b3.length = n3) (q3 : n3 ≤ c3) (m3 : n3 ≤ 140737488351232) (e3 : ∀ a, p3 = some a → 0 < n3 → a.block < B) (h4 : Bin w p4 b4) (o4 : Oct b4) (l4 : b4.length = n4) (q4 : n4 ≤ c4) (m4 : n4 ≤ 140737488351232) (e4 : ∀ a, p4 = some a → 0 < n4 → a.block < B) (hs : S.steps < 9223372036854775000) (hw : S.ws.length < 4294967000) :
    Calls Try.prog 13 #[.pointer (some ⟨g, 0, none⟩), .pointer (some ⟨g2, 0, none⟩), .agg #[.int .i64 kd, .int .i64 i, .int .i64 at0, .slice p3 n3 c3, .slice p4 n4 c4]] w (Plays B w g2 S) := by
  by_cases k1 : kd = 1
  · subst k1; exact does_write B g g2 F F2 S i at0 p3 c3 n3 b3 p4 c4 n4 b4 w hU hBw hiw haw h3 o3 l3 q3 m3 e3 h4 o4 l4 q4 m4 e4 hs hw
  by_cases k2 : kd = 2
  · subst k2; exact does_read B g g2 F F2 S i at0 p3 c3 n3 b3 p4 c4 n4 b4 w hU hBw hiw haw h3 o3 l3 q3 m3 e3 h4 o4 l4 q4 m4 e4 hs hw
  by_cases k3 : kd = 3
  · subst k3; exact does_sync B g g2 F F2 S i at0 p3 c3 n3 b3 p4 c4 n4 b4 w hU hBw hiw haw h3 o3 l3 q3 m3 e3 h4 o4 l4 q4 m4 e4 hs hw
  by_cases k4 : kd = 4
  · subst k4; exact does_step B g g2 F F2 S i at0 p3 c3 n3 b3 p4 c4 n4 b4 w hU hBw hiw haw h3 o3 l3 q3 m3 e3 h4 o4 l4 q4 m4 e4 hs hw
  by_cases k5 : kd = 5
  · subst k5; exact does_fail B g g2 F F2 S i at0 p3 c3 n3 b3 p4 c4 n4 b4 w hU hBw hiw haw h3 o3 l3 q3 m3 e3 h4 o4 l4 q4 m4 e4 hs hw
  by_cases k6 : kd = 6
  · subst k6; exact does_cut B g g2 F F2 S i at0 p3 c3 n3 b3 p4 c4 n4 b4 w hU hBw hiw haw h3 o3 l3 q3 m3 e3 h4 o4 l4 q4 m4 e4 hs hw
  by_cases k7 : kd = 7
  · subst k7; exact does_crash B g g2 F F2 S i at0 p3 c3 n3 b3 p4 c4 n4 b4 w hU hBw hiw haw h3 o3 l3 q3 m3 e3 h4 o4 l4 q4 m4 e4 hs hw
  by_cases k8 : kd = 8
  · subst k8; exact does_foreign B g g2 F F2 S i at0 p3 c3 n3 b3 p4 c4 n4 b4 w hU hBw hiw haw h3 o3 l3 q3 m3 e3 h4 o4 l4 q4 m4 e4 hs hw
  by_cases k9 : kd = 9
  · subst k9; exact does_fork B g g2 F F2 S i at0 p3 c3 n3 b3 p4 c4 n4 b4 w hU hBw hiw haw h3 o3 l3 q3 m3 e3 h4 o4 l4 q4 m4 e4 hs hw
  by_cases k10 : kd = 10
  · subst k10; exact does_fill B g g2 F F2 S i at0 p3 c3 n3 b3 p4 c4 n4 b4 w hU hBw hiw haw h3 o3 l3 q3 m3 e3 h4 o4 l4 q4 m4 e4 hs hw
  refine does_else B g g2 F F2 S kd i at0 p3 c3 n3 b3 p4 c4 n4 b4 w hU hBw (fun j h1 h2 e => ?_) hiw haw h3 o3 l3 q3 m3 e3 h4 o4 l4 q4 m4 e4 hs hw
  have : j = 1 ∨ j = 2 ∨ j = 3 ∨ j = 4 ∨ j = 5 ∨ j = 6 ∨ j = 7 ∨ j = 8 ∨ j = 9 ∨ j = 10 := by omega
  rcases this with rfl | rfl | rfl | rfl | rfl | rfl | rfl | rfl | rfl | rfl
  · exact k1 e
  · exact k2 e
  · exact k3 e
  · exact k4 e
  · exact k5 e
  · exact k6 e
  · exact k7 e
  · exact k8 e
  · exact k9 e
  · exact k10 e
end Go.Proofs.Ythnakonndlebbaa
