/-
  Aref, Aref2, Acol, in one text.
-/
import Derived.Test.YtgnhbfjngdgibaaKd
import Derived.Test.YtgnhbfjngdgibaaKb
import Derived.Test.YtgnhbfjngdgibaaKa
/-
  The document's May, and its small steps on a state: a round's key added, rows moved, a column.
-/
namespace Go.Proofs.Ytgnhbfjngdgibaa
open Go.RowKit
set_option linter.unusedVariables false
set_option linter.unusedSimpArgs false

/-- May a key be? -/
def mayB (n : Nat) : Bool := decide (n = 16 ∨ n = 32)
set_option maxRecDepth 100000 in
theorem may_any (p : Option Addr) (c n : Nat) (w : World) :
    Calls Try.prog 34 #[.slice p n c] w fun e w' => e = .returned (.bool (mayB n)) ∧ w = w' := by
  by_cases h1 : n = 16
  · subst h1
    go_enter Try.func34, Try.ntmps34
    go_wp2
    go_ret
    exact ⟨rfl, rfl⟩
  · by_cases h2 : n = 32
    · subst h2
      go_enter Try.func34, Try.ntmps34
      go_wp2
      go_ret
      exact ⟨rfl, rfl⟩
    · have e1 : ((n : Int) == 16) = false := by rw [beq_eq_false_iff_ne]; omega
      have e2 : ((n : Int) == 32) = false := by rw [beq_eq_false_iff_ne]; omega
      have e3 : mayB n = false := by simp [mayB, h1, h2]
      go_enter Try.func34, Try.ntmps34
      go_wp2
      go_ret
      exact ⟨by rw [e3]; rfl, rfl⟩

set_option maxHeartbeats 1000000 in
set_option maxRecDepth 100000 in
theorem refAdd_any (x F : Nat → Nat) (b n cap j : Nat) (w : World) (ox : ∀ j, x j < 256) (oF : ∀ j, F j < 256) (hF : ∀ i, i < n → w.cell? ⟨b, i, none⟩ = some (.int .u8 (F i : Nat))) (hj : 16 * j + 16 ≤ n) (hn : n ≤ 1000) :
    Calls Try.prog 61 #[.agg (vals 16 x).toArray, .slice (some ⟨b, 0, none⟩) n cap, .int .i64 j] w fun e w' =>
      e = .returned (.agg (vals 16 (addK F j x)).toArray) ∧ Below w.heap.size w w' := by
  have hzb := Try.zeroBlock
  have hbl : b < w.heap.size := World.block_lt_of_cell? w _ (hF 0 (by omega))
  obtain ⟨wa, hwa, b1, b2, hB, _⟩ := boxes2 w 16 x (fun _ => 0) 44 44
  have HF := hid hF
  clear hF
  go_enter Try.func61, Try.ntmps61
  go_wp2_with fail
  rw [← hwa.out]
  go_loopw [7] (fun i wr => ∃ k : Nat, k ≤ 16 ∧ i = .int .i64 (k : Int) ∧ Two w.heap.size w wr 16 w.heap.size (mixk (addK F j x) x k) (w.heap.size + 1)) (fun i _ => 16 - (intOf i).toNat)
  case atStart => exact ⟨0, by decide, rfl, b1.same fun t _ => (mixk_zero (addK F j x) x t).symm, b2, hB⟩
  case round =>
    clear b1 b2 hB hwa hzb
    obtain ⟨k, hk, rfl, h1, h2, hb⟩ := hrel
    by_cases hlt : k < 16
    · obtain ⟨hc, hf⟩ := h1 k hlt
      rw [mixk_at _ _ _ _ (Nat.le_refl _)] at hc
      have hw := (hb.cell (p := ⟨b, 16 * j + k, none⟩) hbl).trans (HF.out (16 * j + k) (by omega))
      have HS := hid (h1.set k (x k ^^^ F (16 * j + k)) hlt)
      have H2 := hid h2
      have HX := hid (xor_nat (ox k) (oF (16 * j + k)))
      have p0 : (0 : Int) ≤ 16 * (j : Int) + (k : Int) := by omega
      have p1 : 16 * (j : Int) + (k : Int) < (n : Int) := by omega
      have t0 : (16 * (j : Int) + (k : Int)).toNat = 16 * j + k := by omega
      have kI : (k : Int) < 16 := by omega
      clear h1 h2
      go_wp2
      go_region
      go_wp2
      go_roundw
      case rel =>
        refine ⟨k + 1, by omega, by go_num, ?_, ?_, (hb.drew).setCell (by simp) _⟩
        · rw [HX.out]
          exact HS.out.drew.same fun t _ => mixk_step (addK F j x) _ k t
        · exact (H2.out.beside (by omega) _ _).drew
      case measure => simp [intOf]; omega
    · obtain rfl : k = 16 := by omega
      have h3 := h2.put (mixk (addK F j x) x 16)
      go_wp2_with (first | (refine wpList_load_arr rfl 44 _ rfl _ rfl 16 _ h1 _ Try.underlying44 rfl Try.sizeBlock ?_) | (refine wpList_store_arr rfl 44 _ _ rfl _ 16 _ rfl rfl _ h2 Try.sizeBlock ?_))
      refine bodyPost_ret (v := .agg (vals 16 (addK F j x)).toArray) ?_ rfl ⟨rfl, below_setCells _ 0 hb (by omega)⟩
      have h4 := h3.same fun t ht => mixk_full _ _ 16 t ht
      exact results_cell_arr rfl _ _ 16 _ _ rfl h4 Try.underlying44 rfl Try.sizeBlock
end Go.Proofs.Ytgnhbfjngdgibaa

/-
  The document's rows moved, and a state's column.
-/
namespace Go.Proofs.Ytgnhbfjngdgibaa
open Go.RowKit
set_option linter.unusedVariables false
set_option linter.unusedSimpArgs false

/-- Where the byte j comes from when row p moves by f p. -/
def from4 (f : Nat → Nat) (j : Nat) : Nat := 4 * ((j / 4 + f (j % 4)) % 4) + j % 4
/-- The rows ahead of p, and of p the first q. -/
def mvk (x f : Nat → Nat) (p q j : Nat) : Nat := if j % 4 < p ∨ (j % 4 = p ∧ j / 4 < q) then x (from4 f j) else 0
theorem mvk_step (x f : Nat → Nat) (p q j : Nat) (hp : p < 4) : (if j = 4 * q + p then x (4 * ((q + f p) % 4) + p) else mvk x f p q j) = mvk x f p (q + 1) j := by
  unfold mvk
  by_cases h : j = 4 * q + p
  · subst h
    rw [if_pos rfl, if_pos (by right; omega)]
    unfold from4
    rw [show (4 * q + p) / 4 = q from by omega, show (4 * q + p) % 4 = p from by omega]
  · rw [if_neg h]
    by_cases h2 : j % 4 < p ∨ (j % 4 = p ∧ j / 4 < q)
    · rw [if_pos h2, if_pos (by omega)]
    · rw [if_neg h2, if_neg (by omega)]
theorem mvk_next (x f : Nat → Nat) (p j : Nat) (hj : j < 16) : mvk x f p 4 j = mvk x f (p + 1) 0 j := by
  unfold mvk
  by_cases h : j % 4 < p ∨ (j % 4 = p ∧ j / 4 < 4)
  · rw [if_pos h, if_pos (by omega)]
  · rw [if_neg h, if_neg (by omega)]
theorem mvk_full (x f : Nat → Nat) (j : Nat) : mvk x f 4 0 j = x (from4 f j) := by unfold mvk; rw [if_pos (by omega)]
theorem mvk_none (x f : Nat → Nat) (j : Nat) : mvk x f 0 0 j = 0 := by unfold mvk; rw [if_neg (by omega)]

/-- What the loops keep. -/
def Mv (w wr : World) (x f s : Nat → Nat) : Prop := Arr wr w.heap.size 16 x ∧ (∀ p, p < 4 → wr.cell? ⟨w.heap.size + 1, p, none⟩ = some (.int .i64 (f p : Nat))) ∧ Arr wr (w.heap.size + 1 + 1) 16 (fun _ => 0) ∧ Arr wr (w.heap.size + 1 + 1 + 1) 16 s ∧ Below w.heap.size w wr
theorem Mv.same {w wr : World} {x f s s' : Nat → Nat} (h : Mv w wr x f s) (e : ∀ j, j < 16 → s j = s' j) : Mv w wr x f s' := ⟨h.1, h.2.1, h.2.2.1, h.2.2.2.1.same e, h.2.2.2.2⟩
theorem Mv.step {w wr : World} {x f s : Nat → Nat} (h : Mv w wr x f s) (i y : Nat) (hi : i < 16) : Mv w (wr.setCell ⟨w.heap.size + 1 + 1 + 1, i, none⟩ (.int .u8 (y : Nat))) x f (fun j => if j = i then y else s j) :=
  ⟨h.1.beside (by omega) _ _, fun p hp => (World.cell?_setCell_other wr _ _ _ (by intro hh; injection hh with h1 _ _; omega)).trans (h.2.1 p hp), h.2.2.1.beside (by omega) _ _, h.2.2.2.1.set i y hi, h.2.2.2.2.setCell (by simp; omega) _⟩
theorem ints_new (w : World) (f : Nat → Nat) (t : TypeId) : ∀ p, p < 4 → (w.alloc (.cells #[.int .i64 (f 0 : Nat), .int .i64 (f 1 : Nat), .int .i64 (f 2 : Nat), .int .i64 (f 3 : Nat)] t)).cell? ⟨w.heap.size, p, none⟩ = some (.int .i64 (f p : Nat)) := fun p hp => by
  rw [cell_of_row _ _ p _ t (0, 0) (heap_alloc_new w _)]
  rcases (show p = 0 ∨ p = 1 ∨ p = 2 ∨ p = 3 from by omega) with rfl | rfl | rfl | rfl <;> rfl

set_option maxHeartbeats 2000000 in
set_option maxRecDepth 100000 in
theorem refMoved_any (x f : Nat → Nat) (w : World) (hf : ∀ p, f p < 4) :
    Calls Try.prog 63 #[.agg (vals 16 x).toArray, .agg #[.int .i64 (f 0 : Nat), .int .i64 (f 1 : Nat), .int .i64 (f 2 : Nat), .int .i64 (f 3 : Nat)]] w fun e w' =>
      e = .returned (.agg (vals 16 fun j => x (from4 f j)).toArray) ∧ Below w.heap.size w w' := by
  have hzb := Try.zeroBlock
  obtain ⟨wa, hwa, hM⟩ : ∃ wa, Hid (wa = (((w.alloc (.cells (vals 16 x).toArray 44)).alloc (.cells #[.int .i64 (f 0 : Nat), .int .i64 (f 1 : Nat), .int .i64 (f 2 : Nat), .int .i64 (f 3 : Nat)] 88)).alloc (.cells (vals 16 fun _ => 0).toArray 44)).alloc (.cells (vals 16 fun _ => 0).toArray 44)) ∧ Mv w wa x f (mvk x f 0 0) := by
    refine ⟨_, rfl, (((arr_new w 16 x 44).alloc _).alloc _).alloc _, fun p hp => ?_, ?_, ?_, ?_⟩
    · have h := ints_new (w.alloc (.cells (vals 16 x).toArray 44)) f 88 p hp
      have e : (w.alloc (.cells (vals 16 x).toArray 44)).heap.size = w.heap.size + 1 := by simp
      rw [e] at h
      rw [World.cell?_alloc_past _ _ _ (by simp), World.cell?_alloc_past _ _ _ (by simp)]
      exact h
    · have := (arr_new ((w.alloc (.cells (vals 16 x).toArray 44)).alloc (.cells #[.int .i64 (f 0 : Nat), .int .i64 (f 1 : Nat), .int .i64 (f 2 : Nat), .int .i64 (f 3 : Nat)] 88)) 16 (fun _ => 0) 44).alloc (.cells (vals 16 fun _ => 0).toArray 44)
      simpa using this
    · have := arr_new (((w.alloc (.cells (vals 16 x).toArray 44)).alloc (.cells #[.int .i64 (f 0 : Nat), .int .i64 (f 1 : Nat), .int .i64 (f 2 : Nat), .int .i64 (f 3 : Nat)] 88)).alloc (.cells (vals 16 fun _ => 0).toArray 44)) 16 (fun _ => 0) 44
      refine Arr.same (x := fun _ => 0) ?_ fun j _ => (mvk_none x f j).symm
      simpa using this
    · exact ((((Below.refl w.heap.size w).alloc (Nat.le_refl _) _).alloc (by simp) _).alloc (by simp; omega) _).alloc (by simp; omega) _
  have HM := hid hM
  clear hM
  go_enter Try.func63, Try.ntmps63
  go_wp2_with fail
  rw [← hwa.out]
  go_loopw [6] (fun i wr => ∃ p : Nat, p ≤ 4 ∧ i = .int .i64 (p : Int) ∧ Mv w wr x f (mvk x f p 0)) (fun i _ => 4 - (intOf i).toNat)
  case atStart => exact ⟨0, by decide, rfl, HM.out⟩
  case round =>
    clear HM hwa hzb
    obtain ⟨p, hp, rfl, hM⟩ := hrel
    by_cases hlt : p < 4
    · have HM := hid hM
      clear hM
      have hd : decide ((p : Int) < 4) = true := by simp; omega
      go_wp2
      go_loopw [7] (fun i w2 => ∃ q : Nat, q ≤ 4 ∧ i = .int .i64 (q : Int) ∧ Mv w w2 x f (mvk x f p q)) (fun i _ => 4 - (intOf i).toNat)
      case atStart => exact ⟨0, by decide, rfl, HM.out⟩
      case round =>
        clear HM
        obtain ⟨q, hq, rfl, hM⟩ := hrel
        by_cases hlq : q < 4
        · obtain ⟨m, hm, HMm⟩ : ∃ m, m < 4 ∧ Hid (m = (q + f p) % 4) := ⟨_, Nat.mod_lt _ (by decide), rfl⟩
          have hfp := hf p
          have hx := (hM.1 (4 * m + p) (by omega)).1
          have hb := hM.2.1 p hlt
          obtain ⟨ht, hfz⟩ := hM.2.2.2.1 (4 * q + p) (by omega)
          have HS := hid (hM.step (4 * q + p) (x (4 * m + p)) (by omega))
          have pI : (p : Int) < 4 := by omega
          have qI : (q : Int) < 4 := by omega
          have e2 : ((q : Int) + (f p : Int)).tmod 4 = (m : Int) := by rw [Int.tmod_eq_emod_of_nonneg (by omega), HMm.out]; omega
          have e3 : ((q : Int) + (f p : Int)) % 4 = (m : Int) := by rw [HMm.out]; omega
          have e4 : IntKind.i64.wrap ((q : Int) + (f p : Int)) = (q : Int) + (f p : Int) := by simp [IntKind.wrap, IntKind.bits, IntKind.signed]; omega
          have p0 : (0 : Int) ≤ 4 * (m : Int) + (p : Int) := by omega
          have p1 : 4 * (m : Int) + (p : Int) < 16 := by omega
          have t0 : (4 * (m : Int) + (p : Int)).toNat = 4 * m + p := by omega
          have p2 : (0 : Int) ≤ 4 * (q : Int) + (p : Int) := by omega
          have p3 : 4 * (q : Int) + (p : Int) < 16 := by omega
          have t1 : (4 * (q : Int) + (p : Int)).toNat = 4 * q + p := by omega
          clear hM
          go_wp2
          go_roundw
          case rel => exact ⟨q + 1, by omega, by go_num, HS.out.same fun j _ => by rw [HMm.out]; exact mvk_step x f p q j hlt⟩
          case measure => simp [intOf]; omega
        · obtain rfl : q = 4 := by omega
          have HM := hid hM
          clear hM
          go_wp2
          go_roundw
          case rel => exact ⟨p + 1, by omega, by go_num, HM.out.same fun j hj => mvk_next x f p j hj⟩
          case measure => simp [intOf]; omega
    · obtain rfl : p = 4 := by omega
      have hA := hM.2.2.2.1.same fun j _ => mvk_full x f j
      have hZ := hM.2.2.1
      have hB := hM.2.2.2.2
      clear hM
      go_wp2_with (first | (refine wpList_load_arr rfl 44 _ rfl (w.heap.size + 1 + 1 + 1) rfl 16 (fun j => x (from4 f j)) ?_ _ Try.underlying44 rfl Try.sizeBlock ?_; exact hA) | (refine wpList_store_arr rfl 44 _ _ rfl (w.heap.size + 1 + 1) 16 (fun j => x (from4 f j)) rfl rfl (fun _ => 0) ?_ Try.sizeBlock ?_; exact hZ))
      refine bodyPost_ret (v := .agg (vals 16 fun j => x (from4 f j)).toArray) ?_ rfl ⟨rfl, below_setCells _ 0 hB (by omega)⟩
      exact results_cell_arr rfl _ _ 16 _ _ rfl (hZ.put _) Try.underlying44 rfl Try.sizeBlock
end Go.Proofs.Ytgnhbfjngdgibaa

/-
  The document's column of a state.
-/
namespace Go.Proofs.Ytgnhbfjngdgibaa
open Go.RowKit
set_option linter.unusedVariables false
set_option linter.unusedSimpArgs false

set_option maxHeartbeats 2000000 in
set_option maxRecDepth 100000 in
theorem refColumn_any (x : Nat → Nat) (q : Nat) (w : World) (hq : q < 4) :
    Calls Try.prog 65 #[.agg (vals 16 x).toArray, .int .i64 q] w fun e w' =>
      e = .returned (.agg (vals 4 fun p => x (4 * q + p)).toArray) ∧ Below w.heap.size w w' := by
  have hzw := Try.zeroWord
  obtain ⟨wa, hwa, b1, b2, hB⟩ : ∃ wa, Hid (wa = (w.alloc (.cells (vals 16 x).toArray 44)).alloc (.cells (vals 4 fun _ => 0).toArray 76)) ∧ Arr wa w.heap.size 16 x ∧ Arr wa (w.heap.size + 1) 4 (fun _ => 0) ∧ Below w.heap.size w wa := by
    refine ⟨_, rfl, (arr_new w 16 x 44).alloc _, ?_, ((Below.refl w.heap.size w).alloc (Nat.le_refl _) _).alloc (by simp) _⟩
    have := arr_new (w.alloc (.cells (vals 16 x).toArray 44)) 4 (fun _ => 0) 76
    simpa using this
  have p1 : (0 : Int) ≤ 4 * (q : Int) + 1 := by omega
  have l1 : 4 * (q : Int) + 1 < 16 := by omega
  have t1 : (4 * (q : Int) + 1).toNat = 4 * q + 1 := by omega
  have p2 : (0 : Int) ≤ 4 * (q : Int) + 2 := by omega
  have l2 : 4 * (q : Int) + 2 < 16 := by omega
  have t2 : (4 * (q : Int) + 2).toNat = 4 * q + 2 := by omega
  have p3 : (0 : Int) ≤ 4 * (q : Int) + 3 := by omega
  have l3 : 4 * (q : Int) + 3 < 16 := by omega
  have t3 : (4 * (q : Int) + 3).toNat = 4 * q + 3 := by omega
  have p0 : (0 : Int) ≤ 4 * (q : Int) := by omega
  have l0 : 4 * (q : Int) < 16 := by omega
  have t0 : (4 * (q : Int)).toNat = 4 * q := by omega
  have v0 : IntKind.i64.wrap (4 * (q : Int)) = 4 * (q : Int) := by simp [IntKind.wrap, IntKind.bits, IntKind.signed]; omega
  have v1 : IntKind.i64.wrap (4 * (q : Int) + 1) = 4 * (q : Int) + 1 := by simp [IntKind.wrap, IntKind.bits, IntKind.signed]; omega
  have v2 : IntKind.i64.wrap (4 * (q : Int) + 2) = 4 * (q : Int) + 2 := by simp [IntKind.wrap, IntKind.bits, IntKind.signed]; omega
  have v3 : IntKind.i64.wrap (4 * (q : Int) + 3) = 4 * (q : Int) + 3 := by simp [IntKind.wrap, IntKind.bits, IntKind.signed]; omega
  go_enter Try.func65, Try.ntmps65
  go_wp2_with fail
  rw [← hwa.out]
  have c0 := (b1 (4 * q) (by omega)).1
  have c1 := (b1 (4 * q + 1) (by omega)).1
  have c2 := (b1 (4 * q + 2) (by omega)).1
  have c3 := (b1 (4 * q + 3) (by omega)).1
  obtain ⟨r0, f0⟩ := b2 0 (by decide)
  obtain ⟨r1, f1⟩ := b2 1 (by decide)
  obtain ⟨r2, f2⟩ := b2 2 (by decide)
  obtain ⟨r3, f3⟩ := b2 3 (by decide)
  have HP := hid (b2.put4 (fun p => x (4 * q + p)))
  have HB := hid (Below.put4 hB (b := w.heap.size + 1) (by omega) (fun p => x (4 * q + p)))
  clear b1 b2 hB hwa hzw
  go_region
  all_goals
    go_wp2_with fail
    have h4 := HP.out.drew
    have hbb := HB.out.drew
    unfold put4 at h4 hbb
    refine bodyPost_ret (v := .agg (vals 4 fun p => x (4 * q + p)).toArray) ?_ rfl ⟨rfl, hbb⟩
    exact results_cell_arr rfl _ _ 4 _ _ rfl h4 Try.underlying76 rfl Try.sizeWord
end Go.Proofs.Ytgnhbfjngdgibaa
