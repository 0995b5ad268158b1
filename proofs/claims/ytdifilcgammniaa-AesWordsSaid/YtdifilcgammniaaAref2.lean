/-
  The document's rows moved, and a state's column.
-/
import Derived.Test.YtdifilcgammniaaAref
namespace Go.Proofs.Ytdifilcgammniaa
open Go.RowKit
set_option linter.unusedVariables false
set_option linter.unusedSimpArgs false

/-- Where the byte j comes from when row p moves by f p. -/
def from4 (f : Nat → Nat) (j : Nat) : Nat := 4 * ((j / 4 + f (j % 4)) % 4) + j % 4
/-- The rows ahead of p, and of p the first q. -/
def mvk (x f : Nat → Nat) (p q j : Nat) : Nat := if j % 4 < p ∨ (j % 4 = p ∧ j / 4 < q) then x (from4 f j) else 0
theorem mvk_step (x f : Nat → Nat) (p q j : Nat) (hp : p < 4) : (if j = 4 * q + p then x (4 * ((q + f p) % 4) + p) else mvk x f p q j) = mvk x f p (q + 1) j := by
  unfold mvk
  by_cases h : j = 4 * q + p
  · subst h
    rw [if_pos rfl, if_pos (by right; omega)]
    unfold from4
    rw [show (4 * q + p) / 4 = q from by omega, show (4 * q + p) % 4 = p from by omega]
  · rw [if_neg h]
    by_cases h2 : j % 4 < p ∨ (j % 4 = p ∧ j / 4 < q)
    · rw [if_pos h2, if_pos (by omega)]
    · rw [if_neg h2, if_neg (by omega)]
theorem mvk_next (x f : Nat → Nat) (p j : Nat) (hj : j < 16) : mvk x f p 4 j = mvk x f (p + 1) 0 j := by
  unfold mvk
  by_cases h : j % 4 < p ∨ (j % 4 = p ∧ j / 4 < 4)
  · rw [if_pos h, if_pos (by omega)]
  · rw [if_neg h, if_neg (by omega)]
theorem mvk_full (x f : Nat → Nat) (j : Nat) : mvk x f 4 0 j = x (from4 f j) := by unfold mvk; rw [if_pos (by omega)]
theorem mvk_none (x f : Nat → Nat) (j : Nat) : mvk x f 0 0 j = 0 := by unfold mvk; rw [if_neg (by omega)]

/-- What the loops keep. -/
def Mv (w wr : World) (x f s : Nat → Nat) : Prop := Arr wr w.heap.size 16 x ∧ (∀ p, p < 4 → wr.cell? ⟨w.heap.size + 1, p, none⟩ = some (.int .i64 (f p : Nat))) ∧ Arr wr (w.heap.size + 1 + 1) 16 (fun _ => 0) ∧ Arr wr (w.heap.size + 1 + 1 + 1) 16 s ∧ Below w.heap.size w wr
theorem Mv.same {w wr : World} {x f s s' : Nat → Nat} (h : Mv w wr x f s) (e : ∀ j, j < 16 → s j = s' j) : Mv w wr x f s' := ⟨h.1, h.2.1, h.2.2.1, h.2.2.2.1.same e, h.2.2.2.2⟩
theorem Mv.step {w wr : World} {x f s : Nat → Nat} (h : Mv w wr x f s) (i y : Nat) (hi : i < 16) : Mv w (wr.setCell ⟨w.heap.size + 1 + 1 + 1, i, none⟩ (.int .u8 (y : Nat))) x f (fun j => if j = i then y else s j) :=
  ⟨h.1.beside (by omega) _ _, fun p hp => (World.cell?_setCell_other wr _ _ _ (by intro hh; injection hh with h1 _ _; omega)).trans (h.2.1 p hp), h.2.2.1.beside (by omega) _ _, h.2.2.2.1.set i y hi, h.2.2.2.2.setCell (by simp; omega) _⟩
theorem ints_new (w : World) (f : Nat → Nat) (t : TypeId) : ∀ p, p < 4 → (w.alloc (.cells #[.int .i64 (f 0 : Nat), .int .i64 (f 1 : Nat), .int .i64 (f 2 : Nat), .int .i64 (f 3 : Nat)] t)).cell? ⟨w.heap.size, p, none⟩ = some (.int .i64 (f p : Nat)) := fun p hp => by
  rw [cell_of_row _ _ p _ t (0, 0) (heap_alloc_new w _)]
  rcases (show p = 0 ∨ p = 1 ∨ p = 2 ∨ p = 3 from by omega) with rfl | rfl | rfl | rfl <;> rfl

set_option maxHeartbeats 2000000 in
set_option maxRecDepth 100000 in
theorem refMoved_any (x f : Nat → Nat) (w : World) (hf : ∀ p, f p < 4) :
    Calls Try.prog 42 #[.agg (vals 16 x).toArray, .agg #[.int .i64 (f 0 : Nat), .int .i64 (f 1 : Nat), .int .i64 (f 2 : Nat), .int .i64 (f 3 : Nat)]] w fun e w' =>
      e = .returned (.agg (vals 16 fun j => x (from4 f j)).toArray) ∧ Below w.heap.size w w' := by
  have hzb := Try.zeroBlock
  obtain ⟨wa, hwa, hM⟩ : ∃ wa, Hid (wa = (((w.alloc (.cells (vals 16 x).toArray 35)).alloc (.cells #[.int .i64 (f 0 : Nat), .int .i64 (f 1 : Nat), .int .i64 (f 2 : Nat), .int .i64 (f 3 : Nat)] 63)).alloc (.cells (vals 16 fun _ => 0).toArray 35)).alloc (.cells (vals 16 fun _ => 0).toArray 35)) ∧ Mv w wa x f (mvk x f 0 0) := by
    refine ⟨_, rfl, (((arr_new w 16 x 35).alloc _).alloc _).alloc _, fun p hp => ?_, ?_, ?_, ?_⟩
    · have h := ints_new (w.alloc (.cells (vals 16 x).toArray 35)) f 63 p hp
      have e : (w.alloc (.cells (vals 16 x).toArray 35)).heap.size = w.heap.size + 1 := by simp
      rw [e] at h
      rw [World.cell?_alloc_past _ _ _ (by simp), World.cell?_alloc_past _ _ _ (by simp)]
      exact h
    · have := (arr_new ((w.alloc (.cells (vals 16 x).toArray 35)).alloc (.cells #[.int .i64 (f 0 : Nat), .int .i64 (f 1 : Nat), .int .i64 (f 2 : Nat), .int .i64 (f 3 : Nat)] 63)) 16 (fun _ => 0) 35).alloc (.cells (vals 16 fun _ => 0).toArray 35)
      simpa using this
    · have := arr_new (((w.alloc (.cells (vals 16 x).toArray 35)).alloc (.cells #[.int .i64 (f 0 : Nat), .int .i64 (f 1 : Nat), .int .i64 (f 2 : Nat), .int .i64 (f 3 : Nat)] 63)).alloc (.cells (vals 16 fun _ => 0).toArray 35)) 16 (fun _ => 0) 35
      refine Arr.same (x := fun _ => 0) ?_ fun j _ => (mvk_none x f j).symm
      simpa using this
    · exact ((((Below.refl w.heap.size w).alloc (Nat.le_refl _) _).alloc (by simp) _).alloc (by simp; omega) _).alloc (by simp; omega) _
  have HM := hid hM
  clear hM
  go_enter Try.func42, Try.ntmps42
  go_wp2_with fail
  rw [← hwa.out]
  go_loopw [6] (fun i wr => ∃ p : Nat, p ≤ 4 ∧ i = .int .i64 (p : Int) ∧ Mv w wr x f (mvk x f p 0)) (fun i _ => 4 - (intOf i).toNat)
  case atStart => exact ⟨0, by decide, rfl, HM.out⟩
  case round =>
    clear HM hwa hzb
    obtain ⟨p, hp, rfl, hM⟩ := hrel
    by_cases hlt : p < 4
    · have HM := hid hM
      clear hM
      have hd : decide ((p : Int) < 4) = true := by simp; omega
      go_wp2
      go_loopw [7] (fun i w2 => ∃ q : Nat, q ≤ 4 ∧ i = .int .i64 (q : Int) ∧ Mv w w2 x f (mvk x f p q)) (fun i _ => 4 - (intOf i).toNat)
      case atStart => exact ⟨0, by decide, rfl, HM.out⟩
      case round =>
        clear HM
        obtain ⟨q, hq, rfl, hM⟩ := hrel
        by_cases hlq : q < 4
        · obtain ⟨m, hm, HMm⟩ : ∃ m, m < 4 ∧ Hid (m = (q + f p) % 4) := ⟨_, Nat.mod_lt _ (by decide), rfl⟩
          have hfp := hf p
          have hx := (hM.1 (4 * m + p) (by omega)).1
          have hb := hM.2.1 p hlt
          obtain ⟨ht, hfz⟩ := hM.2.2.2.1 (4 * q + p) (by omega)
          have HS := hid (hM.step (4 * q + p) (x (4 * m + p)) (by omega))
          have pI : (p : Int) < 4 := by omega
          have qI : (q : Int) < 4 := by omega
          have e2 : ((q : Int) + (f p : Int)).tmod 4 = (m : Int) := by rw [Int.tmod_eq_emod_of_nonneg (by omega), HMm.out]; omega
          have e3 : ((q : Int) + (f p : Int)) % 4 = (m : Int) := by rw [HMm.out]; omega
          have e4 : IntKind.i64.wrap ((q : Int) + (f p : Int)) = (q : Int) + (f p : Int) := by simp [IntKind.wrap, IntKind.bits, IntKind.signed]; omega
          have p0 : (0 : Int) ≤ 4 * (m : Int) + (p : Int) := by omega
          have p1 : 4 * (m : Int) + (p : Int) < 16 := by omega
          have t0 : (4 * (m : Int) + (p : Int)).toNat = 4 * m + p := by omega
          have p2 : (0 : Int) ≤ 4 * (q : Int) + (p : Int) := by omega
          have p3 : 4 * (q : Int) + (p : Int) < 16 := by omega
          have t1 : (4 * (q : Int) + (p : Int)).toNat = 4 * q + p := by omega
          clear hM
          go_wp2
          go_roundw
          case rel => exact ⟨q + 1, by omega, by go_num, HS.out.same fun j _ => by rw [HMm.out]; exact mvk_step x f p q j hlt⟩
          case measure => simp [intOf]; omega
        · obtain rfl : q = 4 := by omega
          have HM := hid hM
          clear hM
          go_wp2
          go_roundw
          case rel => exact ⟨p + 1, by omega, by go_num, HM.out.same fun j hj => mvk_next x f p j hj⟩
          case measure => simp [intOf]; omega
    · obtain rfl : p = 4 := by omega
      have hA := hM.2.2.2.1.same fun j _ => mvk_full x f j
      have hZ := hM.2.2.1
      have hB := hM.2.2.2.2
      clear hM
      go_wp2_with (first | (refine wpList_load_arr rfl 35 _ rfl (w.heap.size + 1 + 1 + 1) rfl 16 (fun j => x (from4 f j)) ?_ _ Try.underlying35 rfl Try.sizeBlock ?_; exact hA) | (refine wpList_store_arr rfl 35 _ _ rfl (w.heap.size + 1 + 1) 16 (fun j => x (from4 f j)) rfl rfl (fun _ => 0) ?_ Try.sizeBlock ?_; exact hZ))
      refine bodyPost_ret (v := .agg (vals 16 fun j => x (from4 f j)).toArray) ?_ rfl ⟨rfl, below_setCells _ 0 hB (by omega)⟩
      exact results_cell_arr rfl _ _ 16 _ _ rfl (hZ.put _) Try.underlying35 rfl Try.sizeBlock
end Go.Proofs.Ytdifilcgammniaa
