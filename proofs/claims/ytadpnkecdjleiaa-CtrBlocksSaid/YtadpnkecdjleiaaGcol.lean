/-
  Columns: the contracts of Mix and Unmix, of both.
-/
import Derived.Test.YtadpnkecdjleiaaGrefsub
import Derived.Test.YtadpnkecdjleiaaVals
import Derived.Deep.AppendLies
import Derived.Deep.RegionLaw
import Derived.Deep.QuietTactic
import Derived.BigQuiet
import Derived.BigRegion
namespace Go.Proofs.Ytadpnkecdjleiaa
open Go.RowKit

/-- The first k products of one row, added. -/
def col (f c : Nat → Nat) : Nat → Nat
  | 0 => 0
  | k + 1 => col f c k ^^^ mul (f k) (c k)

/-- The sums as they stand when i rows and k of the next one's products are in. -/
def sums (f : Nat → Nat → Nat) (c : Nat → Nat) (i k t : Nat) : Nat := if t < i then col (f t) c 4 else if t = i then col (f t) c k else 0

/-- What the sums' loop keeps. -/
def Cols (B : Nat) (w wr : World) (f c s : Nat → Nat) : Prop := Arr wr B 4 f ∧ Arr wr (B + 1) 4 c ∧ Arr wr (B + 1 + 1) 4 (fun _ => 0) ∧ Arr wr (B + 1 + 1 + 1) 4 s ∧ Below B w wr

theorem Cols.step {B : Nat} {w wr : World} {f c s : Nat → Nat} (h : Cols B w wr f c s) (i y : Nat) (hi : i < 4) :
    Cols B w (wr.setCell ⟨B + 1 + 1 + 1, i, none⟩ (.int .u8 (y : Nat))).drew f c (fun j => if j = i then y else s j) := by
  obtain ⟨c0, c1, c2, c3, hb⟩ := h
  exact ⟨(c0.beside (by omega) _ _).drew, (c1.beside (by omega) _ _).drew, (c2.beside (by omega) _ _).drew, (c3.set i y hi).drew, (hb.setCell (by simp; omega) _).drew⟩
theorem Cols.same {B : Nat} {w wr : World} {f c s s' : Nat → Nat} (h : Cols B w wr f c s) (e : ∀ j, j < 4 → s j = s' j) : Cols B w wr f c s' :=
  ⟨h.1, h.2.1, h.2.2.1, h.2.2.2.1.same e, h.2.2.2.2⟩

theorem col_lt (f c : Nat → Nat) (hf : ∀ j, f j < 256) (k : Nat) : col f c k < 256 := by
  induction k with
  | zero => show 0 < 256; decide
  | succ k ih => exact xor_lt256 ih (mul_lt _ (hf k))
theorem sums_lt (f : Nat → Nat → Nat) (c : Nat → Nat) (hf : ∀ t j, f t j < 256) (i k t : Nat) : sums f c i k t < 256 := by
  unfold sums
  split
  · exact col_lt _ _ (hf t) 4
  · split
    · exact col_lt _ _ (hf t) k
    · decide
theorem sums_step (f : Nat → Nat → Nat) (c : Nat → Nat) (i k j : Nat) : (if j = i then sums f c i k i ^^^ mul (f i k) (c k) else sums f c i k j) = sums f c i (k + 1) j := by
  unfold sums
  by_cases h : j = i
  · subst h; simp [col]
  · simp [h]
theorem sums_next (f : Nat → Nat → Nat) (c : Nat → Nat) (i j : Nat) : sums f c i 4 j = sums f c (i + 1) 0 j := by
  unfold sums
  by_cases h : j < i
  · rw [if_pos h, if_pos (by omega)]
  · by_cases e : j = i
    · subst e; rw [if_neg h, if_pos rfl, if_pos (by omega)]
    · rw [if_neg h, if_neg e, if_neg (by omega)]
      split <;> rfl
theorem sums_full (f : Nat → Nat → Nat) (c : Nat → Nat) (j : Nat) (hj : j < 4) : sums f c 4 0 j = col (f j) c 4 := by
  unfold sums
  rw [if_pos hj]

theorem pos4 (i k : Nat) (hi : i < 4) (hk : k < 4) : ∃ m : Nat, m < 4 ∧ Hid (m = (k + 4 - i) % 4) ∧ IntKind.i64.wrap ((k : Int) - i) = (k : Int) - i ∧ IntKind.i64.wrap ((k : Int) - i + 4) = (k : Int) - i + 4 ∧ ((k : Int) - i + 4).tmod 4 = (m : Int) := by
  refine ⟨(k + 4 - i) % 4, Nat.mod_lt _ (by decide), rfl, ?_, ?_, ?_⟩
  · simp [IntKind.wrap, IntKind.bits, IntKind.signed]; omega
  · simp [IntKind.wrap, IntKind.bits, IntKind.signed]; omega
  · rw [Int.tmod_eq_emod_of_nonneg (by omega)]; omega

set_option maxHeartbeats 1000000 in
theorem rows_any (f c : Nat → Nat) (w : World) (of : ∀ j, f j < 256) (oc : ∀ j, c j < 256) :
    Calls Try.prog 50 #[.agg (vals 4 f).toArray, .agg (vals 4 c).toArray] w fun e w' =>
      e = .returned (.agg (vals 4 fun t => col (fun k => f ((k + 4 - t) % 4)) c 4).toArray) ∧ Below w.heap.size w w' := by
  obtain ⟨S, HS⟩ : ∃ S, Hid (S = sums (fun t k => f ((k + 4 - t) % 4)) c) := ⟨_, rfl⟩
  go_enter Try.func50, Try.ntmps50
  go_wp2
  go_loopw [6] (fun i wr => ∃ n : Nat, n ≤ 4 ∧ i = .int .i64 (n : Int) ∧ Cols w.heap.size w wr f c (S n 0)) (fun i _ => 4 - (intOf i).toNat)
  case atStart =>
    refine ⟨0, by decide, rfl, ?_⟩
    have z : (vals 4 fun _ => 0).toArray = #[Value.int .u8 0, .int .u8 0, .int .u8 0, .int .u8 0] := rfl
    have a0 := arr_new w 4 f 68
    have a1 := arr_new (w.alloc (.cells (vals 4 f).toArray 68)) 4 c 68
    have a2 := arr_new ((w.alloc (.cells (vals 4 f).toArray 68)).alloc (.cells (vals 4 c).toArray 68)) 4 (fun _ => 0) 68
    have a3 := arr_new (((w.alloc (.cells (vals 4 f).toArray 68)).alloc (.cells (vals 4 c).toArray 68)).alloc (.cells (vals 4 fun _ => 0).toArray 68)) 4 (fun _ => 0) 68
    rw [z] at a2 a3
    simp at a1 a2 a3
    refine ⟨((a0.alloc _).alloc _).alloc _, (a1.alloc _).alloc _, a2.alloc _, a3.same ?_, (((Below.refl _ _).alloc (Nat.le_refl _) _).alloc (by simp) _).alloc (by simp; omega) _ |>.alloc (by simp; omega) _⟩
    intro j hj
    rw [HS.out]
    unfold sums
    simp [col]
  case round =>
    obtain ⟨i, hi, rfl, hcol⟩ := hrel
    by_cases hlt : i < 4
    · have HC0 := hid hcol
      clear hcol
      have hd : decide ((i : Int) < 4) = true := by simp; omega
      go_wp2
      go_loopw [7] (fun k w2 => ∃ n : Nat, n ≤ 4 ∧ k = .int .i64 (n : Int) ∧ Cols w.heap.size w w2 f c (S i n)) (fun k _ => 4 - (intOf k).toNat)
      case atStart => exact ⟨0, by decide, rfl, HC0.out⟩
      case round =>
        obtain ⟨k, hk, rfl, hcol⟩ := hrel
        clear HC0
        by_cases hlt2 : k < 4
        · obtain ⟨m, hm, HM, e1, e2, e3⟩ := pos4 i k hlt hlt2
          have h0 := (hcol.1 m hm).1
          have h1 := (hcol.2.1 k hlt2).1
          have h3 := (hcol.2.2.2.1 i hlt).1
          have h4 := (hcol.2.2.2.1 i hlt).2
          have hmI : (m : Int) < 4 := by omega
          have hiI : (i : Int) < 4 := by omega
          have C := hid hcol
          clear hcol
          go_wp2
          go_region_law (first | (go_simp; go_at_call 55; refine (refMul_any _ _ _ (of _) (oc _)).mono ?_; rintro e w' ⟨rfl, rfl⟩))
          all_goals
            go_wp2
            go_roundw
            case rel =>
              refine ⟨k + 1, by omega, by go_num, ?_⟩
              have hl : S i k i < 256 := by rw [HS.out]; exact sums_lt _ _ (fun t j => of _) i k i
              have h := C.out.step i (S i k i ^^^ mul (f m) (c k)) hlt
              rw [← xor_nat hl (mul_lt _ (of m))] at h
              refine h.same fun j _ => ?_
              rw [HM.out, HS.out]
              exact sums_step _ c i k j
            case measure => simp [intOf]; omega
        · obtain rfl : k = 4 := by omega
          have C := hid hcol
          clear hcol
          go_wp2
          go_roundw
          case rel =>
            refine ⟨i + 1, by omega, by go_num, ?_⟩
            exact C.out.same fun j _ => by rw [HS.out]; exact sums_next _ c i j
          case measure => simp [intOf]; omega
    · obtain rfl : i = 4 := by omega
      have h0 := (hcol.2.2.2.1 0 (by decide)).1
      have h1 := (hcol.2.2.2.1 1 (by decide)).1
      have h2 := (hcol.2.2.2.1 2 (by decide)).1
      have h3 := (hcol.2.2.2.1 3 (by decide)).1
      have hb := hcol.2.2.2.2
      obtain ⟨r0, f0⟩ := hcol.2.2.1 0 (by decide)
      obtain ⟨r1, f1⟩ := hcol.2.2.1 1 (by decide)
      obtain ⟨r2, f2⟩ := hcol.2.2.1 2 (by decide)
      obtain ⟨r3, f3⟩ := hcol.2.2.1 3 (by decide)
      have HP := hid (hcol.2.2.1.put4 (S 4 0))
      have HB := hid (Below.put4 hb (b := w.heap.size + 1 + 1) (by omega) (S 4 0))
      clear hcol hb
      go_wp2
      have hp := HP.out
      have hbl := HB.out
      clear HP HB r0 r1 r2 r3 f0 f1 f2 f3 h0 h1 h2 h3
      unfold put4 at hp hbl
      generalize (((wr.setCell ⟨w.heap.size + 1 + 1, 0, none⟩ (.int .u8 (S 4 0 0 : Nat))).setCell ⟨w.heap.size + 1 + 1, 1, none⟩ (.int .u8 (S 4 0 1 : Nat))).setCell ⟨w.heap.size + 1 + 1, 2, none⟩ (.int .u8 (S 4 0 2 : Nat))).setCell ⟨w.heap.size + 1 + 1, 3, none⟩ (.int .u8 (S 4 0 3 : Nat)) = w9 at hp hbl ⊢
      have q0 := (hp 0 (by decide)).1
      have q1 := (hp 1 (by decide)).1
      have q2 := (hp 2 (by decide)).1
      have q3 := (hp 3 (by decide)).1
      refine bodyPost_ret (v := .agg (vals 4 (S 4 0)).toArray) ?_ rfl ⟨?_, hbl⟩
      · simp [results, Try.results50, go_sem, q0, q1, q2, q3]
        rfl
      · rw [show vals 4 (S 4 0) = vals 4 (fun t => col (fun k => f ((k + 4 - t) % 4)) c 4) from vals_same fun j hj => by rw [HS.out]; exact sums_full (fun t k => f ((k + 4 - t) % 4)) c j hj]
end Go.Proofs.Ytadpnkecdjleiaa
