/-
  Gcol, Gprod, Gmix, Ginvert, in one text.
-/
import Derived.Test.YtgnhbfjngdgibaaKb
import Derived.Test.YtgnhbfjngdgibaaKa
import Derived.Deep.AppendLies
import Derived.Deep.RegionLaw
import Derived.Deep.QuietTactic
import Derived.BigQuiet
import Derived.BigRegion
/-
  Columns: the contracts of Mix and Unmix, of both.
-/
namespace Go.Proofs.Ytgnhbfjngdgibaa
open Go.RowKit

/-- The first k products of one row, added. -/
def col (f c : Nat → Nat) : Nat → Nat
  | 0 => 0
  | k + 1 => col f c k ^^^ mul (f k) (c k)

/-- The sums as they stand when i rows and k of the next one's products are in. -/
def sums (f : Nat → Nat → Nat) (c : Nat → Nat) (i k t : Nat) : Nat := if t < i then col (f t) c 4 else if t = i then col (f t) c k else 0

/-- What the sums' loop keeps. -/
def Cols (B : Nat) (w wr : World) (f c s : Nat → Nat) : Prop := Arr wr B 4 f ∧ Arr wr (B + 1) 4 c ∧ Arr wr (B + 1 + 1) 4 (fun _ => 0) ∧ Arr wr (B + 1 + 1 + 1) 4 s ∧ Below B w wr

theorem Cols.step {B : Nat} {w wr : World} {f c s : Nat → Nat} (h : Cols B w wr f c s) (i y : Nat) (hi : i < 4) :
    Cols B w (wr.setCell ⟨B + 1 + 1 + 1, i, none⟩ (.int .u8 (y : Nat))).drew f c (fun j => if j = i then y else s j) := by
  obtain ⟨c0, c1, c2, c3, hb⟩ := h
  exact ⟨(c0.beside (by omega) _ _).drew, (c1.beside (by omega) _ _).drew, (c2.beside (by omega) _ _).drew, (c3.set i y hi).drew, (hb.setCell (by simp; omega) _).drew⟩
theorem Cols.same {B : Nat} {w wr : World} {f c s s' : Nat → Nat} (h : Cols B w wr f c s) (e : ∀ j, j < 4 → s j = s' j) : Cols B w wr f c s' :=
  ⟨h.1, h.2.1, h.2.2.1, h.2.2.2.1.same e, h.2.2.2.2⟩

theorem col_lt (f c : Nat → Nat) (hf : ∀ j, f j < 256) (k : Nat) : col f c k < 256 := by
  induction k with
  | zero => show 0 < 256; decide
  | succ k ih => exact xor_lt256 ih (mul_lt _ (hf k))
theorem sums_lt (f : Nat → Nat → Nat) (c : Nat → Nat) (hf : ∀ t j, f t j < 256) (i k t : Nat) : sums f c i k t < 256 := by
  unfold sums
  split
  · exact col_lt _ _ (hf t) 4
  · split
    · exact col_lt _ _ (hf t) k
    · decide
theorem sums_step (f : Nat → Nat → Nat) (c : Nat → Nat) (i k j : Nat) : (if j = i then sums f c i k i ^^^ mul (f i k) (c k) else sums f c i k j) = sums f c i (k + 1) j := by
  unfold sums
  by_cases h : j = i
  · subst h; simp [col]
  · simp [h]
theorem sums_next (f : Nat → Nat → Nat) (c : Nat → Nat) (i j : Nat) : sums f c i 4 j = sums f c (i + 1) 0 j := by
  unfold sums
  by_cases h : j < i
  · rw [if_pos h, if_pos (by omega)]
  · by_cases e : j = i
    · subst e; rw [if_neg h, if_pos rfl, if_pos (by omega)]
    · rw [if_neg h, if_neg e, if_neg (by omega)]
      split <;> rfl
theorem sums_full (f : Nat → Nat → Nat) (c : Nat → Nat) (j : Nat) (hj : j < 4) : sums f c 4 0 j = col (f j) c 4 := by
  unfold sums
  rw [if_pos hj]

theorem pos4 (i k : Nat) (hi : i < 4) (hk : k < 4) : ∃ m : Nat, m < 4 ∧ Hid (m = (k + 4 - i) % 4) ∧ IntKind.i64.wrap ((k : Int) - i) = (k : Int) - i ∧ IntKind.i64.wrap ((k : Int) - i + 4) = (k : Int) - i + 4 ∧ ((k : Int) - i + 4).tmod 4 = (m : Int) := by
  refine ⟨(k + 4 - i) % 4, Nat.mod_lt _ (by decide), rfl, ?_, ?_, ?_⟩
  · simp [IntKind.wrap, IntKind.bits, IntKind.signed]; omega
  · simp [IntKind.wrap, IntKind.bits, IntKind.signed]; omega
  · rw [Int.tmod_eq_emod_of_nonneg (by omega)]; omega

set_option maxHeartbeats 1000000 in
set_option maxRecDepth 100000 in
theorem rows_any (f c : Nat → Nat) (w : World) (of : ∀ j, f j < 256) (oc : ∀ j, c j < 256) :
    Calls Try.prog 78 #[.agg (vals 4 f).toArray, .agg (vals 4 c).toArray] w fun e w' =>
      e = .returned (.agg (vals 4 fun t => col (fun k => f ((k + 4 - t) % 4)) c 4).toArray) ∧ Below w.heap.size w w' := by
  obtain ⟨S, HS⟩ : ∃ S, Hid (S = sums (fun t k => f ((k + 4 - t) % 4)) c) := ⟨_, rfl⟩
  go_enter Try.func78, Try.ntmps78
  go_wp2
  go_loopw [6] (fun i wr => ∃ n : Nat, n ≤ 4 ∧ i = .int .i64 (n : Int) ∧ Cols w.heap.size w wr f c (S n 0)) (fun i _ => 4 - (intOf i).toNat)
  case atStart =>
    refine ⟨0, by decide, rfl, ?_⟩
    have z : (vals 4 fun _ => 0).toArray = #[Value.int .u8 0, .int .u8 0, .int .u8 0, .int .u8 0] := rfl
    have a0 := arr_new w 4 f 76
    have a1 := arr_new (w.alloc (.cells (vals 4 f).toArray 76)) 4 c 76
    have a2 := arr_new ((w.alloc (.cells (vals 4 f).toArray 76)).alloc (.cells (vals 4 c).toArray 76)) 4 (fun _ => 0) 76
    have a3 := arr_new (((w.alloc (.cells (vals 4 f).toArray 76)).alloc (.cells (vals 4 c).toArray 76)).alloc (.cells (vals 4 fun _ => 0).toArray 76)) 4 (fun _ => 0) 76
    rw [z] at a2 a3
    simp at a1 a2 a3
    refine ⟨((a0.alloc _).alloc _).alloc _, (a1.alloc _).alloc _, a2.alloc _, a3.same ?_, (((Below.refl _ _).alloc (Nat.le_refl _) _).alloc (by simp) _).alloc (by simp; omega) _ |>.alloc (by simp; omega) _⟩
    intro j hj
    rw [HS.out]
    unfold sums
    simp [col]
  case round =>
    obtain ⟨i, hi, rfl, hcol⟩ := hrel
    by_cases hlt : i < 4
    · have HC0 := hid hcol
      clear hcol
      have hd : decide ((i : Int) < 4) = true := by simp; omega
      go_wp2
      go_loopw [7] (fun k w2 => ∃ n : Nat, n ≤ 4 ∧ k = .int .i64 (n : Int) ∧ Cols w.heap.size w w2 f c (S i n)) (fun k _ => 4 - (intOf k).toNat)
      case atStart => exact ⟨0, by decide, rfl, HC0.out⟩
      case round =>
        obtain ⟨k, hk, rfl, hcol⟩ := hrel
        clear HC0
        by_cases hlt2 : k < 4
        · obtain ⟨m, hm, HM, e1, e2, e3⟩ := pos4 i k hlt hlt2
          have h0 := (hcol.1 m hm).1
          have h1 := (hcol.2.1 k hlt2).1
          have h3 := (hcol.2.2.2.1 i hlt).1
          have h4 := (hcol.2.2.2.1 i hlt).2
          have hmI : (m : Int) < 4 := by omega
          have hiI : (i : Int) < 4 := by omega
          have C := hid hcol
          clear hcol
          go_wp2
          go_region_law (first | (go_simp; go_at_call 84; refine (refMul_any _ _ _ (of _) (oc _)).mono ?_; rintro e w' ⟨rfl, rfl⟩))
          all_goals
            go_wp2
            go_roundw
            case rel =>
              refine ⟨k + 1, by omega, by go_num, ?_⟩
              have hl : S i k i < 256 := by rw [HS.out]; exact sums_lt _ _ (fun t j => of _) i k i
              have h := C.out.step i (S i k i ^^^ mul (f m) (c k)) hlt
              rw [← xor_nat hl (mul_lt _ (of m))] at h
              refine h.same fun j _ => ?_
              rw [HM.out, HS.out]
              exact sums_step _ c i k j
            case measure => simp [intOf]; omega
        · obtain rfl : k = 4 := by omega
          have C := hid hcol
          clear hcol
          go_wp2
          go_roundw
          case rel =>
            refine ⟨i + 1, by omega, by go_num, ?_⟩
            exact C.out.same fun j _ => by rw [HS.out]; exact sums_next _ c i j
          case measure => simp [intOf]; omega
    · obtain rfl : i = 4 := by omega
      have h0 := (hcol.2.2.2.1 0 (by decide)).1
      have h1 := (hcol.2.2.2.1 1 (by decide)).1
      have h2 := (hcol.2.2.2.1 2 (by decide)).1
      have h3 := (hcol.2.2.2.1 3 (by decide)).1
      have hb := hcol.2.2.2.2
      obtain ⟨r0, f0⟩ := hcol.2.2.1 0 (by decide)
      obtain ⟨r1, f1⟩ := hcol.2.2.1 1 (by decide)
      obtain ⟨r2, f2⟩ := hcol.2.2.1 2 (by decide)
      obtain ⟨r3, f3⟩ := hcol.2.2.1 3 (by decide)
      have HP := hid (hcol.2.2.1.put4 (S 4 0))
      have HB := hid (Below.put4 hb (b := w.heap.size + 1 + 1) (by omega) (S 4 0))
      clear hcol hb
      go_wp2
      have hp := HP.out
      have hbl := HB.out
      clear HP HB r0 r1 r2 r3 f0 f1 f2 f3 h0 h1 h2 h3
      unfold put4 at hp hbl
      generalize (((wr.setCell ⟨w.heap.size + 1 + 1, 0, none⟩ (.int .u8 (S 4 0 0 : Nat))).setCell ⟨w.heap.size + 1 + 1, 1, none⟩ (.int .u8 (S 4 0 1 : Nat))).setCell ⟨w.heap.size + 1 + 1, 2, none⟩ (.int .u8 (S 4 0 2 : Nat))).setCell ⟨w.heap.size + 1 + 1, 3, none⟩ (.int .u8 (S 4 0 3 : Nat)) = w9 at hp hbl ⊢
      have q0 := (hp 0 (by decide)).1
      have q1 := (hp 1 (by decide)).1
      have q2 := (hp 2 (by decide)).1
      have q3 := (hp 3 (by decide)).1
      refine bodyPost_ret (v := .agg (vals 4 (S 4 0)).toArray) ?_ rfl ⟨?_, hbl⟩
      · simp [results, Try.results78, go_sem, q0, q1, q2, q3]
        rfl
      · rw [show vals 4 (S 4 0) = vals 4 (fun t => col (fun k => f ((k + 4 - t) % 4)) c 4) from vals_same fun j hj => by rw [HS.out]; exact sums_full (fun t k => f ((k + 4 - t) % 4)) c j hj]
end Go.Proofs.Ytgnhbfjngdgibaa

/-
  The contracts of the program's sums of products, and of Mix and Unmix, of both.
-/
namespace Go.Proofs.Ytgnhbfjngdgibaa
open Go.RowKit

set_option linter.unusedVariables false

theorem row_of (r : Nat → Nat) (i : Nat) (hi : i < 4) (w : World) :
    (Instr.index 101 (.agg (vals 16 r).toArray) (.int .i64 (i : Int))).run Try.prog w = .ok (.agg (vals 4 fun j => r (4 * i + j)).toArray) w := by
  rcases (show i = 0 ∨ i = 1 ∨ i = 2 ∨ i = 3 from by omega) with rfl | rfl | rfl | rfl
  all_goals kernel_rfl
theorem one_of (r : Nat → Nat) (i : Nat) (hi : i < 4) (w : World) :
    (Instr.index 76 (.agg (vals 4 r).toArray) (.int .i64 (i : Int))).run Try.prog w = .ok (.int .u8 (r i : Nat)) w := by
  rcases (show i = 0 ∨ i = 1 ∨ i = 2 ∨ i = 3 from by omega) with rfl | rfl | rfl | rfl
  all_goals kernel_rfl

/-- What the loop over the rows keeps. -/
def Prods (B : Nat) (w wr : World) (c s : Nat → Nat) : Prop := Arr wr (B + 1) 4 c ∧ Arr wr (B + 1 + 1) 4 (fun _ => 0) ∧ Arr wr (B + 1 + 1 + 1) 4 s ∧ Below B w wr
theorem Prods.step {B : Nat} {w wr : World} {c s : Nat → Nat} (h : Prods B w wr c s) (i y : Nat) (hi : i < 4) :
    Prods B w (wr.setCell ⟨B + 1 + 1 + 1, i, none⟩ (.int .u8 (y : Nat))).drew c (fun j => if j = i then y else s j) := by
  obtain ⟨c1, c2, c3, hb⟩ := h
  exact ⟨(c1.beside (by omega) _ _).drew, (c2.beside (by omega) _ _).drew, (c3.set i y hi).drew, (hb.setCell (by simp; omega) _).drew⟩
theorem Prods.same {B : Nat} {w wr : World} {c s s' : Nat → Nat} (h : Prods B w wr c s) (e : ∀ j, j < 4 → s j = s' j) : Prods B w wr c s' :=
  ⟨h.1, h.2.1, h.2.2.1.same e, h.2.2.2⟩
theorem Prods.alloc {B : Nat} {w wr : World} {c s : Nat → Nat} (h : Prods B w wr c s) (o : Obj) : Prods B w (wr.alloc o) c s :=
  ⟨h.1.alloc _, h.2.1.alloc _, h.2.2.1.alloc _, h.2.2.2.alloc (Nat.le_of_lt (Nat.lt_trans (by omega) (h.1.lt (by decide)))) _⟩

set_option maxRecDepth 100000 in
set_option maxHeartbeats 1000000 in
theorem products_any (r c : Nat → Nat) (w : World) (of : ∀ j, r j < 256) (oc : ∀ j, c j < 256) :
    Calls Try.prog 82 #[.agg (vals 16 r).toArray, .agg (vals 4 c).toArray] w fun e w' =>
      e = .returned (.agg (vals 4 fun t => col (fun k => r (4 * t + k)) c 4).toArray) ∧ Below w.heap.size w w' := by
  obtain ⟨S, HS⟩ : ∃ S, Hid (S = sums (fun t k => r (4 * t + k)) c) := ⟨_, rfl⟩
  have g0 : (vals 16 r)[0]? = some (.int .u8 (r 0 : Nat)) := rfl
  have g1 : (vals 16 r)[1]? = some (.int .u8 (r 1 : Nat)) := rfl
  have g2 : (vals 16 r)[2]? = some (.int .u8 (r 2 : Nat)) := rfl
  have g3 : (vals 16 r)[3]? = some (.int .u8 (r 3 : Nat)) := rfl
  have g4 : (vals 16 r)[4]? = some (.int .u8 (r 4 : Nat)) := rfl
  have g5 : (vals 16 r)[5]? = some (.int .u8 (r 5 : Nat)) := rfl
  have g6 : (vals 16 r)[6]? = some (.int .u8 (r 6 : Nat)) := rfl
  have g7 : (vals 16 r)[7]? = some (.int .u8 (r 7 : Nat)) := rfl
  have g8 : (vals 16 r)[8]? = some (.int .u8 (r 8 : Nat)) := rfl
  have g9 : (vals 16 r)[9]? = some (.int .u8 (r 9 : Nat)) := rfl
  have g10 : (vals 16 r)[10]? = some (.int .u8 (r 10 : Nat)) := rfl
  have g11 : (vals 16 r)[11]? = some (.int .u8 (r 11 : Nat)) := rfl
  have g12 : (vals 16 r)[12]? = some (.int .u8 (r 12 : Nat)) := rfl
  have g13 : (vals 16 r)[13]? = some (.int .u8 (r 13 : Nat)) := rfl
  have g14 : (vals 16 r)[14]? = some (.int .u8 (r 14 : Nat)) := rfl
  have g15 : (vals 16 r)[15]? = some (.int .u8 (r 15 : Nat)) := rfl
  go_enter Try.func82, Try.ntmps82
  go_wp2
  clear g0 g1 g2 g3 g4 g5 g6 g7 g8 g9 g10 g11 g12 g13 g14 g15
  go_loopw [11] (fun i wr => ∃ n : Nat, n ≤ 4 ∧ i = .int .i64 (n : Int) ∧ Prods w.heap.size w wr c (S n 0)) (fun i _ => 4 - (intOf i).toNat)
  case atStart =>
    refine ⟨0, by decide, rfl, ?_⟩
    have z : (vals 4 fun _ => 0).toArray = #[Value.int .u8 0, .int .u8 0, .int .u8 0, .int .u8 0] := rfl
    have a1 := arr_new (w.alloc (.cells (vals 16 r).toArray 101)) 4 c 76
    have a2 := arr_new ((w.alloc (.cells (vals 16 r).toArray 101)).alloc (.cells (vals 4 c).toArray 76)) 4 (fun _ => 0) 76
    have a3 := arr_new (((w.alloc (.cells (vals 16 r).toArray 101)).alloc (.cells (vals 4 c).toArray 76)).alloc (.cells (vals 4 fun _ => 0).toArray 76)) 4 (fun _ => 0) 76
    rw [z] at a2 a3
    simp at a1 a2 a3
    refine ⟨(a1.alloc _).alloc _, a2.alloc _, a3.same ?_, (((Below.refl _ _).alloc (Nat.le_refl _) _).alloc (by simp) _).alloc (by simp; omega) _ |>.alloc (by simp; omega) _⟩
    intro j hj
    rw [HS.out]
    unfold sums
    simp [col]
  case round =>
    obtain ⟨i, hi, rfl, hcol⟩ := hrel
    by_cases hlt : i < 4
    · have HC0 := hid hcol
      clear hcol
      have hd : decide ((i : Int) < 4) = true := by simp; omega
      have hrow : ∀ w : World, (Instr.index 101 (.agg #[.int .u8 (r 0 : Nat), .int .u8 (r 1 : Nat), .int .u8 (r 2 : Nat), .int .u8 (r 3 : Nat), .int .u8 (r 4 : Nat), .int .u8 (r 5 : Nat), .int .u8 (r 6 : Nat), .int .u8 (r 7 : Nat), .int .u8 (r 8 : Nat), .int .u8 (r 9 : Nat), .int .u8 (r 10 : Nat), .int .u8 (r 11 : Nat), .int .u8 (r 12 : Nat), .int .u8 (r 13 : Nat), .int .u8 (r 14 : Nat), .int .u8 (r 15 : Nat)]) (.int .i64 (i : Int))).run Try.prog w = .ok (.agg #[.int .u8 (r (4 * i) : Nat), .int .u8 (r (4 * i + 1) : Nat), .int .u8 (r (4 * i + 2) : Nat), .int .u8 (r (4 * i + 3) : Nat)]) w := row_of r i hlt
      go_wp2
      go_loopw [16] (fun k w2 => ∃ n : Nat, n ≤ 4 ∧ k = .int .i64 (n : Int) ∧ Prods w.heap.size w w2 c (S i n)) (fun k _ => 4 - (intOf k).toNat)
      case atStart => exact ⟨0, by decide, rfl, HC0.out.alloc _⟩
      case round =>
        obtain ⟨k, hk, rfl, hcol⟩ := hrel
        clear HC0 hrow
        by_cases hlt2 : k < 4
        · have hone : ∀ w : World, (Instr.index 76 (.agg #[.int .u8 (r (4 * i) : Nat), .int .u8 (r (4 * i + 1) : Nat), .int .u8 (r (4 * i + 2) : Nat), .int .u8 (r (4 * i + 3) : Nat)]) (.int .i64 (k : Int))).run Try.prog w = .ok (.int .u8 (r (4 * i + k) : Nat)) w := one_of (fun j => r (4 * i + j)) k hlt2
          have h1 := (hcol.1 k hlt2).1
          have h3 := (hcol.2.2.1 i hlt).1
          have h4 := (hcol.2.2.1 i hlt).2
          have hiI : (i : Int) < 4 := by omega
          have hkI : (k : Int) < 4 := by omega
          have C := hid hcol
          clear hcol
          go_wp2
          go_region_law (first | (go_simp; go_at_call 85; refine (mul_any _ _ _ (oc _) (of _)).mono ?_; rintro e w' ⟨rfl, rfl⟩))
          all_goals
            go_wp2
            go_roundw
            case rel =>
              refine ⟨k + 1, by omega, by go_num, ?_⟩
              have hl : S i k i < 256 := by rw [HS.out]; exact sums_lt _ _ (fun t j => of _) i k i
              have h := C.out.step i (S i k i ^^^ mul (c k) (r (4 * i + k))) hlt
              rw [← xor_nat hl (mul_lt _ (oc k))] at h
              refine h.same fun j _ => ?_
              rw [HS.out, mul_comm (oc k) (of _)]
              exact sums_step _ c i k j
            case measure => simp [intOf]; omega
        · obtain rfl : k = 4 := by omega
          have C := hid hcol
          clear hcol
          go_wp2
          go_roundw
          case rel =>
            refine ⟨i + 1, by omega, by go_num, ?_⟩
            exact C.out.same fun j _ => by rw [HS.out]; exact sums_next _ c i j
          case measure => simp [intOf]; omega
    · obtain rfl : i = 4 := by omega
      have h0 := (hcol.2.2.1 0 (by decide)).1
      have h1 := (hcol.2.2.1 1 (by decide)).1
      have h2 := (hcol.2.2.1 2 (by decide)).1
      have h3 := (hcol.2.2.1 3 (by decide)).1
      have hb := hcol.2.2.2
      obtain ⟨r0, f0⟩ := hcol.2.1 0 (by decide)
      obtain ⟨r1, f1⟩ := hcol.2.1 1 (by decide)
      obtain ⟨r2, f2⟩ := hcol.2.1 2 (by decide)
      obtain ⟨r3, f3⟩ := hcol.2.1 3 (by decide)
      have HP := hid (hcol.2.1.put4 (S 4 0))
      have HB := hid (Below.put4 hb (b := w.heap.size + 1 + 1) (by omega) (S 4 0))
      clear hcol hb
      go_wp2
      have hp := HP.out
      have hbl := HB.out
      clear HP HB r0 r1 r2 r3 f0 f1 f2 f3 h0 h1 h2 h3
      unfold put4 at hp hbl
      generalize (((wr.setCell ⟨w.heap.size + 1 + 1, 0, none⟩ (.int .u8 (S 4 0 0 : Nat))).setCell ⟨w.heap.size + 1 + 1, 1, none⟩ (.int .u8 (S 4 0 1 : Nat))).setCell ⟨w.heap.size + 1 + 1, 2, none⟩ (.int .u8 (S 4 0 2 : Nat))).setCell ⟨w.heap.size + 1 + 1, 3, none⟩ (.int .u8 (S 4 0 3 : Nat)) = w9 at hp hbl ⊢
      have q0 := (hp 0 (by decide)).1
      have q1 := (hp 1 (by decide)).1
      have q2 := (hp 2 (by decide)).1
      have q3 := (hp 3 (by decide)).1
      refine bodyPost_ret (v := .agg (vals 4 (S 4 0)).toArray) ?_ rfl ⟨?_, hbl⟩
      · simp [results, Try.results82, go_sem, q0, q1, q2, q3]
        rfl
      · rw [show vals 4 (S 4 0) = vals 4 (fun t => col (fun k => r (4 * t + k)) c 4) from vals_same fun j hj => by rw [HS.out]; exact sums_full (fun t k => r (4 * t + k)) c j hj]
end Go.Proofs.Ytgnhbfjngdgibaa

/-
  The contracts of Mix and Unmix, of both.
-/
namespace Go.Proofs.Ytgnhbfjngdgibaa
open Go.RowKit
set_option linter.unusedVariables false

theorem col_same {f g c : Nat → Nat} (k : Nat) (h : ∀ j, j < k → f j = g j) : col f c k = col g c k := by
  induction k with
  | zero => rfl
  | succ k ih =>
    show col f c k ^^^ mul (f k) (c k) = col g c k ^^^ mul (g k) (c k)
    rw [ih fun j hj => h j (by omega), h k (by omega)]

/-- The first row of the mixing, and of the unmixing. -/
def mixRow (j : Nat) : Nat := [2, 3, 1, 1].getD j 0
def unRow (j : Nat) : Nat := [14, 11, 13, 9].getD j 0
def mixRows (j : Nat) : Nat := [2, 3, 1, 1, 1, 2, 3, 1, 1, 1, 2, 3, 3, 1, 1, 2].getD j 0
def unRows (j : Nat) : Nat := [14, 11, 13, 9, 9, 14, 11, 13, 13, 9, 14, 11, 11, 13, 9, 14].getD j 0

/-- The column mixed, unmixed. -/
def mix (c : Nat → Nat) (t : Nat) : Nat := col (fun k => mixRow ((k + 4 - t) % 4)) c 4
def unmix (c : Nat → Nat) (t : Nat) : Nat := col (fun k => unRow ((k + 4 - t) % 4)) c 4

theorem mixRows_eq : ∀ t, t < 4 → ∀ k, k < 4 → mixRows (4 * t + k) = mixRow ((k + 4 - t) % 4) := by decide
theorem unRows_eq : ∀ t, t < 4 → ∀ k, k < 4 → unRows (4 * t + k) = unRow ((k + 4 - t) % 4) := by decide

theorem getD_lt {l : List Nat} (h : ∀ x ∈ l, x < 256) (j : Nat) : l.getD j 0 < 256 := by
  rw [List.getD_eq_getElem?_getD]
  by_cases hj : j < l.length
  · rw [List.getElem?_eq_getElem hj]; exact h _ (List.getElem_mem hj)
  · rw [List.getElem?_eq_none (by omega)]; decide
theorem mixRow_lt (j : Nat) : mixRow j < 256 := getD_lt (by decide) j
theorem unRow_lt (j : Nat) : unRow j < 256 := getD_lt (by decide) j
theorem mixRows_lt (j : Nat) : mixRows j < 256 := getD_lt (by decide) j
theorem unRows_lt (j : Nat) : unRows j < 256 := getD_lt (by decide) j

theorem products_mix (c : Nat → Nat) (w : World) (oc : ∀ j, c j < 256) :
    Calls Try.prog 82 #[.agg #[.int .u8 2, .int .u8 3, .int .u8 1, .int .u8 1, .int .u8 1, .int .u8 2, .int .u8 3, .int .u8 1, .int .u8 1, .int .u8 1, .int .u8 2, .int .u8 3, .int .u8 3, .int .u8 1, .int .u8 1, .int .u8 2],
      .agg #[.int .u8 (c 0 : Nat), .int .u8 (c 1 : Nat), .int .u8 (c 2 : Nat), .int .u8 (c 3 : Nat)]] w fun e w' =>
      e = .returned (.agg #[.int .u8 (mix c 0 : Nat), .int .u8 (mix c 1 : Nat), .int .u8 (mix c 2 : Nat), .int .u8 (mix c 3 : Nat)]) ∧ Below w.heap.size w w' := by
  have h := products_any mixRows c w mixRows_lt oc
  rw [show vals 4 (fun t => col (fun k => mixRows (4 * t + k)) c 4) = vals 4 (mix c) from vals_same fun t ht => col_same 4 fun k hk => mixRows_eq t ht k hk] at h
  exact h

theorem products_unmix (c : Nat → Nat) (w : World) (oc : ∀ j, c j < 256) :
    Calls Try.prog 82 #[.agg #[.int .u8 14, .int .u8 11, .int .u8 13, .int .u8 9, .int .u8 9, .int .u8 14, .int .u8 11, .int .u8 13, .int .u8 13, .int .u8 9, .int .u8 14, .int .u8 11, .int .u8 11, .int .u8 13, .int .u8 9, .int .u8 14],
      .agg #[.int .u8 (c 0 : Nat), .int .u8 (c 1 : Nat), .int .u8 (c 2 : Nat), .int .u8 (c 3 : Nat)]] w fun e w' =>
      e = .returned (.agg #[.int .u8 (unmix c 0 : Nat), .int .u8 (unmix c 1 : Nat), .int .u8 (unmix c 2 : Nat), .int .u8 (unmix c 3 : Nat)]) ∧ Below w.heap.size w w' := by
  have h := products_any unRows c w unRows_lt oc
  rw [show vals 4 (fun t => col (fun k => unRows (4 * t + k)) c 4) = vals 4 (unmix c) from vals_same fun t ht => col_same 4 fun k hk => unRows_eq t ht k hk] at h
  exact h

theorem rows_mix (c : Nat → Nat) (w : World) (oc : ∀ j, c j < 256) :
    Calls Try.prog 78 #[.agg #[.int .u8 2, .int .u8 3, .int .u8 1, .int .u8 1], .agg #[.int .u8 (c 0 : Nat), .int .u8 (c 1 : Nat), .int .u8 (c 2 : Nat), .int .u8 (c 3 : Nat)]] w fun e w' =>
      e = .returned (.agg #[.int .u8 (mix c 0 : Nat), .int .u8 (mix c 1 : Nat), .int .u8 (mix c 2 : Nat), .int .u8 (mix c 3 : Nat)]) ∧ Below w.heap.size w w' :=
  rows_any mixRow c w mixRow_lt oc
theorem rows_unmix (c : Nat → Nat) (w : World) (oc : ∀ j, c j < 256) :
    Calls Try.prog 78 #[.agg #[.int .u8 14, .int .u8 11, .int .u8 13, .int .u8 9], .agg #[.int .u8 (c 0 : Nat), .int .u8 (c 1 : Nat), .int .u8 (c 2 : Nat), .int .u8 (c 3 : Nat)]] w fun e w' =>
      e = .returned (.agg #[.int .u8 (unmix c 0 : Nat), .int .u8 (unmix c 1 : Nat), .int .u8 (unmix c 2 : Nat), .int .u8 (unmix c 3 : Nat)]) ∧ Below w.heap.size w w' :=
  rows_any unRow c w unRow_lt oc

set_option maxHeartbeats 1000000 in
set_option maxRecDepth 100000 in
theorem mix_any (c : Nat → Nat) (w : World) (oc : ∀ j, c j < 256) :
    Calls Try.prog 73 #[.agg #[.int .u8 (c 0 : Nat), .int .u8 (c 1 : Nat), .int .u8 (c 2 : Nat), .int .u8 (c 3 : Nat)]] w fun e w' =>
      e = .returned (.agg #[.int .u8 (mix c 0 : Nat), .int .u8 (mix c 1 : Nat), .int .u8 (mix c 2 : Nat), .int .u8 (mix c 3 : Nat)]) ∧ Below w.heap.size w w' := by
  go_enter Try.func73, Try.ntmps73
  go_wp2_with fail
  refine (products_mix c _ oc).mono ?_
  rintro e w2 ⟨rfl, hb⟩
  have ha : Arr w2 (w.heap.size + 1) 4 (fun _ => 0) := by
    have h := arr_new (w.alloc (.cells #[.int .u8 (c 0 : Nat), .int .u8 (c 1 : Nat), .int .u8 (c 2 : Nat), .int .u8 (c 3 : Nat)] 76)) 4 (fun _ => 0) 76
    have h' := h.below hb
    simpa using h'
  have hbw : Below w.heap.size w w2 := (((Below.refl _ _).alloc (Nat.le_refl _) _).alloc (by simp) _).trans (hb.mono (by simp; omega))
  obtain ⟨r0, f0⟩ := ha 0 (by decide)
  obtain ⟨r1, f1⟩ := ha 1 (by decide)
  obtain ⟨r2, f2⟩ := ha 2 (by decide)
  obtain ⟨r3, f3⟩ := ha 3 (by decide)
  have HP := hid (ha.put4 (mix c))
  have HB := hid (Below.put4 hbw (b := w.heap.size + 1) (by omega) (mix c))
  clear ha hbw hb
  go_wp2
  have hp := HP.out
  have hbl := HB.out
  clear HP HB r0 r1 r2 r3 f0 f1 f2 f3
  unfold put4 at hp hbl
  generalize (((w2.setCell ⟨w.heap.size + 1, 0, none⟩ (.int .u8 (mix c 0 : Nat))).setCell ⟨w.heap.size + 1, 1, none⟩ (.int .u8 (mix c 1 : Nat))).setCell ⟨w.heap.size + 1, 2, none⟩ (.int .u8 (mix c 2 : Nat))).setCell ⟨w.heap.size + 1, 3, none⟩ (.int .u8 (mix c 3 : Nat)) = w9 at hp hbl ⊢
  have q0 := (hp 0 (by decide)).1
  have q1 := (hp 1 (by decide)).1
  have q2 := (hp 2 (by decide)).1
  have q3 := (hp 3 (by decide)).1
  refine bodyPost_ret (v := .agg #[.int .u8 (mix c 0 : Nat), .int .u8 (mix c 1 : Nat), .int .u8 (mix c 2 : Nat), .int .u8 (mix c 3 : Nat)]) ?_ rfl ⟨rfl, hbl⟩
  simp [results, Try.results73, go_sem, q0, q1, q2, q3]

set_option maxHeartbeats 1000000 in
set_option maxRecDepth 100000 in
theorem refMix_any (c : Nat → Nat) (w : World) (oc : ∀ j, c j < 256) :
    Calls Try.prog 64 #[.agg #[.int .u8 (c 0 : Nat), .int .u8 (c 1 : Nat), .int .u8 (c 2 : Nat), .int .u8 (c 3 : Nat)]] w fun e w' =>
      e = .returned (.agg #[.int .u8 (mix c 0 : Nat), .int .u8 (mix c 1 : Nat), .int .u8 (mix c 2 : Nat), .int .u8 (mix c 3 : Nat)]) ∧ Below w.heap.size w w' := by
  go_enter Try.func64, Try.ntmps64
  go_wp2_with fail
  refine (rows_mix c _ oc).mono ?_
  rintro e w2 ⟨rfl, hb⟩
  have ha : Arr w2 (w.heap.size + 1) 4 (fun _ => 0) := by
    have h := arr_new (w.alloc (.cells #[.int .u8 (c 0 : Nat), .int .u8 (c 1 : Nat), .int .u8 (c 2 : Nat), .int .u8 (c 3 : Nat)] 76)) 4 (fun _ => 0) 76
    have h' := h.below hb
    simpa using h'
  have hbw : Below w.heap.size w w2 := (((Below.refl _ _).alloc (Nat.le_refl _) _).alloc (by simp) _).trans (hb.mono (by simp; omega))
  obtain ⟨r0, f0⟩ := ha 0 (by decide)
  obtain ⟨r1, f1⟩ := ha 1 (by decide)
  obtain ⟨r2, f2⟩ := ha 2 (by decide)
  obtain ⟨r3, f3⟩ := ha 3 (by decide)
  have HP := hid (ha.put4 (mix c))
  have HB := hid (Below.put4 hbw (b := w.heap.size + 1) (by omega) (mix c))
  clear ha hbw hb
  go_wp2
  have hp := HP.out
  have hbl := HB.out
  clear HP HB r0 r1 r2 r3 f0 f1 f2 f3
  unfold put4 at hp hbl
  generalize (((w2.setCell ⟨w.heap.size + 1, 0, none⟩ (.int .u8 (mix c 0 : Nat))).setCell ⟨w.heap.size + 1, 1, none⟩ (.int .u8 (mix c 1 : Nat))).setCell ⟨w.heap.size + 1, 2, none⟩ (.int .u8 (mix c 2 : Nat))).setCell ⟨w.heap.size + 1, 3, none⟩ (.int .u8 (mix c 3 : Nat)) = w9 at hp hbl ⊢
  have q0 := (hp 0 (by decide)).1
  have q1 := (hp 1 (by decide)).1
  have q2 := (hp 2 (by decide)).1
  have q3 := (hp 3 (by decide)).1
  refine bodyPost_ret (v := .agg #[.int .u8 (mix c 0 : Nat), .int .u8 (mix c 1 : Nat), .int .u8 (mix c 2 : Nat), .int .u8 (mix c 3 : Nat)]) ?_ rfl ⟨rfl, hbl⟩
  simp [results, Try.results64, go_sem, q0, q1, q2, q3]

end Go.Proofs.Ytgnhbfjngdgibaa

/-
  Mixing as a sum: it spreads over sums of columns, and is undone by unmixing.
-/
namespace Go.Proofs.Ytgnhbfjngdgibaa

theorem col_add (f c d : Nat → Nat) (k : Nat) : col f (fun j => c j ^^^ d j) k = col f c k ^^^ col f d k := by
  induction k with
  | zero => simp [col]
  | succ k ih =>
    show col f (fun j => c j ^^^ d j) k ^^^ mul (f k) (c k ^^^ d k) = (col f c k ^^^ mul (f k) (c k)) ^^^ (col f d k ^^^ mul (f k) (d k))
    rw [ih, mul_right, xor4]

theorem col_congr (f : Nat → Nat) {c d : Nat → Nat} (k : Nat) (h : ∀ j, j < k → c j = d j) : col f c k = col f d k := by
  induction k with
  | zero => rfl
  | succ k ih =>
    show col f c k ^^^ mul (f k) (c k) = col f d k ^^^ mul (f k) (d k)
    rw [ih fun j hj => h j (by omega), h k (by omega)]

theorem mix_add (c d : Nat → Nat) (t : Nat) : mix (fun j => c j ^^^ d j) t = mix c t ^^^ mix d t := col_add _ c d 4
theorem unmix_add (c d : Nat → Nat) (t : Nat) : unmix (fun j => c j ^^^ d j) t = unmix c t ^^^ unmix d t := col_add _ c d 4
theorem mix_congr {c d : Nat → Nat} (t : Nat) (h : ∀ j, j < 4 → c j = d j) : mix c t = mix d t := col_congr _ 4 h
theorem unmix_congr {c d : Nat → Nat} (t : Nat) (h : ∀ j, j < 4 → c j = d j) : unmix c t = unmix d t := col_congr _ 4 h

/-- A column of one element alone. -/
def unit (j x t : Nat) : Nat := if t = j then x else 0

theorem unit_add (j x y : Nat) : unit j (x ^^^ y) = fun t => unit j x t ^^^ unit j y t := by
  funext t
  unfold unit
  split <;> simp

theorem back_bits : ∀ j, j < 4 → ∀ i, i < 8 → ∀ t, t < 4 → unmix (mix (unit j (2 ^ i))) t = unit j (2 ^ i) t := by decide +kernel
theorem forth_bits : ∀ j, j < 4 → ∀ i, i < 8 → ∀ t, t < 4 → mix (unmix (unit j (2 ^ i))) t = unit j (2 ^ i) t := by decide +kernel

theorem split4 (c : Nat → Nat) : ∀ t, t < 4 → c t = (unit 0 (c 0) t ^^^ unit 1 (c 1) t) ^^^ (unit 2 (c 2) t ^^^ unit 3 (c 3) t) :=
  four (by simp [unit]) (by simp [unit]) (by simp [unit]) (by simp [unit])

/-- A sum of columns comes back if both do. -/
theorem unmix_mix_add {c d : Nat → Nat} (hc : ∀ t, t < 4 → unmix (mix c) t = c t) (hd : ∀ t, t < 4 → unmix (mix d) t = d t) : ∀ t, t < 4 → unmix (mix fun j => c j ^^^ d j) t = c t ^^^ d t := fun t ht => by
  rw [show (mix fun j => c j ^^^ d j) = fun t => mix c t ^^^ mix d t from funext fun t => mix_add c d t, unmix_add, hc t ht, hd t ht]
theorem mix_unmix_add {c d : Nat → Nat} (hc : ∀ t, t < 4 → mix (unmix c) t = c t) (hd : ∀ t, t < 4 → mix (unmix d) t = d t) : ∀ t, t < 4 → mix (unmix fun j => c j ^^^ d j) t = c t ^^^ d t := fun t ht => by
  rw [show (unmix fun j => c j ^^^ d j) = fun t => unmix c t ^^^ unmix d t from funext fun t => unmix_add c d t, mix_add, hc t ht, hd t ht]

theorem unmix_mix_unit (j : Nat) (hj : j < 4) : ∀ x, x < 256 → ∀ t, t < 4 → unmix (mix (unit j x)) t = unit j x t := by
  refine span ?_ (back_bits j hj)
  intro x y hx hy t ht
  rw [unit_add]
  exact unmix_mix_add hx hy t ht
theorem mix_unmix_unit (j : Nat) (hj : j < 4) : ∀ x, x < 256 → ∀ t, t < 4 → mix (unmix (unit j x)) t = unit j x t := by
  refine span ?_ (forth_bits j hj)
  intro x y hx hy t ht
  rw [unit_add]
  exact mix_unmix_add hx hy t ht

theorem unmix_mix (c : Nat → Nat) (hc : ∀ j, c j < 256) : ∀ t, t < 4 → unmix (mix c) t = c t := fun t ht => by
  have e : ∀ u, mix c u = mix (fun j => (unit 0 (c 0) j ^^^ unit 1 (c 1) j) ^^^ (unit 2 (c 2) j ^^^ unit 3 (c 3) j)) u := fun u => mix_congr u (split4 c)
  rw [unmix_congr t fun j _ => e j, split4 c t ht]
  exact unmix_mix_add (unmix_mix_add (unmix_mix_unit 0 (by decide) _ (hc 0)) (unmix_mix_unit 1 (by decide) _ (hc 1))) (unmix_mix_add (unmix_mix_unit 2 (by decide) _ (hc 2)) (unmix_mix_unit 3 (by decide) _ (hc 3))) t ht
theorem mix_unmix (c : Nat → Nat) (hc : ∀ j, c j < 256) : ∀ t, t < 4 → mix (unmix c) t = c t := fun t ht => by
  have e : ∀ u, unmix c u = unmix (fun j => (unit 0 (c 0) j ^^^ unit 1 (c 1) j) ^^^ (unit 2 (c 2) j ^^^ unit 3 (c 3) j)) u := fun u => unmix_congr u (split4 c)
  rw [mix_congr t fun j _ => e j, split4 c t ht]
  exact mix_unmix_add (mix_unmix_add (mix_unmix_unit 0 (by decide) _ (hc 0)) (mix_unmix_unit 1 (by decide) _ (hc 1))) (mix_unmix_add (mix_unmix_unit 2 (by decide) _ (hc 2)) (mix_unmix_unit 3 (by decide) _ (hc 3))) t ht

theorem mix_lt (c : Nat → Nat) (t : Nat) : mix c t < 256 := col_lt _ c (fun _ => mixRow_lt _) 4
theorem unmix_lt (c : Nat → Nat) (t : Nat) : unmix c t < 256 := col_lt _ c (fun _ => unRow_lt _) 4
end Go.Proofs.Ytgnhbfjngdgibaa
