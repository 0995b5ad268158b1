/-
  The contracts of the program's sums of products, and of Mix and Unmix, of both.
-/
import Derived.Test.YtadpnkecdjleiaaGcol
namespace Go.Proofs.Ytadpnkecdjleiaa
open Go.RowKit

set_option linter.unusedVariables false

theorem row_of (r : Nat → Nat) (i : Nat) (hi : i < 4) (w : World) :
    (Instr.index 87 (.agg (vals 16 r).toArray) (.int .i64 (i : Int))).run Try.prog w = .ok (.agg (vals 4 fun j => r (4 * i + j)).toArray) w := by
  rcases (show i = 0 ∨ i = 1 ∨ i = 2 ∨ i = 3 from by omega) with rfl | rfl | rfl | rfl
  all_goals kernel_rfl
theorem one_of (r : Nat → Nat) (i : Nat) (hi : i < 4) (w : World) :
    (Instr.index 68 (.agg (vals 4 r).toArray) (.int .i64 (i : Int))).run Try.prog w = .ok (.int .u8 (r i : Nat)) w := by
  rcases (show i = 0 ∨ i = 1 ∨ i = 2 ∨ i = 3 from by omega) with rfl | rfl | rfl | rfl
  all_goals kernel_rfl

/-- What the loop over the rows keeps. -/
def Prods (B : Nat) (w wr : World) (c s : Nat → Nat) : Prop := Arr wr (B + 1) 4 c ∧ Arr wr (B + 1 + 1) 4 (fun _ => 0) ∧ Arr wr (B + 1 + 1 + 1) 4 s ∧ Below B w wr
theorem Prods.step {B : Nat} {w wr : World} {c s : Nat → Nat} (h : Prods B w wr c s) (i y : Nat) (hi : i < 4) :
    Prods B w (wr.setCell ⟨B + 1 + 1 + 1, i, none⟩ (.int .u8 (y : Nat))).drew c (fun j => if j = i then y else s j) := by
  obtain ⟨c1, c2, c3, hb⟩ := h
  exact ⟨(c1.beside (by omega) _ _).drew, (c2.beside (by omega) _ _).drew, (c3.set i y hi).drew, (hb.setCell (by simp; omega) _).drew⟩
theorem Prods.same {B : Nat} {w wr : World} {c s s' : Nat → Nat} (h : Prods B w wr c s) (e : ∀ j, j < 4 → s j = s' j) : Prods B w wr c s' :=
  ⟨h.1, h.2.1, h.2.2.1.same e, h.2.2.2⟩
theorem Prods.alloc {B : Nat} {w wr : World} {c s : Nat → Nat} (h : Prods B w wr c s) (o : Obj) : Prods B w (wr.alloc o) c s :=
  ⟨h.1.alloc _, h.2.1.alloc _, h.2.2.1.alloc _, h.2.2.2.alloc (Nat.le_of_lt (Nat.lt_trans (by omega) (h.1.lt (by decide)))) _⟩

set_option maxRecDepth 100000 in
set_option maxHeartbeats 1000000 in
theorem products_any (r c : Nat → Nat) (w : World) (of : ∀ j, r j < 256) (oc : ∀ j, c j < 256) :
    Calls Try.prog 57 #[.agg (vals 16 r).toArray, .agg (vals 4 c).toArray] w fun e w' =>
      e = .returned (.agg (vals 4 fun t => col (fun k => r (4 * t + k)) c 4).toArray) ∧ Below w.heap.size w w' := by
  obtain ⟨S, HS⟩ : ∃ S, Hid (S = sums (fun t k => r (4 * t + k)) c) := ⟨_, rfl⟩
  have g0 : (vals 16 r)[0]? = some (.int .u8 (r 0 : Nat)) := rfl
  have g1 : (vals 16 r)[1]? = some (.int .u8 (r 1 : Nat)) := rfl
  have g2 : (vals 16 r)[2]? = some (.int .u8 (r 2 : Nat)) := rfl
  have g3 : (vals 16 r)[3]? = some (.int .u8 (r 3 : Nat)) := rfl
  have g4 : (vals 16 r)[4]? = some (.int .u8 (r 4 : Nat)) := rfl
  have g5 : (vals 16 r)[5]? = some (.int .u8 (r 5 : Nat)) := rfl
  have g6 : (vals 16 r)[6]? = some (.int .u8 (r 6 : Nat)) := rfl
  have g7 : (vals 16 r)[7]? = some (.int .u8 (r 7 : Nat)) := rfl
  have g8 : (vals 16 r)[8]? = some (.int .u8 (r 8 : Nat)) := rfl
  have g9 : (vals 16 r)[9]? = some (.int .u8 (r 9 : Nat)) := rfl
  have g10 : (vals 16 r)[10]? = some (.int .u8 (r 10 : Nat)) := rfl
  have g11 : (vals 16 r)[11]? = some (.int .u8 (r 11 : Nat)) := rfl
  have g12 : (vals 16 r)[12]? = some (.int .u8 (r 12 : Nat)) := rfl
  have g13 : (vals 16 r)[13]? = some (.int .u8 (r 13 : Nat)) := rfl
  have g14 : (vals 16 r)[14]? = some (.int .u8 (r 14 : Nat)) := rfl
  have g15 : (vals 16 r)[15]? = some (.int .u8 (r 15 : Nat)) := rfl
  go_enter Try.func57, Try.ntmps57
  go_wp2
  clear g0 g1 g2 g3 g4 g5 g6 g7 g8 g9 g10 g11 g12 g13 g14 g15
  go_loopw [11] (fun i wr => ∃ n : Nat, n ≤ 4 ∧ i = .int .i64 (n : Int) ∧ Prods w.heap.size w wr c (S n 0)) (fun i _ => 4 - (intOf i).toNat)
  case atStart =>
    refine ⟨0, by decide, rfl, ?_⟩
    have z : (vals 4 fun _ => 0).toArray = #[Value.int .u8 0, .int .u8 0, .int .u8 0, .int .u8 0] := rfl
    have a1 := arr_new (w.alloc (.cells (vals 16 r).toArray 87)) 4 c 68
    have a2 := arr_new ((w.alloc (.cells (vals 16 r).toArray 87)).alloc (.cells (vals 4 c).toArray 68)) 4 (fun _ => 0) 68
    have a3 := arr_new (((w.alloc (.cells (vals 16 r).toArray 87)).alloc (.cells (vals 4 c).toArray 68)).alloc (.cells (vals 4 fun _ => 0).toArray 68)) 4 (fun _ => 0) 68
    rw [z] at a2 a3
    simp at a1 a2 a3
    refine ⟨(a1.alloc _).alloc _, a2.alloc _, a3.same ?_, (((Below.refl _ _).alloc (Nat.le_refl _) _).alloc (by simp) _).alloc (by simp; omega) _ |>.alloc (by simp; omega) _⟩
    intro j hj
    rw [HS.out]
    unfold sums
    simp [col]
  case round =>
    obtain ⟨i, hi, rfl, hcol⟩ := hrel
    by_cases hlt : i < 4
    · have HC0 := hid hcol
      clear hcol
      have hd : decide ((i : Int) < 4) = true := by simp; omega
      have hrow : ∀ w : World, (Instr.index 87 (.agg #[.int .u8 (r 0 : Nat), .int .u8 (r 1 : Nat), .int .u8 (r 2 : Nat), .int .u8 (r 3 : Nat), .int .u8 (r 4 : Nat), .int .u8 (r 5 : Nat), .int .u8 (r 6 : Nat), .int .u8 (r 7 : Nat), .int .u8 (r 8 : Nat), .int .u8 (r 9 : Nat), .int .u8 (r 10 : Nat), .int .u8 (r 11 : Nat), .int .u8 (r 12 : Nat), .int .u8 (r 13 : Nat), .int .u8 (r 14 : Nat), .int .u8 (r 15 : Nat)]) (.int .i64 (i : Int))).run Try.prog w = .ok (.agg #[.int .u8 (r (4 * i) : Nat), .int .u8 (r (4 * i + 1) : Nat), .int .u8 (r (4 * i + 2) : Nat), .int .u8 (r (4 * i + 3) : Nat)]) w := row_of r i hlt
      go_wp2
      go_loopw [16] (fun k w2 => ∃ n : Nat, n ≤ 4 ∧ k = .int .i64 (n : Int) ∧ Prods w.heap.size w w2 c (S i n)) (fun k _ => 4 - (intOf k).toNat)
      case atStart => exact ⟨0, by decide, rfl, HC0.out.alloc _⟩
      case round =>
        obtain ⟨k, hk, rfl, hcol⟩ := hrel
        clear HC0 hrow
        by_cases hlt2 : k < 4
        · have hone : ∀ w : World, (Instr.index 68 (.agg #[.int .u8 (r (4 * i) : Nat), .int .u8 (r (4 * i + 1) : Nat), .int .u8 (r (4 * i + 2) : Nat), .int .u8 (r (4 * i + 3) : Nat)]) (.int .i64 (k : Int))).run Try.prog w = .ok (.int .u8 (r (4 * i + k) : Nat)) w := one_of (fun j => r (4 * i + j)) k hlt2
          have h1 := (hcol.1 k hlt2).1
          have h3 := (hcol.2.2.1 i hlt).1
          have h4 := (hcol.2.2.1 i hlt).2
          have hiI : (i : Int) < 4 := by omega
          have hkI : (k : Int) < 4 := by omega
          have C := hid hcol
          clear hcol
          go_wp2
          go_region_law (first | (go_simp; go_at_call 56; refine (mul_any _ _ _ (oc _) (of _)).mono ?_; rintro e w' ⟨rfl, rfl⟩))
          all_goals
            go_wp2
            go_roundw
            case rel =>
              refine ⟨k + 1, by omega, by go_num, ?_⟩
              have hl : S i k i < 256 := by rw [HS.out]; exact sums_lt _ _ (fun t j => of _) i k i
              have h := C.out.step i (S i k i ^^^ mul (c k) (r (4 * i + k))) hlt
              rw [← xor_nat hl (mul_lt _ (oc k))] at h
              refine h.same fun j _ => ?_
              rw [HS.out, mul_comm (oc k) (of _)]
              exact sums_step _ c i k j
            case measure => simp [intOf]; omega
        · obtain rfl : k = 4 := by omega
          have C := hid hcol
          clear hcol
          go_wp2
          go_roundw
          case rel =>
            refine ⟨i + 1, by omega, by go_num, ?_⟩
            exact C.out.same fun j _ => by rw [HS.out]; exact sums_next _ c i j
          case measure => simp [intOf]; omega
    · obtain rfl : i = 4 := by omega
      have h0 := (hcol.2.2.1 0 (by decide)).1
      have h1 := (hcol.2.2.1 1 (by decide)).1
      have h2 := (hcol.2.2.1 2 (by decide)).1
      have h3 := (hcol.2.2.1 3 (by decide)).1
      have hb := hcol.2.2.2
      obtain ⟨r0, f0⟩ := hcol.2.1 0 (by decide)
      obtain ⟨r1, f1⟩ := hcol.2.1 1 (by decide)
      obtain ⟨r2, f2⟩ := hcol.2.1 2 (by decide)
      obtain ⟨r3, f3⟩ := hcol.2.1 3 (by decide)
      have HP := hid (hcol.2.1.put4 (S 4 0))
      have HB := hid (Below.put4 hb (b := w.heap.size + 1 + 1) (by omega) (S 4 0))
      clear hcol hb
      go_wp2
      have hp := HP.out
      have hbl := HB.out
      clear HP HB r0 r1 r2 r3 f0 f1 f2 f3 h0 h1 h2 h3
      unfold put4 at hp hbl
      generalize (((wr.setCell ⟨w.heap.size + 1 + 1, 0, none⟩ (.int .u8 (S 4 0 0 : Nat))).setCell ⟨w.heap.size + 1 + 1, 1, none⟩ (.int .u8 (S 4 0 1 : Nat))).setCell ⟨w.heap.size + 1 + 1, 2, none⟩ (.int .u8 (S 4 0 2 : Nat))).setCell ⟨w.heap.size + 1 + 1, 3, none⟩ (.int .u8 (S 4 0 3 : Nat)) = w9 at hp hbl ⊢
      have q0 := (hp 0 (by decide)).1
      have q1 := (hp 1 (by decide)).1
      have q2 := (hp 2 (by decide)).1
      have q3 := (hp 3 (by decide)).1
      refine bodyPost_ret (v := .agg (vals 4 (S 4 0)).toArray) ?_ rfl ⟨?_, hbl⟩
      · simp [results, Try.results57, go_sem, q0, q1, q2, q3]
        rfl
      · rw [show vals 4 (S 4 0) = vals 4 (fun t => col (fun k => r (4 * t + k)) c 4) from vals_same fun j hj => by rw [HS.out]; exact sums_full (fun t k => r (4 * t + k)) c j hj]
end Go.Proofs.Ytadpnkecdjleiaa
