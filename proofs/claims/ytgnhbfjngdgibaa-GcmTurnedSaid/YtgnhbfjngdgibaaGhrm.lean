/-
  The document's Mul.
-/
import Derived.Test.YtgnhbfjngdgibaaGhz
import Derived.Test.YtgnhbfjngdgibaaKa
import Derived.Deep.CutRange
import Derived.Deep.DeepCutAuto
namespace Go.Proofs.Ytgnhbfjngdgibaa
open Go.RowKit
set_option linter.unusedVariables false
set_option linter.unusedSimpArgs false

/-- What the loops keep: both elements, the result's place, the coefficients. -/
def Rm (w0 : World) (x y p : Nat → Nat) (w : World) : Prop := Arr w w0.heap.size 16 x ∧ Arr w (w0.heap.size + 1) 16 y ∧ Arr w (w0.heap.size + 1 + 1) 16 (fun _ => 0) ∧ IAr w (w0.heap.size + 1 + 1 + 1) 255 p ∧ Below w0.heap.size w0 w
theorem Rm.grow {w0 w w' : World} {x y p : Nat → Nat} (h : Rm w0 x y p w) (hb : Below w.heap.size w w') : Rm w0 x y p w' :=
  ⟨h.1.below hb, h.2.1.below hb, h.2.2.1.below hb, h.2.2.2.1.below hb, h.2.2.2.2.trans (hb.mono h.2.2.2.2.size)⟩
theorem Rm.set {w0 w : World} {x y p : Nat → Nat} (h : Rm w0 x y p w) (i z : Nat) (hi : i < 255) : Rm w0 x y (upd p i z) (w.setCell ⟨w0.heap.size + 1 + 1 + 1, i, none⟩ (.int .i64 (z : Nat))) :=
  ⟨h.1.beside (by omega) i _, h.2.1.beside (by omega) i _, h.2.2.1.beside (by omega) i _, h.2.2.2.1.set i z hi, h.2.2.2.2.setCell (show w0.heap.size ≤ w0.heap.size + 1 + 1 + 1 by omega) _⟩
theorem xor_i64 {a b : Nat} (ha : a < 2) (hb : b < 2) : bits .xor .i64 (a : Int) (b : Int) = ((a ^^^ b : Nat) : Int) := by
  rcases (show a = 0 ∨ a = 1 from by omega) with rfl | rfl <;> rcases (show b = 0 ∨ b = 1 from by omega) with rfl | rfl <;> rfl
theorem xor_bit {a b : Nat} (ha : a < 2) (hb : b < 2) : a ^^^ b < 2 := Nat.xor_lt_two_pow (n := 1) ha hb
theorem dblN_D' {Y : Nat} (h : Y < 2 ^ 128) {m : Nat} : G.dblN m Y = G.xsum 128 fun i => G.gate (Y.testBit (127 - i)) (G.D (m + i)) := G.dblN_D h m
/-- The boxes of both elements, the result's place and the coefficients. -/
theorem boxes_rm (w : World) (x y : Nat → Nat) (t u v s : TypeId) : ∃ wa, Hid (wa = (((w.alloc (.cells (vals 16 x).toArray t)).alloc (.cells (vals 16 y).toArray u)).alloc (.cells (vals 16 fun _ => 0).toArray v)).alloc (.cells (ivals 255 fun _ => 0).toArray s)) ∧ Rm w x y (fun _ => 0) wa := by
  obtain ⟨wb, hb, h1, h2, h3, hB, hsz⟩ := boxes3 w 16 x y (fun _ => 0) t u v
  rw [← hb.out]
  have h4 := iar_new wb 255 (fun _ => 0) s
  rw [hsz] at h4
  exact ⟨_, rfl, h1.alloc _, h2.alloc _, h3.alloc _, h4, hB.alloc (by omega) _⟩

set_option maxHeartbeats 8000000 in
set_option maxRecDepth 100000 in
theorem refMul_of (x y : Nat → Nat) (w : World) (ox : ∀ j, x j < 256) (oy : ∀ j, y j < 256) :
    Calls Try.prog 67 #[.agg (vals 16 x).toArray, .agg (vals 16 y).toArray] w fun e w' => e = .returned (.agg (vals 16 (by16 (G.mul (el x) (el y)))).toArray) ∧ Below w.heap.size w w' := by
  have hzb := Try.zeroBlock
  have hzr := Try.zeroRow255
  obtain ⟨wa, hwa, hR⟩ := boxes_rm w x y 44 44 44 98
  obtain ⟨X, hX⟩ : ∃ X, Hid (X = el x) := ⟨_, rfl⟩
  obtain ⟨Y, hY⟩ : ∃ Y, Hid (Y = el y) := ⟨_, rfl⟩
  rw [← hX.out, ← hY.out]
  obtain ⟨V, hVd⟩ : ∃ V, Hid (V = G.mul X Y) := ⟨_, rfl⟩
  rw [← hVd.out]
  have HR := hid hR
  clear hR
  have lY : Y < 2 ^ 128 := by rw [hY.out]; exact el_lt oy
  go_enter Try.func67, Try.ntmps67
  go_wp2_with fail
  rw [← hwa.out]
  go_loopw [6] (fun i wr => ∃ (m : Nat) (p : Nat → Nat), m ≤ 128 ∧ i = .int .i64 (m : Int) ∧ Rm w x y p wr ∧ (∀ j, p j < 2) ∧ poly 255 p = G.xsum m fun i => G.gate (X.testBit (127 - i)) (G.dblN i Y)) (fun i _ => 128 - (intOf i).toNat)
  case atStart => exact ⟨0, fun _ => 0, by decide, rfl, HR.out, fun _ => Nat.zero_lt_two, poly_zero 255⟩
  case round =>
    clear HR
    obtain ⟨m, p, hm, rfl, hR, hp, hv⟩ := hrel
    obtain ⟨wo, rfl⟩ : ∃ wo, wo = wr := ⟨_, rfl⟩
    have HV := hid hv
    clear hv
    by_cases hlt : m < 128
    · have HR := hid hR
      clear hR
      have mI : (m : Int) < 128 := by omega
      go_wp2_with (refine wpList_load_arr rfl 44 _ rfl w.heap.size rfl 16 x ?_ _ Try.underlying44 rfl Try.sizeBlock ?_; exact HR.out.1)
      refine (refBit_any x m _ ox hlt).mono ?_
      rintro e w2 ⟨rfl, hb2⟩
      have HR2 := hid (HR.out.grow hb2)
      clear HR hb2
      rw [← hX.out]
      have hub := Try.underlying44
      have hib := Try.sizeBlock
      by_cases hbit : bitN X m = 0
      · have hbe : (((bitN X m : Nat) : Int) == 0) = true := by rw [hbit]; rfl
        go_wp2_with fail
        go_roundw
        case rel => exact ⟨m + 1, p, by omega, by go_num, HR2.out, hp, by rw [HV.out, G.xsum, ← bitN_bit, hbit]; simp [G.gate]⟩
        case measure => simp [intOf]; omega
      · have hbe : (((bitN X m : Nat) : Int) == 0) = false := by rw [beq_eq_false_iff_ne]; omega
        have hb1 : bitN X m = 1 := by have := bitN_lt X m; omega
        go_wp2_with fail
        go_loopw [7] (fun i wr => ∃ (k : Nat) (q : Nat → Nat), k ≤ 128 ∧ i = .int .i64 (k : Int) ∧ Rm w x y q wr ∧ (∀ j, q j < 2) ∧ poly 255 q = poly 255 p ^^^ G.xsum k fun i => G.gate (Y.testBit (127 - i)) (G.D (m + i))) (fun i _ => 128 - (intOf i).toNat)
        case atStart => exact ⟨0, p, by decide, rfl, HR2.out, hp, (Nat.xor_zero _).symm⟩
        case round =>
          clear HR2
          obtain ⟨k, q, hk, rfl, hR, hq, hv⟩ := hrel
          have HV2 := hid hv
          clear hv
          by_cases hlk : k < 128
          · have kI : (k : Int) < 128 := by omega
            have hdk : decide ((k : Int) < 128) = true := by simp; omega
            have p0 : (0 : Int) ≤ (m : Int) + (k : Int) := by omega
            have p1 : (m : Int) + (k : Int) < 255 := by omega
            have t0 : ((m : Int) + (k : Int)).toNat = m + k := by omega
            have o1 : IntKind.i64.wrap ((m : Int) + (k : Int)) = (m : Int) + (k : Int) := by simp [IntKind.wrap, IntKind.bits, IntKind.signed]; omega
            have hX1 := xor_i64 (hq (m + k)) (bitN_lt Y k)
            go_upto_region 9 with fail
            refine wp_region_z (Rm w x y q) 13 (by kernel_rfl) (hR.grow (Below.refl _ _).drew) (fun hS => ?_)
            clear hR
            refine wpAnyZ_take (i := 0) (v := .int .i64 (m : Int)) rfl (by kernel_rfl) (by kernel_rfl) (by kernel_rfl) (by kernel_rfl) (fun _ _ _ h => h) hS (Or.inl ⟨by kernel_rfl, fun w hS => (by clear hS; go_simp)⟩) ?_
            simp only [Act.put, List.setIfInBounds_toArray, List.set_cons_zero, List.set_cons_succ]
            refine wpAnyZ_take (i := 1) (v := .int .i64 (k : Int)) rfl (by kernel_rfl) (by kernel_rfl) (by kernel_rfl) (by kernel_rfl) (fun _ _ _ h => h) hS (Or.inl ⟨by kernel_rfl, fun w hS => (by clear hS; go_simp)⟩) ?_
            simp only [Act.put, List.setIfInBounds_toArray, List.set_cons_zero, List.set_cons_succ]
            refine wpAnyZ_take (i := 2) (v := .int .i64 ((m : Int) + (k : Int))) rfl (by kernel_rfl) (by kernel_rfl) (by kernel_rfl) (by kernel_rfl) (fun _ _ _ h => h) hS (Or.inl ⟨by kernel_rfl, fun w hS => (by clear hS; go_simp)⟩) ?_
            simp only [Act.put, List.setIfInBounds_toArray, List.set_cons_zero, List.set_cons_succ]
            refine wpAnyZ_take (i := 3) (v := .int .i64 (m : Int)) rfl (by kernel_rfl) (by kernel_rfl) (by kernel_rfl) (by kernel_rfl) (fun _ _ _ h => h) hS (Or.inl ⟨by kernel_rfl, fun w hS => (by clear hS; go_simp)⟩) ?_
            simp only [Act.put, List.setIfInBounds_toArray, List.set_cons_zero, List.set_cons_succ]
            refine wpAnyZ_take (i := 4) (v := .int .i64 (k : Int)) rfl (by kernel_rfl) (by kernel_rfl) (by kernel_rfl) (by kernel_rfl) (fun _ _ _ h => h) hS (Or.inl ⟨by kernel_rfl, fun w hS => (by clear hS; go_simp)⟩) ?_
            simp only [Act.put, List.setIfInBounds_toArray, List.set_cons_zero, List.set_cons_succ]
            refine wpAnyZ_take (i := 5) (v := .int .i64 ((m : Int) + (k : Int))) rfl (by kernel_rfl) (by kernel_rfl) (by kernel_rfl) (by kernel_rfl) (fun _ _ _ h => h) hS (Or.inl ⟨by kernel_rfl, fun w hS => (by clear hS; go_simp)⟩) ?_
            simp only [Act.put, List.setIfInBounds_toArray, List.set_cons_zero, List.set_cons_succ]
            refine wpAnyZ_take (i := 6) (v := .pointer (some ⟨w.heap.size + 1 + 1 + 1, m + k, none⟩)) rfl (by kernel_rfl) (by kernel_rfl) (by kernel_rfl) (by kernel_rfl) (fun _ _ _ h => h) hS (Or.inl ⟨by kernel_rfl, fun w hS => (by clear hS; go_simp)⟩) ?_
            simp only [Act.put, List.setIfInBounds_toArray, List.set_cons_zero, List.set_cons_succ]
            refine wpAnyZ_take (i := 7) (v := .int .i64 (q (m + k) : Nat)) rfl (by kernel_rfl) (by kernel_rfl) (by kernel_rfl) (by kernel_rfl) (fun _ _ _ h => h) hS (Or.inl ⟨by kernel_rfl, fun w hS => (by have hc := (hS.2.2.2.1 (m + k) (by omega)).1; clear hS; go_simp)⟩) ?_
            simp only [Act.put, List.setIfInBounds_toArray, List.set_cons_zero, List.set_cons_succ]
            refine wpAnyZ_take (i := 8) rfl (by kernel_rfl) (by kernel_rfl) (by kernel_rfl) (by kernel_rfl) (fun _ _ _ h => h) hS (yieldsIf_load_mid (by kernel_rfl) 44 (.tmp 3) rfl (w.heap.size + 1) 0 (by kernel_rfl) (vals 16 y) _ (fun w hS => hS.2.1.range) hub rfl hib) ?_
            simp only [Act.put, List.setIfInBounds_toArray, List.set_cons_zero, List.set_cons_succ]
            refine wpAnyZ_take (i := 9) (v := .int .i64 (k : Int)) rfl (by kernel_rfl) (by kernel_rfl) (by kernel_rfl) (by kernel_rfl) (fun _ _ _ h => h) hS (Or.inl ⟨by kernel_rfl, fun w hS => (by clear hS; go_simp)⟩) ?_
            simp only [Act.put, List.setIfInBounds_toArray, List.set_cons_zero, List.set_cons_succ]
            refine wpAnyZ_one (i := 10) (by kernel_rfl) rfl (fun K hK => ?_)
            go_simp
            go_at_call 79
            refine (refBit_any y k _ oy hlk).mono ?_
            rintro e w8 ⟨rfl, hb8⟩
            rw [← hY.out]
            go_wp2_with fail
            refine hK.out _ _ (fun _ => hS.grow hb8) ?_
            replace hS := hS.grow hb8
            clear hK K
            try simp only [Act.put, List.setIfInBounds_toArray, List.set_cons_zero, List.set_cons_succ]
            refine wpAnyZ_take (i := 11) (v := .int .i64 (q (m + k) ^^^ bitN Y k : Nat)) rfl (by kernel_rfl) (by kernel_rfl) (by kernel_rfl) (by kernel_rfl) (fun _ _ _ h => h) hS (Or.inl ⟨by kernel_rfl, fun w hS => (by clear hS; go_simp)⟩) ?_
            simp only [Act.put, List.setIfInBounds_toArray, List.set_cons_zero, List.set_cons_succ]
            refine wpAnyZ_take (i := 12) (v := .pointer (some ⟨w.heap.size + 1 + 1 + 1, m + k, none⟩)) rfl (by kernel_rfl) (by kernel_rfl) (by kernel_rfl) (by kernel_rfl) (fun _ _ _ h => h) hS (Or.inl ⟨by kernel_rfl, fun w hS => (by clear hS; go_simp)⟩) ?_
            simp only [Act.put, List.setIfInBounds_toArray, List.set_cons_zero, List.set_cons_succ]
            have hcell := hS.2.2.2.1 (m + k) (by omega)
            have hc := hcell.1
            have hf := hcell.2
            have HS := hid (hS.set (m + k) (q (m + k) ^^^ bitN Y k) (by omega))
            clear hS hcell
            refine wpAnyZ_one (i := 13) (by kernel_rfl) rfl (fun K hK => ?_)
            go_simp
            refine hK.out _ _ (fun h => absurd h (by decide)) ?_
            clear hK K
            try simp only [Act.put, List.setIfInBounds_toArray, List.set_cons_zero, List.set_cons_succ]
            refine wpAnyZ_done (by kernel_rfl) ?_ _
            go_wp2_with fail
            go_roundw
            case rel => exact ⟨k + 1, _, by omega, by go_num, HS.out, upd_lt hq (xor_bit (hq _) (bitN_lt _ _)) _, by
              rw [poly_xor (m + k) (bitN Y k) (by omega) (hq _) (bitN_lt _ _), HV2.out, Nat.xor_assoc, bitN_bit]; rfl⟩
            case measure => simp [intOf]; omega
          · obtain rfl : k = 128 := by omega
            have HR := hid hR
            clear hR
            go_wp2_with fail
            go_roundw
            case rel => exact ⟨m + 1, q, by omega, by go_num, HR.out, hq, by rw [HV2.out, HV.out, ← dblN_D' lY, G.xsum, ← bitN_bit, hb1]; rfl⟩
            case measure => simp [intOf]; omega
    · obtain rfl : m = 128 := by omega
      have hvm : poly 255 p = V := HV.out.trans hVd.out.symm
      have HR := hid hR
      have HV2 := hid hvm
      clear hR HV hvm
      go_wp2_with fail
      go_loopw [8] (fun i wr => ∃ (m : Nat) (p : Nat → Nat), m ≤ 127 ∧ i = .int .i64 ((m : Int) + 127) ∧ Rm w x y p wr ∧ (∀ j, p j < 2) ∧ poly 255 p = V ∧ ∀ j, m + 127 < j → j < 255 → p j = 0) (fun i _ => (intOf i).toNat - 127)
      case atStart => exact ⟨127, p, by decide, rfl, HR.out, hp, HV2.out, fun j h1 h2 => by omega⟩
      case round =>
        clear HR HV2 hp
        obtain ⟨m, p, hm, rfl, hR, hp, hv, hz⟩ := hrel
        have HV := hid hv
        have HZ := hid hz
        clear hv hz
        rcases m with _ | m
        · rw [show ((0 : Nat) : Int) + 127 = 127 from rfl]
          have hcf := fun j hj => coef_of (j := j) hp (fun j h1 h2 => HZ.out j (by omega) h2) HV.out hj
          have HCF := hid hcf
          obtain ⟨g9, hg9⟩ : ∃ g, Hid (g = wr.heap.size) := ⟨_, rfl⟩
          have hA := arr_new wr 16 (fun _ => 0) 44
          have hR9 := hR.grow ((Below.refl wr.heap.size wr).alloc (Nat.le_refl _) (.cells (vals 16 fun _ => 0).toArray 44))
          have hgl : w.heap.size + 1 + 1 + 1 < g9 := by rw [hg9.out]; exact hR.2.2.2.1.lt (by decide)
          rw [← hg9.out] at hA
          obtain ⟨w9, hw9⟩ : ∃ w9, Hid (w9 = wr.alloc (.cells (vals 16 fun _ => 0).toArray 44)) := ⟨_, rfl⟩
          rw [← hw9.out] at hA hR9
          have HA := hid hA
          have HR := hid hR9
          clear hR hR9 hA hcf
          go_wp2_with fail
          rw [← hw9.out, ← hg9.out]
          go_loopw [10] (fun i wr => ∃ n : Nat, n ≤ 128 ∧ i = .int .i64 (n : Int) ∧ Rm w x y p wr ∧ Arr wr g9 16 (zc V n)) (fun i _ => 128 - (intOf i).toNat)
          case atStart => exact ⟨0, by decide, rfl, HR.out, HA.out.same fun j hj => (zc_zero V j hj).symm⟩
          case round =>
            clear HR HA hg9 hw9
            obtain ⟨n, hn, rfl, hR, hA⟩ := hrel
            by_cases hlt : n < 128
            · have hc1 := (hR.2.2.2.1 n (by omega)).1
              obtain ⟨hc2, hf2⟩ := hA (n / 8) (by omega)
              rw [HCF.out n hlt] at hc1
              have HA2 := hid ((hA.set (n / 8) (2 * zc V n (n / 8) + bitN V n) (by omega)).same (y := zc V (n + 1)) fun j hj => zc_step V n hlt j hj)
              have HR2 := hid (show Rm w x y p (wr.setCell ⟨g9, n / 8, none⟩ (.int .u8 (2 * zc V n (n / 8) + bitN V n : Nat))) from
                ⟨hR.1.beside (by omega) _ _, hR.2.1.beside (by omega) _ _, hR.2.2.1.beside (by omega) _ _, hR.2.2.2.1.beside (by omega) _ _, hR.2.2.2.2.setCell (show w.heap.size ≤ g9 by omega) _⟩)
              have hz := zc_lt V n hlt
              obtain ⟨q, hq⟩ : ∃ q, q = n / 8 := ⟨_, rfl⟩
              rw [← hq] at hc2 hf2 HA2 HR2 hz
              have nI : (n : Int) < 128 := by omega
              have n1 : (n : Int) / 8 = (q : Int) := by omega
              have n2 : (q : Int) < 16 := by omega
              generalize zc V n q = zv at hc2 HA2 HR2 hz ⊢
              have hbv := bitN_lt V n
              generalize bitN V n = bv at hc1 HA2 HR2 hz hbv ⊢
              clear hR hA hq
              go_wp2
              go_region
              go_wp2
              go_roundw
              case rel =>
                refine ⟨n + 1, by omega, by go_num, ?_, ?_⟩
                · rw [show 2 * (zv : Int) + (bv : Int) = ((2 * zv + bv : Nat) : Int) from by omega]
                  exact HR2.out.grow (Below.refl _ _).drew
                · rw [show 2 * (zv : Int) + (bv : Int) = ((2 * zv + bv : Nat) : Int) from by omega]
                  exact HA2.out.drew
              case measure => simp [intOf]; omega
            · obtain rfl : n = 128 := by omega
              have hr := hR.2.2.1
              have hA2 := hA.same (y := by16 V) fun j hj => zc_full V j hj
              have hB := hR.2.2.2.2
              clear hA
              go_wp2_with (first | (refine wpList_load_arr rfl 44 _ rfl g9 rfl 16 (by16 V) ?_ _ Try.underlying44 rfl Try.sizeBlock ?_; exact hA2) | (refine wpList_store_arr rfl 44 _ _ rfl (w.heap.size + 1 + 1) 16 (by16 V) rfl rfl (fun _ => 0) ?_ Try.sizeBlock ?_; exact hr))
              refine bodyPost_ret (v := .agg (vals 16 (by16 V)).toArray) ?_ rfl ⟨rfl, below_setCells _ 0 hB (by omega)⟩
              exact results_cell_arr rfl _ _ 16 _ _ rfl (hr.put _) Try.underlying44 rfl Try.sizeBlock
        · rw [show ((m + 1 : Nat) : Int) + 127 = (m : Int) + 128 from by omega]
          have ge : (128 : Int) ≤ (m : Int) + 128 := by omega
          have i0 : (0 : Int) ≤ (m : Int) + 128 := by omega
          have i1 : (m : Int) + 128 < 255 := by omega
          have i2 : ((m : Int) + 128).toNat = m + 128 := by omega
          have o1 : IntKind.i64.wrap ((m : Int) + 128 - 128) = (m : Int) := by simp [IntKind.wrap, IntKind.bits, IntKind.signed]; omega
          have o2 : IntKind.i64.wrap ((m : Int) + 128 - 127) = (m : Int) + 1 := by simp [IntKind.wrap, IntKind.bits, IntKind.signed]; omega
          have o3 : IntKind.i64.wrap ((m : Int) + 128 - 126) = (m : Int) + 2 := by simp [IntKind.wrap, IntKind.bits, IntKind.signed]; omega
          have o4 : IntKind.i64.wrap ((m : Int) + 128 - 121) = (m : Int) + 7 := by simp [IntKind.wrap, IntKind.bits, IntKind.signed]; omega
          have hc := (hR.2.2.2.1 (m + 128) (by omega)).1
          have hf := (hR.2.2.2.1 (m + 128) (by omega)).2
          by_cases h1 : p (m + 128) = 1
          · rw [h1] at hc
            have hR1 : Rm w x y (upd p (m + 128) 0) (wr.setCell ⟨w.heap.size + 1 + 1 + 1, m + 128, none⟩ (.int .i64 0)) := hR.set (m + 128) 0 (by omega)
            obtain ⟨p1, e1⟩ : ∃ q, Hid (q = upd p (m + 128) 0) := ⟨_, rfl⟩
            have b1 : ∀ j, p1 j < 2 := by rw [e1.out]; exact upd_lt hp (by decide) _
            rw [← e1.out] at hR1
            have HR1 := hid hR1
            clear hR hR1
            go_upto_region 15 with fail
            replace HR1 := HR1.out
            generalize wr.setCell ⟨w.heap.size + 1 + 1 + 1, m + 128, none⟩ (.int .i64 0) = w1 at HR1 ⊢
            clear hc hf
            have q1 : (m : Int) + 1 < 255 := by omega
            have q2 : (m : Int) + 2 < 255 := by omega
            have q3 : (m : Int) + 7 < 255 := by omega
            have q4 : (m : Int) < 255 := by omega
            have r1 : ((m : Int) + 1).toNat = m + 1 := by omega
            have r2 : ((m : Int) + 2).toNat = m + 2 := by omega
            have r3 : ((m : Int) + 7).toNat = m + 7 := by omega
            have hc := (HR1.2.2.2.1 (m) (by omega)).1
            have hf := (HR1.2.2.2.1 (m) (by omega)).2
            have hX : bits .xor .i64 (p1 (m) : Nat) 1 = ((p1 (m) ^^^ 1 : Nat) : Int) := xor_i64 (b1 (m)) (b := 1) (by decide)
            have hR1 := HR1.set (m) (p1 (m) ^^^ 1) (by omega)
            have b2 := upd_lt b1 (turn_lt (b1 (m))) (m)
            obtain ⟨p2, e2⟩ : ∃ q, Hid (q = upd p1 (m) (p1 (m) ^^^ 1)) := ⟨_, rfl⟩
            rw [← e2.out] at hR1 b2
            have HR2 := hid hR1
            clear HR1 hR1
            go_upto_region 16 with fail
            replace HR1 := HR2.out
            generalize w1.setCell ⟨w.heap.size + 1 + 1 + 1, m, none⟩ (.int .i64 (p1 (m) ^^^ 1 : Nat)) = w2 at HR1 ⊢
            clear hc hf hX HR2
            have hc := (HR1.2.2.2.1 (m + 1) (by omega)).1
            have hf := (HR1.2.2.2.1 (m + 1) (by omega)).2
            have hX : bits .xor .i64 (p2 (m + 1) : Nat) 1 = ((p2 (m + 1) ^^^ 1 : Nat) : Int) := xor_i64 (b2 (m + 1)) (b := 1) (by decide)
            have hR1 := HR1.set (m + 1) (p2 (m + 1) ^^^ 1) (by omega)
            have b3 := upd_lt b2 (turn_lt (b2 (m + 1))) (m + 1)
            obtain ⟨p3, e3⟩ : ∃ q, Hid (q = upd p2 (m + 1) (p2 (m + 1) ^^^ 1)) := ⟨_, rfl⟩
            rw [← e3.out] at hR1 b3
            have HR2 := hid hR1
            clear HR1 hR1
            go_upto_region 17 with fail
            replace HR1 := HR2.out
            generalize w2.setCell ⟨w.heap.size + 1 + 1 + 1, m + 1, none⟩ (.int .i64 (p2 (m + 1) ^^^ 1 : Nat)) = w3 at HR1 ⊢
            clear hc hf hX HR2
            have hc := (HR1.2.2.2.1 (m + 2) (by omega)).1
            have hf := (HR1.2.2.2.1 (m + 2) (by omega)).2
            have hX : bits .xor .i64 (p3 (m + 2) : Nat) 1 = ((p3 (m + 2) ^^^ 1 : Nat) : Int) := xor_i64 (b3 (m + 2)) (b := 1) (by decide)
            have hR1 := HR1.set (m + 2) (p3 (m + 2) ^^^ 1) (by omega)
            have b4 := upd_lt b3 (turn_lt (b3 (m + 2))) (m + 2)
            obtain ⟨p4, e4⟩ : ∃ q, Hid (q = upd p3 (m + 2) (p3 (m + 2) ^^^ 1)) := ⟨_, rfl⟩
            rw [← e4.out] at hR1 b4
            have HR2 := hid hR1
            clear HR1 hR1
            go_upto_region 18 with fail
            replace HR1 := HR2.out
            generalize w3.setCell ⟨w.heap.size + 1 + 1 + 1, m + 2, none⟩ (.int .i64 (p3 (m + 2) ^^^ 1 : Nat)) = w4 at HR1 ⊢
            clear hc hf hX HR2
            have hc := (HR1.2.2.2.1 (m + 7) (by omega)).1
            have hf := (HR1.2.2.2.1 (m + 7) (by omega)).2
            have hX : bits .xor .i64 (p4 (m + 7) : Nat) 1 = ((p4 (m + 7) ^^^ 1 : Nat) : Int) := xor_i64 (b4 (m + 7)) (b := 1) (by decide)
            have hR1 := HR1.set (m + 7) (p4 (m + 7) ^^^ 1) (by omega)
            have b5 := upd_lt b4 (turn_lt (b4 (m + 7))) (m + 7)
            obtain ⟨p5, e5⟩ : ∃ q, Hid (q = upd p4 (m + 7) (p4 (m + 7) ^^^ 1)) := ⟨_, rfl⟩
            rw [← e5.out] at hR1 b5
            have HR2 := hid hR1
            clear HR1 hR1
            go_wp2_with fail
            go_roundw
            case rel =>
              have e6 : p5 = red p m := by rw [e5.out, e4.out, e3.out, e2.out, e1.out]; rfl
              exact ⟨m, p5, by omega, by go_num, HR2.out, b5, by rw [e6, poly_red hp (by omega) h1, HV.out], fun j h2 h3 => by rw [e6]; exact red_high HZ.out j (by omega) h3⟩
            case measure => simp [intOf]; omega
          · have hbe : (((p (m + 128) : Nat) : Int) == 1) = false := by rw [beq_eq_false_iff_ne]; omega
            have HR := hid hR
            clear hR
            go_wp2_with fail
            go_roundw
            case rel => exact ⟨m, p, by omega, by go_num, HR.out, hp, HV.out, fun j h2 h3 => by
              by_cases e : j = m + 128
              · subst e
                have := hp (m + 128)
                omega
              · exact HZ.out j (by omega) h3⟩
            case measure => simp [intOf]; omega
end Go.Proofs.Ytgnhbfjngdgibaa
