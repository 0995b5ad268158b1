/-
  The contracts of plus, one, the document's Add and known; elements compared.
-/
import Derived.Test.YtdifilcgammniaaGhsum
import Derived.Test.YtdifilcgammniaaGhi
import Derived.Test.YtdifilcgammniaaAeq
namespace Go.Proofs.Ytdifilcgammniaa
open Go.RowKit
set_option linter.unusedVariables false
set_option linter.unusedSimpArgs false

theorem all_el {x y : Nat → Nat} (ox : ∀ j, x j < 256) (oy : ∀ j, y j < 256) : ((List.range 16).all fun i => x i == y i) = (el x == el y) := by
  rw [Bool.eq_iff_iff, List.all_eq_true, beq_iff_eq]
  constructor
  · intro h
    exact el_congr fun j hj => by
      have := h j (List.mem_range.2 hj)
      rwa [beq_iff_eq] at this
  · intro h j hj
    rw [beq_iff_eq]
    exact el_inj ox oy h j (List.mem_range.1 hj)
/-- Two elements compared. -/
theorem cmp16 {x y : Nat → Nat} (ox : ∀ j, x j < 256) (oy : ∀ j, y j < 256) (w : World) :
    (Op.equalIn 10000 35 (.agg (vals 16 x).toArray) (.agg (vals 16 y).toArray)).run Try.prog w = .ok (el x == el y) w := by
  obtain ⟨i, hi⟩ := Try.sizeU8
  have h1 := run_equalIn_array (P := Try.prog) w 9999 (vals 16 x).toArray (vals 16 y).toArray Try.underlying35 hi
  rw [Try.cellsU8, items_u8 16 9998 x y w _ (by simp), all_el ox oy] at h1
  exact h1
theorem cmp_yes {x y : Nat → Nat} (ox : ∀ j, x j < 256) (oy : ∀ j, y j < 256) (h : el x = el y) (w : World) :
    (Op.equalIn 10000 35 (.agg (vals 16 x).toArray) (.agg (vals 16 y).toArray)).run Try.prog w = .ok true w := by
  have := cmp16 ox oy w
  rwa [h, beq_self_eq_true] at this

/-- What a loop over an element keeps: the array that is written, the other one, and the result's. -/
def Trio (w wr : World) (x y : Nat → Nat) : Prop := Arr wr w.heap.size 16 x ∧ Arr wr (w.heap.size + 1) 16 y ∧ Arr wr (w.heap.size + 1 + 1) 16 (fun _ => 0) ∧ Below w.heap.size w wr

set_option maxHeartbeats 1000000 in
set_option maxRecDepth 100000 in
theorem sums_of (x y : Nat → Nat) (w : World) (ox : ∀ j, x j < 256) (oy : ∀ j, y j < 256) :
    Calls Try.prog 27 #[.agg (vals 16 x).toArray, .agg (vals 16 y).toArray] w fun e w' =>
      e = .returned (.agg (vals 16 fun j => x j ^^^ y j).toArray) ∧ Below w.heap.size w w' := by
  have hzb := Try.zeroBlock
  obtain ⟨wa, hwa, b1, b2, b3, hB, _⟩ := boxes3 w 16 x y (fun _ => 0) 35 35 35
  go_enter Try.func27, Try.ntmps27
  go_wp2_with fail
  rw [← hwa.out]
  go_loopw [6] (fun i wr => ∃ k : Nat, k ≤ 16 ∧ i = .int .i64 (k : Int) ∧ Trio w wr (mixk (fun j => x j ^^^ y j) x k) y) (fun i _ => 16 - (intOf i).toNat)
  case atStart => exact ⟨0, by decide, rfl, b1.same fun t _ => (mixk_zero (fun j => x j ^^^ y j) x t).symm, b2, b3, hB⟩
  case round =>
    clear b1 b2 b3 hB hwa hzb
    obtain ⟨k, hk, rfl, h1, h2, h3, hb⟩ := hrel
    by_cases hlt : k < 16
    · obtain ⟨hc, hf⟩ := h1 k hlt
      rw [mixk_at _ _ _ _ (Nat.le_refl _)] at hc
      have hw := (h2 k hlt).1
      have HS := hid (h1.set k (x k ^^^ y k) hlt)
      have H2 := hid h2
      have H3 := hid h3
      have HX := hid (xor8 (ox k) (oy k))
      have kI : (k : Int) < 16 := by omega
      clear h1 h2 h3
      go_wp2
      go_region
      go_wp2
      go_roundw
      case rel =>
        refine ⟨k + 1, by omega, by go_num, ?_, ?_, ?_, (hb.drew).setCell (by simp) _⟩
        · rw [HX.out]
          exact HS.out.drew.same fun t _ => mixk_step (fun j => x j ^^^ y j) _ k t
        · exact (H2.out.beside (by omega) _ _).drew
        · exact (H3.out.beside (by omega) _ _).drew
      case measure => simp [intOf]; omega
    · obtain rfl : k = 16 := by omega
      have h4 := h3.put (mixk (fun j => x j ^^^ y j) x 16)
      go_wp2_with (first | (refine wpList_load_arr rfl 35 _ rfl _ rfl 16 _ h1 _ Try.underlying35 rfl Try.sizeBlock ?_) | (refine wpList_store_arr rfl 35 _ _ rfl _ 16 _ rfl rfl _ h3 Try.sizeBlock ?_))
      refine bodyPost_ret (v := .agg (vals 16 fun j => x j ^^^ y j).toArray) ?_ rfl ⟨rfl, below_setCells _ 0 hb (by omega)⟩
      have h5 := h4.same fun t ht => mixk_full _ _ 16 t ht
      exact results_cell_arr rfl _ _ 16 _ _ rfl h5 Try.underlying35 rfl Try.sizeBlock

/-- The element 1. -/
def oneB (j : Nat) : Nat := if j = 0 then 128 else 0
theorem oneB_lt (j : Nat) : oneB j < 256 := by unfold oneB; split <;> omega
theorem el_one : el oneB = G.one := by decide
theorem one_vals : (vals 16 oneB).toArray = #[.int .u8 128, .int .u8 0, .int .u8 0, .int .u8 0, .int .u8 0, .int .u8 0, .int .u8 0, .int .u8 0, .int .u8 0, .int .u8 0, .int .u8 0, .int .u8 0, .int .u8 0, .int .u8 0, .int .u8 0, .int .u8 0] := by kernel_rfl

/-- The chapter's example. -/
def kH (j : Nat) : Nat := [0x66, 0xe9, 0x4b, 0xd4, 0xef, 0x8a, 0x2c, 0x3b, 0x88, 0x4c, 0xfa, 0x59, 0xca, 0x34, 0x2b, 0x2e].getD j 0
def kT (j : Nat) : Nat := [0x03, 0x88, 0xda, 0xce, 0x60, 0xb6, 0xa3, 0x92, 0xf3, 0x28, 0xc2, 0xb9, 0x71, 0xb2, 0xfe, 0x78].getD j 0
def kS (j : Nat) : Nat := [0xf3, 0x8c, 0xbb, 0x1a, 0xd6, 0x92, 0x23, 0xdc, 0xc3, 0x45, 0x7a, 0xe5, 0xb6, 0xb0, 0xf8, 0x85].getD j 0
theorem getD_lt {l : List Nat} (h : ∀ x ∈ l, x < 256) (j : Nat) : l.getD j 0 < 256 := by
  rw [List.getD_eq_getElem?_getD]
  by_cases hj : j < l.length
  · rw [List.getElem?_eq_getElem hj]; exact h _ (List.getElem_mem hj)
  · rw [List.getElem?_eq_none (by omega)]; decide
theorem kH_lt (j : Nat) : kH j < 256 := getD_lt (by decide) j
theorem kT_lt (j : Nat) : kT j < 256 := getD_lt (by decide) j
theorem kS_lt (j : Nat) : kS j < 256 := getD_lt (by decide) j
theorem kH_vals : (vals 16 kH).toArray = #[.int .u8 0x66, .int .u8 0xe9, .int .u8 0x4b, .int .u8 0xd4, .int .u8 0xef, .int .u8 0x8a, .int .u8 0x2c, .int .u8 0x3b, .int .u8 0x88, .int .u8 0x4c, .int .u8 0xfa, .int .u8 0x59, .int .u8 0xca, .int .u8 0x34, .int .u8 0x2b, .int .u8 0x2e] := by kernel_rfl
theorem kT_vals : (vals 16 kT).toArray = #[.int .u8 0x03, .int .u8 0x88, .int .u8 0xda, .int .u8 0xce, .int .u8 0x60, .int .u8 0xb6, .int .u8 0xa3, .int .u8 0x92, .int .u8 0xf3, .int .u8 0x28, .int .u8 0xc2, .int .u8 0xb9, .int .u8 0x71, .int .u8 0xb2, .int .u8 0xfe, .int .u8 0x78] := by kernel_rfl
theorem kS_vals : (vals 16 kS).toArray = #[.int .u8 0xf3, .int .u8 0x8c, .int .u8 0xbb, .int .u8 0x1a, .int .u8 0xd6, .int .u8 0x92, .int .u8 0x23, .int .u8 0xdc, .int .u8 0xc3, .int .u8 0x45, .int .u8 0x7a, .int .u8 0xe5, .int .u8 0xb6, .int .u8 0xb0, .int .u8 0xf8, .int .u8 0x85] := by kernel_rfl
set_option maxRecDepth 100000 in
theorem known_sum : sumN (el kH) [] (row kT 16) = el kS := by
  have h : (G.mulE 128 (el kT) (el kH) 0 fun v => G.force (v ^^^ 128) fun v => G.mulE 128 v (el kH) 0 fun u => Nat.beq u (el kS)) = true := by decide +kernel
  rw [G.mulE_eq, G.force_eq, G.mulE_eq, ← G.mul_R, ← G.mul_R] at h
  have h2 := Nat.eq_of_beq_eq_true h
  rw [sumN, tkL_nil, tkL_one _ _ (row_length kT 16), blk_row, Nat.zero_xor, row_length]
  exact h2
theorem cmp_known {y : Nat → Nat} (oy : ∀ j, y j < 256) (h : el y = el kS) (w : World) :
    (Op.equalIn 10000 35 (.agg (vals 16 y).toArray) (.agg #[.int .u8 0xf3, .int .u8 0x8c, .int .u8 0xbb, .int .u8 0x1a, .int .u8 0xd6, .int .u8 0x92, .int .u8 0x23, .int .u8 0xdc, .int .u8 0xc3, .int .u8 0x45, .int .u8 0x7a, .int .u8 0xe5, .int .u8 0xb6, .int .u8 0xb0, .int .u8 0xf8, .int .u8 0x85])).run Try.prog w = .ok true w := by
  have := cmp_yes oy kS_lt h w
  rwa [kS_vals] at this

set_option maxHeartbeats 1000000 in
set_option maxRecDepth 100000 in
theorem one_of (w : World) : Calls Try.prog 28 #[] w fun e w' => e = .returned (.agg (vals 16 oneB).toArray) ∧ Below w.heap.size w w' := by
  have hzb := Try.zeroBlock
  have hn := arr_new w 16 (fun _ => 0) 35
  have hb := (Below.refl w.heap.size w).alloc (Nat.le_refl _) (.cells (vals 16 fun _ => 0).toArray 35)
  go_enter Try.func28, Try.ntmps28
  go_wp2_with (refine wpList_store_arr rfl 35 _ _ rfl w.heap.size 16 oneB rfl (by kernel_rfl) (fun _ => 0) ?_ Try.sizeBlock ?_; exact hn)
  refine bodyPost_ret (v := .agg (vals 16 oneB).toArray) ?_ rfl ⟨rfl, below_setCells _ 0 hb (Nat.le_refl _)⟩
  exact results_cell_arr rfl _ _ 16 _ _ rfl (hn.put _) Try.underlying35 rfl Try.sizeBlock
end Go.Proofs.Ytdifilcgammniaa
