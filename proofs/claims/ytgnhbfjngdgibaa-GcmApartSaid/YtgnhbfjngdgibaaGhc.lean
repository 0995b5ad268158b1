/-
  Elements compared; the element 1; the chapter's example, reckoned.
-/
import Derived.Test.YtgnhbfjngdgibaaKa
import Derived.Test.YtgnhbfjngdgibaaKh
import Derived.Test.YtgnhbfjngdgibaaGhi
namespace Go.Proofs.Ytgnhbfjngdgibaa
open Go.RowKit
set_option linter.unusedVariables false
set_option linter.unusedSimpArgs false

theorem all_el {x y : Nat → Nat} (ox : ∀ j, x j < 256) (oy : ∀ j, y j < 256) : ((List.range 16).all fun i => x i == y i) = (el x == el y) := by
  rw [Bool.eq_iff_iff, List.all_eq_true, beq_iff_eq]
  constructor
  · intro h
    exact el_congr fun j hj => by
      have := h j (List.mem_range.2 hj)
      rwa [beq_iff_eq] at this
  · intro h j hj
    rw [beq_iff_eq]
    exact el_inj ox oy h j (List.mem_range.1 hj)
/-- Two elements compared. -/
theorem cmp16 {x y : Nat → Nat} (ox : ∀ j, x j < 256) (oy : ∀ j, y j < 256) (w : World) :
    (Op.equalIn 10000 44 (.agg (vals 16 x).toArray) (.agg (vals 16 y).toArray)).run Try.prog w = .ok (el x == el y) w := by
  obtain ⟨i, hi⟩ := Try.sizeU8
  have h1 := run_equalIn_array (P := Try.prog) w 9999 (vals 16 x).toArray (vals 16 y).toArray Try.underlying44 hi
  rw [Try.cellsU8, items_u8 16 9998 x y w _ (by simp), all_el ox oy] at h1
  exact h1
theorem cmp_yes {x y : Nat → Nat} (ox : ∀ j, x j < 256) (oy : ∀ j, y j < 256) (h : el x = el y) (w : World) :
    (Op.equalIn 10000 44 (.agg (vals 16 x).toArray) (.agg (vals 16 y).toArray)).run Try.prog w = .ok true w := by
  have := cmp16 ox oy w
  rwa [h, beq_self_eq_true] at this

/-- What a loop over an element keeps: the array that is written, the other one, and the result's. -/
def Trio (w wr : World) (x y : Nat → Nat) : Prop := Arr wr w.heap.size 16 x ∧ Arr wr (w.heap.size + 1) 16 y ∧ Arr wr (w.heap.size + 1 + 1) 16 (fun _ => 0) ∧ Below w.heap.size w wr

/-- The element 1. -/
def oneB (j : Nat) : Nat := if j = 0 then 128 else 0
theorem oneB_lt (j : Nat) : oneB j < 256 := by unfold oneB; split <;> omega
theorem el_one : el oneB = G.one := by decide
theorem one_vals : (vals 16 oneB).toArray = #[.int .u8 128, .int .u8 0, .int .u8 0, .int .u8 0, .int .u8 0, .int .u8 0, .int .u8 0, .int .u8 0, .int .u8 0, .int .u8 0, .int .u8 0, .int .u8 0, .int .u8 0, .int .u8 0, .int .u8 0, .int .u8 0] := by kernel_rfl

/-- The chapter's example. -/
def kH (j : Nat) : Nat := [0x66, 0xe9, 0x4b, 0xd4, 0xef, 0x8a, 0x2c, 0x3b, 0x88, 0x4c, 0xfa, 0x59, 0xca, 0x34, 0x2b, 0x2e].getD j 0
def kT (j : Nat) : Nat := [0x03, 0x88, 0xda, 0xce, 0x60, 0xb6, 0xa3, 0x92, 0xf3, 0x28, 0xc2, 0xb9, 0x71, 0xb2, 0xfe, 0x78].getD j 0
def kS (j : Nat) : Nat := [0xf3, 0x8c, 0xbb, 0x1a, 0xd6, 0x92, 0x23, 0xdc, 0xc3, 0x45, 0x7a, 0xe5, 0xb6, 0xb0, 0xf8, 0x85].getD j 0
theorem getD_lt {l : List Nat} (h : ∀ x ∈ l, x < 256) (j : Nat) : l.getD j 0 < 256 := by
  rw [List.getD_eq_getElem?_getD]
  by_cases hj : j < l.length
  · rw [List.getElem?_eq_getElem hj]; exact h _ (List.getElem_mem hj)
  · rw [List.getElem?_eq_none (by omega)]; decide
theorem kH_lt (j : Nat) : kH j < 256 := getD_lt (by decide) j
theorem kT_lt (j : Nat) : kT j < 256 := getD_lt (by decide) j
theorem kS_lt (j : Nat) : kS j < 256 := getD_lt (by decide) j
theorem kH_vals : (vals 16 kH).toArray = #[.int .u8 0x66, .int .u8 0xe9, .int .u8 0x4b, .int .u8 0xd4, .int .u8 0xef, .int .u8 0x8a, .int .u8 0x2c, .int .u8 0x3b, .int .u8 0x88, .int .u8 0x4c, .int .u8 0xfa, .int .u8 0x59, .int .u8 0xca, .int .u8 0x34, .int .u8 0x2b, .int .u8 0x2e] := by kernel_rfl
theorem kT_vals : (vals 16 kT).toArray = #[.int .u8 0x03, .int .u8 0x88, .int .u8 0xda, .int .u8 0xce, .int .u8 0x60, .int .u8 0xb6, .int .u8 0xa3, .int .u8 0x92, .int .u8 0xf3, .int .u8 0x28, .int .u8 0xc2, .int .u8 0xb9, .int .u8 0x71, .int .u8 0xb2, .int .u8 0xfe, .int .u8 0x78] := by kernel_rfl
theorem kS_vals : (vals 16 kS).toArray = #[.int .u8 0xf3, .int .u8 0x8c, .int .u8 0xbb, .int .u8 0x1a, .int .u8 0xd6, .int .u8 0x92, .int .u8 0x23, .int .u8 0xdc, .int .u8 0xc3, .int .u8 0x45, .int .u8 0x7a, .int .u8 0xe5, .int .u8 0xb6, .int .u8 0xb0, .int .u8 0xf8, .int .u8 0x85] := by kernel_rfl
set_option maxRecDepth 100000 in
theorem known_sum : sumN (el kH) [] (row kT 16) = el kS := by
  have h : (G.mulE 128 (el kT) (el kH) 0 fun v => G.force (v ^^^ 128) fun v => G.mulE 128 v (el kH) 0 fun u => Nat.beq u (el kS)) = true := by decide +kernel
  rw [G.mulE_eq, G.force_eq, G.mulE_eq, ← G.mul_R, ← G.mul_R] at h
  have h2 := Nat.eq_of_beq_eq_true h
  rw [sumN, tkL_nil, tkL_one _ _ (row_length kT 16), blk_row, Nat.zero_xor, row_length]
  exact h2
theorem cmp_known {y : Nat → Nat} (oy : ∀ j, y j < 256) (h : el y = el kS) (w : World) :
    (Op.equalIn 10000 44 (.agg (vals 16 y).toArray) (.agg #[.int .u8 0xf3, .int .u8 0x8c, .int .u8 0xbb, .int .u8 0x1a, .int .u8 0xd6, .int .u8 0x92, .int .u8 0x23, .int .u8 0xdc, .int .u8 0xc3, .int .u8 0x45, .int .u8 0x7a, .int .u8 0xe5, .int .u8 0xb6, .int .u8 0xb0, .int .u8 0xf8, .int .u8 0x85])).run Try.prog w = .ok true w := by
  have := cmp_yes oy kS_lt h w
  rwa [kS_vals] at this

end Go.Proofs.Ytgnhbfjngdgibaa
