/-
  Words that stand on no function of the program: what a slice of bytes reads as, which numbers are bytes, the number of some bytes.
-/
import Derived.Test.YtadpnkecdjleiaaProg
import Derived.WalkKit
import Derived.Laws.BytesArg
import Derived.Laws.BitsAllLaws
namespace Go.Proofs.Ytadpnkecdjleiaa
open Go.RowKit

theorem hid {p : Prop} (h : p) : Hid p := h

/-- A slice value with the address p, of as many elements as xs has, reads as the numbers xs. -/
def Bin (w : World) (p : Option Addr) (xs : List Int) : Prop :=
  0 < xs.length → ∃ b o, p = some ⟨b, o, none⟩ ∧ ∀ i, i < xs.length → w.cell? ⟨b, o + i, none⟩ = some (.int .u8 (xs.getD i 0))

/-- Each number is a byte. -/
def Oct (xs : List Int) : Prop := ∀ x ∈ xs, 0 ≤ x ∧ x ≤ 255

theorem Oct.at {xs : List Int} (h : Oct xs) (i : Nat) : 0 ≤ xs.getD i 0 ∧ xs.getD i 0 ≤ 255 := by
  rw [List.getD_eq_getElem?_getD]
  by_cases hi : i < xs.length
  · rw [List.getElem?_eq_getElem hi]
    exact h _ (List.getElem_mem hi)
  · rw [List.getElem?_eq_none (by omega)]
    simp

theorem Oct.take {xs : List Int} (h : Oct xs) (n : Nat) : Oct (xs.take n) := fun x hx => h x (List.mem_of_mem_take hx)
theorem Oct.nil : Oct [] := fun x hx => by simp at hx

theorem Bin.at {w : World} {p : Option Addr} {xs : List Int} (h : Bin w p xs) (hn : 0 < xs.length) :
    ∃ b o, p = some ⟨b, o, none⟩ ∧ b < w.heap.size ∧ ∀ i, i < xs.length → w.cell? ⟨b, o + i, none⟩ = some (.int .u8 (xs.getD i 0)) := by
  obtain ⟨b, o, rfl, hc⟩ := h hn
  exact ⟨b, o, rfl, World.block_lt_of_cell? w _ (hc 0 hn), hc⟩

/-- As the row's step hands it over. -/
theorem bin_of_cells {w : World} {a : Addr} {zs : List Int} {n : Nat} (hc : ∀ i, i < zs.length → w.cell? (a.add i) = some (.int .u8 (zs.getD i 0))) (hn : n ≤ zs.length) : Bin w (some a) (zs.take n) := fun h => by
  have hl : (zs.take n).length = n := by simp; omega
  obtain ⟨b, o, s⟩ := a
  obtain rfl : s = none := by simpa [Addr.add] using World.cell?_spot (hc 0 (by omega))
  refine ⟨b, o, rfl, fun i hi => ?_⟩
  rw [← Addr.add_lit, hc i (by omega)]
  congr 2
  rw [List.getD_eq_getElem?_getD, List.getD_eq_getElem?_getD, List.getElem?_take, if_pos (by omega)]

theorem oct_of_wf {zs : List Int} {n : Nat} (h : ∀ x ∈ zs, (Lit.int .u8 x).wf = true) : Oct (zs.take n) := fun x hx => by
  have := h x (List.mem_of_mem_take hx)
  simpa [Lit.wf, IntKind.min, IntKind.max, IntKind.signed, IntKind.bits] using this

theorem u64_of_wf {x : Int} (h : (Lit.int .u64 x).wf = true) : 0 ≤ x ∧ x ≤ 18446744073709551615 := by
  simpa [Lit.wf, IntKind.min, IntKind.max, IntKind.signed, IntKind.bits] using h
theorem i64_of_wf {x : Int} (h : (Lit.int .i64 x).wf = true) : -9223372036854775808 ≤ x ∧ x ≤ 9223372036854775807 := by
  simpa [Lit.wf, IntKind.min, IntKind.max, IntKind.signed, IntKind.bits] using h
theorem u8_of_wf {x : Int} (h : (Lit.int .u8 x).wf = true) : 0 ≤ x ∧ x ≤ 255 := by
  simpa [Lit.wf, IntKind.min, IntKind.max, IntKind.signed, IntKind.bits] using h

theorem Bin.nil (w : World) (p : Option Addr) : Bin w p [] := fun h => absurd h (Nat.lt_irrefl 0)

theorem Bin.below {w w' : World} {p : Option Addr} {xs : List Int} (h : Bin w p xs) (hb : Below w.heap.size w w') : Bin w' p xs := fun hn => by
  obtain ⟨b, o, rfl, hlt, hc⟩ := h.at hn
  exact ⟨b, o, rfl, fun i hi => (hb.cell (p := ⟨b, o + i, none⟩) hlt).trans (hc i hi)⟩

/-- The number of some bytes, the first one counting most. -/
def num (l : List Int) : Int := l.foldl (fun n x => 256 * n + x) 0

theorem num_nil : num [] = 0 := rfl
theorem num_snoc (l : List Int) (x : Int) : num (l ++ [x]) = 256 * num l + x := by simp [num]
theorem take_snoc (l : List Int) (k : Nat) (h : k < l.length) : l.take (k + 1) = l.take k ++ [l.getD k 0] := by
  rw [List.take_succ_eq_append_getElem h, List.getD_eq_getElem?_getD, List.getElem?_eq_getElem h]
  rfl
theorem num_succ (l : List Int) (k : Nat) (h : k < l.length) : num (l.take (k + 1)) = 256 * num (l.take k) + l.getD k 0 := by
  rw [take_snoc l k h, num_snoc]

/-- Induction from the end. -/
theorem snoc_ind {α : Type} {Q : List α → Prop} (h0 : Q []) (hs : ∀ l x, Q l → Q (l ++ [x])) (l : List α) : Q l := by
  have h : ∀ r : List α, Q r.reverse := by
    intro r
    induction r with
    | nil => exact h0
    | cons x r ih => rw [List.reverse_cons]; exact hs _ _ ih
  have := h l.reverse
  rwa [List.reverse_reverse] at this

theorem num_bound (l : List Int) (h : Oct l) : 0 ≤ num l ∧ num l < 256 ^ l.length := by
  revert h
  refine snoc_ind (Q := fun l => Oct l → 0 ≤ num l ∧ num l < 256 ^ l.length) ?_ ?_ l
  · intro _
    simp [num]
  · intro l x ih h
    have ho : Oct l := fun y hy => h y (by simp [hy])
    have hx := h x (by simp)
    obtain ⟨h0, h1⟩ := ih ho
    rw [num_snoc, List.length_append, List.length_singleton, Int.pow_succ]
    constructor
    · omega
    · omega

theorem pow256 (k : Nat) (h : k ≤ 7) : (256 : Int) ^ k ≤ 72057594037927936 := by
  rcases (show k = 0 ∨ k = 1 ∨ k = 2 ∨ k = 3 ∨ k = 4 ∨ k = 5 ∨ k = 6 ∨ k = 7 from by omega) with rfl | rfl | rfl | rfl | rfl | rfl | rfl | rfl <;> decide

/-- The number of at most seven bytes has room for one more. -/
theorem num_take7 (xs : List Int) (h : Oct xs) (k : Nat) (hk : k ≤ 7) : 0 ≤ num (xs.take k) ∧ num (xs.take k) ≤ 72057594037927935 := by
  have hn := num_bound (xs.take k) (h.take k)
  have hp := pow256 (xs.take k).length (by have := List.length_take_le k xs; omega)
  omega

theorem Oct.lt {xs : List Int} (h : Oct xs) (i : Nat) (hi : i < xs.length) : 0 ≤ xs[i] ∧ xs[i] ≤ 255 := h _ (List.getElem_mem hi)

theorem ret_int {k : IntKind} {a b : Int} (h : a = b) : Ending.returned (.int k a) = .returned (.int k b) := by rw [h]
theorem ret_bool {a b : Bool} (h : a = b) : Ending.returned (.bool a) = .returned (.bool b) := by rw [h]
theorem ret_int2 {k : IntKind} {a b : Int} {v : Value} (h : a = b) : Ending.returned (.tuple #[.int k a, v]) = .returned (.tuple #[.int k b, v]) := by rw [h]

/-- Eight bits more. -/
theorem or_u64 (n x : Int) (h0 : 0 ≤ n) (h1 : n ≤ 72057594037927935) (h2 : 0 ≤ x) (h3 : x ≤ 255) : bits .or .u64 (n * 256) x = 256 * n + x := by
  rw [u64_or _ _ (by omega) (by omega) h2 (by omega), nat_join 8 _ _ (by omega) (by omega)]
  omega

/-- The last j bytes of a number. -/
def be : Nat → Int → List Int
  | 0, _ => []
  | j + 1, n => (n / 256 ^ j % 256) :: be j n

theorem be_length (j : Nat) (n : Int) : (be j n).length = j := by
  induction j with
  | zero => rfl
  | succ j ih => simp [be, ih]

theorem be_oct (j : Nat) (n : Int) : Oct (be j n) := by
  induction j with
  | zero => exact Oct.nil
  | succ j ih =>
    intro x hx
    simp only [be, List.mem_cons] at hx
    rcases hx with rfl | hx
    · omega
    · exact ih x hx

/-- The bytes as they stand when j of them are written, from the end. -/
def part (size j : Nat) (n : Int) : List Int := List.replicate (size - j) 0 ++ be j n

theorem part_length (size j : Nat) (n : Int) (h : j ≤ size) : (part size j n).length = size := by simp [part, be_length]; omega
theorem part_zero (size : Nat) (n : Int) : part size 0 n = List.replicate size 0 := by simp [part, be]
theorem part_full (size : Nat) (n : Int) : part size size n = be size n := by simp [part]
theorem part_set (size j : Nat) (n : Int) (h : j < size) : (part size j n).set (size - 1 - j) (n / 256 ^ j % 256) = part size (j + 1) n := by
  unfold part
  rw [show size - j = (size - 1 - j) + 1 from by omega, show size - (j + 1) = size - 1 - j from by omega, List.replicate_succ', List.append_assoc]
  rw [List.set_append_right _ _ (by simp)]
  simp [be]

theorem div_succ (n : Int) (j : Nat) : n / 256 ^ (j + 1) = n / 256 ^ j / 256 := by
  rw [Int.pow_succ, Int.ediv_ediv_of_nonneg (Int.le_of_lt (Int.pow_pos (by decide)))]

end Go.Proofs.Ytadpnkecdjleiaa
