/-
  Base, Own, Put1, Copy, Rsame, Apb, Xor, Vals, Osl, Mid, Aeq, Last, Las3, Ars, Arn, Arn2, Apz, in one text.
-/
import Derived.Test.YtlbhoijjbpjmoaaProg
import Derived.WalkKit
import Derived.Laws.BytesArg
import Derived.Laws.BitsAllLaws
import Derived.Laws.CopyOwn
import Derived.Deep.AppendLies
import Derived.Deep.RegionLaw
import Derived.Deep.QuietTactic
import Derived.BigQuiet
import Derived.BigRegion
import Derived.OpenShut
import Derived.Laws.Rows
import Derived.Deep.MidRow
import Derived.Deep.RegionHeld3
import Derived.ChangeKeysEq
import Derived.OrdersHeld
import Derived.StillTail
import Derived.Lib.AppendZeros
import Derived.Laws.OwnMore
/-
  Words that stand on no function of the program: what a slice of bytes reads as, which numbers are bytes, the number of some bytes.
-/
namespace Go.Proofs.Ytlbhoijjbpjmoaa
open Go.RowKit

theorem hid {p : Prop} (h : p) : Hid p := h

/-- A slice value with the address p, of as many elements as xs has, reads as the numbers xs. -/
def Bin (w : World) (p : Option Addr) (xs : List Int) : Prop :=
  0 < xs.length → ∃ b o, p = some ⟨b, o, none⟩ ∧ ∀ i, i < xs.length → w.cell? ⟨b, o + i, none⟩ = some (.int .u8 (xs.getD i 0))

/-- Each number is a byte. -/
def Oct (xs : List Int) : Prop := ∀ x ∈ xs, 0 ≤ x ∧ x ≤ 255

theorem Oct.at {xs : List Int} (h : Oct xs) (i : Nat) : 0 ≤ xs.getD i 0 ∧ xs.getD i 0 ≤ 255 := by
  rw [List.getD_eq_getElem?_getD]
  by_cases hi : i < xs.length
  · rw [List.getElem?_eq_getElem hi]
    exact h _ (List.getElem_mem hi)
  · rw [List.getElem?_eq_none (by omega)]
    simp

theorem Oct.take {xs : List Int} (h : Oct xs) (n : Nat) : Oct (xs.take n) := fun x hx => h x (List.mem_of_mem_take hx)
theorem Oct.nil : Oct [] := fun x hx => by simp at hx

theorem Bin.at {w : World} {p : Option Addr} {xs : List Int} (h : Bin w p xs) (hn : 0 < xs.length) :
    ∃ b o, p = some ⟨b, o, none⟩ ∧ b < w.heap.size ∧ ∀ i, i < xs.length → w.cell? ⟨b, o + i, none⟩ = some (.int .u8 (xs.getD i 0)) := by
  obtain ⟨b, o, rfl, hc⟩ := h hn
  exact ⟨b, o, rfl, World.block_lt_of_cell? w _ (hc 0 hn), hc⟩

/-- As the row's step hands it over. -/
theorem bin_of_cells {w : World} {a : Addr} {zs : List Int} {n : Nat} (hc : ∀ i, i < zs.length → w.cell? (a.add i) = some (.int .u8 (zs.getD i 0))) (hn : n ≤ zs.length) : Bin w (some a) (zs.take n) := fun h => by
  have hl : (zs.take n).length = n := by simp; omega
  obtain ⟨b, o, s⟩ := a
  obtain rfl : s = none := by simpa [Addr.add] using World.cell?_spot (hc 0 (by omega))
  refine ⟨b, o, rfl, fun i hi => ?_⟩
  rw [← Addr.add_lit, hc i (by omega)]
  congr 2
  rw [List.getD_eq_getElem?_getD, List.getD_eq_getElem?_getD, List.getElem?_take, if_pos (by omega)]

theorem oct_of_wf {zs : List Int} {n : Nat} (h : ∀ x ∈ zs, (Lit.int .u8 x).wf = true) : Oct (zs.take n) := fun x hx => by
  have := h x (List.mem_of_mem_take hx)
  simpa [Lit.wf, IntKind.min, IntKind.max, IntKind.signed, IntKind.bits] using this

theorem u64_of_wf {x : Int} (h : (Lit.int .u64 x).wf = true) : 0 ≤ x ∧ x ≤ 18446744073709551615 := by
  simpa [Lit.wf, IntKind.min, IntKind.max, IntKind.signed, IntKind.bits] using h
theorem i64_of_wf {x : Int} (h : (Lit.int .i64 x).wf = true) : -9223372036854775808 ≤ x ∧ x ≤ 9223372036854775807 := by
  simpa [Lit.wf, IntKind.min, IntKind.max, IntKind.signed, IntKind.bits] using h
theorem u8_of_wf {x : Int} (h : (Lit.int .u8 x).wf = true) : 0 ≤ x ∧ x ≤ 255 := by
  simpa [Lit.wf, IntKind.min, IntKind.max, IntKind.signed, IntKind.bits] using h

theorem Bin.nil (w : World) (p : Option Addr) : Bin w p [] := fun h => absurd h (Nat.lt_irrefl 0)

theorem Bin.below {w w' : World} {p : Option Addr} {xs : List Int} (h : Bin w p xs) (hb : Below w.heap.size w w') : Bin w' p xs := fun hn => by
  obtain ⟨b, o, rfl, hlt, hc⟩ := h.at hn
  exact ⟨b, o, rfl, fun i hi => (hb.cell (p := ⟨b, o + i, none⟩) hlt).trans (hc i hi)⟩

/-- The number of some bytes, the first one counting most. -/
def num (l : List Int) : Int := l.foldl (fun n x => 256 * n + x) 0

theorem num_nil : num [] = 0 := rfl
theorem num_snoc (l : List Int) (x : Int) : num (l ++ [x]) = 256 * num l + x := by simp [num]
theorem take_snoc (l : List Int) (k : Nat) (h : k < l.length) : l.take (k + 1) = l.take k ++ [l.getD k 0] := by
  rw [List.take_succ_eq_append_getElem h, List.getD_eq_getElem?_getD, List.getElem?_eq_getElem h]
  rfl
theorem num_succ (l : List Int) (k : Nat) (h : k < l.length) : num (l.take (k + 1)) = 256 * num (l.take k) + l.getD k 0 := by
  rw [take_snoc l k h, num_snoc]

/-- Induction from the end. -/
theorem snoc_ind {α : Type} {Q : List α → Prop} (h0 : Q []) (hs : ∀ l x, Q l → Q (l ++ [x])) (l : List α) : Q l := by
  have h : ∀ r : List α, Q r.reverse := by
    intro r
    induction r with
    | nil => exact h0
    | cons x r ih => rw [List.reverse_cons]; exact hs _ _ ih
  have := h l.reverse
  rwa [List.reverse_reverse] at this

theorem num_bound (l : List Int) (h : Oct l) : 0 ≤ num l ∧ num l < 256 ^ l.length := by
  revert h
  refine snoc_ind (Q := fun l => Oct l → 0 ≤ num l ∧ num l < 256 ^ l.length) ?_ ?_ l
  · intro _
    simp [num]
  · intro l x ih h
    have ho : Oct l := fun y hy => h y (by simp [hy])
    have hx := h x (by simp)
    obtain ⟨h0, h1⟩ := ih ho
    rw [num_snoc, List.length_append, List.length_singleton, Int.pow_succ]
    constructor
    · omega
    · omega

theorem pow256 (k : Nat) (h : k ≤ 7) : (256 : Int) ^ k ≤ 72057594037927936 := by
  rcases (show k = 0 ∨ k = 1 ∨ k = 2 ∨ k = 3 ∨ k = 4 ∨ k = 5 ∨ k = 6 ∨ k = 7 from by omega) with rfl | rfl | rfl | rfl | rfl | rfl | rfl | rfl <;> decide

/-- The number of at most seven bytes has room for one more. -/
theorem num_take7 (xs : List Int) (h : Oct xs) (k : Nat) (hk : k ≤ 7) : 0 ≤ num (xs.take k) ∧ num (xs.take k) ≤ 72057594037927935 := by
  have hn := num_bound (xs.take k) (h.take k)
  have hp := pow256 (xs.take k).length (by have := List.length_take_le k xs; omega)
  omega

theorem Oct.lt {xs : List Int} (h : Oct xs) (i : Nat) (hi : i < xs.length) : 0 ≤ xs[i] ∧ xs[i] ≤ 255 := h _ (List.getElem_mem hi)

theorem ret_int {k : IntKind} {a b : Int} (h : a = b) : Ending.returned (.int k a) = .returned (.int k b) := by rw [h]
theorem ret_bool {a b : Bool} (h : a = b) : Ending.returned (.bool a) = .returned (.bool b) := by rw [h]
theorem ret_int2 {k : IntKind} {a b : Int} {v : Value} (h : a = b) : Ending.returned (.tuple #[.int k a, v]) = .returned (.tuple #[.int k b, v]) := by rw [h]

/-- Eight bits more. -/
theorem or_u64 (n x : Int) (h0 : 0 ≤ n) (h1 : n ≤ 72057594037927935) (h2 : 0 ≤ x) (h3 : x ≤ 255) : bits .or .u64 (n * 256) x = 256 * n + x := by
  rw [u64_or _ _ (by omega) (by omega) h2 (by omega), nat_join 8 _ _ (by omega) (by omega)]
  omega

/-- The last j bytes of a number. -/
def be : Nat → Int → List Int
  | 0, _ => []
  | j + 1, n => (n / 256 ^ j % 256) :: be j n

theorem be_length (j : Nat) (n : Int) : (be j n).length = j := by
  induction j with
  | zero => rfl
  | succ j ih => simp [be, ih]

theorem be_oct (j : Nat) (n : Int) : Oct (be j n) := by
  induction j with
  | zero => exact Oct.nil
  | succ j ih =>
    intro x hx
    simp only [be, List.mem_cons] at hx
    rcases hx with rfl | hx
    · omega
    · exact ih x hx

/-- The bytes as they stand when j of them are written, from the end. -/
def part (size j : Nat) (n : Int) : List Int := List.replicate (size - j) 0 ++ be j n

theorem part_length (size j : Nat) (n : Int) (h : j ≤ size) : (part size j n).length = size := by simp [part, be_length]; omega
theorem part_zero (size : Nat) (n : Int) : part size 0 n = List.replicate size 0 := by simp [part, be]
theorem part_full (size : Nat) (n : Int) : part size size n = be size n := by simp [part]
theorem part_set (size j : Nat) (n : Int) (h : j < size) : (part size j n).set (size - 1 - j) (n / 256 ^ j % 256) = part size (j + 1) n := by
  unfold part
  rw [show size - j = (size - 1 - j) + 1 from by omega, show size - (j + 1) = size - 1 - j from by omega, List.replicate_succ', List.append_assoc]
  rw [List.set_append_right _ _ (by simp)]
  simp [be]

theorem div_succ (n : Int) (j : Nat) : n / 256 ^ (j + 1) = n / 256 ^ j / 256 := by
  rw [Int.pow_succ, Int.ediv_ediv_of_nonneg (Int.le_of_lt (Int.pow_pos (by decide)))]

end Go.Proofs.Ytlbhoijjbpjmoaa

/-
  A slice of bytes that the call itself made: what it holds, how it is read, and that a store keeps it.
-/
namespace Go.Proofs.Ytlbhoijjbpjmoaa
open Go.RowKit

theorem Try.infoU8 : (Try.prog.info? 5).map (fun i => (i.zero, i.size, i.bytes)) = some (some (.int .u8 0), 1, 1) := by kernel_rfl

/-- The slice value v, of n elements, lies in a block of the call's own (from B on), or is nil, and holds the numbers xs. -/
def Own (B : Nat) (w : World) (v : Value) (n : Nat) (xs : List Int) : Prop := w.ownsRow B 5 1 v n (xs.map (Value.int .u8))

theorem made_u8 (n : Nat) : (madeCells (Value.int .u8 0).cells (n * 1)).toList = (List.replicate n 0).map (Value.int .u8) := by
  apply List.ext_getElem
  · simp [madeCells]
  · intro i h1 h2
    simp [madeCells, Value.cells, Nat.mod_one]

theorem Own.len {B : Nat} {w : World} {v : Value} {n : Nat} {xs : List Int} (h : Own B w v n xs) : xs.length = n := by
  have := h.1
  simpa using this

theorem Own.shape {B : Nat} {w : World} {v : Value} {n : Nat} {xs : List Int} (h : Own B w v n xs) :
    (v = .slice none 0 0 ∧ n = 0) ∨ ∃ g cap, v = .slice (some ⟨g, 0, none⟩) n cap ∧ B ≤ g ∧ n ≤ cap := by
  rcases h.2 with ⟨hv, hn⟩ | ⟨g, cap, cur, rfl, hB, _, hc, _⟩
  · exact .inl ⟨hv, hn⟩
  · exact .inr ⟨g, cap, rfl, hB, hc⟩

theorem Own.cellAt {B : Nat} {w : World} {g n cap : Nat} {xs : List Int} (h : Own B w (.slice (some ⟨g, 0, none⟩) n cap) n xs) (j : Nat) (hj : j < n) :
    w.cell? ⟨g, j, none⟩ = some (.int .u8 (xs.getD j 0)) := by
  have hl := h.len
  have e := World.ownsRow.cellAt h j (by omega)
  rw [e, List.getElem?_map, List.getD_eq_getElem?_getD, List.getElem?_eq_getElem (show j < xs.length by omega)]
  rfl

theorem Own.frozenAt {B : Nat} {w : World} {g n cap : Nat} {xs : List Int} (h : Own B w (.slice (some ⟨g, 0, none⟩) n cap) n xs) (j : Nat) : w.frozen? ⟨g, j, none⟩ = false :=
  World.ownsRow.frozenAt h j

theorem Own.stored {B g n cap : Nat} {w : World} {xs : List Int} (h : Own B w (.slice (some ⟨g, 0, none⟩) n cap) n xs) (j : Nat) (x : Int) :
    Own B (w.setCell ⟨g, j, none⟩ (.int .u8 x)) (.slice (some ⟨g, 0, none⟩) n cap) n (xs.set j x) := by
  have := (World.ownsRow.stored h j (.int .u8 x)).1
  unfold Own
  rw [List.map_set]
  exact this

/-- What one's own slice reads as. -/
theorem Own.bin {B n : Nat} {w : World} {v : Value} {xs : List Int} (h : Own B w v n xs) : ∃ p cap, v = .slice p n cap ∧ n ≤ cap ∧ Bin w p xs := by
  have hl := h.len
  rcases h.shape with ⟨rfl, rfl⟩ | ⟨g, cap, rfl, _, hc⟩
  · exact ⟨none, 0, rfl, Nat.le_refl _, fun hn => by omega⟩
  · exact ⟨some ⟨g, 0, none⟩, cap, rfl, hc, fun _ => ⟨g, 0, rfl, fun i hi => by rw [Nat.zero_add]; exact h.cellAt i (by omega)⟩⟩

theorem Own.nil (B : Nat) (w : World) : Own B w (.slice none 0 0) 0 [] := World.ownsRow_nil _ _ _ _

theorem Own.mono {B B' n : Nat} {w : World} {v : Value} {xs : List Int} (h : Own B w v n xs) (hB : B' ≤ B) : Own B' w v n xs := by
  refine ⟨h.1, ?_⟩
  rcases h.2 with h2 | ⟨g, cap, cur, h1, h2, h3⟩
  · exact .inl h2
  · exact .inr ⟨g, cap, cur, h1, Nat.le_trans hB h2, h3⟩

/-- What is below a later world's end stays. -/
theorem Own.below {B n : Nat} {w w' : World} {v : Value} {xs : List Int} (h : Own B w v n xs) (hb : Below w.heap.size w w') : Own B w' v n xs := by
  refine ⟨h.1, ?_⟩
  rcases h.2 with h2 | ⟨g, cap, cur, h1, h2, h3, h4⟩
  · exact .inl h2
  · have hlt : g < w.heap.size := (Array.getElem?_eq_some_iff.1 h3).1
    exact .inr ⟨g, cap, cur, h1, h2, (hb.block g hlt).trans h3, h4⟩

/-- Two new cells, behind a draw. -/
theorem two_new (w : World) (x y : Value) (t : TypeId) : ∀ (j : Nat) u, [x, y][j]? = some u → ((w.alloc (.cells #[x, y] t)).drew).cell? ((⟨w.heap.size, 0, none⟩ : Addr).add j) = some u := by
  intro j u hj
  show (w.alloc (.cells #[x, y] t)).cell? _ = some u
  match j, hj with
  | 0, hj => simp at hj; subst hj; simp [Addr.add]
  | 1, hj => simp at hj; subst hj; simp [Addr.add]
  | n + 2, hj => simp at hj

theorem one_new (w : World) (x : Value) (t : TypeId) : ∀ (j : Nat) u, [x][j]? = some u → ((w.alloc (.cells #[x] t)).drew).cell? ((⟨w.heap.size, 0, none⟩ : Addr).add j) = some u := by
  intro j u hj
  show (w.alloc (.cells #[x] t)).cell? _ = some u
  match j, hj with
  | 0, hj => simp at hj; subst hj; simp [Addr.add]
  | n + 1, hj => simp at hj

theorem int_one (x : Int) : ∀ u ∈ [Value.int .u8 x], u.oneCell' = true := by
  intro u hu
  simp at hu
  subst hu; rfl

theorem ints_one (x y : Int) : ∀ u ∈ [Value.int .u8 x, Value.int .u8 y], u.oneCell' = true := by
  intro u hu
  simp at hu
  rcases hu with rfl | rfl <;> rfl

end Go.Proofs.Ytlbhoijjbpjmoaa

/-
  The contracts of the program's Put, and of the document's Of.
-/
namespace Go.Proofs.Ytlbhoijjbpjmoaa
open Go.RowKit

/-- What both answer: the bytes, or that the number does not fit. -/
def PutAns (n : Int) (size : Nat) (w : World) (ok no : Value) (e : Ending) (w' : World) : Prop :=
  (n / 256 ^ size ≠ 0 → e = .returned (.tuple #[.slice none 0 0, no])) ∧ 
  (n / 256 ^ size = 0 → ∃ v, e = .returned (.tuple #[v, ok]) ∧ Own w.heap.size w' v size (be size n)) ∧ Below w.heap.size w w'

end Go.Proofs.Ytlbhoijjbpjmoaa

/-
  A slice made with spare room; the contract of the document's Copy.
-/
namespace Go.Proofs.Ytlbhoijjbpjmoaa
open Go.RowKit

theorem made_list (z : Value) (n : Nat) (hz : z.cells = #[z]) : madeCells z.cells (n * 1) = (List.replicate n z).toArray := by
  apply Array.ext
  · simp [madeCells]
  · intro i h1 h2
    simp [madeCells, hz, Nat.mod_one]

/-- make([]T, n, c), T of one cell: the row is known whole. -/
theorem wpList_make_cap {P : Program} (w : World) {ops : Array Oper} {rest : List Oper} {o : Oper} {a : Act} {Q : Exit → Act → World → Prop}
    (hg : o.guard = none) (l c : Operand) (t : TypeId) (hop : o.op = Op.makeSlice t l c)
    (e : TypeId) (i : TypeInfo) (z : Value) (hz : z.cells = #[z]) (h1 : P.underlying t = some (.slice e)) (h2 : P.info? e = some i) (h3 : i.zero = some z) (h4 : i.size = 1) (h5 : i.bytes = 1)
    (kl kc : IntKind) (L C : Int) (n m : Nat) (hl : a.eval l = .int kl L) (hc : a.eval c = .int kc C) (hL : L = (n : Int)) (hC : C = (m : Int)) (hnm : n ≤ m) (b2 : m ≤ 281474976710656)
    (hK : ∀ w', w'.heap[w.heap.size]? = some (.cells (List.replicate m z).toArray e (0, 0)) → w.grownBy w' none → wpList P ops Q rest (a.put o.dst (.slice (some ⟨w.heap.size, 0, none⟩) n m)) w') :
    wpList P ops Q (o :: rest) a w := by
  refine wpList_plain hg fun K hK' => ?_
  subst hL hC
  have hr := run_make (P := P) w t e i z h1 h2 h3 kl kc n m (by omega) (by omega) (by rw [h5]; omega) (by omega)
  simp only [Int.toNat_natCast, h4] at hr
  rw [made_list z m hz] at hr
  unfold Oper.wp
  simp [execOp, hop, hl, hc, hr, Result.andThen]
  exact hK' _ _ (hK _ (heap_alloc_new w _) (World.grownBy_alloc w _ none))

set_option maxRecDepth 100000 in
/-- Copy of the document: the same bytes in memory of its own. -/
theorem copy_any (p : Option Addr) (cap : Nat) (xs : List Int) (w : World) (hp : Bin w p xs) (hm : xs.length ≤ 140737488351232) :
    Calls Try.prog 10 #[.slice p xs.length cap] w fun e w' => ∃ g c, e = .returned (.slice (some ⟨g, 0, none⟩) xs.length c) ∧
      Own w.heap.size w' (.slice (some ⟨g, 0, none⟩) xs.length c) xs.length xs ∧ Below w.heap.size w w' := by
  obtain ⟨i0, hi, hz0, hz1, hz2⟩ := info_parts Try.infoU8
  have hsz : (Try.prog.info? 5).map (·.size) = some 1 := by rw [hi]; simp [hz1]
  go_enter Try.func10, Try.ntmps10
  go_wp2_with (first
    | (at_make; refine wpList_make_cap _ rfl _ _ 31 rfl 5 i0 (.int .u8 0) rfl Try.underlying31 hi hz0 hz1 hz2 .i64 .i64 _ _ xs.length (xs.length + 3) rfl rfl rfl (by omega) (by omega) (by omega) ?_; intro w1 hrow hgrow; have HR := hid hrow; have hb1 : Below w.heap.size w w1 := (Below.refl _ _).grown hgrow (Nat.le_refl _) (by simp); clear hrow hgrow)
    | (with_reducible refine wpList_copy_splice rfl (.tmp 10) (.tmp 11) 31 31 rfl 5 Try.underlying31 hsz _ _ _ _ _ _ rfl rfl w.heap.size 0 _ 5 HR.out (xs.map (Value.int .u8)) ?c1 ?c2 ?c3 ?c4 w.heap.size w hb1 (Nat.le_refl _) ?_))
  case c1 => simp
  case c2 =>
    intro h0
    obtain ⟨b, o, rfl, hlb, hc⟩ := (hp.below hb1).at (by simpa using h0)
    refine ⟨⟨b, o, none⟩, rfl, fun j v hj => ?_⟩
    have hjl : j < xs.length := (List.getElem?_eq_some_iff.1 hj).1
    rw [Addr.add_lit, hc j hjl, List.getD_eq_getElem?_getD, hj]
    rfl
  case c3 => simp
  case c4 =>
    intro v hv
    obtain ⟨x, _, rfl⟩ := List.mem_map.1 hv
    rfl
  intro w2 HG hb2
  have HO := hid (show Own w.heap.size w2 (.slice (some ⟨w.heap.size, 0, none⟩) xs.length (xs.length + 3)) xs.length xs from
    ⟨by simp, .inr ⟨w.heap.size, xs.length + 3, _, rfl, Nat.le_refl _, HG.out, by omega, by unfold maxLen; omega, by simp [splice], by simp [splice]⟩⟩)
  clear HG
  go_wp2
  go_ret
  exact ⟨_, _, rfl, HO.out, hb2⟩
end Go.Proofs.Ytlbhoijjbpjmoaa

/-
  The contract of the document's Same.
-/
namespace Go.Proofs.Ytlbhoijjbpjmoaa
open Go.RowKit

/-- Are they the same numbers? -/
def sameB (xs ys : List Int) : Bool := decide (xs = ys)

theorem sameB_iff {xs ys : List Int} : sameB xs ys = true ↔ xs = ys := by simp [sameB]

theorem bytes_inj : ∀ {xs ys : List Int}, Oct xs → Oct ys → xs.map (fun n => UInt8.ofNat n.toNat) = ys.map (fun n => UInt8.ofNat n.toNat) → xs = ys := by
  intro xs ys hx hy h1
  induction xs generalizing ys with
  | nil =>
    cases ys with
    | nil => rfl
    | cons y ys => simp at h1
  | cons x xs ih =>
    cases ys with
    | nil => simp at h1
    | cons y ys =>
      simp only [List.map_cons, List.cons.injEq] at h1
      have hx0 := hx x (by simp)
      have hy0 := hy y (by simp)
      have e : x = y := by
        have := congrArg UInt8.toNat h1.1
        rw [UInt8.toNat_ofNat', UInt8.toNat_ofNat'] at this
        omega
      rw [e, ih (fun z hz => hx z (by simp [hz])) (fun z hz => hy z (by simp [hz])) h1.2]

theorem strOfNums_list (xs : List Int) : (strOfNums xs).toList = xs.map (fun n => UInt8.ofNat n.toNat) := by
  rw [ByteArray.toList_eq, strOfNums_data]

theorem str_eq {xs ys : List Int} (hx : Oct xs) (hy : Oct ys) : ((strOfNums xs).toList == (strOfNums ys).toList) = sameB xs ys := by
  unfold sameB
  rw [strOfNums_list, strOfNums_list]
  by_cases h : xs = ys
  · simp [h]
  · have : ¬ xs.map (fun n => UInt8.ofNat n.toNat) = ys.map (fun n => UInt8.ofNat n.toNat) := fun e => h (bytes_inj hx hy e)
    simp only [h, decide_false]
    exact beq_false_of_ne this

/-- A slice of bytes as a string. -/
theorem conv_str {w : World} {p : Option Addr} {xs : List Int} (h : Bin w p xs) (cap : Nat) :
    (convert 31 9 (.slice p xs.length cap)).run Try.prog w = .ok (.string (strOfNums xs)) w := by
  rcases Nat.eq_zero_or_pos xs.length with hn | hn
  · obtain rfl : xs = [] := List.eq_nil_of_length_eq_zero hn
    rw [run_convert_bytes_string w 31 9 5 _ _ cap Try.underlying31 Try.underlying5 Try.underlying9]
    rcases p with _ | a
    · simp [Conv.bytesToString, strOfNums]
      rfl
    · rw [run_bytesToString w a _ cap [] (by have := run_loadCells_list (P := Try.prog) w a [] (by simp); simpa using this)]
      rfl
  · obtain ⟨b, o, rfl, hc⟩ := h hn
    exact run_convert_bytes_arg w 31 5 Try.underlying31 Try.underlying5 b o _ cap xs rfl hc 9 Try.underlying9

set_option maxRecDepth 100000 in
theorem refSame_any (p q : Option Addr) (c d : Nat) (xs ys : List Int) (w : World) (hp : Bin w p xs) (hq : Bin w q ys) (hx : Oct xs) (hy : Oct ys) :
    Calls Try.prog 20 #[.slice p xs.length c, .slice q ys.length d] w fun e w' => e = .returned (.bool (sameB xs ys)) ∧ w = w' := by
  have h1 := conv_str hp c
  have h2 := conv_str hq d
  have HE := hid (str_eq hx hy)
  clear hp hq hx hy
  go_enter Try.func20, Try.ntmps20
  go_wp2
  go_ret
  exact ⟨ret_bool HE.out, rfl⟩

/-- The same bytes twice. -/
theorem refSame_yes (p q : Option Addr) (c d n : Nat) (xs : List Int) (w : World) (hn : xs.length = n) (hp : Bin w p xs) (hq : Bin w q xs) (hx : Oct xs) :
    Calls Try.prog 20 #[.slice p n c, .slice q n d] w fun e w' => e = .returned (.bool true) ∧ w = w' := by
  subst hn
  refine (refSame_any p q c d xs xs w hp hq hx hx).mono ?_
  rintro e w' ⟨he, hw⟩
  exact ⟨by rw [he, sameB_iff.2 rfl], hw⟩
end Go.Proofs.Ytlbhoijjbpjmoaa

/-
  append(v, x...) of bytes: v one's own, x any bytes, none too.
-/
namespace Go.Proofs.Ytlbhoijjbpjmoaa
open Go.RowKit
set_option linter.unusedVariables false
set_option linter.unusedSimpArgs false

/-- One's own slice, as it lies, nil too. -/
theorem Own.slice' {B n c : Nat} {p : Option Addr} {w : World} {xs : List Int} (h : Own B w (.slice p n c) n xs) : n ≤ c ∧ Bin w p xs := by
  obtain ⟨p', c', e, hc, hb⟩ := h.bin
  injection e with e1 _ e3
  subst e1
  subst e3
  exact ⟨hc, hb⟩

section
variable {P : Program} {w : World}
/-- Nothing appended. -/
theorem run_append_owned_empty (base : Nat) (t ty e : TypeId) (i : TypeInfo) (size : Nat) (ht : P.underlying t = some (.slice e)) (hi : P.info? e = some i)
    (v : Value) (n : Nat) (xs : List Value) (hown : w.ownsRow base e size v n xs) (p : Option Addr) (c : Nat) :
    (Builtin.append_ #[t, t] ty #[v, .slice p 0 c]).run P w = .ok v w := by
  cases p with
  | none =>
    rcases hown.2 with ⟨rfl, rfl⟩ | ⟨g, cap, cur, rfl, _, _, hnc, _⟩
    · simp [Builtin.append_, run_underlying ht, sizeOf, typeInfo, hi, Builtin.lenOf, Builtin.firstCells]
    · simp [Builtin.append_, run_underlying ht, sizeOf, typeInfo, hi, Builtin.lenOf, Builtin.firstCells, hnc, storeCells]
  | some a =>
    rcases hown.2 with ⟨rfl, rfl⟩ | ⟨g, cap, cur, rfl, _, _, hnc, _⟩
    · simp [Builtin.append_, run_underlying ht, sizeOf, typeInfo, hi, Builtin.lenOf, Builtin.firstCells, loadCells, loadCellsFrom, Result.andThen]
    · simp [Builtin.append_, run_underlying ht, sizeOf, typeInfo, hi, Builtin.lenOf, Builtin.firstCells, loadCells, loadCellsFrom, Result.andThen, hnc, storeCells]

theorem wpList_append_bin {ops : Array Oper} {rest : List Oper} {o : Oper} {a : Act} {Q : Exit → Act → World → Prop} (hgd : o.guard = none) (s x : Operand) (t : TypeId)
    (ho : o.op = .call { callee := .builtin .append, args := #[s, x], argTypes := #[t, t] }) (i : TypeInfo)
    (ht : P.underlying t = some (.slice 5)) (hi : P.info? 5 = some i) (hz : i.zero = some (.int .u8 0)) (hsize : i.size = 1) (hby : i.bytes = 1)
    (B : Nat) (v : Value) (n : Nat) (xs : List Int) (hs : a.eval s = v) (hown : Own B w v n xs)
    (p : Option Addr) (m c : Nat) (ys : List Int) (hx : a.eval x = .slice p m c) (hl : ys.length = m) (hb : Bin w p ys) (hnm : n + m ≤ 140737488355328) (hB : B ≤ w.heap.size)
    (h : ∀ p' cap' w', Own B w' (.slice p' (n + m) cap') (n + m) (xs ++ ys) → w.grownBy w' v.ownBlock → ((Value.slice p' (n + m) cap').ownBlock = v.ownBlock ∨ (Value.slice p' (n + m) cap').ownBlock = some w.heap.size) →
      wpList P ops Q rest (a.put o.dst (.slice p' (n + m) cap')) w') : wpList P ops Q (o :: rest) a w := by
  by_cases hm : 0 < m
  · obtain ⟨b, off, rfl, _, hc⟩ := hb.at (by omega)
    refine wpList_append_lies w hgd s x t ho B 5 i (.int .u8 0) 1 1 ht hi hz hsize hby rfl (by decide) v n (xs.map (Value.int .u8)) hs hown ⟨b, off, none⟩ m c (ys.map (Value.int .u8)) hx (by rw [List.length_map, hl, Nat.mul_one]) (fun j u hj => ?_) (fun u hu => ?_) hm (by unfold maxLen; omega) (by omega) hB _ rfl ?_
    · have hjl : j < ys.length := by have := (List.getElem?_eq_some_iff.1 hj).1; simpa using this
      rw [Addr.add_lit, hc j hjl, List.getD_eq_getElem?_getD]
      rw [List.getElem?_map] at hj
      rw [List.getElem?_eq_getElem hjl] at hj ⊢
      simpa using hj
    · obtain ⟨y, _, rfl⟩ := List.mem_map.1 hu
      rfl
    · intro g cap w' ho' hg hat _
      refine h _ cap w' (by unfold Own; rw [List.map_append]; exact ho') hg ?_
      rcases hat with e | e
      · exact .inl (by rw [e]; rfl)
      · exact .inr (by rw [← e]; rfl)
  · obtain rfl : m = 0 := by omega
    obtain rfl : ys = [] := List.length_eq_zero_iff.1 hl
    obtain ⟨q, cap, hv, _⟩ := hown.bin
    refine wpList_plain hgd fun K hK => ?_
    have hrun := run_append_owned_empty (P := P) (w := w) B t o.type 5 i 1 ht hi v n (xs.map (Value.int .u8)) hown p c
    unfold Oper.wp
    simp [execOp, ho, resolve, invoke, builtin, hs, hx, hrun, Result.andThen]
    rw [hv]
    refine hK _ _ (h q cap w ?_ ⟨rfl, rfl, rfl, Nat.le_refl _, fun _ _ _ => rfl⟩ (.inl (by rw [hv]; rfl)))
    have h2 := hown
    rw [hv] at h2
    simpa using h2
end
end Go.Proofs.Ytlbhoijjbpjmoaa

/-
  The contracts of Xor, of both.
-/
namespace Go.Proofs.Ytlbhoijjbpjmoaa
open Go.RowKit

theorem below_drewN {B : Nat} {a w : World} (h : Below B a w) (n : Nat) : Below B a (w.drewN n) := ⟨h.os, h.tape, h.output, h.size, h.block⟩

theorem xor_step (A B m : Nat) : A >>> m ^^^ B >>> m = 2 * (A >>> (m + 1) ^^^ B >>> (m + 1)) + (if (A / 2 ^ m) % 2 = (B / 2 ^ m) % 2 then 0 else 1) := by
  have e : ∀ C : Nat, C >>> (m + 1) = (C >>> m) / 2 := fun C => by rw [Nat.shiftRight_succ]
  rw [e A, e B, ← Nat.xor_div_two]
  have h2 := Nat.xor_mod_two_eq_one (a := A >>> m) (b := B >>> m)
  have h3 : A / 2 ^ m = A >>> m := (Nat.shiftRight_eq_div_pow A m).symm
  have h4 : B / 2 ^ m = B >>> m := (Nat.shiftRight_eq_div_pow B m).symm
  rw [h3, h4]
  generalize A >>> m ^^^ B >>> m = z at *
  generalize A >>> m = x at *
  generalize B >>> m = y at *
  split <;> omega

theorem xor_lt (A B m : Nat) (hA : A ≤ 255) (hB : B ≤ 255) : A >>> m ^^^ B >>> m ≤ 255 := by
  have h1 : A >>> m < 2 ^ 8 := by rw [Nat.shiftRight_eq_div_pow]; exact Nat.lt_of_le_of_lt (Nat.div_le_self _ _) (by omega)
  have h2 : B >>> m < 2 ^ 8 := by rw [Nat.shiftRight_eq_div_pow]; exact Nat.lt_of_le_of_lt (Nat.div_le_self _ _) (by omega)
  have := Nat.xor_lt_two_pow h1 h2
  omega

theorem bit_of (A m : Nat) : ((A : Int) / 2 ^ m).tmod 2 = ((A / 2 ^ m % 2 : Nat) : Int) := by
  have e : ((A : Int) / 2 ^ m) = ((A / 2 ^ m : Nat) : Int) := by simp
  rw [e]
  rfl

theorem bits_same (A B m : Nat) (hA : A ≤ 255) (hB : B ≤ 255) (h : (((A : Int) / 2 ^ m).tmod 2 != ((B : Int) / 2 ^ m).tmod 2) = false) :
    (2 * ((A >>> (m + 1) ^^^ B >>> (m + 1) : Nat) : Int) % 256) = ((A >>> m ^^^ B >>> m : Nat) : Int) := by
  rw [bit_of, bit_of] at h
  have h' : (A / 2 ^ m) % 2 = (B / 2 ^ m) % 2 := by
    have := bne_eq_false_iff_eq.1 h
    omega
  have hs := xor_step A B m
  rw [if_pos h'] at hs
  have hl := xor_lt A B m hA hB
  omega

theorem bits_other (A B m : Nat) (hA : A ≤ 255) (hB : B ≤ 255) (h : (((A : Int) / 2 ^ m).tmod 2 != ((B : Int) / 2 ^ m).tmod 2) = true) :
    (2 * ((A >>> (m + 1) ^^^ B >>> (m + 1) : Nat) : Int) % 256 + 1) = ((A >>> m ^^^ B >>> m : Nat) : Int) := by
  rw [bit_of, bit_of] at h
  have h' : ¬ (A / 2 ^ m) % 2 = (B / 2 ^ m) % 2 := by
    have := (bne_iff_ne (a := ((A / 2 ^ m % 2 : Nat) : Int)) (b := ((B / 2 ^ m % 2 : Nat) : Int))).1 h
    omega
  have hs := xor_step A B m
  rw [if_neg h'] at hs
  have hl := xor_lt A B m hA hB
  omega

/-- Bit by bit. -/
def xorL (xs ys : List Int) : List Int := List.zipWith (fun a b => ((a.toNat ^^^ b.toNat : Nat) : Int)) xs ys

theorem xorL_length (xs ys : List Int) (h : ys.length = xs.length) : (xorL xs ys).length = xs.length := by simp [xorL, h]

theorem xorL_oct {xs ys : List Int} (hx : Oct xs) (hy : Oct ys) : Oct (xorL xs ys) := by
  intro z hz
  rw [xorL, ← List.map_uncurry_zip_eq_zipWith] at hz
  simp only [List.mem_map, Prod.exists, Function.uncurry] at hz
  obtain ⟨a, b, hab, rfl⟩ := hz
  have ha := hx a (List.of_mem_zip hab).1
  have hb := hy b (List.of_mem_zip hab).2
  have := xor_lt a.toNat b.toNat 0 (by omega) (by omega)
  simp only [Nat.shiftRight_zero] at this
  omega

theorem xorL_snoc (xs ys : List Int) (x y : Int) (h : ys.length = xs.length) : xorL (xs ++ [x]) (ys ++ [y]) = xorL xs ys ++ [((x.toNat ^^^ y.toNat : Nat) : Int)] := by
  rw [xorL, List.zipWith_append h.symm]
  rfl

/-- The first k of them, then noughts. -/
def xpart (xs ys : List Int) (k : Nat) : List Int := xorL (xs.take k) (ys.take k) ++ List.replicate (xs.length - k) 0

theorem xpart_set (xs ys : List Int) (k : Nat) (hk : k < xs.length) (h : ys.length = xs.length) :
    (xpart xs ys k).set k ((((xs[k]'hk).toNat ^^^ (ys[k]'(by omega)).toNat : Nat) : Int)) = xpart xs ys (k + 1) := by
  unfold xpart
  have hl : (xorL (xs.take k) (ys.take k)).length = k := by rw [xorL_length _ _ (by simp; omega)]; simp; omega
  rw [List.set_append_right _ _ (by omega), hl, Nat.sub_self, take_snoc xs k hk, take_snoc ys k (by omega), xorL_snoc _ _ _ _ (by simp; omega)]
  rw [show xs.length - k = (xs.length - (k + 1)) + 1 from by omega, List.replicate_succ, List.set_cons_zero]
  rw [List.getD_eq_getElem?_getD, List.getD_eq_getElem?_getD, List.getElem?_eq_getElem hk, List.getElem?_eq_getElem (show k < ys.length by omega)]
  simp

end Go.Proofs.Ytlbhoijjbpjmoaa

/-
  Arrays of bytes: as values, in memory, and as they are read. Stands on no function of the program.
-/
namespace Go.Proofs.Ytlbhoijjbpjmoaa
open Go.RowKit

/-- The values of n bytes. -/
def vals (n : Nat) (x : Nat → Nat) : List Value := (List.range n).map fun j => .int .u8 (x j : Nat)
theorem vals_length (n : Nat) (x : Nat → Nat) : (vals n x).length = n := by simp [vals]
theorem vals_at (n : Nat) (x : Nat → Nat) (j : Nat) (hj : j < n) : (vals n x)[j]? = some (.int .u8 (x j : Nat)) := by simp [vals, hj]
theorem vals_same {n : Nat} {x y : Nat → Nat} (h : ∀ j, j < n → x j = y j) : vals n x = vals n y := by
  unfold vals
  apply List.map_congr_left
  intro j hj
  rw [h j (by simpa using hj)]

/-- The cells of block b, from the first one on, read as the n bytes x and may be written. -/
def Arr (w : World) (b n : Nat) (x : Nat → Nat) : Prop := ∀ j, j < n → w.cell? ⟨b, j, none⟩ = some (.int .u8 (x j : Nat)) ∧ w.frozen? ⟨b, j, none⟩ = false

theorem Arr.lt {w : World} {b n : Nat} {x : Nat → Nat} (h : Arr w b n x) (hn : 0 < n) : b < w.heap.size := World.block_lt_of_cell? w _ (h 0 hn).1
theorem Arr.drew {w : World} {b n : Nat} {x : Nat → Nat} (h : Arr w b n x) : Arr w.drew b n x := h
theorem Arr.same {w : World} {b n : Nat} {x y : Nat → Nat} (h : Arr w b n x) (e : ∀ j, j < n → x j = y j) : Arr w b n y := fun j hj => by rw [← e j hj]; exact h j hj

theorem arr_new (w : World) (n : Nat) (x : Nat → Nat) (t : TypeId) : Arr (w.alloc (.cells (vals n x).toArray t)) w.heap.size n x := fun j hj => by
  have e := vals_at n x j hj
  constructor
  · simp [e]
  · simp
theorem Arr.alloc {w : World} {b n : Nat} {x : Nat → Nat} (h : Arr w b n x) (o : Obj) : Arr (w.alloc o) b n x := fun j hj => by
  have hb : b < w.heap.size := World.block_lt_of_cell? w _ (h j hj).1
  constructor
  · rw [World.cell?_alloc_past _ _ _ hb]; exact (h j hj).1
  · rw [World.frozen?_alloc_past _ _ _ hb]; exact (h j hj).2
theorem Arr.set {w : World} {b n : Nat} {x : Nat → Nat} (h : Arr w b n x) (i y : Nat) (hi : i < n) : Arr (w.setCell ⟨b, i, none⟩ (.int .u8 (y : Nat))) b n (fun j => if j = i then y else x j) := fun j hj => by
  constructor
  · by_cases e : j = i
    · subst e
      rw [World.cell?_setCell_same w _ _ (h j hj).1]; simp
    · rw [World.cell?_setCell_other w _ _ _ (by intro hh; cases hh; exact e rfl), (h j hj).1]; simp [e]
  · rw [World.frozen?_setCell]; exact (h j hj).2
theorem Arr.beside {w : World} {b b' n : Nat} {x : Nat → Nat} (h : Arr w b n x) (hb : b' ≠ b) (i : Nat) (v : Value) : Arr (w.setCell ⟨b', i, none⟩ v) b n x := fun j hj => by
  constructor
  · rw [World.cell?_setCell_other w _ _ _ (by intro hh; cases hh; exact hb rfl)]; exact (h j hj).1
  · rw [World.frozen?_setCell]; exact (h j hj).2

/-- Four cells stored one behind the other. -/
def put4 (w : World) (b : Nat) (y : Nat → Nat) : World :=
  (((w.setCell ⟨b, 0, none⟩ (.int .u8 (y 0 : Nat))).setCell ⟨b, 1, none⟩ (.int .u8 (y 1 : Nat))).setCell ⟨b, 2, none⟩ (.int .u8 (y 2 : Nat))).setCell ⟨b, 3, none⟩ (.int .u8 (y 3 : Nat))
theorem four {Q : Nat → Prop} (h0 : Q 0) (h1 : Q 1) (h2 : Q 2) (h3 : Q 3) : ∀ j, j < 4 → Q j := fun j hj => by
  rcases (show j = 0 ∨ j = 1 ∨ j = 2 ∨ j = 3 from by omega) with rfl | rfl | rfl | rfl
  · exact h0
  · exact h1
  · exact h2
  · exact h3
theorem Arr.put4 {w : World} {b : Nat} {x : Nat → Nat} (h : Arr w b 4 x) (y : Nat → Nat) : Arr (put4 w b y) b 4 y :=
  ((((h.set 0 (y 0) (by decide)).set 1 (y 1) (by decide)).set 2 (y 2) (by decide)).set 3 (y 3) (by decide)).same (four rfl rfl rfl rfl)
theorem Below.put4 {B : Nat} {w w' : World} {b : Nat} (h : Below B w w') (hb : B ≤ b) (y : Nat → Nat) : Below B w (put4 w' b y) :=
  (((h.setCell hb _).setCell hb _).setCell hb _).setCell hb _

theorem Arr.below {w w' : World} {b n : Nat} {x : Nat → Nat} (h : Arr w b n x) (hb : Below w.heap.size w w') : Arr w' b n x := fun j hj => by
  have hlt : b < w.heap.size := World.block_lt_of_cell? w _ (h j hj).1
  exact ⟨(hb.cell (p := ⟨b, j, none⟩) hlt).trans (h j hj).1, (hb.frozen (p := ⟨b, j, none⟩) hlt).trans (h j hj).2⟩

section
open Go.ChangeShapes Go.WideShapes
variable {H : Type} {enc : TypeId × Value → H} {P : Program} {w : World} {base : Nat} {spare : Nat → Bool} {held : Bool}

/-- An array of bytes, handed in by value. -/
theorem open_row {n : Nat} {t e : TypeId} {r : Reach} {b0 : Nat} {v : Value} {d : DataW H} {ps : List MemPlace} (ht : P.underlying t = some (.array n e)) (he : P.underlying e = some (.int .u8)) (hce : P.cellsOf e = 1) (hct : P.cellsOf t = n)
    (hval : Value.okWide P w r b0 t v) (hd : DataW.Trod enc P w base spare held t v d ps) :
    ∃ x : Nat → Nat, (∀ j, x j < 256) ∧ v = .agg (vals n x).toArray ∧ ps = [] := by
  obtain ⟨cs, rfl⟩ : ∃ cs, v = .agg cs := by
    rw [Value.okWide.eq_def, ht] at hval
    cases v <;> simp_all
  obtain ⟨fuel, hf⟩ := hd
  obtain ⟨xs, m, _, hx, hl, hn, hi⟩ := DataW.trod_array ht hf
  have hc : (Value.agg cs).cells.toList = cs.toList := rfl
  rw [hce] at hi
  rw [hct] at hl
  have H : ∀ i, i < n → ∃ z : Nat, z < 256 ∧ cs.toList[i]? = some (.int .u8 (z : Nat)) ∧ xs[i]? = some (.lit (.int .u8 (z : Nat)), []) := by
    intro i h
    have h1 := hi i h
    rw [Nat.mul_one, List.getElem?_eq_getElem (show i < xs.length by omega)] at h1
    obtain ⟨z, e1, e2, e3⟩ := DataW.trod_int he h1
    obtain ⟨y, rfl, hy⟩ : ∃ y : Nat, z = (y : Int) ∧ y < 256 := by
      have := u8_of_wf e3
      exact ⟨z.toNat, by omega, by omega⟩
    refine ⟨y, hy, ?_, ?_⟩
    · have := congrArg (·[0]?) e1
      rw [hc] at this
      simpa [List.getElem?_take, List.getElem?_drop] using this
    · rw [List.getElem?_eq_getElem (show i < xs.length by omega), e2]
  have H' : ∀ i, ∃ z : Nat, z < 256 ∧ (i < n → cs.toList[i]? = some (.int .u8 (z : Nat)) ∧ xs[i]? = some (.lit (.int .u8 (z : Nat)), [])) := by
    intro i
    by_cases h : i < n
    · obtain ⟨z, h1, h2, h3⟩ := H i h
      exact ⟨z, h1, fun _ => ⟨h2, h3⟩⟩
    · exact ⟨0, by decide, fun h' => absurd h' h⟩
  obtain ⟨x, hX⟩ := Classical.axiomOfChoice H'
  refine ⟨x, fun j => (hX j).1, ?_, ?_⟩
  · have e : cs.toList = vals n x := by
      apply List.ext_getElem?
      intro j
      by_cases h : j < n
      · rw [vals_at _ _ _ h, ((hX j).2 h).1]
      · have hlen : cs.toList.length = n := hl
        rw [List.getElem?_eq_none (by omega), List.getElem?_eq_none (by rw [vals_length]; omega)]
    rw [← e]
  · have hp : ps = xs.flatMap (·.2) := (Prod.mk.inj hx).2
    rw [hp]
    apply List.flatMap_eq_nil_iff.2
    intro y hy
    obtain ⟨i, h, rfl⟩ := List.getElem_of_mem hy
    have h3 := ((hX i).2 (by omega)).2
    rw [List.getElem?_eq_getElem h] at h3
    rw [Option.some.inj h3]
end
end Go.Proofs.Ytlbhoijjbpjmoaa

/-
  One's own slice as it lies; one new array.
-/
namespace Go.Proofs.Ytlbhoijjbpjmoaa
open Go.RowKit

/-- One's own slice, as it lies. -/
theorem Own.slice {B n g c : Nat} {w : World} {xs : List Int} (h : Own B w (.slice (some ⟨g, 0, none⟩) n c) n xs) : B ≤ g ∧ n ≤ c ∧ Bin w (some ⟨g, 0, none⟩) xs := by
  have hl := h.len
  rcases h.shape with ⟨h1, _⟩ | ⟨g', c', h1, hB, hc⟩
  · cases h1
  · injection h1 with e1 _ e3
    injection e1 with e1
    injection e1 with e1 _ _
    subst e1
    subst e3
    exact ⟨hB, hc, fun _ => ⟨g, 0, rfl, fun i hi => by rw [Nat.zero_add]; exact h.cellAt i (by omega)⟩⟩

/-- One new array. -/
theorem boxes1 (w : World) (n : Nat) (x : Nat → Nat) (t : TypeId) : ∃ wa, Hid (wa = w.alloc (.cells (vals n x).toArray t)) ∧
    Arr wa w.heap.size n x ∧ Below w.heap.size w wa ∧ wa.heap.size = w.heap.size + 1 :=
  ⟨_, rfl, arr_new w n x t, (Below.refl w.heap.size w).alloc (Nat.le_refl _) _, by simp⟩

end Go.Proofs.Ytlbhoijjbpjmoaa

/-
  Arrays of bytes read and written as a whole. Stands on no function of the program.
-/
namespace Go.Proofs.Ytlbhoijjbpjmoaa
open Go.RowKit

/-- x, but y at i. -/
def upd (x : Nat → Nat) (i y : Nat) : Nat → Nat := fun j => if j = i then y else x j
/-- The first k of x are y's. -/
def mixk (y x : Nat → Nat) (k : Nat) : Nat → Nat := fun j => if j < k then y j else x j
theorem mixk_zero (y x : Nat → Nat) (j : Nat) : mixk y x 0 j = x j := by simp [mixk]
theorem mixk_full (y x : Nat → Nat) (n j : Nat) (h : j < n) : mixk y x n j = y j := by simp [mixk, h]
theorem mixk_at (y x : Nat → Nat) (k j : Nat) (h : k ≤ j) : mixk y x k j = x j := by simp [mixk]; omega
theorem mixk_step (y x : Nat → Nat) (k j : Nat) : (if j = k then y k else mixk y x k j) = mixk y x (k + 1) j := by
  unfold mixk
  by_cases h : j = k
  · subst h; simp
  · by_cases h2 : j < k
    · rw [if_neg h, if_pos h2, if_pos (by omega)]
    · rw [if_neg h, if_neg h2, if_neg (by omega)]

theorem vals_one (n : Nat) (x : Nat → Nat) : ∀ v ∈ vals n x, v.oneCell' = true := by
  intro v hv
  simp only [vals, List.mem_map] at hv
  obtain ⟨j, _, rfl⟩ := hv
  rfl

section
variable {P : Program} {w w' : World} {b b' n : Nat} {x y : Nat → Nat}

theorem Arr.range (h : Arr w b n x) : w.rangeAt b 0 (vals n x) := fun j v hv => by
  have hj : j < n := by have := (List.getElem?_eq_some_iff.1 hv).1; rwa [vals_length] at this
  rw [vals_at _ _ _ hj] at hv
  rw [Nat.zero_add, ← hv]
  exact (h j hj).1
theorem Arr.there (h : Arr w b n x) : w.there b 0 n := fun j hj => by
  rw [Nat.zero_add, (h j hj).1]
  exact ⟨rfl, (h j hj).2⟩
theorem Arr.of (h : w.rangeAt b 0 (vals n x)) (h2 : w.there b 0 n) : Arr w b n x := fun j hj => by
  have h1 := h j _ (vals_at n x j hj)
  have h3 := (h2 j hj).2
  rw [Nat.zero_add] at h1 h3
  exact ⟨h1, h3⟩
theorem Arr.put (h : Arr w b n x) (y : Nat → Nat) : Arr (w.setCells b 0 (vals n y)) b n y :=
  Arr.of (World.rangeAt_setCells_same w b 0 _ (by rw [vals_length]; exact h.there)) (World.there_setCells h.there b 0 _)
theorem Arr.besidePut (h : Arr w b n x) (hb : b' ≠ b) (o : Nat) (vs : List Value) : Arr (w.setCells b' o vs) b n x :=
  Arr.of (World.rangeAt_setCells_apart h.range b' o vs (.inl (fun e => hb e.symm))) (World.there_setCells h.there b' o _)
theorem Arr.drewN (h : Arr w b n x) (k : Nat) : Arr (w.drewN k) b n x := h
theorem Arr.below' {B : Nat} (h : Arr w b n x) (hl : b < B) (hb : Below B w w') : Arr w' b n x := fun j hj =>
  ⟨(hb.cell (p := ⟨b, j, none⟩) hl).trans (h j hj).1, (hb.frozen (p := ⟨b, j, none⟩) hl).trans (h j hj).2⟩

theorem below_setCells {B : Nat} : ∀ (vs : List Value) (o : Nat) {w0 w : World}, Below B w0 w → B ≤ b → Below B w0 (w.setCells b o vs)
  | [], _, _, _, h, _ => h
  | v :: r, o, _, _, h, hb => below_setCells r (o + 1) (h.setCell hb v) hb

/-- A load of the whole. -/
theorem wpList_load_arr {ops : Array Oper} {rest : List Oper} {op : Oper} {a : Act} {Q : Exit → Act → World → Prop} (hgd : op.guard = none) (ty : TypeId) (q : Operand) (ho : op.op = .load ty q)
    (b : Nat) (hq : a.eval q = .pointer (some ⟨b, 0, none⟩)) (n : Nat) (y : Nat → Nat) (hc : Arr w b n y) (d : TypeDesc)
    (hu : P.underlying ty = some d) (hd : d.isRow = true) (hi : (P.info? ty).map (·.size) = some n)
    (h : wpList P ops Q rest (a.put op.dst (.agg (vals n y).toArray)) w) : wpList P ops Q (op :: rest) a w :=
  wpList_load_mid hgd ty q ho b 0 hq (vals n y) d hc.range hu hd (by rw [vals_length]; exact hi) h
/-- A store of the whole. -/
theorem wpList_store_arr {ops : Array Oper} {rest : List Oper} {op : Oper} {a : Act} {Q : Exit → Act → World → Prop} (hgd : op.guard = none) (ty : TypeId) (q r : Operand) (ho : op.op = .store ty q r)
    (b : Nat) (n : Nat) (y : Nat → Nat) (hq : a.eval q = .pointer (some ⟨b, 0, none⟩)) (hr : a.eval r = .agg (vals n y).toArray) (x : Nat → Nat) (hc : Arr w b n x) (hi : (P.info? ty).map (·.size) = some n)
    (h : wpList P ops Q rest (a.put op.dst undef) (w.setCells b 0 (vals n y))) : wpList P ops Q (op :: rest) a w :=
  wpList_store_mid hgd ty q r ho b 0 (vals n y).toArray hq hr (by rw [List.size_toArray, vals_length]; exact hc.there) (by rw [List.size_toArray, vals_length]; exact hi) (all_oneCell_toArray (vals_one n y)) h
theorem wp_store_arr {op : Oper} {a : Act} {K : Act → World → Prop} {Q : Exit → Act → World → Prop} (ty : TypeId) (q r : Operand) (ho : op.op = .store ty q r)
    (b : Nat) (n : Nat) (y : Nat → Nat) (hq : a.eval q = .pointer (some ⟨b, 0, none⟩)) (hr : a.eval r = .agg (vals n y).toArray) (ht : w.there b 0 n) (hi : (P.info? ty).map (·.size) = some n)
    (h : K (a.put op.dst undef) (w.setCells b 0 (vals n y))) : op.wp P a w K Q :=
  wp_store_mid ty q r ho b 0 (vals n y).toArray hq hr (by rw [List.size_toArray, vals_length]; exact ht) (by rw [List.size_toArray, vals_length]; exact hi) (all_oneCell_toArray (vals_one n y)) h
/-- A result that lies in a cell. -/
theorem results_cell_arr {fn : Func} {p : Tmp} {ty : TypeId} (h : fn.results = #[.cell p ty]) (tmps : Array Value) (b : Nat) (n : Nat) (y : Nat → Nat) (d : TypeDesc)
    (hp : tmps.getD p undef = .pointer (some ⟨b, 0, none⟩)) (hc : Arr w b n y)
    (hu : P.underlying ty = some d) (hd : d.isRow = true) (hi : (P.info? ty).map (·.size) = some n) :
    (results fn tmps).run P w = .ok (.agg (vals n y).toArray) w := by
  have hp' : tmps[p]?.getD undef = .pointer (some ⟨b, 0, none⟩) := by simpa using hp
  simp [results, h, hp', asAddr, run_loadVar_mid w b 0 ty (vals n y) d hc.range hu hd (by rw [vals_length]; exact hi)]
/-- Two results, the first in a cell. -/
theorem results_cell_tmp_arr {fn : Func} {p q : Tmp} {ty : TypeId} (h : fn.results = #[.cell p ty, .tmp q]) (tmps : Array Value) (b : Nat) (n : Nat) (y : Nat → Nat) (d : TypeDesc) (v : Value)
    (hp : tmps.getD p undef = .pointer (some ⟨b, 0, none⟩)) (hq : tmps.getD q undef = v) (hc : Arr w b n y)
    (hu : P.underlying ty = some d) (hd : d.isRow = true) (hi : (P.info? ty).map (·.size) = some n) :
    (results fn tmps).run P w = .ok (.tuple #[.agg (vals n y).toArray, v]) w := by
  have hp' : tmps[p]?.getD undef = .pointer (some ⟨b, 0, none⟩) := by simpa using hp
  have hq' : tmps[q]?.getD undef = v := by simpa using hq
  simp [results, h, hp', hq', asAddr, run_loadVar_mid w b 0 ty (vals n y) d hc.range hu hd (by rw [vals_length]; exact hi)]
end

section
variable {P : Program} {w w' : World} {b b' n : Nat} {x y : Nat → Nat}

/-- A copy, as one step of a region that draws. -/
theorem step_copy_cells {ops : Array Oper} {o : Oper} {a : Act} {w : World} {K : Act → World → Prop} {Q : Exit → Act → World → Prop} {E : Prop}
    (hg : o.guard = none) (s x : Operand) (t1 t2 : TypeId) (hop : o.op = Op.call { callee := Callee.builtin Builtin.copy, args := #[s, x], argTypes := #[t1, t2] })
    (e : TypeId) (h1 : P.underlying t1 = some (.slice e)) (h2 : (P.info? e).map (·.size) = some 1)
    (b off dn dcap : Nat) (hs : a.eval s = .slice (some ⟨b, off, none⟩) dn dcap)
    (ad : Addr) (m c : Nat) (hx : a.eval x = .slice (some ad) m c) (cs : List Value) (hn : cs.length = Nat.min m dn) (hc : ∀ j u, cs[j]? = some u → w.cell? (ad.add j) = some u)
    (ht : w.there b off cs.length) (h1c : ∀ u ∈ cs, u.oneCell' = true)
    (hK : K (a.put o.dst (goInt cs.length)) (w.setCells b off cs)) :
    if Region.wanted o (yielded ops a.tmps) = true then Oper.wp P o a w K Q else E := by
  have hw : Region.wanted o (yielded ops a.tmps) = true := by simp [Region.wanted, hg]
  rw [if_pos hw]
  have hrun := run_copy_cells (P := P) w t1 t2 o.type e b off dn dcap ad m c cs h1 h2 hn hc (fun j hj => (ht j hj).1) (fun j hj => (ht j hj).2) h1c
  unfold Oper.wp
  simp [execOp, hop, resolve, invoke, builtin, hs, hx, hrun, Result.andThen]
  exact hK

/-- A part of an array. -/
theorem Arr.part {N o n : Nat} (h : Arr w b N x) (ho : o + n ≤ N) : w.rangeAt b o (vals n fun j => x (o + j)) := fun j v hv => by
  have hj : j < n := by have := (List.getElem?_eq_some_iff.1 hv).1; rwa [vals_length] at this
  rw [vals_at _ _ _ hj] at hv
  rw [← hv]
  exact (h (o + j) (by omega)).1
theorem Arr.thereAt {N o n : Nat} (h : Arr w b N x) (ho : o + n ≤ N) : w.there b o n := fun j hj => by
  rw [(h (o + j) (by omega)).1]
  exact ⟨rfl, (h (o + j) (by omega)).2⟩
/-- A part of an array written. -/
theorem Arr.putAt {N o n : Nat} (h : Arr w b N x) (ho : o + n ≤ N) (y z : Nat → Nat) (hz : ∀ j, j < N → z j = if o ≤ j ∧ j < o + n then y (j - o) else x j) : Arr (w.setCells b o (vals n y)) b N z := fun j hj => by
  rw [World.frozen?_setCells, hz j hj]
  refine ⟨?_, (h j hj).2⟩
  by_cases hin : o ≤ j ∧ j < o + n
  · have := World.cell?_setCells_in b (vals n y) o w (fun i hi => ((h.thereAt ho) i (by rwa [vals_length] at hi)).1) (j - o) (by rw [vals_length]; omega)
    rw [if_pos hin]
    rw [show o + (j - o) = j from by omega] at this
    rw [this]
    have e := vals_at n y (j - o) (by omega)
    rw [List.getElem?_eq_getElem (by rw [vals_length]; omega)] at e
    exact e
  · rw [if_neg hin, World.cell?_setCells_out b (vals n y) o w ⟨b, j, none⟩ (fun _ _ => by rw [vals_length]; show j < o ∨ o + n ≤ j; omega)]
    exact (h j hj).1
theorem range_cells {o : Nat} (h : w.rangeAt b o (vals n x)) : ∀ j u, (vals n x)[j]? = some u → w.cell? ((⟨b, o, none⟩ : Addr).add j) = some u := fun j u hj => by
  rw [Addr.add_mid]; exact h j u hj

/-- Two and three new arrays. -/
theorem boxes2 (w : World) (n : Nat) (x y : Nat → Nat) (t u : TypeId) : ∃ wa, Hid (wa = (w.alloc (.cells (vals n x).toArray t)).alloc (.cells (vals n y).toArray u)) ∧
    Arr wa w.heap.size n x ∧ Arr wa (w.heap.size + 1) n y ∧ Below w.heap.size w wa ∧ wa.heap.size = w.heap.size + 1 + 1 := by
  refine ⟨_, rfl, (arr_new w n x t).alloc _, ?_, ((Below.refl w.heap.size w).alloc (Nat.le_refl _) _).alloc (by simp) _, by simp⟩
  have := arr_new (w.alloc (.cells (vals n x).toArray t)) n y u
  simpa using this
theorem boxes3 (w : World) (n : Nat) (x y z : Nat → Nat) (t u v : TypeId) : ∃ wa, Hid (wa = ((w.alloc (.cells (vals n x).toArray t)).alloc (.cells (vals n y).toArray u)).alloc (.cells (vals n z).toArray v)) ∧
    Arr wa w.heap.size n x ∧ Arr wa (w.heap.size + 1) n y ∧ Arr wa (w.heap.size + 1 + 1) n z ∧ Below w.heap.size w wa ∧ wa.heap.size = w.heap.size + 1 + 1 + 1 := by
  refine ⟨_, rfl, ((arr_new w n x t).alloc _).alloc _, ?_, ?_, (((Below.refl w.heap.size w).alloc (Nat.le_refl _) _).alloc (by simp) _).alloc (by simp; omega) _, by simp⟩
  · have := (arr_new (w.alloc (.cells (vals n x).toArray t)) n y u).alloc (.cells (vals n z).toArray v)
    simpa using this
  · have := arr_new ((w.alloc (.cells (vals n x).toArray t)).alloc (.cells (vals n y).toArray u)) n z v
    simpa using this
end

theorem Try.sizeByte : (Try.prog.info? 5).map (·.size) = some 1 := by kernel_rfl
end Go.Proofs.Ytlbhoijjbpjmoaa

/-
  Two arrays of bytes compared.
-/
namespace Go.Proofs.Ytlbhoijjbpjmoaa
open Go.RowKit

theorem Try.plainU8 : Try.prog.plainKey 5 = true := by kernel_rfl
theorem Try.cellsU8 : Try.prog.cellsOf 5 = 1 := by kernel_rfl
theorem Try.sizeU8 : ∃ i, Try.prog.info? 5 = some i := by
  have h : (Try.prog.info? 5).isSome = true := by kernel_rfl
  exact Option.isSome_iff_exists.1 h

/-- Two rows of n bytes are compared one by one. -/
theorem items_u8 (n d : Nat) (x y : Nat → Nat) (w : World) : ∀ is : List Nat, (∀ i ∈ is, i < n) →
    (Op.eqItems (d + 1) 5 1 (vals n x).toArray (vals n y).toArray is).run Try.prog w = .ok (is.all fun i => x i == y i) w
  | [], _ => by simp [Op.eqItems]
  | i :: is, h => by
    have hi := h i (by simp)
    have ih := items_u8 n d x y w is fun j hj => h j (by simp [hj])
    have px := run_part_plain (P := Try.prog) w Try.plainU8 (xs := (vals n x).toArray) (off := i) (by rw [List.getElem?_toArray]; exact vals_at n x i hi)
    have py := run_part_plain (P := Try.prog) w Try.plainU8 (xs := (vals n y).toArray) (off := i) (by rw [List.getElem?_toArray]; exact vals_at n y i hi)
    simp only [Op.eqItems, Sem.run_bind, Nat.mul_one, px, py, Result.andThen_ok, run_equalIn_int w d 5 .u8 .u8 _ _ Try.underlying5]
    cases hb : (((x i : Nat) : Int) == ((y i : Nat) : Int))
    · have : (x i == y i) = false := by
        rw [beq_eq_false_iff_ne] at hb ⊢
        omega
      simp [this]
    · have : (x i == y i) = true := by
        have := eq_of_beq hb
        rw [beq_iff_eq]
        omega
      simp [this, ih]
end Go.Proofs.Ytlbhoijjbpjmoaa

/-
  A region that draws its order, whose last operations wait for all others: what is loaded is known up to them, and they may write what was loaded. Stands on no function of the program.
-/
namespace Go.Proofs.Ytlbhoijjbpjmoaa
open Go.RowKit

section
variable {P : Program} {ops : Array Oper} {Q : Exit → Act → World → Prop} {md : Region.Mode} {S : World → Prop} {z : Nat}

/-- Whatever order is picked from here on, and S holds behind each operation ahead of number z. -/
def wpAnyZ (P : Program) (md : Region.Mode) (ops : Array Oper) (Q : Exit → Act → World → Prop) (S : World → Prop) (z : Nat) : Nat → Array Bool → Act → World → Prop
  | 0, listed, a, w => Region.ready md ops listed = [] ∧ Q .normal a w
  | fuel + 1, listed, a, w =>
    (Region.ready md ops listed = [] → Q .normal a w) ∧
    ∀ i ∈ Region.ready md ops listed, wpOp P ops Q i (fun a' w' => (i < z → S w') ∧ wpAnyZ P md ops Q S z fuel (listed.setIfInBounds i true) a' w') a w

theorem wpAny_of_z : ∀ (fuel : Nat) (listed : Array Bool) (a : Act) (w : World), wpAnyZ P md ops Q S z fuel listed a w → wpAny P md ops Q fuel listed a w
  | 0, _, _, _, h => h
  | fuel + 1, _, _, _, h => ⟨h.1, fun i hi => wpOp_mono (fun a' w' h' => wpAny_of_z fuel _ a' w' h'.2) (h.2 i hi)⟩

/-- All from number z on wait for number i. -/
def waitB (md : Region.Mode) (ops : Array Oper) (z i : Nat) : Bool := (List.range ops.size).all fun j => decide (j < z) || Region.waitsFor md ops j i

theorem wait_spec {i j : Nat} (h : waitB md ops z i = true) (hj : z ≤ j) (hs : j < ops.size) {listed : Array Bool} (hr : j ∈ Region.ready md ops listed) (hi : listed.getD i true = false) : False := by
  have h1 := List.all_eq_true.1 h j (List.mem_range.2 hs)
  rw [Bool.or_eq_true, decide_eq_true_eq] at h1
  rcases h1 with h1 | h1
  · omega
  · obtain ⟨oj, hoj, e, he, hb, hon⟩ := Region.waitsFor_spec h1
    obtain ⟨_, o, ho, hall⟩ := mem_ready.1 hr
    rw [hoj] at ho
    cases ho
    have h2 := hall e he hb
    rw [hon] at h2
    have h3 := getD_both hi
    rw [h3] at h2
    cases h2

theorem wpAnyZ_first {i : Nat} {oi : Oper} {v : Value} (hi : ops[i]? = some oi) (hz : waitB md ops z i = true) (hsel : ∀ (j : Nat) (o : Oper) cs b, ops[j]? = some o → o.op ≠ .select cs b)
    (hQ : ∀ c a w, Q (.panic c) (a.put oi.dst v) w → Q (.panic c) a w) :
    ∀ (fuel : Nat) (listed : Array Bool) (a : Act) (w : World),
      (∀ j oj, ops[j]? = some oj → j ≠ i → listed.getD j true = false → (∀ e ∈ oj.after, Region.binds md e = true → e.on ≠ i) → oi.apart ops oj = true) →
      i ∈ Region.ready md ops listed → YieldsIf P ops S oi v a → S w →
      wpAnyZ P md ops Q S z fuel (listed.setIfInBounds i true) (a.put oi.dst v) w → wpAnyZ P md ops Q S z (fuel + 1) listed a w := by
  intro fuel
  induction fuel with
  | zero =>
    intro listed a w _ hr hy hS H
    refine ⟨fun h => (by rw [h] at hr; cases hr), fun j hj => ?_⟩
    by_cases hji : j = i
    · subst hji; exact hy.wpOp hi hS ⟨fun _ => hS, H⟩
    · have := ready_mono hj hji
      rw [H.1] at this
      cases this
  | succ fuel ih =>
    intro listed a w hfree hr hy hS H
    refine ⟨fun h => (by rw [h] at hr; cases hr), fun j hj => ?_⟩
    by_cases hji : j = i
    · subst hji; exact hy.wpOp hi hS ⟨fun _ => hS, H⟩
    · have h1 := H.2 j (ready_mono hj hji)
      obtain ⟨hjun, oj, hoj, hall⟩ := mem_ready.1 hj
      have hjz : j < z := by
        rcases Nat.lt_or_ge j z with h | h
        · exact h
        · exact (wait_spec hz h (Array.getElem?_eq_some_iff.1 hoj).1 hj (mem_ready.1 hr).1).elim
      have hnot : ∀ e ∈ oj.after, Region.binds md e = true → e.on ≠ i := fun e he hb heq => by
        have h1 := hall e he hb
        have h0 := (mem_ready.1 hr).1
        rw [heq] at h1
        rw [getD_both h0] at h1
        cases h1
      have h2 := wpOp_putIf hoj (hfree j oj hoj hji hjun hnot) (fun cs b => hsel i oi cs b hi) (fun cs b => hsel j oj cs b hoj) hQ hy h1
      have hfree' : ∀ k ok, ops[k]? = some ok → k ≠ i → (listed.setIfInBounds j true).getD k true = false →
          (∀ e ∈ ok.after, Region.binds md e = true → e.on ≠ i) → oi.apart ops ok = true := fun k ok hk hki hun hno => by
        refine hfree k ok hk hki ?_ hno
        by_cases hjk : j = k
        · subst hjk; exact hjun
        · rw [getD_set_ne true hjk] at hun; exact hun
      refine wpOp_mono (fun a' w' h3 => ⟨h3.2.1, ih (listed.setIfInBounds j true) a' w' hfree' (ready_mono hr (Ne.symm hji)) h3.1 (h3.2.1 hjz) ?_⟩) h2
      rw [Array.setIfInBounds_comm _ _ hji]
      exact h3.2.2

/-- Take number i first. -/
theorem wpAnyZ_take {i : Nat} {oi : Oper} {v : Value} {fuel : Nat} {listed : Array Bool} {a : Act} {w : World} (hi : ops[i]? = some oi)
    (hz : waitB md ops z i = true) (hs : Region.noSelect ops = true) (hf : Region.free md ops listed i = true) (hr : (Region.ready md ops listed).contains i = true)
    (hQ : ∀ c a w, Q (.panic c) (a.put oi.dst v) w → Q (.panic c) a w) (hS : S w) (hy : YieldsIf P ops S oi v a)
    (h : wpAnyZ P md ops Q S z fuel (listed.setIfInBounds i true) (a.put oi.dst v) w) : wpAnyZ P md ops Q S z (fuel + 1) listed a w :=
  wpAnyZ_first hi hz (Region.noSelect_spec hs) hQ fuel listed a w (Region.free_spec hi hf) (by simpa using hr) hy hS h

/-- One alone may come up. -/
theorem wpAnyZ_one {i : Nat} {o : Oper} {fuel : Nat} {listed : Array Bool} {a : Act} {w : World} (hr : Region.ready md ops listed = [i]) (ho : ops[i]? = some o)
    (h : ∀ K' : Act → World → Prop, Shut (∀ a w, (i < z → S w) → wpAnyZ P md ops Q S z fuel (listed.setIfInBounds i true) a w → K' a w) → if Region.wanted o (yielded ops a.tmps) = true then Oper.wp P o a w K' Q else K' (a.put o.dst undef) w) :
    wpAnyZ P md ops Q S z (fuel + 1) listed a w :=
  ⟨fun h0 => (by rw [hr] at h0; cases h0), fun j hj => (by
    rw [hr, List.mem_singleton] at hj
    subst hj
    exact wpOp_step ho (fun K' hK => h K' (fun a w hS hW => hK a w ⟨hS, hW⟩)))⟩
/-- One of two may come up. -/
theorem wpAnyZ_two {i j : Nat} {o p : Oper} {fuel : Nat} {listed : Array Bool} {a : Act} {w : World} (hr : Region.ready md ops listed = [i, j]) (ho : ops[i]? = some o) (hp : ops[j]? = some p)
    (h : ∀ K' : Act → World → Prop, Shut (∀ a w, (i < z → S w) → wpAnyZ P md ops Q S z fuel (listed.setIfInBounds i true) a w → K' a w) → if Region.wanted o (yielded ops a.tmps) = true then Oper.wp P o a w K' Q else K' (a.put o.dst undef) w)
    (g : ∀ K' : Act → World → Prop, Shut (∀ a w, (j < z → S w) → wpAnyZ P md ops Q S z fuel (listed.setIfInBounds j true) a w → K' a w) → if Region.wanted p (yielded ops a.tmps) = true then Oper.wp P p a w K' Q else K' (a.put p.dst undef) w) :
    wpAnyZ P md ops Q S z (fuel + 1) listed a w :=
  ⟨fun h0 => (by rw [hr] at h0; cases h0), fun k hk => (by
    rw [hr, List.mem_cons, List.mem_singleton] at hk
    rcases hk with rfl | rfl
    · exact wpOp_step ho (fun K' hK => h K' (fun a w hS hW => hK a w ⟨hS, hW⟩))
    · exact wpOp_step hp (fun K' hK => g K' (fun a w hS hW => hK a w ⟨hS, hW⟩)))⟩
/-- All have come up. -/
theorem wpAnyZ_done {listed : Array Bool} {a : Act} {w : World} (hr : Region.ready md ops listed = []) (h : Q .normal a w) :
    ∀ fuel, wpAnyZ P md ops Q S z fuel listed a w
  | 0 => ⟨hr, h⟩
  | _ + 1 => ⟨fun _ => h, by rw [hr]; simp⟩
/-- The beginning. -/
theorem wp_region_z {id : Nat} {a : Act} {w : World} (S : World → Prop) (z : Nat) (hm : P.follows .mixedOrders = true) (hS : S w.drew)
    (h : S w.drew → wpAnyZ P .any ops Q S z ops.size (Array.replicate ops.size false) a w.drew) : (Code.region id ops true).wp P Q a w :=
  wp_region_any hm (wpAny_of_z _ _ _ _ (h hS))
end
end Go.Proofs.Ytlbhoijjbpjmoaa

/-
  One of three may come up. Stands on no function of the program.
-/
namespace Go.Proofs.Ytlbhoijjbpjmoaa
open Go.RowKit

/-- One of three may come up. -/
theorem wpAnyZ_three {P : Program} {ops : Array Oper} {Q : Exit → Act → World → Prop} {md : Region.Mode} {S : World → Prop} {z : Nat} {i j k : Nat} {o p q : Oper} {fuel : Nat} {listed : Array Bool} {a : Act} {w : World}
    (hr : Region.ready md ops listed = [i, j, k]) (ho : ops[i]? = some o) (hp : ops[j]? = some p) (hq : ops[k]? = some q)
    (h : ∀ K' : Act → World → Prop, Shut (∀ a w, (i < z → S w) → wpAnyZ P md ops Q S z fuel (listed.setIfInBounds i true) a w → K' a w) → if Region.wanted o (yielded ops a.tmps) = true then Oper.wp P o a w K' Q else K' (a.put o.dst undef) w)
    (g : ∀ K' : Act → World → Prop, Shut (∀ a w, (j < z → S w) → wpAnyZ P md ops Q S z fuel (listed.setIfInBounds j true) a w → K' a w) → if Region.wanted p (yielded ops a.tmps) = true then Oper.wp P p a w K' Q else K' (a.put p.dst undef) w)
    (f : ∀ K' : Act → World → Prop, Shut (∀ a w, (k < z → S w) → wpAnyZ P md ops Q S z fuel (listed.setIfInBounds k true) a w → K' a w) → if Region.wanted q (yielded ops a.tmps) = true then Oper.wp P q a w K' Q else K' (a.put q.dst undef) w) :
    wpAnyZ P md ops Q S z (fuel + 1) listed a w :=
  ⟨fun h0 => (by rw [hr] at h0; cases h0), fun n hn => (by
    rw [hr, List.mem_cons, List.mem_cons, List.mem_singleton] at hn
    rcases hn with rfl | rfl | rfl
    · exact wpOp_step ho (fun K' hK => h K' (fun a w hS hW => hK a w ⟨hS, hW⟩))
    · exact wpOp_step hp (fun K' hK => g K' (fun a w hS hW => hK a w ⟨hS, hW⟩))
    · exact wpOp_step hq (fun K' hK => f K' (fun a w hS hW => hK a w ⟨hS, hW⟩)))⟩
end Go.Proofs.Ytlbhoijjbpjmoaa

/-
  Arrays of sixteen bytes, behind a call. Stands on no function of the program.
-/
namespace Go.Proofs.Ytlbhoijjbpjmoaa
open Go.RowKit
set_option linter.unusedVariables false
set_option linter.unusedSimpArgs false

/-- Arrays of sixteen bytes, behind a call. -/
def Ars (w0 : World) (bs : List (Nat × (Nat → Nat))) (w : World) : Prop := (∀ q ∈ bs, Arr w q.1 16 q.2) ∧ Below w0.heap.size w0 w
theorem Ars.grow {w0 w w' : World} {bs : List (Nat × (Nat → Nat))} (h : Ars w0 bs w) (hb : Below w.heap.size w w') : Ars w0 bs w' :=
  ⟨fun q hq => (h.1 q hq).below hb, h.2.trans (hb.mono h.2.size)⟩
theorem Ars.new {w0 w : World} {bs : List (Nat × (Nat → Nat))} (h : Ars w0 bs w) (x : Nat → Nat) (t : TypeId) :
    Ars w0 ((w.heap.size, x) :: bs) ((w.alloc (.cells (vals 16 fun _ => 0).toArray t)).setCells w.heap.size 0 (vals 16 x)) ∧ Arr (w.alloc (.cells (vals 16 fun _ => 0).toArray t)) w.heap.size 16 (fun _ => 0) := by
  have hn := arr_new w 16 (fun _ => 0) t
  have hg := h.grow ((Below.refl w.heap.size w).alloc (Nat.le_refl _) (.cells (vals 16 fun _ => 0).toArray t))
  refine ⟨⟨fun q hq => ?_, below_setCells _ 0 hg.2 h.2.size⟩, hn⟩
  rcases List.mem_cons.1 hq with rfl | hq
  · exact hn.put x
  · have := (h.1 q hq).lt (by decide)
    exact (hg.1 q hq).besidePut (by omega) 0 _
theorem Ars.at {w0 w : World} {bs : List (Nat × (Nat → Nat))} (h : Ars w0 bs w) {g : Nat} {x : Nat → Nat} (hm : (g, x) ∈ bs) : Arr w g 16 x := h.1 _ hm
theorem Ars.lt {w0 w : World} {bs : List (Nat × (Nat → Nat))} (h : Ars w0 bs w) {g : Nat} {x : Nat → Nat} (hm : (g, x) ∈ bs) : g < w.heap.size := (h.at hm).lt (by decide)
/-- The first one written. -/
theorem Ars.put {w0 w : World} {bs : List (Nat × (Nat → Nat))} {g : Nat} {x : Nat → Nat} (h : Ars w0 ((g, x) :: bs) w) (hg : w0.heap.size ≤ g) (hne : ∀ q ∈ bs, q.1 ≠ g) (y : Nat → Nat) : Ars w0 ((g, y) :: bs) (w.setCells g 0 (vals 16 y)) :=
  ⟨fun q hq => by
    rcases List.mem_cons.1 hq with rfl | hq
    · exact (h.at (x := x) (by simp)).put y
    · exact (h.1 q (by simp [hq])).besidePut (fun e => hne q hq e.symm) 0 _, below_setCells _ 0 h.2 hg⟩

end Go.Proofs.Ytlbhoijjbpjmoaa

/-
  Arrays of sixteen bytes in blocks of their own, as a region that makes and writes them keeps them.
-/
namespace Go.Proofs.Ytlbhoijjbpjmoaa
open Go.RowKit
set_option linter.unusedVariables false
set_option linter.unusedSimpArgs false

/-- No two in one block. -/
def Arn (w0 : World) (bs : List (Nat × (Nat → Nat))) (w : World) : Prop := Ars w0 bs w ∧ bs.Pairwise (fun p q => p.1 ≠ q.1) ∧ ∀ q ∈ bs, w0.heap.size ≤ q.1
variable {w0 w w' : World} {bs l : List (Nat × (Nat → Nat))} {a b c : Nat × (Nat → Nat)} {g : Nat} {x y : Nat → Nat}
theorem Arn.grow (h : Arn w0 bs w) (hb : Below w.heap.size w w') : Arn w0 bs w' := ⟨h.1.grow hb, h.2⟩
theorem Arn.below (h : Arn w0 bs w) : Below w0.heap.size w0 w := h.1.2
theorem Arn.at (h : Arn w0 bs w) (hm : (g, x) ∈ bs) : Arr w g 16 x := h.1.1 _ hm
theorem Arn.tail (h : Arn w0 (a :: l) w) : Arn w0 l w := ⟨⟨fun q hq => h.1.1 q (List.mem_cons_of_mem _ hq), h.1.2⟩, (List.pairwise_cons.1 h.2.1).2, fun q hq => h.2.2 q (List.mem_cons_of_mem _ hq)⟩
theorem Arn.swap (h : Arn w0 (a :: b :: l) w) : Arn w0 (b :: a :: l) w := by
  obtain ⟨h1, h2, h3⟩ := h
  rw [List.pairwise_cons, List.pairwise_cons] at h2
  refine ⟨⟨fun q hq => h1.1 q ?_, h1.2⟩, ?_, fun q hq => h3 q ?_⟩
  · simp at hq ⊢; rcases hq with h | h | h <;> simp [h]
  · rw [List.pairwise_cons, List.pairwise_cons]
    refine ⟨fun q hq => ?_, fun q hq => h2.1 q (List.mem_cons_of_mem _ hq), h2.2.2⟩
    rcases List.mem_cons.1 hq with rfl | hq
    · exact fun e => h2.1 b (by simp) e.symm
    · exact h2.2.1 q hq
  · simp at hq ⊢; rcases hq with h | h | h <;> simp [h]
/-- A new one. -/
theorem Arn.fresh (h : Arn w0 bs w) (t : TypeId) : Arn w0 ((w.heap.size, fun _ => 0) :: bs) (w.alloc (.cells (vals 16 fun _ => 0).toArray t)) := by
  have hg := h.grow ((Below.refl w.heap.size w).alloc (Nat.le_refl _) (.cells (vals 16 fun _ => 0).toArray t))
  refine ⟨⟨fun q hq => ?_, hg.1.2⟩, ?_, fun q hq => ?_⟩
  · rcases List.mem_cons.1 hq with rfl | hq
    · exact arr_new w 16 _ t
    · exact hg.1.1 q hq
  · rw [List.pairwise_cons]
    refine ⟨fun q hq e => ?_, h.2.1⟩
    have := (h.1.1 q hq).lt (by decide)
    simp only at e
    omega
  · rcases List.mem_cons.1 hq with rfl | hq
    · exact h.1.2.size
    · exact h.2.2 q hq
/-- The first one written. -/
theorem Arn.put0 (h : Arn w0 ((g, x) :: l) w) (y : Nat → Nat) : Arn w0 ((g, y) :: l) (w.setCells g 0 (vals 16 y)) := by
  obtain ⟨h1, h2, h3⟩ := h
  rw [List.pairwise_cons] at h2
  refine ⟨h1.put (h3 (g, x) (by simp)) (fun q hq e => h2.1 q hq e.symm) y, ?_, fun q hq => ?_⟩
  · rw [List.pairwise_cons]; exact h2
  · rcases List.mem_cons.1 hq with rfl | hq
    · exact h3 (g, x) (by simp)
    · exact h3 q (by simp [hq])
theorem Arn.put1 (h : Arn w0 (a :: (g, x) :: l) w) (y : Nat → Nat) : Arn w0 (a :: (g, y) :: l) (w.setCells g 0 (vals 16 y)) := (h.swap.put0 y).swap
/-- The second and the third changed about. -/
theorem Arn.swap1 (h : Arn w0 (a :: b :: c :: l) w) : Arn w0 (a :: c :: b :: l) w := by
  obtain ⟨h1, h2, h3⟩ := h
  rw [List.pairwise_cons, List.pairwise_cons, List.pairwise_cons] at h2
  refine ⟨⟨fun q hq => h1.1 q ?_, h1.2⟩, ?_, fun q hq => h3 q ?_⟩
  · simp at hq ⊢; rcases hq with h | h | h | h <;> simp [h]
  · rw [List.pairwise_cons, List.pairwise_cons, List.pairwise_cons]
    refine ⟨fun q hq => h2.1 q ?_, fun q hq => ?_, fun q hq => h2.2.1 q (List.mem_cons_of_mem _ hq), h2.2.2.2⟩
    · simp at hq ⊢; rcases hq with h | h | h <;> simp [h]
    · rcases List.mem_cons.1 hq with rfl | hq
      · exact fun e => h2.2.1 c (by simp) e.symm
      · exact h2.2.2.1 q hq
  · simp at hq ⊢; rcases hq with h | h | h | h <;> simp [h]

end Go.Proofs.Ytlbhoijjbpjmoaa

/-
  One of four may come up.
-/
namespace Go.Proofs.Ytlbhoijjbpjmoaa
open Go.RowKit

/-- One of four may come up. -/
theorem wpAnyZ_four {P : Program} {ops : Array Oper} {Q : Exit → Act → World → Prop} {md : Region.Mode} {S : World → Prop} {z : Nat} {i j k l : Nat} {o p q r : Oper} {fuel : Nat} {listed : Array Bool} {a : Act} {w : World}
    (hr : Region.ready md ops listed = [i, j, k, l]) (ho : ops[i]? = some o) (hp : ops[j]? = some p) (hq : ops[k]? = some q) (hs : ops[l]? = some r)
    (h : ∀ K' : Act → World → Prop, Shut (∀ a w, (i < z → S w) → wpAnyZ P md ops Q S z fuel (listed.setIfInBounds i true) a w → K' a w) → if Region.wanted o (yielded ops a.tmps) = true then Oper.wp P o a w K' Q else K' (a.put o.dst undef) w)
    (g : ∀ K' : Act → World → Prop, Shut (∀ a w, (j < z → S w) → wpAnyZ P md ops Q S z fuel (listed.setIfInBounds j true) a w → K' a w) → if Region.wanted p (yielded ops a.tmps) = true then Oper.wp P p a w K' Q else K' (a.put p.dst undef) w)
    (f : ∀ K' : Act → World → Prop, Shut (∀ a w, (k < z → S w) → wpAnyZ P md ops Q S z fuel (listed.setIfInBounds k true) a w → K' a w) → if Region.wanted q (yielded ops a.tmps) = true then Oper.wp P q a w K' Q else K' (a.put q.dst undef) w)
    (e : ∀ K' : Act → World → Prop, Shut (∀ a w, (l < z → S w) → wpAnyZ P md ops Q S z fuel (listed.setIfInBounds l true) a w → K' a w) → if Region.wanted r (yielded ops a.tmps) = true then Oper.wp P r a w K' Q else K' (a.put r.dst undef) w) :
    wpAnyZ P md ops Q S z (fuel + 1) listed a w :=
  ⟨fun h0 => (by rw [hr] at h0; cases h0), fun n hn => (by
    rw [hr, List.mem_cons, List.mem_cons, List.mem_cons, List.mem_singleton] at hn
    rcases hn with rfl | rfl | rfl | rfl
    · exact wpOp_step ho (fun K' hK => h K' (fun a w hS hW => hK a w ⟨hS, hW⟩))
    · exact wpOp_step hp (fun K' hK => g K' (fun a w hS hW => hK a w ⟨hS, hW⟩))
    · exact wpOp_step hq (fun K' hK => f K' (fun a w hS hW => hK a w ⟨hS, hW⟩))
    · exact wpOp_step hs (fun K' hK => e K' (fun a w hS hW => hK a w ⟨hS, hW⟩)))⟩
end Go.Proofs.Ytlbhoijjbpjmoaa

/-
  append(v, make([]byte, m)...), v one's own; make([]byte, m) as a step of a region.
-/
namespace Go.Proofs.Ytlbhoijjbpjmoaa
open Go.RowKit
set_option linter.unusedVariables false
set_option linter.unusedSimpArgs false

theorem zeroCells_u8 (m : Nat) : Builtin.zeroCells (Value.int .u8 0).cells m = (List.replicate m (Value.int .u8 0)).toArray := by
  apply Array.ext
  · simp [Builtin.zeroCells, Value.cells]
  · intro i h1 h2
    simp [Builtin.zeroCells, Value.cells, Nat.mod_one]

section
variable {P : Program} {w : World}
theorem run_append_zeros (t tn ty : TypeId) (i : TypeInfo) (kn : IntKind) (ht : P.underlying t = some (.slice 5)) (htn : P.underlying tn = some (.int kn)) (hi : P.info? 5 = some i) (hz : i.zero = some (.int .u8 0)) (hsize : i.size = 1) (hby : i.bytes = 1)
    (B : Nat) (v : Value) (n : Nat) (xs : List Int) (hown : Own B w v n xs) (m : Nat) (hm : m ≤ 10000) (hn : n ≤ 10000) (hB : B ≤ w.heap.size) :
    ∃ p' cap' w', (Builtin.append_ #[t, tn] ty #[v, .int .i64 m]).run P w = .ok (.slice p' (n + m) cap') w' ∧ Own B w' (.slice p' (n + m) cap') (n + m) (xs ++ List.replicate m 0) ∧ w.grownBy w' v.ownBlock := by
  have hw : IntKind.i64.wrap (m : Int) = m := by rw [IntKind.wrap_i64]; omega
  have hneg : ¬ ((m : Int) < 0) := by omega
  have h48i : ¬ (281474976710656 < (m : Int)) := by omega
  have hxl := hown.len
  have hmap : (xs ++ List.replicate m 0).map (Value.int .u8) = xs.map (Value.int .u8) ++ List.replicate m (Value.int .u8 0) := by simp
  have hlen : ((xs ++ List.replicate m 0).map (Value.int .u8)).length = (n + m) * 1 := by simp; omega
  rcases hown.2 with ⟨rfl, rfl⟩ | ⟨g, cap, cur, rfl, hbg, hg, hnc, hcm, hcs, htake⟩
  · obtain rfl : xs = [] := List.length_eq_zero_iff.1 hxl
    by_cases h0 : m = 0
    · subst h0
      refine ⟨none, 0, w, ?_, ?_, ⟨rfl, rfl, rfl, Nat.le_refl _, fun _ _ _ => rfl⟩⟩
      · simp [Builtin.append_, run_underlying ht, run_underlying htn, sizeOf, typeInfo, hi, asInt, asIntOf, IntKind.wrap_i64]
      · exact Own.nil _ _
    · have hr := Lib.run_append_nil_zeros (P := P) w t tn ty 5 i (.int .u8 0) .i64 kn ht htn hi hz m (by omega) (by omega) (by omega) (by rw [hby]; omega)
      have hge := grownCap_ge w m 0 5
      have hcm : grownCap w m 0 5 ≤ maxLen := grownCap_le_maxLen w m 0 5 (by unfold maxLen; omega)
      rw [Nat.zero_add]
      refine ⟨_, _, _, hr, ⟨by simp, .inr ⟨w.heap.size, _, _, rfl, hB, heap_alloc_new w.drew _, hge, hcm, ?_, ?_⟩⟩, ⟨rfl, rfl, rfl, by simp, fun k hk _ => heap_alloc_old w.drew _ hk⟩⟩
      · simp only [Array.size_append, zeroCells_u8, List.size_toArray, List.length_replicate]; omega
      · simp only [zeroCells_u8, Array.toList_append, List.nil_append, List.map_replicate]
        rw [show m * 1 = (List.replicate m (Value.int .u8 0)).length by simp]
        exact List.take_left
  · rw [Nat.mul_one] at htake
    by_cases hroom : n + m ≤ cap
    · have hnews : (if m * 1 = 0 then (#[] : Array Value) else Builtin.zeroCells (Value.int .u8 0).cells m) = (List.replicate m (Value.int .u8 0)).toArray := by
        by_cases h0 : m = 0
        · subst h0; rfl
        · rw [if_neg (by omega), zeroCells_u8]
      have hst := run_storeCells_at P g (n * 1) 5 (List.replicate m (Value.int .u8 0)) 0 cur w hg (by simp; omega) (fun u hu => by rw [(List.mem_replicate.1 hu).2]; rfl)
      simp only [Nat.add_zero, Nat.mul_one] at hst
      refine ⟨some ⟨g, 0, none⟩, cap, w.setRow g (cur.toList.take n ++ List.replicate m (Value.int .u8 0) ++ cur.toList.drop (n + (List.replicate m (Value.int .u8 0)).length)).toArray, ?_, ⟨hlen, .inr ⟨g, cap, _, rfl, hbg, setRow_heap w g cur _ _ _ hg, hroom, hcm, ?_, ?_⟩⟩, ⟨rfl, rfl, rfl, by simp, fun k _ hk => setRow_other w g k _ (fun e => hk (by simp [Value.ownBlock, e]))⟩⟩
      · by_cases h0 : m = 0
        · subst h0
          simp only [List.replicate_zero, List.length_nil, Nat.add_zero] at hst
          simp [Builtin.append_, run_underlying ht, run_underlying htn, sizeOf, typeInfo, zeroValue, hi, hz, hsize, asInt, asIntOf, IntKind.wrap_i64, hnc, storeCells]
          rw [setRow_self w g cur _ (0, 0) hg]
        · simp [Builtin.append_, run_underlying ht, run_underlying htn, sizeOf, typeInfo, zeroValue, hi, hz, hsize, hby, asInt, asIntOf, hw, hneg, h48i, h0, hroom, zeroCells_u8, Addr.add_lit]
          rw [hst]
          simp [Result.andThen]
      · simp only [List.size_toArray, List.length_append, List.length_take, List.length_drop, Array.length_toList, List.length_replicate]
        omega
      · rw [htake, hmap, Nat.mul_one, show n + m = (xs.map (Value.int .u8) ++ List.replicate m (Value.int .u8 0)).length by simp; omega]
        exact List.take_left
    · have holds : ∀ j u, (xs.map (Value.int .u8))[j]? = some u → w.cell? ((⟨g, 0, none⟩ : Addr).add j) = some u := World.ownsRow.cells hown (g := g) rfl
      have hfo := run_firstCells_some (P := P) w.drew 1 n ⟨g, 0, none⟩ n cap (xs.map (Value.int .u8)) (by simp; omega) (by simpa using holds)
      have h0 : m ≠ 0 := by omega
      have h63 : ¬ (9223372036854775807 < ((n : Int) + (m : Int))) := by omega
      have h48 : ¬ (281474976710656 < Builtin.nextslicecap (n + m) cap) := by
        have := nextslicecap_le (need := n + m) (old := cap) (by omega)
        omega
      have hge := grownCap_ge w (n + m) cap 5
      have hcm : grownCap w (n + m) cap 5 ≤ maxLen := grownCap_le_maxLen w (n + m) cap 5 (by unfold maxLen; omega)
      refine ⟨some ⟨w.heap.size, 0, none⟩, grownCap w (n + m) cap 5, w.drew.alloc (.cells ((xs.map (Value.int .u8)).toArray ++ (List.replicate m (Value.int .u8 0)).toArray ++ Builtin.zeroCells (Value.int .u8 0).cells (grownCap w (n + m) cap 5 - (n + m))) 5), ?_, ⟨hlen, .inr ⟨w.heap.size, _, _, rfl, hB, heap_alloc_new w.drew _, hge, hcm, ?_, ?_⟩⟩, ⟨rfl, rfl, rfl, by simp, fun k hk _ => heap_alloc_old w.drew _ hk⟩⟩
      · simp [Builtin.append_, run_underlying ht, run_underlying htn, sizeOf, typeInfo, zeroValue, hi, hz, hsize, hby, asInt, asIntOf, hw, hneg, h48i, h0, hroom, h63, h48, Question.forced, hfo, zeroCells_u8, newRow, grownCap]
      · simp only [Array.size_append, zeroCells_u8, List.size_toArray, List.length_replicate, List.length_map]
        omega
      · simp only [Array.toList_append, zeroCells_u8]
        rw [hmap, Nat.mul_one, show n + m = (xs.map (Value.int .u8) ++ List.replicate m (Value.int .u8 0)).length by simp; omega]
        exact List.take_left

theorem wpList_append_zeros {ops : Array Oper} {rest : List Oper} {o : Oper} {a : Act} {Q : Exit → Act → World → Prop} (hgd : o.guard = none) (s x : Operand) (t tn : TypeId)
    (ho : o.op = .call { callee := .builtin .append, args := #[s, x], argTypes := #[t, tn] }) (i : TypeInfo) (kn : IntKind)
    (ht : P.underlying t = some (.slice 5)) (htn : P.underlying tn = some (.int kn)) (hi : P.info? 5 = some i) (hz : i.zero = some (.int .u8 0)) (hsize : i.size = 1) (hby : i.bytes = 1)
    (B : Nat) (v : Value) (n : Nat) (xs : List Int) (hs : a.eval s = v) (hown : Own B w v n xs) (m : Nat) (hx : a.eval x = .int .i64 m) (hm : m ≤ 10000) (hn : n ≤ 10000) (hB : B ≤ w.heap.size)
    (h : ∀ p' cap' w', Own B w' (.slice p' (n + m) cap') (n + m) (xs ++ List.replicate m 0) → w.grownBy w' v.ownBlock → wpList P ops Q rest (a.put o.dst (.slice p' (n + m) cap')) w') : wpList P ops Q (o :: rest) a w := by
  obtain ⟨p', cap', w', hr, hO, hg⟩ := run_append_zeros (P := P) (w := w) t tn o.type i kn ht htn hi hz hsize hby B v n xs hown m hm hn hB
  exact Lib.wpList_append_run w hgd s x t tn ho v (.int .i64 m) hs hx _ _ hr (h p' cap' w' hO hg)

/-- make([]byte, n), as a step of a region. -/
theorem step_make_full {ops : Array Oper} {o : Oper} {a : Act} {K : Act → World → Prop} {Q : Exit → Act → World → Prop} {E : Prop} (hgd : o.guard = none) (l c : Operand) (t : TypeId) (hop : o.op = Op.makeSlice t l c)
    (i : TypeInfo) (h1 : P.underlying t = some (.slice 5)) (h2 : P.info? 5 = some i) (h3 : i.zero = some (.int .u8 0)) (h4 : i.size = 1) (h5 : i.bytes = 1)
    (n : Nat) (hl : a.eval l = .int .i64 n) (hc : a.eval c = .int .i64 n) (hn : n ≤ 10000) (B : Nat) (hB : B ≤ w.heap.size)
    (hK : ∀ w', Own B w' (.slice (some ⟨w.heap.size, 0, none⟩) n n) n (List.replicate n 0) → w.grownBy w' none → K (a.put o.dst (.slice (some ⟨w.heap.size, 0, none⟩) n n)) w') :
    if Region.wanted o (yielded ops a.tmps) = true then Oper.wp P o a w K Q else E := by
  have hw : Region.wanted o (yielded ops a.tmps) = true := by simp [Region.wanted, hgd]
  rw [if_pos hw]
  obtain ⟨w', hrun, r1, r2⟩ := run_make_full (P := P) w B t 5 i (.int .u8 0) 1 h1 h2 h3 h4 .i64 .i64 n (by rw [h5]; omega) (by unfold maxLen; omega) hB
  rw [made_u8] at r1
  unfold Oper.wp
  simp [execOp, hop, hl, hc, hrun, Result.andThen]
  exact hK w' r1 r2
end
end Go.Proofs.Ytlbhoijjbpjmoaa
