/-
  A slice of bytes that the call itself made: what it holds, how it is read, and that a store keeps it.
-/
import Derived.Test.YtadpnkecdjleiaaBase
namespace Go.Proofs.Ytadpnkecdjleiaa
open Go.RowKit

theorem Try.infoU8 : (Try.prog.info? 5).map (fun i => (i.zero, i.size, i.bytes)) = some (some (.int .u8 0), 1, 1) := by kernel_rfl

/-- The slice value v, of n elements, lies in a block of the call's own (from B on), or is nil, and holds the numbers xs. -/
def Own (B : Nat) (w : World) (v : Value) (n : Nat) (xs : List Int) : Prop := w.ownsRow B 5 1 v n (xs.map (Value.int .u8))

theorem made_u8 (n : Nat) : (madeCells (Value.int .u8 0).cells (n * 1)).toList = (List.replicate n 0).map (Value.int .u8) := by
  apply List.ext_getElem
  · simp [madeCells]
  · intro i h1 h2
    simp [madeCells, Value.cells, Nat.mod_one]

theorem Own.len {B : Nat} {w : World} {v : Value} {n : Nat} {xs : List Int} (h : Own B w v n xs) : xs.length = n := by
  have := h.1
  simpa using this

theorem Own.shape {B : Nat} {w : World} {v : Value} {n : Nat} {xs : List Int} (h : Own B w v n xs) :
    (v = .slice none 0 0 ∧ n = 0) ∨ ∃ g cap, v = .slice (some ⟨g, 0, none⟩) n cap ∧ B ≤ g ∧ n ≤ cap := by
  rcases h.2 with ⟨hv, hn⟩ | ⟨g, cap, cur, rfl, hB, _, hc, _⟩
  · exact .inl ⟨hv, hn⟩
  · exact .inr ⟨g, cap, rfl, hB, hc⟩

theorem Own.cellAt {B : Nat} {w : World} {g n cap : Nat} {xs : List Int} (h : Own B w (.slice (some ⟨g, 0, none⟩) n cap) n xs) (j : Nat) (hj : j < n) :
    w.cell? ⟨g, j, none⟩ = some (.int .u8 (xs.getD j 0)) := by
  have hl := h.len
  have e := World.ownsRow.cellAt h j (by omega)
  rw [e, List.getElem?_map, List.getD_eq_getElem?_getD, List.getElem?_eq_getElem (show j < xs.length by omega)]
  rfl

theorem Own.frozenAt {B : Nat} {w : World} {g n cap : Nat} {xs : List Int} (h : Own B w (.slice (some ⟨g, 0, none⟩) n cap) n xs) (j : Nat) : w.frozen? ⟨g, j, none⟩ = false :=
  World.ownsRow.frozenAt h j

theorem Own.stored {B g n cap : Nat} {w : World} {xs : List Int} (h : Own B w (.slice (some ⟨g, 0, none⟩) n cap) n xs) (j : Nat) (x : Int) :
    Own B (w.setCell ⟨g, j, none⟩ (.int .u8 x)) (.slice (some ⟨g, 0, none⟩) n cap) n (xs.set j x) := by
  have := (World.ownsRow.stored h j (.int .u8 x)).1
  unfold Own
  rw [List.map_set]
  exact this

/-- What one's own slice reads as. -/
theorem Own.bin {B n : Nat} {w : World} {v : Value} {xs : List Int} (h : Own B w v n xs) : ∃ p cap, v = .slice p n cap ∧ n ≤ cap ∧ Bin w p xs := by
  have hl := h.len
  rcases h.shape with ⟨rfl, rfl⟩ | ⟨g, cap, rfl, _, hc⟩
  · exact ⟨none, 0, rfl, Nat.le_refl _, fun hn => by omega⟩
  · exact ⟨some ⟨g, 0, none⟩, cap, rfl, hc, fun _ => ⟨g, 0, rfl, fun i hi => by rw [Nat.zero_add]; exact h.cellAt i (by omega)⟩⟩

theorem Own.nil (B : Nat) (w : World) : Own B w (.slice none 0 0) 0 [] := World.ownsRow_nil _ _ _ _

theorem Own.mono {B B' n : Nat} {w : World} {v : Value} {xs : List Int} (h : Own B w v n xs) (hB : B' ≤ B) : Own B' w v n xs := by
  refine ⟨h.1, ?_⟩
  rcases h.2 with h2 | ⟨g, cap, cur, h1, h2, h3⟩
  · exact .inl h2
  · exact .inr ⟨g, cap, cur, h1, Nat.le_trans hB h2, h3⟩

/-- What is below a later world's end stays. -/
theorem Own.below {B n : Nat} {w w' : World} {v : Value} {xs : List Int} (h : Own B w v n xs) (hb : Below w.heap.size w w') : Own B w' v n xs := by
  refine ⟨h.1, ?_⟩
  rcases h.2 with h2 | ⟨g, cap, cur, h1, h2, h3, h4⟩
  · exact .inl h2
  · have hlt : g < w.heap.size := (Array.getElem?_eq_some_iff.1 h3).1
    exact .inr ⟨g, cap, cur, h1, h2, (hb.block g hlt).trans h3, h4⟩

/-- Two new cells, behind a draw. -/
theorem two_new (w : World) (x y : Value) (t : TypeId) : ∀ (j : Nat) u, [x, y][j]? = some u → ((w.alloc (.cells #[x, y] t)).drew).cell? ((⟨w.heap.size, 0, none⟩ : Addr).add j) = some u := by
  intro j u hj
  show (w.alloc (.cells #[x, y] t)).cell? _ = some u
  match j, hj with
  | 0, hj => simp at hj; subst hj; simp [Addr.add]
  | 1, hj => simp at hj; subst hj; simp [Addr.add]
  | n + 2, hj => simp at hj

theorem one_new (w : World) (x : Value) (t : TypeId) : ∀ (j : Nat) u, [x][j]? = some u → ((w.alloc (.cells #[x] t)).drew).cell? ((⟨w.heap.size, 0, none⟩ : Addr).add j) = some u := by
  intro j u hj
  show (w.alloc (.cells #[x] t)).cell? _ = some u
  match j, hj with
  | 0, hj => simp at hj; subst hj; simp [Addr.add]
  | n + 1, hj => simp at hj

theorem int_one (x : Int) : ∀ u ∈ [Value.int .u8 x], u.oneCell' = true := by
  intro u hu
  simp at hu
  subst hu; rfl

theorem ints_one (x y : Int) : ∀ u ∈ [Value.int .u8 x, Value.int .u8 y], u.oneCell' = true := by
  intro u hu
  simp at hu
  rcases hu with rfl | rfl <;> rfl

end Go.Proofs.Ytadpnkecdjleiaa
