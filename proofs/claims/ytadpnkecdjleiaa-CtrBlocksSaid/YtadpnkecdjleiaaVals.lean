/-
  Arrays of bytes: as values, in memory, and as they are read. Stands on no function of the program.
-/
import Derived.Test.YtadpnkecdjleiaaBase
import Derived.OpenShut
namespace Go.Proofs.Ytadpnkecdjleiaa
open Go.RowKit

/-- The values of n bytes. -/
def vals (n : Nat) (x : Nat → Nat) : List Value := (List.range n).map fun j => .int .u8 (x j : Nat)
theorem vals_length (n : Nat) (x : Nat → Nat) : (vals n x).length = n := by simp [vals]
theorem vals_at (n : Nat) (x : Nat → Nat) (j : Nat) (hj : j < n) : (vals n x)[j]? = some (.int .u8 (x j : Nat)) := by simp [vals, hj]
theorem vals_same {n : Nat} {x y : Nat → Nat} (h : ∀ j, j < n → x j = y j) : vals n x = vals n y := by
  unfold vals
  apply List.map_congr_left
  intro j hj
  rw [h j (by simpa using hj)]

/-- The cells of block b, from the first one on, read as the n bytes x and may be written. -/
def Arr (w : World) (b n : Nat) (x : Nat → Nat) : Prop := ∀ j, j < n → w.cell? ⟨b, j, none⟩ = some (.int .u8 (x j : Nat)) ∧ w.frozen? ⟨b, j, none⟩ = false

theorem Arr.lt {w : World} {b n : Nat} {x : Nat → Nat} (h : Arr w b n x) (hn : 0 < n) : b < w.heap.size := World.block_lt_of_cell? w _ (h 0 hn).1
theorem Arr.drew {w : World} {b n : Nat} {x : Nat → Nat} (h : Arr w b n x) : Arr w.drew b n x := h
theorem Arr.same {w : World} {b n : Nat} {x y : Nat → Nat} (h : Arr w b n x) (e : ∀ j, j < n → x j = y j) : Arr w b n y := fun j hj => by rw [← e j hj]; exact h j hj

theorem arr_new (w : World) (n : Nat) (x : Nat → Nat) (t : TypeId) : Arr (w.alloc (.cells (vals n x).toArray t)) w.heap.size n x := fun j hj => by
  have e := vals_at n x j hj
  constructor
  · simp [e]
  · simp
theorem Arr.alloc {w : World} {b n : Nat} {x : Nat → Nat} (h : Arr w b n x) (o : Obj) : Arr (w.alloc o) b n x := fun j hj => by
  have hb : b < w.heap.size := World.block_lt_of_cell? w _ (h j hj).1
  constructor
  · rw [World.cell?_alloc_past _ _ _ hb]; exact (h j hj).1
  · rw [World.frozen?_alloc_past _ _ _ hb]; exact (h j hj).2
theorem Arr.set {w : World} {b n : Nat} {x : Nat → Nat} (h : Arr w b n x) (i y : Nat) (hi : i < n) : Arr (w.setCell ⟨b, i, none⟩ (.int .u8 (y : Nat))) b n (fun j => if j = i then y else x j) := fun j hj => by
  constructor
  · by_cases e : j = i
    · subst e
      rw [World.cell?_setCell_same w _ _ (h j hj).1]; simp
    · rw [World.cell?_setCell_other w _ _ _ (by intro hh; cases hh; exact e rfl), (h j hj).1]; simp [e]
  · rw [World.frozen?_setCell]; exact (h j hj).2
theorem Arr.beside {w : World} {b b' n : Nat} {x : Nat → Nat} (h : Arr w b n x) (hb : b' ≠ b) (i : Nat) (v : Value) : Arr (w.setCell ⟨b', i, none⟩ v) b n x := fun j hj => by
  constructor
  · rw [World.cell?_setCell_other w _ _ _ (by intro hh; cases hh; exact hb rfl)]; exact (h j hj).1
  · rw [World.frozen?_setCell]; exact (h j hj).2

/-- Four cells stored one behind the other. -/
def put4 (w : World) (b : Nat) (y : Nat → Nat) : World :=
  (((w.setCell ⟨b, 0, none⟩ (.int .u8 (y 0 : Nat))).setCell ⟨b, 1, none⟩ (.int .u8 (y 1 : Nat))).setCell ⟨b, 2, none⟩ (.int .u8 (y 2 : Nat))).setCell ⟨b, 3, none⟩ (.int .u8 (y 3 : Nat))
theorem four {Q : Nat → Prop} (h0 : Q 0) (h1 : Q 1) (h2 : Q 2) (h3 : Q 3) : ∀ j, j < 4 → Q j := fun j hj => by
  rcases (show j = 0 ∨ j = 1 ∨ j = 2 ∨ j = 3 from by omega) with rfl | rfl | rfl | rfl
  · exact h0
  · exact h1
  · exact h2
  · exact h3
theorem Arr.put4 {w : World} {b : Nat} {x : Nat → Nat} (h : Arr w b 4 x) (y : Nat → Nat) : Arr (put4 w b y) b 4 y :=
  ((((h.set 0 (y 0) (by decide)).set 1 (y 1) (by decide)).set 2 (y 2) (by decide)).set 3 (y 3) (by decide)).same (four rfl rfl rfl rfl)
theorem Below.put4 {B : Nat} {w w' : World} {b : Nat} (h : Below B w w') (hb : B ≤ b) (y : Nat → Nat) : Below B w (put4 w' b y) :=
  (((h.setCell hb _).setCell hb _).setCell hb _).setCell hb _

theorem Arr.below {w w' : World} {b n : Nat} {x : Nat → Nat} (h : Arr w b n x) (hb : Below w.heap.size w w') : Arr w' b n x := fun j hj => by
  have hlt : b < w.heap.size := World.block_lt_of_cell? w _ (h j hj).1
  exact ⟨(hb.cell (p := ⟨b, j, none⟩) hlt).trans (h j hj).1, (hb.frozen (p := ⟨b, j, none⟩) hlt).trans (h j hj).2⟩

section
open Go.ChangeShapes Go.WideShapes
variable {H : Type} {enc : TypeId × Value → H} {P : Program} {w : World} {base : Nat} {spare : Nat → Bool} {held : Bool}

/-- An array of bytes, handed in by value. -/
theorem open_row {n : Nat} {t e : TypeId} {r : Reach} {b0 : Nat} {v : Value} {d : DataW H} {ps : List MemPlace} (ht : P.underlying t = some (.array n e)) (he : P.underlying e = some (.int .u8)) (hce : P.cellsOf e = 1) (hct : P.cellsOf t = n)
    (hval : Value.okWide P w r b0 t v) (hd : DataW.Trod enc P w base spare held t v d ps) :
    ∃ x : Nat → Nat, (∀ j, x j < 256) ∧ v = .agg (vals n x).toArray ∧ ps = [] := by
  obtain ⟨cs, rfl⟩ : ∃ cs, v = .agg cs := by
    rw [Value.okWide.eq_def, ht] at hval
    cases v <;> simp_all
  obtain ⟨fuel, hf⟩ := hd
  obtain ⟨xs, m, _, hx, hl, hn, hi⟩ := DataW.trod_array ht hf
  have hc : (Value.agg cs).cells.toList = cs.toList := rfl
  rw [hce] at hi
  rw [hct] at hl
  have H : ∀ i, i < n → ∃ z : Nat, z < 256 ∧ cs.toList[i]? = some (.int .u8 (z : Nat)) ∧ xs[i]? = some (.lit (.int .u8 (z : Nat)), []) := by
    intro i h
    have h1 := hi i h
    rw [Nat.mul_one, List.getElem?_eq_getElem (show i < xs.length by omega)] at h1
    obtain ⟨z, e1, e2, e3⟩ := DataW.trod_int he h1
    obtain ⟨y, rfl, hy⟩ : ∃ y : Nat, z = (y : Int) ∧ y < 256 := by
      have := u8_of_wf e3
      exact ⟨z.toNat, by omega, by omega⟩
    refine ⟨y, hy, ?_, ?_⟩
    · have := congrArg (·[0]?) e1
      rw [hc] at this
      simpa [List.getElem?_take, List.getElem?_drop] using this
    · rw [List.getElem?_eq_getElem (show i < xs.length by omega), e2]
  have H' : ∀ i, ∃ z : Nat, z < 256 ∧ (i < n → cs.toList[i]? = some (.int .u8 (z : Nat)) ∧ xs[i]? = some (.lit (.int .u8 (z : Nat)), [])) := by
    intro i
    by_cases h : i < n
    · obtain ⟨z, h1, h2, h3⟩ := H i h
      exact ⟨z, h1, fun _ => ⟨h2, h3⟩⟩
    · exact ⟨0, by decide, fun h' => absurd h' h⟩
  obtain ⟨x, hX⟩ := Classical.axiomOfChoice H'
  refine ⟨x, fun j => (hX j).1, ?_, ?_⟩
  · have e : cs.toList = vals n x := by
      apply List.ext_getElem?
      intro j
      by_cases h : j < n
      · rw [vals_at _ _ _ h, ((hX j).2 h).1]
      · have hlen : cs.toList.length = n := hl
        rw [List.getElem?_eq_none (by omega), List.getElem?_eq_none (by rw [vals_length]; omega)]
    rw [← e]
  · have hp : ps = xs.flatMap (·.2) := (Prod.mk.inj hx).2
    rw [hp]
    apply List.flatMap_eq_nil_iff.2
    intro y hy
    obtain ⟨i, h, rfl⟩ := List.getElem_of_mem hy
    have h3 := ((hX i).2 (by omega)).2
    rw [List.getElem?_eq_getElem h] at h3
    rw [Option.some.inj h3]
end
end Go.Proofs.Ytadpnkecdjleiaa
