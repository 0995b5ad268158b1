/-
  The document's Bit; arrays of ints.
-/
import Derived.Test.YtgnhbfjngdgibaaKh
import Derived.Test.YtgnhbfjngdgibaaKa
namespace Go.Proofs.Ytgnhbfjngdgibaa
open Go.RowKit
set_option linter.unusedVariables false
set_option linter.unusedSimpArgs false

/-- The coefficient of x^i. -/
def bitN (v i : Nat) : Nat := v / 2 ^ (127 - i) % 2
theorem bitN_lt (v i : Nat) : bitN v i < 2 := Nat.mod_lt _ (by decide)
theorem bitN_bit (v i : Nat) : decide (bitN v i = 1) = v.testBit (127 - i) := by rw [Nat.testBit_eq_decide_div_mod_eq]; rfl
theorem bit_of_byte (v q r : Nat) (hq : q < 16) (hr : r < 8) : by16 v q / 2 ^ (7 - r) % 2 = bitN v (8 * q + r) := by
  unfold by16 bitN
  rw [show (256 : Nat) ^ (15 - q) = 2 ^ (120 - 8 * q) by rw [show (256 : Nat) = 2 ^ 8 from rfl, ← Nat.pow_mul]; congr 1; omega]
  rw [show 127 - (8 * q + r) = (120 - 8 * q) + (7 - r) from by omega, Nat.pow_add, ← Nat.div_div_eq_div_mul]
  generalize v / 2 ^ (120 - 8 * q) = u
  rcases (show r = 0 ∨ r = 1 ∨ r = 2 ∨ r = 3 ∨ r = 4 ∨ r = 5 ∨ r = 6 ∨ r = 7 from by omega) with rfl | rfl | rfl | rfl | rfl | rfl | rfl | rfl <;> simp <;> omega

set_option maxHeartbeats 2000000 in
set_option maxRecDepth 100000 in
theorem refBit_any (x : Nat → Nat) (i : Nat) (w : World) (ox : ∀ j, x j < 256) (hi : i < 128) :
    Calls Try.prog 79 #[.agg (vals 16 x).toArray, .int .i64 (i : Int)] w fun e w' => e = .returned (.int .i64 (bitN (el x) i : Nat)) ∧ Below w.heap.size w w' := by
  have hA := arr_new w 16 x 44
  have hB := (Below.refl w.heap.size w).alloc (Nat.le_refl _) (.cells (vals 16 x).toArray 44)
  obtain ⟨q, hq⟩ : ∃ q, q = i / 8 := ⟨_, rfl⟩
  obtain ⟨r, hr⟩ : ∃ r, r = i % 8 := ⟨_, rfl⟩
  have hc := (hA q (by omega)).1
  have e1 : (i : Int) / 8 = (q : Int) := by omega
  have e2 : (i : Int) % 8 = (r : Int) := by omega
  have e3 : (q : Int) < 16 := by omega
  have HE := hid (show x q / 2 ^ (7 - r) % 2 = bitN (el x) i from by
    have := bit_of_byte (el x) q r (by omega) (by omega)
    rwa [by16_el ox q (by omega), show 8 * q + r = i from by omega] at this)
  have hx := ox q
  have hr8 : r < 8 := by omega
  clear hq hr hA
  generalize bitN (el x) i = z at HE ⊢
  go_enter Try.func79, Try.ntmps79
  go_wp2_with fail
  go_ret
  refine ⟨ret_int ?_, hB⟩
  have e4 : ((x q : Nat) : Int) / 2 ^ (7 - r) = ((x q / 2 ^ (7 - r) : Nat) : Int) := by simp
  have e5 : x q / 2 ^ (7 - r) < 256 := Nat.lt_of_le_of_lt (Nat.div_le_self _ _) hx
  have e6 := HE.out
  rw [e4]
  generalize x q / 2 ^ (7 - r) = u at e5 e6 ⊢
  rw [show wrap64 (u : Int) = (u : Int) from by simp [wrap64]; omega, Int.tmod_eq_emod_of_nonneg (by omega)]
  omega

/-- The values of n ints. -/
def ivals (n : Nat) (p : Nat → Nat) : List Value := (List.range n).map fun j => .int .i64 (p j : Nat)
theorem ivals_length (n : Nat) (p : Nat → Nat) : (ivals n p).length = n := by simp [ivals]
theorem ivals_at (n : Nat) (p : Nat → Nat) (j : Nat) (hj : j < n) : (ivals n p)[j]? = some (.int .i64 (p j : Nat)) := by simp [ivals, hj]
/-- The cells of block b read as the n ints p and may be written. -/
def IAr (w : World) (b n : Nat) (p : Nat → Nat) : Prop := ∀ j, j < n → w.cell? ⟨b, j, none⟩ = some (.int .i64 (p j : Nat)) ∧ w.frozen? ⟨b, j, none⟩ = false
theorem iar_new (w : World) (n : Nat) (p : Nat → Nat) (t : TypeId) : IAr (w.alloc (.cells (ivals n p).toArray t)) w.heap.size n p := fun j hj => by
  have e := ivals_at n p j hj
  constructor
  · simp [e]
  · simp
theorem IAr.lt {w : World} {b n : Nat} {p : Nat → Nat} (h : IAr w b n p) (hn : 0 < n) : b < w.heap.size := World.block_lt_of_cell? w _ (h 0 hn).1
theorem IAr.below {w w' : World} {b n : Nat} {p : Nat → Nat} (h : IAr w b n p) (hb : Below w.heap.size w w') : IAr w' b n p := fun j hj => by
  have hlt : b < w.heap.size := World.block_lt_of_cell? w _ (h j hj).1
  exact ⟨(hb.cell (p := ⟨b, j, none⟩) hlt).trans (h j hj).1, (hb.frozen (p := ⟨b, j, none⟩) hlt).trans (h j hj).2⟩
theorem IAr.set {w : World} {b n : Nat} {p : Nat → Nat} (h : IAr w b n p) (i y : Nat) (hi : i < n) : IAr (w.setCell ⟨b, i, none⟩ (.int .i64 (y : Nat))) b n (upd p i y) := fun j hj => by
  constructor
  · unfold upd
    by_cases e : j = i
    · subst e
      rw [World.cell?_setCell_same w _ _ (h j hj).1]; simp
    · rw [World.cell?_setCell_other w _ _ _ (by intro hh; cases hh; exact e rfl), (h j hj).1]; simp [e]
  · rw [World.frozen?_setCell]; exact (h j hj).2
theorem IAr.beside {w : World} {b b' n : Nat} {p : Nat → Nat} (h : IAr w b n p) (hb : b' ≠ b) (i : Nat) (v : Value) : IAr (w.setCell ⟨b', i, none⟩ v) b n p := fun j hj => by
  constructor
  · rw [World.cell?_setCell_other w _ _ _ (by intro hh; cases hh; exact hb rfl)]; exact (h j hj).1
  · rw [World.frozen?_setCell]; exact (h j hj).2
theorem IAr.same {w : World} {b n : Nat} {p q : Nat → Nat} (h : IAr w b n p) (e : ∀ j, j < n → p j = q j) : IAr w b n q := fun j hj => by rw [← e j hj]; exact h j hj
theorem Try.zeroRow255 (w : World) : (zeroValue 98).run Try.prog w = .ok (.agg (ivals 255 fun _ => 0).toArray) w := by kernel_rfl

/-- What coefficients come to. -/
def poly (n : Nat) (p : Nat → Nat) : Nat := G.xsum n fun j => G.gate (decide (p j = 1)) (G.D j)
theorem poly_congr {n : Nat} {p q : Nat → Nat} (h : ∀ j, j < n → p j = q j) : poly n p = poly n q := G.xsum_congr fun j hj => by rw [h j hj]
theorem poly_zero (n : Nat) : poly n (fun _ => 0) = 0 := G.xsum_zero n
/-- One coefficient changed. -/
theorem poly_upd {n : Nat} {p : Nat → Nat} (i y : Nat) (hi : i < n) : poly n (upd p i y) = poly n p ^^^ G.gate (decide (p i = 1)) (G.D i) ^^^ G.gate (decide (y = 1)) (G.D i) := by
  have h : ∀ m, m ≤ n → poly m (upd p i y) = if i < m then poly m p ^^^ G.gate (decide (p i = 1)) (G.D i) ^^^ G.gate (decide (y = 1)) (G.D i) else poly m p := by
    intro m
    induction m with
    | zero => intro _; rfl
    | succ m ih =>
      intro hm
      have e := ih (by omega)
      unfold poly at e ⊢
      rw [G.xsum, e, G.xsum]
      by_cases h1 : i < m
      · rw [if_pos h1, if_pos (by omega)]
        have e2 : upd p i y m = p m := by unfold upd; rw [if_neg (by omega)]
        rw [e2, Nat.xor_assoc, Nat.xor_assoc, Nat.xor_assoc, Nat.xor_assoc]
        congr 1
        rw [← Nat.xor_assoc, Nat.xor_comm]
      · rw [if_neg h1]
        by_cases h2 : i = m
        · subst h2
          rw [if_pos (by omega)]
          have e2 : upd p i y i = y := by unfold upd; rw [if_pos rfl]
          rw [e2, Nat.xor_assoc, Nat.xor_assoc]
          congr 1
          rw [← Nat.xor_assoc, Nat.xor_self, Nat.zero_xor]
        · rw [if_neg (by omega)]
          have e2 : upd p i y m = p m := by unfold upd; rw [if_neg (by omega)]
          rw [e2]
  rw [h n (Nat.le_refl _), if_pos hi]
/-- A coefficient turned by a bit. -/
theorem poly_xor {n : Nat} {p : Nat → Nat} (i b : Nat) (hi : i < n) (hp : p i < 2) (hb : b < 2) : poly n (upd p i (p i ^^^ b)) = poly n p ^^^ G.gate (decide (b = 1)) (G.D i) := by
  rw [poly_upd i _ hi, Nat.xor_assoc]
  congr 1
  rcases (show p i = 0 ∨ p i = 1 from by omega) with h1 | h1 <;> rcases (show b = 0 ∨ b = 1 from by omega) with h2 | h2 <;> rw [h1, h2] <;> simp [G.gate]
end Go.Proofs.Ytgnhbfjngdgibaa
