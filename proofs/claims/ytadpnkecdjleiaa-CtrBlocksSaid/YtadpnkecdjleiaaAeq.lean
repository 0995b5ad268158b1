/-
  Two arrays of bytes compared.
-/
import Derived.Test.YtadpnkecdjleiaaVals
import Derived.ChangeKeysEq
namespace Go.Proofs.Ytadpnkecdjleiaa
open Go.RowKit

theorem Try.plainU8 : Try.prog.plainKey 5 = true := by kernel_rfl
theorem Try.cellsU8 : Try.prog.cellsOf 5 = 1 := by kernel_rfl
theorem Try.sizeU8 : ∃ i, Try.prog.info? 5 = some i := by
  have h : (Try.prog.info? 5).isSome = true := by kernel_rfl
  exact Option.isSome_iff_exists.1 h

/-- Two rows of n bytes are compared one by one. -/
theorem items_u8 (n d : Nat) (x y : Nat → Nat) (w : World) : ∀ is : List Nat, (∀ i ∈ is, i < n) →
    (Op.eqItems (d + 1) 5 1 (vals n x).toArray (vals n y).toArray is).run Try.prog w = .ok (is.all fun i => x i == y i) w
  | [], _ => by simp [Op.eqItems]
  | i :: is, h => by
    have hi := h i (by simp)
    have ih := items_u8 n d x y w is fun j hj => h j (by simp [hj])
    have px := run_part_plain (P := Try.prog) w Try.plainU8 (xs := (vals n x).toArray) (off := i) (by rw [List.getElem?_toArray]; exact vals_at n x i hi)
    have py := run_part_plain (P := Try.prog) w Try.plainU8 (xs := (vals n y).toArray) (off := i) (by rw [List.getElem?_toArray]; exact vals_at n y i hi)
    simp only [Op.eqItems, Sem.run_bind, Nat.mul_one, px, py, Result.andThen_ok, run_equalIn_int w d 5 .u8 .u8 _ _ Try.underlying5]
    cases hb : (((x i : Nat) : Int) == ((y i : Nat) : Int))
    · have : (x i == y i) = false := by
        rw [beq_eq_false_iff_ne] at hb ⊢
        omega
      simp [this]
    · have : (x i == y i) = true := by
        have := eq_of_beq hb
        rw [beq_iff_eq]
        omega
      simp [this, ih]
end Go.Proofs.Ytadpnkecdjleiaa
