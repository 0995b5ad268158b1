/-
  The walk of GaloisMix.
-/
import Derived.Test.YtijgnlocpkandaaGmix
import Derived.Deep.RegionHeld3
import Derived.ChangeKeysEq
namespace Go.Proofs.Ytijgnlocpkandaa
open Go.RowKit
set_option linter.unusedVariables false

/-- A boxed column stays, and nothing of before is changed. -/
def Kept (w : World) (c : Nat → Nat) (wr : World) : Prop := wr.cell? ⟨w.heap.size, 0, none⟩ = some (.int .u8 (c 0 : Nat)) ∧ wr.cell? ⟨w.heap.size, 1, none⟩ = some (.int .u8 (c 1 : Nat)) ∧ wr.cell? ⟨w.heap.size, 2, none⟩ = some (.int .u8 (c 2 : Nat)) ∧ wr.cell? ⟨w.heap.size, 3, none⟩ = some (.int .u8 (c 3 : Nat)) ∧ Below w.heap.size w wr

theorem Kept.grow {w w1 w2 : World} {c : Nat → Nat} (h : Kept w c w1) (hb : Below w1.heap.size w1 w2) : Kept w c w2 := by
  obtain ⟨h0, h1, h2, h3, hw⟩ := h
  have hl : w.heap.size < w1.heap.size := World.block_lt_of_cell? w1 _ h0
  have k : ∀ j v, w1.cell? ⟨w.heap.size, j, none⟩ = some v → w2.cell? ⟨w.heap.size, j, none⟩ = some v := fun j v h => (hb.cell (p := ⟨w.heap.size, j, none⟩) hl).trans h
  exact ⟨k _ _ h0, k _ _ h1, k _ _ h2, k _ _ h3, hw.trans (hb.mono hw.size)⟩
theorem Kept.drew {w w1 : World} {c : Nat → Nat} (h : Kept w c w1) : Kept w c w1.drew := ⟨h.1, h.2.1, h.2.2.1, h.2.2.2.1, h.2.2.2.2.drew⟩

theorem mix_kept (c : Nat → Nat) (w0 w : World) (oc : ∀ j, c j < 256) (h : Kept w0 c w) :
    Calls Try.prog 24 #[(.agg #[.int .u8 (c 0 : Nat), .int .u8 (c 1 : Nat), .int .u8 (c 2 : Nat), .int .u8 (c 3 : Nat)])] w fun e w' => e = .returned (.agg #[.int .u8 (mix c 0 : Nat), .int .u8 (mix c 1 : Nat), .int .u8 (mix c 2 : Nat), .int .u8 (mix c 3 : Nat)]) ∧ Kept w0 c w' :=
  (mix_any c w oc).mono fun e w' ⟨he, hb⟩ => ⟨he, h.grow hb⟩
theorem unmix_kept (c : Nat → Nat) (w0 w : World) (oc : ∀ j, c j < 256) (h : Kept w0 c w) :
    Calls Try.prog 26 #[(.agg #[.int .u8 (c 0 : Nat), .int .u8 (c 1 : Nat), .int .u8 (c 2 : Nat), .int .u8 (c 3 : Nat)])] w fun e w' => e = .returned (.agg #[.int .u8 (unmix c 0 : Nat), .int .u8 (unmix c 1 : Nat), .int .u8 (unmix c 2 : Nat), .int .u8 (unmix c 3 : Nat)]) ∧ Kept w0 c w' :=
  (unmix_any c w oc).mono fun e w' ⟨he, hb⟩ => ⟨he, h.grow hb⟩
theorem refMix_kept (c : Nat → Nat) (w0 w : World) (oc : ∀ j, c j < 256) (h : Kept w0 c w) :
    Calls Try.prog 25 #[(.agg #[.int .u8 (c 0 : Nat), .int .u8 (c 1 : Nat), .int .u8 (c 2 : Nat), .int .u8 (c 3 : Nat)])] w fun e w' => e = .returned (.agg #[.int .u8 (mix c 0 : Nat), .int .u8 (mix c 1 : Nat), .int .u8 (mix c 2 : Nat), .int .u8 (mix c 3 : Nat)]) ∧ Kept w0 c w' :=
  (refMix_any c w oc).mono fun e w' ⟨he, hb⟩ => ⟨he, h.grow hb⟩
theorem refUnmix_kept (c : Nat → Nat) (w0 w : World) (oc : ∀ j, c j < 256) (h : Kept w0 c w) :
    Calls Try.prog 27 #[(.agg #[.int .u8 (c 0 : Nat), .int .u8 (c 1 : Nat), .int .u8 (c 2 : Nat), .int .u8 (c 3 : Nat)])] w fun e w' => e = .returned (.agg #[.int .u8 (unmix c 0 : Nat), .int .u8 (unmix c 1 : Nat), .int .u8 (unmix c 2 : Nat), .int .u8 (unmix c 3 : Nat)]) ∧ Kept w0 c w' :=
  (refUnmix_any c w oc).mono fun e w' ⟨he, hb⟩ => ⟨he, h.grow hb⟩
theorem known_kept (c : Nat → Nat) (w0 w : World) (h : Kept w0 c w) :
    Calls Try.prog 15 #[] w fun e w' => e = .returned (.bool true) ∧ Kept w0 c w' :=
  (known_any w).mono fun e w' ⟨he, hw⟩ => ⟨he, hw ▸ h⟩

theorem Try.plainU8 : Try.prog.plainKey 5 = true := by kernel_rfl
theorem Try.cellsU8 : Try.prog.cellsOf 5 = 1 := by kernel_rfl
theorem Try.sizeU8 : ∃ i, Try.prog.info? 5 = some i := by
  have h : (Try.prog.info? 5).isSome = true := by kernel_rfl
  exact Option.isSome_iff_exists.1 h

/-- Two rows of n bytes are compared one by one. -/
theorem items_u8 (n d : Nat) (x y : Nat → Nat) (w : World) : ∀ is : List Nat, (∀ i ∈ is, i < n) →
    (Op.eqItems (d + 1) 5 1 (vals n x).toArray (vals n y).toArray is).run Try.prog w = .ok (is.all fun i => x i == y i) w
  | [], _ => by simp [Op.eqItems]
  | i :: is, h => by
    have hi := h i (by simp)
    have ih := items_u8 n d x y w is fun j hj => h j (by simp [hj])
    have px := run_part_plain (P := Try.prog) w Try.plainU8 (xs := (vals n x).toArray) (off := i) (by rw [List.getElem?_toArray]; exact vals_at n x i hi)
    have py := run_part_plain (P := Try.prog) w Try.plainU8 (xs := (vals n y).toArray) (off := i) (by rw [List.getElem?_toArray]; exact vals_at n y i hi)
    simp only [Op.eqItems, Sem.run_bind, Nat.mul_one, px, py, Result.andThen_ok, run_equalIn_int w d 5 .u8 .u8 _ _ Try.underlying5]
    cases hb : (((x i : Nat) : Int) == ((y i : Nat) : Int))
    · have : (x i == y i) = false := by
        rw [beq_eq_false_iff_ne] at hb ⊢
        omega
      simp [this]
    · have : (x i == y i) = true := by
        have := eq_of_beq hb
        rw [beq_iff_eq]
        omega
      simp [this, ih]

theorem same4 (x y : Nat → Nat) (w : World) (h : ∀ j, j < 4 → x j = y j) :
    (Op.equalIn 10000 30 (.agg #[.int .u8 (x 0 : Nat), .int .u8 (x 1 : Nat), .int .u8 (x 2 : Nat), .int .u8 (x 3 : Nat)]) (.agg #[.int .u8 (y 0 : Nat), .int .u8 (y 1 : Nat), .int .u8 (y 2 : Nat), .int .u8 (y 3 : Nat)])).run Try.prog w = .ok true w := by
  obtain ⟨i, hi⟩ := Try.sizeU8
  have h1 := run_equalIn_array (P := Try.prog) w 9999 (vals 4 x).toArray (vals 4 y).toArray Try.underlying30 hi
  rw [Try.cellsU8, items_u8 4 9998 x y w _ (by simp)] at h1
  have e : ((List.range 4).all fun i => x i == y i) = true := by
    rw [List.all_eq_true]
    intro j hj
    rw [beq_iff_eq]
    exact h j (by simpa using hj)
  rw [e] at h1
  exact h1

set_option maxHeartbeats 4000000 in
theorem mix_law (c : Nat → Nat) (w : World) (oc : ∀ j, c j < 256) :
    Calls Try.prog 8 #[(.agg #[.int .u8 (c 0 : Nat), .int .u8 (c 1 : Nat), .int .u8 (c 2 : Nat), .int .u8 (c 3 : Nat)])] w fun e w' => e = .returned (.bool true) ∧ Below w.heap.size w w' := by
  have em := fun w => same4 (mix c) (mix c) w fun _ _ => rfl
  have eu := fun w => same4 (unmix c) (unmix c) w fun _ _ => rfl
  go_enter Try.func8, Try.ntmps8
  go_wp2
  go_region_held3 (fun w' => w'.cell? ⟨w.heap.size, 0, none⟩ = some (.int .u8 (c 0 : Nat)) ∧ w'.cell? ⟨w.heap.size, 1, none⟩ = some (.int .u8 (c 1 : Nat)) ∧ w'.cell? ⟨w.heap.size, 2, none⟩ = some (.int .u8 (c 2 : Nat)) ∧ w'.cell? ⟨w.heap.size, 3, none⟩ = some (.int .u8 (c 3 : Nat)) ∧ Below w.heap.size w w') (first | assumption | (refine ⟨?_, ?_, ?_, ?_, ((Below.refl _ _).alloc (Nat.le_refl _) _).drew⟩ <;> simp))
    (first
      | (go_at_call 24; refine (mix_kept c w _ oc (by assumption)).mono ?_; rintro e w' ⟨rfl, hk⟩)
      | (go_at_call 25; refine (refMix_kept c w _ oc (by assumption)).mono ?_; rintro e w' ⟨rfl, hk⟩)
      | (go_at_call 26; refine (unmix_kept c w _ oc (by assumption)).mono ?_; rintro e w' ⟨rfl, hk⟩)
      | (go_at_call 27; refine (refUnmix_kept c w _ oc (by assumption)).mono ?_; rintro e w' ⟨rfl, hk⟩)
      | (go_at_call 15; refine (known_kept c w _ (by assumption)).mono ?_; rintro e w' ⟨rfl, hk⟩))
  all_goals
    go_wp2
    go_ret
    exact ⟨rfl, hk.2.2.2.2⟩
end Go.Proofs.Ytijgnlocpkandaa
