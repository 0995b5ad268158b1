/-
  The contracts of Mix and Unmix, of both.
-/
import Derived.Test.YtadpnkecdjleiaaGprod
namespace Go.Proofs.Ytadpnkecdjleiaa
open Go.RowKit
set_option linter.unusedVariables false

theorem col_same {f g c : Nat → Nat} (k : Nat) (h : ∀ j, j < k → f j = g j) : col f c k = col g c k := by
  induction k with
  | zero => rfl
  | succ k ih =>
    show col f c k ^^^ mul (f k) (c k) = col g c k ^^^ mul (g k) (c k)
    rw [ih fun j hj => h j (by omega), h k (by omega)]

/-- The first row of the mixing, and of the unmixing. -/
def mixRow (j : Nat) : Nat := [2, 3, 1, 1].getD j 0
def unRow (j : Nat) : Nat := [14, 11, 13, 9].getD j 0
def mixRows (j : Nat) : Nat := [2, 3, 1, 1, 1, 2, 3, 1, 1, 1, 2, 3, 3, 1, 1, 2].getD j 0
def unRows (j : Nat) : Nat := [14, 11, 13, 9, 9, 14, 11, 13, 13, 9, 14, 11, 11, 13, 9, 14].getD j 0

/-- The column mixed, unmixed. -/
def mix (c : Nat → Nat) (t : Nat) : Nat := col (fun k => mixRow ((k + 4 - t) % 4)) c 4
def unmix (c : Nat → Nat) (t : Nat) : Nat := col (fun k => unRow ((k + 4 - t) % 4)) c 4

theorem mixRows_eq : ∀ t, t < 4 → ∀ k, k < 4 → mixRows (4 * t + k) = mixRow ((k + 4 - t) % 4) := by decide
theorem unRows_eq : ∀ t, t < 4 → ∀ k, k < 4 → unRows (4 * t + k) = unRow ((k + 4 - t) % 4) := by decide

theorem getD_lt {l : List Nat} (h : ∀ x ∈ l, x < 256) (j : Nat) : l.getD j 0 < 256 := by
  rw [List.getD_eq_getElem?_getD]
  by_cases hj : j < l.length
  · rw [List.getElem?_eq_getElem hj]; exact h _ (List.getElem_mem hj)
  · rw [List.getElem?_eq_none (by omega)]; decide
theorem mixRow_lt (j : Nat) : mixRow j < 256 := getD_lt (by decide) j
theorem unRow_lt (j : Nat) : unRow j < 256 := getD_lt (by decide) j
theorem mixRows_lt (j : Nat) : mixRows j < 256 := getD_lt (by decide) j
theorem unRows_lt (j : Nat) : unRows j < 256 := getD_lt (by decide) j

theorem products_mix (c : Nat → Nat) (w : World) (oc : ∀ j, c j < 256) :
    Calls Try.prog 57 #[.agg #[.int .u8 2, .int .u8 3, .int .u8 1, .int .u8 1, .int .u8 1, .int .u8 2, .int .u8 3, .int .u8 1, .int .u8 1, .int .u8 1, .int .u8 2, .int .u8 3, .int .u8 3, .int .u8 1, .int .u8 1, .int .u8 2],
      .agg #[.int .u8 (c 0 : Nat), .int .u8 (c 1 : Nat), .int .u8 (c 2 : Nat), .int .u8 (c 3 : Nat)]] w fun e w' =>
      e = .returned (.agg #[.int .u8 (mix c 0 : Nat), .int .u8 (mix c 1 : Nat), .int .u8 (mix c 2 : Nat), .int .u8 (mix c 3 : Nat)]) ∧ Below w.heap.size w w' := by
  have h := products_any mixRows c w mixRows_lt oc
  rw [show vals 4 (fun t => col (fun k => mixRows (4 * t + k)) c 4) = vals 4 (mix c) from vals_same fun t ht => col_same 4 fun k hk => mixRows_eq t ht k hk] at h
  exact h

theorem products_unmix (c : Nat → Nat) (w : World) (oc : ∀ j, c j < 256) :
    Calls Try.prog 57 #[.agg #[.int .u8 14, .int .u8 11, .int .u8 13, .int .u8 9, .int .u8 9, .int .u8 14, .int .u8 11, .int .u8 13, .int .u8 13, .int .u8 9, .int .u8 14, .int .u8 11, .int .u8 11, .int .u8 13, .int .u8 9, .int .u8 14],
      .agg #[.int .u8 (c 0 : Nat), .int .u8 (c 1 : Nat), .int .u8 (c 2 : Nat), .int .u8 (c 3 : Nat)]] w fun e w' =>
      e = .returned (.agg #[.int .u8 (unmix c 0 : Nat), .int .u8 (unmix c 1 : Nat), .int .u8 (unmix c 2 : Nat), .int .u8 (unmix c 3 : Nat)]) ∧ Below w.heap.size w w' := by
  have h := products_any unRows c w unRows_lt oc
  rw [show vals 4 (fun t => col (fun k => unRows (4 * t + k)) c 4) = vals 4 (unmix c) from vals_same fun t ht => col_same 4 fun k hk => unRows_eq t ht k hk] at h
  exact h

theorem rows_mix (c : Nat → Nat) (w : World) (oc : ∀ j, c j < 256) :
    Calls Try.prog 50 #[.agg #[.int .u8 2, .int .u8 3, .int .u8 1, .int .u8 1], .agg #[.int .u8 (c 0 : Nat), .int .u8 (c 1 : Nat), .int .u8 (c 2 : Nat), .int .u8 (c 3 : Nat)]] w fun e w' =>
      e = .returned (.agg #[.int .u8 (mix c 0 : Nat), .int .u8 (mix c 1 : Nat), .int .u8 (mix c 2 : Nat), .int .u8 (mix c 3 : Nat)]) ∧ Below w.heap.size w w' :=
  rows_any mixRow c w mixRow_lt oc
theorem rows_unmix (c : Nat → Nat) (w : World) (oc : ∀ j, c j < 256) :
    Calls Try.prog 50 #[.agg #[.int .u8 14, .int .u8 11, .int .u8 13, .int .u8 9], .agg #[.int .u8 (c 0 : Nat), .int .u8 (c 1 : Nat), .int .u8 (c 2 : Nat), .int .u8 (c 3 : Nat)]] w fun e w' =>
      e = .returned (.agg #[.int .u8 (unmix c 0 : Nat), .int .u8 (unmix c 1 : Nat), .int .u8 (unmix c 2 : Nat), .int .u8 (unmix c 3 : Nat)]) ∧ Below w.heap.size w w' :=
  rows_any unRow c w unRow_lt oc

set_option maxHeartbeats 1000000 in
theorem mix_any (c : Nat → Nat) (w : World) (oc : ∀ j, c j < 256) :
    Calls Try.prog 54 #[.agg #[.int .u8 (c 0 : Nat), .int .u8 (c 1 : Nat), .int .u8 (c 2 : Nat), .int .u8 (c 3 : Nat)]] w fun e w' =>
      e = .returned (.agg #[.int .u8 (mix c 0 : Nat), .int .u8 (mix c 1 : Nat), .int .u8 (mix c 2 : Nat), .int .u8 (mix c 3 : Nat)]) ∧ Below w.heap.size w w' := by
  go_enter Try.func54, Try.ntmps54
  go_wp2_with fail
  refine (products_mix c _ oc).mono ?_
  rintro e w2 ⟨rfl, hb⟩
  have ha : Arr w2 (w.heap.size + 1) 4 (fun _ => 0) := by
    have h := arr_new (w.alloc (.cells #[.int .u8 (c 0 : Nat), .int .u8 (c 1 : Nat), .int .u8 (c 2 : Nat), .int .u8 (c 3 : Nat)] 68)) 4 (fun _ => 0) 68
    have h' := h.below hb
    simpa using h'
  have hbw : Below w.heap.size w w2 := (((Below.refl _ _).alloc (Nat.le_refl _) _).alloc (by simp) _).trans (hb.mono (by simp; omega))
  obtain ⟨r0, f0⟩ := ha 0 (by decide)
  obtain ⟨r1, f1⟩ := ha 1 (by decide)
  obtain ⟨r2, f2⟩ := ha 2 (by decide)
  obtain ⟨r3, f3⟩ := ha 3 (by decide)
  have HP := hid (ha.put4 (mix c))
  have HB := hid (Below.put4 hbw (b := w.heap.size + 1) (by omega) (mix c))
  clear ha hbw hb
  go_wp2
  have hp := HP.out
  have hbl := HB.out
  clear HP HB r0 r1 r2 r3 f0 f1 f2 f3
  unfold put4 at hp hbl
  generalize (((w2.setCell ⟨w.heap.size + 1, 0, none⟩ (.int .u8 (mix c 0 : Nat))).setCell ⟨w.heap.size + 1, 1, none⟩ (.int .u8 (mix c 1 : Nat))).setCell ⟨w.heap.size + 1, 2, none⟩ (.int .u8 (mix c 2 : Nat))).setCell ⟨w.heap.size + 1, 3, none⟩ (.int .u8 (mix c 3 : Nat)) = w9 at hp hbl ⊢
  have q0 := (hp 0 (by decide)).1
  have q1 := (hp 1 (by decide)).1
  have q2 := (hp 2 (by decide)).1
  have q3 := (hp 3 (by decide)).1
  refine bodyPost_ret (v := .agg #[.int .u8 (mix c 0 : Nat), .int .u8 (mix c 1 : Nat), .int .u8 (mix c 2 : Nat), .int .u8 (mix c 3 : Nat)]) ?_ rfl ⟨rfl, hbl⟩
  simp [results, Try.results54, go_sem, q0, q1, q2, q3]

set_option maxHeartbeats 1000000 in
theorem refMix_any (c : Nat → Nat) (w : World) (oc : ∀ j, c j < 256) :
    Calls Try.prog 36 #[.agg #[.int .u8 (c 0 : Nat), .int .u8 (c 1 : Nat), .int .u8 (c 2 : Nat), .int .u8 (c 3 : Nat)]] w fun e w' =>
      e = .returned (.agg #[.int .u8 (mix c 0 : Nat), .int .u8 (mix c 1 : Nat), .int .u8 (mix c 2 : Nat), .int .u8 (mix c 3 : Nat)]) ∧ Below w.heap.size w w' := by
  go_enter Try.func36, Try.ntmps36
  go_wp2_with fail
  refine (rows_mix c _ oc).mono ?_
  rintro e w2 ⟨rfl, hb⟩
  have ha : Arr w2 (w.heap.size + 1) 4 (fun _ => 0) := by
    have h := arr_new (w.alloc (.cells #[.int .u8 (c 0 : Nat), .int .u8 (c 1 : Nat), .int .u8 (c 2 : Nat), .int .u8 (c 3 : Nat)] 68)) 4 (fun _ => 0) 68
    have h' := h.below hb
    simpa using h'
  have hbw : Below w.heap.size w w2 := (((Below.refl _ _).alloc (Nat.le_refl _) _).alloc (by simp) _).trans (hb.mono (by simp; omega))
  obtain ⟨r0, f0⟩ := ha 0 (by decide)
  obtain ⟨r1, f1⟩ := ha 1 (by decide)
  obtain ⟨r2, f2⟩ := ha 2 (by decide)
  obtain ⟨r3, f3⟩ := ha 3 (by decide)
  have HP := hid (ha.put4 (mix c))
  have HB := hid (Below.put4 hbw (b := w.heap.size + 1) (by omega) (mix c))
  clear ha hbw hb
  go_wp2
  have hp := HP.out
  have hbl := HB.out
  clear HP HB r0 r1 r2 r3 f0 f1 f2 f3
  unfold put4 at hp hbl
  generalize (((w2.setCell ⟨w.heap.size + 1, 0, none⟩ (.int .u8 (mix c 0 : Nat))).setCell ⟨w.heap.size + 1, 1, none⟩ (.int .u8 (mix c 1 : Nat))).setCell ⟨w.heap.size + 1, 2, none⟩ (.int .u8 (mix c 2 : Nat))).setCell ⟨w.heap.size + 1, 3, none⟩ (.int .u8 (mix c 3 : Nat)) = w9 at hp hbl ⊢
  have q0 := (hp 0 (by decide)).1
  have q1 := (hp 1 (by decide)).1
  have q2 := (hp 2 (by decide)).1
  have q3 := (hp 3 (by decide)).1
  refine bodyPost_ret (v := .agg #[.int .u8 (mix c 0 : Nat), .int .u8 (mix c 1 : Nat), .int .u8 (mix c 2 : Nat), .int .u8 (mix c 3 : Nat)]) ?_ rfl ⟨rfl, hbl⟩
  simp [results, Try.results36, go_sem, q0, q1, q2, q3]

end Go.Proofs.Ytadpnkecdjleiaa
