/-
  Mixing as a sum: it spreads over sums of columns, and is undone by unmixing.
-/
import Derived.Test.YtadpnkecdjleiaaGmix
namespace Go.Proofs.Ytadpnkecdjleiaa

theorem col_add (f c d : Nat → Nat) (k : Nat) : col f (fun j => c j ^^^ d j) k = col f c k ^^^ col f d k := by
  induction k with
  | zero => simp [col]
  | succ k ih =>
    show col f (fun j => c j ^^^ d j) k ^^^ mul (f k) (c k ^^^ d k) = (col f c k ^^^ mul (f k) (c k)) ^^^ (col f d k ^^^ mul (f k) (d k))
    rw [ih, mul_right, xor4]

theorem col_congr (f : Nat → Nat) {c d : Nat → Nat} (k : Nat) (h : ∀ j, j < k → c j = d j) : col f c k = col f d k := by
  induction k with
  | zero => rfl
  | succ k ih =>
    show col f c k ^^^ mul (f k) (c k) = col f d k ^^^ mul (f k) (d k)
    rw [ih fun j hj => h j (by omega), h k (by omega)]

theorem mix_add (c d : Nat → Nat) (t : Nat) : mix (fun j => c j ^^^ d j) t = mix c t ^^^ mix d t := col_add _ c d 4
theorem unmix_add (c d : Nat → Nat) (t : Nat) : unmix (fun j => c j ^^^ d j) t = unmix c t ^^^ unmix d t := col_add _ c d 4
theorem mix_congr {c d : Nat → Nat} (t : Nat) (h : ∀ j, j < 4 → c j = d j) : mix c t = mix d t := col_congr _ 4 h
theorem unmix_congr {c d : Nat → Nat} (t : Nat) (h : ∀ j, j < 4 → c j = d j) : unmix c t = unmix d t := col_congr _ 4 h

/-- A column of one element alone. -/
def unit (j x t : Nat) : Nat := if t = j then x else 0

theorem unit_add (j x y : Nat) : unit j (x ^^^ y) = fun t => unit j x t ^^^ unit j y t := by
  funext t
  unfold unit
  split <;> simp

theorem back_bits : ∀ j, j < 4 → ∀ i, i < 8 → ∀ t, t < 4 → unmix (mix (unit j (2 ^ i))) t = unit j (2 ^ i) t := by decide +kernel
theorem forth_bits : ∀ j, j < 4 → ∀ i, i < 8 → ∀ t, t < 4 → mix (unmix (unit j (2 ^ i))) t = unit j (2 ^ i) t := by decide +kernel

theorem split4 (c : Nat → Nat) : ∀ t, t < 4 → c t = (unit 0 (c 0) t ^^^ unit 1 (c 1) t) ^^^ (unit 2 (c 2) t ^^^ unit 3 (c 3) t) :=
  four (by simp [unit]) (by simp [unit]) (by simp [unit]) (by simp [unit])

/-- A sum of columns comes back if both do. -/
theorem unmix_mix_add {c d : Nat → Nat} (hc : ∀ t, t < 4 → unmix (mix c) t = c t) (hd : ∀ t, t < 4 → unmix (mix d) t = d t) : ∀ t, t < 4 → unmix (mix fun j => c j ^^^ d j) t = c t ^^^ d t := fun t ht => by
  rw [show (mix fun j => c j ^^^ d j) = fun t => mix c t ^^^ mix d t from funext fun t => mix_add c d t, unmix_add, hc t ht, hd t ht]
theorem mix_unmix_add {c d : Nat → Nat} (hc : ∀ t, t < 4 → mix (unmix c) t = c t) (hd : ∀ t, t < 4 → mix (unmix d) t = d t) : ∀ t, t < 4 → mix (unmix fun j => c j ^^^ d j) t = c t ^^^ d t := fun t ht => by
  rw [show (unmix fun j => c j ^^^ d j) = fun t => unmix c t ^^^ unmix d t from funext fun t => unmix_add c d t, mix_add, hc t ht, hd t ht]

theorem unmix_mix_unit (j : Nat) (hj : j < 4) : ∀ x, x < 256 → ∀ t, t < 4 → unmix (mix (unit j x)) t = unit j x t := by
  refine span ?_ (back_bits j hj)
  intro x y hx hy t ht
  rw [unit_add]
  exact unmix_mix_add hx hy t ht
theorem mix_unmix_unit (j : Nat) (hj : j < 4) : ∀ x, x < 256 → ∀ t, t < 4 → mix (unmix (unit j x)) t = unit j x t := by
  refine span ?_ (forth_bits j hj)
  intro x y hx hy t ht
  rw [unit_add]
  exact mix_unmix_add hx hy t ht

theorem unmix_mix (c : Nat → Nat) (hc : ∀ j, c j < 256) : ∀ t, t < 4 → unmix (mix c) t = c t := fun t ht => by
  have e : ∀ u, mix c u = mix (fun j => (unit 0 (c 0) j ^^^ unit 1 (c 1) j) ^^^ (unit 2 (c 2) j ^^^ unit 3 (c 3) j)) u := fun u => mix_congr u (split4 c)
  rw [unmix_congr t fun j _ => e j, split4 c t ht]
  exact unmix_mix_add (unmix_mix_add (unmix_mix_unit 0 (by decide) _ (hc 0)) (unmix_mix_unit 1 (by decide) _ (hc 1))) (unmix_mix_add (unmix_mix_unit 2 (by decide) _ (hc 2)) (unmix_mix_unit 3 (by decide) _ (hc 3))) t ht
theorem mix_unmix (c : Nat → Nat) (hc : ∀ j, c j < 256) : ∀ t, t < 4 → mix (unmix c) t = c t := fun t ht => by
  have e : ∀ u, unmix c u = unmix (fun j => (unit 0 (c 0) j ^^^ unit 1 (c 1) j) ^^^ (unit 2 (c 2) j ^^^ unit 3 (c 3) j)) u := fun u => unmix_congr u (split4 c)
  rw [mix_congr t fun j _ => e j, split4 c t ht]
  exact mix_unmix_add (mix_unmix_add (mix_unmix_unit 0 (by decide) _ (hc 0)) (mix_unmix_unit 1 (by decide) _ (hc 1))) (mix_unmix_add (mix_unmix_unit 2 (by decide) _ (hc 2)) (mix_unmix_unit 3 (by decide) _ (hc 3))) t ht

theorem mix_lt (c : Nat → Nat) (t : Nat) : mix c t < 256 := col_lt _ c (fun _ => mixRow_lt _) 4
theorem unmix_lt (c : Nat → Nat) (t : Nat) : unmix c t < 256 := col_lt _ c (fun _ => unRow_lt _) 4
end Go.Proofs.Ytadpnkecdjleiaa
