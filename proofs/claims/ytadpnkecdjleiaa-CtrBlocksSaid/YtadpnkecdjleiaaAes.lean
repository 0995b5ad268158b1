/-
  Words of a key, enciphering and deciphering as numbers: that deciphering undoes. Stands on no function of the program.
-/
import Derived.Test.YtadpnkecdjleiaaAmix
namespace Go.Proofs.Ytadpnkecdjleiaa
open Go.RowKit
set_option linter.unusedVariables false

/-- They are the same sixteen. -/
def Eq16 (x y : Nat → Nat) : Prop := ∀ j, j < 16 → x j = y j
theorem Eq16.refl (x : Nat → Nat) : Eq16 x x := fun _ _ => rfl
theorem Eq16.symm {x y : Nat → Nat} (h : Eq16 x y) : Eq16 y x := fun j hj => (h j hj).symm
theorem Eq16.trans {x y z : Nat → Nat} (h : Eq16 x y) (g : Eq16 y z) : Eq16 x z := fun j hj => (h j hj).trans (g j hj)

def addK (F : Nat → Nat) (j : Nat) (x : Nat → Nat) : Nat → Nat := fun p => x p ^^^ F (16 * j + p)
def subS (x : Nat → Nat) : Nat → Nat := fun p => sub (x p)
def backS (x : Nat → Nat) : Nat → Nat := fun p => back (x p)
def movS (x : Nat → Nat) : Nat → Nat := fun p => x (src p)
def movB (x : Nat → Nat) : Nat → Nat := fun p => x (dst p)
/-- One round, and one undone. -/
def rnd (F : Nat → Nat) (j : Nat) (x : Nat → Nat) : Nat → Nat := addK F j (mixS (movS (subS x)))
def unrnd (F : Nat → Nat) (j : Nat) (x : Nat → Nat) : Nat → Nat := backS (movB (unmixS (addK F j x)))
/-- The first rounds. -/
def encN (F : Nat → Nat) : Nat → (Nat → Nat) → (Nat → Nat)
  | 0, x => addK F 0 x
  | j + 1, x => rnd F (j + 1) (encN F j x)
/-- The first rounds undone. -/
def decN (F : Nat → Nat) : Nat → (Nat → Nat) → (Nat → Nat)
  | 0, x => addK F 0 x
  | j + 1, x => decN F j (unrnd F (j + 1) x)
/-- Enciphered and deciphered with r rounds. -/
def enc (F : Nat → Nat) (r : Nat) (x : Nat → Nat) : Nat → Nat := addK F r (movS (subS (encN F (r - 1) x)))
def dec (F : Nat → Nat) (r : Nat) (x : Nat → Nat) : Nat → Nat := decN F (r - 1) (backS (movB (addK F r x)))

section
variable {F x y : Nat → Nat} (oF : ∀ j, F j < 256) (ox : ∀ j, x j < 256)

include oF ox in
theorem addK_lt (j : Nat) : ∀ p, addK F j x p < 256 := fun p => xor_lt256 (ox p) (oF _)
include ox in
theorem subS_lt : ∀ p, subS x p < 256 := fun p => sub_lt (ox p)
include ox in
theorem backS_lt : ∀ p, backS x p < 256 := fun p => back_lt (ox p)
include ox in
theorem movS_lt : ∀ p, movS x p < 256 := fun p => ox _
include ox in
theorem movB_lt : ∀ p, movB x p < 256 := fun p => ox _
include oF in
theorem rnd_lt (j : Nat) : ∀ p, rnd F j x p < 256 := addK_lt oF (mixS_lt _) j
theorem unrnd_lt (F x : Nat → Nat) (j : Nat) : ∀ p, unrnd F j x p < 256 := backS_lt (movB_lt (unmixS_lt _))
include oF ox in
theorem encN_lt (j : Nat) : ∀ p, encN F j x p < 256 := by
  cases j with
  | zero => exact addK_lt oF ox 0
  | succ j => exact rnd_lt oF (j + 1)
include oF ox in
theorem enc_lt (r : Nat) : ∀ p, enc F r x p < 256 := addK_lt oF (movS_lt (subS_lt (encN_lt oF ox _))) r
include oF in
theorem decN_lt (j : Nat) : ∀ x : Nat → Nat, (∀ p, x p < 256) → ∀ p, decN F j x p < 256 := by
  induction j with
  | zero => exact fun x ox => addK_lt oF ox 0
  | succ j ih => exact fun x ox => ih _ (unrnd_lt F x (j + 1))
include oF ox in
theorem dec_lt (r : Nat) : ∀ p, dec F r x p < 256 := decN_lt oF _ _ (backS_lt (movB_lt (addK_lt oF ox r)))
end

theorem addK_congr (F : Nat → Nat) (j : Nat) {x y : Nat → Nat} (h : Eq16 x y) : Eq16 (addK F j x) (addK F j y) := fun p hp => by simp only [addK, h p hp]
theorem subS_congr {x y : Nat → Nat} (h : Eq16 x y) : Eq16 (subS x) (subS y) := fun p hp => by simp only [subS, h p hp]
theorem backS_congr {x y : Nat → Nat} (h : Eq16 x y) : Eq16 (backS x) (backS y) := fun p hp => by simp only [backS, h p hp]
theorem movS_congr {x y : Nat → Nat} (h : Eq16 x y) : Eq16 (movS x) (movS y) := fun p _ => h _ (src_lt p)
theorem movB_congr {x y : Nat → Nat} (h : Eq16 x y) : Eq16 (movB x) (movB y) := fun p _ => h _ (dst_lt p)
theorem mixS_congr {x y : Nat → Nat} (h : Eq16 x y) : Eq16 (mixS x) (mixS y) := fun p hp => mix_congr _ fun t ht => h _ (by omega)
theorem unmixS_congr {x y : Nat → Nat} (h : Eq16 x y) : Eq16 (unmixS x) (unmixS y) := fun p hp => unmix_congr _ fun t ht => h _ (by omega)
theorem rnd_congr (F : Nat → Nat) (j : Nat) {x y : Nat → Nat} (h : Eq16 x y) : Eq16 (rnd F j x) (rnd F j y) := addK_congr F j (mixS_congr (movS_congr (subS_congr h)))
theorem unrnd_congr (F : Nat → Nat) (j : Nat) {x y : Nat → Nat} (h : Eq16 x y) : Eq16 (unrnd F j x) (unrnd F j y) := backS_congr (movB_congr (unmixS_congr (addK_congr F j h)))
theorem encN_congr (F : Nat → Nat) (j : Nat) {x y : Nat → Nat} (h : Eq16 x y) : Eq16 (encN F j x) (encN F j y) := by
  induction j with
  | zero => exact addK_congr F 0 h
  | succ j ih => exact rnd_congr F _ ih
theorem decN_congr (F : Nat → Nat) (j : Nat) : ∀ {x y : Nat → Nat}, Eq16 x y → Eq16 (decN F j x) (decN F j y) := by
  induction j with
  | zero => exact fun h => addK_congr F 0 h
  | succ j ih => exact fun h => ih (unrnd_congr F _ h)
theorem enc_congr (F : Nat → Nat) (r : Nat) {x y : Nat → Nat} (h : Eq16 x y) : Eq16 (enc F r x) (enc F r y) := addK_congr F r (movS_congr (subS_congr (encN_congr F _ h)))
theorem dec_congr (F : Nat → Nat) (r : Nat) {x y : Nat → Nat} (h : Eq16 x y) : Eq16 (dec F r x) (dec F r y) := decN_congr F _ (backS_congr (movB_congr (addK_congr F r h)))

/-! Each step is undone. -/
theorem addK_addK (F : Nat → Nat) (j : Nat) (x : Nat → Nat) : addK F j (addK F j x) = x := by
  funext p
  simp only [addK]
  rw [Nat.xor_assoc, Nat.xor_self, Nat.xor_zero]
theorem backS_subS {x : Nat → Nat} (ox : ∀ j, x j < 256) : backS (subS x) = x := by funext p; exact back_sub (ox p)
theorem subS_backS {x : Nat → Nat} (ox : ∀ j, x j < 256) : subS (backS x) = x := by funext p; exact sub_back (ox p)
theorem movB_movS (x : Nat → Nat) : Eq16 (movB (movS x)) x := fun p hp => by simp only [movB, movS, src_dst p hp]
theorem movS_movB (x : Nat → Nat) : Eq16 (movS (movB x)) x := fun p hp => by simp only [movB, movS, dst_src p hp]
theorem unmixS_mixS {x : Nat → Nat} (ox : ∀ j, x j < 256) : Eq16 (unmixS (mixS x)) x := fun p hp => by
  show unmix (fun t => mix (fun u => x (4 * ((4 * (p / 4) + t) / 4) + u)) ((4 * (p / 4) + t) % 4)) (p % 4) = x p
  have e : ∀ t, t < 4 → mix (fun u => x (4 * ((4 * (p / 4) + t) / 4) + u)) ((4 * (p / 4) + t) % 4) = mix (fun u => x (4 * (p / 4) + u)) t := fun t ht => by
    rw [show (4 * (p / 4) + t) / 4 = p / 4 from by omega, show (4 * (p / 4) + t) % 4 = t from by omega]
  rw [unmix_congr _ e]
  rw [unmix_mix (fun u => x (4 * (p / 4) + u)) (fun j => ox _) _ (by omega), show 4 * (p / 4) + p % 4 = p from by omega]
theorem mixS_unmixS {x : Nat → Nat} (ox : ∀ j, x j < 256) : Eq16 (mixS (unmixS x)) x := fun p hp => by
  show mix (fun t => unmix (fun u => x (4 * ((4 * (p / 4) + t) / 4) + u)) ((4 * (p / 4) + t) % 4)) (p % 4) = x p
  have e : ∀ t, t < 4 → unmix (fun u => x (4 * ((4 * (p / 4) + t) / 4) + u)) ((4 * (p / 4) + t) % 4) = unmix (fun u => x (4 * (p / 4) + u)) t := fun t ht => by
    rw [show (4 * (p / 4) + t) / 4 = p / 4 from by omega, show (4 * (p / 4) + t) % 4 = t from by omega]
  rw [mix_congr _ e]
  rw [mix_unmix (fun u => x (4 * (p / 4) + u)) (fun j => ox _) _ (by omega), show 4 * (p / 4) + p % 4 = p from by omega]

theorem unrnd_rnd {F x : Nat → Nat} (ox : ∀ j, x j < 256) (j : Nat) : Eq16 (unrnd F j (rnd F j x)) x := by
  unfold unrnd rnd
  rw [addK_addK]
  refine (backS_congr ((movB_congr (unmixS_mixS (movS_lt (subS_lt ox)))).trans (movB_movS _))).trans ?_
  rw [backS_subS ox]
  exact Eq16.refl x
theorem rnd_unrnd {F x : Nat → Nat} (oF : ∀ j, F j < 256) (ox : ∀ j, x j < 256) (j : Nat) : Eq16 (rnd F j (unrnd F j x)) x := by
  unfold unrnd rnd
  rw [subS_backS (movB_lt (unmixS_lt _))]
  refine (addK_congr F j ((mixS_congr (movS_movB _)).trans (mixS_unmixS (addK_lt oF ox j)))).trans ?_
  rw [addK_addK]
  exact Eq16.refl x

theorem decN_encN {F : Nat → Nat} (oF : ∀ j, F j < 256) {x : Nat → Nat} (ox : ∀ j, x j < 256) (n : Nat) : Eq16 (decN F n (encN F n x)) x := by
  induction n with
  | zero => simp only [decN, encN]; rw [addK_addK]; exact Eq16.refl x
  | succ n ih => exact (decN_congr F n (unrnd_rnd (encN_lt oF ox n) (n + 1))).trans ih
theorem encN_decN {F : Nat → Nat} (oF : ∀ j, F j < 256) (n : Nat) : ∀ {x : Nat → Nat}, (∀ j, x j < 256) → Eq16 (encN F n (decN F n x)) x := by
  induction n with
  | zero => intro x ox; simp only [decN, encN]; rw [addK_addK]; exact Eq16.refl x
  | succ n ih => intro x ox; exact (rnd_congr F (n + 1) (ih (unrnd_lt F x (n + 1)))).trans (rnd_unrnd oF ox (n + 1))

/-- THERE AND BACK. -/
theorem dec_enc {F x : Nat → Nat} (oF : ∀ j, F j < 256) (ox : ∀ j, x j < 256) (r : Nat) : Eq16 (dec F r (enc F r x)) x := by
  unfold dec enc
  rw [addK_addK]
  refine (decN_congr F _ (backS_congr (movB_movS _))).trans ?_
  rw [backS_subS (encN_lt oF ox _)]
  exact decN_encN oF ox _
theorem enc_dec {F x : Nat → Nat} (oF : ∀ j, F j < 256) (ox : ∀ j, x j < 256) (r : Nat) : Eq16 (enc F r (dec F r x)) x := by
  unfold dec enc
  refine (addK_congr F r (movS_congr (subS_congr (encN_decN oF _ (backS_lt (movB_lt (addK_lt oF ox r))))))).trans ?_
  rw [subS_backS (movB_lt (addK_lt oF ox r))]
  refine (addK_congr F r (movS_movB _)).trans ?_
  rw [addK_addK]
  exact Eq16.refl x

/-! The words of a key. -/
/-- The word ahead of the word i, changed. -/
def chg (k i : Nat) (t : Nat → Nat) (p : Nat) : Nat :=
  if i % k = 0 then sub (t ((p + 1) % 4)) ^^^ (if p = 0 then pw 2 (i / k - 1) else 0) else if k = 8 ∧ i % 8 = 4 then sub (t p) else t p
/-- One word more. -/
def grow (k : Nat) (l : List Nat) (i : Nat) : List Nat :=
  l ++ (List.range 4).map fun p => l.getD (4 * (i - k) + p) 0 ^^^ chg k i (fun q => l.getD (4 * (i - 1) + q) 0) p
/-- m words more. -/
def ext (k : Nat) (l : List Nat) : Nat → List Nat
  | 0 => l
  | m + 1 => grow k (ext k l m) (k + m)

theorem chg_lt {k i : Nat} {t : Nat → Nat} (ot : ∀ q, t q < 256) (p : Nat) : chg k i t p < 256 := by
  unfold chg
  split
  · refine xor_lt256 (sub_lt (ot _)) ?_
    split
    · exact pw_lt (by decide) _
    · decide
  · split
    · exact sub_lt (ot _)
    · exact ot _
theorem chg_congr {k i : Nat} {t u : Nat → Nat} (h : ∀ q, q < 4 → t q = u q) (p : Nat) (hp : p < 4) : chg k i t p = chg k i u p := by
  unfold chg
  rw [h _ (Nat.mod_lt _ (by decide)), h p hp]

theorem grow_length (k : Nat) (l : List Nat) (i : Nat) : (grow k l i).length = l.length + 4 := by simp [grow]
theorem ext_length (k : Nat) (l : List Nat) (m : Nat) : (ext k l m).length = l.length + 4 * m := by
  induction m with
  | zero => rfl
  | succ m ih => rw [ext, grow_length, ih]; omega
theorem grow_old (k : Nat) (l : List Nat) (i j : Nat) (h : j < l.length) : (grow k l i).getD j 0 = l.getD j 0 := by
  simp only [grow, List.getD_eq_getElem?_getD]
  rw [List.getElem?_append_left h]
theorem grow_new (k : Nat) (l : List Nat) (i p : Nat) (hl : l.length = 4 * i) (h : p < 4) : (grow k l i).getD (4 * i + p) 0 = l.getD (4 * (i - k) + p) 0 ^^^ chg k i (fun q => l.getD (4 * (i - 1) + q) 0) p := by
  rw [List.getD_eq_getElem?_getD, grow, List.getElem?_append_right (by omega), hl, show 4 * i + p - 4 * i = p from by omega, List.getElem?_map, List.getElem?_range h]
  rfl
theorem ext_old (k : Nat) (l : List Nat) (m j : Nat) (h : j < l.length + 4 * m) (d : Nat) : (ext k l (m + d)).getD j 0 = (ext k l m).getD j 0 := by
  induction d with
  | zero => rfl
  | succ d ih => rw [← Nat.add_assoc, ext, grow_old _ _ _ _ (by rw [ext_length]; omega), ih]

/-- The bytes of the words of the key l. -/
def wordB (k : Nat) (l : List Nat) (j : Nat) : Nat := (ext k l (3 * k + 28)).getD j 0

theorem getD_byte {l : List Nat} (h : ∀ x ∈ l, x < 256) (j : Nat) : l.getD j 0 < 256 := by
  rw [List.getD_eq_getElem?_getD]
  by_cases hj : j < l.length
  · rw [List.getElem?_eq_getElem hj]; exact h _ (List.getElem_mem hj)
  · rw [List.getElem?_eq_none (by omega)]; decide
theorem ext_byte {k : Nat} {l : List Nat} (h : ∀ x ∈ l, x < 256) (m : Nat) : ∀ x ∈ ext k l m, x < 256 := by
  induction m with
  | zero => exact h
  | succ m ih =>
    intro x hx
    simp only [ext, grow, List.mem_append, List.mem_map] at hx
    rcases hx with hx | ⟨p, _, rfl⟩
    · exact ih x hx
    · exact xor_lt256 (getD_byte ih _) (chg_lt (fun q => getD_byte ih _) p)
theorem wordB_lt {k : Nat} {l : List Nat} (h : ∀ x ∈ l, x < 256) (j : Nat) : wordB k l j < 256 := getD_byte (ext_byte h _) j

theorem wordB_key {k : Nat} {l : List Nat} (hl : l.length = 4 * k) (j : Nat) (hj : j < 4 * k) : wordB k l j = l.getD j 0 := by
  have := ext_old k l 0 j (by omega) (3 * k + 28)
  rw [Nat.zero_add] at this
  unfold wordB
  rw [this, ext]
theorem wordB_step {k : Nat} {l : List Nat} (hl : l.length = 4 * k) (hk : 0 < k) (i p : Nat) (h1 : k ≤ i) (h2 : i < 4 * (k + 7)) (hp : p < 4) :
    wordB k l (4 * i + p) = wordB k l (4 * (i - k) + p) ^^^ chg k i (fun q => wordB k l (4 * (i - 1) + q)) p := by
  obtain ⟨m, rfl⟩ : ∃ m, i = k + m := ⟨i - k, by omega⟩
  obtain ⟨d, hd⟩ : ∃ d, 3 * k + 28 = (m + 1) + d := ⟨3 * k + 28 - (m + 1), by omega⟩
  have hlen := ext_length k l m
  have e1 : wordB k l (4 * (k + m) + p) = (ext k l (m + 1)).getD (4 * (k + m) + p) 0 := by unfold wordB; rw [hd]; exact ext_old k l (m + 1) _ (by omega) d
  have e2 : ∀ j, j < 4 * (k + m) → wordB k l j = (ext k l m).getD j 0 := fun j hj => by unfold wordB; rw [hd, Nat.add_assoc]; exact ext_old k l m _ (by omega) (1 + d)
  have e3 : chg k (k + m) (fun q => (ext k l m).getD (4 * (k + m - 1) + q) 0) p = chg k (k + m) (fun q => wordB k l (4 * (k + m - 1) + q)) p := chg_congr (fun q hq => (e2 _ (by omega)).symm) p hp
  rw [e1, ext, grow_new k _ (k + m) p (by rw [hlen]; omega) hp, e2 _ (by omega), e3]
end Go.Proofs.Ytadpnkecdjleiaa
