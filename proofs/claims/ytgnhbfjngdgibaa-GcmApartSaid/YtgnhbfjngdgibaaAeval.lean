/-
  The standard's examples, reckoned. Stands on no function of the program.
-/
import Derived.Test.YtgnhbfjngdgibaaKd
namespace Go.Proofs.Ytgnhbfjngdgibaa
set_option linter.unusedVariables false

/-- A number is reckoned before it is handed on. -/
def lit {α : Type} (x : Nat) (k : Nat → α) : α := match x with
  | 0 => k 0
  | n + 1 => k (n + 1)
theorem lit_eq {α : Type} (x : Nat) (k : Nat → α) : lit x k = k x := by cases x <;> rfl
/-- Each number of a list is. -/
def forceL {α : Type} : List Nat → (List Nat → α) → α
  | [], k => k []
  | x :: xs, k => lit x fun y => forceL xs fun ys => k (y :: ys)
theorem forceL_eq {α : Type} : ∀ (l : List Nat) (k : List Nat → α), forceL l k = k l
  | [], k => rfl
  | x :: xs, k => by rw [forceL, lit_eq, forceL_eq xs]
/-- The first sixteen are. -/
def tab {α : Type} (x : Nat → Nat) (k : (Nat → Nat) → α) : α := forceL ((List.range 16).map x) fun l => k fun j => l.getD j 0
theorem tab_eq {α : Type} (x : Nat → Nat) (k : (Nat → Nat) → α) : ∃ y, Eq16 y x ∧ tab x k = k y :=
  ⟨fun j => ((List.range 16).map x).getD j 0, fun j hj => by simp [List.getD_eq_getElem?_getD, hj], by rw [tab, forceL_eq]⟩

def extE {α : Type} (k : Nat) (l : List Nat) : Nat → (List Nat → α) → α
  | 0, K => K l
  | m + 1, K => extE k l m fun l' => forceL (grow k l' (k + m)) K
theorem extE_eq {α : Type} (k : Nat) (l : List Nat) (m : Nat) : ∀ K : List Nat → α, extE k l m K = K (ext k l m) := by
  induction m with
  | zero => intro K; rfl
  | succ m ih => intro K; rw [extE, ih, forceL_eq]; rfl

def encE {α : Type} (F : Nat → Nat) : Nat → (Nat → Nat) → ((Nat → Nat) → α) → α
  | 0, x, K => tab (addK F 0 x) K
  | j + 1, x, K => encE F j x fun y => tab (subS y) fun z => tab (addK F (j + 1) (mixS (movS z))) K
theorem encE_eq {α : Type} (F : Nat → Nat) (n : Nat) (x : Nat → Nat) : ∀ K : (Nat → Nat) → α, ∃ y, Eq16 y (encN F n x) ∧ encE F n x K = K y := by
  induction n with
  | zero => intro K; exact tab_eq _ K
  | succ n ih =>
    intro K
    rw [encE]
    obtain ⟨y, hy, e⟩ := ih fun y => tab (subS y) fun z => tab (addK F (n + 1) (mixS (movS z))) K
    rw [e]
    obtain ⟨z, hz, e2⟩ := tab_eq (subS y) fun z => tab (addK F (n + 1) (mixS (movS z))) K
    rw [e2]
    obtain ⟨u, hu, e3⟩ := tab_eq (addK F (n + 1) (mixS (movS z))) K
    rw [e3]
    exact ⟨u, hu.trans (addK_congr F (n + 1) (mixS_congr (movS_congr (hz.trans (subS_congr hy))))), rfl⟩

/-- Is x enciphered under the key l with r rounds the list e? -/
def check (k : Nat) (l : List Nat) (r : Nat) (x : Nat → Nat) (e : List Nat) : Bool :=
  extE k l (3 * k + 28) fun m => encE (fun j => m.getD j 0) (r - 1) x fun y => tab (subS y) fun z => (List.range 16).all fun j => addK (fun j => m.getD j 0) r (movS z) j == e.getD j 0
theorem check_spec {k : Nat} {l : List Nat} {r : Nat} {x : Nat → Nat} {e : List Nat} (h : check k l r x e = true) : Eq16 (enc (wordB k l) r x) fun j => e.getD j 0 := by
  unfold check at h
  rw [extE_eq] at h
  have hF : (fun j => (ext k l (3 * k + 28)).getD j 0) = wordB k l := rfl
  rw [hF] at h
  obtain ⟨y, hy, e1⟩ := encE_eq (wordB k l) (r - 1) x fun y => tab (subS y) fun z => (List.range 16).all fun j => addK (wordB k l) r (movS z) j == e.getD j 0
  rw [e1] at h
  obtain ⟨z, hz, e2⟩ := tab_eq (subS y) fun z => (List.range 16).all fun j => addK (wordB k l) r (movS z) j == e.getD j 0
  rw [e2] at h
  intro j hj
  have hj' := List.all_eq_true.1 h j (List.mem_range.2 hj)
  rw [beq_iff_eq] at hj'
  show _ = e.getD j 0
  rw [← hj']
  exact (addK_congr (wordB k l) r (movS_congr (hz.trans (subS_congr hy))) j hj).symm

/-- The standard's block. -/
def blkN (j : Nat) : Nat := 17 * j % 256
theorem known16 : check 4 (List.range 16) 10 blkN [0x69, 0xc4, 0xe0, 0xd8, 0x6a, 0x7b, 0x04, 0x30, 0xd8, 0xcd, 0xb7, 0x80, 0x70, 0xb4, 0xc5, 0x5a] = true := by decide +kernel
theorem known32 : check 8 (List.range 32) 14 blkN [0x8e, 0xa2, 0xb7, 0xca, 0x51, 0x67, 0x45, 0xbf, 0xea, 0xfc, 0x49, 0x90, 0x4b, 0x49, 0x60, 0x89] = true := by decide +kernel
/-- The standard's words. -/
def keyW : List Nat := [0x2b, 0x7e, 0x15, 0x16, 0x28, 0xae, 0xd2, 0xa6, 0xab, 0xf7, 0x15, 0x88, 0x09, 0xcf, 0x4f, 0x3c]
theorem knownW : (extE 4 keyW 40 fun m => decide (m.getD 16 0 = 0xa0 ∧ m.getD 17 0 = 0xfa ∧ m.getD 18 0 = 0xfe ∧ m.getD 19 0 = 0x17 ∧ m.getD 172 0 = 0xb6 ∧ m.getD 173 0 = 0x63 ∧ m.getD 174 0 = 0x0c ∧ m.getD 175 0 = 0xa6)) = true := by decide +kernel
theorem keyW_words : wordB 4 keyW 16 = 0xa0 ∧ wordB 4 keyW 17 = 0xfa ∧ wordB 4 keyW 18 = 0xfe ∧ wordB 4 keyW 19 = 0x17 ∧ wordB 4 keyW 172 = 0xb6 ∧ wordB 4 keyW 173 = 0x63 ∧ wordB 4 keyW 174 = 0x0c ∧ wordB 4 keyW 175 = 0xa6 := by
  have h := knownW
  rw [extE_eq] at h
  exact of_decide_eq_true h
end Go.Proofs.Ytgnhbfjngdgibaa
