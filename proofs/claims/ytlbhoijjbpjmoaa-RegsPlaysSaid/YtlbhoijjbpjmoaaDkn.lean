/-
  Layer 8's statements: full, known; DiskNone.
-/
import Derived.Test.YtlbhoijjbpjmoaaPd
import Derived.Test.YtlbhoijjbpjmoaaKa
import Derived.Test.YtlbhoijjbpjmoaaPx
namespace Go.Proofs.Ytlbhoijjbpjmoaa
open Go.RowKit
set_option linter.unusedVariables false
set_option linter.unusedSimpArgs false

/-- A block of one byte. -/
def fullL (x : Int) : List Int := List.replicate 256 x
theorem fullL_len (x : Int) : (fullL x).length = 256 := List.length_replicate
theorem fullL_oct {x : Int} (h : 0 ≤ x ∧ x ≤ 255) : Oct (fullL x) := fun y hy => by rw [List.eq_of_mem_replicate hy]; exact h
/-- k bytes are written. -/
def fullP (x : Int) (k : Nat) : List Int := List.replicate k x ++ List.replicate (256 - k) 0
theorem fullP_set (x : Int) {k : Nat} (h : k < 256) : (fullP x k).set k x = fullP x (k + 1) := by
  unfold fullP
  rw [show 256 - k = (256 - (k + 1)) + 1 by omega, List.replicate_succ, List.set_append_right _ _ (by simp), List.length_replicate, Nat.sub_self, List.set_cons_zero, List.replicate_succ', List.append_assoc]
  rfl

set_option maxHeartbeats 2000000 in
set_option maxRecDepth 100000 in
theorem full_of (x : Int) (w : World) (hx : 0 ≤ x ∧ x ≤ 255) :
    Calls Try.prog 36 #[.int .u8 x] w fun e w' => ∃ g c, e = .returned (.slice (some ⟨g, 0, none⟩) 256 c) ∧ 256 ≤ c ∧ Own w.heap.size w' (.slice (some ⟨g, 0, none⟩) 256 c) 256 (fullL x) ∧ Below w.heap.size w w' := by
  obtain ⟨i0, hi, hz0, hz1, hz2⟩ := info_parts Try.infoU8
  go_enter Try.func36, Try.ntmps36
  go_wp2_with (at_make; refine wpList_make_cap _ rfl _ _ 31 rfl 5 i0 (.int .u8 0) rfl Try.underlying31 hi hz0 hz1 hz2 .i64 .i64 _ _ 256 256 rfl rfl rfl rfl (Nat.le_refl _) (by decide) ?_; intro w1 hrow hgrow; have hO : Hid (Own w.heap.size w1 (.slice (some ⟨w.heap.size, 0, none⟩) 256 256) 256 (fullP x 0)) := hid ⟨by simp [fullP], .inr ⟨w.heap.size, 256, _, rfl, Nat.le_refl _, hrow, Nat.le_refl _, by unfold maxLen; omega, by simp, by simp [fullP]⟩⟩; have hb1 : Hid (Below w.heap.size w w1) := hid ((Below.refl _ _).grown hgrow (Nat.le_refl _) (by simp)); clear hrow hgrow)
  go_loopw [8] (fun i wr => ∃ k : Nat, k ≤ 256 ∧ i = .int .i64 (k : Int) ∧ Own w.heap.size wr (.slice (some ⟨w.heap.size, 0, none⟩) 256 256) 256 (fullP x k) ∧ Below w.heap.size w wr) (fun i _ => 256 - (intOf i).toNat)
  case atStart => exact ⟨0, Nat.zero_le _, rfl, hO.out, hb1.out⟩
  case round =>
    obtain ⟨k, hk, rfl, hOk, hB⟩ := hrel
    by_cases hlt : k < 256
    · have hS := hid (hOk.stored k x)
      have hck := hOk.cellAt k hlt
      have hfr := hOk.frozenAt k
      have i1 : (k : Int) < 256 := by omega
      have hB2 := hid (hB.setCell (p := ⟨w.heap.size, k, none⟩) (Nat.le_refl _) (.int .u8 x))
      rw [fullP_set x hlt] at hS
      clear hOk hO hb1
      go_wp2
      go_roundw
      case rel => exact ⟨k + 1, by omega, by go_num, hS.out, hB2.out⟩
      case measure => simp [intOf]; omega
    · obtain rfl : k = 256 := by omega
      have hS : Hid (Own w.heap.size wr (.slice (some ⟨w.heap.size, 0, none⟩) 256 256) 256 (fullL x)) := hid (by have := hOk; unfold fullP at this; rw [Nat.sub_self, List.replicate_zero, List.append_nil] at this; exact this)
      clear hOk
      go_wp2
      go_ret
      exact ⟨_, _, rfl, Nat.le_refl _, hS.out, hB⟩

/-- What the caller has stays behind a call of the device. -/
theorem Dstep.out {B g : Nat} {w W W' : World} {F : Nat → Prop} {S S' : Dst} (h : Dstep w.heap.size W g F S' W') (hD : PDk w.heap.size W g F S) (hB : Below w.heap.size w W) :
    ∃ F', PDk w.heap.size W' g F' S' ∧ Below w.heap.size w W' ∧ Tb F W W' ∧ ∀ q, F' q → F q ∨ W.heap.size ≤ q := by
  obtain ⟨F', h1, h2, h3⟩ := h
  exact ⟨F', h1, hB.trans (h2.out hB.size fun q hq => (hD.lt q hq).1), h2, h3⟩
/-- What is newer than the device is none of its blocks. -/
theorem PDk.newerO {B g n c : Nat} {W W2 : World} {F : Nat → Prop} {S : Dst} {p : Option Addr} {xs : List Int} (h : PDk B W g F S) (hO : Ort W.heap.size W2 (.slice p n c) n xs) : ∀ a, p = some a → ¬ F a.block := fun a ha hF => by
  have h1 := (h.lt _ hF).2
  rcases hO.shape with ⟨e, _⟩ | ⟨k, cap, e, hk, _⟩
  · rw [ha] at e; cases e
  · rw [ha] at e
    injection e with e1
    injection e1 with e2
    rw [e2] at h1
    exact absurd h1 (Nat.not_lt.2 hk)
theorem PDk.newer {B g n c : Nat} {W W2 : World} {F : Nat → Prop} {S : Dst} {p : Option Addr} {xs : List Int} (h : PDk B W g F S) (hO : Own W.heap.size W2 (.slice p n c) n xs) : ∀ a, p = some a → ¬ F a.block := fun a ha hF => by
  have h1 := (h.lt _ hF).2
  rcases hO.shape with ⟨e, _⟩ | ⟨k, cap, e, hk, _⟩
  · rw [ha] at e; cases e
  · rw [ha] at e
    injection e with e1
    injection e1 with e2
    rw [e2] at h1
    exact absurd h1 (Nat.not_lt.2 hk)

theorem PDk.newer' {B g n c : Nat} {W W2 : World} {F : Nat → Prop} {S : Dst} {p : Option Addr} {xs : List Int} (h : PDk B W g F S) (hO : Own W.heap.size W2 (.slice p n c) n xs) : ∀ a, p = some a → 0 < n → ¬ F a.block := fun a ha _ => h.newer hO a ha
/-- What the caller handed in is none of the device's blocks. -/
theorem PDk.elder {g : Nat} {w W : World} {F : Nat → Prop} {S : Dst} {p : Option Addr} {xs : List Int} {n : Nat} (h : PDk w.heap.size W g F S) (hp : Bin w p xs) (hl : xs.length = n) : ∀ a, p = some a → 0 < n → ¬ F a.block := fun a ha hn hF => by
  obtain ⟨b, o, e, hb, _⟩ := hp.at (by omega)
  rw [ha] at e
  injection e with e1
  have := (h.lt _ hF).1
  rw [e1] at this
  exact absurd hb (Nat.not_lt.2 this)

end Go.Proofs.Ytlbhoijjbpjmoaa
