/-
  Layer 8's statements: full, known; DiskNone.
-/
import Derived.Test.YthnakonndlebbaaPd
import Derived.Test.YthnakonndlebbaaKa
import Derived.Test.YthnakonndlebbaaPx
namespace Go.Proofs.Ythnakonndlebbaa
open Go.RowKit
set_option linter.unusedVariables false
set_option linter.unusedSimpArgs false

/-- A block of one byte. -/
def fullL (x : Int) : List Int := List.replicate 256 x
theorem fullL_len (x : Int) : (fullL x).length = 256 := List.length_replicate
theorem fullL_oct {x : Int} (h : 0 ≤ x ∧ x ≤ 255) : Oct (fullL x) := fun y hy => by rw [List.eq_of_mem_replicate hy]; exact h
/-- k bytes are written. -/
def fullP (x : Int) (k : Nat) : List Int := List.replicate k x ++ List.replicate (256 - k) 0
theorem fullP_set (x : Int) {k : Nat} (h : k < 256) : (fullP x k).set k x = fullP x (k + 1) := by
  unfold fullP
  rw [show 256 - k = (256 - (k + 1)) + 1 by omega, List.replicate_succ, List.set_append_right _ _ (by simp), List.length_replicate, Nat.sub_self, List.set_cons_zero, List.replicate_succ', List.append_assoc]
  rfl

set_option maxHeartbeats 2000000 in
set_option maxRecDepth 100000 in
theorem full_of (x : Int) (w : World) (hx : 0 ≤ x ∧ x ≤ 255) :
    Calls Try.prog 29 #[.int .u8 x] w fun e w' => ∃ g c, e = .returned (.slice (some ⟨g, 0, none⟩) 256 c) ∧ 256 ≤ c ∧ Own w.heap.size w' (.slice (some ⟨g, 0, none⟩) 256 c) 256 (fullL x) ∧ Below w.heap.size w w' := by
  obtain ⟨i0, hi, hz0, hz1, hz2⟩ := info_parts Try.infoU8
  go_enter Try.func29, Try.ntmps29
  go_wp2_with (at_make; refine wpList_make_cap _ rfl _ _ 34 rfl 5 i0 (.int .u8 0) rfl Try.underlying34 hi hz0 hz1 hz2 .i64 .i64 _ _ 256 256 rfl rfl rfl rfl (Nat.le_refl _) (by decide) ?_; intro w1 hrow hgrow; have hO : Hid (Own w.heap.size w1 (.slice (some ⟨w.heap.size, 0, none⟩) 256 256) 256 (fullP x 0)) := hid ⟨by simp [fullP], .inr ⟨w.heap.size, 256, _, rfl, Nat.le_refl _, hrow, Nat.le_refl _, by unfold maxLen; omega, by simp, by simp [fullP]⟩⟩; have hb1 : Hid (Below w.heap.size w w1) := hid ((Below.refl _ _).grown hgrow (Nat.le_refl _) (by simp)); clear hrow hgrow)
  go_loopw [8] (fun i wr => ∃ k : Nat, k ≤ 256 ∧ i = .int .i64 (k : Int) ∧ Own w.heap.size wr (.slice (some ⟨w.heap.size, 0, none⟩) 256 256) 256 (fullP x k) ∧ Below w.heap.size w wr) (fun i _ => 256 - (intOf i).toNat)
  case atStart => exact ⟨0, Nat.zero_le _, rfl, hO.out, hb1.out⟩
  case round =>
    obtain ⟨k, hk, rfl, hOk, hB⟩ := hrel
    by_cases hlt : k < 256
    · have hS := hid (hOk.stored k x)
      have hck := hOk.cellAt k hlt
      have hfr := hOk.frozenAt k
      have i1 : (k : Int) < 256 := by omega
      have hB2 := hid (hB.setCell (p := ⟨w.heap.size, k, none⟩) (Nat.le_refl _) (.int .u8 x))
      rw [fullP_set x hlt] at hS
      clear hOk hO hb1
      go_wp2
      go_roundw
      case rel => exact ⟨k + 1, by omega, by go_num, hS.out, hB2.out⟩
      case measure => simp [intOf]; omega
    · obtain rfl : k = 256 := by omega
      have hS : Hid (Own w.heap.size wr (.slice (some ⟨w.heap.size, 0, none⟩) 256 256) 256 (fullL x)) := hid (by have := hOk; unfold fullP at this; rw [Nat.sub_self, List.replicate_zero, List.append_nil] at this; exact this)
      clear hOk
      go_wp2
      go_ret
      exact ⟨_, _, rfl, Nat.le_refl _, hS.out, hB⟩

/-- What the caller has stays behind a call of the device. -/
theorem Dstep.out {B g : Nat} {w W W' : World} {F : Nat → Prop} {S S' : Dst} (h : Dstep w.heap.size W g F S' W') (hD : PDk w.heap.size W g F S) (hB : Below w.heap.size w W) :
    ∃ F', PDk w.heap.size W' g F' S' ∧ Below w.heap.size w W' ∧ Tb F W W' ∧ ∀ q, F' q → F q ∨ W.heap.size ≤ q := by
  obtain ⟨F', h1, h2, h3⟩ := h
  exact ⟨F', h1, hB.trans (h2.out hB.size fun q hq => (hD.lt q hq).1), h2, h3⟩
/-- What is newer than the device is none of its blocks. -/
theorem PDk.newerO {B g n c : Nat} {W W2 : World} {F : Nat → Prop} {S : Dst} {p : Option Addr} {xs : List Int} (h : PDk B W g F S) (hO : Ort W.heap.size W2 (.slice p n c) n xs) : ∀ a, p = some a → ¬ F a.block := fun a ha hF => by
  have h1 := (h.lt _ hF).2
  rcases hO.shape with ⟨e, _⟩ | ⟨k, cap, e, hk, _⟩
  · rw [ha] at e; cases e
  · rw [ha] at e
    injection e with e1
    injection e1 with e2
    rw [e2] at h1
    exact absurd h1 (Nat.not_lt.2 hk)
theorem PDk.newer {B g n c : Nat} {W W2 : World} {F : Nat → Prop} {S : Dst} {p : Option Addr} {xs : List Int} (h : PDk B W g F S) (hO : Own W.heap.size W2 (.slice p n c) n xs) : ∀ a, p = some a → ¬ F a.block := fun a ha hF => by
  have h1 := (h.lt _ hF).2
  rcases hO.shape with ⟨e, _⟩ | ⟨k, cap, e, hk, _⟩
  · rw [ha] at e; cases e
  · rw [ha] at e
    injection e with e1
    injection e1 with e2
    rw [e2] at h1
    exact absurd h1 (Nat.not_lt.2 hk)

theorem PDk.newer' {B g n c : Nat} {W W2 : World} {F : Nat → Prop} {S : Dst} {p : Option Addr} {xs : List Int} (h : PDk B W g F S) (hO : Own W.heap.size W2 (.slice p n c) n xs) : ∀ a, p = some a → 0 < n → ¬ F a.block := fun a ha _ => h.newer hO a ha
/-- What the caller handed in is none of the device's blocks. -/
theorem PDk.elder {g : Nat} {w W : World} {F : Nat → Prop} {S : Dst} {p : Option Addr} {xs : List Int} {n : Nat} (h : PDk w.heap.size W g F S) (hp : Bin w p xs) (hl : xs.length = n) : ∀ a, p = some a → 0 < n → ¬ F a.block := fun a ha hn hF => by
  obtain ⟨b, o, e, hb, _⟩ := hp.at (by omega)
  rw [ha] at e
  injection e with e1
  have := (h.lt _ hF).1
  rw [e1] at this
  exact absurd hb (Nat.not_lt.2 this)

set_option maxHeartbeats 4000000 in
set_option maxRecDepth 100000 in
theorem known8_any (w : World) : Calls Try.prog 10 #[] w fun e w' => e = .returned (.bool true) ∧ Below w.heap.size w w' := by
  go_enter Try.func10, Try.ntmps10
  go_wp2_with fail
  refine (dNew_of w 8 (by decide) (by decide)).mono ?_
  rintro e w1 ⟨g, F, rfl, hD, hb1⟩
  have HD := hid hD
  have HB := hid hb1
  clear hD hb1
  go_wp2_with fail
  refine (full_of 7 w1 (by decide)).mono ?_
  rintro e w2 ⟨g2, c2, rfl, hc2, hO, hb2⟩
  have HD2 := hid (HD.out.below hb2)
  have HB2 := hid (HB.out.trans (hb2.mono HB.out.size))
  have hw := dWrite_of _ g F _ w2 HD2.out 1 (by decide) _ c2 256 _ hO.slice'.2 (fullL_oct (by decide)) (fullL_len 7) hc2 (by decide) (HD.out.newer' hO) (by decide) (by decide)
  rw [show (Dst.new 8).writeE 1 (fullL 7) = 0 from by decide +kernel] at hw
  have HW := hid hw
  clear hw hO hb2 HD HB
  go_wp2_with fail
  refine HW.out.mono ?_
  rintro e w3 ⟨rfl, hs⟩
  obtain ⟨F3, hD3, hB3, -, -⟩ := hs.out (B := 0) HD2.out HB2.out
  have HD3 := hid hD3
  have HB3 := hid hB3
  have hwt := dWaiting_of _ g F3 _ w3 hD3
  rw [show ((Dst.new 8).write 1 (fullL 7)).ws.length = 1 from by decide +kernel] at hwt
  clear hD3 hB3 hs HW HD2 HB2
  go_wp2_with fail
  refine hwt.mono ?_
  rintro e w4 ⟨rfl, hb4⟩
  have HD4 := hid (HD3.out.below hb4)
  have HB4 := hid (HB3.out.trans (hb4.mono HB3.out.size))
  clear hwt hb4 HD3 HB3
  have HDa := hid (HD4.out.below ((Below.refl w4.heap.size w4).alloc (Nat.le_refl _) (.cells #[.int .u8 2] 5)))
  have HBa := hid (HB4.out.alloc HB4.out.size (.cells #[.int .u8 2] 5))
  have hcr := dCrash_of _ g F3 _ _ HDa.out (some ⟨w4.heap.size, 0, none⟩) 1 1 [2] (own_one w4 2).slice'.2 (by intro x hx; rw [List.mem_singleton.1 hx]; decide) rfl (Nat.le_refl _) (by decide) (HD4.out.newer' (own_one w4 2))
  have HC := hid hcr
  clear hcr
  go_wp2_with fail
  refine HC.out.mono ?_
  rintro e w5 ⟨rfl, hs⟩
  obtain ⟨F5, hD5, hB5, -, -⟩ := hs.out (B := 0) HDa.out HBa.out
  have HB5 := hid hB5
  have hrd := dRead_of _ g F5 _ w5 hD5 1 (by decide)
  obtain ⟨L, hL⟩ : ∃ L, Hid (L = (((Dst.new 8).write 1 (fullL 7)).crash ([2].map Int.toNat)).readL 1) := ⟨_, rfl⟩
  have q1 : L.length = 256 := by rw [hL.out]; decide +kernel
  have q2 : L.getD 63 0 = 0 := by rw [hL.out]; decide +kernel
  have q3 : L.getD 64 0 = 7 := by rw [hL.out]; decide +kernel
  have q4 : L.getD 127 0 = 7 := by rw [hL.out]; decide +kernel
  have q5 : L.getD 128 0 = 0 := by rw [hL.out]; decide +kernel
  rw [← hL.out, show (((Dst.new 8).write 1 (fullL 7)).crash ([2].map Int.toNat)).readE 1 = 0 from by decide +kernel, q1] at hrd
  clear hD5 hB5 hs HC HDa HBa HD4 HB4 hL
  go_wp2_with fail
  refine hrd.mono ?_
  rintro e w6 ⟨v, rfl, hO, hb6⟩
  have HB6 := hid (HB5.out.trans (hb6.mono HB5.out.size))
  obtain ⟨p, c, rfl, hc, hbin⟩ := hO.bin
  obtain ⟨b, o, rfl, _, hcell⟩ := hbin.at (by omega)
  have k1 := hcell 63 (by omega)
  have k2 := hcell 64 (by omega)
  have k3 := hcell 127 (by omega)
  have k4 := hcell 128 (by omega)
  rw [q2] at k1
  rw [q3] at k2
  rw [q4] at k3
  rw [q5] at k4
  clear hrd hb6 hcell hbin hO q1 q2 q3 q4 q5 HB5
  go_wp2_with fail
  go_ret
  exact ⟨rfl, HB6.out⟩

end Go.Proofs.Ythnakonndlebbaa
