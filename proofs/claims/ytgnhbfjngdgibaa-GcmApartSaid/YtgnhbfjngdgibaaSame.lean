/-
  The contracts of Same, in all its forms, and of Nought.
-/
import Derived.Test.YtgnhbfjngdgibaaKa
namespace Go.Proofs.Ytgnhbfjngdgibaa
open Go.RowKit

theorem or_nought (a b : Nat) : a ||| b = 0 ↔ a = 0 ∧ b = 0 := by
  constructor
  · intro h
    constructor
    · exact Nat.eq_of_testBit_eq fun i => by
        have := congrArg (fun n => Nat.testBit n i) h
        simp only [Nat.testBit_or, Nat.zero_testBit, Bool.or_eq_false_iff] at this
        rw [this.1, Nat.zero_testBit]
    · exact Nat.eq_of_testBit_eq fun i => by
        have := congrArg (fun n => Nat.testBit n i) h
        simp only [Nat.testBit_or, Nat.zero_testBit, Bool.or_eq_false_iff] at this
        rw [this.2, Nat.zero_testBit]
  · rintro ⟨rfl, rfl⟩; rfl
theorem xor_nought (a b : Nat) : a ^^^ b = 0 ↔ a = b := by
  constructor
  · intro h
    have : a ^^^ b ^^^ b = b := by rw [h, Nat.zero_xor]
    rwa [Nat.xor_assoc, Nat.xor_self, Nat.xor_zero] at this
  · rintro rfl; exact Nat.xor_self a
/-- How the first k bytes differ. -/
def difN (xs ys : List Int) : Nat → Nat
  | 0 => 0
  | k + 1 => difN xs ys k ||| ((xs.getD k 0).toNat ^^^ (ys.getD k 0).toNat)
theorem difN_lt {xs ys : List Int} (hx : Oct xs) (hy : Oct ys) : ∀ k, difN xs ys k < 256
  | 0 => by unfold difN; omega
  | k + 1 => by
    have h1 := hx.at k
    have h2 := hy.at k
    exact Nat.or_lt_two_pow (n := 8) (difN_lt hx hy k) (Nat.xor_lt_two_pow (n := 8) (by omega) (by omega))
theorem difN_zero {xs ys : List Int} (hx : Oct xs) (hy : Oct ys) : ∀ k, difN xs ys k = 0 ↔ ∀ i, i < k → xs.getD i 0 = ys.getD i 0
  | 0 => by simp [difN]
  | k + 1 => by
    have h1 := hx.at k
    have h2 := hy.at k
    rw [difN, or_nought, xor_nought, difN_zero hx hy k]
    constructor
    · rintro ⟨h, h3⟩ i hi
      rcases Nat.lt_succ_iff_lt_or_eq.1 hi with hi | rfl
      · exact h i hi
      · omega
    · intro h
      exact ⟨fun i hi => h i (by omega), by rw [h k (by omega)]⟩
theorem difN_same {xs ys : List Int} (hx : Oct xs) (hy : Oct ys) (hl : ys.length = xs.length) : ((((difN xs ys xs.length : Nat) : Int)) == 0) = sameB xs ys := by
  unfold sameB
  have h := difN_zero hx hy xs.length
  by_cases e : xs = ys
  · subst e
    simp [h.2 (fun _ _ => rfl)]
  · have : ¬ difN xs ys xs.length = 0 := fun h0 => e (List.ext_getElem hl.symm fun i hi hi2 => by
      have := h.1 h0 i hi
      rwa [List.getD_eq_getElem?_getD, List.getD_eq_getElem?_getD, List.getElem?_eq_getElem hi, List.getElem?_eq_getElem hi2] at this)
    rw [decide_eq_false e, beq_eq_false_iff_ne]
    omega

set_option maxHeartbeats 400000 in
set_option maxRecDepth 100000 in
theorem same_any (p q : Option Addr) (c d : Nat) (xs ys : List Int) (w : World) (hp : Bin w p xs) (hq : Bin w q ys) (hx : Oct xs) (hy : Oct ys) (hm : xs.length ≤ maxLen) :
    Calls Try.prog 12 #[.slice p xs.length c, .slice q ys.length d] w fun e w' => e = .returned (.bool (sameB xs ys)) ∧ w = w' := by
  unfold maxLen at hm
  by_cases hl : ys.length = xs.length
  · have HE := hid (difN_same hx hy hl)
    have hne : ((xs.length : Int) != (ys.length : Int)) = false := by rw [hl]; simp
    have HL := hid hl
    rw [hl] at hne ⊢
    clear hl
    go_enter Try.func12, Try.ntmps12
    go_wp2
    go_loop [5, 15] (fun d i => ∃ k : Nat, k ≤ xs.length ∧ i = .int .i64 k ∧ d = .int .u8 ((difN xs ys k : Nat) : Int)) (fun _ i => xs.length - (intOf i).toNat)
    case atStart => exact ⟨0, Nat.zero_le _, rfl, rfl⟩
    case round =>
      obtain ⟨k, hk, rfl, rfl⟩ := hrel
      by_cases hlt : k < xs.length
      · have hlt2 : k < ys.length := by rw [HL.out]; exact hlt
        obtain ⟨b, o, rfl, hlb, hc⟩ := hp.at (by omega)
        obtain ⟨b2, o2, rfl, hlb2, hc2⟩ := hq.at (by omega)
        have hck := hc k hlt
        have hck2 := hc2 k hlt2
        have h1 := hx.lt k hlt
        have h2 := hy.lt k hlt2
        have h3 := difN_lt hx hy k
        have HX := hid (u8_xor xs[k] ys[k] h1.1 (by omega) h2.1 (by omega))
        clear hc hc2
        obtain ⟨m, hm'⟩ : ∃ m, Hid (m = difN xs ys k) := ⟨_, rfl⟩
        rw [← hm'.out] at h3 ⊢
        go_wp2
        go_round
        case rel =>
          refine ⟨k + 1, by omega, by go_num, ?_⟩
          have hlt8 : xs[k].toNat ^^^ ys[k].toNat < 256 := Nat.xor_lt_two_pow (n := 8) (by omega) (by omega)
          rw [HX.out, u8_or_nat _ _ h3 hlt8, difN, ← hm'.out, List.getD_eq_getElem?_getD, List.getD_eq_getElem?_getD, List.getElem?_eq_getElem hlt, List.getElem?_eq_getElem hlt2]
          rfl
        case measure => simp [intOf]; omega
      · obtain rfl : k = xs.length := by omega
        go_wp2
        go_ret
        exact ⟨ret_bool HE.out, rfl⟩
  · have hne : ((xs.length : Int) != (ys.length : Int)) = true := by simp; omega
    have hb : sameB xs ys = false := by
      unfold sameB
      rw [decide_eq_false]
      rintro rfl
      exact hl rfl
    rw [hb]
    go_enter Try.func12, Try.ntmps12
    go_wp2
    go_ret
    exact ⟨rfl, rfl⟩

/-- The same bytes twice. -/
theorem same_yes (p q : Option Addr) (c d n : Nat) (xs : List Int) (w : World) (hn : xs.length = n) (hm : n ≤ maxLen) (hp : Bin w p xs) (hq : Bin w q xs) (hx : Oct xs) :
    Calls Try.prog 12 #[.slice p n c, .slice q n d] w fun e w' => e = .returned (.bool true) ∧ w = w' := by
  subst hn
  refine (same_any p q c d xs xs w hp hq hx hx hm).mono ?_
  rintro e w' ⟨he, hw⟩
  exact ⟨by rw [he, sameB_iff.2 rfl], hw⟩

/-- Is each of them 0? -/
def noughtB (xs : List Int) : Bool := xs.all (· == 0)

theorem nought_yes {xs : List Int} (h : ∀ i, i < xs.length → xs.getD i 0 = 0) : noughtB xs = true := by
  simp only [noughtB, List.all_eq_true, beq_iff_eq]
  intro x hx
  obtain ⟨i, hi, rfl⟩ := List.getElem_of_mem hx
  have := h i hi
  rwa [List.getD_eq_getElem?_getD, List.getElem?_eq_getElem hi] at this

theorem nought_no {xs : List Int} (i : Nat) (hi : i < xs.length) (h : ¬ xs[i] = 0) : noughtB xs = false := by
  simp only [noughtB]
  rw [Bool.eq_false_iff]
  intro ha
  rw [List.all_eq_true] at ha
  exact h (by simpa using ha _ (List.getElem_mem hi))

set_option maxHeartbeats 400000 in
set_option maxRecDepth 100000 in
theorem nought_any (p : Option Addr) (c : Nat) (xs : List Int) (w : World) (hp : Bin w p xs) (hm : xs.length ≤ maxLen) :
    Calls Try.prog 13 #[.slice p xs.length c] w fun e w' => e = .returned (.bool (noughtB xs)) ∧ w = w' := by
  unfold maxLen at hm
  go_enter Try.func13, Try.ntmps13
  go_wp2
  go_loop [7] (fun i => ∃ k : Nat, k ≤ xs.length ∧ i = .int .i64 k ∧ Hid (∀ i, i < k → xs.getD i 0 = 0)) (fun i => xs.length - (intOf i).toNat)
  case atStart => exact ⟨0, Nat.zero_le _, rfl, hid (fun i hi => absurd hi (Nat.not_lt_zero _))⟩
  case round =>
    obtain ⟨k, hk, rfl, HN⟩ := hrel
    by_cases hlt : k < xs.length
    · obtain ⟨b, o, rfl, hlb, hc⟩ := hp.at (by omega)
      have hck := hc k hlt
      clear hc
      by_cases hz : xs[k] = 0
      · have hz' : (xs[k] != 0) = false := by simpa using hz
        have HZ := hid hz
        clear hz
        go_wp2
        go_round
        case rel =>
          refine ⟨k + 1, by omega, by go_num, hid fun i hi => ?_⟩
          rcases Nat.lt_succ_iff_lt_or_eq.1 hi with h | rfl
          · exact HN.out i h
          · rw [List.getD_eq_getElem?_getD, List.getElem?_eq_getElem hlt]
            exact HZ.out
        case measure => simp [intOf]; omega
      · have hz' : (xs[k] != 0) = true := by simpa using hz
        have HZ := hid (nought_no k hlt hz)
        clear hz
        go_wp2
        go_ret
        exact ⟨ret_bool HZ.out.symm, rfl⟩
    · have HZ := hid (nought_yes (xs := xs) (fun i hi => HN.out i (by omega)))
      go_wp2
      go_ret
      exact ⟨ret_bool HZ.out.symm, rfl⟩

set_option maxHeartbeats 400000 in
set_option maxRecDepth 100000 in
theorem refNought_any (p : Option Addr) (c : Nat) (xs : List Int) (w : World) (hp : Bin w p xs) (hm : xs.length ≤ maxLen) :
    Calls Try.prog 15 #[.slice p xs.length c] w fun e w' => e = .returned (.bool (noughtB xs)) ∧ w = w' := by
  unfold maxLen at hm
  go_enter Try.func15, Try.ntmps15
  go_wp2
  go_loop [3] (fun i => ∃ k : Nat, k ≤ xs.length ∧ i = .int .i64 k ∧ Hid (∀ i, i < k → xs.getD i 0 = 0)) (fun i => xs.length - (intOf i).toNat)
  case atStart => exact ⟨0, Nat.zero_le _, rfl, hid (fun i hi => absurd hi (Nat.not_lt_zero _))⟩
  case round =>
    obtain ⟨k, hk, rfl, HN⟩ := hrel
    by_cases hlt : k < xs.length
    · obtain ⟨b, o, rfl, hlb, hc⟩ := hp.at (by omega)
      have hck := hc k hlt
      clear hc
      by_cases hz : xs[k] = 0
      · have hz' : (xs[k] != 0) = false := by simpa using hz
        have HZ := hid hz
        clear hz
        go_wp2
        go_round
        case rel =>
          refine ⟨k + 1, by omega, by go_num, hid fun i hi => ?_⟩
          rcases Nat.lt_succ_iff_lt_or_eq.1 hi with h | rfl
          · exact HN.out i h
          · rw [List.getD_eq_getElem?_getD, List.getElem?_eq_getElem hlt]
            exact HZ.out
        case measure => simp [intOf]; omega
      · have hz' : (xs[k] != 0) = true := by simpa using hz
        have HZ := hid (nought_no k hlt hz)
        clear hz
        go_wp2
        go_ret
        exact ⟨ret_bool HZ.out.symm, rfl⟩
    · have HZ := hid (nought_yes (xs := xs) (fun i hi => HN.out i (by omega)))
      go_wp2
      go_ret
      exact ⟨ret_bool HZ.out.symm, rfl⟩
end Go.Proofs.Ytgnhbfjngdgibaa
