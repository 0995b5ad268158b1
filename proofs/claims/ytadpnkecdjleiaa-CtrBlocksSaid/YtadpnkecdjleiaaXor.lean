/-
  The contracts of Xor, of both.
-/
import Derived.Test.YtadpnkecdjleiaaOwn
import Derived.Deep.AppendLies
import Derived.Deep.RegionLaw
import Derived.Deep.QuietTactic
import Derived.BigQuiet
import Derived.BigRegion
namespace Go.Proofs.Ytadpnkecdjleiaa
open Go.RowKit

theorem below_drewN {B : Nat} {a w : World} (h : Below B a w) (n : Nat) : Below B a (w.drewN n) := ⟨h.os, h.tape, h.output, h.size, h.block⟩

theorem xor_step (A B m : Nat) : A >>> m ^^^ B >>> m = 2 * (A >>> (m + 1) ^^^ B >>> (m + 1)) + (if (A / 2 ^ m) % 2 = (B / 2 ^ m) % 2 then 0 else 1) := by
  have e : ∀ C : Nat, C >>> (m + 1) = (C >>> m) / 2 := fun C => by rw [Nat.shiftRight_succ]
  rw [e A, e B, ← Nat.xor_div_two]
  have h2 := Nat.xor_mod_two_eq_one (a := A >>> m) (b := B >>> m)
  have h3 : A / 2 ^ m = A >>> m := (Nat.shiftRight_eq_div_pow A m).symm
  have h4 : B / 2 ^ m = B >>> m := (Nat.shiftRight_eq_div_pow B m).symm
  rw [h3, h4]
  generalize A >>> m ^^^ B >>> m = z at *
  generalize A >>> m = x at *
  generalize B >>> m = y at *
  split <;> omega

theorem xor_lt (A B m : Nat) (hA : A ≤ 255) (hB : B ≤ 255) : A >>> m ^^^ B >>> m ≤ 255 := by
  have h1 : A >>> m < 2 ^ 8 := by rw [Nat.shiftRight_eq_div_pow]; exact Nat.lt_of_le_of_lt (Nat.div_le_self _ _) (by omega)
  have h2 : B >>> m < 2 ^ 8 := by rw [Nat.shiftRight_eq_div_pow]; exact Nat.lt_of_le_of_lt (Nat.div_le_self _ _) (by omega)
  have := Nat.xor_lt_two_pow h1 h2
  omega

theorem bit_of (A m : Nat) : ((A : Int) / 2 ^ m).tmod 2 = ((A / 2 ^ m % 2 : Nat) : Int) := by
  have e : ((A : Int) / 2 ^ m) = ((A / 2 ^ m : Nat) : Int) := by simp
  rw [e]
  rfl

theorem bits_same (A B m : Nat) (hA : A ≤ 255) (hB : B ≤ 255) (h : (((A : Int) / 2 ^ m).tmod 2 != ((B : Int) / 2 ^ m).tmod 2) = false) :
    (2 * ((A >>> (m + 1) ^^^ B >>> (m + 1) : Nat) : Int) % 256) = ((A >>> m ^^^ B >>> m : Nat) : Int) := by
  rw [bit_of, bit_of] at h
  have h' : (A / 2 ^ m) % 2 = (B / 2 ^ m) % 2 := by
    have := bne_eq_false_iff_eq.1 h
    omega
  have hs := xor_step A B m
  rw [if_pos h'] at hs
  have hl := xor_lt A B m hA hB
  omega

theorem bits_other (A B m : Nat) (hA : A ≤ 255) (hB : B ≤ 255) (h : (((A : Int) / 2 ^ m).tmod 2 != ((B : Int) / 2 ^ m).tmod 2) = true) :
    (2 * ((A >>> (m + 1) ^^^ B >>> (m + 1) : Nat) : Int) % 256 + 1) = ((A >>> m ^^^ B >>> m : Nat) : Int) := by
  rw [bit_of, bit_of] at h
  have h' : ¬ (A / 2 ^ m) % 2 = (B / 2 ^ m) % 2 := by
    have := (bne_iff_ne (a := ((A / 2 ^ m % 2 : Nat) : Int)) (b := ((B / 2 ^ m % 2 : Nat) : Int))).1 h
    omega
  have hs := xor_step A B m
  rw [if_neg h'] at hs
  have hl := xor_lt A B m hA hB
  omega

/-- Bit by bit. -/
def xorL (xs ys : List Int) : List Int := List.zipWith (fun a b => ((a.toNat ^^^ b.toNat : Nat) : Int)) xs ys

theorem xorL_length (xs ys : List Int) (h : ys.length = xs.length) : (xorL xs ys).length = xs.length := by simp [xorL, h]

theorem xorL_oct {xs ys : List Int} (hx : Oct xs) (hy : Oct ys) : Oct (xorL xs ys) := by
  intro z hz
  rw [xorL, ← List.map_uncurry_zip_eq_zipWith] at hz
  simp only [List.mem_map, Prod.exists, Function.uncurry] at hz
  obtain ⟨a, b, hab, rfl⟩ := hz
  have ha := hx a (List.of_mem_zip hab).1
  have hb := hy b (List.of_mem_zip hab).2
  have := xor_lt a.toNat b.toNat 0 (by omega) (by omega)
  simp only [Nat.shiftRight_zero] at this
  omega

theorem xorL_snoc (xs ys : List Int) (x y : Int) (h : ys.length = xs.length) : xorL (xs ++ [x]) (ys ++ [y]) = xorL xs ys ++ [((x.toNat ^^^ y.toNat : Nat) : Int)] := by
  rw [xorL, List.zipWith_append h.symm]
  rfl

/-- The first k of them, then noughts. -/
def xpart (xs ys : List Int) (k : Nat) : List Int := xorL (xs.take k) (ys.take k) ++ List.replicate (xs.length - k) 0

theorem xpart_set (xs ys : List Int) (k : Nat) (hk : k < xs.length) (h : ys.length = xs.length) :
    (xpart xs ys k).set k ((((xs[k]'hk).toNat ^^^ (ys[k]'(by omega)).toNat : Nat) : Int)) = xpart xs ys (k + 1) := by
  unfold xpart
  have hl : (xorL (xs.take k) (ys.take k)).length = k := by rw [xorL_length _ _ (by simp; omega)]; simp; omega
  rw [List.set_append_right _ _ (by omega), hl, Nat.sub_self, take_snoc xs k hk, take_snoc ys k (by omega), xorL_snoc _ _ _ _ (by simp; omega)]
  rw [show xs.length - k = (xs.length - (k + 1)) + 1 from by omega, List.replicate_succ, List.set_cons_zero]
  rw [List.getD_eq_getElem?_getD, List.getD_eq_getElem?_getD, List.getElem?_eq_getElem hk, List.getElem?_eq_getElem (show k < ys.length by omega)]
  simp

set_option maxHeartbeats 400000 in
theorem xor_any (p q : Option Addr) (c d : Nat) (xs ys : List Int) (w : World) (hp : Bin w p xs) (hq : Bin w q ys) (hx : Oct xs) (hy : Oct ys) (hl : ys.length = xs.length) (hm : xs.length ≤ 140737488351232) :
    Calls Try.prog 24 #[.slice p xs.length c, .slice q xs.length d] w fun e w' => ∃ v, e = .returned (.tuple #[v, .int .i64 0]) ∧ Own w.heap.size w' v xs.length (xorL xs ys) ∧ Below w.heap.size w w' := by
  obtain ⟨i0, hi, hz0, hz1, hz2⟩ := info_parts Try.infoU8
  have HL := hid hl
  clear hl
  go_enter Try.func24, Try.ntmps24
  go_wp2_with (at_make; refine wpList_make_full _ rfl (.tmp 14) (.tmp 14) 22 rfl w.heap.size 5 i0 (.int .u8 0) 1 Try.underlying22 hi hz0 hz1 .i64 .i64 _ _ xs.length rfl rfl rfl rfl (by rw [hz2]; omega) (by unfold maxLen; omega) (Nat.le_refl _) ?_; intro w1 hown hgrow)
  have hown0 : Own w.heap.size w1 (.slice (some ⟨w.heap.size, 0, none⟩) xs.length xs.length) xs.length (xpart xs ys 0) := by
    rw [made_u8] at hown
    exact hown
  have hb0 : Below w.heap.size w w1 := (Below.refl _ _).grown hgrow (Nat.le_refl _) (by simp)
  clear hown hgrow
  go_loopw [18] (fun i wr => ∃ k : Nat, k ≤ xs.length ∧ i = .int .i64 (k : Int) ∧ Own w.heap.size wr (.slice (some ⟨w.heap.size, 0, none⟩) xs.length xs.length) xs.length (xpart xs ys k) ∧ Below w.heap.size w wr)
    (fun i _ => xs.length - (intOf i).toNat)
  case atStart => exact ⟨0, by omega, rfl, hown0, hb0⟩
  case round =>
    obtain ⟨k, hk, rfl, hown, hbel⟩ := hrel
    by_cases hlt : k < xs.length
    · have hlt2 : k < ys.length := by rw [HL.out]; exact hlt
      obtain ⟨b, o, rfl, hlb, hc⟩ := (hp.below hbel).at (by omega)
      obtain ⟨b2, o2, rfl, hlb2, hc2⟩ := (hq.below hbel).at (by omega)
      have hck := hc k hlt
      have hck2 := hc2 k hlt2
      clear hc hc2
      have hcell := hown.cellAt k hlt
      have hfz := hown.frozenAt k
      have HO := hid (hown.stored k (((xs[k].toNat ^^^ ys[k].toNat : Nat) : Int)))
      have h1 := hx.lt k hlt
      have h2 := hy.lt k hlt2
      have HX := hid (u8_xor xs[k] ys[k] h1.1 (by omega) h2.1 (by omega))
      clear hown
      go_wp2
      go_region
      go_wp2
      go_roundw
      case rel =>
        refine ⟨k + 1, by omega, by go_num, ?_, (hbel.drew).setCell (Nat.le_refl _) _⟩
        have h := HO.out
        rw [xpart_set xs ys k hlt HL.out, ← HX.out] at h
        exact World.ownsRow.drew h
      case measure => simp [intOf]; omega
    · obtain rfl : k = xs.length := by omega
      have e : xpart xs ys xs.length = xorL xs ys := by
        unfold xpart
        rw [List.take_length, ← HL.out, List.take_length]
        simp [HL.out]
      rw [e] at hown
      have HO := hid hown
      clear hown
      go_wp2
      go_ret2
      exact ⟨_, rfl, HO.out, hbel⟩

theorem xor_no (p q : Option Addr) (c d n m : Nat) (w : World) (h : n ≠ m) :
    Calls Try.prog 24 #[.slice p n c, .slice q m d] w fun e w' => e = .returned (.tuple #[.slice none 0 0, .int .i64 2]) ∧ w = w' := by
  have h' : ((n : Int) != (m : Int)) = true := by simp; omega
  go_enter Try.func24, Try.ntmps24
  go_wp2
  go_ret2
  exact ⟨rfl, rfl⟩
end Go.Proofs.Ytadpnkecdjleiaa
