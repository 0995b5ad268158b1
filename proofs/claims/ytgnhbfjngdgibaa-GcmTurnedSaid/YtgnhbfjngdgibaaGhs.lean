/-
  Two words of 64 bits as one element: a round of the product. Stands on no function of the program.
-/
import Derived.Test.YtgnhbfjngdgibaaKh
namespace Go.Proofs.Ytgnhbfjngdgibaa
open Go.RowKit
set_option linter.unusedVariables false
set_option linter.unusedSimpArgs false

/-- What stands in the words behind m rounds: x put up, y times x^m, and the sum so far. -/
def GSt (X Y m ah al ch cl fh fl : Nat) : Prop := ah < 18446744073709551616 ∧ al < 18446744073709551616 ∧ ch < 18446744073709551616 ∧ cl < 18446744073709551616 ∧ fh < 18446744073709551616 ∧ fl < 18446744073709551616 ∧
  ah * 18446744073709551616 + al = X <<< m % 2 ^ 128 ∧ ch * 18446744073709551616 + cl = G.dblN m Y ∧ fh * 18446744073709551616 + fl = G.xsum m fun i => G.gate (X.testBit (127 - i)) (G.dblN i Y)

theorem xor_join {a b c d : Nat} (hb : b < 18446744073709551616) (hd : d < 18446744073709551616) :
    (a * 18446744073709551616 + b) ^^^ (c * 18446744073709551616 + d) = (a ^^^ c) * 18446744073709551616 + (b ^^^ d) := by
  have h1 : ((a * 18446744073709551616 + b) ^^^ (c * 18446744073709551616 + d)) / 2 ^ 64 = a ^^^ c := by
    rw [← Nat.shiftRight_eq_div_pow, Nat.shiftRight_xor_distrib, Nat.shiftRight_eq_div_pow, Nat.shiftRight_eq_div_pow]
    congr 1 <;> omega
  have h2 : ((a * 18446744073709551616 + b) ^^^ (c * 18446744073709551616 + d)) % 2 ^ 64 = b ^^^ d := by
    rw [Nat.xor_mod_two_pow]
    congr 1 <;> omega
  have h3 := Nat.div_add_mod ((a * 18446744073709551616 + b) ^^^ (c * 18446744073709551616 + d)) (2 ^ 64)
  rw [h1, h2] at h3
  omega
theorem gate_join (t : Bool) (a b : Nat) : G.gate t (a * 18446744073709551616 + b) = G.gate t a * 18446744073709551616 + G.gate t b := by cases t <;> simp [G.gate]

/-- All bits, or none. -/
theorem mask_of (b : Nat) (h : b < 2) : IntKind.u64.wrap (-(b : Int)) = ((G.gate (decide (b = 1)) 18446744073709551615 : Nat) : Int) := by
  rw [IntKind.wrap_u64]
  rcases (show b = 0 ∨ b = 1 from by omega) with rfl | rfl
  · simp [G.gate]
  · simp [G.gate]
theorem and_mask (x : Nat) (t : Bool) (hx : x < 18446744073709551616) : bits .and .u64 (x : Int) ((G.gate t 18446744073709551615 : Nat) : Int) = ((G.gate t x : Nat) : Int) := by
  rw [u64_and_nat _ _ hx (by cases t <;> simp [G.gate])]
  cases t
  · simp [G.gate]
  · have := Nat.and_two_pow_sub_one_eq_mod x 64
    rw [show (2 : Nat) ^ 64 - 1 = 18446744073709551615 from rfl] at this
    simp only [G.gate, if_true, this]
    rw [Nat.mod_eq_of_lt (show x < 2 ^ 64 from hx)]
theorem gate_lt64 {t : Bool} {v : Nat} (h : v < 18446744073709551616) : G.gate t v < 18446744073709551616 := G.gate_lt (b := 64) h

/-- The words of a round. -/
def a1 (ah al : Nat) : Nat := 2 * ah % 18446744073709551616 + al / 9223372036854775808
def a2 (al : Nat) : Nat := 2 * al % 18446744073709551616
def c1 (ch cl : Nat) : Nat := ch / 2 ^^^ G.gate (decide (cl % 2 = 1)) 16212958658533785600
def c2 (ch cl : Nat) : Nat := ch % 2 * 9223372036854775808 + cl / 2
def f1 (ah ch fh : Nat) : Nat := fh ^^^ G.gate (decide (ah / 9223372036854775808 = 1)) ch

theorem e_a1 (ah al : Nat) (h1 : ah < 18446744073709551616) (h2 : al < 18446744073709551616) :
    bits .or .u64 (IntKind.u64.wrap ((ah : Int) * 2)) ((al : Int) / 9223372036854775808) = ((a1 ah al : Nat) : Int) := by
  have e1 : IntKind.u64.wrap ((ah : Int) * 2) = ((2 * ah % 18446744073709551616 : Nat) : Int) := by rw [IntKind.wrap_u64]; omega
  have e2 : (al : Int) / 9223372036854775808 = ((al / 9223372036854775808 : Nat) : Int) := by omega
  rw [e1, e2, u64_or_nat _ _ (by omega) (by omega), nat_join 1 _ _ (by omega) (by omega)]
  rfl
theorem e_a2 (al : Nat) : IntKind.u64.wrap ((al : Int) * 2) = ((a2 al : Nat) : Int) := by rw [IntKind.wrap_u64]; unfold a2; omega
theorem e_c1 (ch cl : Nat) (h1 : ch < 18446744073709551616) (h2 : cl < 18446744073709551616) :
    bits .xor .u64 ((ch : Int) / 2) (bits .and .u64 16212958658533785600 (IntKind.u64.wrap (-bits .and .u64 (cl : Int) 1))) = ((c1 ch cl : Nat) : Int) := by
  have e0 : bits .and .u64 (cl : Int) 1 = ((cl % 2 : Nat) : Int) := by
    have := u64_and_nat cl 1 h2 (by decide)
    rw [Nat.and_one_is_mod] at this
    exact this
  have e1 := and_mask 16212958658533785600 (decide (cl % 2 = 1)) (by decide)
  have e2 : (ch : Int) / 2 = ((ch / 2 : Nat) : Int) := by omega
  rw [e0, mask_of _ (by omega)]
  rw [show ((16212958658533785600 : Nat) : Int) = 16212958658533785600 from rfl] at e1
  rw [e1, e2, u64_xor_nat _ _ (by omega) (gate_lt64 (by decide))]
  rfl
theorem e_c2 (ch cl : Nat) (h1 : ch < 18446744073709551616) (h2 : cl < 18446744073709551616) :
    bits .or .u64 (IntKind.u64.wrap ((ch : Int) * 9223372036854775808)) ((cl : Int) / 2) = ((c2 ch cl : Nat) : Int) := by
  have e1 : IntKind.u64.wrap ((ch : Int) * 9223372036854775808) = ((ch % 2 * 9223372036854775808 : Nat) : Int) := by rw [IntKind.wrap_u64]; omega
  have e2 : (cl : Int) / 2 = ((cl / 2 : Nat) : Int) := by omega
  rw [e1, e2, u64_or_nat _ _ (by omega) (by omega), nat_join 63 _ _ (by omega) (by omega)]
  rfl
theorem e_f1 (ah ch fh : Nat) (h1 : ah < 18446744073709551616) (h2 : ch < 18446744073709551616) (h3 : fh < 18446744073709551616) :
    bits .xor .u64 (fh : Int) (bits .and .u64 (ch : Int) (IntKind.u64.wrap (-((ah : Int) / 9223372036854775808)))) = ((f1 ah ch fh : Nat) : Int) := by
  have e2 : (ah : Int) / 9223372036854775808 = ((ah / 9223372036854775808 : Nat) : Int) := by omega
  rw [e2, mask_of _ (by omega), and_mask _ _ h2, u64_xor_nat _ _ h3 (gate_lt64 h2)]
  rfl

theorem xor64 {a b : Nat} (h1 : a < 18446744073709551616) (h2 : b < 18446744073709551616) : a ^^^ b < 18446744073709551616 := Nat.xor_lt_two_pow (n := 64) h1 h2

theorem put_up {ah al : Nat} (h1 : ah < 18446744073709551616) (h2 : al < 18446744073709551616) : a1 ah al * 18446744073709551616 + a2 al = 2 * (ah * 18446744073709551616 + al) % 2 ^ 128 := by
  obtain ⟨t, ht⟩ : ∃ t, t = 2 * ah / 18446744073709551616 := ⟨_, rfl⟩
  obtain ⟨u, hu⟩ : ∃ u, u = al / 9223372036854775808 := ⟨_, rfl⟩
  have e1 : 2 * ah = 18446744073709551616 * t + 2 * ah % 18446744073709551616 := by omega
  have e2 : 2 * al = 18446744073709551616 * u + 2 * al % 18446744073709551616 := by omega
  have e3 : a1 ah al = 2 * ah % 18446744073709551616 + u := by rw [hu]; rfl
  have e4 : a1 ah al < 18446744073709551616 := by unfold a1; omega
  have e5 : a2 al < 18446744073709551616 := by unfold a2; omega
  have e6 : a2 al = 2 * al % 18446744073709551616 := rfl
  have e : 2 * (ah * 18446744073709551616 + al) = 2 ^ 128 * t + (a1 ah al * 18446744073709551616 + a2 al) := by
    rw [show (2 : Nat) ^ 128 = 18446744073709551616 * 18446744073709551616 from rfl, Nat.mul_assoc, Nat.mul_add, ← Nat.mul_assoc 2 ah, e2, e1, ← e6, e3]
    generalize 2 * ah % 18446744073709551616 = r
    generalize a2 al = s
    generalize 18446744073709551616 * t = v
    omega
  have e7 : a1 ah al * 18446744073709551616 + a2 al < 2 ^ 128 := by
    rw [show (2 : Nat) ^ 128 = 18446744073709551616 * 18446744073709551616 from rfl]
    generalize a1 ah al = r at e4 ⊢
    generalize a2 al = s at e5 ⊢
    omega
  rw [e, Nat.mul_add_mod, Nat.mod_eq_of_lt e7]
theorem GSt.next {X Y m ah al ch cl fh fl : Nat} (h : GSt X Y m ah al ch cl fh fl) (hm : m < 128) :
    GSt X Y (m + 1) (a1 ah al) (a2 al) (c1 ch cl) (c2 ch cl) (f1 ah ch fh) (f1 ah cl fl) := by
  obtain ⟨h1, h2, h3, h4, h5, h6, hX, hY, hF⟩ := h
  have top : decide (ah / 9223372036854775808 = 1) = X.testBit (127 - m) := by
    have e : (X <<< m % 2 ^ 128).testBit 127 = X.testBit (127 - m) := by
      rw [Nat.testBit_mod_two_pow, Nat.testBit_shiftLeft]
      have : 127 ≥ m := by omega
      simp [this]
    rw [← e, ← hX, Nat.testBit_eq_decide_div_mod_eq]
    congr 1
    apply propext
    constructor <;> intro _ <;> omega
  refine ⟨by unfold a1; omega, by unfold a2; omega, xor64 (by omega) (gate_lt64 (by decide)), by unfold c2; omega, xor64 h5 (gate_lt64 h3), xor64 h6 (gate_lt64 h4), ?_, ?_, ?_⟩
  · rw [Nat.shiftLeft_succ, ← Nat.mul_mod_mod, ← hX]
    exact put_up h1 h2
  · rw [G.dblN, ← hY, G.dbl, Nat.shiftRight_eq_div_pow]
    have e1 : (ch * 18446744073709551616 + cl).testBit 0 = decide (cl % 2 = 1) := by
      rw [Nat.testBit_zero]
      congr 1
      apply propext
      constructor <;> intro _ <;> omega
    have e2 : (ch * 18446744073709551616 + cl) / 2 ^ 1 = ch / 2 * 18446744073709551616 + (ch % 2 * 9223372036854775808 + cl / 2) := by omega
    rw [e1, e2, show G.rest = 16212958658533785600 * 18446744073709551616 + 0 from rfl, gate_join, xor_join (by omega) (gate_lt64 (by decide)), G.gate_zero, Nat.xor_zero]
    rfl
  · rw [G.xsum, ← hF, ← hY, ← top, gate_join, xor_join h6 (gate_lt64 h4)]
    rfl
theorem GSt.zero {ah al ch cl : Nat} (h1 : ah < 18446744073709551616) (h2 : al < 18446744073709551616) (h3 : ch < 18446744073709551616) (h4 : cl < 18446744073709551616) :
    GSt (ah * 18446744073709551616 + al) (ch * 18446744073709551616 + cl) 0 ah al ch cl 0 0 :=
  ⟨h1, h2, h3, h4, by decide, by decide, by rw [Nat.shiftLeft_zero]; omega, rfl, rfl⟩
end Go.Proofs.Ytgnhbfjngdgibaa
