/-
  The contracts of the document's calls on elements.
-/
import Derived.Test.YtadpnkecdjleiaaGmul
namespace Go.Proofs.Ytadpnkecdjleiaa
open Go.RowKit

theorem wrap64_nat (n : Nat) (h : n < 2 ^ 63) : wrap64 (n : Int) = (n : Int) := by unfold wrap64; omega

theorem i64_xor_nat (a b : Nat) (ha : a < 2 ^ 62) (hb : b < 2 ^ 62) : bits .xor .i64 (a : Int) (b : Int) = ((a ^^^ b : Nat) : Int) := by
  have hx : a ^^^ b < 2 ^ 62 := Nat.xor_lt_two_pow (by omega) (by omega)
  have e : ∀ n : Nat, n < 2 ^ 62 → (BitVec.ofInt 64 (n : Int)).toNat = n := fun n hn => by
    rw [BitVec.ofInt_natCast, BitVec.toNat_ofNat]; exact Nat.mod_eq_of_lt (by omega)
  show IntKind.i64.wrap ((BitVec.ofInt 64 (a : Int) ^^^ BitVec.ofInt 64 (b : Int)).toNat : Int) = _
  rw [BitVec.toNat_xor, e a ha, e b hb]
  simp [IntKind.wrap, IntKind.bits, IntKind.signed]
  omega

theorem div_bit (a k : Nat) : ((a : Int) / 2 ^ k) = ((a / 2 ^ k : Nat) : Int) := by simp

theorem bit_val (a k : Nat) (ha : a < 256) : (wrap64 ((a : Int) / 2 ^ k)).tmod 2 = ((a / 2 ^ k % 2 : Nat) : Int) := by
  have h : a / 2 ^ k ≤ a := Nat.div_le_self _ _
  rw [div_bit, wrap64_nat _ (by omega)]
  rfl

theorem bit_any (a i : Nat) (w : World) (ha : a < 256) (hi : i ≤ 16) :
    Calls Try.prog 49 #[.int .u8 a, .int .i64 i] w fun e w' => e = .returned (.int .i64 (a / 2 ^ (i % 8) % 2 : Nat)) ∧ w = w' := by
  go_enter Try.func49, Try.ntmps49
  go_wp2
  go_ret
  exact ⟨ret_int (bit_val a _ ha), rfl⟩

/-- The step of the multiplying out. -/
theorem cm_step {a b k : Nat} (ha : a < 256) (hk : k < 8) :
    (b / 2 ^ (k % 8) % 2 = 1 → bits .xor .i64 ((cm k a b : Nat) : Int) (wrap64 ((a : Int) * 2 ^ k)) = ((cm (k + 1) a b : Nat) : Int)) ∧ (¬ b / 2 ^ (k % 8) % 2 = 1 → cm k a b = cm (k + 1) a b) := by
  have ht : b.testBit k = decide (b / 2 ^ k % 2 = 1) := by
    rw [Nat.testBit_eq_decide_div_mod_eq]
  rw [show k % 8 = k from by omega]
  have hp : 2 ^ k ≤ 2 ^ 7 := Nat.pow_le_pow_right (by decide) (by omega)
  have hm : a * 2 ^ k ≤ 256 * 2 ^ 7 := Nat.mul_le_mul (by omega) hp
  have hc : cm k a b < 2 ^ 16 := Nat.lt_of_lt_of_le (cm_lt k b ha) (Nat.pow_le_pow_right (by decide) (by omega))
  constructor
  · intro h
    have e : ((a : Int) * 2 ^ k) = ((a * 2 ^ k : Nat) : Int) := by simp
    rw [e, wrap64_nat _ (by omega), i64_xor_nat _ _ (by omega) (by omega)]
    simp only [cm]
    rw [ht, if_pos (by simpa using h), Nat.shiftLeft_eq]
  · intro h
    simp only [cm]
    rw [ht, if_neg (by simpa using h), Nat.xor_zero]

theorem rd_step (j p : Nat) (hp : p < 2 ^ 16) (hj : j < 7) :
    ((p / 2 ^ (j + 8)) % 2 = 1 → bits .xor .i64 (p : Int) (wrap64 (283 * 2 ^ j)) = ((p ^^^ (if p.testBit (j + 8) then 283 <<< j else 0) : Nat) : Int)) ∧
    (¬ (p / 2 ^ (j + 8)) % 2 = 1 → p = p ^^^ (if p.testBit (j + 8) then 283 <<< j else 0)) := by
  have ht : p.testBit (j + 8) = decide (p / 2 ^ (j + 8) % 2 = 1) := by
    rw [Nat.testBit_eq_decide_div_mod_eq]
  have hq : 2 ^ j ≤ 2 ^ 6 := Nat.pow_le_pow_right (by decide) (by omega)
  constructor
  · intro h
    have e : ((283 : Int) * 2 ^ j) = ((283 * 2 ^ j : Nat) : Int) := by simp
    rw [e, wrap64_nat _ (by omega), i64_xor_nat _ _ (by omega) (by omega)]
    rw [ht, if_pos (by simpa using h), Nat.shiftLeft_eq]
  · intro h
    rw [ht, if_neg (by simpa using h), Nat.xor_zero]

theorem tbit (p k : Nat) : ((p : Int) / 2 ^ k).tmod 2 = ((p / 2 ^ k % 2 : Nat) : Int) := by rw [div_bit]; rfl
theorem tbit_one {p k : Nat} (h : (((p : Int) / 2 ^ k).tmod 2 == 1) = true) : p / 2 ^ k % 2 = 1 := by
  rw [tbit] at h
  have := eq_of_beq h
  omega
theorem tbit_none {p k : Nat} (h : (((p : Int) / 2 ^ k).tmod 2 == 1) = false) : ¬ p / 2 ^ k % 2 = 1 := by
  rw [tbit] at h
  have := ne_of_beq_false h
  omega

theorem rd_lt16 (j p : Nat) (hp : p < 2 ^ 16) (hj : j < 7) : p ^^^ (if p.testBit (j + 8) then 283 <<< j else 0) < 2 ^ 16 := by
  refine Nat.xor_lt_two_pow (n := 16) hp ?_
  split
  · rw [Nat.shiftLeft_eq]
    have hq : 2 ^ j ≤ 2 ^ 6 := Nat.pow_le_pow_right (by decide) (by omega)
    omega
  · decide

set_option maxHeartbeats 400000 in
theorem refMul_any (a b : Nat) (w : World) (ha : a < 256) (hb : b < 256) :
    Calls Try.prog 55 #[.int .u8 a, .int .u8 b] w fun e w' => e = .returned (.int .u8 (mul a b : Nat)) ∧ w = w' := by
  go_enter Try.func55, Try.ntmps55
  go_wp2
  go_loop [5, 6] (fun p i => ∃ k : Nat, k ≤ 8 ∧ i = .int .i64 (k : Int) ∧ p = .int .i64 (cm k a b : Nat)) (fun _ i => 8 - (intOf i).toNat)
  case atStart => exact ⟨0, by decide, rfl, rfl⟩
  case round =>
    obtain ⟨k, hk, rfl, rfl⟩ := hrel
    by_cases hlt : k < 8
    · have HC := hid (cm_step (b := b) ha hlt)
      go_wp2_with fail
      refine (bit_any b k _ hb (by omega)).mono ?_
      rintro e w' ⟨rfl, rfl⟩
      by_cases hbit : b / 2 ^ (k % 8) % 2 = 1
      · rw [hbit]
        have hc := hid (HC.out.1 hbit)
        clear hbit HC
        go_wp2
        go_round
        case rel => exact ⟨k + 1, by omega, by go_num, by rw [hc.out]⟩
        case measure => simp [intOf]; omega
      · have h0 : b / 2 ^ (k % 8) % 2 = 0 := by omega
        rw [h0]
        have hc := hid (HC.out.2 hbit)
        clear hbit HC h0
        go_wp2
        go_round
        case rel => exact ⟨k + 1, by omega, by go_num, by rw [hc.out]⟩
        case measure => simp [intOf]; omega
    · obtain rfl : k = 8 := by omega
      have hc16 : cm 8 a b < 2 ^ 16 := cm_lt 8 b ha
      have HM := hid (rest_mul ha hb)
      go_wp2
      go_loop [5, 7] (fun p i => ∃ j p' : Nat, j ≤ 7 ∧ p' < 2 ^ 16 ∧ i = .int .i64 ((j : Int) + 7) ∧ p = .int .i64 (p' : Nat) ∧ rd j p' = mul a b) (fun _ i => (intOf i).toNat)
      case atStart => exact ⟨7, cm 8 a b, by decide, hc16, rfl, rfl, HM.out⟩
      case round =>
        obtain ⟨j, p', hj, hp', rfl, rfl, hrd⟩ := hrel
        rcases j with _ | j
        · have hp : p' = mul a b := hrd
          subst hp
          have hm := mul_lt b ha
          clear hrd
          go_wp2
          go_ret
          exact ⟨rfl, rfl⟩
        · have HR := hid hrd
          have HS := hid (rd_step j p' hp' (by omega))
          have hl := rd_lt16 j p' hp' (by omega)
          clear hrd
          rw [show ((j + 1 : Nat) : Int) + 7 = ((j + 8 : Nat) : Int) from by omega]
          go_wp2
          · have ht : (((p' : Int) / 2 ^ (j + 8)).tmod 2 == 1) = true := by assumption
            go_round
            case rel => exact ⟨j, _, by omega, hl, by go_num, by rw [HS.out.1 (tbit_one ht)], HR.out⟩
            case measure => simp [intOf]; omega
          · have ht : (((p' : Int) / 2 ^ (j + 8)).tmod 2 == 1) = false := by assumption
            go_round
            case rel => exact ⟨j, _, by omega, hl, by go_num, by rw [← HS.out.2 (tbit_none ht)], HR.out⟩
            case measure => simp [intOf]; omega

set_option maxRecDepth 100000 in
set_option maxHeartbeats 400000 in
theorem refInv_any (a : Nat) (w : World) (ha : a < 256) :
    Calls Try.prog 48 #[.int .u8 a] w fun e w' => e = .returned (.int .u8 (inv a : Nat)) ∧ w = w' := by
  go_enter Try.func48, Try.ntmps48
  go_wp2
  go_loop [3] (fun i => ∃ k : Nat, k ≤ 256 ∧ i = .int .i64 (k : Int) ∧ ∀ j, j < k → mul a j ≠ 1) (fun i => 256 - (intOf i).toNat)
  case atStart => exact ⟨0, by decide, rfl, fun j hj => absurd hj (Nat.not_lt_zero j)⟩
  case round =>
    obtain ⟨k, hk, rfl, hrel⟩ := hrel
    have HR := hid hrel
    clear hrel
    by_cases hlt : k < 256
    · have HI := hid (fun h => @inv_only a k ha hlt h)
      go_wp2_with fail
      refine (refMul_any a k _ ha hlt).mono ?_
      rintro e w' ⟨rfl, rfl⟩
      by_cases h1 : mul a k = 1
      · have hi := hid (HI.out h1)
        rw [h1]
        clear h1 HI
        go_wp2
        go_ret
        exact ⟨ret_int (by rw [hi.out]), rfl⟩
      · go_wp2
        go_round
        case rel =>
          refine ⟨k + 1, by omega, by go_num, fun j hj => ?_⟩
          rcases (show j < k ∨ j = k from by omega) with h | h
          · exact HR.out j h
          · rw [h]; exact h1
        case measure => simp [intOf]; omega
    · obtain rfl : k = 256 := by omega
      have h0 : inv a = 0 := by
        by_cases hz : a = 0
        · rw [hz]; exact inv_zero
        · exact absurd (mul_inv_all a ha hz) (HR.out _ (inv_lt ha))
      have H0 := hid h0
      clear h0
      go_wp2
      go_ret
      exact ⟨ret_int (by rw [H0.out]; rfl), rfl⟩

set_option maxHeartbeats 400000 in
theorem refPower_any (a n : Nat) (w : World) (ha : a < 256) (hn : n < 2 ^ 32) :
    Calls Try.prog 47 #[.int .u8 a, .int .u32 n] w fun e w' => e = .returned (.int .u8 (pw a n : Nat)) ∧ w = w' := by
  go_enter Try.func47, Try.ntmps47
  by_cases h0 : n = 0
  · subst h0
    go_wp2
    go_ret
    exact ⟨rfl, rfl⟩
  · by_cases ha0 : a = 0
    · subst ha0
      have HZ := hid (pw_zero n h0)
      go_wp2
      go_ret
      exact ⟨ret_int (by rw [HZ.out]; rfl), rfl⟩
    · have HP := hid (pw_round ha ha0 n)
      have e1 : ((n : Int) == 0) = false := by rw [beq_eq_false_iff_ne]; omega
      have e2 : ((a : Int) == 0) = false := by rw [beq_eq_false_iff_ne]; omega
      go_wp2
      go_loop [5, 6] (fun c i => ∃ k : Nat, k ≤ n % 255 ∧ i = .int .u32 (k : Int) ∧ c = .int .u8 (pw a k : Nat)) (fun _ i => 255 - (intOf i).toNat)
      case atStart => exact ⟨0, Nat.zero_le _, rfl, rfl⟩
      case round =>
        obtain ⟨k, hk, rfl, rfl⟩ := hrel
        by_cases hlt : k < n % 255
        · go_wp2_with fail
          refine (refMul_any _ a _ (pw_lt ha k) ha).mono ?_
          rintro e w' ⟨rfl, rfl⟩
          go_wp2
          go_round
          case rel => exact ⟨k + 1, by omega, by go_num, rfl⟩
          case measure => simp [intOf]; omega
        · obtain rfl : k = n % 255 := by omega
          go_wp2
          go_ret
          exact ⟨ret_int (by rw [HP.out]), rfl⟩
end Go.Proofs.Ytadpnkecdjleiaa
