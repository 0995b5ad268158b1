/-
  The walk of OctetBack.
-/
import Derived.Test.YtojbnobpdoigaaaKnown
import Derived.Test.YtojbnobpdoigaaaSame
namespace Go.Proofs.Ytojbnobpdoigaaa
open Go.RowKit

theorem num_cons_go (l : List Int) (a : Int) : l.foldl (fun n x => 256 * n + x) a = a * 256 ^ l.length + num l := by
  refine snoc_ind (Q := fun l => l.foldl (fun n x => 256 * n + x) a = a * 256 ^ l.length + num l) ?_ ?_ l
  · simp [num]
  · intro l x ih
    rw [List.foldl_append, ih, num_snoc]
    simp only [List.foldl_cons, List.foldl_nil, List.length_append, List.length_singleton, Int.pow_succ]
    rw [Int.mul_add, ← Int.mul_assoc a, Int.mul_comm 256 (a * 256 ^ l.length)]
    omega

theorem num_cons (x : Int) (l : List Int) : num (x :: l) = x * 256 ^ l.length + num l := by
  unfold num
  rw [List.foldl_cons, num_cons_go]
  simp [num]

theorem num_be (j : Nat) (n : Int) : num (be j n) = n % 256 ^ j := by
  induction j with
  | zero => simp [be, num, Int.emod_one]
  | succ j ih =>
    rw [be, num_cons, be_length, ih, Int.pow_succ]
    have hp : (0 : Int) < 256 ^ j := Int.pow_pos (by decide)
    have h1 := Int.emod_add_mul_ediv n (256 ^ j)
    have h2 := Int.emod_add_mul_ediv (n / 256 ^ j) 256
    have h4 := Int.emod_nonneg n (Int.ne_of_gt hp)
    have h5 := Int.emod_lt_of_pos n hp
    have h6 := Int.emod_nonneg (n / 256 ^ j) (show (256 : Int) ≠ 0 by decide)
    have h7 := Int.emod_lt_of_pos (n / 256 ^ j) (show (0 : Int) < 256 by decide)
    have e : n = (n / 256 ^ j % 256 * 256 ^ j + n % 256 ^ j) + (256 ^ j * 256) * (n / 256 ^ j / 256) := by
      rw [Int.mul_assoc, Int.mul_comm (n / 256 ^ j % 256)]
      have : 256 ^ j * (n / 256 ^ j) = 256 ^ j * (n / 256 ^ j % 256) + 256 ^ j * (256 * (n / 256 ^ j / 256)) := by
        rw [← Int.mul_add, h2]
      omega
    have hb : n / 256 ^ j % 256 * 256 ^ j ≤ 255 * 256 ^ j := Int.mul_le_mul_of_nonneg_right (by omega) (Int.le_of_lt hp)
    have h0 : 0 ≤ n / 256 ^ j % 256 * 256 ^ j := Int.mul_nonneg h6 (Int.le_of_lt hp)
    have hlt : n / 256 ^ j % 256 * 256 ^ j + n % 256 ^ j < 256 ^ j * 256 := by omega
    have hq : n % (256 ^ j * 256) = (n / 256 ^ j % 256 * 256 ^ j + n % 256 ^ j) % (256 ^ j * 256) := by
      conv => lhs; rw [e]
      rw [Int.add_mul_emod_self_left]
    rw [hq, Int.emod_eq_of_lt (by omega) hlt]

theorem be_add (j k : Nat) (h : j ≤ k) (n m : Int) : be j (n + m * 256 ^ k) = be j n := by
  induction j with
  | zero => rfl
  | succ j ih =>
    have hp : (0 : Int) < 256 ^ j := Int.pow_pos (by decide)
    have e : m * 256 ^ k = 256 ^ j * (256 * (m * 256 ^ (k - j - 1))) := by
      rw [show (256 : Int) ^ k = 256 ^ (j + 1 + (k - j - 1)) by congr 1; omega, Int.pow_add, Int.pow_succ]
      rw [Int.mul_comm m, Int.mul_assoc, Int.mul_assoc, Int.mul_comm m]
    rw [be, be, ih (by omega)]
    congr 1
    rw [e, Int.add_mul_ediv_left _ _ (Int.ne_of_gt hp), Int.add_mul_emod_self_left]

theorem be_num (l : List Int) (h : Oct l) : be l.length (num l) = l := by
  induction l with
  | nil => rfl
  | cons x l ih =>
    have ho : Oct l := fun y hy => h y (by simp [hy])
    have hx := h x (by simp)
    have hn := num_bound l ho
    have hp : (0 : Int) < 256 ^ l.length := Int.pow_pos (by decide)
    rw [List.length_cons, be, num_cons]
    have e1 : (x * 256 ^ l.length + num l) / 256 ^ l.length = x := by
      rw [Int.add_comm, Int.add_mul_ediv_right _ _ (Int.ne_of_gt hp), Int.ediv_eq_zero_of_lt hn.1 hn.2]
      omega
    rw [e1, Int.emod_eq_of_lt hx.1 (by omega), Int.add_comm, be_add _ _ (Nat.le_refl _), ih ho]

theorem num_small (l : List Int) (h : Oct l) : num l / 256 ^ l.length = 0 := by
  have hn := num_bound l h
  exact Int.ediv_eq_zero_of_lt hn.1 hn.2

theorem lawSame_yes (p q : Option Addr) (c d n : Nat) (xs : List Int) (w : World) (hn : xs.length = n) (hp : Bin w p xs) (hq : Bin w q xs) (hx : Oct xs) :
    Calls Try.prog 27 #[.slice p n c, .slice q n d] w fun e w' => e = .returned (.bool true) ∧ w = w' := by
  subst hn
  refine (lawSame_any p q c d xs xs w hp hq hx hx).mono ?_
  rintro e w' ⟨he, hw⟩
  exact ⟨by rw [he, sameB_iff.2 rfl], hw⟩

/-- What was put is got. -/
theorem get_be (p : Option Addr) (c k : Nat) (n : Int) (w : World) (hb : Bin w p (be k n)) (h1 : 1 ≤ k) (h8 : k ≤ 8) (hz : n / 256 ^ k = 0) :
    Calls Try.prog 15 #[.slice p k c] w fun e w' => e = .returned (.tuple #[.int .u64 n, .int .i64 0]) ∧ w = w' := by
  have h := get_any p c (be k n) w hb (be_oct _ _) (by rw [be_length]; exact h1) (by rw [be_length]; exact h8)
  rw [be_length, num_be] at h
  have e : n % 256 ^ k = n := by
    have := Int.emod_add_mul_ediv n (256 ^ k)
    rw [hz] at this
    omega
  rw [e] at h
  exact h

/-- What the first half may answer. -/
inductive Half (n size : Int) (w : World) : Prop where
  | no (e1 : Int) (h : e1 = 2 ∨ e1 = 6) (hp : Calls Try.prog 11 #[.int .u64 n, .int .i64 size] w fun e w' => e = .returned (.tuple #[.slice none 0 0, .int .i64 e1]) ∧ Below w.heap.size w w') : Half n size w
  | yes (k : Nat) (hk : size = (k : Int)) (h1 : 1 ≤ k) (h8 : k ≤ 8) (hz : n / 256 ^ k = 0) : Half n size w

theorem half (n size : Int) (w : World) (hn : 0 ≤ n ∧ n ≤ 18446744073709551615) : Half n size w := by
  by_cases hs : size < 1 ∨ 8 < size
  · refine .no 2 (.inl rfl) ((put_no n size w hs).mono ?_)
    rintro e w' ⟨he, rfl⟩; exact ⟨he, Below.refl _ _⟩
  · obtain ⟨k, rfl⟩ : ∃ k : Nat, size = (k : Int) := ⟨size.toNat, by omega⟩
    by_cases hz : n / 256 ^ k = 0
    · exact .yes k rfl (by omega) (by omega) hz
    · refine .no 6 (.inr rfl) ((put_any n k w (by omega) (by omega) hn).mono ?_)
      rintro e w' ⟨ha, _, hb⟩; exact ⟨ha hz, hb⟩
theorem back_no_ok (n size : Int) (a : Option Addr) (c : Nat) (xs : List Int) (w : World) (e1 : Int) (he : e1 = 2 ∨ e1 = 6) (HP : Hid (Calls Try.prog 11 #[.int .u64 n, .int .i64 size] w fun e w' => e = .returned (.tuple #[.slice none 0 0, .int .i64 e1]) ∧ Below w.heap.size w w')) (HB : Hid (Bin w a xs)) (HO : Hid (Oct xs)) (hl1 : 1 ≤ xs.length) (hl8 : xs.length ≤ 8) (HM : Hid ((0 ≤ num xs ∧ num xs ≤ 18446744073709551615) ∧ num xs / 256 ^ xs.length = 0)) :
    Calls Try.prog 8 #[.int .u64 n, .int .i64 size, .slice a xs.length c] w fun e w' => e = .returned (.bool true) ∧ Below w.heap.size w w' := by
  rcases he with rfl | rfl
  all_goals
    go_enter Try.func8, Try.ntmps8
    go_wp2_with fail
    refine (HP.out).mono ?_
    rintro e w1 ⟨rfl, hb1⟩
    go_wp2_with fail
    refine (get_any a c xs _ (HB.out.below hb1) HO.out hl1 hl8).mono ?_
    rintro e w2 ⟨rfl, rfl⟩
    go_wp2_with fail
    refine (put_any (num xs) xs.length _ hl1 hl8 HM.out.1).mono ?_
    rintro e w2 ⟨_, ha, hb2⟩
    obtain ⟨v, rfl, hown⟩ := ha HM.out.2
    rw [be_num xs HO.out] at hown
    obtain ⟨q, c2, rfl, _, hbin⟩ := hown.bin
    have HC := hid hbin
    clear ha hown hbin
    go_wp2_with fail
    refine (lawSame_yes q a c2 c xs.length xs _ rfl HC.out ((HB.out.below hb1).below hb2) HO.out).mono ?_
    rintro e w3 ⟨rfl, rfl⟩
    go_wp2_with fail
    refine (known_any _).mono ?_
    rintro e w3 ⟨rfl, hb3⟩
    go_wp2
    go_ret
    exact ⟨rfl, (hb1.trans (hb2.mono hb1.size)).trans (hb3.mono (Nat.le_trans hb1.size hb2.size))⟩

theorem back_no_short (n size : Int) (a : Option Addr) (c : Nat) (xs : List Int) (w : World) (e1 : Int) (he : e1 = 2 ∨ e1 = 6) (HP : Hid (Calls Try.prog 11 #[.int .u64 n, .int .i64 size] w fun e w' => e = .returned (.tuple #[.slice none 0 0, .int .i64 e1]) ∧ Below w.heap.size w w')) (hl : xs.length < 1) :
    Calls Try.prog 8 #[.int .u64 n, .int .i64 size, .slice a xs.length c] w fun e w' => e = .returned (.bool true) ∧ Below w.heap.size w w' := by
  rcases he with rfl | rfl
  all_goals
    go_enter Try.func8, Try.ntmps8
    go_wp2_with fail
    refine (HP.out).mono ?_
    rintro e w1 ⟨rfl, hb1⟩
    go_wp2_with fail
    refine (get_no a c xs.length _ (.inl hl)).mono ?_
    rintro e w2 ⟨rfl, rfl⟩
    go_wp2_with fail
    refine (known_any _).mono ?_
    rintro e w3 ⟨rfl, hb3⟩
    go_wp2
    go_ret
    exact ⟨rfl, hb1.trans (hb3.mono hb1.size)⟩

theorem back_no_long (n size : Int) (a : Option Addr) (c : Nat) (xs : List Int) (w : World) (e1 : Int) (he : e1 = 2 ∨ e1 = 6) (HP : Hid (Calls Try.prog 11 #[.int .u64 n, .int .i64 size] w fun e w' => e = .returned (.tuple #[.slice none 0 0, .int .i64 e1]) ∧ Below w.heap.size w w')) (hl : 8 < xs.length) :
    Calls Try.prog 8 #[.int .u64 n, .int .i64 size, .slice a xs.length c] w fun e w' => e = .returned (.bool true) ∧ Below w.heap.size w w' := by
  rcases he with rfl | rfl
  all_goals
    go_enter Try.func8, Try.ntmps8
    go_wp2_with fail
    refine (HP.out).mono ?_
    rintro e w1 ⟨rfl, hb1⟩
    go_wp2_with fail
    refine (get_no a c xs.length _ (.inr hl)).mono ?_
    rintro e w2 ⟨rfl, rfl⟩
    go_wp2_with fail
    refine (known_any _).mono ?_
    rintro e w3 ⟨rfl, hb3⟩
    go_wp2
    go_ret
    exact ⟨ret_bool (by rw [decide_eq_true (show (8 : Int) < (xs.length : Int) from by omega), Bool.or_true]), hb1.trans (hb3.mono hb1.size)⟩

theorem back_yes_ok (n : Int) (a : Option Addr) (c : Nat) (xs : List Int) (w : World) (k : Nat) (hk1 : 1 ≤ k) (hk8 : k ≤ 8) (HZ : Hid (n / 256 ^ k = 0)) (HN : Hid (0 ≤ n ∧ n ≤ 18446744073709551615)) (HB : Hid (Bin w a xs)) (HO : Hid (Oct xs)) (hl1 : 1 ≤ xs.length) (hl8 : xs.length ≤ 8) (HM : Hid ((0 ≤ num xs ∧ num xs ≤ 18446744073709551615) ∧ num xs / 256 ^ xs.length = 0)) :
    Calls Try.prog 8 #[.int .u64 n, .int .i64 (k : Int), .slice a xs.length c] w fun e w' => e = .returned (.bool true) ∧ Below w.heap.size w w' := by
  go_enter Try.func8, Try.ntmps8
  go_wp2_with fail
  refine (put_any n k _ hk1 hk8 HN.out).mono ?_
  rintro e w1 ⟨_, ha, hb1⟩
  obtain ⟨v, rfl, hown⟩ := ha HZ.out
  obtain ⟨p, c1, rfl, _, hbin⟩ := hown.bin
  have HA := hid hbin
  clear ha hown hbin
  go_wp2_with fail
  refine (get_be p c1 k n _ HA.out hk1 hk8 HZ.out).mono ?_
  rintro e w2 ⟨rfl, rfl⟩
  go_wp2_with fail
  refine (get_any a c xs _ (HB.out.below hb1) HO.out hl1 hl8).mono ?_
  rintro e w2 ⟨rfl, rfl⟩
  go_wp2_with fail
  refine (put_any (num xs) xs.length _ hl1 hl8 HM.out.1).mono ?_
  rintro e w2 ⟨_, ha, hb2⟩
  obtain ⟨v, rfl, hown⟩ := ha HM.out.2
  rw [be_num xs HO.out] at hown
  obtain ⟨q, c2, rfl, _, hbin⟩ := hown.bin
  have HC := hid hbin
  clear ha hown hbin
  go_wp2_with fail
  refine (lawSame_yes q a c2 c xs.length xs _ rfl HC.out ((HB.out.below hb1).below hb2) HO.out).mono ?_
  rintro e w3 ⟨rfl, rfl⟩
  go_wp2_with fail
  refine (known_any _).mono ?_
  rintro e w3 ⟨rfl, hb3⟩
  go_wp2
  go_ret
  exact ⟨rfl, (hb1.trans (hb2.mono hb1.size)).trans (hb3.mono (Nat.le_trans hb1.size hb2.size))⟩

theorem back_yes_short (n : Int) (a : Option Addr) (c : Nat) (xs : List Int) (w : World) (k : Nat) (hk1 : 1 ≤ k) (hk8 : k ≤ 8) (HZ : Hid (n / 256 ^ k = 0)) (HN : Hid (0 ≤ n ∧ n ≤ 18446744073709551615)) (hl : xs.length < 1) :
    Calls Try.prog 8 #[.int .u64 n, .int .i64 (k : Int), .slice a xs.length c] w fun e w' => e = .returned (.bool true) ∧ Below w.heap.size w w' := by
  go_enter Try.func8, Try.ntmps8
  go_wp2_with fail
  refine (put_any n k _ hk1 hk8 HN.out).mono ?_
  rintro e w1 ⟨_, ha, hb1⟩
  obtain ⟨v, rfl, hown⟩ := ha HZ.out
  obtain ⟨p, c1, rfl, _, hbin⟩ := hown.bin
  have HA := hid hbin
  clear ha hown hbin
  go_wp2_with fail
  refine (get_be p c1 k n _ HA.out hk1 hk8 HZ.out).mono ?_
  rintro e w2 ⟨rfl, rfl⟩
  go_wp2_with fail
  refine (get_no a c xs.length _ (.inl hl)).mono ?_
  rintro e w2 ⟨rfl, rfl⟩
  go_wp2_with fail
  refine (known_any _).mono ?_
  rintro e w3 ⟨rfl, hb3⟩
  go_wp2
  go_ret
  exact ⟨rfl, hb1.trans (hb3.mono hb1.size)⟩

theorem back_yes_long (n : Int) (a : Option Addr) (c : Nat) (xs : List Int) (w : World) (k : Nat) (hk1 : 1 ≤ k) (hk8 : k ≤ 8) (HZ : Hid (n / 256 ^ k = 0)) (HN : Hid (0 ≤ n ∧ n ≤ 18446744073709551615)) (hl : 8 < xs.length) :
    Calls Try.prog 8 #[.int .u64 n, .int .i64 (k : Int), .slice a xs.length c] w fun e w' => e = .returned (.bool true) ∧ Below w.heap.size w w' := by
  go_enter Try.func8, Try.ntmps8
  go_wp2_with fail
  refine (put_any n k _ hk1 hk8 HN.out).mono ?_
  rintro e w1 ⟨_, ha, hb1⟩
  obtain ⟨v, rfl, hown⟩ := ha HZ.out
  obtain ⟨p, c1, rfl, _, hbin⟩ := hown.bin
  have HA := hid hbin
  clear ha hown hbin
  go_wp2_with fail
  refine (get_be p c1 k n _ HA.out hk1 hk8 HZ.out).mono ?_
  rintro e w2 ⟨rfl, rfl⟩
  go_wp2_with fail
  refine (get_no a c xs.length _ (.inr hl)).mono ?_
  rintro e w2 ⟨rfl, rfl⟩
  go_wp2_with fail
  refine (known_any _).mono ?_
  rintro e w3 ⟨rfl, hb3⟩
  go_wp2
  go_ret
  exact ⟨ret_bool (by rw [decide_eq_true (show (8 : Int) < (xs.length : Int) from by omega), Bool.or_true]), hb1.trans (hb3.mono hb1.size)⟩

theorem back_walk (n size : Int) (a : Option Addr) (c : Nat) (xs : List Int) (w : World) (h0 : (Lit.int .u64 n).wf = true) (h1 : (Lit.int .i64 size).wf = true) (hb : Bin w a xs) (ho : Oct xs) (hr : xs.length ≤ 140737488351232) :
    Calls Try.prog 8 #[.int .u64 n, .int .i64 size, .slice a xs.length c] w fun e w' => e = .returned (.bool true) ∧ Below w.heap.size w w' := by
  have hn := u64_of_wf h0
  have hm : xs.length ≤ 8 → 0 ≤ num xs ∧ num xs ≤ 18446744073709551615 := fun h => by
    have hb := num_bound xs ho
    have hp : (256 : Int) ^ xs.length ≤ 18446744073709551616 := by
      rcases (show xs.length ≤ 7 ∨ xs.length = 8 from by omega) with h | h
      · have := pow256 _ h; omega
      · rw [h]; decide
    omega
  rcases half n size w hn with ⟨e1, he, hp⟩ | ⟨k, rfl, hk1, hk8, hz⟩
  · by_cases hl : xs.length < 1
    · exact back_no_short n size a c xs w e1 he hp hl
    · by_cases hl8 : 8 < xs.length
      · exact back_no_long n size a c xs w e1 he hp hl8
      · exact back_no_ok n size a c xs w e1 he hp hb ho (by omega) (by omega) ⟨hm (by omega), num_small xs ho⟩
  · by_cases hl : xs.length < 1
    · exact back_yes_short n a c xs w k hk1 hk8 hz hn hl
    · by_cases hl8 : 8 < xs.length
      · exact back_yes_long n a c xs w k hk1 hk8 hz hn hl8
      · exact back_yes_ok n a c xs w k hk1 hk8 hz hn hb ho (by omega) (by omega) ⟨hm (by omega), num_small xs ho⟩
end Go.Proofs.Ytojbnobpdoigaaa
