/-
  The program's pack: text.
-/
import Derived.Test.YtphmdjhmgmjmgaaPru
import Derived.Test.YtphmdjhmgmjmgaaPpk
import Derived.Test.YtphmdjhmgmjmgaaPgt
namespace Go.Proofs.Ytphmdjhmgmjmgaa
open Go.RowKit
set_option linter.unusedVariables false
set_option linter.unusedSimpArgs false

/-- The text that ys begin with. -/
def txt (ys : List Int) (most : Int) : List Int × Nat × Int :=
  if txtE (tkn ys 0 0) most ys.length ≠ 0 then ([], 0, txtE (tkn ys 0 0) most ys.length) else ((ys.drop (tkn ys 0 0).2.1).take (tkn ys 0 0).1, (tkn ys 0 0).2.1 + (tkn ys 0 0).1, 0)
theorem rdText_txt (xs : List Int) (most : Int) (at0 : Nat) : rdText xs most at0 0 = ((txt (xs.drop at0) most).1, at0 + (txt (xs.drop at0) most).2.1, (txt (xs.drop at0) most).2.2) := by
  unfold rdText txt
  rw [if_neg (by decide), List.length_drop]
  by_cases h : txtE (tkn (xs.drop at0) 0 0) most (xs.length - at0) ≠ 0
  · rw [if_pos h, if_pos h]; rfl
  · rw [if_neg h, if_neg h]
    simp only [List.drop_drop]
    rw [Nat.add_assoc]

theorem bin_takeQ {w : World} {q : Option Addr} {ys : List Int} (h : Bin w q ys) (m : Nat) : Bin w q (ys.take m) := fun hn => by
  rw [List.length_take] at hn
  obtain ⟨b, o, e, hc⟩ := h (by omega)
  refine ⟨b, o, e, fun i hi => ?_⟩
  rw [List.length_take] at hi
  rw [hc i (by omega), List.getD_eq_getElem?_getD, List.getD_eq_getElem?_getD, List.getElem?_take, if_pos (by omega)]

set_option maxHeartbeats 4000000 in
set_option maxRecDepth 100000 in
theorem text_of (p : Option Addr) (c n : Nat) (most : Int) (xs : List Int) (w : World) (hp : Bin w p xs) (ho : Oct xs) (hl : xs.length = n) (hc : n ≤ c) (hm : n ≤ 140737488351232) (hmo : (Lit.int .i64 most).wf = true) (hsp : (p = none ∧ c = 0) ∨ ∃ b o, p = some ⟨b, o, none⟩) :
    Calls Try.prog 31 #[.slice p n c, .int .i64 most] w fun e w' => ∃ v, e = .returned (.tuple #[v, .int .i64 ((txt xs most).2.1 : Nat), .int .i64 (txt xs most).2.2]) ∧ Own w.heap.size w' v (txt xs most).1.length (txt xs most).1 ∧ Below w.heap.size w w' := by
  have hmost := i64_of_wf hmo
  have hnum := number_of p c n xs w hp ho hl hm
  have hk := tkn_k xs 0 0 (by omega)
  have hf := tkn_fault xs 0 0
  have hN := fun (h : (tkn xs 0 0).2.2 = 0) => numL_tkn xs 0 0 (tkn xs 0 0).1 (tkn xs 0 0).2.1 ho (by omega) (by rw [← h])
  have h64 : (tkn xs 0 0).2.2 = 0 → (tkn xs 0 0).1 < 2 ^ 64 ∧ 1 ≤ (tkn xs 0 0).2.1 ∧ (tkn xs 0 0).2.1 ≤ n := fun h => by
    obtain ⟨m, h1, h2, _, h4, _, h6⟩ := hN h
    have := numL_pos m
    omega
  clear hN hk hf
  obtain ⟨T, hT⟩ : ∃ T, Hid (T = tkn xs 0 0) := ⟨_, rfl⟩
  unfold txt
  rw [← hT.out] at hnum h64 ⊢
  obtain ⟨t0, t1, t2⟩ := T
  simp only at hnum h64 ⊢
  unfold txtE
  simp only
  by_cases h2 : t2 = 0
  · obtain ⟨h64, h1t, htn⟩ := h64 h2
    have hn0 : ¬ t2 ≠ 0 := fun h => h h2
    rw [if_neg hn0]
    subst h2
    clear hn0
    obtain ⟨M, hM⟩ : ∃ M : Nat, (M : Int) = if 0 > most then 0 else most := ⟨(if 0 > most then 0 else most).toNat, by split <;> omega⟩
    have hM63 : M < 2 ^ 63 := by split at hM <;> omega
    have hmax : ∀ wx, (Builtin.max_ #[3, 3] 3 #[.int .i64 most, .int .i64 0]).run Try.prog wx = .ok (.int .i64 (M : Int)) wx := fun wx => by rw [hM]; simp [Builtin.max_, Builtin.max2]
    have hAM : (if most ≤ 0 then 0 < t0 else most < (t0 : Int)) ↔ (M : Int) < (t0 : Int) := by
      split at hM <;> split <;> omega
    have iM : IntKind.u64.wrap (M : Int) = (M : Int) := u64_wrap (by omega)
    by_cases hA : (M : Int) < (t0 : Int)
    · simp only [if_pos (hAM.2 hA)]
      rw [if_pos (by decide)]
      clear hM hAM hT hmo hmost
      go_enter Try.func31, Try.ntmps31
      go_wp2_with fail
      refine hnum.mono ?_
      rintro e w1 ⟨rfl, rfl⟩
      go_wp2
      go_ret3
      exact ⟨_, rfl, Own.nil _ _, Below.refl _ _⟩
    · simp only [if_neg (fun h => hA (hAM.1 h))]
      obtain ⟨q, hq, hqb⟩ := drop_slice p n c t1 xs htn hc hl hsp
      have HQB := hid hqb
      have iR : IntKind.u64.wrap ((n - t1 : Nat) : Int) = ((n - t1 : Nat) : Int) := u64_wrap (by omega)
      rw [hl]
      obtain ⟨R, hR⟩ : ∃ R, Hid (R = n - t1) := ⟨_, rfl⟩
      obtain ⟨C, hC⟩ : ∃ C, Hid (C = c - t1) := ⟨_, rfl⟩
      rw [← hR.out] at iR hq ⊢
      rw [← hC.out] at hq
      have hRC : R ≤ C := by have := hR.out; have := hC.out; omega
      have HLX : Hid ((xs.drop t1).length = R) := hid (by rw [List.length_drop, hl]; exact hR.out.symm)
      have HOX := hid (ho.drop t1)
      have hRm : R ≤ 140737488351232 := by have := hR.out; omega
      have HX := hid (And.intro hl htn)
      clear hqb hM hAM hT hmo hmost hl
      by_cases hB : R < t0
      · rw [if_pos hB, if_pos (by decide)]
        have i1 : (R : Int) < (t0 : Int) := by omega
        go_enter Try.func31, Try.ntmps31
        go_wp2_with fail
        refine hnum.mono ?_
        rintro e w1 ⟨rfl, rfl⟩
        clear hnum
        go_wp2
        go_ret3
        exact ⟨_, rfl, Own.nil _ _, Below.refl _ _⟩
      · rw [if_neg hB, if_neg (by decide)]
        have i1 : ¬ (R : Int) < (t0 : Int) := by omega
        have i2 : (t0 : Int) ≤ (C : Int) := by omega
        have i3 : IntKind.i64.wrap (t0 : Int) = (t0 : Int) := by simp [IntKind.wrap, IntKind.signed, IntKind.bits]; omega
        have i4 : IntKind.i64.wrap ((t1 : Int) + (t0 : Int)) = (t1 : Int) + (t0 : Int) := i64_sum t1 t0 (by have := hR.out; omega)
        obtain ⟨ys, hys⟩ : ∃ l, Hid (l = (xs.drop t1).take t0) := ⟨_, rfl⟩
        rw [← hys.out]
        have hyl : Hid (ys.length = t0) := hid (by rw [hys.out, List.length_take, HLX.out]; omega)
        have hyb : Hid (Bin w q ys) := hid (by rw [hys.out]; exact bin_takeQ (HQB.out w hp) t0)
        have hcl := clone_of q C t0 ys w hyb.out hyl.out (by omega)
        rw [hyl.out]
        clear h64 HX
        go_enter Try.func31, Try.ntmps31
        go_wp2_with fail
        refine hnum.mono ?_
        rintro e w1 ⟨rfl, rfl⟩
        clear hnum
        go_wp2_with fail
        refine hcl.mono ?_
        rintro e w1 ⟨v, rfl, hO, hB⟩
        have HO := hid hO
        clear hcl hO
        go_wp2
        go_ret3
        exact ⟨_, rfl, HO.out, hB⟩
  · have e : ∀ m : Nat, (if t2 ≠ 0 then t2 else if (if most ≤ 0 then 0 < t0 else most < (t0 : Int)) then 3 else if m < t0 then 4 else 0) = t2 := fun m => if_pos h2
    simp only [e]
    rw [if_pos h2]
    go_enter Try.func31, Try.ntmps31
    go_wp2_with fail
    refine hnum.mono ?_
    rintro e w1 ⟨rfl, rfl⟩
    go_wp2
    go_ret3
    exact ⟨_, rfl, Own.nil _ _, Below.refl _ _⟩
end Go.Proofs.Ytphmdjhmgmjmgaa
