/-
  The document's reader: Num.
-/
import Derived.Test.YtphmdjhmgmjmgaaPrd
namespace Go.Proofs.Ytphmdjhmgmjmgaa
open Go.RowKit
set_option linter.unusedVariables false
set_option linter.unusedSimpArgs false

/-- What Num does. -/
def rdNum (xs : List Int) (at0 : Nat) (f : Int) : Nat × Nat × Int := if f = 0 then ((tkn (xs.drop at0) 0 0).1, at0 + (tkn (xs.drop at0) 0 0).2.1, (tkn (xs.drop at0) 0 0).2.2) else (0, at0, f)

theorem tkn_k : ∀ (xs : List Int) (i a : Nat), i ≤ 9 → (tkn xs i a).2.1 ≤ i + xs.length := by
  intro xs
  induction xs with
  | nil => intro i a _; exact Nat.zero_le _
  | cons x r ih =>
    intro i a hi
    rw [tkn]
    by_cases h1 : i = 9 ∧ 1 < x
    · rw [if_pos h1]; exact Nat.zero_le _
    · rw [if_neg h1]
      by_cases h2 : 128 ≤ x
      · rw [if_pos h2]
        by_cases h9 : i = 9
        · exact absurd ⟨h9, by omega⟩ h1
        · have := ih (i + 1) (a + x.toNat % 128 * 128 ^ i) (by omega)
          rw [List.length_cons]
          omega
      · rw [if_neg h2]
        by_cases h3 : x = 0 ∧ 0 < i
        · rw [if_pos h3]; exact Nat.zero_le _
        · rw [if_neg h3, List.length_cons]
          show i + 1 ≤ _
          omega
theorem i64_sum (a b : Nat) (h : a + b ≤ 281474976710656) : IntKind.i64.wrap ((a : Int) + (b : Int)) = (a : Int) + (b : Int) := by
  simp [IntKind.wrap, IntKind.signed, IntKind.bits]
  omega
theorem bin_dropP {b o : Nat} {w : World} {xs : List Int} (h : Bin w (some ⟨b, o, none⟩) xs) (n : Nat) : Bin w (some ⟨b, o + n, none⟩) (xs.drop n) := fun hl => by
  rw [List.length_drop] at hl
  obtain ⟨b', o', e, hc⟩ := h (by omega)
  cases e
  refine ⟨b, o + n, rfl, fun i hi => ?_⟩
  rw [List.length_drop] at hi
  rw [Nat.add_assoc, hc (n + i) (by omega), List.getD_eq_getElem?_getD, List.getD_eq_getElem?_getD, List.getElem?_drop]

set_option maxHeartbeats 4000000 in
set_option maxRecDepth 100000 in
/-- Num, where a byte is left (or the reader has a fault). -/
theorem refRNum_in (g : Nat) (p : Option Addr) (n c at0 : Nat) (f : Int) (xs : List Int) (w : World) (hR : Rdr w g (.slice p n c) at0 f) (hp : Bin w p xs) (ho : Oct xs) (hl : xs.length = n) (hat : at0 ≤ n) (hm : n ≤ 140737488351232) (hnc : n ≤ c) (hin : f = 0 → at0 < n) :
    Calls Try.prog 18 #[.pointer (some ⟨g, 0, none⟩)] w fun e w' => e = .returned (.int .u64 ((rdNum xs at0 f).1 : Nat)) ∧ Rdr w' g (.slice p n c) (rdNum xs at0 f).2.1 (rdNum xs at0 f).2.2 ∧ w.grownBy w' (some g) := by
  have HRR := hid hR
  obtain ⟨c0, c1, c2, z1, z2⟩ := hR
  have hg0 := hid (gb_of (some g) (Below.refl w.heap.size w))
  by_cases hf : f = 0
  · have e : rdNum xs at0 f = ((tkn (xs.drop at0) 0 0).1, at0 + (tkn (xs.drop at0) 0 0).2.1, (tkn (xs.drop at0) 0 0).2.2) := by unfold rdNum; rw [if_pos hf]
    rw [e]
    clear e
    subst hf
    have hk : (tkn (xs.drop at0) 0 0).2.1 ≤ n := by
      have := tkn_k (xs.drop at0) 0 0 (by omega)
      rw [List.length_drop, hl] at this
      omega
    have htk := fun (p' : Option Addr) (c' : Nat) (w' : World) h => (refTaken_of p' c' (n - at0) (xs.drop at0) w' h (ho.drop at0) (by rw [List.length_drop, hl]) (by omega)).mono (fun e w2 h => (And.intro h.1 h.2.symm : _ ∧ w2 = w'))
    obtain ⟨T, hT⟩ : ∃ T, Hid (T = tkn (xs.drop at0) 0 0) := ⟨_, rfl⟩
    rw [← hT.out] at htk hk ⊢
    obtain ⟨t0, t1, t2⟩ := T
    simp only at htk hk ⊢
    have HTK := hid htk
    clear htk
    by_cases h : at0 < n
    · obtain ⟨b, o, rfl, hbl, hc⟩ := hp.at (by omega)
      have i7 : ¬ c = at0 := by omega
      have i6 : (at0 : Int) ≤ (n : Int) := by omega
      have i5 : (at0 : Int) ≤ (c : Int) := by omega
      have hbd : Hid (∀ w', Bin w' (some ⟨b, o, none⟩) xs → Bin w' (some ⟨b, o + at0, none⟩) (xs.drop at0)) := hid (fun w' h => bin_dropP h at0)
      clear hc
      go_enter Try.func18, Try.ntmps18
      go_upto_region 3 with fail
      go_quiet ((go_at_call 30; refine Calls.quiet_of_same (HTK.out _ _ _ (hbd.out _ hp))))
      rename_i nq
      have r1 : Rdr ((w.drewN nq).setCell ⟨g, 2, none⟩ (.int .i64 t2)) g (.slice (some ⟨b, o, none⟩) n c) at0 t2 := (HRR.out.drewN nq).set2 t2
      have r2 := r1.set1 (at0 + t1)
      have r3 := gb_cell (gb_cell (gb_drewN hg0.out nq) 2 (.int .i64 t2)) 1 (.int .i64 ((at0 + t1 : Nat) : Int))
      have q2 := hid r2
      have q3 := hid r3
      obtain ⟨d0, d1, d2, y1, y2⟩ := r1
      have hw : IntKind.i64.wrap ((at0 : Int) + (t1 : Int)) = (at0 : Int) + (t1 : Int) := i64_sum at0 t1 (by omega)
      clear r2 r3
      go_wp2
      go_ret
      exact ⟨rfl, q2.out, q3.out⟩
    · exact absurd (hin rfl) h
  · have e : rdNum xs at0 f = (0, at0, f) := by unfold rdNum; rw [if_neg hf]
    rw [e]
    clear e
    go_enter Try.func18, Try.ntmps18
    go_wp2
    go_ret
    exact ⟨rfl, HRR.out, hg0.out⟩
end Go.Proofs.Ytphmdjhmgmjmgaa
