/-
  The document's numbers in bytes: Num, Taken.
-/
import Derived.Test.YtphmdjhmgmjmgaaPk
import Derived.Test.YtphmdjhmgmjmgaaKa
namespace Go.Proofs.Ytphmdjhmgmjmgaa
open Go.RowKit
set_option linter.unusedVariables false
set_option linter.unusedSimpArgs false

theorem wrap_u8 (n : Nat) (h : n < 256) : IntKind.u8.wrap ((n : Nat) : Int) = ((n : Nat) : Int) := by
  simp [IntKind.wrap, IntKind.signed, IntKind.bits]
  omega
/-- One byte in a new array is one's own slice. -/
theorem own_one (w : World) (x : Int) : Own w.heap.size (w.alloc (.cells #[.int .u8 x] 5)) (.slice (some ⟨w.heap.size, 0, none⟩) 1 1) 1 [x] :=
  ⟨rfl, .inr ⟨w.heap.size, 1, #[.int .u8 x], rfl, Nat.le_refl _, heap_alloc_new w _, Nat.le_refl _, by unfold maxLen; omega, rfl, rfl⟩⟩

set_option maxHeartbeats 2000000 in
set_option maxRecDepth 100000 in
theorem refNum_of : ∀ (n : Nat) (w : World), n < 2 ^ 64 →
    Calls Try.prog 11 #[.int .u64 (n : Nat)] w fun e w' => ∃ v, e = .returned v ∧ Own w.heap.size w' v (numL n).length (numL n) ∧ Below w.heap.size w w' := by
  intro n
  induction n using Nat.strongRecOn with
  | _ n ih =>
    intro w hn
    obtain ⟨i0, hi, hz0, hz1, hz2⟩ := info_parts Try.infoU8
    by_cases h : n < 128
    · have i1 : (n : Int) < 128 := by omega
      have i2 : IntKind.u8.wrap (n : Int) = (n : Int) := wrap_u8 n (by omega)
      have hO := hid (own_one w n)
      rw [numL_one h]
      clear ih
      go_enter Try.func11, Try.ntmps11
      go_wp2_with fail
      go_ret
      exact ⟨_, rfl, hO.out, (Below.refl _ _).alloc (Nat.le_refl _) _⟩
    · have i1 : ¬ (n : Int) < 128 := by omega
      have i2 : IntKind.u8.wrap ((n : Int) % 128) = (n : Int) % 128 := by have := wrap_u8 (n % 128) (by omega); simpa using this
      have i3 : IntKind.u8.wrap ((n : Int) % 128 + 128) = (n : Int) % 128 + 128 := by have := wrap_u8 (n % 128 + 128) (by omega); simpa using this
      rw [numL_more h, List.length_cons]
      have hO := hid (own_one w ((n % 128 + 128 : Nat) : Int))
      have hr := fun w' => ih (n / 128) (by omega) w' (by omega)
      have hl := numL_ten (n := n / 128) (by omega)
      obtain ⟨ys, hys⟩ : ∃ l, Hid (l = numL (n / 128)) := ⟨_, rfl⟩
      rw [← hys.out] at hr hl ⊢
      obtain ⟨m, hm⟩ : ∃ m, Hid (m = ys.length) := ⟨_, rfl⟩
      rw [← hm.out] at hr hl ⊢
      have HR := hid hr
      clear ih hr
      go_enter Try.func11, Try.ntmps11
      go_wp2_with fail
      refine (HR.out _).mono ?_
      rintro e w2 ⟨v, rfl, hv, hb⟩
      obtain ⟨p2, c2, rfl, _, vb⟩ := hv.bin
      have hb' : Below w.heap.size w w2 := ((Below.refl _ _).alloc (Nat.le_refl _) _).trans (hb.mono (by simp))
      have HO2 := hid (show Own w.heap.size w2 (.slice (some ⟨w.heap.size, 0, none⟩) 1 1) 1 [((n % 128 + 128 : Nat) : Int)] from hO.out.below hb)
      have hs2 := hb'.size
      clear hv hb hO
      go_wp2_with (at_builtin; refine wpList_append_bin rfl (.tmp 12) (.tmp 15) 24 rfl i0 Try.underlying24 hi hz0 hz1 hz2 w.heap.size _ 1 _ rfl (by exact HO2.out) p2 m c2 ys rfl hm.out.symm (by exact vb) (by omega) hs2 ?_; intro p3 c3 w3 hO3 hg3 _)
      go_ret
      refine ⟨_, rfl, ?_, hb'.grown hg3 hs2 (fun q hq => (World.ownsRow.lt HO2.out q hq).1)⟩
      have := hO3
      rw [Nat.add_comm m 1]
      rw [Nat.add_comm] at this
      first | exact this | exact hO3
end Go.Proofs.Ytphmdjhmgmjmgaa
