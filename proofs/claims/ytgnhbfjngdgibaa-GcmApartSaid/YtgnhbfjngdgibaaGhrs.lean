/-
  The document's Full and Add.
-/
import Derived.Test.YtgnhbfjngdgibaaKa
import Derived.Test.YtgnhbfjngdgibaaKh
namespace Go.Proofs.Ytgnhbfjngdgibaa
open Go.RowKit
set_option linter.unusedVariables false
set_option linter.unusedSimpArgs false

/-- How long a slice is. -/
def lenS : Value → Nat
  | .slice _ n _ => n
  | _ => 0

set_option maxHeartbeats 2000000 in
set_option maxRecDepth 100000 in
theorem refFull_of (p : Option Addr) (cap n : Nat) (xs : List Int) (w : World) (hn : xs.length = n) (hp : Bin w p xs) (hm : n ≤ 140737488351232) :
    Calls Try.prog 66 #[.slice p n cap] w fun e w' => ∃ p' cap', e = .returned (.slice p' (n + fillN n) cap') ∧ Own w.heap.size w' (.slice p' (n + fillN n) cap') (n + fillN n) (full xs) ∧ Below w.heap.size w w' := by
  obtain ⟨i0, hi, hz0, hz1, hz2⟩ := info_parts Try.infoU8
  have hcp := copy_any p cap xs w hp (by omega)
  have hf : full xs = xs ++ List.replicate (fillN n) 0 := by rw [← hn]; rfl
  rw [hf]
  rw [hn] at hcp
  have hfn : fillN n < 16 := Nat.mod_lt _ (by decide)
  have HFN := hid (show (n + fillN n) % 16 = 0 from by unfold fillN; omega)
  have HMN := hid (show ∀ k, k < fillN n → (n + k) % 16 ≠ 0 from fun k hk => by unfold fillN at hk; omega)
  generalize fillN n = F at hfn HFN HMN ⊢
  clear hp hf
  go_enter Try.func66, Try.ntmps66
  go_wp2_with fail
  refine hcp.mono ?_
  rintro e w1 ⟨g0, c0, rfl, hO, hb1⟩
  have HO := hid hO
  clear hO hcp
  go_wp2_with fail
  go_loopw [3] (fun v wr => ∃ (k L : Nat) (p' : Option Addr) (cap' : Nat), k ≤ F ∧ Hid (L = n + k) ∧ v = .slice p' L cap' ∧ Own w.heap.size wr (.slice p' L cap') L (xs ++ List.replicate k 0) ∧ Below w.heap.size w wr) (fun v _ => n + F - lenS v)
  case atStart => exact ⟨0, n, _, _, Nat.zero_le _, rfl, rfl, by simpa using HO.out, hb1⟩
  case round =>
    clear HO hb1
    obtain ⟨k, L, p', cap', hk, hL, rfl, hO, hB⟩ := hrel
    have HO := hid hO
    clear hO
    have hLb : L ≤ 140737488351300 := by have := hL.out; omega
    by_cases hlt : k < F
    · have e1 : ((L : Int) % 16 != 0) = true := by
        have h1 := HMN.out k hlt
        rw [← hL.out] at h1
        rw [bne_iff_ne]
        omega
      have hsz := hB.size
      go_wp2_with (at_builtin; refine wpList_append_bin rfl (.tmp 10) (.tmp 11) 22 rfl i0 Try.underlying22 hi hz0 hz1 hz2 w.heap.size _ L _ rfl (by exact World.ownsRow.alloc HO.out _) (some ⟨wr.heap.size, 0, none⟩) 1 1 [0] rfl rfl (fun _ => ⟨wr.heap.size, 0, rfl, fun j hj => (by obtain rfl : j = 0 := (by simpa using hj); simp)⟩) (by omega) (by simp; omega) ?_; intro p2 cap2 w3 hown2 hgrow2 _)
      have HN := hid (show Own w.heap.size w3 (.slice p2 (L + 1) cap2) (L + 1) (xs ++ List.replicate (k + 1) 0) from by
        rw [List.replicate_succ', ← List.append_assoc]; exact hown2)
      have hb3 : Below w.heap.size w w3 := (hB.alloc hsz _).grown hgrow2 (by simp; omega) (fun q hq => (World.ownsRow.lt HO.out q hq).1)
      clear hown2 hgrow2
      go_wp2
      go_roundw
      case rel => exact ⟨k + 1, L + 1, p2, cap2, by omega, (by have := hL.out; show L + 1 = _; omega), rfl, HN.out, hb3⟩
      case measure => have := hL.out; simp [lenS]; omega
    · obtain rfl : k = F := by omega
      have e1 : ((L : Int) % 16 != 0) = false := by
        have h1 := HFN.out
        rw [← hL.out] at h1
        rw [bne_eq_false_iff_eq]
        omega
      go_wp2_with fail
      go_ret
      have h2 := hL.out
      subst h2
      exact ⟨p', cap', rfl, HO.out, hB⟩
end Go.Proofs.Ytgnhbfjngdgibaa
