/-
  The program's Crypt where it refuses.
-/
import Derived.Test.YtgnhbfjngdgibaaCcr
import Derived.Test.YtgnhbfjngdgibaaCr
namespace Go.Proofs.Ytgnhbfjngdgibaa
open Go.RowKit Go.Shelf
set_option linter.unusedVariables false
set_option linter.unusedSimpArgs false
attribute [local go_sem] Oper.semAt_some

theorem mayB_no {n : Nat} (h : mayB n = false) : n ≠ 16 ∧ n ≠ 32 := by
  unfold mayB at h
  constructor <;> (rintro rfl; simp at h)
theorem mayB_yes {n : Nat} (h : mayB n = true) : n = 16 ∨ n = 32 := by
  unfold mayB at h
  simpa using h

set_option maxHeartbeats 4000000 in
set_option maxRecDepth 100000 in
theorem crypt_no (pk pn pt : Option Addr) (ck cn ct nk nn nt : Nat) (ks ns : List Int) (w : World) (hkp : Bin w pk ks) (hks : Oct ks) (hkl : ks.length = nk) (hkc : nk ≤ ck) (hnp : Bin w pn ns) (hns : Oct ns) (hnl : ns.length = nn) (hno : opensN nk nn nt ≠ 0) :
    Calls Try.prog 30 #[.slice pk nk ck, .slice pn nn cn, .slice pt nt ct] w fun e w' => e = .returned (.tuple #[.slice none 0 0, .int .i64 (opensN nk nn nt)]) ∧ Below w.heap.size w w' := by
  have hzb := Try.zeroBlock
  by_cases h1 : mayB nk = false
  · have hz : opensN nk nn nt = 2 := by unfold opensN; rw [if_pos (.inl h1)]
    rw [hz]
    obtain ⟨n1, n2⟩ := mayB_no h1
    go_enter Try.func30, Try.ntmps30
    go_wp2_with fail
    refine (new_no pk ck nk w n1 n2).mono ?_
    rintro e w1 ⟨rfl, rfl⟩
    go_wp2_with fail
    go_ret2
    exact ⟨rfl, Below.refl _ _⟩
  · have h1' : mayB nk = true := by simpa using h1
    have hnew := new_new pk ck nk ks w hkp hks hkl hkc (mayB_yes h1')
    by_cases h2 : nn = 12
    · have hlt : 65536 < nt := by
        unfold opensN at hno
        rw [if_neg (by simp [h1', h2])] at hno
        by_cases h : 65536 < nt
        · exact h
        · rw [if_neg h] at hno; exact absurd rfl hno
      have hz : opensN nk nn nt = 3 := by unfold opensN; rw [if_neg (by simp [h1', h2]), if_pos hlt]
      have hltI : (65536 : Int) < (nt : Int) := by omega
      rw [hz]
      subst h2
      have HFIRST := hid (fun w' hp => first_of pn cn ns w' hp hns hnl)
      clear hz hno hlt
      go_enter Try.func30, Try.ntmps30
      go_wp2_with fail
      refine hnew.mono ?_
      rintro e w1 ⟨c, kb, r, F, rfl, hC, hrF, hr, oF, hb1, _, _⟩
      clear hnew
      go_wp2_with fail
      refine (HFIRST.out w1 (hnp.below hb1)).mono ?_
      rintro e w2 ⟨rfl, hb2⟩
      have hB2 := hb1.trans (hb2.mono hb1.size)
      have hn2 := arr_new w2 16 (fun _ => 0) 44
      have hB3 := hid (below_setCells (vals 16 (frs ns)) 0 (hB2.alloc hB2.size (.cells (vals 16 fun _ => 0).toArray 44)) hB2.size)
      clear hC hrF hb1 hb2 hB2 HFIRST
      go_wp2_with (refine wpList_store_arr rfl 44 _ _ rfl w2.heap.size 16 (frs ns) rfl rfl (fun _ => 0) ?_ Try.sizeBlock ?_; exact hn2)
      go_ret2
      exact ⟨rfl, hB3.out⟩
    · have hz : opensN nk nn nt = 2 := by unfold opensN; rw [if_pos (.inr h2)]
      rw [hz]
      clear hz hno
      go_enter Try.func30, Try.ntmps30
      go_wp2_with fail
      refine hnew.mono ?_
      rintro e w1 ⟨c, kb, r, F, rfl, hC, hrF, hr, oF, hb1, _, _⟩
      clear hnew
      go_wp2_with fail
      refine (first_no pn cn nn w1 h2).mono ?_
      rintro e w2 ⟨rfl, hb2⟩
      have hB2 := hb1.trans (hb2.mono hb1.size)
      have hn2 := arr_new w2 16 (fun _ => 0) 44
      have hB3 := hid (below_setCells (vals 16 fun _ => 0) 0 (hB2.alloc hB2.size (.cells (vals 16 fun _ => 0).toArray 44)) hB2.size)
      clear hC hrF hb1 hb2 hB2
      go_wp2_with (refine wpList_store_arr rfl 44 _ _ rfl w2.heap.size 16 (fun _ => 0) rfl rfl (fun _ => 0) ?_ Try.sizeBlock ?_; exact hn2)
      go_ret2
      exact ⟨rfl, hB3.out⟩
end Go.Proofs.Ytgnhbfjngdgibaa
