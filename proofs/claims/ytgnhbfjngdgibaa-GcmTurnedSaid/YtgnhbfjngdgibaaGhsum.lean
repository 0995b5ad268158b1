/-
  The contract of the program's Sum.
-/
import Derived.Test.YtgnhbfjngdgibaaGhk
import Derived.Test.YtgnhbfjngdgibaaKa
namespace Go.Proofs.Ytgnhbfjngdgibaa
open Go.RowKit
set_option linter.unusedVariables false
set_option linter.unusedSimpArgs false

theorem element8 (n m : Nat) (w : World) (h1 : n ≤ 140737488351232) (h2 : m ≤ 140737488351232) :
    Calls Try.prog 56 #[.int .u64 (8 * (n : Int)), .int .u64 (8 * (m : Int))] w fun e w' => e = .returned (.agg (vals 16 (by16 (8 * n * 18446744073709551616 + 8 * m))).toArray) ∧ Below w.heap.size w w' := by
  have e := element_of (8 * n) (8 * m) w (by omega) (by omega)
  rw [show ((8 * n : Nat) : Int) = 8 * (n : Int) from by omega, show ((8 * m : Nat) : Int) = 8 * (m : Int) from by omega] at e
  exact e
theorem taken_at (s h : Nat → Nat) (p : Option Addr) (cap n : Nat) (xs : List Int) (w : World) (hn : xs.length = n) (os : ∀ j, s j < 256) (oh : ∀ j, h j < 256) (hp : Bin w p xs) (hx : Oct xs) (hm : n ≤ 140737488351232) (hcap : n ≤ cap) :
    Calls Try.prog 57 #[.agg (vals 16 s).toArray, .agg (vals 16 h).toArray, .slice p n cap] w fun e w' => e = .returned (.agg (vals 16 (by16 (tkL (el h) (el s) xs))).toArray) ∧ Below w.heap.size w w' := by
  subst hn
  exact taken_of s h p cap xs w os oh hp hx hm hcap

set_option maxHeartbeats 8000000 in
set_option maxRecDepth 100000 in
theorem sum_of (h : Nat → Nat) (p q : Option Addr) (c d n m : Nat) (xs ys : List Int) (w : World) (oh : ∀ j, h j < 256) (hn : xs.length = n) (hm : ys.length = m) (hp : Bin w p xs) (hq : Bin w q ys) (hx : Oct xs) (hy : Oct ys)
    (h1 : n ≤ 140737488351232) (h2 : m ≤ 140737488351232) (hc : n ≤ c) (hd : m ≤ d) :
    Calls Try.prog 40 #[.agg (vals 16 h).toArray, .slice p n c, .slice q m d] w fun e w' => e = .returned (.agg (vals 16 (by16 (sumN (el h) xs ys))).toArray) ∧ Below w.heap.size w w' := by
  have hzb := Try.zeroBlock
  obtain ⟨w1, hw1, hh1, hr1, hB, hsz⟩ := boxes2 w 16 h (fun _ => 0) 44 44
  have hS : Ars w [(w.heap.size, h), (w.heap.size + 1, fun _ => 0)] w1 := ⟨fun q hq => by
    simp at hq
    rcases hq with rfl | rfl
    · exact hh1
    · exact hr1, hB⟩
  obtain ⟨V, hV⟩ : ∃ V, Hid (V = sumN (el h) xs ys) := ⟨_, rfl⟩
  rw [← hV.out]
  have HP := hid hp
  have HQ := hid hq
  have HNM := hid (And.intro hn hm)
  clear hh1 hr1 hB hsz hp hq hn hm
  go_enter Try.func40, Try.ntmps40
  go_wp2_with fail
  rw [← hw1.out]
  refine (element8 n m _ h1 h2).mono ?_
  rintro e w2 ⟨rfl, hb2⟩
  obtain ⟨L, hL⟩ : ∃ L, Hid (L = by16 (8 * n * 18446744073709551616 + 8 * m)) := ⟨_, rfl⟩
  have oL : ∀ j, L j < 256 := by rw [hL.out]; exact by16_lt _
  have eL : el L = 8 * n * 18446744073709551616 + 8 * m := by
    rw [hL.out, el_by16]
    rw [show (2 : Nat) ^ 128 = 18446744073709551616 * 18446744073709551616 from rfl]
    omega
  rw [← hL.out]
  obtain ⟨hS', hz⟩ := (hS.grow hb2).new L 44
  have hl2 := (hS.grow hb2).lt (g := w.heap.size + 1) (x := fun _ => 0) (by simp)
  clear hS hb2
  go_upto_region 2 with (refine wpList_store_arr rfl 44 _ _ rfl w2.heap.size 16 L rfl rfl (fun _ => 0) ?_ Try.sizeBlock ?_; exact hz)
  clear hz
  obtain ⟨g7, hg7⟩ : ∃ g, Hid (g = w2.heap.size) := ⟨_, rfl⟩
  have hne7 : w.heap.size + 1 < g7 := by have := hg7.out; omega
  clear hl2
  rw [← hg7.out] at hS' ⊢
  generalize (w2.alloc (.cells (vals 16 fun _ => 0).toArray 44)).setCells g7 0 (vals 16 L) = v2 at hS' ⊢
  have hS := hS'
  clear hS' hg7
  go_wp2_with (refine wpList_load_arr rfl 44 _ rfl w.heap.size rfl 16 h ?_ _ Try.underlying44 rfl Try.sizeBlock ?_; exact hS.at (by simp))
  refine (taken_at (fun _ => 0) h p c n xs _ HNM.out.1 (fun _ => by decide) oh (HP.out.below hS.2) hx h1 hc).mono ?_
  rintro e w3 ⟨rfl, hb3⟩
  obtain ⟨s1, hs1⟩ : ∃ L, Hid (L = by16 (tkL (el h) (el fun _ => 0) xs)) := ⟨_, rfl⟩
  have o1 : ∀ j, s1 j < 256 := by rw [hs1.out]; exact by16_lt _
  have e1 : el s1 = tkL (el h) 0 xs := by rw [hs1.out, el_by16 (tkL_lt (el_lt oh) (by decide) _)]; rfl
  rw [← hs1.out]
  obtain ⟨hS', hz⟩ := (hS.grow hb3).new s1 44
  have hr3 := hS.2.size
  have hr4 := hb3.size
  have hl7 := (hS.grow hb3).lt (g := g7) (x := L) (by simp)
  have hlh := (hS.grow hb3).lt (g := w.heap.size) (x := h) (by simp)
  have hlr := (hS.grow hb3).lt (g := w.heap.size + 1) (x := fun _ => 0) (by simp)
  clear hS hb3
  go_upto_region 3 with (refine wpList_store_arr rfl 44 _ _ rfl w3.heap.size 16 s1 rfl rfl (fun _ => 0) ?_ Try.sizeBlock ?_; exact hz)
  clear hz
  obtain ⟨g8, hg8⟩ : ∃ g, Hid (g = w3.heap.size) := ⟨_, rfl⟩
  have hne : g7 ≠ g8 ∧ w.heap.size ≠ g8 ∧ w.heap.size + 1 ≠ g8 ∧ w.heap.size ≤ g8 := by have := hg8.out; omega
  rw [← hg8.out] at hS' ⊢
  generalize (w3.alloc (.cells (vals 16 fun _ => 0).toArray 44)).setCells g8 0 (vals 16 s1) = v3 at hS' ⊢
  have hS := hS'
  clear hS' hg8 hr3 hr4 hl7 hlh hlr
  go_wp2_with (first | (refine wpList_load_arr rfl 44 _ rfl g8 rfl 16 s1 ?_ _ Try.underlying44 rfl Try.sizeBlock ?_; exact hS.at (by simp)) | (refine wpList_load_arr rfl 44 _ rfl w.heap.size rfl 16 h ?_ _ Try.underlying44 rfl Try.sizeBlock ?_; exact hS.at (by simp)))
  refine (taken_at s1 h q d m ys _ HNM.out.2 o1 oh (HQ.out.below hS.2) hy h2 hd).mono ?_
  rintro e w4 ⟨rfl, hb4⟩
  obtain ⟨s2, hs2⟩ : ∃ L, Hid (L = by16 (tkL (el h) (el s1) ys)) := ⟨_, rfl⟩
  have o2 : ∀ j, s2 j < 256 := by rw [hs2.out]; exact by16_lt _
  have e2 : el s2 = tkL (el h) (tkL (el h) 0 xs) ys := by rw [hs2.out, el_by16 (tkL_lt (el_lt oh) (el_lt o1) _), e1]
  rw [← hs2.out]
  have hS4 := hS.grow hb4
  have hS5 := hS4.put (by omega) (fun q hq => by simp at hq; rcases hq with rfl | rfl | rfl <;> simp <;> omega) s2
  go_upto_region 4 with (refine wpList_store_arr rfl 44 _ _ rfl g8 16 s2 rfl rfl s1 ?_ Try.sizeBlock ?_; exact hS4.at (by simp))
  clear hS hS4 hb4
  generalize w4.setCells g8 0 (vals 16 s2) = v4 at hS5 ⊢
  have e3 : G.mul (el s2 ^^^ el L) (el h) = V := by rw [e2, eL, hV.out, sumN, HNM.out.1, HNM.out.2]
  have hub := Try.underlying44
  have hib := Try.sizeBlock
  have hS0 : (fun v => Ars w [(g8, s2), (g7, L), (w.heap.size, h)] v ∧ ∃ x, Arr v (w.heap.size + 1) 16 x) v4.drew := by
    have hd := hS5.grow (Below.refl _ _).drew
    exact ⟨⟨fun q hq => hd.1 q (by simp at hq; rcases hq with rfl | rfl | rfl <;> simp), hd.2⟩, _, hd.at (x := fun _ => 0) (by simp)⟩
  clear hS5
  refine wp_region_z (fun v => Ars w [(g8, s2), (g7, L), (w.heap.size, h)] v ∧ ∃ x, Arr v (w.heap.size + 1) 16 x) 5 (by kernel_rfl) hS0 (fun hS => ?_)
  clear hS0
  refine wpAnyZ_take (i := 0) rfl (by kernel_rfl) (by kernel_rfl) (by kernel_rfl) (by kernel_rfl) (fun _ _ _ h => h) hS (yieldsIf_load_mid (by kernel_rfl) 44 (.tmp 8) rfl g8 0 (by kernel_rfl) (vals 16 s2) _ (fun w hS => (hS.1.at (by simp)).range) hub rfl hib) ?_
  simp only [Act.put, List.setIfInBounds_toArray, List.set_cons_zero, List.set_cons_succ]
  refine wpAnyZ_take (i := 1) rfl (by kernel_rfl) (by kernel_rfl) (by kernel_rfl) (by kernel_rfl) (fun _ _ _ h => h) hS (yieldsIf_load_mid (by kernel_rfl) 44 (.tmp 3) rfl w.heap.size 0 (by kernel_rfl) (vals 16 h) _ (fun w hS => (hS.1.at (by simp)).range) hub rfl hib) ?_
  simp only [Act.put, List.setIfInBounds_toArray, List.set_cons_zero, List.set_cons_succ]
  refine wpAnyZ_take (i := 2) (v := .slice (some ⟨g7, 0, none⟩) 16 16) rfl (by kernel_rfl) (by kernel_rfl) (by kernel_rfl) (by kernel_rfl) (fun _ _ _ h => h) hS (Or.inl ⟨by kernel_rfl, fun w hS => (by clear hS; go_simp)⟩) ?_
  simp only [Act.put, List.setIfInBounds_toArray, List.set_cons_zero, List.set_cons_succ]
  refine wpAnyZ_one (i := 3) (by kernel_rfl) rfl (fun K hK => ?_)
  go_simp
  go_at_call 57
  refine (taken_at s2 h (some ⟨g7, 0, none⟩) 16 16 (row L 16) _ (row_length _ _) o2 oh (fun _ => ⟨g7, 0, rfl, fun i hi => by
    rw [row_length] at hi
    rw [Nat.zero_add, row_at L 16 i hi]
    exact ((hS.1.at (g := g7) (x := L) (by simp)) i hi).1⟩) (row_oct oL 16) (by decide) (by decide)).mono ?_
  rintro e w8 ⟨rfl, hb8⟩
  rw [tkL_one _ _ (row_length L 16), blk_row, e3]
  go_wp2_with fail
  have hG : Ars w [(g8, s2), (g7, L), (w.heap.size, h)] w8 ∧ ∃ x, Arr w8 (w.heap.size + 1) 16 x := ⟨hS.1.grow hb8, hS.2.elim fun x hx => ⟨x, hx.below hb8⟩⟩
  refine hK.out _ _ (fun _ => hG) ?_
  clear hS hK K
  try simp only [Act.put, List.setIfInBounds_toArray, List.set_cons_zero, List.set_cons_succ]
  obtain ⟨hS, x6, h6⟩ := hG
  have hT := h6.there
  refine wpAnyZ_one (i := 4) (by kernel_rfl) rfl (fun K hK => ?_)
  rw [if_pos (by rfl)]
  refine wp_store_arr _ _ _ rfl (w.heap.size + 1) 16 (by16 V) rfl rfl hT hib ?_
  try simp only [Act.put, List.setIfInBounds_toArray, List.set_cons_zero, List.set_cons_succ]
  have h7 := h6.put (by16 V)
  have hB7 := below_setCells (b := w.heap.size + 1) (vals 16 (by16 V)) 0 hS.2 (by omega)
  refine hK.out _ _ (fun _ => ⟨⟨fun q hq => (hS.1 q hq).besidePut (by simp at hq; rcases hq with rfl | rfl | rfl <;> simp <;> omega) 0 _, hB7⟩, _, h7⟩) ?_
  clear hK K
  refine wpAnyZ_done (by kernel_rfl) ?_ _
  go_wp2_with fail
  refine bodyPost_ret (v := .agg (vals 16 (by16 V)).toArray) ?_ rfl ⟨rfl, hB7⟩
  exact results_cell_arr rfl _ _ 16 _ _ rfl h7 Try.underlying44 rfl Try.sizeBlock
end Go.Proofs.Ytgnhbfjngdgibaa
