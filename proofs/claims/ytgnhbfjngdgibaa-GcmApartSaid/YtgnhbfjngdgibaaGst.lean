/-
  The walk of GcmStandard.
-/
import Derived.Test.YtgnhbfjngdgibaaGop
namespace Go.Proofs.Ytgnhbfjngdgibaa
open Go.RowKit
set_option linter.unusedVariables false
set_option linter.unusedSimpArgs false

theorem bin_take {p : Option Addr} {w : World} {xs : List Int} (h : Bin w p xs) (n : Nat) : Bin w p (xs.take n) := fun hl => by
  rw [List.length_take] at hl
  obtain ⟨b, o, rfl, hc⟩ := h (by omega)
  refine ⟨b, o, rfl, fun i hi => ?_⟩
  rw [List.length_take] at hi
  rw [hc i (by omega), List.getD_eq_getElem?_getD, List.getD_eq_getElem?_getD, List.getElem?_take, if_pos (by omega)]
theorem grownBy_setCellR (W : World) (b o : Nat) (v : Value) : W.grownBy (W.setCell ⟨b, o, none⟩ v) (some b) :=
  gb_set (vs := [v]) (o := o) (gb_of (some b) (Below.refl _ W)) (.inl rfl)
/-- Noughts, sealed under noughts. -/
def stL : List Int := row kT 16 ++ row kX 16
/-- With its last bit turned. -/
def stX : List Int := stL.set 31 222
theorem sealL_noughts : sealL zE (List.replicate 12 0) [] (List.replicate 16 0) = stL := by
  rw [sealL, cry_noughts, tagL, tag_noughts, stL]
  first | (congr 1; done) | (congr 1; exact row_sameR fun j hj => by16_el kX_lt j hj)
theorem stL_oct : Oct stL := (row_oct kT_lt 16).append (row_oct kX_lt 16)
theorem stX_oct : Oct stX := fun x hx => by
  rcases List.mem_or_eq_of_mem_set hx with h | rfl
  · exact stL_oct x h
  · decide
theorem stL_take : stL.take 16 = row kT 16 := by decide
theorem stX_take : stX.take 16 = row kT 16 := by decide
theorem stX_drop : ¬ row kX 16 = stX.drop 16 := by decide
theorem stX_no : holdsB zE (List.replicate 12 0) [] stX = false := by
  have e : stX.length - 16 = 16 := by decide
  rw [holdsB, e, stX_take, tagL, tag_noughts, row_sameR (fun j hj => by16_el kX_lt j hj)]
  exact decide_eq_false stX_drop
theorem stL_open : cry zE (frs (List.replicate 12 0)) (stL.take 16) = List.replicate 16 0 := by
  rw [stL_take, ← cry_noughts, cry_cry (oct0 16)]
theorem conv_st {w : World} {p : Option Addr} (h : Bin w p stL) (cap : Nat) :
    (convert 22 9 (.slice p 32 cap)).run Try.prog w = .ok (.string { data := #[3, 136, 218, 206, 96, 182, 163, 146, 243, 40, 194, 185, 113, 178, 254, 120, 171, 110, 71, 212, 44, 236, 19, 189, 245, 58, 103, 178, 18, 87, 189, 223] }) w := by
  have := conv_str h cap
  rw [show stL.length = 32 from by decide] at this
  rw [this]
  rfl

set_option maxHeartbeats 8000000 in
set_option maxRecDepth 100000 in
theorem gstandard_law (w : World) : Calls Try.prog 9 #[] w fun e w' => e = .returned (.bool true) ∧ Below w.heap.size w w' := by
  obtain ⟨i0, hi, hz0, hz1, hz2⟩ := info_parts Try.infoU8
  go_enter Try.func9, Try.ntmps9
  go_upto_region 2 with (at_make; refine wpList_make_full _ rfl (.const (.int .i64 16)) (.const (.int .i64 16)) 22 rfl w.heap.size 5 i0 (.int .u8 0) 1 Try.underlying22 hi hz0 hz1 .i64 .i64 _ _ 16 rfl rfl rfl rfl (by rw [hz2]; omega) (by unfold maxLen; omega) (Nat.le_refl _) ?_; intro w1 hown hgrow)
  have hO : Own w.heap.size w1 (.slice (some ⟨w.heap.size, 0, none⟩) 16 16) 16 (List.replicate 16 0) := by
    rw [made_u8] at hown
    exact hown
  have hB1 : Below w.heap.size w w1 := (Below.refl _ _).grown hgrow (Nat.le_refl _) (by simp)
  have hN := hO.slice.2.2
  have l0 : w.heap.size < w1.heap.size := World.block_lt_of_cell? w1 _ (hO.cellAt 0 (by decide))
  clear hown hgrow hO
  obtain ⟨g0, hg0⟩ : ∃ g, Hid (g = w.heap.size) := ⟨_, rfl⟩
  rw [← hg0.out] at hN l0 ⊢
  have hseal := fun (w' : World) (h : Bin w' (some ⟨g0, 0, none⟩) (List.replicate 16 0)) => seal_of (some ⟨g0, 0, none⟩) (some ⟨g0, 0, none⟩) none (some ⟨g0, 0, none⟩) 16 16 0 16 16 0 16 (List.replicate 16 0) (List.replicate 12 0) [] (List.replicate 16 0) w' h (oct0 16) List.length_replicate (.inl rfl) (by decide) (bin_take h 12) (oct0 12) List.length_replicate (by decide) (Bin.nil _ _) Oct.nil rfl (by decide) h (oct0 16) List.length_replicate (by decide) (by decide) (by decide)
  rw [keyE_zero, sealL_noughts] at hseal
  have hopen := fun (w' : World) (g1 cap : Nat) (bs : List Int) (h : Bin w' (some ⟨g0, 0, none⟩) (List.replicate 16 0)) hb ho hl hc => open_of (some ⟨g0, 0, none⟩) (some ⟨g0, 0, none⟩) none (some ⟨g1, 0, none⟩) 16 16 0 cap 16 0 16 (List.replicate 16 0) (List.replicate 12 0) [] bs w' h (oct0 16) List.length_replicate (.inl rfl) (by decide) (bin_take h 12) (oct0 12) List.length_replicate (by decide) (Bin.nil _ _) Oct.nil rfl (by decide) hb ho hl hc (by decide) (by decide)
  rw [keyE_zero] at hopen
  have HOPEN := hid hopen
  clear hopen
  go_wp2_with fail
  refine (hseal w1 hN).mono ?_
  rintro e w2 ⟨v, rfl, hv, hb2⟩
  clear hseal
  rcases hv.shape with ⟨_, h0⟩ | ⟨g1, cap, rfl, hg1, hcap⟩
  · omega
  have hN2 := hN.below hb2
  have hB2 := hB1.trans (hb2.mono hB1.size)
  have hcs := conv_st hv.slice.2.2 cap
  have HV := hid hv
  have hs1 := hB1.size
  clear hb2 hN hB1 hv
  go_upto_region 5 with fail
  clear hcs
  have hop1 : Calls Try.prog 22 #[.slice (some ⟨g0, 0, none⟩) 16 16, .slice (some ⟨g0, 0, none⟩) 12 16, .slice none 0 0, .slice (some ⟨g1, 0, none⟩) 32 cap] w2 fun e w' => ∃ v, e = .returned (.tuple #[v, .int .i64 0]) ∧ Own w2.heap.size w' v 16 (List.replicate 16 0) ∧ Below w2.heap.size w2 w' := by
    have h := HOPEN.out w2 g1 cap stL hN2 HV.out.slice.2.2 stL_oct (by decide) hcap
    refine h.mono ?_
    rintro e w' ⟨_, h2, hb⟩
    obtain ⟨v, he, ho⟩ := h2 (by rw [← sealL_noughts]; exact seal_holds _ _ _ _)
    rw [stL_open] at ho
    exact ⟨v, he, ho, hb⟩
  go_wp2_with fail
  refine hop1.mono ?_
  rintro e w3 ⟨v3, rfl, hv3, hb3⟩
  clear hop1
  obtain ⟨p3, c3, rfl, _, hc3⟩ := hv3.bin
  have hN3 := hN2.below hb3
  have hB3 := hB2.trans (hb3.mono hB2.size)
  have hO3 := HV.out.below hb3
  have lg1 : g1 < w2.heap.size := World.block_lt_of_cell? w2 _ (HV.out.cellAt 0 (by decide))
  have c31 : w3.cell? ⟨g1, 31, none⟩ = some (.int .u8 223) := hO3.cellAt 31 (by decide)
  have f31 := hO3.frozenAt 31
  have x31 : bits .xor .u8 (223 : Int) (1 : Int) = 222 := by decide
  have hO4 := hO3.stored 31 222
  have h31 : (g0 : Nat) ≠ g1 := by omega
  have hcc := hid (show Bin (w3.setCell ⟨g1, 31, none⟩ (.int .u8 222)) p3 (List.replicate 16 0) from by
    refine hc3.grown (grownBy_setCellR w3 g1 31 (.int .u8 222)) (fun a ha e => ?_)
    subst ha
    have h1 := (World.ownsRow.lt hv3 a.block rfl).1
    have h2 : a.block = g1 := Option.some.inj e
    omega)
  have hN4 := hid (show Bin (w3.setCell ⟨g1, 31, none⟩ (.int .u8 222)) (some ⟨g0, 0, none⟩) (List.replicate 16 0) from
    hN3.grown (grownBy_setCellR w3 g1 31 (.int .u8 222)) (fun a ha e => by
      cases ha
      exact h31 (Option.some.inj e)))
  have hB4 := hid (hB3.setCell (p := ⟨g1, 31, none⟩) (show w.heap.size ≤ g1 from by have := hB2.size; omega) (.int .u8 222))
  have HX := hid (show Own w1.heap.size (w3.setCell ⟨g1, 31, none⟩ (.int .u8 222)) (.slice (some ⟨g1, 0, none⟩) 32 cap) 32 stX from hO4)
  clear hv3 hN2 hN3 hB2 hB3 hO3 hO4 HV hb3 hc3
  go_upto_region 7 with fail
  clear c31 f31 x31
  generalize w3.setCell ⟨g1, 31, none⟩ (.int .u8 222) = w4 at hcc hN4 hB4 HX ⊢
  have hop2 : Calls Try.prog 22 #[.slice (some ⟨g0, 0, none⟩) 16 16, .slice (some ⟨g0, 0, none⟩) 12 16, .slice none 0 0, .slice (some ⟨g1, 0, none⟩) 32 cap] w4 fun e w' => e = .returned (.tuple #[.slice none 0 0, .int .i64 60]) ∧ Below w4.heap.size w4 w' := by
    have h := HOPEN.out w4 g1 cap stX hN4.out HX.out.slice.2.2 stX_oct (by decide) hcap
    exact h.mono fun e w' h => ⟨h.1 stX_no, h.2.2⟩
  go_wp2_with fail
  refine hop2.mono ?_
  rintro e w5 ⟨rfl, hb5⟩
  clear hop2
  have hB5 := hid (hB4.out.trans (hb5.mono hB4.out.size))
  have hN5 := hid (hN4.out.below hb5)
  have hc5 := hid (hcc.out.below hb5)
  have hX5 := hid (HX.out.slice.2.2.below hb5)
  have OP3 := hid (show ∀ w', Below w5.heap.size w5 w' → Calls Try.prog 22 #[.slice (some ⟨g0, 0, none⟩) 16 16, .slice (some ⟨g0, 0, none⟩) 12 16, .slice none 0 0, .slice (some ⟨g1, 0, none⟩) 15 cap] w' fun e w'' => e = .returned (.tuple #[.slice none 0 0, .int .i64 4]) ∧ Below w'.heap.size w' w'' from fun w' hb =>
    open_no (some ⟨g0, 0, none⟩) (some ⟨g0, 0, none⟩) none (some ⟨g1, 0, none⟩) 16 16 0 cap 16 12 0 15 (List.replicate 16 0) (List.replicate 12 0) [] (stX.take 15) w' (hN5.out.below hb) (oct0 16) List.length_replicate (by decide) (bin_take (hN5.out.below hb) 12) (oct0 12) List.length_replicate (by decide) (Bin.nil _ _) Oct.nil rfl (by decide) (bin_take (hX5.out.below hb) 15) (stX_oct.take 15) (by decide) (by omega) (by decide))
  have k15 : (15 : Int) ≤ (cap : Int) := by omega
  clear hb5 hB4 hN4 hcc HX
  go_upto_region 8 with fail
  go_cut [8, 9] (fun s8 s9 wx => s8 = .slice none 0 0 ∧ s9 = .int .i64 4 ∧ Below w5.heap.size w5 wx)
  case first =>
    have hSd : Below w5.heap.size w5 w5.drew := (Below.refl _ _).drew
    refine wp_region_z (fun v => Below w5.heap.size w5 v) 11 (by kernel_rfl) hSd (fun hS => ?_)
    clear hSd
    generalize World.drew _ = w9 at hS ⊢
    refine wpAnyZ_take (i := 0) (v := .slice (some ⟨g0, 0, none⟩) 16 16) rfl (by kernel_rfl) (by kernel_rfl) (by kernel_rfl) (by kernel_rfl) (fun _ _ _ h => h) hS (Or.inl ⟨by kernel_rfl, fun w hS => (by clear hS; go_simp)⟩) ?_
    simp only [Act.put, List.setIfInBounds_toArray, List.set_cons_zero, List.set_cons_succ]
    refine wpAnyZ_take (i := 1) (v := .slice (some ⟨g0, 0, none⟩) 16 16) rfl (by kernel_rfl) (by kernel_rfl) (by kernel_rfl) (by kernel_rfl) (fun _ _ _ h => h) hS (Or.inl ⟨by kernel_rfl, fun w hS => (by clear hS; go_simp)⟩) ?_
    simp only [Act.put, List.setIfInBounds_toArray, List.set_cons_zero, List.set_cons_succ]
    refine wpAnyZ_take (i := 2) (v := .slice (some ⟨g0, 0, none⟩) 12 16) rfl (by kernel_rfl) (by kernel_rfl) (by kernel_rfl) (by kernel_rfl) (fun _ _ _ h => h) hS (Or.inl ⟨by kernel_rfl, fun w hS => (by clear hS; go_simp)⟩) ?_
    simp only [Act.put, List.setIfInBounds_toArray, List.set_cons_zero, List.set_cons_succ]
    refine wpAnyZ_take (i := 3) (v := .slice (some ⟨g1, 0, none⟩) 32 cap) rfl (by kernel_rfl) (by kernel_rfl) (by kernel_rfl) (by kernel_rfl) (fun _ _ _ h => h) hS (Or.inl ⟨by kernel_rfl, fun w hS => (by clear hS; go_simp)⟩) ?_
    simp only [Act.put, List.setIfInBounds_toArray, List.set_cons_zero, List.set_cons_succ]
    refine wpAnyZ_take (i := 4) (v := .slice (some ⟨g1, 0, none⟩) 15 cap) rfl (by kernel_rfl) (by kernel_rfl) (by kernel_rfl) (by kernel_rfl) (fun _ _ _ h => h) hS (Or.inl ⟨by kernel_rfl, fun w hS => (by clear hS; go_simp)⟩) ?_
    simp only [Act.put, List.setIfInBounds_toArray, List.set_cons_zero, List.set_cons_succ]
    refine wpAnyZ_one (i := 5) (by kernel_rfl) rfl (fun K hK => ?_)
    go_simp
    go_at_call 22
    refine (OP3.out _ hS).mono ?_
    rintro e v8 ⟨rfl, hb8⟩
    go_wp2_with fail
    refine hK.out _ _ (fun _ => hS.trans (hb8.mono hS.size)) ?_
    replace hS := hS.trans (hb8.mono hS.size)
    clear hK K
    try simp only [Act.put, List.setIfInBounds_toArray, List.set_cons_zero, List.set_cons_succ]
    refine wpAnyZ_take (i := 6) (v := .tuple #[.slice none 0 0, .int .i64 4]) rfl (by kernel_rfl) (by kernel_rfl) (by kernel_rfl) (by kernel_rfl) (fun _ _ _ h => h) hS (Or.inl ⟨by kernel_rfl, fun w hS => (by clear hS; go_simp)⟩) ?_
    simp only [Act.put, List.setIfInBounds_toArray, List.set_cons_zero, List.set_cons_succ]
    refine wpAnyZ_take (i := 7) (v := .slice none 0 0) rfl (by kernel_rfl) (by kernel_rfl) (by kernel_rfl) (by kernel_rfl) (fun _ _ _ h => h) hS (Or.inl ⟨by kernel_rfl, fun w hS => (by clear hS; go_simp)⟩) ?_
    simp only [Act.put, List.setIfInBounds_toArray, List.set_cons_zero, List.set_cons_succ]
    refine wpAnyZ_take (i := 8) (v := .int .i64 4) rfl (by kernel_rfl) (by kernel_rfl) (by kernel_rfl) (by kernel_rfl) (fun _ _ _ h => h) hS (Or.inl ⟨by kernel_rfl, fun w hS => (by clear hS; go_simp)⟩) ?_
    simp only [Act.put, List.setIfInBounds_toArray, List.set_cons_zero, List.set_cons_succ]
    refine wpAnyZ_one (i := 9) (by kernel_rfl) rfl (fun K hK => ?_)
    go_simp
    refine hK.out _ _ (fun _ => hS) ?_
    clear hK K
    try simp only [Act.put, List.setIfInBounds_toArray, List.set_cons_zero, List.set_cons_succ]
    refine wpAnyZ_one (i := 10) (by kernel_rfl) rfl (fun K hK => ?_)
    go_simp
    refine hK.out _ _ (fun _ => hS) ?_
    clear hK K
    try simp only [Act.put, List.setIfInBounds_toArray, List.set_cons_zero, List.set_cons_succ]
    refine wpAnyZ_done (by kernel_rfl) ?_ _
    go_wp2_with fail
    go_meet
    exact ⟨rfl, rfl, hS⟩
  case rest =>
    obtain ⟨rfl, rfl, hS⟩ := hcut
    have hq1 := conv_str (hc5.out.below hS) c3
    have hq2 := conv_str (hN5.out.below hS) 16
    rw [List.length_replicate] at hq1 hq2
    obtain ⟨S, hS1⟩ : ∃ s, Hid (s = strOfNums (List.replicate 16 0)) := ⟨_, rfl⟩
    rw [← hS1.out] at hq1 hq2
    have hB6 := hB5.out.trans (hS.mono hB5.out.size)
    clear hS hB5
    go_wp2_with fail
    refine (known6_any _).mono ?_
    rintro e w7 ⟨rfl, hb7⟩
    go_wp2_with fail
    go_ret
    exact ⟨rfl, hB6.trans (hb7.mono hB6.size)⟩
end Go.Proofs.Ytgnhbfjngdgibaa
