/-
  The program's torn: sectors of one block over another.
-/
import Derived.Test.YtlbhoijjbpjmoaaPds
import Derived.Test.YtlbhoijjbpjmoaaDk
namespace Go.Proofs.Ytlbhoijjbpjmoaa
open Go.RowKit
set_option linter.unusedVariables false
set_option linter.unusedSimpArgs false

/-- The first k sectors, those that m tells, are y's. -/
def tor (m : Nat) (x y : Nat → Nat) (k : Nat) : Nat → Nat := fun j => if j / 64 < k ∧ m / 2 ^ (j / 64) % 2 = 1 then y j else x j
theorem tor_zero (m : Nat) (x y : Nat → Nat) (j : Nat) : tor m x y 0 j = x j := if_neg fun h => absurd h.1 (Nat.not_lt_zero _)
theorem tor_yes {m : Nat} (x y : Nat → Nat) {k : Nat} (h : m / 2 ^ k % 2 = 1) (j : Nat) : tor m x y (k + 1) j = if k * 64 ≤ j ∧ j < k * 64 + 64 then y (k * 64 + (j - k * 64)) else tor m x y k j := by
  unfold tor
  by_cases h1 : k * 64 ≤ j ∧ j < k * 64 + 64
  · have e : j / 64 = k := by omega
    rw [if_pos h1, e, if_pos ⟨by omega, h⟩, show k * 64 + (j - k * 64) = j from by omega]
  · rw [if_neg h1]
    by_cases h2 : j / 64 < k ∧ m / 2 ^ (j / 64) % 2 = 1
    · rw [if_pos h2, if_pos ⟨by omega, h2.2⟩]
    · rw [if_neg h2, if_neg (fun h3 => h2 ⟨by omega, h3.2⟩)]
theorem tor_no {m : Nat} (x y : Nat → Nat) {k : Nat} (h : ¬ m / 2 ^ k % 2 = 1) (j : Nat) : tor m x y k j = tor m x y (k + 1) j := by
  unfold tor
  by_cases h2 : j / 64 < k ∧ m / 2 ^ (j / 64) % 2 = 1
  · rw [if_pos h2, if_pos ⟨by omega, h2.2⟩]
  · rw [if_neg h2, if_neg (fun h3 => h2 ⟨by
      rcases Nat.lt_or_ge (j / 64) k with h4 | h4
      · exact h4
      · have h5 : j / 64 = k := by omega
        exact absurd (h5 ▸ h3.2) h, h3.2⟩)]
theorem tor_mrg (m : Nat) (b f : List Int) (j : Nat) (hj : j < 256) : tor m (flat1 f) (flat1 b) 4 j = flat1 (mrg m b f) j := by
  unfold tor
  show _ = ((mrg m b f).getD j 0).toNat
  rw [mrg_at _ _ _ _ hj]
  by_cases h : m / 2 ^ (j / 64) % 2 = 1
  · rw [if_pos ⟨by omega, h⟩, if_pos h]; rfl
  · rw [if_neg (fun h2 => h h2.2), if_neg h]; rfl
theorem mask_yes : ∀ k, k < 4 → ∀ m, m < 256 → m / 2 ^ k % 2 = 1 → ¬ bits .and .u8 ((m : Nat) : Int) ((2 ^ k : Nat) : Int) = 0 := by decide +kernel
theorem mask_no : ∀ k, k < 4 → ∀ m, m < 256 → ¬ m / 2 ^ k % 2 = 1 → bits .and .u8 ((m : Nat) : Int) ((2 ^ k : Nat) : Int) = 0 := by decide +kernel

set_option maxHeartbeats 16000000 in
set_option maxRecDepth 100000 in
theorem torn_of (m : Nat) (b f : List Int) (w : World) (hm : m < 256) :
    Calls Try.prog 47 #[.agg (vals 256 (flat1 f)).toArray, .agg (vals 256 (flat1 b)).toArray, .int .u8 (m : Nat)] w fun e w' => e = .returned (.agg (vals 256 (flat1 (mrg m b f))).toArray) ∧ Below w.heap.size w w' := by
  have hib := Try.sizeBlk
  have hub := Try.underlying81
  have hzb := Try.zeroBlk
  obtain ⟨x, hx⟩ : ∃ x, Hid (x = flat1 f) := ⟨_, rfl⟩
  obtain ⟨y, hy⟩ : ∃ x, Hid (x = flat1 b) := ⟨_, rfl⟩
  have HZ : Hid (∀ j, j < 256 → tor m x y 4 j = flat1 (mrg m b f) j) := hid (by rw [hx.out, hy.out]; exact tor_mrg m b f)
  obtain ⟨zz, hzz⟩ : ∃ x, Hid (x = flat1 (mrg m b f)) := ⟨_, rfl⟩
  rw [← hzz.out] at HZ ⊢
  rw [← hx.out, ← hy.out]
  clear hx hy hzz
  obtain ⟨wa, hwa, b1, b2, b3, hB, hsz⟩ := boxes3 w 256 x y (fun _ => 0) 81 81 81
  have HA0 := hid (b1.same (y := tor m x y 0) fun j _ => (tor_zero m x y j).symm)
  have HY0 := hid b2
  have HZ0 := hid b3
  have HB0 := hid hB
  clear b1 b2 b3 hB hsz
  go_enter Try.func47, Try.ntmps47
  go_upto_region 1 with fail
  rw [← hwa.out]
  obtain ⟨gx, hgx⟩ : ∃ g, Hid (g = w.heap.size) := ⟨_, rfl⟩
  obtain ⟨gy, hgy⟩ : ∃ g, Hid (g = gx + 1) := ⟨_, rfl⟩
  obtain ⟨gz, hgz⟩ : ∃ g, Hid (g = gx + 1 + 1) := ⟨_, rfl⟩
  have HN : Hid (gx ≠ gy ∧ gx ≠ gz ∧ gx ≤ gz) := hid (by have h1 := hgy.out; have h2 := hgz.out; omega)
  rw [← hgx.out] at HA0 HY0 HZ0 HB0 ⊢
  rw [← hgz.out] at HZ0 ⊢
  rw [← hgy.out] at HY0 ⊢
  clear hwa
  go_wp2_with fail
  go_loopw [9] (fun i wr => ∃ k : Nat, k ≤ 4 ∧ i = .int .i64 (k : Int) ∧ Arr wr gx 256 (tor m x y k) ∧ Arr wr gy 256 y ∧ Arr wr gz 256 (fun _ => 0) ∧ Below gx w wr) (fun i _ => 4 - (intOf i).toNat)
  case atStart => exact ⟨0, by decide, rfl, HA0.out, HY0.out, HZ0.out, HB0.out⟩
  case round =>
    clear HA0 HY0 HZ0 HB0
    obtain ⟨k, hk, rfl, hA, hY, hZ, hB⟩ := hrel
    rcases (show k = 0 ∨ k = 1 ∨ k = 2 ∨ k = 3 ∨ k = 4 from by omega) with rfl | rfl | rfl | rfl | rfl
    · by_cases hb : m / 2 ^ 0 % 2 = 1
      · replace hA := hA.drew
        replace hY := hY.drew
        replace hZ := hZ.drew
        replace hB := hB.drew
        have hbb : ¬ bits .and .u8 ((m : Nat) : Int) 1 = 0 := mask_yes 0 (by decide) m hm hb
        have hp := hid (hA.putAt (o := 0) (n := 64) (by omega) (fun j => y (0 + j)) (tor m x y (0 + 1)) fun j _ => tor_yes x y hb j)
        have hT := hid (hA.thereAt (o := 0) (n := 64) (by omega))
        have hR := hid (range_cells (hY.part (o := 0) (n := 64) (by omega)))
        have hY' := hid (hY.besidePut (b' := gx) HN.out.1 0 (vals 64 fun j => y (0 + j)))
        have hZ' := hid (hZ.besidePut (b' := gx) HN.out.2.1 0 (vals 64 fun j => y (0 + j)))
        have hB' := hid (below_setCells (b := gx) (vals 64 fun j => y (0 + j)) 0 hB (by omega))
        clear hA hY hZ hB hb
        go_upto_region 6 with fail
        clear hbb
        refine wp_region_z (fun _ => True) 7 (by kernel_rfl) trivial (fun hS => ?_)
        refine wpAnyZ_take (i := 0) (v := .int .i64 0) rfl (by kernel_rfl) (by kernel_rfl) (by kernel_rfl) (by kernel_rfl) (fun _ _ _ h => h) hS (Or.inl ⟨by kernel_rfl, fun w hS => (by clear hS; go_simp)⟩) ?_
        simp only [Act.put, List.setIfInBounds_toArray, List.set_cons_zero, List.set_cons_succ, List.getElem_toArray, List.getElem_cons_succ, List.getElem_cons_zero]
        refine wpAnyZ_take (i := 1) (v := .int .i64 0) rfl (by kernel_rfl) (by kernel_rfl) (by kernel_rfl) (by kernel_rfl) (fun _ _ _ h => h) hS (Or.inl ⟨by kernel_rfl, fun w hS => (by clear hS; go_simp)⟩) ?_
        simp only [Act.put, List.setIfInBounds_toArray, List.set_cons_zero, List.set_cons_succ, List.getElem_toArray, List.getElem_cons_succ, List.getElem_cons_zero]
        refine wpAnyZ_take (i := 2) (v := .int .i64 64) rfl (by kernel_rfl) (by kernel_rfl) (by kernel_rfl) (by kernel_rfl) (fun _ _ _ h => h) hS (Or.inl ⟨by kernel_rfl, fun w hS => (by have i9 : IntKind.i64.wrap 64 = 64 := (by decide); clear hS; go_simp)⟩) ?_
        simp only [Act.put, List.setIfInBounds_toArray, List.set_cons_zero, List.set_cons_succ, List.getElem_toArray, List.getElem_cons_succ, List.getElem_cons_zero]
        refine wpAnyZ_take (i := 3) (v := .slice (some ⟨gx, 0, none⟩) 64 256) rfl (by kernel_rfl) (by kernel_rfl) (by kernel_rfl) (by kernel_rfl) (fun _ _ _ h => h) hS (Or.inl ⟨by kernel_rfl, fun w hS => (by clear hS; go_simp)⟩) ?_
        simp only [Act.put, List.setIfInBounds_toArray, List.set_cons_zero, List.set_cons_succ, List.getElem_toArray, List.getElem_cons_succ, List.getElem_cons_zero]
        refine wpAnyZ_take (i := 4) (v := .int .i64 0) rfl (by kernel_rfl) (by kernel_rfl) (by kernel_rfl) (by kernel_rfl) (fun _ _ _ h => h) hS (Or.inl ⟨by kernel_rfl, fun w hS => (by clear hS; go_simp)⟩) ?_
        simp only [Act.put, List.setIfInBounds_toArray, List.set_cons_zero, List.set_cons_succ, List.getElem_toArray, List.getElem_cons_succ, List.getElem_cons_zero]
        refine wpAnyZ_take (i := 5) (v := .slice (some ⟨gy, 0, none⟩) 256 256) rfl (by kernel_rfl) (by kernel_rfl) (by kernel_rfl) (by kernel_rfl) (fun _ _ _ h => h) hS (Or.inl ⟨by kernel_rfl, fun w hS => (by clear hS; go_simp)⟩) ?_
        simp only [Act.put, List.setIfInBounds_toArray, List.set_cons_zero, List.set_cons_succ, List.getElem_toArray, List.getElem_cons_succ, List.getElem_cons_zero]
        refine wpAnyZ_one (i := 6) (by kernel_rfl) rfl (fun K hK => ?_)
        refine step_copy_cells rfl (.tmp 22) (.tmp 24) 31 31 rfl 5 Try.underlying31 Try.sizeByte gx 0 64 256 (by kernel_rfl) ⟨gy, 0, none⟩ 256 256 (by kernel_rfl) (vals 64 fun j => y (0 + j)) (by rw [vals_length]; decide) (by exact hR.out) (by rw [vals_length]; exact hT.out) (vals_one _ _) ?_
        refine hK.out _ _ (fun _ => trivial) ?_
        clear hK K hR hT
        refine wpAnyZ_done (by kernel_rfl) ?_ _
        clear hS
        go_wp2_with fail
        go_roundw
        case rel => exact ⟨1, by decide, rfl, hp.out, hY'.out, hZ'.out, hB'.out⟩
        case measure => simp [intOf]
      · have hbb : bits .and .u8 ((m : Nat) : Int) 1 = 0 := mask_no 0 (by decide) m hm hb
        have hA' := hid (hA.same fun j _ => tor_no x y hb j)
        have hY' := hid hY
        have hZ' := hid hZ
        have hB' := hid hB
        clear hA hY hZ hB hb
        go_wp2_with fail
        go_roundw
        case rel => exact ⟨1, by decide, rfl, hA'.out, hY'.out, hZ'.out, hB'.out⟩
        case measure => simp [intOf]
    · by_cases hb : m / 2 ^ 1 % 2 = 1
      · replace hA := hA.drew
        replace hY := hY.drew
        replace hZ := hZ.drew
        replace hB := hB.drew
        have hbb : ¬ bits .and .u8 ((m : Nat) : Int) 2 = 0 := mask_yes 1 (by decide) m hm hb
        have hp := hid (hA.putAt (o := 64) (n := 64) (by omega) (fun j => y (64 + j)) (tor m x y (1 + 1)) fun j _ => tor_yes x y hb j)
        have hT := hid (hA.thereAt (o := 64) (n := 64) (by omega))
        have hR := hid (range_cells (hY.part (o := 64) (n := 64) (by omega)))
        have hY' := hid (hY.besidePut (b' := gx) HN.out.1 64 (vals 64 fun j => y (64 + j)))
        have hZ' := hid (hZ.besidePut (b' := gx) HN.out.2.1 64 (vals 64 fun j => y (64 + j)))
        have hB' := hid (below_setCells (b := gx) (vals 64 fun j => y (64 + j)) 64 hB (by omega))
        clear hA hY hZ hB hb
        go_upto_region 6 with fail
        clear hbb
        refine wp_region_z (fun _ => True) 7 (by kernel_rfl) trivial (fun hS => ?_)
        refine wpAnyZ_take (i := 0) (v := .int .i64 64) rfl (by kernel_rfl) (by kernel_rfl) (by kernel_rfl) (by kernel_rfl) (fun _ _ _ h => h) hS (Or.inl ⟨by kernel_rfl, fun w hS => (by clear hS; go_simp)⟩) ?_
        simp only [Act.put, List.setIfInBounds_toArray, List.set_cons_zero, List.set_cons_succ, List.getElem_toArray, List.getElem_cons_succ, List.getElem_cons_zero]
        refine wpAnyZ_take (i := 1) (v := .int .i64 64) rfl (by kernel_rfl) (by kernel_rfl) (by kernel_rfl) (by kernel_rfl) (fun _ _ _ h => h) hS (Or.inl ⟨by kernel_rfl, fun w hS => (by clear hS; go_simp)⟩) ?_
        simp only [Act.put, List.setIfInBounds_toArray, List.set_cons_zero, List.set_cons_succ, List.getElem_toArray, List.getElem_cons_succ, List.getElem_cons_zero]
        refine wpAnyZ_take (i := 2) (v := .int .i64 128) rfl (by kernel_rfl) (by kernel_rfl) (by kernel_rfl) (by kernel_rfl) (fun _ _ _ h => h) hS (Or.inl ⟨by kernel_rfl, fun w hS => (by have i9 : IntKind.i64.wrap 128 = 128 := (by decide); clear hS; go_simp)⟩) ?_
        simp only [Act.put, List.setIfInBounds_toArray, List.set_cons_zero, List.set_cons_succ, List.getElem_toArray, List.getElem_cons_succ, List.getElem_cons_zero]
        refine wpAnyZ_take (i := 3) (v := .slice (some ⟨gx, 64, none⟩) 64 192) rfl (by kernel_rfl) (by kernel_rfl) (by kernel_rfl) (by kernel_rfl) (fun _ _ _ h => h) hS (Or.inl ⟨by kernel_rfl, fun w hS => (by clear hS; go_simp)⟩) ?_
        simp only [Act.put, List.setIfInBounds_toArray, List.set_cons_zero, List.set_cons_succ, List.getElem_toArray, List.getElem_cons_succ, List.getElem_cons_zero]
        refine wpAnyZ_take (i := 4) (v := .int .i64 64) rfl (by kernel_rfl) (by kernel_rfl) (by kernel_rfl) (by kernel_rfl) (fun _ _ _ h => h) hS (Or.inl ⟨by kernel_rfl, fun w hS => (by clear hS; go_simp)⟩) ?_
        simp only [Act.put, List.setIfInBounds_toArray, List.set_cons_zero, List.set_cons_succ, List.getElem_toArray, List.getElem_cons_succ, List.getElem_cons_zero]
        refine wpAnyZ_take (i := 5) (v := .slice (some ⟨gy, 64, none⟩) 192 192) rfl (by kernel_rfl) (by kernel_rfl) (by kernel_rfl) (by kernel_rfl) (fun _ _ _ h => h) hS (Or.inl ⟨by kernel_rfl, fun w hS => (by clear hS; go_simp)⟩) ?_
        simp only [Act.put, List.setIfInBounds_toArray, List.set_cons_zero, List.set_cons_succ, List.getElem_toArray, List.getElem_cons_succ, List.getElem_cons_zero]
        refine wpAnyZ_one (i := 6) (by kernel_rfl) rfl (fun K hK => ?_)
        refine step_copy_cells rfl (.tmp 22) (.tmp 24) 31 31 rfl 5 Try.underlying31 Try.sizeByte gx 64 64 192 (by kernel_rfl) ⟨gy, 64, none⟩ 192 192 (by kernel_rfl) (vals 64 fun j => y (64 + j)) (by rw [vals_length]; decide) (by exact hR.out) (by rw [vals_length]; exact hT.out) (vals_one _ _) ?_
        refine hK.out _ _ (fun _ => trivial) ?_
        clear hK K hR hT
        refine wpAnyZ_done (by kernel_rfl) ?_ _
        clear hS
        go_wp2_with fail
        go_roundw
        case rel => exact ⟨2, by decide, rfl, hp.out, hY'.out, hZ'.out, hB'.out⟩
        case measure => simp [intOf]
      · have hbb : bits .and .u8 ((m : Nat) : Int) 2 = 0 := mask_no 1 (by decide) m hm hb
        have hA' := hid (hA.same fun j _ => tor_no x y hb j)
        have hY' := hid hY
        have hZ' := hid hZ
        have hB' := hid hB
        clear hA hY hZ hB hb
        go_wp2_with fail
        go_roundw
        case rel => exact ⟨2, by decide, rfl, hA'.out, hY'.out, hZ'.out, hB'.out⟩
        case measure => simp [intOf]
    · by_cases hb : m / 2 ^ 2 % 2 = 1
      · replace hA := hA.drew
        replace hY := hY.drew
        replace hZ := hZ.drew
        replace hB := hB.drew
        have hbb : ¬ bits .and .u8 ((m : Nat) : Int) 4 = 0 := mask_yes 2 (by decide) m hm hb
        have hp := hid (hA.putAt (o := 128) (n := 64) (by omega) (fun j => y (128 + j)) (tor m x y (2 + 1)) fun j _ => tor_yes x y hb j)
        have hT := hid (hA.thereAt (o := 128) (n := 64) (by omega))
        have hR := hid (range_cells (hY.part (o := 128) (n := 64) (by omega)))
        have hY' := hid (hY.besidePut (b' := gx) HN.out.1 128 (vals 64 fun j => y (128 + j)))
        have hZ' := hid (hZ.besidePut (b' := gx) HN.out.2.1 128 (vals 64 fun j => y (128 + j)))
        have hB' := hid (below_setCells (b := gx) (vals 64 fun j => y (128 + j)) 128 hB (by omega))
        clear hA hY hZ hB hb
        go_upto_region 6 with fail
        clear hbb
        refine wp_region_z (fun _ => True) 7 (by kernel_rfl) trivial (fun hS => ?_)
        refine wpAnyZ_take (i := 0) (v := .int .i64 128) rfl (by kernel_rfl) (by kernel_rfl) (by kernel_rfl) (by kernel_rfl) (fun _ _ _ h => h) hS (Or.inl ⟨by kernel_rfl, fun w hS => (by clear hS; go_simp)⟩) ?_
        simp only [Act.put, List.setIfInBounds_toArray, List.set_cons_zero, List.set_cons_succ, List.getElem_toArray, List.getElem_cons_succ, List.getElem_cons_zero]
        refine wpAnyZ_take (i := 1) (v := .int .i64 128) rfl (by kernel_rfl) (by kernel_rfl) (by kernel_rfl) (by kernel_rfl) (fun _ _ _ h => h) hS (Or.inl ⟨by kernel_rfl, fun w hS => (by clear hS; go_simp)⟩) ?_
        simp only [Act.put, List.setIfInBounds_toArray, List.set_cons_zero, List.set_cons_succ, List.getElem_toArray, List.getElem_cons_succ, List.getElem_cons_zero]
        refine wpAnyZ_take (i := 2) (v := .int .i64 192) rfl (by kernel_rfl) (by kernel_rfl) (by kernel_rfl) (by kernel_rfl) (fun _ _ _ h => h) hS (Or.inl ⟨by kernel_rfl, fun w hS => (by have i9 : IntKind.i64.wrap 192 = 192 := (by decide); clear hS; go_simp)⟩) ?_
        simp only [Act.put, List.setIfInBounds_toArray, List.set_cons_zero, List.set_cons_succ, List.getElem_toArray, List.getElem_cons_succ, List.getElem_cons_zero]
        refine wpAnyZ_take (i := 3) (v := .slice (some ⟨gx, 128, none⟩) 64 128) rfl (by kernel_rfl) (by kernel_rfl) (by kernel_rfl) (by kernel_rfl) (fun _ _ _ h => h) hS (Or.inl ⟨by kernel_rfl, fun w hS => (by clear hS; go_simp)⟩) ?_
        simp only [Act.put, List.setIfInBounds_toArray, List.set_cons_zero, List.set_cons_succ, List.getElem_toArray, List.getElem_cons_succ, List.getElem_cons_zero]
        refine wpAnyZ_take (i := 4) (v := .int .i64 128) rfl (by kernel_rfl) (by kernel_rfl) (by kernel_rfl) (by kernel_rfl) (fun _ _ _ h => h) hS (Or.inl ⟨by kernel_rfl, fun w hS => (by clear hS; go_simp)⟩) ?_
        simp only [Act.put, List.setIfInBounds_toArray, List.set_cons_zero, List.set_cons_succ, List.getElem_toArray, List.getElem_cons_succ, List.getElem_cons_zero]
        refine wpAnyZ_take (i := 5) (v := .slice (some ⟨gy, 128, none⟩) 128 128) rfl (by kernel_rfl) (by kernel_rfl) (by kernel_rfl) (by kernel_rfl) (fun _ _ _ h => h) hS (Or.inl ⟨by kernel_rfl, fun w hS => (by clear hS; go_simp)⟩) ?_
        simp only [Act.put, List.setIfInBounds_toArray, List.set_cons_zero, List.set_cons_succ, List.getElem_toArray, List.getElem_cons_succ, List.getElem_cons_zero]
        refine wpAnyZ_one (i := 6) (by kernel_rfl) rfl (fun K hK => ?_)
        refine step_copy_cells rfl (.tmp 22) (.tmp 24) 31 31 rfl 5 Try.underlying31 Try.sizeByte gx 128 64 128 (by kernel_rfl) ⟨gy, 128, none⟩ 128 128 (by kernel_rfl) (vals 64 fun j => y (128 + j)) (by rw [vals_length]; decide) (by exact hR.out) (by rw [vals_length]; exact hT.out) (vals_one _ _) ?_
        refine hK.out _ _ (fun _ => trivial) ?_
        clear hK K hR hT
        refine wpAnyZ_done (by kernel_rfl) ?_ _
        clear hS
        go_wp2_with fail
        go_roundw
        case rel => exact ⟨3, by decide, rfl, hp.out, hY'.out, hZ'.out, hB'.out⟩
        case measure => simp [intOf]
      · have hbb : bits .and .u8 ((m : Nat) : Int) 4 = 0 := mask_no 2 (by decide) m hm hb
        have hA' := hid (hA.same fun j _ => tor_no x y hb j)
        have hY' := hid hY
        have hZ' := hid hZ
        have hB' := hid hB
        clear hA hY hZ hB hb
        go_wp2_with fail
        go_roundw
        case rel => exact ⟨3, by decide, rfl, hA'.out, hY'.out, hZ'.out, hB'.out⟩
        case measure => simp [intOf]
    · by_cases hb : m / 2 ^ 3 % 2 = 1
      · replace hA := hA.drew
        replace hY := hY.drew
        replace hZ := hZ.drew
        replace hB := hB.drew
        have hbb : ¬ bits .and .u8 ((m : Nat) : Int) 8 = 0 := mask_yes 3 (by decide) m hm hb
        have hp := hid (hA.putAt (o := 192) (n := 64) (by omega) (fun j => y (192 + j)) (tor m x y (3 + 1)) fun j _ => tor_yes x y hb j)
        have hT := hid (hA.thereAt (o := 192) (n := 64) (by omega))
        have hR := hid (range_cells (hY.part (o := 192) (n := 64) (by omega)))
        have hY' := hid (hY.besidePut (b' := gx) HN.out.1 192 (vals 64 fun j => y (192 + j)))
        have hZ' := hid (hZ.besidePut (b' := gx) HN.out.2.1 192 (vals 64 fun j => y (192 + j)))
        have hB' := hid (below_setCells (b := gx) (vals 64 fun j => y (192 + j)) 192 hB (by omega))
        clear hA hY hZ hB hb
        go_upto_region 6 with fail
        clear hbb
        refine wp_region_z (fun _ => True) 7 (by kernel_rfl) trivial (fun hS => ?_)
        refine wpAnyZ_take (i := 0) (v := .int .i64 192) rfl (by kernel_rfl) (by kernel_rfl) (by kernel_rfl) (by kernel_rfl) (fun _ _ _ h => h) hS (Or.inl ⟨by kernel_rfl, fun w hS => (by clear hS; go_simp)⟩) ?_
        simp only [Act.put, List.setIfInBounds_toArray, List.set_cons_zero, List.set_cons_succ, List.getElem_toArray, List.getElem_cons_succ, List.getElem_cons_zero]
        refine wpAnyZ_take (i := 1) (v := .int .i64 192) rfl (by kernel_rfl) (by kernel_rfl) (by kernel_rfl) (by kernel_rfl) (fun _ _ _ h => h) hS (Or.inl ⟨by kernel_rfl, fun w hS => (by clear hS; go_simp)⟩) ?_
        simp only [Act.put, List.setIfInBounds_toArray, List.set_cons_zero, List.set_cons_succ, List.getElem_toArray, List.getElem_cons_succ, List.getElem_cons_zero]
        refine wpAnyZ_take (i := 2) (v := .int .i64 256) rfl (by kernel_rfl) (by kernel_rfl) (by kernel_rfl) (by kernel_rfl) (fun _ _ _ h => h) hS (Or.inl ⟨by kernel_rfl, fun w hS => (by have i9 : IntKind.i64.wrap 256 = 256 := (by decide); clear hS; go_simp)⟩) ?_
        simp only [Act.put, List.setIfInBounds_toArray, List.set_cons_zero, List.set_cons_succ, List.getElem_toArray, List.getElem_cons_succ, List.getElem_cons_zero]
        refine wpAnyZ_take (i := 3) (v := .slice (some ⟨gx, 192, none⟩) 64 64) rfl (by kernel_rfl) (by kernel_rfl) (by kernel_rfl) (by kernel_rfl) (fun _ _ _ h => h) hS (Or.inl ⟨by kernel_rfl, fun w hS => (by clear hS; go_simp)⟩) ?_
        simp only [Act.put, List.setIfInBounds_toArray, List.set_cons_zero, List.set_cons_succ, List.getElem_toArray, List.getElem_cons_succ, List.getElem_cons_zero]
        refine wpAnyZ_take (i := 4) (v := .int .i64 192) rfl (by kernel_rfl) (by kernel_rfl) (by kernel_rfl) (by kernel_rfl) (fun _ _ _ h => h) hS (Or.inl ⟨by kernel_rfl, fun w hS => (by clear hS; go_simp)⟩) ?_
        simp only [Act.put, List.setIfInBounds_toArray, List.set_cons_zero, List.set_cons_succ, List.getElem_toArray, List.getElem_cons_succ, List.getElem_cons_zero]
        refine wpAnyZ_take (i := 5) (v := .slice (some ⟨gy, 192, none⟩) 64 64) rfl (by kernel_rfl) (by kernel_rfl) (by kernel_rfl) (by kernel_rfl) (fun _ _ _ h => h) hS (Or.inl ⟨by kernel_rfl, fun w hS => (by clear hS; go_simp)⟩) ?_
        simp only [Act.put, List.setIfInBounds_toArray, List.set_cons_zero, List.set_cons_succ, List.getElem_toArray, List.getElem_cons_succ, List.getElem_cons_zero]
        refine wpAnyZ_one (i := 6) (by kernel_rfl) rfl (fun K hK => ?_)
        refine step_copy_cells rfl (.tmp 22) (.tmp 24) 31 31 rfl 5 Try.underlying31 Try.sizeByte gx 192 64 64 (by kernel_rfl) ⟨gy, 192, none⟩ 64 64 (by kernel_rfl) (vals 64 fun j => y (192 + j)) (by rw [vals_length]; decide) (by exact hR.out) (by rw [vals_length]; exact hT.out) (vals_one _ _) ?_
        refine hK.out _ _ (fun _ => trivial) ?_
        clear hK K hR hT
        refine wpAnyZ_done (by kernel_rfl) ?_ _
        clear hS
        go_wp2_with fail
        go_roundw
        case rel => exact ⟨4, by decide, rfl, hp.out, hY'.out, hZ'.out, hB'.out⟩
        case measure => simp [intOf]
      · have hbb : bits .and .u8 ((m : Nat) : Int) 8 = 0 := mask_no 3 (by decide) m hm hb
        have hA' := hid (hA.same fun j _ => tor_no x y hb j)
        have hY' := hid hY
        have hZ' := hid hZ
        have hB' := hid hB
        clear hA hY hZ hB hb
        go_wp2_with fail
        go_roundw
        case rel => exact ⟨4, by decide, rfl, hA'.out, hY'.out, hZ'.out, hB'.out⟩
        case measure => simp [intOf]
    · have HA := hid hA
      have HZ4 := hid (hZ.put (tor m x y 4))
      have HT := hid hZ
      have HB4 := hid (below_setCells (b := gz) (vals 256 (tor m x y 4)) 0 hB HN.out.2.2)
      clear hA hY hZ hB
      go_wp2_with (first | (refine wpList_load_arr rfl 81 _ rfl gx rfl 256 (tor m x y 4) ?_ _ hub rfl hib ?_; exact HA.out) | (refine wpList_store_arr rfl 81 _ _ rfl gz 256 (tor m x y 4) rfl rfl (fun _ => 0) ?_ hib ?_; exact HT.out))
      refine bodyPost_ret (v := .agg (vals 256 zz).toArray) ?_ rfl ⟨rfl, by have := HB4.out; rw [hgx.out] at this; exact this⟩
      exact results_cell_arr rfl _ gz 256 _ _ rfl (HZ4.out.same HZ.out) hub rfl hib
end Go.Proofs.Ytlbhoijjbpjmoaa
