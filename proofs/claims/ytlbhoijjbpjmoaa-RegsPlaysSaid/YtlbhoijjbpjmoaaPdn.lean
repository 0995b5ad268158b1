/-
  The program's device: New, Fork.
-/
import Derived.Test.YtlbhoijjbpjmoaaPdf
import Derived.Test.YtlbhoijjbpjmoaaMkv
import Derived.Test.YtlbhoijjbpjmoaaKa
import Derived.Lib.SliceRun
namespace Go.Proofs.Ytlbhoijjbpjmoaa
open Go.RowKit
set_option linter.unusedVariables false
set_option linter.unusedSimpArgs false

theorem Try.infoBlk : (Try.prog.info? 81).map (fun i => (i.zero, i.size, i.bytes)) = some (some (.agg (vals 256 fun _ => 0).toArray), 256, 256) := by kernel_rfl
theorem Try.infoWr : (Try.prog.info? 83).map (fun i => (i.zero, i.size, i.bytes)) = some (some (.agg (wcell (0, Dst.zeros)).toArray), 257, 264) := by kernel_rfl

/-- Seven cells at the head of a block. -/
structure Sv (w : World) (g : Nat) (v0 v1 v2 v3 v4 v5 v6 : Value) : Prop where
  c0 : w.cell? ⟨g, 0, none⟩ = some v0
  c1 : w.cell? ⟨g, 1, none⟩ = some v1
  c2 : w.cell? ⟨g, 2, none⟩ = some v2
  c3 : w.cell? ⟨g, 3, none⟩ = some v3
  c4 : w.cell? ⟨g, 4, none⟩ = some v4
  c5 : w.cell? ⟨g, 5, none⟩ = some v5
  c6 : w.cell? ⟨g, 6, none⟩ = some v6
  z : ∀ j, j < 7 → w.frozen? ⟨g, j, none⟩ = false
section
variable {w w' : World} {g : Nat} {v0 v1 v2 v3 v4 v5 v6 : Value}
theorem Sv.new (w : World) (v0 v1 v2 v3 v4 v5 v6 : Value) (t : TypeId) : Sv (w.alloc (.cells #[v0, v1, v2, v3, v4, v5, v6] t)) w.heap.size v0 v1 v2 v3 v4 v5 v6 :=
  ⟨by simp, by simp, by simp, by simp, by simp, by simp, by simp, fun j _ => by simp⟩
theorem Sv.below (h : Sv w g v0 v1 v2 v3 v4 v5 v6) (hb : Below w.heap.size w w') : Sv w' g v0 v1 v2 v3 v4 v5 v6 := by
  have hl : g < w.heap.size := World.block_lt_of_cell? w _ h.c0
  have hc : ∀ j, w'.cell? ⟨g, j, none⟩ = w.cell? ⟨g, j, none⟩ := fun j => hb.cell (p := ⟨g, j, none⟩) hl
  exact ⟨(hc 0).trans h.c0, (hc 1).trans h.c1, (hc 2).trans h.c2, (hc 3).trans h.c3, (hc 4).trans h.c4, (hc 5).trans h.c5, (hc 6).trans h.c6, fun j hj => (hb.frozen (p := ⟨g, j, none⟩) hl).trans (h.z j hj)⟩
theorem Sv.set (h : Sv w g v0 v1 v2 v3 v4 v5 v6) (k : Nat) (u : Value) : Sv (w.setCell ⟨g, k, none⟩ u) g (if k = 0 then u else v0) (if k = 1 then u else v1) (if k = 2 then u else v2) (if k = 3 then u else v3) (if k = 4 then u else v4) (if k = 5 then u else v5) (if k = 6 then u else v6) := by
  have hc : ∀ j x, w.cell? ⟨g, j, none⟩ = some x → (w.setCell ⟨g, k, none⟩ u).cell? ⟨g, j, none⟩ = some (if k = j then u else x) := fun j x hx => by
    by_cases hk : k = j
    · subst hk
      rw [if_pos rfl]
      exact World.cell?_setCell_same w _ _ hx
    · rw [if_neg hk, World.cell?_setCell_other w _ _ _ (fun e0 => hk (Addr.mk.inj e0).2.1)]
      exact hx
  exact ⟨hc 0 _ h.c0, hc 1 _ h.c1, hc 2 _ h.c2, hc 3 _ h.c3, hc 4 _ h.c4, hc 5 _ h.c5, hc 6 _ h.c6, fun j hj => (World.frozen?_setCell w _ _ _).trans (h.z j hj)⟩
/-- A device out of its parts. -/
theorem Sv.pdv {B n kN cN kF cF st fl ct : Nat} {vW : Value} {now firm : Nat → List Int} {ws : List (Nat × List Int)} {down : Bool}
    (h : Sv w g (.slice (some ⟨kN, 0, none⟩) n cN) (.slice (some ⟨kF, 0, none⟩) n cF) vW (.bool down) (.int .u64 (st : Nat)) (.int .u64 (fl : Nat)) (.int .u64 (ct : Nat)))
    (aN : Arr w kN (n * 256) (flat now)) (aF : Arr w kF (n * 256) (flat firm)) (rW : w.ownsRow B 83 257 vW ws.length (wcells ws)) (hn : 0 < n) (nN : n ≤ cN) (nF : n ≤ cF)
    (h1 : kN ≠ g) (h2 : kF ≠ g) (h3 : kF ≠ kN) (h4 : ∀ q, vW.ownBlock = some q → q ≠ g ∧ q ≠ kN ∧ q ≠ kF) (b0 : B ≤ g) (b1 : B ≤ kN) (b2 : B ≤ kF) :
    PDv B w g (fun q => q = g ∨ q = kN ∨ q = kF ∨ vW.ownBlock = some q) n kN cN kF cF vW now firm ws down st fl ct :=
  ⟨h.c0, h.c1, h.c2, h.c3, h.c4, h.c5, h.c6, h.z, aN, aF, rW, nN, nF, .inl rfl, ⟨.inr (.inl rfl), h1⟩, ⟨.inr (.inr (.inl rfl)), h2, h3⟩, fun q hq => ⟨.inr (.inr (.inr hq)), h4 q hq⟩, fun q hq => by
    rcases hq with rfl | rfl | rfl | hq
    · exact ⟨b0, World.block_lt_of_cell? w _ h.c0⟩
    · exact ⟨b1, aN.lt (by omega)⟩
    · exact ⟨b2, aF.lt (by omega)⟩
    · exact World.ownsRow.lt rW q hq⟩
end

theorem flat_zeros (n : Nat) : ∀ j, j < n → (0 : Nat) = flat (fun _ => Dst.zeros) j := fun j _ => by
  have : ∀ q, Dst.zeros.getD q 0 = 0 := fun q => by
    rw [List.getD_eq_getElem?_getD]
    by_cases h : q < 256
    · rw [List.getElem?_eq_getElem (by rw [Dst.zeros_len]; exact h)]
      exact List.eq_of_mem_replicate (List.getElem_mem _)
    · rw [List.getElem?_eq_none (by rw [Dst.zeros_len]; omega)]
      rfl
  unfold flat
  rw [this]
  rfl
theorem pdk_new (w : World) (n : Nat) (h8 : 8 ≤ n) (h4 : n ≤ 4096) (kN kF : Nat) (hk : kN = w.heap.size ∧ kF = w.heap.size + 1 ∨ kF = w.heap.size ∧ kN = w.heap.size + 1) (t u : TypeId) :
    ∃ F, PDk w.heap.size (((w.alloc (.cells (vals (n * 256) fun _ => 0).toArray t)).alloc (.cells (vals (n * 256) fun _ => 0).toArray t)).alloc (.cells #[.slice (some ⟨kN, 0, none⟩) n n, .slice (some ⟨kF, 0, none⟩) n n, .slice none 0 0, .bool false, .int .u64 0, .int .u64 0, .int .u64 0] u)) (w.heap.size + 1 + 1) F (Dst.new n) := by
  have a1 : Arr ((w.alloc (.cells (vals (n * 256) fun _ => 0).toArray t)).alloc (.cells (vals (n * 256) fun _ => 0).toArray t)) w.heap.size (n * 256) (flat fun _ => Dst.zeros) := ((arr_new w (n * 256) (fun _ => 0) t).alloc _).same (flat_zeros _)
  have a2 : Arr ((w.alloc (.cells (vals (n * 256) fun _ => 0).toArray t)).alloc (.cells (vals (n * 256) fun _ => 0).toArray t)) (w.heap.size + 1) (n * 256) (flat fun _ => Dst.zeros) := by
    have := (arr_new (w.alloc (.cells (vals (n * 256) fun _ => 0).toArray t)) (n * 256) (fun _ => 0) t).same (flat_zeros _)
    simpa using this
  have hs := Sv.new ((w.alloc (.cells (vals (n * 256) fun _ => 0).toArray t)).alloc (.cells (vals (n * 256) fun _ => 0).toArray t)) (.slice (some ⟨kN, 0, none⟩) n n) (.slice (some ⟨kF, 0, none⟩) n n) (.slice none 0 0) (.bool false) (.int .u64 0) (.int .u64 0) (.int .u64 0) u
  have hg : ((w.alloc (.cells (vals (n * 256) fun _ => 0).toArray t)).alloc (.cells (vals (n * 256) fun _ => 0).toArray t)).heap.size = w.heap.size + 1 + 1 := by simp
  rw [hg] at hs
  generalize (w.alloc (.cells (vals (n * 256) fun _ => 0).toArray t)).alloc (.cells (vals (n * 256) fun _ => 0).toArray t) = w2 at *
  have b1 := a1.alloc (.cells #[.slice (some ⟨kN, 0, none⟩) n n, .slice (some ⟨kF, 0, none⟩) n n, .slice none 0 0, .bool false, .int .u64 0, .int .u64 0, .int .u64 0] u)
  have b2 := a2.alloc (.cells #[.slice (some ⟨kN, 0, none⟩) n n, .slice (some ⟨kF, 0, none⟩) n n, .slice none 0 0, .bool false, .int .u64 0, .int .u64 0, .int .u64 0] u)
  generalize w2.alloc (.cells #[.slice (some ⟨kN, 0, none⟩) n n, .slice (some ⟨kF, 0, none⟩) n n, .slice none 0 0, .bool false, .int .u64 0, .int .u64 0, .int .u64 0] u) = w3 at *
  have hv : PDv w.heap.size w3 (w.heap.size + 1 + 1) (fun q => q = w.heap.size + 1 + 1 ∨ q = kN ∨ q = kF ∨ (Value.slice none 0 0).ownBlock = some q) n kN n kF n (.slice none 0 0) (fun _ => Dst.zeros) (fun _ => Dst.zeros) [] false 0 0 0 := by
    refine Sv.pdv (st := 0) (fl := 0) (ct := 0) hs ?_ ?_ (World.ownsRow_nil _ _ _ _) (by omega) (Nat.le_refl _) (Nat.le_refl _) (by omega) (by omega) (by omega) (fun q hq => by cases hq) (by omega) (by omega) (by omega)
    · rcases hk with ⟨rfl, rfl⟩ | ⟨rfl, rfl⟩
      · exact b1
      · exact b2
    · rcases hk with ⟨rfl, rfl⟩ | ⟨rfl, rfl⟩
      · exact b2
      · exact b1
  exact ⟨_, hv.lt, .inl rfl, Dst.ok_new h8 h4, Nat.zero_le _, Nat.zero_le _, fun _ _ _ => rfl, kN, n, kF, n, _, 0, 0, hv, rfl, .inl ⟨by show (-1 : Int) < 0; decide, rfl⟩⟩

section
variable (w : World)
set_option maxHeartbeats 8000000 in
set_option maxRecDepth 100000 in
theorem dNew_no (n : Int) (h : n < 8 ∨ 4096 < n) :
    Calls Try.prog 9 #[.int .i64 n] w fun e w' => e = .returned (.tuple #[.pointer none, .int .i64 2]) ∧ Below w.heap.size w w' := by
  rcases h with h | h
  · go_enter Try.func9, Try.ntmps9
    go_wp2
    go_ret2
    exact ⟨rfl, Below.refl _ _⟩
  · have h2 : ¬ n < 8 := by omega
    go_enter Try.func9, Try.ntmps9
    go_wp2
    go_ret2
    exact ⟨rfl, Below.refl _ _⟩
set_option maxHeartbeats 16000000 in
set_option maxRecDepth 100000 in
theorem dNew_of (n : Nat) (h8 : 8 ≤ n) (hm : n ≤ 4096) :
    Calls Try.prog 9 #[.int .i64 (n : Nat)] w fun e w' => ∃ g F, e = .returned (.tuple #[.pointer (some ⟨g, 0, none⟩), .int .i64 0]) ∧ PDk w.heap.size w' g F (Dst.new n) ∧ Below w.heap.size w w' := by
  have i1 : ¬ (n : Int) < 8 := by omega
  have i2 : ¬ (4096 : Int) < (n : Int) := by omega
  obtain ⟨i0, hi, hz0, hz1, hz2⟩ := info_parts Try.infoBlk
  go_enter Try.func9, Try.ntmps9
  go_upto_region 3 with fail
  refine wp_region_z (fun _ => True) 8 (by kernel_rfl) trivial (fun hS => ?_)
  refine wpAnyZ_take (i := 0) (v := .int .i64 (n : Nat)) rfl (by kernel_rfl) (by kernel_rfl) (by kernel_rfl) (by kernel_rfl) (fun _ _ _ h => h) hS (Or.inl ⟨by kernel_rfl, fun w hS => (by clear hS; go_simp)⟩) ?_
  simp only [Act.put, List.setIfInBounds_toArray, List.set_cons_zero, List.set_cons_succ]
  refine wpAnyZ_take (i := 2) (v := .int .i64 (n : Nat)) rfl (by kernel_rfl) (by kernel_rfl) (by kernel_rfl) (by kernel_rfl) (fun _ _ _ h => h) hS (Or.inl ⟨by kernel_rfl, fun w hS => (by clear hS; go_simp)⟩) ?_
  simp only [Act.put, List.setIfInBounds_toArray, List.set_cons_zero, List.set_cons_succ]
  refine wpAnyZ_two (i := 1) (j := 3) (by kernel_rfl) rfl rfl (fun K hK => ?_) (fun K hK => ?_)
  · refine step_make_arr rfl (.tmp 10) (.tmp 10) 66 rfl 81 i0 256 (by decide) (by decide) Try.underlying66 hi hz0 hz1 hz2 n rfl rfl (by omega) ?_
    refine hK.out _ _ (fun _ => trivial) ?_
    clear hK K
    try simp only [Act.put, List.setIfInBounds_toArray, List.set_cons_zero, List.set_cons_succ]
    refine wpAnyZ_one (i := 3) (by kernel_rfl) rfl (fun K hK => ?_)
    refine step_make_arr rfl (.tmp 12) (.tmp 12) 66 rfl 81 i0 256 (by decide) (by decide) Try.underlying66 hi hz0 hz1 hz2 n rfl rfl (by omega) ?_
    refine hK.out _ _ (fun _ => trivial) ?_
    clear hK K
    try simp only [Act.put, List.setIfInBounds_toArray, List.set_cons_zero, List.set_cons_succ]
    obtain ⟨F, HK⟩ := pdk_new w n h8 hm (w.heap.size) (w.heap.size + 1) (by simp) 81 69
    have HKh := hid HK.drew
    clear HK
    have HB : Hid (Below w.heap.size w (((w.alloc (.cells (vals (n * 256) fun _ => 0).toArray 81)).alloc (.cells (vals (n * 256) fun _ => 0).toArray 81)).alloc (.cells #[.slice (some ⟨(w.heap.size), 0, none⟩) n n, .slice (some ⟨(w.heap.size + 1), 0, none⟩) n n, .slice none 0 0, .bool false, .int .u64 0, .int .u64 0, .int .u64 0] 69)).drew) := hid ((((Below.refl w.heap.size w).alloc (Nat.le_refl _) _).alloc (by simp) _).alloc (by simp; omega) _).drew
    refine wpAnyZ_take (i := 4) (v := .agg #[.slice (some ⟨(w.heap.size), 0, none⟩) n n, .slice (some ⟨(w.heap.size + 1), 0, none⟩) n n, .slice none 0 0, .bool false, .int .u64 0, .int .u64 0, .int .u64 0]) rfl (by kernel_rfl) (by kernel_rfl) (by kernel_rfl) (by kernel_rfl) (fun _ _ _ h => h) hS (Or.inl ⟨by kernel_rfl, fun w hS => (by clear hS; go_simp)⟩) ?_
    simp only [Act.put, List.setIfInBounds_toArray, List.set_cons_zero, List.set_cons_succ]
    refine wpAnyZ_one (i := 5) (by kernel_rfl) rfl (fun K hK => ?_)
    go_simp
    refine hK.out _ _ (fun _ => trivial) ?_
    clear hK K
    try simp only [Act.put, List.setIfInBounds_toArray, List.set_cons_zero, List.set_cons_succ]
    refine wpAnyZ_take (i := 6) (v := .pointer (some ⟨w.heap.size + 1 + 1, 0, none⟩)) rfl (by kernel_rfl) (by kernel_rfl) (by kernel_rfl) (by kernel_rfl) (fun _ _ _ h => h) hS (Or.inl ⟨by kernel_rfl, fun w hS => (by clear hS; go_simp)⟩) ?_
    simp only [Act.put, List.setIfInBounds_toArray, List.set_cons_zero, List.set_cons_succ]
    refine wpAnyZ_take (i := 7) (v := .int .i64 0) rfl (by kernel_rfl) (by kernel_rfl) (by kernel_rfl) (by kernel_rfl) (fun _ _ _ h => h) hS (Or.inl ⟨by kernel_rfl, fun w hS => (by clear hS; go_simp)⟩) ?_
    simp only [Act.put, List.setIfInBounds_toArray, List.set_cons_zero, List.set_cons_succ]
    refine wpAnyZ_done (by kernel_rfl) ?_ _
    go_wp2 
    go_ret2
    exact ⟨_, rfl, ⟨F, HKh.out⟩, HB.out⟩
  · refine step_make_arr rfl (.tmp 12) (.tmp 12) 66 rfl 81 i0 256 (by decide) (by decide) Try.underlying66 hi hz0 hz1 hz2 n rfl rfl (by omega) ?_
    refine hK.out _ _ (fun _ => trivial) ?_
    clear hK K
    try simp only [Act.put, List.setIfInBounds_toArray, List.set_cons_zero, List.set_cons_succ]
    refine wpAnyZ_one (i := 1) (by kernel_rfl) rfl (fun K hK => ?_)
    refine step_make_arr rfl (.tmp 10) (.tmp 10) 66 rfl 81 i0 256 (by decide) (by decide) Try.underlying66 hi hz0 hz1 hz2 n rfl rfl (by omega) ?_
    refine hK.out _ _ (fun _ => trivial) ?_
    clear hK K
    try simp only [Act.put, List.setIfInBounds_toArray, List.set_cons_zero, List.set_cons_succ]
    obtain ⟨F, HK⟩ := pdk_new w n h8 hm (w.heap.size + 1) (w.heap.size) (by simp) 81 69
    have HKh := hid HK.drew
    clear HK
    have HB : Hid (Below w.heap.size w (((w.alloc (.cells (vals (n * 256) fun _ => 0).toArray 81)).alloc (.cells (vals (n * 256) fun _ => 0).toArray 81)).alloc (.cells #[.slice (some ⟨(w.heap.size + 1), 0, none⟩) n n, .slice (some ⟨(w.heap.size), 0, none⟩) n n, .slice none 0 0, .bool false, .int .u64 0, .int .u64 0, .int .u64 0] 69)).drew) := hid ((((Below.refl w.heap.size w).alloc (Nat.le_refl _) _).alloc (by simp) _).alloc (by simp; omega) _).drew
    refine wpAnyZ_take (i := 4) (v := .agg #[.slice (some ⟨(w.heap.size + 1), 0, none⟩) n n, .slice (some ⟨(w.heap.size), 0, none⟩) n n, .slice none 0 0, .bool false, .int .u64 0, .int .u64 0, .int .u64 0]) rfl (by kernel_rfl) (by kernel_rfl) (by kernel_rfl) (by kernel_rfl) (fun _ _ _ h => h) hS (Or.inl ⟨by kernel_rfl, fun w hS => (by clear hS; go_simp)⟩) ?_
    simp only [Act.put, List.setIfInBounds_toArray, List.set_cons_zero, List.set_cons_succ]
    refine wpAnyZ_one (i := 5) (by kernel_rfl) rfl (fun K hK => ?_)
    go_simp
    refine hK.out _ _ (fun _ => trivial) ?_
    clear hK K
    try simp only [Act.put, List.setIfInBounds_toArray, List.set_cons_zero, List.set_cons_succ]
    refine wpAnyZ_take (i := 6) (v := .pointer (some ⟨w.heap.size + 1 + 1, 0, none⟩)) rfl (by kernel_rfl) (by kernel_rfl) (by kernel_rfl) (by kernel_rfl) (fun _ _ _ h => h) hS (Or.inl ⟨by kernel_rfl, fun w hS => (by clear hS; go_simp)⟩) ?_
    simp only [Act.put, List.setIfInBounds_toArray, List.set_cons_zero, List.set_cons_succ]
    refine wpAnyZ_take (i := 7) (v := .int .i64 0) rfl (by kernel_rfl) (by kernel_rfl) (by kernel_rfl) (by kernel_rfl) (fun _ _ _ h => h) hS (Or.inl ⟨by kernel_rfl, fun w hS => (by clear hS; go_simp)⟩) ?_
    simp only [Act.put, List.setIfInBounds_toArray, List.set_cons_zero, List.set_cons_succ]
    refine wpAnyZ_done (by kernel_rfl) ?_ _
    go_wp2 
    go_ret2
    exact ⟨_, rfl, ⟨F, HKh.out⟩, HB.out⟩
end
end Go.Proofs.Ytlbhoijjbpjmoaa
