/-
  The program's device: has, Blocks, Steps, Waiting, Down, Read, Firm.
-/
import Derived.Test.YtlbhoijjbpjmoaaPdv
import Derived.Test.YtlbhoijjbpjmoaaKa
namespace Go.Proofs.Ytlbhoijjbpjmoaa
open Go.RowKit
set_option linter.unusedVariables false
set_option linter.unusedSimpArgs false

theorem Try.sizeBlk : (Try.prog.info? 81).map (·.size) = some 256 := by kernel_rfl
theorem Try.sizeWr : (Try.prog.info? 83).map (·.size) = some 257 := by kernel_rfl
theorem Try.zeroBlk (w : World) : (zeroValue 81).run Try.prog w = .ok (.agg (vals 256 fun _ => 0).toArray) w := by kernel_rfl

theorem heap_setCells_row {g : Nat} {e : TypeId} : ∀ (vs : List Value) (o : Nat) (w : World) (cs : Array Value), w.heap[g]? = some (.cells cs e (0, 0)) → ∃ cs', (w.setCells g o vs).heap[g]? = some (.cells cs' e (0, 0)) ∧ cs'.size = cs.size
  | [], _, _, cs, h => ⟨cs, h, rfl⟩
  | v :: r, o, w, cs, h => by
    obtain ⟨cs', h1, h2⟩ := heap_setCells_row r (o + 1) (w.setCell ⟨g, o, none⟩ v) (cs.setIfInBounds o v) (heap_setCell_same w g o cs e v h)
    exact ⟨cs', h1, by rw [h2]; simp⟩
/-- An array of bytes as a slice. -/
theorem ort_of {w : World} {B g : Nat} {e : TypeId} {cs : Array Value} {xs : List Int} (hh : w.heap[g]? = some (.cells cs e (0, 0))) (hs : cs.size = 256) (ha : Arr w g 256 (flat1 xs)) (ho : xs.length = 256 ∧ Oct xs) (hB : B ≤ g) :
    Ort B w (.slice (some ⟨g, 0, none⟩) 256 256) 256 xs := by
  refine ⟨e, by rw [List.length_map, ho.1], .inr ⟨g, 256, cs, rfl, hB, hh, Nat.le_refl _, by unfold maxLen; omega, by rw [hs], ?_⟩⟩
  rw [← flat1_vals ho, List.take_of_length_le (by rw [Array.length_toList, hs]; omega)]
  refine List.ext_getElem? fun j => ?_
  by_cases hj : j < 256
  · rw [vals_at _ _ _ hj, ← (ha j hj).1, cell_of_row w g j cs e (0, 0) hh, Array.getElem?_toList]
  · rw [List.getElem?_eq_none (by rw [Array.length_toList, hs]; omega), List.getElem?_eq_none (by rw [vals_length]; omega)]
theorem ort_box {w : World} {B : Nat} {e : TypeId} {xs : List Int} (ho : xs.length = 256 ∧ Oct xs) (hB : B ≤ w.heap.size) :
    Ort B ((w.alloc (.cells (vals 256 fun _ => 0).toArray e)).setCells w.heap.size 0 (vals 256 (flat1 xs))) (.slice (some ⟨w.heap.size, 0, none⟩) 256 256) 256 xs := by
  obtain ⟨cs, h1, h2⟩ := heap_setCells_row (g := w.heap.size) (e := e) (vals 256 (flat1 xs)) 0 _ _ (heap_alloc_new w (.cells (vals 256 fun _ => 0).toArray e))
  exact ort_of h1 (by rw [h2, List.size_toArray, vals_length]) ((arr_new w 256 (fun _ => 0) e).put (flat1 xs)) ho hB

section
variable {B g : Nat} {F : Nat → Prop} {S : Dst} {w : World}
set_option maxHeartbeats 4000000 in
set_option maxRecDepth 100000 in
theorem dHas_at (h : PDk B w g F S) (i : Int) : Calls Try.prog 48 #[.pointer (some ⟨g, 0, none⟩), .int .i64 i] w fun e w' => e = .returned (.bool (S.has i)) ∧ w = w' := by
  obtain ⟨kN, cN, kF, cF, vW, fl, ct, hv, _⟩ := h.at'
  have c0 := hv.c0
  unfold Dst.has
  obtain ⟨n, hn'⟩ : ∃ n, Hid (n = S.n) := ⟨_, rfl⟩
  rw [← hn'.out] at c0 ⊢
  clear hv h
  by_cases h0 : 0 ≤ i
  · have e0 : decide (0 ≤ i) = true := decide_eq_true h0
    by_cases h1 : i < (n : Int)
    · have e1 : decide (i < (n : Int)) = true := decide_eq_true h1
      rw [e0, e1]
      clear e0 e1
      go_enter Try.func48, Try.ntmps48
      go_wp2
      go_ret
      exact ⟨rfl, rfl⟩
    · have e1 : decide (i < (n : Int)) = false := decide_eq_false h1
      rw [e0, e1]
      clear e0 e1
      go_enter Try.func48, Try.ntmps48
      go_wp2
      go_ret
      exact ⟨rfl, rfl⟩
  · have e0 : decide (0 ≤ i) = false := decide_eq_false h0
    rw [e0]
    clear e0
    go_enter Try.func48, Try.ntmps48
    go_wp2
    go_ret
    exact ⟨rfl, rfl⟩
set_option maxHeartbeats 4000000 in
set_option maxRecDepth 100000 in
theorem dSteps_at (h : PDk B w g F S) : Calls Try.prog 25 #[.pointer (some ⟨g, 0, none⟩)] w fun e w' => e = .returned (.int .u64 (S.steps : Nat)) ∧ Below w.heap.size w w' := by
  obtain ⟨kN, cN, kF, cF, vW, fl, ct, hv, _⟩ := h.at'
  have cc := hv.c4
  have HW := hid hv.rW
  clear h hv
  skip
  go_enter Try.func25, Try.ntmps25
  go_wp2
  go_ret
  exact ⟨rfl, Below.refl _ _⟩
set_option maxHeartbeats 4000000 in
set_option maxRecDepth 100000 in
theorem dDown_at (h : PDk B w g F S) : Calls Try.prog 26 #[.pointer (some ⟨g, 0, none⟩)] w fun e w' => e = .returned (.bool S.down) ∧ Below w.heap.size w w' := by
  obtain ⟨kN, cN, kF, cF, vW, fl, ct, hv, _⟩ := h.at'
  have cc := hv.c3
  have HW := hid hv.rW
  clear h hv
  skip
  go_enter Try.func26, Try.ntmps26
  go_wp2
  go_ret
  exact ⟨rfl, Below.refl _ _⟩
set_option maxHeartbeats 8000000 in
set_option maxRecDepth 100000 in
theorem dRead_at (h : PDk B w g F S) (i : Int) (hi : (Lit.int .i64 i).wf = true) :
    Calls Try.prog 37 #[.pointer (some ⟨g, 0, none⟩), .int .i64 i] w fun e w' => ∃ v, e = .returned (.tuple #[v, .int .i64 (S.readE i)]) ∧ Ort w.heap.size w' v (S.readL i).length (S.readL i) ∧ Below w.heap.size w w' := by
  have hh := dHas_at h i
  obtain ⟨kN, cN, kF, cF, vW, fl, ct, hv, _⟩ := h.at'
  have cc := hv.c0
  have c3 := hv.c3
  unfold Dst.readE Dst.readL
  by_cases h1 : S.has i = false
  · rw [if_pos h1, if_pos h1]
    rw [h1] at hh
    clear hv h
    go_enter Try.func37, Try.ntmps37
    go_wp2_with fail
    refine hh.mono ?_
    rintro e w1 ⟨rfl, rfl⟩
    go_wp2
    go_ret2
    exact ⟨_, rfl, Ort.nil _ _, Below.refl _ _⟩
  · rw [if_neg h1, if_neg h1]
    obtain ⟨hi0, hi1, hi2⟩ := Dst.has_lt h1
    have h1t : S.has i = true := by simpa using h1
    rw [h1t] at hh
    by_cases h2 : S.down = true
    · rw [if_pos h2, if_pos h2]
      rw [h2] at c3
      clear hv h
      go_enter Try.func37, Try.ntmps37
      go_wp2_with fail
      refine hh.mono ?_
      rintro e w1 ⟨rfl, rfl⟩
      go_wp2
      go_ret2
      exact ⟨_, rfl, Ort.nil _ _, Below.refl _ _⟩
    · rw [if_neg h2, if_neg h2]
      rw [show S.down = false by simpa using h2] at c3
      obtain ⟨k, rfl⟩ : ∃ k : Nat, i = (k : Int) := ⟨i.toNat, by omega⟩
      rw [Int.toNat_natCast] at hi2 ⊢
      have hR := hv.aN.blk hi2
      have ho := h.ok.now k hi2
      have hl := ho.1
      obtain ⟨L, hL⟩ : ∃ l, Hid (l = S.now k) := ⟨_, rfl⟩
      rw [← hL.out] at hR ho hl ⊢
      rw [hl]
      obtain ⟨n, hn'⟩ : ∃ n, Hid (n = S.n) := ⟨_, rfl⟩
      rw [← hn'.out] at cc hi1 hi2
      have hub := Try.underlying81
      have hib := Try.sizeBlk
      have hzb := Try.zeroBlk
      have hA0 := hid (arr_new w 256 (fun _ => 0) 81)
      have hO := hid (ort_box (w := w) (B := w.heap.size) (e := 81) ho (Nat.le_refl _))
      have hB := hid (below_setCells (b := w.heap.size) (vals 256 (flat1 L)) 0 ((Below.refl w.heap.size w).alloc (Nat.le_refl _) (.cells (vals 256 fun _ => 0).toArray 81)) (Nat.le_refl _))
      have HR := hid hR
      clear hv h hR ho hl
      go_enter Try.func37, Try.ntmps37
      go_wp2_with fail
      refine hh.mono ?_
      rintro e w1 ⟨rfl, rfl⟩
      clear hh
      go_wp2_with (first | (refine wpList_load_mid rfl 81 _ rfl kN _ rfl (vals 256 (flat1 L)) _ ?_ hub rfl hib ?_; exact HR.out) | (refine wpList_store_arr rfl 81 _ _ rfl _ 256 (flat1 L) rfl rfl (fun _ => 0) ?_ hib ?_; exact hA0.out))
      go_ret2
      exact ⟨_, rfl, hO.out, hB.out⟩
set_option maxHeartbeats 8000000 in
set_option maxRecDepth 100000 in
theorem dFirm_at (h : PDk B w g F S) (i : Int) (hi : (Lit.int .i64 i).wf = true) :
    Calls Try.prog 45 #[.pointer (some ⟨g, 0, none⟩), .int .i64 i] w fun e w' => ∃ v, e = .returned (.tuple #[v, .int .i64 (S.firmE i)]) ∧ Ort w.heap.size w' v (S.firmL i).length (S.firmL i) ∧ Below w.heap.size w w' := by
  have hh := dHas_at h i
  obtain ⟨kN, cN, kF, cF, vW, fl, ct, hv, _⟩ := h.at'
  have cc := hv.c1
  have c3 := hv.c3
  unfold Dst.firmE Dst.firmL
  by_cases h1 : S.has i = false
  · rw [if_pos h1, if_pos h1]
    rw [h1] at hh
    clear hv h
    go_enter Try.func45, Try.ntmps45
    go_wp2_with fail
    refine hh.mono ?_
    rintro e w1 ⟨rfl, rfl⟩
    go_wp2
    go_ret2
    exact ⟨_, rfl, Ort.nil _ _, Below.refl _ _⟩
  · rw [if_neg h1, if_neg h1]
    obtain ⟨hi0, hi1, hi2⟩ := Dst.has_lt h1
    have h1t : S.has i = true := by simpa using h1
    rw [h1t] at hh
    clear c3
    obtain ⟨k, rfl⟩ : ∃ k : Nat, i = (k : Int) := ⟨i.toNat, by omega⟩
    rw [Int.toNat_natCast] at hi2 ⊢
    have hR := hv.aF.blk hi2
    have ho := h.ok.firm k hi2
    have hl := ho.1
    obtain ⟨L, hL⟩ : ∃ l, Hid (l = S.firm k) := ⟨_, rfl⟩
    rw [← hL.out] at hR ho hl ⊢
    rw [hl]
    obtain ⟨n, hn'⟩ : ∃ n, Hid (n = S.n) := ⟨_, rfl⟩
    rw [← hn'.out] at cc hi1 hi2
    have hub := Try.underlying81
    have hib := Try.sizeBlk
    have hzb := Try.zeroBlk
    have hA0 := hid (arr_new w 256 (fun _ => 0) 81)
    have hO := hid (ort_box (w := w) (B := w.heap.size) (e := 81) ho (Nat.le_refl _))
    have hB := hid (below_setCells (b := w.heap.size) (vals 256 (flat1 L)) 0 ((Below.refl w.heap.size w).alloc (Nat.le_refl _) (.cells (vals 256 fun _ => 0).toArray 81)) (Nat.le_refl _))
    have HR := hid hR
    clear hv h hR ho hl
    go_enter Try.func45, Try.ntmps45
    go_wp2_with fail
    refine hh.mono ?_
    rintro e w1 ⟨rfl, rfl⟩
    clear hh
    go_wp2_with (first | (refine wpList_load_mid rfl 81 _ rfl kF _ rfl (vals 256 (flat1 L)) _ ?_ hub rfl hib ?_; exact HR.out) | (refine wpList_store_arr rfl 81 _ _ rfl _ 256 (flat1 L) rfl rfl (fun _ => 0) ?_ hib ?_; exact hA0.out))
    go_ret2
    exact ⟨_, rfl, hO.out, hB.out⟩
end
end Go.Proofs.Ytlbhoijjbpjmoaa
