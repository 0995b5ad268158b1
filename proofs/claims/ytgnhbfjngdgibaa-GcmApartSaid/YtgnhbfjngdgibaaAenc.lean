/-
  The contract of Encrypt.
-/
import Derived.Test.YtgnhbfjngdgibaaKd
import Derived.Test.YtgnhbfjngdgibaaKa
import Derived.Deep.CutRange
import Derived.Deep.DeepCutAuto
namespace Go.Proofs.Ytgnhbfjngdgibaa
open Go.RowKit
set_option linter.unusedVariables false
set_option linter.unusedSimpArgs false

/-- What is kept while a block is enciphered: the cipher, the result's place, and all of before. -/
def Inv (w0 : World) (c k r : Nat) (F : Nat → Nat) (wr : World) : Prop :=
  Cip wr c k r F ∧ (c < w0.heap.size ∧ k < w0.heap.size) ∧ Arr wr (w0.heap.size + 1) 16 (fun _ => 0) ∧ Below w0.heap.size w0 wr
theorem Inv.grow {w0 w w' : World} {c k r : Nat} {F : Nat → Nat} (h : Inv w0 c k r F w) (hb : Below w.heap.size w w') : Inv w0 c k r F w' :=
  ⟨h.1.below hb, h.2.1, h.2.2.1.below hb, h.2.2.2.trans (hb.mono h.2.2.2.size)⟩
theorem Inv.grow' {w0 w w' : World} {c k r B : Nat} {F : Nat → Nat} (h : Inv w0 c k r F w) (hB : w0.heap.size + 1 < B) (hb : Below B w w') : Inv w0 c k r F w' :=
  ⟨h.1.below' (by have := h.2.1; omega) (by have := h.2.1; omega) hb, h.2.1, h.2.2.1.below' hB hb, h.2.2.2.trans (hb.mono (by omega))⟩
theorem Inv.size {w0 w : World} {c k r : Nat} {F : Nat → Nat} (h : Inv w0 c k r F w) : w0.heap.size + 1 < w.heap.size := h.2.2.1.lt (by decide)

/-- The cipher's keys, a state in block b, the key from o on, and what is kept. -/
abbrev St (w0 : World) (c k r : Nat) (F : Nat → Nat) (b : Nat) (x : Nat → Nat) (o : Nat) (y : Nat → Nat) (wr : World) : Prop :=
  wr.cell? ⟨c, 0, none⟩ = some (.slice (some ⟨k, 0, none⟩) (r + 1) (r + 1)) ∧ wr.rangeAt b 0 (vals 16 x) ∧ wr.rangeAt k o (vals 16 y) ∧ Inv w0 c k r F wr
theorem range_below {w w' : World} {b o : Nat} {cs : List Value} (h : w.rangeAt b o cs) (hn : 0 < cs.length) (hb : Below w.heap.size w w') : w'.rangeAt b o cs := fun j v hv => by
  have h0 := h 0 _ (List.getElem?_eq_getElem hn)
  have hl : b < w.heap.size := World.block_lt_of_cell? w _ h0
  exact (hb.cell (p := ⟨b, o + j, none⟩) hl).trans (h j v hv)
theorem St.grow {w0 w w' : World} {c k r : Nat} {F : Nat → Nat} {b : Nat} {x : Nat → Nat} {o : Nat} {y : Nat → Nat} (h : St w0 c k r F b x o y w) (hb : Below w.heap.size w w') : St w0 c k r F b x o y w' :=
  ⟨(h.2.2.2.1.below hb).1, range_below h.2.1 (by rw [vals_length]; decide) hb, range_below h.2.2.1 (by rw [vals_length]; decide) hb, h.2.2.2.grow hb⟩
theorem St.drew {w0 w : World} {c k r : Nat} {F : Nat → Nat} {b : Nat} {x : Nat → Nat} {o : Nat} {y : Nat → Nat} (h : St w0 c k r F b x o y w) : St w0 c k r F b x o y w.drew := h.grow (Below.refl _ _).drew
theorem St.alloc {w0 w : World} {c k r : Nat} {F : Nat → Nat} {b : Nat} {x : Nat → Nat} {o : Nat} {y : Nat → Nat} (h : St w0 c k r F b x o y w) (z : Obj) : St w0 c k r F b x o y (w.alloc z) := h.grow ((Below.refl _ _).alloc (Nat.le_refl _) _)
/-- A new array in the callee's world, or in the world ahead of it. -/
theorem new_there (w : World) (t : TypeId) : (w.alloc (.cells (vals 16 fun _ => 0).toArray t)).there w.heap.size 0 16 := (arr_new w 16 (fun _ => 0) t).there
theorem old_there {w w' : World} {t : TypeId} (hb : Below (w.alloc (.cells (vals 16 fun _ => 0).toArray t)).heap.size (w.alloc (.cells (vals 16 fun _ => 0).toArray t)) w') : w'.there w.heap.size 0 16 := ((arr_new w 16 (fun _ => 0) t).below hb).there

theorem Inv.put {w0 w : World} {c k r g : Nat} {F : Nat → Nat} (h : Inv w0 c k r F w) (hg : w0.heap.size + 1 < g) (vs : List Value) : Inv w0 c k r F (w.setCells g 0 vs) :=
  h.grow' (Nat.lt_succ_self _) (below_setCells vs 0 (Below.refl _ _) (by omega))
theorem Cip.st {w0 w : World} {c k r : Nat} {F : Nat → Nat} (h : Inv w0 c k r F w) {b : Nat} {x : Nat → Nat} (hb : Arr w b 16 x) (j : Nat) (hj : j ≤ r) (o : Nat) (ho : o = 16 * j) : St w0 c k r F b x o (fun p => F (16 * j + p)) w :=
  ⟨h.1.1, hb.range, by rw [ho]; exact h.1.2.2.2.part (by omega), h⟩

/-- Two states, and what is kept. -/
abbrev S2 (w0 : World) (c k r : Nat) (F : Nat → Nat) (b : Nat) (x : Nat → Nat) (d : Nat) (y : Nat → Nat) (wr : World) : Prop := Arr wr b 16 x ∧ Arr wr d 16 y ∧ Inv w0 c k r F wr
theorem S2.grow {w0 w w' : World} {c k r : Nat} {F : Nat → Nat} {b : Nat} {x : Nat → Nat} {d : Nat} {y : Nat → Nat} (h : S2 w0 c k r F b x d y w) (hb : Below w.heap.size w w') : S2 w0 c k r F b x d y w' := ⟨h.1.below hb, h.2.1.below hb, h.2.2.grow hb⟩
theorem S2.drew {w0 w : World} {c k r : Nat} {F : Nat → Nat} {b : Nat} {x : Nat → Nat} {d : Nat} {y : Nat → Nat} (h : S2 w0 c k r F b x d y w) : S2 w0 c k r F b x d y w.drew := h.grow (Below.refl _ _).drew

set_option maxHeartbeats 8000000 in
set_option maxRecDepth 100000 in
theorem encrypt_any (c k r : Nat) (F x : Nat → Nat) (w : World) (oF : ∀ j, F j < 256) (ox : ∀ j, x j < 256) (hr : 1 ≤ r) (hr2 : r ≤ 14) (hC : Cip w c k r F) :
    Calls Try.prog 37 #[.pointer (some ⟨c, 0, none⟩), .agg (vals 16 x).toArray] w fun e w' =>
      e = .returned (.tuple #[.agg (vals 16 (enc F r x)).toArray, .int .i64 0]) ∧ Below w.heap.size w w' := by
  have hz := Try.zeroState
  have hzb := Try.zeroBlock
  have hus := Try.underlying77
  have hub := Try.underlying44
  have his := Try.sizeState
  have hib := Try.sizeBlock
  have hvl := vals_length 16
  obtain ⟨wa, hwa, b1, b2, hB, hsz⟩ := boxes2 w 16 x (fun _ => 0) 44 44
  have HI := hid (show Inv w c k r F wa from ⟨hC.below hB, hC.lt, b2, hB⟩)
  have h0 := HI.out.1.1
  have B1 := hid b1
  clear hC b1 b2 hB
  go_enter Try.func37, Try.ntmps37
  go_wp2_with fail
  rw [← hwa.out]
  refine (absent_no c k r F _ HI.out.1).mono ?_
  rintro e w' ⟨rfl, rfl⟩
  go_upto_region 4 with fail
  have hs := hid (Cip.st HI.out B1.out 0 (Nat.zero_le _) 0 rfl)
  clear hwa hsz
  go_cut [7] (fun s wx => ∃ g : Nat, s = .pointer (some ⟨g, 0, none⟩) ∧ w.heap.size + 1 < g ∧ Arr wx g 16 (encN F 0 x) ∧ Inv w c k r F wx)
  case first =>
    have ofk : ∀ p, F (16 * 0 + p) < 256 := fun p => oF _
    refine wp_region_z (St w c k r F w.heap.size x 0 (fun p => F (16 * 0 + p))) 9 (by kernel_rfl) hs.out.drew (fun hS => ?_)
    refine wpAnyZ_take (i := 0) rfl (by kernel_rfl) (by kernel_rfl) (by kernel_rfl) (by kernel_rfl) (fun _ _ _ h => h) hS (yieldsIf_load_mid (by kernel_rfl) 44 (.tmp 3) rfl w.heap.size 0 (by kernel_rfl) (vals 16 x) _ (fun w hS => hS.2.1) hub rfl hib) ?_
    simp only [Act.put, List.setIfInBounds_toArray, List.set_cons_zero, List.set_cons_succ]
    refine wpAnyZ_take (i := 1) (v := .pointer (some ⟨c, 0, none⟩)) rfl (by kernel_rfl) (by kernel_rfl) (by kernel_rfl) (by kernel_rfl) (fun _ _ _ h => h) hS (Or.inl ⟨by kernel_rfl, fun w hS => (by clear hS; go_simp)⟩) ?_
    simp only [Act.put, List.setIfInBounds_toArray, List.set_cons_zero, List.set_cons_succ]
    refine wpAnyZ_take (i := 2) (v := .pointer (some ⟨c, 0, none⟩)) rfl (by kernel_rfl) (by kernel_rfl) (by kernel_rfl) (by kernel_rfl) (fun _ _ _ h => h) hS (Or.inl ⟨by kernel_rfl, fun w hS => (by clear hS; go_simp)⟩) ?_
    simp only [Act.put, List.setIfInBounds_toArray, List.set_cons_zero, List.set_cons_succ]
    refine wpAnyZ_take (i := 3) (v := .pointer (some ⟨c, 0, none⟩)) rfl (by kernel_rfl) (by kernel_rfl) (by kernel_rfl) (by kernel_rfl) (fun _ _ _ h => h) hS (Or.inl ⟨by kernel_rfl, fun w hS => (by clear hS; go_simp)⟩) ?_
    simp only [Act.put, List.setIfInBounds_toArray, List.set_cons_zero, List.set_cons_succ]
    refine wpAnyZ_take (i := 4) (v := .slice (some ⟨k, 0, none⟩) (r + 1) (r + 1)) rfl (by kernel_rfl) (by kernel_rfl) (by kernel_rfl) (by kernel_rfl) (fun _ _ _ h => h) hS (Or.inl ⟨by kernel_rfl, fun w hS => (by have h := hS.1; clear hS; go_simp)⟩) ?_
    simp only [Act.put, List.setIfInBounds_toArray, List.set_cons_zero, List.set_cons_succ]
    refine wpAnyZ_take (i := 5) (v := .pointer (some ⟨k, 0, none⟩)) rfl (by kernel_rfl) (by kernel_rfl) (by kernel_rfl) (by kernel_rfl) (fun _ _ _ h => h) hS (Or.inl ⟨by kernel_rfl, fun w hS => (by clear hS; go_simp)⟩) ?_
    simp only [Act.put, List.setIfInBounds_toArray, List.set_cons_zero, List.set_cons_succ]
    refine wpAnyZ_take (i := 6) rfl (by kernel_rfl) (by kernel_rfl) (by kernel_rfl) (by kernel_rfl) (fun _ _ _ h => h) hS (yieldsIf_load_mid (by kernel_rfl) 77 (.tmp 24) rfl k 0 (by kernel_rfl) (vals 16 (fun p => F (16 * 0 + p))) _ (fun w hS => hS.2.2.1) hus rfl his) ?_
    simp only [Act.put, List.setIfInBounds_toArray, List.set_cons_zero, List.set_cons_succ]
    refine wpAnyZ_two (i := 7) (j := 8) (by kernel_rfl) rfl rfl (fun K hK => ?_) (fun K hK => ?_)
    · go_simp
      go_at_call 49
      refine (plus_any x (fun p => F (16 * 0 + p)) _ ox ofk).mono ?_
      rintro e w' ⟨rfl, hb⟩
      go_wp2_with fail
      refine hK.out _ _ (fun _ => hS.grow hb) ?_
      replace hS := hS.grow hb
      clear hK K
      try simp only [Act.put, List.setIfInBounds_toArray, List.set_cons_zero, List.set_cons_succ]
      refine wpAnyZ_one (i := 8) (by kernel_rfl) rfl (fun K hK => ?_)
      go_simp
      refine hK.out _ _ (fun _ => hS.alloc _) ?_
      have hT := new_there w' 77
      have hAn := arr_new w' 16 (fun _ => 0) 77
      have hI := (hS.alloc (.cells (vals 16 fun _ => 0).toArray 77)).2.2.2
      have hg := hS.2.2.2.size
      clear hK K
      try simp only [Act.put, List.setIfInBounds_toArray, List.set_cons_zero, List.set_cons_succ]
      refine wpAnyZ_one (i := 9) (by kernel_rfl) rfl (fun K hK => ?_)
      rw [if_pos (by rfl)]
      refine wp_store_arr _ _ _ rfl w'.heap.size 16 (fun j => x j ^^^ F (16 * 0 + j)) rfl rfl hT his ?_
      try simp only [Act.put, List.setIfInBounds_toArray, List.set_cons_zero, List.set_cons_succ]
      refine hK.out _ _ (fun h => absurd h (by decide)) ?_
      clear hK K
      refine wpAnyZ_done (by kernel_rfl) ?_ _
      go_wp2_with fail
      go_meet
      exact ⟨w'.heap.size, rfl, by omega, hAn.put _, hI.put (by omega) _⟩
    · go_simp
      refine hK.out _ _ (fun _ => hS.alloc _) ?_
      replace hS := hS.alloc (.cells (vals 16 fun _ => 0).toArray 77)
      have hg := HI.out.size
      clear hK K
      try simp only [Act.put, List.setIfInBounds_toArray, List.set_cons_zero, List.set_cons_succ]
      refine wpAnyZ_one (i := 7) (by kernel_rfl) rfl (fun K hK => ?_)
      go_simp
      go_at_call 49
      refine (plus_any x (fun p => F (16 * 0 + p)) _ ox ofk).mono ?_
      rintro e w' ⟨rfl, hb⟩
      go_wp2_with fail
      refine hK.out _ _ (fun _ => hS.grow hb) ?_
      replace hS := hS.grow hb
      clear hK K
      try simp only [Act.put, List.setIfInBounds_toArray, List.set_cons_zero, List.set_cons_succ]
      have hAn := Arr.below (arr_new wa 16 (fun _ => 0) 77).drew hb
      have hT := hAn.there
      have hI := hS.2.2.2
      refine wpAnyZ_one (i := 9) (by kernel_rfl) rfl (fun K hK => ?_)
      rw [if_pos (by rfl)]
      refine wp_store_arr _ _ _ rfl wa.heap.size 16 (fun j => x j ^^^ F (16 * 0 + j)) rfl rfl hT his ?_
      try simp only [Act.put, List.setIfInBounds_toArray, List.set_cons_zero, List.set_cons_succ]
      refine hK.out _ _ (fun h => absurd h (by decide)) ?_
      clear hK K
      refine wpAnyZ_done (by kernel_rfl) ?_ _
      go_wp2_with fail
      go_meet
      exact ⟨wa.heap.size, rfl, by omega, hAn.put _, hI.put (by omega) _⟩
  case rest =>
    obtain ⟨g, rfl, hg, hA, hI⟩ := hcut
    clear hs B1 HI h0 hzb
    have h0 := hI.1.1
    have e1 : (1 : Int) ≤ (r : Int) := by omega
    have e2 : (r : Int) ≤ ((r + 1 : Nat) : Int) := by omega
    have HA := hid hA
    have HI := hid hI
    clear hA hI
    go_wp2_with fail
    go_loopw [34] (fun i wr => ∃ n : Nat, n ≤ r - 1 ∧ i = .int .i64 (n : Int) ∧ Arr wr g 16 (encN F n x) ∧ Inv w c k r F wr) (fun i _ => (r - 1) - (intOf i).toNat)
    case atStart => exact ⟨0, Nat.zero_le _, rfl, HA.out, HI.out⟩
    case round =>
      clear HA HI h0
      obtain ⟨n, hn, rfl, hA, hI⟩ := hrel
      by_cases hlt : n < r - 1
      · have hgl := hA.lt (by decide)
        have HA := hid hA
        have HI := hid hI
        have e3 : (n : Int) < ((r - 1 : Nat) : Int) := by omega
        have hR : wr.rangeAt k (16 + n * 16) (vals 16 fun p => F (16 * (n + 1) + p)) := by rw [show 16 + n * 16 = 16 * (n + 1) from by omega]; exact hI.1.2.2.2.part (by omega)
        have HR := hid hR
        have hs := hid (show S2 w c k r F g (encN F n x) wr.heap.size (fun p => F (16 * (n + 1) + p)) ((wr.alloc (.cells (vals 16 fun _ => 0).toArray 77)).setCells wr.heap.size 0 (vals 16 fun p => F (16 * (n + 1) + p))) from
          ⟨(hA.alloc _).besidePut (by omega) 0 _, (arr_new wr 16 (fun _ => 0) 77).put _, (hI.grow ((Below.refl _ _).alloc (Nat.le_refl _) _)).put (by omega) _⟩)
        clear hA hI hR
        go_wp2_with (first | (refine wpList_load_mid rfl 77 _ rfl k (16 + n * 16) rfl (vals 16 fun p => F (16 * (n + 1) + p)) _ HR.out hus rfl his ?_) | (refine wpList_store_arr rfl 77 _ _ rfl _ 16 _ rfl rfl _ (arr_new wr 16 (fun _ => 0) 77) his ?_))
        refine wp_region_z (S2 w c k r F g (encN F n x) wr.heap.size (fun p => F (16 * (n + 1) + p))) 7 (by kernel_rfl) hs.out.drew (fun hS => ?_)
        refine wpAnyZ_take (i := 0) (v := .pointer (some ⟨c, 0, none⟩)) rfl (by kernel_rfl) (by kernel_rfl) (by kernel_rfl) (by kernel_rfl) (fun _ _ _ h => h) hS (Or.inl ⟨by kernel_rfl, fun w hS => (by clear hS; go_simp)⟩) ?_
        simp only [Act.put, List.setIfInBounds_toArray, List.set_cons_zero, List.set_cons_succ]
        refine wpAnyZ_take (i := 1) rfl (by kernel_rfl) (by kernel_rfl) (by kernel_rfl) (by kernel_rfl) (fun _ _ _ h => h) hS (yieldsIf_load_mid (by kernel_rfl) 77 (.tmp 7) rfl g 0 (by kernel_rfl) (vals 16 (encN F n x)) _ (fun w hS => hS.1.range) hus rfl his) ?_
        simp only [Act.put, List.setIfInBounds_toArray, List.set_cons_zero, List.set_cons_succ]
        refine wpAnyZ_take (i := 5) rfl (by kernel_rfl) (by kernel_rfl) (by kernel_rfl) (by kernel_rfl) (fun _ _ _ h => h) hS (yieldsIf_load_mid (by kernel_rfl) 77 (.tmp 9) rfl wr.heap.size 0 (by kernel_rfl) (vals 16 (fun p => F (16 * (n + 1) + p))) _ (fun w hS => hS.2.1.range) hus rfl his) ?_
        simp only [Act.put, List.setIfInBounds_toArray, List.set_cons_zero, List.set_cons_succ]
        refine wpAnyZ_one (i := 2) (by kernel_rfl) rfl (fun K hK => ?_)
        go_simp
        go_at_call 50
        refine (substituted_any c k r F (encN F n x) _ (encN_lt oF ox n) hS.2.2.1).mono ?_
        rintro e w' ⟨rfl, hb⟩
        go_wp2_with fail
        refine hK.out _ _ (fun _ => hS.grow hb) ?_
        replace hS := hS.grow hb
        clear hK K
        try simp only [Act.put, List.setIfInBounds_toArray, List.set_cons_zero, List.set_cons_succ]
        refine wpAnyZ_one (i := 3) (by kernel_rfl) rfl (fun K hK => ?_)
        go_simp
        go_at_call 51
        refine (moved_any (subS (encN F n x)) _ (subS_lt (encN_lt oF ox n))).mono ?_
        rintro e w' ⟨rfl, hb⟩
        go_wp2_with fail
        refine hK.out _ _ (fun _ => hS.grow hb) ?_
        replace hS := hS.grow hb
        clear hK K
        try simp only [Act.put, List.setIfInBounds_toArray, List.set_cons_zero, List.set_cons_succ]
        refine wpAnyZ_one (i := 4) (by kernel_rfl) rfl (fun K hK => ?_)
        go_simp
        go_at_call 52
        refine (mixed_any (movS (subS (encN F n x))) _ (movS_lt (subS_lt (encN_lt oF ox n)))).mono ?_
        rintro e w' ⟨rfl, hb⟩
        go_wp2_with fail
        refine hK.out _ _ (fun _ => hS.grow hb) ?_
        replace hS := hS.grow hb
        clear hK K
        try simp only [Act.put, List.setIfInBounds_toArray, List.set_cons_zero, List.set_cons_succ]
        refine wpAnyZ_one (i := 6) (by kernel_rfl) rfl (fun K hK => ?_)
        go_simp
        go_at_call 49
        refine (plus_any (mixS (movS (subS (encN F n x)))) (fun p => F (16 * (n + 1) + p)) _ (mixS_lt _) (fun p => oF _)).mono ?_
        rintro e w' ⟨rfl, hb⟩
        go_wp2_with fail
        refine hK.out _ _ (fun _ => hS.grow hb) ?_
        replace hS := hS.grow hb
        clear hK K
        try simp only [Act.put, List.setIfInBounds_toArray, List.set_cons_zero, List.set_cons_succ]
        have hT := hS.1.there
        refine wpAnyZ_one (i := 7) (by kernel_rfl) rfl (fun K hK => ?_)
        rw [if_pos (by rfl)]
        refine wp_store_arr _ _ _ rfl g 16 (rnd F (n + 1) (encN F n x)) rfl rfl hT his ?_
        try simp only [Act.put, List.setIfInBounds_toArray, List.set_cons_zero, List.set_cons_succ]
        refine hK.out _ _ (fun h => absurd h (by decide)) ?_
        clear hK K
        refine wpAnyZ_done (by kernel_rfl) ?_ _
        go_wp2_with fail
        go_roundw
        case rel => exact ⟨n + 1, by omega, by go_num, hS.1.put _, hS.2.2.put hg _⟩
        case measure => simp [intOf]; omega
      · obtain rfl : n = r - 1 := by omega
        have hs := hid (Cip.st hI hA r (Nat.le_refl _) (r * 16) (by omega))
        have e4 : ¬ ((r : Int) + 1 ≤ (r : Int)) := by omega
        clear hA hI
        go_wp2_with fail
        refine wp_region_z (St w c k r F g (encN F (r - 1) x) (r * 16) (fun p => F (16 * r + p))) 12 (by kernel_rfl) hs.out.drew (fun hS => ?_)
        refine wpAnyZ_take (i := 0) (v := .pointer (some ⟨c, 0, none⟩)) rfl (by kernel_rfl) (by kernel_rfl) (by kernel_rfl) (by kernel_rfl) (fun _ _ _ h => h) hS (Or.inl ⟨by kernel_rfl, fun w hS => (by clear hS; go_simp)⟩) ?_
        simp only [Act.put, List.setIfInBounds_toArray, List.set_cons_zero, List.set_cons_succ]
        refine wpAnyZ_take (i := 1) rfl (by kernel_rfl) (by kernel_rfl) (by kernel_rfl) (by kernel_rfl) (fun _ _ _ h => h) hS (yieldsIf_load_mid (by kernel_rfl) 77 (.tmp 7) rfl g 0 (by kernel_rfl) (vals 16 (encN F (r - 1) x)) _ (fun w hS => hS.2.1) hus rfl his) ?_
        simp only [Act.put, List.setIfInBounds_toArray, List.set_cons_zero, List.set_cons_succ]
        refine wpAnyZ_take (i := 4) (v := .pointer (some ⟨c, 0, none⟩)) rfl (by kernel_rfl) (by kernel_rfl) (by kernel_rfl) (by kernel_rfl) (fun _ _ _ h => h) hS (Or.inl ⟨by kernel_rfl, fun w hS => (by clear hS; go_simp)⟩) ?_
        simp only [Act.put, List.setIfInBounds_toArray, List.set_cons_zero, List.set_cons_succ]
        refine wpAnyZ_take (i := 5) (v := .pointer (some ⟨c, 0, none⟩)) rfl (by kernel_rfl) (by kernel_rfl) (by kernel_rfl) (by kernel_rfl) (fun _ _ _ h => h) hS (Or.inl ⟨by kernel_rfl, fun w hS => (by clear hS; go_simp)⟩) ?_
        simp only [Act.put, List.setIfInBounds_toArray, List.set_cons_zero, List.set_cons_succ]
        refine wpAnyZ_take (i := 6) (v := .pointer (some ⟨c, 0, none⟩)) rfl (by kernel_rfl) (by kernel_rfl) (by kernel_rfl) (by kernel_rfl) (fun _ _ _ h => h) hS (Or.inl ⟨by kernel_rfl, fun w hS => (by clear hS; go_simp)⟩) ?_
        simp only [Act.put, List.setIfInBounds_toArray, List.set_cons_zero, List.set_cons_succ]
        refine wpAnyZ_take (i := 7) (v := .slice (some ⟨k, 0, none⟩) (r + 1) (r + 1)) rfl (by kernel_rfl) (by kernel_rfl) (by kernel_rfl) (by kernel_rfl) (fun _ _ _ h => h) hS (Or.inl ⟨by kernel_rfl, fun w hS => (by have h := hS.1; clear hS; go_simp)⟩) ?_
        simp only [Act.put, List.setIfInBounds_toArray, List.set_cons_zero, List.set_cons_succ]
        refine wpAnyZ_take (i := 8) (v := .int .i64 (r : Int)) rfl (by kernel_rfl) (by kernel_rfl) (by kernel_rfl) (by kernel_rfl) (fun _ _ _ h => h) hS (Or.inl ⟨by kernel_rfl, fun w hS => (by clear hS; go_simp)⟩) ?_
        simp only [Act.put, List.setIfInBounds_toArray, List.set_cons_zero, List.set_cons_succ]
        refine wpAnyZ_take (i := 9) (v := .pointer (some ⟨k, r * 16, none⟩)) rfl (by kernel_rfl) (by kernel_rfl) (by kernel_rfl) (by kernel_rfl) (fun _ _ _ h => h) hS (Or.inl ⟨by kernel_rfl, fun w hS => (by clear hS; go_simp)⟩) ?_
        simp only [Act.put, List.setIfInBounds_toArray, List.set_cons_zero, List.set_cons_succ]
        refine wpAnyZ_take (i := 10) rfl (by kernel_rfl) (by kernel_rfl) (by kernel_rfl) (by kernel_rfl) (fun _ _ _ h => h) hS (yieldsIf_load_mid (by kernel_rfl) 77 (.tmp 55) rfl k (r * 16) (by kernel_rfl) (vals 16 (fun p => F (16 * r + p))) _ (fun w hS => hS.2.2.1) hus rfl his) ?_
        simp only [Act.put, List.setIfInBounds_toArray, List.set_cons_zero, List.set_cons_succ]
        refine wpAnyZ_one (i := 2) (by kernel_rfl) rfl (fun K hK => ?_)
        go_simp
        go_at_call 50
        refine (substituted_any c k r F (encN F (r - 1) x) _ (encN_lt oF ox (r - 1)) hS.2.2.2.1).mono ?_
        rintro e w' ⟨rfl, hb⟩
        go_wp2_with fail
        refine hK.out _ _ (fun _ => hS.grow hb) ?_
        replace hS := hS.grow hb
        clear hK K
        try simp only [Act.put, List.setIfInBounds_toArray, List.set_cons_zero, List.set_cons_succ]
        refine wpAnyZ_one (i := 3) (by kernel_rfl) rfl (fun K hK => ?_)
        go_simp
        go_at_call 51
        refine (moved_any (subS (encN F (r - 1) x)) _ (subS_lt (encN_lt oF ox (r - 1)))).mono ?_
        rintro e w' ⟨rfl, hb⟩
        go_wp2_with fail
        refine hK.out _ _ (fun _ => hS.grow hb) ?_
        replace hS := hS.grow hb
        clear hK K
        try simp only [Act.put, List.setIfInBounds_toArray, List.set_cons_zero, List.set_cons_succ]
        refine wpAnyZ_one (i := 11) (by kernel_rfl) rfl (fun K hK => ?_)
        go_simp
        go_at_call 49
        refine (plus_any (movS (subS (encN F (r - 1) x))) (fun p => F (16 * r + p)) _ (movS_lt (subS_lt (encN_lt oF ox (r - 1)))) (fun p => oF _)).mono ?_
        rintro e w' ⟨rfl, hb⟩
        go_wp2_with fail
        refine hK.out _ _ (fun _ => hS.grow hb) ?_
        replace hS := hS.grow hb
        clear hK K
        try simp only [Act.put, List.setIfInBounds_toArray, List.set_cons_zero, List.set_cons_succ]
        have hT := hS.2.2.2.2.2.1.there
        refine wpAnyZ_one (i := 12) (by kernel_rfl) rfl (fun K hK => ?_)
        rw [if_pos (by rfl)]
        refine wp_store_arr _ _ _ rfl (w.heap.size + 1) 16 (enc F r x) rfl rfl hT hib ?_
        try simp only [Act.put, List.setIfInBounds_toArray, List.set_cons_zero, List.set_cons_succ]
        refine hK.out _ _ (fun h => absurd h (by decide)) ?_
        clear hK K
        refine wpAnyZ_one (i := 13) (by kernel_rfl) rfl (fun K hK => ?_)
        go_simp
        refine hK.out _ _ (fun h => absurd h (by decide)) ?_
        clear hK K
        try simp only [Act.put, List.setIfInBounds_toArray, List.set_cons_zero, List.set_cons_succ]
        refine wpAnyZ_done (by kernel_rfl) ?_ _
        go_wp2_with fail
        refine bodyPost_ret (v := .tuple #[.agg (vals 16 (enc F r x)).toArray, .int .i64 0]) ?_ rfl ⟨rfl, below_setCells _ 0 hS.2.2.2.2.2.2 (by omega)⟩
        exact results_cell_tmp_arr rfl _ _ 16 _ _ _ rfl rfl (hS.2.2.2.2.2.1.put _) hub rfl hib
end Go.Proofs.Ytgnhbfjngdgibaa
