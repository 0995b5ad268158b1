/-
  The contracts of words and element: sixteen bytes, as two words.
-/
import Derived.Test.YtgnhbfjngdgibaaKh
import Derived.Test.YtgnhbfjngdgibaaKa
namespace Go.Proofs.Ytgnhbfjngdgibaa
open Go.RowKit
set_option linter.unusedVariables false
set_option linter.unusedSimpArgs false

theorem get8 (b o cap : Nat) (x : Nat → Nat) (w : World) (ox : ∀ j, x j < 256) (h : ∀ i, i < 8 → w.cell? ⟨b, o + i, none⟩ = some (.int .u8 (x i : Nat))) :
    Calls Try.prog 26 #[.slice (some ⟨b, o, none⟩) 8 cap] w fun e w' => e = .returned (.tuple #[.int .u64 (nb x 8 : Nat), .int .i64 0]) ∧ w = w' := by
  have := get_any (some ⟨b, o, none⟩) cap (row x 8) w (fun _ => ⟨b, o, rfl, fun i hi => by
    rw [row_length] at hi
    rw [h i hi, row_at x 8 i hi]⟩) (row_oct ox 8) (by rw [row_length]; decide) (by rw [row_length]; decide)
  rw [row_length, num_row] at this
  exact this

set_option maxHeartbeats 2000000 in
set_option maxRecDepth 100000 in
theorem words_of (x : Nat → Nat) (w : World) (ox : ∀ j, x j < 256) :
    Calls Try.prog 83 #[.agg (vals 16 x).toArray] w fun e w' => e = .returned (.tuple #[.int .u64 (nb x 8 : Nat), .int .u64 (nb (fun j => x (8 + j)) 8 : Nat)]) ∧ Below w.heap.size w w' := by
  have hA := arr_new w 16 x 44
  have hB := (Below.refl w.heap.size w).alloc (Nat.le_refl _) (.cells (vals 16 x).toArray 44)
  go_enter Try.func83, Try.ntmps83
  obtain ⟨w1, hw1⟩ : ∃ w1, Hid (w1 = w.alloc (.cells (vals 16 x).toArray 44)) := ⟨_, rfl⟩
  rw [← hw1.out] at hA hB
  have HA := hid hA
  clear hA
  go_wp2_with fail
  rw [← hw1.out]
  refine (get8 _ _ _ x _ ox (fun i hi => by rw [Nat.zero_add]; exact (HA.out i (by omega)).1)).mono ?_
  rintro e w' ⟨rfl, rfl⟩
  go_wp2_with fail
  refine (get8 _ _ _ (fun j => x (8 + j)) _ (fun j => ox _) (fun i hi => (HA.out (8 + i) (by omega)).1)).mono ?_
  rintro e w' ⟨rfl, rfl⟩
  go_wp2_with fail
  go_ret2
  exact ⟨rfl, hB⟩

theorem put8 (n : Nat) (w : World) (h : n < 18446744073709551616) :
    Calls Try.prog 25 #[.int .u64 n, .int .i64 8] w fun e w' => ∃ v, e = .returned (.tuple #[v, .int .i64 0]) ∧ Own w.heap.size w' v 8 (be 8 n) ∧ Below w.heap.size w w' := by
  refine (put_any n 8 w (by decide) (by decide) ⟨by omega, by omega⟩).mono ?_
  rintro e w' ⟨_, h1, hb⟩
  obtain ⟨v, he, hO⟩ := h1 (by omega)
  exact ⟨v, he, hO, hb⟩

set_option maxHeartbeats 4000000 in
set_option maxRecDepth 100000 in
theorem element_of (h l : Nat) (w : World) (hh : h < 18446744073709551616) (hl : l < 18446744073709551616) :
    Calls Try.prog 56 #[.int .u64 h, .int .u64 l] w fun e w' => e = .returned (.agg (vals 16 (by16 (h * 18446744073709551616 + l))).toArray) ∧ Below w.heap.size w w' := by
  obtain ⟨i0, hi, hz0, hz1, hz2⟩ := info_parts Try.infoU8
  have hzb := Try.zeroBlock
  have hA := arr_new w 16 (fun _ => 0) 44
  have hB := (Below.refl w.heap.size w).alloc (Nat.le_refl _) (.cells (vals 16 fun _ => 0).toArray 44)
  obtain ⟨w1, hw1⟩ : ∃ w1, Hid (w1 = w.alloc (.cells (vals 16 fun _ => 0).toArray 44)) := ⟨_, rfl⟩
  rw [← hw1.out] at hA hB
  obtain ⟨y, hy⟩ : ∃ y, Hid (y = by16 (h * 18446744073709551616 + l)) := ⟨_, rfl⟩
  have hbe := be_words hh hl
  rw [← hy.out] at hbe ⊢
  have HBE := hid hbe
  have HA := hid hA
  clear hA hbe
  go_enter Try.func56, Try.ntmps56
  go_wp2_with fail
  rw [← hw1.out]
  refine (put8 h _ hh).mono ?_
  rintro e w2 ⟨v, rfl, hO, hb2⟩
  have hA2 := HA.out.below hb2
  have hB2 := hB.trans (hb2.mono hB.size)
  go_wp2_with fail
  refine (put8 l _ hl).mono ?_
  rintro e w3 ⟨u, rfl, hU, hb3⟩
  have hO3 := hO.below hb3
  have hA3 := hA2.below hb3
  have hB3 := hB2.trans (hb3.mono hB2.size)
  have hs1 := hB.size
  have hs2 := hb2.size
  have hs3 := hb3.size
  have hal := hA3.lt (by decide)
  have ha0 : w.heap.size < w1.heap.size := by rw [hw1.out]; simp
  obtain ⟨pu, cu, rfl, hcu, hbu⟩ := hU.bin
  obtain ⟨b, o, rfl, hbl, hcell⟩ := hbu.at (by rw [be_length]; decide)
  rw [be_length] at hcell
  have HC := hid hcell
  have HO3 := hid (hO3.mono hs1)
  have HA3 := hid hA3
  have HV := hid (show v.ownBlock ≠ some w.heap.size from by
    rcases hO.shape with ⟨rfl, _⟩ | ⟨g, c, rfl, hg, _⟩
    · simp [Value.ownBlock]
    · intro e
      have : g = w.heap.size := by simpa [Value.ownBlock] using e
      omega)
  clear hO hU hO3 hA3 hA2 hb2 hb3 hB2 hcell hbu HA
  have hnews : ∀ j u, ((be 8 (l : Int)).map (Value.int .u8))[j]? = some u → w3.cell? ((⟨b, o, none⟩ : Addr).add j) = some u := fun j u hj => by
    have hjl : j < 8 := by have := (List.getElem?_eq_some_iff.1 hj).1; simpa [be_length] using this
    rw [Addr.add_mid, HC.out j hjl, List.getD_eq_getElem?_getD]
    rw [List.getElem?_map] at hj
    rw [List.getElem?_eq_getElem (show j < (be 8 (l : Int)).length by rw [be_length]; exact hjl)] at hj ⊢
    simpa using hj
  have hone : ∀ u ∈ (be 8 (l : Int)).map (Value.int .u8), u.oneCell' = true := fun u hu => by
    obtain ⟨x, _, rfl⟩ := List.mem_map.1 hu
    rfl
  have hat16 : ∀ (g cap : Nat) (wx : World), (Instr.arrayAt 44 (.slice (some ⟨g, 0, none⟩) 16 cap)).run Try.prog wx = .ok (.pointer (some ⟨g, 0, none⟩)) wx := fun g cap wx => by
    simp [Instr.arrayAt, run_underlying Try.underlying44]
  have HNW := hid hnews
  have HON := hid hone
  clear hnews hone HC
  go_wp2_with (first
    | (at_builtin; refine wpList_append_lies _ rfl (.tmp 19) (.tmp 20) 22 rfl w.heap.size 5 i0 (.int .u8 0) 1 1 Try.underlying22 hi hz0 hz1 hz2 rfl (by decide) _ 8 _ rfl (by exact HO3.out) ⟨b, o, none⟩ 8 cu ((be 8 (l : Int)).map (Value.int .u8)) rfl (by simp [be_length]) (by exact HNW.out) (by exact HON.out) (by decide) (by unfold maxLen; omega) (by omega) (by omega) _ rfl ?_; intro g cap w4 hown hgrow hat hgl
       have hR : w4.rangeAt g 0 (vals 16 y) := (by
         intro j u hj
         rw [Nat.zero_add]
         have e := World.ownsRow.cellAt hown j (by have := (List.getElem?_eq_some_iff.1 hj).1; rw [vals_length] at this; simp [be_length]; omega)
         rw [← List.map_append, HBE.out, row_vals, hj] at e
         exact e)
       have hne : g ≠ w.heap.size := (by
         intro e
         rcases hat with ha | ha
         · exact HV.out (by rw [← e]; exact ha)
         · omega)
       have hA4 : Arr w4 w.heap.size 16 (fun _ => 0) := (fun j hj =>
         ⟨(hgrow.cell_far ⟨w.heap.size, j, none⟩ (by show w.heap.size < w3.heap.size; omega) (fun e => HV.out e.symm)).trans (HA3.out j hj).1, (hgrow.frozen_far ⟨w.heap.size, j, none⟩ (by show w.heap.size < w3.heap.size; omega) (fun e => HV.out e.symm)).trans (HA3.out j hj).2⟩)
       have hB4 : Below w.heap.size w w4 := hB3.grown hgrow (by omega) (fun q hq => (World.ownsRow.lt HO3.out q hq).1)
       have HR := hid hR
       have HA4 := hid hA4
       clear hown hgrow hR hA4 hat)
    | (refine wpList_load_mid rfl 44 _ rfl g 0 rfl (vals 16 y) _ ?_ Try.underlying44 rfl Try.sizeBlock ?_; exact HR.out)
    | (refine wpList_store_arr rfl 44 _ _ rfl w.heap.size 16 y rfl rfl (fun _ => 0) ?_ Try.sizeBlock ?_; exact HA4.out))
  refine bodyPost_ret (v := .agg (vals 16 y).toArray) ?_ rfl ⟨rfl, below_setCells _ 0 hB4 (Nat.le_refl _)⟩
  exact results_cell_arr rfl _ _ 16 _ _ rfl (HA4.out.put _) Try.underlying44 rfl Try.sizeBlock
end Go.Proofs.Ytgnhbfjngdgibaa
