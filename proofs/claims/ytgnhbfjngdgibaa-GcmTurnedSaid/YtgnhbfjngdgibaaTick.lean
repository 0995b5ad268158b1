/-
  The closure that tells the stream: made, and called.
-/
import Derived.Test.YtgnhbfjngdgibaaCn
import Derived.Test.YtgnhbfjngdgibaaKg
namespace Go.Proofs.Ytgnhbfjngdgibaa
open Go.RowKit
set_option linter.unusedVariables false
set_option linter.unusedSimpArgs false

theorem Cip.grown {w w' : World} {c k r : Nat} {F : Nat → Nat} {row : Option Nat} (h : Cip w c k r F) (hg : w.grownBy w' row) (hc : some c ≠ row) (hk : some k ≠ row) : Cip w' c k r F := by
  have hl := h.lt
  obtain ⟨h0, h1, h2, h3⟩ := h
  exact ⟨(hg.cell_far ⟨c, 0, none⟩ hl.1 hc).trans h0, fun x hx => (hg.cell_far ⟨c, 1 + x, none⟩ hl.1 hc).trans (h1 x hx), fun x hx => (hg.cell_far ⟨c, 257 + x, none⟩ hl.1 hc).trans (h2 x hx), h3.grown (by omega) hg hk⟩

set_option maxHeartbeats 2000000 in
set_option maxRecDepth 100000 in
theorem stream_of (c : Nat) (x : Nat → Nat) (w : World) :
    Calls Try.prog 38 #[.pointer (some ⟨c, 0, none⟩), .agg (vals 16 x).toArray] w fun e w' => e = .returned (.func (.func 53) #[] #[.pointer (some ⟨w.heap.size + 1, 0, none⟩), .pointer (some ⟨w.heap.size, 0, none⟩)]) ∧
      w' = (w.alloc (.cells #[.pointer (some ⟨c, 0, none⟩)] 53)).alloc (.cells (vals 16 x).toArray 44) := by
  have hmf : ∀ (fn : Fn) (first cap : Array Value) (w : World), (Instr.makeFunc fn first cap).run Try.prog w = .ok (.func fn first cap) w := fun _ _ _ _ => rfl
  go_enter Try.func38, Try.ntmps38
  go_wp2_with fail
  go_ret
  exact ⟨rfl, rfl⟩

set_option maxHeartbeats 2000000 in
set_option maxRecDepth 100000 in
theorem tick_of (c kb r bc bp : Nat) (F x : Nat → Nat) (w : World) (oF : ∀ j, F j < 256) (ox : ∀ j, x j < 256) (hr : 1 ≤ r ∧ r ≤ 14) (hC : Cip w c kb r F) (hx : Arr w bc 16 x) (hp : w.cell? ⟨bp, 0, none⟩ = some (.pointer (some ⟨c, 0, none⟩)))
    (n1 : c ≠ bc) (n2 : kb ≠ bc) (n3 : bp ≠ bc) :
    Calls Try.prog 53 #[.pointer (some ⟨bc, 0, none⟩), .pointer (some ⟨bp, 0, none⟩)] w fun e w' => e = .returned (.agg (vals 16 (enc F r (nxt x))).toArray) ∧ Arr w' bc 16 (nxt x) ∧ w.grownBy w' (some bc) := by
  have hzb := Try.zeroBlock
  have oy := nxt_lt ox
  obtain ⟨y, hy⟩ : ∃ y, Hid (y = nxt x) := ⟨_, rfl⟩
  have hnx := fun w => next_of x w ox
  rw [← hy.out] at oy hnx ⊢
  obtain ⟨z, hz⟩ : ∃ z, Hid (z = enc F r y) := ⟨_, rfl⟩
  have henc := fun w hC => encrypt_any c kb r F y w oF oy hr.1 hr.2 hC
  rw [← hz.out] at henc ⊢
  have HNX := hid hnx
  have HENC := hid henc
  clear hnx henc
  have hbl := hx.lt (by decide)
  have hpl : bp < w.heap.size := World.block_lt_of_cell? w _ hp
  obtain ⟨wa, hwa, hA, hB, hsz⟩ := boxes1 w 16 (fun _ => 0) 44
  have hx1 := hx.below hB
  have hC1 := hC.below hB
  have hp1 := (hB.cell (p := ⟨bp, 0, none⟩) hpl).trans hp
  have hg1 := gb_of (some bc) hB
  clear hx hp hB hC
  have HP := hid hp1
  have HA := hid hA
  have HX := hid hx1
  clear hx1 hp1 hA
  go_enter Try.func53, Try.ntmps53
  go_wp2_with (refine wpList_load_arr rfl 44 _ rfl bc rfl 16 x ?_ _ Try.underlying44 rfl Try.sizeBlock ?_; rw [← hwa.out]; exact HX.out)
  rw [← hwa.out]
  refine (HNX.out _).mono ?_
  rintro e w2 ⟨rfl, hb2⟩
  have hg2 := gb_set (gb_below hg1 hb2) (b := bc) (.inl rfl) 0 (vals 16 y)
  have hx2 := HX.out.below hb2
  have hx3 := hx2.put y
  have hA3 := (HA.out.below hb2).besidePut (b' := bc) (by omega) 0 (vals 16 y)
  have hC3 := (hC1.below hb2).beside (g := bc) (fun e => n1 e.symm) (fun e => n2 e.symm) (vals 16 y)
  have hp3 : (w2.setCells bc 0 (vals 16 y)).cell? ⟨bp, 0, none⟩ = some (.pointer (some ⟨c, 0, none⟩)) := by
    rw [World.cell?_setCells_out bc (vals 16 y) 0 w2 ⟨bp, 0, none⟩ (fun hh _ => absurd hh n3), hb2.cell (p := ⟨bp, 0, none⟩) (by show bp < wa.heap.size; omega)]
    exact HP.out
  have HX2 := hid hx2
  have HX3 := hid hx3
  clear hb2 hg1 hC1 HP HA HX hx2 hx3 hwa
  go_upto_region 2 with (refine wpList_store_arr rfl 44 _ _ rfl bc 16 y rfl rfl _ HX2.out Try.sizeBlock ?_)
  clear HX2
  generalize w2.setCells bc 0 (vals 16 y) = w3 at HX3 hA3 hC3 hp3 hg2 ⊢
  have HA3 := hid hA3
  clear hA3
  go_wp2_with (refine wpList_load_arr rfl 44 _ rfl bc rfl 16 y ?_ _ Try.underlying44 rfl Try.sizeBlock ?_; exact HX3.out)
  refine (HENC.out _ hC3).mono ?_
  rintro e w4 ⟨rfl, hb4⟩
  have hx4 := (HX3.out.below hb4).alloc (.cells (vals 16 fun _ => 0).toArray 44)
  have hA4 := (HA3.out.below hb4).alloc (.cells (vals 16 fun _ => 0).toArray 44)
  have hn4 := arr_new w4 16 (fun _ => 0) 44
  have hg4 := gb_below (gb_below hg2 hb4) ((Below.refl w4.heap.size w4).alloc (Nat.le_refl _) (.cells (vals 16 fun _ => 0).toArray 44))
  have hs4 := hg2.size
  have hs5 := hb4.size
  have ha4 := HA3.out.lt (by decide)
  have hx5 := hx4.besidePut (b' := w4.heap.size) (by omega) 0 (vals 16 z)
  have hA5 := hA4.besidePut (b' := w4.heap.size) (by omega) 0 (vals 16 z)
  have hn5 := hn4.put z
  have hg5 := gb_set hg4 (b := w4.heap.size) (.inr (by omega)) 0 (vals 16 z)
  have HN4 := hid hn4
  have H5 := hid (And.intro hx5 (And.intro hA5 (And.intro hn5 hg5)))
  clear hb4 hg2 hC3 hp3 HX3 HA3 hx4 hA4 hn4 hg4 hx5 hA5 hn5 hg5
  go_upto_region 3 with (refine wpList_store_arr rfl 44 _ _ rfl w4.heap.size 16 z rfl rfl (fun _ => 0) ?_ Try.sizeBlock ?_; exact HN4.out)
  clear HN4
  obtain ⟨hx5, hA5, hn5, hg5⟩ := H5.out
  clear H5
  obtain ⟨bz, hbz⟩ : ∃ bz, Hid (bz = w4.heap.size) := ⟨_, rfl⟩
  rw [← hbz.out] at hx5 hA5 hn5 hg5 hs5 ⊢
  generalize (w4.alloc (.cells (vals 16 fun _ => 0).toArray 44)).setCells bz 0 (vals 16 z) = w5 at hx5 hA5 hn5 hg5 ⊢
  have HN5 := hid hn5
  have HA5 := hid hA5
  clear hn5 hA5
  go_wp2_with (first
    | (refine wpList_load_arr rfl 44 _ rfl bz rfl 16 z ?_ _ Try.underlying44 rfl Try.sizeBlock ?_; exact HN5.out)
    | (refine wpList_store_arr rfl 44 _ _ rfl w.heap.size 16 z rfl rfl (fun _ => 0) ?_ Try.sizeBlock ?_; exact HA5.out))
  refine bodyPost_ret (v := .agg (vals 16 z).toArray) ?_ rfl ⟨rfl, hx5.besidePut (by omega) 0 _, gb_set hg5 (.inr (Nat.le_refl _)) 0 _⟩
  exact results_cell_arr rfl _ _ 16 _ _ rfl (HA5.out.put _) Try.underlying44 rfl Try.sizeBlock
end Go.Proofs.Ytgnhbfjngdgibaa
