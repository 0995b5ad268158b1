/-
  The document's counter blocks: First, Next, Opens.
-/
import Derived.Test.YtgnhbfjngdgibaaCn
import Derived.Test.YtgnhbfjngdgibaaKe
namespace Go.Proofs.Ytgnhbfjngdgibaa
open Go.RowKit
set_option linter.unusedVariables false
set_option linter.unusedSimpArgs false

set_option maxHeartbeats 2000000 in
set_option maxRecDepth 100000 in
theorem refFirst_of (p : Option Addr) (cap : Nat) (xs : List Int) (w : World) (hp : Bin w p xs) (hx : Oct xs) (hl : xs.length = 12) :
    Calls Try.prog 41 #[.slice p (12 : Nat) cap] w fun e w' => e = .returned (.agg (vals 16 (frs xs)).toArray) ∧ Below w.heap.size w w' := by
  have hzb := Try.zeroBlock
  obtain ⟨b, o, rfl, hbl, hcell⟩ := hp.at (by omega)
  obtain ⟨z, hz⟩ : ∃ z, Hid (z = frs xs) := ⟨_, rfl⟩
  rw [← hz.out]
  have hze := hid (show ∀ j, j < 16 → (if j = 15 then 1 else mixk (byt xs) (fun _ => 0) 12 j) = z j from fun j hj => by
    rw [hz.out]
    unfold frs mixk
    by_cases h : j < 12
    · rw [if_neg (by omega), if_pos h, if_pos h]
    · rw [if_neg h, if_neg h])
  obtain ⟨w1, hw1, hx1, hz1, hB, hsz⟩ := boxes2 w 16 (fun _ => 0) (fun _ => 0) 44 44
  have hcell' : Hid (∀ i, i < 12 → w.cell? ⟨b, o + i, none⟩ = some (.int .u8 (byt xs i : Nat))) := hid fun i hi => by rw [hcell i (by omega), byt_at hx i]
  clear hcell hp
  go_enter Try.func41, Try.ntmps41
  go_wp2_with fail
  rw [← hw1.out]
  go_loopw [4] (fun i wr => ∃ k : Nat, k ≤ 12 ∧ i = .int .i64 (k : Int) ∧ Arr wr (w.heap.size + 1) 16 (mixk (byt xs) (fun _ => 0) k) ∧ Arr wr w.heap.size 16 (fun _ => 0) ∧ Below w.heap.size w wr) (fun i _ => 12 - (intOf i).toNat)
  case atStart => exact ⟨0, by decide, rfl, hz1.same fun t _ => (mixk_zero (byt xs) (fun _ => 0) t).symm, hx1, hB⟩
  case round =>
    clear hx1 hz1 hB hzb hw1
    obtain ⟨k, hk, rfl, h1, h2, hb⟩ := hrel
    by_cases hlt : k < 12
    · obtain ⟨hc, hf⟩ := h1 k (by omega)
      have hw := (hb.cell (p := ⟨b, o + k, none⟩) hbl).trans (hcell'.out k hlt)
      have HS := hid (h1.set k (byt xs k) (by omega))
      have H2 := hid (h2.beside (b' := w.heap.size + 1) (by omega) k (.int .u8 (byt xs k : Nat)))
      have kI : (k : Int) < 12 := by omega
      clear h1 h2
      go_wp2
      go_roundw
      case rel => exact ⟨k + 1, by omega, by go_num, HS.out.same fun t _ => mixk_step (byt xs) _ k t, H2.out, hb.setCell (by show w.heap.size ≤ w.heap.size + 1; omega) _⟩
      case measure => simp [intOf]; omega
    · obtain rfl : k = 12 := by omega
      obtain ⟨hc, hf⟩ := h1 15 (by decide)
      have HS := hid ((h1.set 15 1 (by decide)).same hze.out)
      have H2 := hid (h2.beside (b' := w.heap.size + 1) (by omega) 15 (.int .u8 (1 : Nat)))
      have hB2 := hb.setCell (p := ⟨w.heap.size + 1, 15, none⟩) (by show w.heap.size ≤ w.heap.size + 1; omega) (.int .u8 (1 : Nat))
      clear h1 h2
      go_wp2_with (first
        | (refine wpList_load_arr rfl 44 _ rfl (w.heap.size + 1) rfl 16 z ?_ _ Try.underlying44 rfl Try.sizeBlock ?_; exact HS.out)
        | (refine wpList_store_arr rfl 44 _ _ rfl w.heap.size 16 z rfl rfl (fun _ => 0) ?_ Try.sizeBlock ?_; exact H2.out))
      refine bodyPost_ret (v := .agg (vals 16 z).toArray) ?_ rfl ⟨rfl, below_setCells _ 0 hB2 (Nat.le_refl _)⟩
      exact results_cell_arr rfl _ _ 16 _ _ rfl (H2.out.put _) Try.underlying44 rfl Try.sizeBlock

theorem refOf4 (n : Nat) (w : World) (h : n < 4294967296) :
    Calls Try.prog 59 #[.int .u64 n, .int .i64 4] w fun e w' => ∃ g c, e = .returned (.tuple #[.slice (some ⟨g, 0, none⟩) 4 c, .bool ((n : Int) / 256 ^ 4 == 0)]) ∧ Own w.heap.size w' (.slice (some ⟨g, 0, none⟩) 4 c) 4 (row (fun j => n / 256 ^ (3 - j) % 256) 4) ∧ Below w.heap.size w w' := by
  refine (of_any n 4 w (by decide) (by decide) ⟨by omega, by omega⟩).mono ?_
  rintro e w' ⟨v, he, hO, hb⟩
  rw [be4] at hO
  rcases hO.shape with ⟨_, h0⟩ | ⟨g, c, rfl, _, _⟩
  · omega
  · exact ⟨g, c, he, hO, hb⟩
theorem number4 (b cap : Nat) (x : Nat → Nat) (w : World) (ox : ∀ j, x j < 256) (h : ∀ i, i < 4 → w.cell? ⟨b, i, none⟩ = some (.int .u8 (x i : Nat))) :
    Calls Try.prog 58 #[.slice (some ⟨b, 0, none⟩) 4 cap] w fun e w' => e = .returned (.int .u64 (nb x 4 : Nat)) ∧ w = w' := by
  have := number_any (some ⟨b, 0, none⟩) cap (row x 4) w (fun _ => ⟨b, 0, rfl, fun i hi => by
    rw [row_length] at hi
    rw [Nat.zero_add, h i hi, row_at x 4 i hi]⟩) (row_oct ox 4) (by rw [row_length]; decide)
  rw [row_length, num_row] at this
  exact this

set_option maxHeartbeats 2000000 in
set_option maxRecDepth 100000 in
theorem refNext_of (x : Nat → Nat) (w : World) (ox : ∀ j, x j < 256) :
    Calls Try.prog 42 #[.agg (vals 16 x).toArray] w fun e w' => e = .returned (.agg (vals 16 (nxt x)).toArray) ∧ Below w.heap.size w w' := by
  have hzb := Try.zeroBlock
  have hcl := cnt_lt ox
  obtain ⟨v, hv⟩ : ∃ v, Hid (v = (cnt x + 1) % 4294967296) := ⟨_, rfl⟩
  have hvl : v < 4294967296 := by rw [hv.out]; omega
  obtain ⟨z, hz⟩ : ∃ z, Hid (z = nxt x) := ⟨_, rfl⟩
  rw [← hz.out]
  obtain ⟨y, hy⟩ : ∃ y : Nat → Nat, Hid (y = fun j => if j < 12 then x j else v / 256 ^ (15 - j) % 256) := ⟨_, rfl⟩
  have hze : Hid (∀ j, j < 16 → mixk y x 16 j = z j) := hid fun j hj => by
    rw [mixk_full _ _ _ _ hj, hz.out, hy.out, hv.out]
    rfl
  obtain ⟨w1, hw1, hx1, hz1, hB, hsz⟩ := boxes2 w 16 x (fun _ => 0) 44 44
  obtain ⟨l0, _⟩ := hx1 12 (by decide)
  obtain ⟨l1, _⟩ := hx1 13 (by decide)
  obtain ⟨l2, _⟩ := hx1 14 (by decide)
  obtain ⟨l3, _⟩ := hx1 15 (by decide)
  rw [hw1.out] at l0 l1 l2 l3
  have HX := hid hx1
  have HZ := hid hz1
  clear hx1 hz1
  go_enter Try.func42, Try.ntmps42
  go_wp2_with fail
  rw [← hw1.out]
  have hN : Arr (w1.alloc (.cells #[.int .u8 (x 12 : Nat), .int .u8 (x 13 : Nat), .int .u8 (x 14 : Nat), .int .u8 (x 15 : Nat)] 5)) (w.heap.size + 1 + 1) 4 (fun j => x (12 + j)) := by
    rw [← hsz]
    exact arr_new w1 4 (fun j => x (12 + j)) 5
  have hX2 := HX.out.alloc (.cells #[.int .u8 (x 12 : Nat), .int .u8 (x 13 : Nat), .int .u8 (x 14 : Nat), .int .u8 (x 15 : Nat)] 5)
  have hZ2 := HZ.out.alloc (.cells #[.int .u8 (x 12 : Nat), .int .u8 (x 13 : Nat), .int .u8 (x 14 : Nat), .int .u8 (x 15 : Nat)] 5)
  have hB2 := hB.alloc hB.size (.cells #[.int .u8 (x 12 : Nat), .int .u8 (x 13 : Nat), .int .u8 (x 14 : Nat), .int .u8 (x 15 : Nat)] 5)
  generalize w1.alloc (.cells #[.int .u8 (x 12 : Nat), .int .u8 (x 13 : Nat), .int .u8 (x 14 : Nat), .int .u8 (x 15 : Nat)] 5) = w2 at *
  clear HX HZ hB l0 l1 l2 l3
  have HX := hid hX2
  have HZ := hid hZ2
  clear hX2 hZ2
  refine (number4 _ 4 (fun j => x (12 + j)) _ (fun j => ox _) (fun i hi => (hN i hi).1)).mono ?_
  rintro e w' ⟨rfl, rfl⟩
  clear hN
  generalize hcc : nb (fun j => x (12 + j)) 4 = cc at *
  have hc2 : cnt x = cc := hcc
  rw [hc2] at hv hcl
  clear hcc hc2
  go_wp2_with fail
  rw [show ((cc : Nat) : Int) + 1 = ((cc + 1 : Nat) : Int) from by omega, show ((cc + 1 : Nat) : Int) % 4294967296 = ((v : Nat) : Int) from by rw [hv.out]; omega]
  refine (refOf4 v _ hvl).mono ?_
  rintro e w3 ⟨g, c, rfl, hO, hb3⟩
  obtain ⟨hg, _, _⟩ := hO.slice
  have hgl : g < w3.heap.size := World.block_lt_of_cell? w3 _ (hO.cellAt 0 (by omega))
  have hX3 := HX.out.below hb3
  have hZ3 := HZ.out.below hb3
  have hB3 := hB2.trans (hb3.mono hB2.size)
  have hs2 := HZ.out.lt (by decide)
  have HO := hid (show Arr w3 g 4 (fun i => y (12 + i)) from fun i hi => by
    refine ⟨?_, hO.frozenAt i⟩
    rw [hO.cellAt i hi, row_at _ _ _ hi, hy.out]
    show _ = some (Value.int .u8 ((if 12 + i < 12 then x (12 + i) else v / 256 ^ (15 - (12 + i)) % 256 : Nat) : Int))
    rw [if_neg (by omega), show 15 - (12 + i) = 3 - i from by omega])
  have h0 : Arr w3 w.heap.size 16 (mixk y x 12) := hX3.same fun j hj => by
    unfold mixk
    by_cases h : j < 12
    · rw [if_pos h, hy.out]; show x j = if j < 12 then x j else _; rw [if_pos h]
    · rw [if_neg h]
  clear hX3 HX HZ hb3 hO hw1 hB2 hv hvl
  go_wp2_with fail
  go_loopw [6] (fun i wr => ∃ k : Nat, k ≤ 4 ∧ i = .int .i64 (k : Int) ∧ Arr wr w.heap.size 16 (mixk y x (12 + k)) ∧ Arr wr (w.heap.size + 1) 16 (fun _ => 0) ∧ Arr wr g 4 (fun i => y (12 + i)) ∧ Below w.heap.size w wr) (fun i _ => 4 - (intOf i).toNat)
  case atStart => exact ⟨0, by decide, rfl, h0, hZ3, HO.out, hB3⟩
  case round =>
    clear h0 hZ3 HO hB3 hzb
    obtain ⟨k, hk, rfl, h1, h2, hO, hb⟩ := hrel
    by_cases hlt : k < 4
    · obtain ⟨hc, hf⟩ := h1 (12 + k) (by omega)
      have hw := (hO k hlt).1
      have HS := hid (h1.set (12 + k) (y (12 + k)) (by omega))
      have H2 := hid (h2.beside (b' := w.heap.size) (by omega) (12 + k) (.int .u8 (y (12 + k) : Nat)))
      have H3 := hid (hO.beside (b' := w.heap.size) (by omega) (12 + k) (.int .u8 (y (12 + k) : Nat)))
      have kI : (k : Int) < 4 := by omega
      have kJ : IntKind.i64.wrap (12 + (k : Int)) = ((12 + k : Nat) : Int) := by simp [IntKind.wrap, IntKind.bits, IntKind.signed]; omega
      have kK : ((12 + k : Nat) : Int) < 16 := by omega
      clear h1 h2 hO
      go_wp2
      go_roundw
      case rel => exact ⟨k + 1, by omega, by go_num, HS.out.same fun t _ => mixk_step y _ (12 + k) t, H2.out, H3.out, hb.setCell (Nat.le_refl _) _⟩
      case measure => simp [intOf]; omega
    · obtain rfl : k = 4 := by omega
      have HS := hid (h1.same hze.out)
      have H2 := hid h2
      clear h1 h2 hO
      go_wp2_with (first
        | (refine wpList_load_arr rfl 44 _ rfl w.heap.size rfl 16 z ?_ _ Try.underlying44 rfl Try.sizeBlock ?_; exact HS.out)
        | (refine wpList_store_arr rfl 44 _ _ rfl (w.heap.size + 1) 16 z rfl rfl (fun _ => 0) ?_ Try.sizeBlock ?_; exact H2.out))
      refine bodyPost_ret (v := .agg (vals 16 z).toArray) ?_ rfl ⟨rfl, below_setCells _ 0 hb (by omega)⟩
      exact results_cell_arr rfl _ _ 16 _ _ rfl (H2.out.put _) Try.underlying44 rfl Try.sizeBlock

/-- The error that a question has. -/
def opensN (nk nn nt : Nat) : Int := if mayB nk = false ∨ nn ≠ 12 then 2 else if 65536 < nt then 3 else 0
end Go.Proofs.Ytgnhbfjngdgibaa
