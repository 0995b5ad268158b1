/-
  The counter blocks of the program and of the document: First and Next.
-/
import Derived.Test.YtgnhbfjngdgibaaKh
import Derived.Test.YtgnhbfjngdgibaaKa
import Derived.Deep.CutRange
import Derived.Deep.DeepCutAuto
namespace Go.Proofs.Ytgnhbfjngdgibaa
open Go.RowKit
set_option linter.unusedVariables false
set_option linter.unusedSimpArgs false

/-- A copy into cells that are there. -/
theorem wpList_copy_cells {P : Program} {ops : Array Oper} {rest : List Oper} {o : Oper} {a : Act} {w : World} {Q : Exit → Act → World → Prop}
    (hg : o.guard = none) (s x : Operand) (t1 t2 : TypeId) (hop : o.op = Op.call { callee := Callee.builtin Builtin.copy, args := #[s, x], argTypes := #[t1, t2] })
    (e : TypeId) (h1 : P.underlying t1 = some (.slice e)) (h2 : (P.info? e).map (·.size) = some 1)
    (b off dn dcap : Nat) (hs : a.eval s = .slice (some ⟨b, off, none⟩) dn dcap)
    (ad : Addr) (m c : Nat) (hx : a.eval x = .slice (some ad) m c) (cs : List Value) (hn : cs.length = Nat.min m dn) (hc : ∀ j u, cs[j]? = some u → w.cell? (ad.add j) = some u)
    (ht : w.there b off cs.length) (h1c : ∀ u ∈ cs, u.oneCell' = true)
    (hK : wpList P ops Q rest (a.put o.dst (goInt cs.length)) (w.setCells b off cs)) : wpList P ops Q (o :: rest) a w := by
  refine wpList_plain hg fun K hK' => ?_
  have hrun := run_copy_cells (P := P) w t1 t2 o.type e b off dn dcap ad m c cs h1 h2 hn hc (fun j hj => (ht j hj).1) (fun j hj => (ht j hj).2) h1c
  unfold Oper.wp
  simp [execOp, hop, resolve, invoke, builtin, hs, hx, hrun, Result.andThen]
  exact hK' _ _ hK

theorem heap_setCells_other {b g : Nat} (hne : g ≠ b) : ∀ (vs : List Value) (o : Nat) (w : World), (w.setCells b o vs).heap[g]? = w.heap[g]?
  | [], _, _ => rfl
  | v :: r, o, w => (heap_setCells_other hne r (o + 1) (w.setCell ⟨b, o, none⟩ v)).trans (Below.heap_setCell _ _ _ g hne)
/-- One's own slice stays where an elder block is written. -/
theorem Own.besidePut {B b n : Nat} {w : World} {v : Value} {xs : List Int} (h : Own B w v n xs) (hb : b < B) (o : Nat) (vs : List Value) : Own B (w.setCells b o vs) v n xs := by
  refine ⟨h.1, ?_⟩
  rcases h.2 with h2 | ⟨g, cap, cur, h1, h2, h3, h4⟩
  · exact .inl h2
  · exact .inr ⟨g, cap, cur, h1, h2, (heap_setCells_other (by omega) vs o w).trans h3, h4⟩
theorem Own.ne {B b n : Nat} {w : World} {v : Value} {xs : List Int} (h : Own B w v n xs) (hb : b < B) : some b ≠ v.ownBlock := fun e => by
  have := (World.ownsRow.lt h b e.symm).1
  omega
theorem Arr.grown {w w' : World} {b n : Nat} {x : Nat → Nat} {row : Option Nat} (h : Arr w b n x) (hn : 0 < n) (hg : w.grownBy w' row) (hne : some b ≠ row) : Arr w' b n x := fun j hj =>
  ⟨(hg.cell_far ⟨b, j, none⟩ (h.lt hn) hne).trans (h j hj).1, (hg.frozen_far ⟨b, j, none⟩ (h.lt hn) hne).trans (h j hj).2⟩
/-- What a step keeps that turns one block. -/
theorem gb_below {w w1 w2 : World} {row : Option Nat} (h : w.grownBy w1 row) (hb : Below w1.heap.size w1 w2) : w.grownBy w2 row :=
  ⟨hb.os.trans h.os, hb.tape.trans h.tape, hb.output.trans h.output, Nat.le_trans h.size hb.size, fun k hk hne => (hb.block k (Nat.lt_of_lt_of_le hk h.size)).trans (h.block k hk hne)⟩
theorem gb_of {w w1 : World} (row : Option Nat) (hb : Below w.heap.size w w1) : w.grownBy w1 row := ⟨hb.os, hb.tape, hb.output, hb.size, fun k hk _ => hb.block k hk⟩
theorem gb_set {w w1 : World} {row : Option Nat} {b : Nat} (h : w.grownBy w1 row) (hb : some b = row ∨ w.heap.size ≤ b) (o : Nat) (vs : List Value) : w.grownBy (w1.setCells b o vs) row := by
  have h0 := below_setCells (b := b) vs o (Below.refl 0 w1) (Nat.zero_le _)
  refine ⟨h0.os.trans h.os, h0.tape.trans h.tape, h0.output.trans h.output, Nat.le_trans h.size h0.size, fun k hk hne => (heap_setCells_other ?_ vs o w1).trans (h.block k hk hne)⟩
  rintro rfl
  rcases hb with e | e
  · exact hne e
  · omega
theorem gb_trans {w w1 w2 : World} {row : Option Nat} (h : w.grownBy w1 row) (h2 : w1.grownBy w2 row) : w.grownBy w2 row :=
  ⟨h2.os.trans h.os, h2.tape.trans h.tape, h2.output.trans h.output, Nat.le_trans h.size h2.size, fun k hk hne => (h2.block k (Nat.lt_of_lt_of_le hk h.size) hne).trans (h.block k hk hne)⟩
theorem Bin.grown {w w' : World} {row : Option Nat} {p : Option Addr} {xs : List Int} (h : Bin w p xs) (hg : w.grownBy w' row) (hne : ∀ a, p = some a → some a.block ≠ row) : Bin w' p xs := fun hn => by
  obtain ⟨b, o, rfl, hlt, hc⟩ := h.at hn
  exact ⟨b, o, rfl, fun i hi => (hg.cell_far ⟨b, o + i, none⟩ hlt (hne ⟨b, o, none⟩ rfl)).trans (hc i hi)⟩
theorem be4 (n : Nat) : be 4 (n : Int) = row (fun j => n / 256 ^ (3 - j) % 256) 4 := by
  simp [be, row, List.range_succ]
theorem get4 (b o cap : Nat) (x : Nat → Nat) (w : World) (ox : ∀ j, x j < 256) (h : ∀ i, i < 4 → w.cell? ⟨b, o + i, none⟩ = some (.int .u8 (x i : Nat))) :
    Calls Try.prog 26 #[.slice (some ⟨b, o, none⟩) 4 cap] w fun e w' => e = .returned (.tuple #[.int .u64 (nb x 4 : Nat), .int .i64 0]) ∧ w = w' := by
  have := get_any (some ⟨b, o, none⟩) cap (row x 4) w (fun _ => ⟨b, o, rfl, fun i hi => by
    rw [row_length] at hi
    rw [h i hi, row_at x 4 i hi]⟩) (row_oct ox 4) (by rw [row_length]; decide) (by rw [row_length]; decide)
  rw [row_length, num_row] at this
  exact this
theorem put4' (n : Nat) (w : World) (h : n < 4294967296) :
    Calls Try.prog 25 #[.int .u64 n, .int .i64 4] w fun e w' => ∃ g c, e = .returned (.tuple #[.slice (some ⟨g, 0, none⟩) 4 c, .int .i64 0]) ∧ Own w.heap.size w' (.slice (some ⟨g, 0, none⟩) 4 c) 4 (row (fun j => n / 256 ^ (3 - j) % 256) 4) ∧ Below w.heap.size w w' := by
  refine (put_any n 4 w (by decide) (by decide) ⟨by omega, by omega⟩).mono ?_
  rintro e w' ⟨_, h1, hb⟩
  obtain ⟨v, he, hO⟩ := h1 (by omega)
  rw [be4] at hO
  rcases hO.shape with ⟨_, h0⟩ | ⟨g, c, rfl, _, _⟩
  · omega
  · exact ⟨g, c, he, hO, hb⟩
/-- One's own bytes as cells to be copied. -/
theorem own_cells {B : Nat} {w : World} {g c n : Nat} {y : Nat → Nat} (h : Own B w (.slice (some ⟨g, 0, none⟩) n c) n (row y n)) :
    ∀ j u, (vals n y)[j]? = some u → w.cell? ((⟨g, 0, none⟩ : Addr).add j) = some u := fun j u hj => by
  have hjl : j < n := by have := (List.getElem?_eq_some_iff.1 hj).1; rwa [vals_length] at this
  rw [Addr.add_mid, Nat.zero_add, h.cellAt j hjl, row_at y n j hjl, ← hj, vals_at n y j hjl]

set_option maxHeartbeats 2000000 in
set_option maxRecDepth 100000 in
theorem next_of (x : Nat → Nat) (w : World) (ox : ∀ j, x j < 256) :
    Calls Try.prog 54 #[.agg (vals 16 x).toArray] w fun e w' => e = .returned (.agg (vals 16 (nxt x)).toArray) ∧ Below w.heap.size w w' := by
  have hzb := Try.zeroBlock
  have hcl := cnt_lt ox
  obtain ⟨v, hv⟩ : ∃ v, Hid (v = (cnt x + 1) % 4294967296) := ⟨_, rfl⟩
  have hvl : v < 4294967296 := by rw [hv.out]; omega
  obtain ⟨z, hz⟩ : ∃ z, Hid (z = nxt x) := ⟨_, rfl⟩
  rw [← hz.out]
  have hze : Hid (∀ j, j < 16 → z j = if 12 ≤ j ∧ j < 12 + 4 then (fun j => v / 256 ^ (3 - j) % 256) (j - 12) else x j) := hid fun j hj => by
    rw [hz.out, hv.out]
    unfold nxt setN
    by_cases h : j < 12
    · rw [if_pos h, if_neg (by omega)]
    · rw [if_neg h, if_pos (by omega)]
      show _ = (cnt x + 1) % 4294967296 / 256 ^ (3 - (j - 12)) % 256
      rw [show 3 - (j - 12) = 15 - j from by omega]
  obtain ⟨w1, hw1, hx1, hz1, hB, hsz⟩ := boxes2 w 16 x (fun _ => 0) 44 44
  have HX := hid hx1
  have HZ := hid hz1
  clear hx1 hz1
  go_enter Try.func54, Try.ntmps54
  go_wp2_with fail
  rw [← hw1.out]
  refine (get4 _ _ _ (fun j => x (12 + j)) _ (fun j => ox _) (fun i hi => (HX.out (12 + i) (by omega)).1)).mono ?_
  rintro e w' ⟨rfl, rfl⟩
  generalize hcc : nb (fun j => x (12 + j)) 4 = cc at *
  have hc2 : cnt x = cc := hcc
  rw [hc2] at hv hcl
  clear hcc hc2
  go_wp2_with fail
  rw [show ((cc : Nat) : Int) + 1 = ((cc + 1 : Nat) : Int) from by omega, show ((cc + 1 : Nat) : Int) % 4294967296 = ((v : Nat) : Int) from by rw [hv.out]; omega]
  refine (put4' v _ hvl).mono ?_
  rintro e w2 ⟨g, c, rfl, hO, hb2⟩
  obtain ⟨hg, _, _⟩ := hO.slice
  have hX2 := HX.out.below hb2
  have hZ2 := HZ.out.below hb2
  have hX3 := hX2.putAt (o := 12) (n := 4) (by decide) (fun j => v / 256 ^ (3 - j) % 256) z hze.out
  have hZ3 := hZ2.besidePut (b' := w.heap.size) (by omega) 12 (vals 4 fun j => v / 256 ^ (3 - j) % 256)
  have hB2 := below_setCells (b := w.heap.size) (vals 4 fun j => v / 256 ^ (3 - j) % 256) 12 (hB.trans (hb2.mono hB.size)) (Nat.le_refl _)
  have HC := hid (own_cells hO)
  have HT := hid (hX2.thereAt (o := 12) (n := 4) (by decide))
  have HX3 := hid hX3
  have HZ3 := hid hZ3
  clear hX2 hZ2 hX3 hZ3 HX HZ hO hb2 hB hw1
  go_wp2_with (first
    | (with_reducible refine wpList_copy_cells rfl (.tmp 20) (.tmp 21) 22 22 rfl 5 Try.underlying22 Try.sizeByte w.heap.size 12 4 _ rfl ⟨g, 0, none⟩ 4 c rfl (vals 4 fun j => v / 256 ^ (3 - j) % 256) (by simp [vals_length]) (by exact HC.out) (by rw [vals_length]; exact HT.out) (vals_one _ _) ?_)
    | (refine wpList_load_arr rfl 44 _ rfl w.heap.size rfl 16 z ?_ _ Try.underlying44 rfl Try.sizeBlock ?_; exact HX3.out)
    | (refine wpList_store_arr rfl 44 _ _ rfl (w.heap.size + 1) 16 z rfl rfl (fun _ => 0) ?_ Try.sizeBlock ?_; exact HZ3.out))
  refine bodyPost_ret (v := .agg (vals 16 z).toArray) ?_ rfl ⟨rfl, below_setCells _ 0 hB2 (by omega)⟩
  exact results_cell_arr rfl _ _ 16 _ _ rfl (HZ3.out.put _) Try.underlying44 rfl Try.sizeBlock

/-- Noughts, and a one at the end. -/
def one15 (j : Nat) : Nat := if j = 15 then 1 else 0

set_option maxHeartbeats 2000000 in
set_option maxRecDepth 100000 in
theorem first_no (p : Option Addr) (cap n : Nat) (w : World) (hn : n ≠ 12) :
    Calls Try.prog 36 #[.slice p n cap] w fun e w' => e = .returned (.tuple #[.agg (vals 16 fun _ => 0).toArray, .int .i64 2]) ∧ Below w.heap.size w w' := by
  have hzb := Try.zeroBlock
  have hA := arr_new w 16 (fun _ => 0) 44
  have hB := (Below.refl w.heap.size w).alloc (Nat.le_refl _) (.cells (vals 16 fun _ => 0).toArray 44)
  have hne : ((n : Int) != 12) = true := by simp; omega
  go_enter Try.func36, Try.ntmps36
  go_wp2_with (refine wpList_store_arr rfl 44 _ _ rfl w.heap.size 16 (fun _ => 0) rfl (by kernel_rfl) (fun _ => 0) ?_ Try.sizeBlock ?_; exact hA)
  refine bodyPost_ret (v := .tuple #[.agg (vals 16 fun _ => 0).toArray, .int .i64 2]) ?_ rfl ⟨rfl, below_setCells _ 0 hB (Nat.le_refl _)⟩
  exact results_cell_tmp_arr rfl _ _ 16 _ _ _ rfl rfl (hA.put _) Try.underlying44 rfl Try.sizeBlock

set_option maxHeartbeats 2000000 in
set_option maxRecDepth 100000 in
theorem first_of (p : Option Addr) (cap : Nat) (xs : List Int) (w : World) (hp : Bin w p xs) (hx : Oct xs) (hl : xs.length = 12) :
    Calls Try.prog 36 #[.slice p (12 : Nat) cap] w fun e w' => e = .returned (.tuple #[.agg (vals 16 (frs xs)).toArray, .int .i64 0]) ∧ Below w.heap.size w w' := by
  have hzb := Try.zeroBlock
  obtain ⟨b, o, rfl, hbl, hcell⟩ := hp.at (by omega)
  obtain ⟨z, hz⟩ : ∃ z, Hid (z = frs xs) := ⟨_, rfl⟩
  rw [← hz.out]
  have hze : ∀ j, j < 16 → z j = if 0 ≤ j ∧ j < 0 + 12 then byt xs (j - 0) else one15 j := fun j hj => by
    rw [hz.out]
    unfold frs one15
    by_cases h : j < 12
    · rw [if_pos h, if_pos (show 0 ≤ j ∧ j < 0 + 12 from by omega), Nat.sub_zero]
    · rw [if_neg h, if_neg (show ¬ (0 ≤ j ∧ j < 0 + 12) from by omega)]
  obtain ⟨w1, hw1, hx1, hz1, hB, hsz⟩ := boxes2 w 16 (fun _ => 0) (fun _ => 0) 44 44
  have hA1 := hz1.put one15
  have hR1 := hx1.besidePut (b' := w.heap.size + 1) (by omega) 0 (vals 16 one15)
  have hA2 := hA1.putAt (o := 0) (n := 12) (by decide) (byt xs) z hze
  have hR2 := hR1.besidePut (b' := w.heap.size + 1) (by omega) 0 (vals 12 (byt xs))
  have hB1 := below_setCells (b := w.heap.size + 1) (vals 16 one15) 0 hB (by omega)
  have HC := hid (show ∀ j u, (vals 12 (byt xs))[j]? = some u → (w1.setCells (w.heap.size + 1) 0 (vals 16 one15)).cell? ((⟨b, o, none⟩ : Addr).add j) = some u from fun j u hj => by
    have hjl : j < 12 := by have := (List.getElem?_eq_some_iff.1 hj).1; rwa [vals_length] at this
    rw [Addr.add_mid, hB1.cell (p := ⟨b, o + j, none⟩) hbl, hcell j (by omega), byt_at hx j, ← hj, vals_at _ _ _ hjl])
  have HT := hid (hA1.thereAt (o := 0) (n := 12) (by decide))
  have hB2 := below_setCells (b := w.heap.size + 1) (vals 12 (byt xs)) 0 hB1 (by omega)
  have HA0 := hid hz1
  have HA2 := hid hA2
  have HR2 := hid hR2
  clear hx1 hz1 hA1 hR1 hA2 hR2 hcell hB hze hp
  go_enter Try.func36, Try.ntmps36
  go_upto_region 4 with (refine wpList_store_arr rfl 44 _ _ rfl (w.heap.size + 1) 16 one15 rfl (by kernel_rfl) (fun _ => 0) ?_ Try.sizeBlock ?_; rw [← hw1.out]; exact HA0.out)
  rw [← hw1.out]
  go_wp2_with (first
    | (with_reducible refine wpList_copy_cells rfl (.tmp 10) (.tmp 11) 22 22 rfl 5 Try.underlying22 Try.sizeByte (w.heap.size + 1) 0 16 _ rfl ⟨b, o, none⟩ 12 cap rfl (vals 12 (byt xs)) (by simp [vals_length]) (by exact HC.out) (by rw [vals_length]; exact HT.out) (vals_one _ _) ?_)
    | (refine wpList_load_arr rfl 44 _ rfl (w.heap.size + 1) rfl 16 z ?_ _ Try.underlying44 rfl Try.sizeBlock ?_; exact HA2.out)
    | (refine wpList_store_arr rfl 44 _ _ rfl w.heap.size 16 z rfl rfl (fun _ => 0) ?_ Try.sizeBlock ?_; exact HR2.out))
  refine bodyPost_ret (v := .tuple #[.agg (vals 16 z).toArray, .int .i64 0]) ?_ rfl ⟨rfl, below_setCells _ 0 hB2 (Nat.le_refl _)⟩
  exact results_cell_tmp_arr rfl _ _ 16 _ _ _ rfl rfl (HR2.out.put _) Try.underlying44 rfl Try.sizeBlock
end Go.Proofs.Ytgnhbfjngdgibaa
