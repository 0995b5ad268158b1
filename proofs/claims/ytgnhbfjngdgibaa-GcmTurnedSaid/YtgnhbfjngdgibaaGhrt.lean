/-
  The document's Sum.
-/
import Derived.Test.YtgnhbfjngdgibaaGhrs
import Derived.Test.YtgnhbfjngdgibaaGhra
import Derived.Test.YtgnhbfjngdgibaaGhrm
import Derived.Test.YtgnhbfjngdgibaaKa
namespace Go.Proofs.Ytgnhbfjngdgibaa
open Go.RowKit
set_option linter.unusedVariables false
set_option linter.unusedSimpArgs false

/-- All that the document's Sum hashes. -/
def tot (n m : Nat) (xs ys : List Int) : List Int := full xs ++ full ys ++ be 8 (8 * (n : Int)) ++ be 8 (8 * (m : Int))
theorem tot_sum {n m : Nat} {xs ys : List Int} (H : Nat) (hn : xs.length = n) (hm : ys.length = m) (h1 : n ≤ 4000) (h2 : m ≤ 4000) : tkL H 0 (tot n m xs ys) = sumN H xs ys := by
  have e := be_words (h := 8 * n) (l := 8 * m) (by omega) (by omega)
  rw [show ((8 * n : Nat) : Int) = 8 * (n : Int) from by omega, show ((8 * m : Nat) : Int) = 8 * (m : Int) from by omega] at e
  have lt : 8 * n * 18446744073709551616 + 8 * m < 2 ^ 128 := by
    rw [show (2 : Nat) ^ 128 = 18446744073709551616 * 18446744073709551616 from rfl]
    omega
  rw [tot, List.append_assoc, e, List.append_assoc, tkL_append, tkL_append, tkL_one _ _ (row_length _ _), blk_row, el_by16 lt, sumN, hn, hm]
theorem tot_length {n m : Nat} {xs ys : List Int} (hn : xs.length = n) (hm : ys.length = m) : (tot n m xs ys).length = n + fillN n + (m + fillN m) + 8 + 8 := by
  simp only [tot, full, List.length_append, List.length_replicate, be_length, hn, hm]
theorem fill_mod (n : Nat) : (n + fillN n) % 16 = 0 := by unfold fillN; omega

theorem Bin.grownR {w w' : World} {p : Option Addr} {ys : List Int} {row : Option Nat} (h : Bin w p ys) (hg : w.grownBy w' row) (hne : ∀ b o, p = some ⟨b, o, none⟩ → some b ≠ row) : Bin w' p ys := fun hl => by
  obtain ⟨b, o, rfl, hlt, hc⟩ := h.at hl
  exact ⟨b, o, rfl, fun i hi => (hg.cell_far ⟨b, o + i, none⟩ hlt (hne b o rfl)).trans (hc i hi)⟩

set_option maxHeartbeats 8000000 in
set_option maxRecDepth 100000 in
theorem refSum_of (h : Nat → Nat) (p q : Option Addr) (c d n m : Nat) (xs ys : List Int) (w : World) (oh : ∀ j, h j < 256) (hn : xs.length = n) (hm : ys.length = m) (hp : Bin w p xs) (hq : Bin w q ys) (hx : Oct xs) (hy : Oct ys)
    (h1 : n ≤ 4000) (h2 : m ≤ 4000) :
    Calls Try.prog 44 #[.agg (vals 16 h).toArray, .slice p n c, .slice q m d] w fun e w' => e = .returned (.agg (vals 16 (by16 (sumN (el h) xs ys))).toArray) ∧ Below w.heap.size w w' := by
  have hzb := Try.zeroBlock
  obtain ⟨i0, hi, hz0, hz1, hz2⟩ := info_parts Try.infoU8
  obtain ⟨w1, hw1, hh1, hr1, hB, hsz⟩ := boxes2 w 16 h (fun _ => 0) 44 44
  obtain ⟨V, hV⟩ : ∃ V, Hid (V = sumN (el h) xs ys) := ⟨_, rfl⟩
  rw [← hV.out]
  have hts := tot_sum (el h) hn hm h1 h2
  have htl := tot_length hn hm
  rw [← hV.out] at hts
  have HTS := hid hts
  have hto : Oct (tot n m xs ys) := (((full_oct hx).append (full_oct hy)).append (be_oct _ _)).append (be_oct _ _)
  have f1 : fillN n < 16 := Nat.mod_lt _ (by decide)
  have f2 : fillN m < 16 := Nat.mod_lt _ (by decide)
  have m1 := fill_mod n
  have m2 := fill_mod m
  obtain ⟨N1, hN1⟩ : ∃ N, N = n + fillN n := ⟨_, rfl⟩
  obtain ⟨N2, hN2⟩ : ∃ N, N = m + fillN m := ⟨_, rfl⟩
  have hA := refFull_of p c n xs w1 hn (hp.below hB) (by omega)
  rw [← hN1] at hA
  have HA := hid hA
  have lN1 : N1 ≤ 5000 := by omega
  have lN2 : N2 ≤ 5000 := by omega
  have HM := hid (show (N1 + N2 + 8 + 8) % 16 = 0 from by omega)
  have HTL := hid (show (tot n m xs ys).length = N1 + N2 + 8 + 8 from by rw [htl, hN1, hN2])
  clear hts htl hA m1 m2 hN1 f1 hx hy
  go_enter Try.func44, Try.ntmps44
  go_wp2_with fail
  rw [← hw1.out]
  refine HA.out.mono ?_
  rintro e w2 ⟨p1, c1, rfl, hO1, hb2⟩
  have HH1 := hid hh1
  have HR1 := hid hr1
  have C2 := hb2
  have HO1 := hid hO1
  clear HA hO1 hb2 hh1 hr1 hw1
  go_wp2_with fail
  have hA := refFull_of q d m ys w2 hm ((hq.below hB).below C2) (by omega)
  rw [← hN2] at hA
  refine hA.mono ?_
  rintro e w3 ⟨p2, c2, rfl, hO2, hb3⟩
  have C3 := C2.trans (hb3.mono C2.size)
  have HO3 := hid (HO1.out.below hb3)
  have HBI := hid hO2.slice'
  have HO2 := hid hO2.len
  have hs3 := C3.size
  clear hA HO1 hO2 hb3 hN2 f2 C2
  go_wp2_with (at_builtin; refine wpList_append_bin rfl (.tmp 18) (.tmp 20) 22 rfl i0 Try.underlying22 hi hz0 hz1 hz2 w1.heap.size _ N1 _ rfl (by exact HO3.out) p2 N2 c2 (full ys) rfl HO2.out HBI.out.2 (by omega) hs3 ?_; intro p4 c4 w4 hO4 hg4 _; have HO4 := hid hO4; have C4 := C3.grown hg4 hs3 (fun q hq => (World.ownsRow.lt HO3.out q hq).1); clear hO4 hg4 HO3 HBI HO2 hs3 C3)
  refine (of_any (8 * (n : Int)) 8 _ (by decide) (by decide) ⟨by omega, by omega⟩).mono ?_
  rintro e w5 ⟨v5, rfl, hO5, hb5⟩
  have HO5 := hid (HO4.out.below hb5)
  have C5 := C4.trans (hb5.mono C4.size)
  obtain ⟨p5, c5, rfl, hc5, hB5⟩ := hO5.bin
  clear hO5 hb5 HO4 C4
  go_wp2_with fail
  refine (of_any (8 * (m : Int)) 8 _ (by decide) (by decide) ⟨by omega, by omega⟩).mono ?_
  rintro e w6 ⟨v6, rfl, hO6, hb6⟩
  have HO6 := hid (HO5.out.below hb6)
  have C6 := C5.trans (hb6.mono C5.size)
  have HB5 := hid (hB5.below hb6)
  obtain ⟨g6, c6, rfl, hg6, _⟩ : ∃ g6 c6, v6 = .slice (some ⟨g6, 0, none⟩) 8 c6 ∧ w5.heap.size ≤ g6 ∧ 8 ≤ c6 := by
    rcases hO6.shape with ⟨_, h⟩ | h
    · cases h
    · exact h
  have HB6 := hid hO6.slice'.2
  have hs6 := C6.size
  have HF := hid (show ∀ b o, some (⟨g6, 0, none⟩ : Addr) = some ⟨b, o, none⟩ → some b ≠ (Value.slice p4 (N1 + N2) c4).ownBlock from fun b o e e2 => by
    have := (World.ownsRow.lt HO5.out b e2.symm).2
    injection e with e
    injection e with e1 _ _
    omega)
  clear hO6 hb6 hB5 C5 HO5
  go_wp2_with (first
    | (at_builtin; refine wpList_append_bin rfl (.tmp 38) (.tmp 39) 22 rfl i0 Try.underlying22 hi hz0 hz1 hz2 w1.heap.size _ (N1 + N2) _ rfl (by exact HO6.out) p5 8 c5 (be 8 (8 * (n : Int))) rfl (be_length _ _) HB5.out (by omega) hs6 ?_; intro p7 c7 w7 hO7 hg7 _; have HO7 := hid hO7; have C7 := C6.grown hg7 hs6 (fun q hq => (World.ownsRow.lt HO6.out q hq).1); have HB7 := hid (HB6.out.grownR hg7 HF.out); have hs7 := C7.size; clear hO7 hg7 HO6 HB5 HB6 HF hs6 C6)
    | (at_builtin; refine wpList_append_bin rfl (.tmp 41) (.tmp 42) 22 rfl i0 Try.underlying22 hi hz0 hz1 hz2 w1.heap.size _ (N1 + N2 + 8) _ rfl (by exact HO7.out) (some ⟨g6, 0, none⟩) 8 c6 (be 8 (8 * (m : Int))) rfl (be_length _ _) HB7.out (by omega) hs7 ?_; intro p8 c8 w8 hO8 hg8 _; have HO8 := hid hO8; have C8 := C7.grown hg8 hs7 (fun q hq => (World.ownsRow.lt HO7.out q hq).1); clear hO8 hg8 HO7 HB7 hs7 C7))
  have hO8 : Own w1.heap.size w8 (.slice p8 (N1 + N2 + 8 + 8) c8) (N1 + N2 + 8 + 8) (tot n m xs ys) := HO8.out
  have hub := Try.underlying44
  have hib := Try.sizeBlock
  obtain ⟨T, hT⟩ : ∃ T, T = N1 + N2 + 8 + 8 := ⟨_, rfl⟩
  have hT1 : 16 ≤ T ∧ T ≤ 11000 := by omega
  have HTL2 := HTL.out
  have HM2 := HM.out
  rw [← hT] at hO8 HTL2 HM2 ⊢
  have hb8 := hO8.slice'.2
  generalize tot n m xs ys = Lt at hO8 HTL2 HTS hto hb8
  obtain ⟨ba, oa, rfl, hba, hca⟩ := hb8.at (by omega)
  have HC := hid hca
  have HH := hid (HH1.out.below C8)
  have HR := hid (HR1.out.below C8)
  have hhl := HH.out.lt (by decide)
  have hrl := HR.out.lt (by decide)
  have hA := arr_new w8 16 (fun _ => 0) 44
  have hC := (Below.refl w8.heap.size w8).alloc (Nat.le_refl _) (.cells (vals 16 fun _ => 0).toArray 44)
  have hTS : tk (el h) (T / 16) 0 Lt = V := by
    have := HTS.out
    unfold tkL at this
    rwa [HTL2, show (T + 15) / 16 = T / 16 from by omega] at this
  have HTL2' := hid HTL2
  clear HO8 hO8 hT HTL HM hb8 hca HTS HTL2 HH1 HR1 lN1 lN2
  generalize w8.alloc (.cells (vals 16 fun _ => 0).toArray 44) = wL at hA hC ⊢
  go_loopw [13] (fun i wr => ∃ (k : Nat) (s : Nat → Nat), 16 * k ≤ T ∧ i = .int .i64 ((16 * k : Nat) : Int) ∧ Below w8.heap.size w8 wr ∧ Arr wr w8.heap.size 16 s ∧ (∀ j, s j < 256) ∧ tk (el h) (T / 16 - k) (el s) (Lt.drop (16 * k)) = V) (fun i _ => T - (intOf i).toNat)
  case atStart => exact ⟨0, fun _ => 0, Nat.zero_le _, rfl, hC, hA, fun _ => Nat.zero_lt_succ _, hTS⟩
  case round =>
    clear hA hC hTS
    obtain ⟨k, s, hk, rfl, hC, hA, os, hv⟩ := hrel
    obtain ⟨wo, rfl⟩ : ∃ wo, wo = wr := ⟨_, rfl⟩
    have HV := hid hv
    clear hv
    obtain ⟨u, hu⟩ : ∃ u, Hid (u = 16 * k) := ⟨_, rfl⟩
    rw [← hu.out]
    by_cases hlt : u < T
    · have uT : (u : Int) < (T : Int) := by omega
      have huT : u + 16 ≤ T := by have := hu.out; omega
      have hA14 := arr_new wo 16 (fun _ => 0) 44
      have hg := hC.size
      have hCn := hC.alloc hg (.cells (vals 16 fun _ => 0).toArray 44)
      have hAn := hA.alloc (.cells (vals 16 fun _ => 0).toArray 44)
      have hg12 := hA.lt (by decide)
      obtain ⟨g14, hg14⟩ : ∃ g, Hid (g = wo.heap.size) := ⟨_, rfl⟩
      rw [← hg14.out] at hA14 hg hg12
      obtain ⟨wz, hwz⟩ : ∃ wz, Hid (wz = wo.alloc (.cells (vals 16 fun _ => 0).toArray 44)) := ⟨_, rfl⟩
      rw [← hwz.out] at hA14 hCn hAn
      obtain ⟨x, hx⟩ : ∃ x : Nat → Nat, Hid (∀ j, x j = byt Lt (16 * k + j)) := ⟨_, fun _ => rfl⟩
      have ox : ∀ j, x j < 256 := fun j => by rw [hx.out j]; exact byt_lt hto _
      have HI := hid (And.intro hCn (And.intro hAn hA14))
      clear hC hA hCn hAn hA14
      go_wp2_with fail
      rw [← hwz.out, ← hg14.out]
      clear hwz hg14
      go_loopw [15] (fun i wr => ∃ r : Nat, r ≤ 16 ∧ i = .int .i64 (r : Int) ∧ Below w8.heap.size w8 wr ∧ Arr wr w8.heap.size 16 s ∧ Arr wr g14 16 (fun j => if j < r then x j else 0)) (fun i _ => 16 - (intOf i).toNat)
      case atStart => exact ⟨0, by decide, rfl, HI.out.1, HI.out.2.1, HI.out.2.2.same fun j _ => by rw [if_neg (by omega)]⟩
      case round =>
        clear HI
        obtain ⟨r, hr, rfl, hC, hA, hA14⟩ := hrel
        by_cases hlr : r < 16
        · have hw := (hC.cell (p := ⟨ba, oa + (u + r), none⟩) hba).trans (HC.out (u + r) (by rw [HTL2'.out]; omega))
          rw [byt_at hto, show byt Lt (u + r) = x r from by rw [hx.out r, hu.out]] at hw
          obtain ⟨hc14, hf14⟩ := hA14 r hlr
          have HC2 := hid (hC.setCell (show w8.heap.size ≤ (⟨g14, r, none⟩ : Addr).block from hg) (.int .u8 (x r : Nat)))
          have HA2 := hid (hA.beside (b' := g14) (by omega) r (.int .u8 (x r : Nat)))
          have HA3 := hid ((hA14.set r (x r) hlr).same (y := fun j => if j < r + 1 then x j else 0) fun j hj => by
            by_cases e : j = r
            · subst e; rw [if_pos rfl, if_pos (by omega)]
            · rw [if_neg e]
              by_cases h2 : j < r
              · rw [if_pos h2, if_pos (by omega)]
              · rw [if_neg h2, if_neg (by omega)])
          have rI : (r : Int) < 16 := by omega
          have p0 : (0 : Int) ≤ (u : Int) + (r : Int) := by omega
          have p1 : (u : Int) + (r : Int) < (T : Int) := by omega
          have t0 : ((u : Int) + (r : Int)).toNat = u + r := by omega
          have o1 : IntKind.i64.wrap ((u : Int) + (r : Int)) = (u : Int) + (r : Int) := by simp [IntKind.wrap, IntKind.bits, IntKind.signed]; omega
          clear hC hA hA14
          go_wp2_with fail
          go_roundw
          case rel => exact ⟨r + 1, by omega, by go_num, HC2.out, HA2.out, HA3.out⟩
          case measure => simp [intOf]; omega
        · obtain rfl : r = 16 := by omega
          have hA15 := hA14.same (y := x) fun j hj => by rw [if_pos hj]
          have hS0 : (fun v => Below w8.heap.size w8 v ∧ Arr v w8.heap.size 16 s ∧ Arr v g14 16 x) (wr.drew) := ⟨hC.trans (Below.refl _ _).drew, hA.drew, hA15.drew⟩
          clear hC hA hA14 hA15
          go_upto_region 16 with fail
          have hG : ∀ {v v' : World}, (Below w8.heap.size w8 v ∧ Arr v w8.heap.size 16 s ∧ Arr v g14 16 x) → Below v.heap.size v v' → (Below w8.heap.size w8 v' ∧ Arr v' w8.heap.size 16 s ∧ Arr v' g14 16 x) := fun hS hb8 => ⟨hS.1.trans (hb8.mono hS.1.size), hS.2.1.below hb8, hS.2.2.below hb8⟩
          refine wp_region_z (fun v => Below w8.heap.size w8 v ∧ Arr v w8.heap.size 16 s ∧ Arr v g14 16 x) 5 (by kernel_rfl) hS0 (fun hS => ?_)
          clear hS0
          refine wpAnyZ_take (i := 0) rfl (by kernel_rfl) (by kernel_rfl) (by kernel_rfl) (by kernel_rfl) (fun _ _ _ h => h) hS (yieldsIf_load_mid (by kernel_rfl) 44 (.tmp 12) rfl w8.heap.size 0 (by kernel_rfl) (vals 16 s) _ (fun w hS => hS.2.1.range) hub rfl hib) ?_
          simp only [Act.put, List.setIfInBounds_toArray, List.set_cons_zero, List.set_cons_succ]
          refine wpAnyZ_take (i := 1) rfl (by kernel_rfl) (by kernel_rfl) (by kernel_rfl) (by kernel_rfl) (fun _ _ _ h => h) hS (yieldsIf_load_mid (by kernel_rfl) 44 (.tmp 14) rfl g14 0 (by kernel_rfl) (vals 16 x) _ (fun w hS => hS.2.2.range) hub rfl hib) ?_
          simp only [Act.put, List.setIfInBounds_toArray, List.set_cons_zero, List.set_cons_succ]
          refine wpAnyZ_take (i := 3) rfl (by kernel_rfl) (by kernel_rfl) (by kernel_rfl) (by kernel_rfl) (fun _ _ _ h => h) hS (yieldsIf_load_mid (by kernel_rfl) 44 (.tmp 3) rfl w.heap.size 0 (by kernel_rfl) (vals 16 h) _ (fun w hS => (HH.out.below' hhl hS.1).range) hub rfl hib) ?_
          simp only [Act.put, List.setIfInBounds_toArray, List.set_cons_zero, List.set_cons_succ]
          refine wpAnyZ_one (i := 2) (by kernel_rfl) rfl (fun K hK => ?_)
          go_simp
          go_at_call 45
          refine (refAdds_of s x _ os ox).mono ?_
          rintro e v8 ⟨rfl, hb8⟩
          go_wp2_with fail
          refine hK.out _ _ (fun _ => hG hS hb8) ?_
          replace hS := hG hS hb8
          clear hK K
          try simp only [Act.put, List.setIfInBounds_toArray, List.set_cons_zero, List.set_cons_succ]
          obtain ⟨sx, hsx⟩ : ∃ f : Nat → Nat, Hid (f = fun j => s j ^^^ x j) := ⟨_, rfl⟩
          have osx : ∀ j, sx j < 256 := by rw [hsx.out]; exact fun j => xor_byte (os j) (ox j)
          rw [← hsx.out]
          refine wpAnyZ_one (i := 4) (by kernel_rfl) rfl (fun K hK => ?_)
          go_simp
          go_at_call 67
          refine (refMul_of sx h _ osx oh).mono ?_
          rintro e v8 ⟨rfl, hb8⟩
          go_wp2_with fail
          refine hK.out _ _ (fun _ => hG hS hb8) ?_
          replace hS := hG hS hb8
          clear hK K
          try simp only [Act.put, List.setIfInBounds_toArray, List.set_cons_zero, List.set_cons_succ]
          have hT0 := hS.2.1.there
          have hA := hS.2.1.put (by16 (G.mul (el sx) (el h)))
          have hC := below_setCells (vals 16 (by16 (G.mul (el sx) (el h)))) 0 hS.1 (Nat.le_refl w8.heap.size)
          refine wpAnyZ_one (i := 5) (by kernel_rfl) rfl (fun K hK => ?_)
          rw [if_pos (by rfl)]
          refine wp_store_arr _ _ _ rfl w8.heap.size 16 (by16 (G.mul (el sx) (el h))) rfl rfl hT0 hib ?_
          try simp only [Act.put, List.setIfInBounds_toArray, List.set_cons_zero, List.set_cons_succ]
          refine hK.out _ _ (fun h => absurd h (by decide)) ?_
          clear hK K hS hT0
          refine wpAnyZ_done (by kernel_rfl) ?_ _
          go_wp2_with fail
          go_roundw
          case rel => exact ⟨k + 1, _, by have := hu.out; omega, by have := hu.out; go_num, hC, hA, by16_lt _, by
            rw [el_by16 (G.mul_lt (el_lt oh)), hsx.out, el_xor os ox, ← HV.out]
            rw [show T / 16 - k = (T / 16 - (k + 1)) + 1 from by have := hu.out; omega, tk, show 16 * (k + 1) = 16 * k + 16 from by omega, ← List.drop_drop]
            rw [show blk (Lt.drop (16 * k)) = el x from el_congr fun j hj => by rw [byt_drop]; exact (hx.out j).symm]⟩
          case measure => have := hu.out; simp [intOf]; omega
    · have hk2 : 16 * k = T := by have := hu.out; omega
      have hr2 := HR.out.below' hrl hC
      have hv2 : el s = V := by
        have := HV.out
        rwa [show T / 16 - k = 0 from by omega, tk] at this
      have hvs : vals 16 s = vals 16 (by16 V) := by rw [← hv2, by16_vals os]
      have uT : ¬ ((u : Int) < (T : Int)) := by omega
      have hB9 := hB.trans (C8.mono hB.size)
      have hBe := hB9.trans (hC.mono hB9.size)
      clear HV
      go_wp2_with (first | (refine wpList_load_arr rfl 44 _ rfl w8.heap.size rfl 16 s ?_ _ Try.underlying44 rfl Try.sizeBlock ?_; exact hA) | (refine wpList_store_arr rfl 44 _ _ rfl (w.heap.size + 1) 16 s rfl rfl (fun _ => 0) ?_ Try.sizeBlock ?_; exact hr2))
      refine bodyPost_ret (v := .agg (vals 16 (by16 V)).toArray) ?_ rfl ⟨rfl, below_setCells _ 0 hBe (by omega)⟩
      rw [← hvs]
      exact results_cell_arr rfl _ _ 16 _ _ rfl (hr2.put _) Try.underlying44 rfl Try.sizeBlock
end Go.Proofs.Ytgnhbfjngdgibaa
