/-
  The walk of GhashAdds.
-/
import Derived.Test.YtdifilcgammniaaArn2
import Derived.Test.YtdifilcgammniaaGhkn
import Derived.Test.YtdifilcgammniaaGhq
import Derived.Test.YtdifilcgammniaaApz
import Derived.Test.YtdifilcgammniaaOsl
namespace Go.Proofs.Ytdifilcgammniaa
open Go.RowKit
set_option linter.unusedVariables false
set_option linter.unusedSimpArgs false

theorem min_three {P : Program} (a b c : Int) (w : World) : (Builtin.min_ #[3, 3, 3] 3 #[.int .i64 a, .int .i64 b, .int .i64 c]).run P w = .ok (.int .i64 (if c < (if b < a then b else a) then c else if b < a then b else a)) w := by
  simp [Builtin.min_, Builtin.min2]
/-- The beginning of a slice of bytes. -/
theorem sliced_to {p : Option Addr} {n c : Nat} {w : World} {xs : List Int} (h : Bin w p xs) (h1 : n ≤ xs.length) (h2 : xs.length ≤ c) : ∃ p1, sliced p 0 n c 1 = .slice p1 n c ∧ Bin w p1 (xs.take n) := by
  refine ⟨_, rfl, fun hl => ?_⟩
  rw [List.length_take] at hl
  rw [if_neg (show ¬ c = 0 by omega)]
  obtain ⟨b, o, rfl, hc⟩ := h (by omega)
  refine ⟨b, o, by simp [Addr.add], fun i hi => ?_⟩
  rw [List.length_take] at hi
  rw [hc i (by omega), List.getD_eq_getElem?_getD, List.getD_eq_getElem?_getD, List.getElem?_take, if_pos (by omega)]

set_option maxHeartbeats 40000000 in
set_option maxRecDepth 100000 in
theorem gadds_law (h : Nat → Nat) (p : Option Addr) (c : Nat) (xs : List Int) (q : Option Addr) (d : Nat) (ys : List Int) (w : World) (oh : ∀ j, h j < 256) (hp : Bin w p xs) (hx : Oct xs) (hm1 : xs.length ≤ 140737488351232) (hc : xs.length ≤ c) (hq : Bin w q ys) (hy : Oct ys) (hm2 : ys.length ≤ 140737488351232) (hd : ys.length ≤ d) :
    Calls Try.prog 9 #[.agg (vals 16 h).toArray, .slice p xs.length c, .slice q ys.length d] w fun e w' => e = .returned (.bool true) ∧ Below w.heap.size w w' := by
  have hzb := Try.zeroBlock
  have hub := Try.underlying35
  have hib := Try.sizeBlock
  obtain ⟨i0, hi, hz0, hz1, hz2⟩ := info_parts Try.infoU8
  obtain ⟨w1, hw1, hh1, hB, hsz⟩ := boxes1 w 16 h 35
  obtain ⟨n, hn⟩ : ∃ n, n = xs.length := ⟨_, rfl⟩
  obtain ⟨m, hm⟩ : ∃ m, m = ys.length := ⟨_, rfl⟩
  rw [← hn] at hm1 hc ⊢
  rw [← hm] at hm2 hd ⊢
  obtain ⟨N, hN⟩ : ∃ N, Hid (N = min n (min m 4000)) := ⟨_, rfl⟩
  have HL := hid (And.intro hn.symm hm.symm)
  have HP := hid hp
  have HQ := hid hq
  have HH1 := hid hh1
  clear hn hm hp hq hh1 hsz
  go_enter Try.func9, Try.ntmps9
  go_upto_region 1 with fail
  rw [← hw1.out]
  clear hw1
  have hNl : N ≤ n ∧ N ≤ m ∧ N ≤ 4000 := by have := hN.out; omega
  obtain ⟨hNn, hNm, hN4⟩ := hNl
  have hcN : N ≤ c := by omega
  have hdN : N ≤ d := by omega
  have hv : (if (4000 : Int) < (if (m : Int) < (n : Int) then (m : Int) else (n : Int)) then (4000 : Int) else if (m : Int) < (n : Int) then (m : Int) else (n : Int)) = (N : Int) := by have := hN.out; split <;> split at * <;> omega
  have hmin : ∀ wx, (Builtin.min_ #[3, 3, 3] 3 #[.int .i64 n, .int .i64 m, .int .i64 4000]).run Try.prog wx = .ok (.int .i64 N) wx := fun wx => by rw [← hv]; exact min_three n m 4000 wx
  clear hv
  go_upto_region 2 with fail
  clear hmin
  obtain ⟨FF, hFF⟩ : ∃ f : Nat → Nat, Hid (f = fun j => byt xs j ^^^ byt ys j) := ⟨_, rfl⟩
  go_wp2_with fail
  go_loopw [8, 20] (fun v i wr => ∃ k : Nat, k ≤ N ∧ i = .int .i64 (k : Int) ∧ Own w1.heap.size wr v k (row FF k) ∧ Below w1.heap.size w1 wr) (fun _ i _ => N - (intOf i).toNat)
  case atStart => exact ⟨0, Nat.zero_le _, rfl, Own.nil _ _, Below.refl _ _⟩
  case round =>
    obtain ⟨k, hk, rfl, hO, hb⟩ := hrel
    have hBw := hB.trans (hb.mono hB.size)
    by_cases hlt : k < N
    · obtain ⟨b1, o1, rfl, _, hcx⟩ := (HP.out.below hBw).at (by have := HL.out.1; omega)
      obtain ⟨b2, o2, rfl, _, hcy⟩ := (HQ.out.below hBw).at (by have := HL.out.2; omega)
      have hx1 := hcx k (by have := HL.out.1; omega)
      have hy1 := hcy k (by have := HL.out.2; omega)
      rw [byt_at hx k] at hx1
      rw [byt_at hy k] at hy1
      have HX := hid (xor8 (byt_lt hx k) (byt_lt hy k))
      have HO := hid hO
      have HFk := hid (show FF k = byt xs k ^^^ byt ys k from by rw [hFF.out])
      have hsz := hb.size
      have kN : (k : Int) < (N : Int) := by omega
      have kn : (k : Int) < (n : Int) := by omega
      have km : (k : Int) < (m : Int) := by omega
      generalize byt xs k = bx at hx1 HX HFk
      generalize byt ys k = bY at hy1 HX HFk
      clear hcx hcy hO hBw
      go_wp2
      go_region_law (refine step_append_lies _ rfl (.tmp 23) (.tmp 33) 22 rfl w1.heap.size 5 i0 (.int .u8 0) 1 1 Try.underlying22 hi hz0 hz1 hz2 rfl (by decide) _ k _ rfl (by exact World.ownsRow.alloc HO.out _) ⟨wr.heap.size, 0, none⟩ 1 1 [.int .u8 (bits .xor .u8 (bx : Int) (bY : Int))] rfl rfl (by exact one_new _ _ _) (int_one _) (by decide) (by unfold maxLen; omega) (by omega) (by simp; omega) _ rfl ?_; intro g2 cap2 w6 hown2 hgrow2 hat2 _)
      all_goals
        have HN2 := hid (show Own w1.heap.size w6 (.slice (some ⟨g2, 0, none⟩) (k + 1) cap2) (k + 1) (row FF (k + 1)) from by
          rw [row_snoc, HFk.out, ← HX.out]; unfold Own; rw [List.map_append]; exact hown2)
        have hb6 : Below w1.heap.size w1 w6 := (hb.drew.alloc (by simp; omega) _).grown hgrow2 (by simp; omega) (fun q hq => (World.ownsRow.lt HO.out q hq).1)
        clear hown2 hgrow2 hat2
        go_wp2
        go_roundw
        case rel => exact ⟨k + 1, by omega, by go_num, HN2.out, hb6⟩
        case measure => simp [intOf]; omega
    · obtain rfl : k = N := by omega
      obtain ⟨wb, rfl⟩ : ∃ wb, wb = wr := ⟨_, rfl⟩
      skip
      obtain ⟨pv, cv, rfl, hcv, hbv⟩ := hO.bin
      obtain ⟨pa, ea, hpa⟩ := sliced_to (n := k) (c := c) HP.out (by have := HL.out.1; omega) (by have := HL.out.1; omega)
      obtain ⟨pb, eb, hpb⟩ := sliced_to (n := k) (c := d) HQ.out (by have := HL.out.2; omega) (by have := HL.out.2; omega)
      have HPA := hid (hpa.below hBw)
      have HPB := hid (hpb.below hBw)
      have HTX := hid (show (xs.take k).length = k from by rw [List.length_take, HL.out.1]; omega)
      have HTY := hid (show (ys.take k).length = k from by rw [List.length_take, HL.out.2]; omega)
      have HH := hid (HH1.out.below' (HH1.out.lt (by decide)) hb)
      have lh := HH.out.lt (by decide)
      have HV0 := hid hbv
      have hBb := hBw
      have HOR := hid (show Oct (row FF k) from row_oct (fun j => by rw [hFF.out]; exact xor_byte (byt_lt hx j) (byt_lt hy j)) k)
      have HOZ := hid (show Oct (List.replicate k 0) from fun x hx => by rw [(List.mem_replicate.1 hx).2]; omega)
      obtain ⟨X, eX⟩ : ∃ f : Nat → Nat, Hid (f = by16 (sumN (el h) [] (xs.take k))) := ⟨_, rfl⟩
      have oX : ∀ j, X j < 256 := by rw [eX.out]; exact by16_lt _
      obtain ⟨Y, eY⟩ : ∃ f : Nat → Nat, Hid (f = by16 (sumN (el h) [] (ys.take k))) := ⟨_, rfl⟩
      have oY : ∀ j, Y j < 256 := by rw [eY.out]; exact by16_lt _
      obtain ⟨Z, eZ⟩ : ∃ f : Nat → Nat, Hid (f = by16 (sumN (el h) [] (row FF k))) := ⟨_, rfl⟩
      have oZ : ∀ j, Z j < 256 := by rw [eZ.out]; exact by16_lt _
      obtain ⟨O, eO⟩ : ∃ f : Nat → Nat, Hid (f = by16 (sumN (el h) [] (List.replicate k 0))) := ⟨_, rfl⟩
      have oO : ∀ j, O j < 256 := by rw [eO.out]; exact by16_lt _
      obtain ⟨XY, eXY⟩ : ∃ f : Nat → Nat, Hid (f = fun j => X j ^^^ Y j) := ⟨_, rfl⟩
      obtain ⟨ZO, eZO⟩ : ∃ f : Nat → Nat, Hid (f = fun j => Z j ^^^ O j) := ⟨_, rfl⟩
      have oXY : ∀ j, XY j < 256 := by rw [eXY.out]; exact fun j => xor_byte (oX j) (oY j)
      have oZO : ∀ j, ZO j < 256 := by rw [eZO.out]; exact fun j => xor_byte (oZ j) (oO j)
      have q1 := fun w => cmp_yes oXY oZO (by
        rw [eXY.out, el_xor oX oY, eX.out, eY.out, el_by16 (sumN_lt (el_lt oh) _ _), el_by16 (sumN_lt (el_lt oh) _ _), eZO.out, el_xor oZ oO, eZ.out, eO.out, el_by16 (sumN_lt (el_lt oh) _ _), el_by16 (sumN_lt (el_lt oh) _ _), hFF.out]
        exact sums_add hx hy (by have := HL.out.1; omega) (by have := HL.out.2; omega)) w
      clear hO hbv hpa hpb hBw hb
      go_upto_region 8 with fail
      go_cut [10, 11] (fun s10 s11 wx => ∃ ga gb : Nat, s10 = .pointer (some ⟨ga, 0, none⟩) ∧ s11 = .pointer (some ⟨gb, 0, none⟩) ∧ Arn wb [(ga, X), (gb, Y)] wx)
      case first =>
        have hSd : Arn wb [] wb.drew := ⟨⟨fun q hq => by simp at hq, (Below.refl _ _).drew⟩, by simp, fun q hq => by simp at hq⟩
        refine wp_region_z (Arn wb []) 14 (by kernel_rfl) hSd (fun hS => ?_)
        clear hSd
        generalize World.drew _ = w9 at hS ⊢
        refine wpAnyZ_take (i := 0) rfl (by kernel_rfl) (by kernel_rfl) (by kernel_rfl) (by kernel_rfl) (fun _ _ _ h => h) hS (yieldsIf_load_mid (by kernel_rfl) 35 (.tmp 3) rfl w.heap.size 0 (by kernel_rfl) (vals 16 h) _ (fun w hS => (HH.out.below' lh hS.below).range) hub rfl hib) ?_
        simp only [Act.put, List.setIfInBounds_toArray, List.set_cons_zero, List.set_cons_succ]
        refine wpAnyZ_take (i := 1) (v := .slice p n c) rfl (by kernel_rfl) (by kernel_rfl) (by kernel_rfl) (by kernel_rfl) (fun _ _ _ h => h) hS (Or.inl ⟨by kernel_rfl, fun w hS => (by clear hS; go_simp)⟩) ?_
        simp only [Act.put, List.setIfInBounds_toArray, List.set_cons_zero, List.set_cons_succ]
        refine wpAnyZ_take (i := 2) (v := .int .i64 (k : Int)) rfl (by kernel_rfl) (by kernel_rfl) (by kernel_rfl) (by kernel_rfl) (fun _ _ _ h => h) hS (Or.inl ⟨by kernel_rfl, fun w hS => (by clear hS; go_simp)⟩) ?_
        simp only [Act.put, List.setIfInBounds_toArray, List.set_cons_zero, List.set_cons_succ]
        refine wpAnyZ_take (i := 3) (v := .slice pa k c) rfl (by kernel_rfl) (by kernel_rfl) (by kernel_rfl) (by kernel_rfl) (fun _ _ _ h => h) hS (Or.inl ⟨by kernel_rfl, fun w hS => (by clear hS; rw [← ea]; go_simp)⟩) ?_
        simp only [Act.put, List.setIfInBounds_toArray, List.set_cons_zero, List.set_cons_succ]
        refine wpAnyZ_take (i := 5) rfl (by kernel_rfl) (by kernel_rfl) (by kernel_rfl) (by kernel_rfl) (fun _ _ _ h => h) hS (yieldsIf_load_mid (by kernel_rfl) 35 (.tmp 3) rfl w.heap.size 0 (by kernel_rfl) (vals 16 h) _ (fun w hS => (HH.out.below' lh hS.below).range) hub rfl hib) ?_
        simp only [Act.put, List.setIfInBounds_toArray, List.set_cons_zero, List.set_cons_succ]
        refine wpAnyZ_take (i := 6) (v := .slice q m d) rfl (by kernel_rfl) (by kernel_rfl) (by kernel_rfl) (by kernel_rfl) (fun _ _ _ h => h) hS (Or.inl ⟨by kernel_rfl, fun w hS => (by clear hS; go_simp)⟩) ?_
        simp only [Act.put, List.setIfInBounds_toArray, List.set_cons_zero, List.set_cons_succ]
        refine wpAnyZ_take (i := 7) (v := .int .i64 (k : Int)) rfl (by kernel_rfl) (by kernel_rfl) (by kernel_rfl) (by kernel_rfl) (fun _ _ _ h => h) hS (Or.inl ⟨by kernel_rfl, fun w hS => (by clear hS; go_simp)⟩) ?_
        simp only [Act.put, List.setIfInBounds_toArray, List.set_cons_zero, List.set_cons_succ]
        refine wpAnyZ_take (i := 8) (v := .slice pb k d) rfl (by kernel_rfl) (by kernel_rfl) (by kernel_rfl) (by kernel_rfl) (fun _ _ _ h => h) hS (Or.inl ⟨by kernel_rfl, fun w hS => (by clear hS; rw [← eb]; go_simp)⟩) ?_
        simp only [Act.put, List.setIfInBounds_toArray, List.set_cons_zero, List.set_cons_succ]
        refine wpAnyZ_three (i := 4) (j := 10) (k := 11) (by kernel_rfl) rfl rfl rfl (fun K hK => ?_) (fun K hK => ?_) (fun K hK => ?_) 
        · go_simp
          go_at_call 25
          refine (sum_of h none pa 0 c 0 k [] (xs.take k) _ oh rfl HTX.out (Bin.nil _ _) (HPA.out.below hS.below) Oct.nil (hx.take k) (by decide) (by omega) (Nat.zero_le _) (hcN)).mono ?_
          rintro e v0 ⟨rfl, hb8⟩
          rw [← eX.out]
          go_wp2_with fail
          refine hK.out _ _ (fun _ => (hS.grow hb8)) ?_
          replace hS := hS.grow hb8
          clear hK K hb8
          try simp only [Act.put, List.setIfInBounds_toArray, List.set_cons_zero, List.set_cons_succ]
          refine wpAnyZ_three (i := 9) (j := 10) (k := 11) (by kernel_rfl) rfl rfl rfl (fun K hK => ?_) (fun K hK => ?_) (fun K hK => ?_) 
          · go_simp
            go_at_call 25
            refine (sum_of h none pb 0 d 0 k [] (ys.take k) _ oh rfl HTY.out (Bin.nil _ _) (HPB.out.below hS.below) Oct.nil (hy.take k) (by decide) (by omega) (Nat.zero_le _) (hdN)).mono ?_
            rintro e v1 ⟨rfl, hb8⟩
            rw [← eY.out]
            go_wp2_with fail
            refine hK.out _ _ (fun _ => (hS.grow hb8)) ?_
            replace hS := hS.grow hb8
            clear hK K hb8
            try simp only [Act.put, List.setIfInBounds_toArray, List.set_cons_zero, List.set_cons_succ]
            refine wpAnyZ_two (i := 10) (j := 11) (by kernel_rfl) rfl rfl (fun K hK => ?_) (fun K hK => ?_) 
            · go_simp
              have hS2 := hS.fresh 35
              refine hK.out _ _ (fun _ => hS2.tail) ?_
              clear hK K hS
              obtain ⟨ga, hn⟩ : ∃ g, Hid (g = v1.heap.size) := ⟨_, rfl⟩
              rw [← hn.out] at hS2 ⊢
              generalize World.alloc v1 (.cells (vals 16 fun _ => 0).toArray 35) = v2 at hS2 ⊢
              clear hn
              have hS := hS2
              clear hS2
              try simp only [Act.put, List.setIfInBounds_toArray, List.set_cons_zero, List.set_cons_succ]
              refine wpAnyZ_one (i := 11) (by kernel_rfl) rfl (fun K hK => ?_)
              go_simp
              have hS2 := hS.fresh 35
              refine hK.out _ _ (fun _ => hS2.tail.tail) ?_
              clear hK K hS
              obtain ⟨gb, hn⟩ : ∃ g, Hid (g = v2.heap.size) := ⟨_, rfl⟩
              rw [← hn.out] at hS2 ⊢
              generalize World.alloc v2 (.cells (vals 16 fun _ => 0).toArray 35) = v3 at hS2 ⊢
              clear hn
              have hS := hS2
              clear hS2
              try simp only [Act.put, List.setIfInBounds_toArray, List.set_cons_zero, List.set_cons_succ]
              refine wpAnyZ_one (i := 12) (by kernel_rfl) rfl (fun K hK => ?_)
              have h0 := hS.at (g := ga) (x := fun _ => 0) (by simp)
              have hT0 := h0.there
              have hS2 := hS.put1 X
              rw [if_pos (by rfl)]
              refine wp_store_arr _ _ _ rfl ga 16 X rfl rfl hT0 hib ?_
              try simp only [Act.put, List.setIfInBounds_toArray, List.set_cons_zero, List.set_cons_succ]
              refine hK.out _ _ (fun _ => hS2.tail.tail) ?_
              generalize World.setCells v3 ga 0 (vals 16 X) = v4 at hS2 ⊢
              clear hK K hS hT0 h0
              have hS := hS2
              clear hS2
              refine wpAnyZ_one (i := 13) (by kernel_rfl) rfl (fun K hK => ?_)
              have h0 := hS.at (g := gb) (x := fun _ => 0) (by simp)
              have hT0 := h0.there
              have hS2 := hS.put0 Y
              rw [if_pos (by rfl)]
              refine wp_store_arr _ _ _ rfl gb 16 Y rfl rfl hT0 hib ?_
              try simp only [Act.put, List.setIfInBounds_toArray, List.set_cons_zero, List.set_cons_succ]
              refine hK.out _ _ (fun _ => hS2.tail.tail) ?_
              generalize World.setCells v4 gb 0 (vals 16 Y) = v5 at hS2 ⊢
              clear hK K hS hT0 h0
              have hS := hS2
              clear hS2
              refine wpAnyZ_done (by kernel_rfl) ?_ _
              go_wp2_with fail
              go_meet
              exact ⟨ga, gb, rfl, rfl, hS.swap⟩
            · go_simp
              have hS2 := hS.fresh 35
              refine hK.out _ _ (fun _ => hS2.tail) ?_
              clear hK K hS
              obtain ⟨gb, hn⟩ : ∃ g, Hid (g = v1.heap.size) := ⟨_, rfl⟩
              rw [← hn.out] at hS2 ⊢
              generalize World.alloc v1 (.cells (vals 16 fun _ => 0).toArray 35) = v2 at hS2 ⊢
              clear hn
              have hS := hS2
              clear hS2
              try simp only [Act.put, List.setIfInBounds_toArray, List.set_cons_zero, List.set_cons_succ]
              refine wpAnyZ_one (i := 10) (by kernel_rfl) rfl (fun K hK => ?_)
              go_simp
              have hS2 := hS.fresh 35
              refine hK.out _ _ (fun _ => hS2.tail.tail) ?_
              clear hK K hS
              obtain ⟨ga, hn⟩ : ∃ g, Hid (g = v2.heap.size) := ⟨_, rfl⟩
              rw [← hn.out] at hS2 ⊢
              generalize World.alloc v2 (.cells (vals 16 fun _ => 0).toArray 35) = v3 at hS2 ⊢
              clear hn
              have hS := hS2
              clear hS2
              try simp only [Act.put, List.setIfInBounds_toArray, List.set_cons_zero, List.set_cons_succ]
              refine wpAnyZ_one (i := 12) (by kernel_rfl) rfl (fun K hK => ?_)
              have h0 := hS.at (g := ga) (x := fun _ => 0) (by simp)
              have hT0 := h0.there
              have hS2 := hS.put0 X
              rw [if_pos (by rfl)]
              refine wp_store_arr _ _ _ rfl ga 16 X rfl rfl hT0 hib ?_
              try simp only [Act.put, List.setIfInBounds_toArray, List.set_cons_zero, List.set_cons_succ]
              refine hK.out _ _ (fun _ => hS2.tail.tail) ?_
              generalize World.setCells v3 ga 0 (vals 16 X) = v4 at hS2 ⊢
              clear hK K hS hT0 h0
              have hS := hS2
              clear hS2
              refine wpAnyZ_one (i := 13) (by kernel_rfl) rfl (fun K hK => ?_)
              have h0 := hS.at (g := gb) (x := fun _ => 0) (by simp)
              have hT0 := h0.there
              have hS2 := hS.put1 Y
              rw [if_pos (by rfl)]
              refine wp_store_arr _ _ _ rfl gb 16 Y rfl rfl hT0 hib ?_
              try simp only [Act.put, List.setIfInBounds_toArray, List.set_cons_zero, List.set_cons_succ]
              refine hK.out _ _ (fun _ => hS2.tail.tail) ?_
              generalize World.setCells v4 gb 0 (vals 16 Y) = v5 at hS2 ⊢
              clear hK K hS hT0 h0
              have hS := hS2
              clear hS2
              refine wpAnyZ_done (by kernel_rfl) ?_ _
              go_wp2_with fail
              go_meet
              exact ⟨ga, gb, rfl, rfl, hS⟩
          · go_simp
            have hS2 := hS.fresh 35
            refine hK.out _ _ (fun _ => hS2.tail) ?_
            clear hK K hS
            obtain ⟨ga, hn⟩ : ∃ g, Hid (g = v0.heap.size) := ⟨_, rfl⟩
            rw [← hn.out] at hS2 ⊢
            generalize World.alloc v0 (.cells (vals 16 fun _ => 0).toArray 35) = v1 at hS2 ⊢
            clear hn
            have hS := hS2
            clear hS2
            try simp only [Act.put, List.setIfInBounds_toArray, List.set_cons_zero, List.set_cons_succ]
            refine wpAnyZ_two (i := 9) (j := 11) (by kernel_rfl) rfl rfl (fun K hK => ?_) (fun K hK => ?_) 
            · go_simp
              go_at_call 25
              refine (sum_of h none pb 0 d 0 k [] (ys.take k) _ oh rfl HTY.out (Bin.nil _ _) (HPB.out.below hS.below) Oct.nil (hy.take k) (by decide) (by omega) (Nat.zero_le _) (hdN)).mono ?_
              rintro e v2 ⟨rfl, hb8⟩
              rw [← eY.out]
              go_wp2_with fail
              refine hK.out _ _ (fun _ => (hS.grow hb8).tail) ?_
              replace hS := hS.grow hb8
              clear hK K hb8
              try simp only [Act.put, List.setIfInBounds_toArray, List.set_cons_zero, List.set_cons_succ]
              refine wpAnyZ_one (i := 11) (by kernel_rfl) rfl (fun K hK => ?_)
              go_simp
              have hS2 := hS.fresh 35
              refine hK.out _ _ (fun _ => hS2.tail.tail) ?_
              clear hK K hS
              obtain ⟨gb, hn⟩ : ∃ g, Hid (g = v2.heap.size) := ⟨_, rfl⟩
              rw [← hn.out] at hS2 ⊢
              generalize World.alloc v2 (.cells (vals 16 fun _ => 0).toArray 35) = v3 at hS2 ⊢
              clear hn
              have hS := hS2
              clear hS2
              try simp only [Act.put, List.setIfInBounds_toArray, List.set_cons_zero, List.set_cons_succ]
              refine wpAnyZ_one (i := 12) (by kernel_rfl) rfl (fun K hK => ?_)
              have h0 := hS.at (g := ga) (x := fun _ => 0) (by simp)
              have hT0 := h0.there
              have hS2 := hS.put1 X
              rw [if_pos (by rfl)]
              refine wp_store_arr _ _ _ rfl ga 16 X rfl rfl hT0 hib ?_
              try simp only [Act.put, List.setIfInBounds_toArray, List.set_cons_zero, List.set_cons_succ]
              refine hK.out _ _ (fun _ => hS2.tail.tail) ?_
              generalize World.setCells v3 ga 0 (vals 16 X) = v4 at hS2 ⊢
              clear hK K hS hT0 h0
              have hS := hS2
              clear hS2
              refine wpAnyZ_one (i := 13) (by kernel_rfl) rfl (fun K hK => ?_)
              have h0 := hS.at (g := gb) (x := fun _ => 0) (by simp)
              have hT0 := h0.there
              have hS2 := hS.put0 Y
              rw [if_pos (by rfl)]
              refine wp_store_arr _ _ _ rfl gb 16 Y rfl rfl hT0 hib ?_
              try simp only [Act.put, List.setIfInBounds_toArray, List.set_cons_zero, List.set_cons_succ]
              refine hK.out _ _ (fun _ => hS2.tail.tail) ?_
              generalize World.setCells v4 gb 0 (vals 16 Y) = v5 at hS2 ⊢
              clear hK K hS hT0 h0
              have hS := hS2
              clear hS2
              refine wpAnyZ_done (by kernel_rfl) ?_ _
              go_wp2_with fail
              go_meet
              exact ⟨ga, gb, rfl, rfl, hS.swap⟩
            · go_simp
              have hS2 := hS.fresh 35
              refine hK.out _ _ (fun _ => hS2.tail.tail) ?_
              clear hK K hS
              obtain ⟨gb, hn⟩ : ∃ g, Hid (g = v1.heap.size) := ⟨_, rfl⟩
              rw [← hn.out] at hS2 ⊢
              generalize World.alloc v1 (.cells (vals 16 fun _ => 0).toArray 35) = v2 at hS2 ⊢
              clear hn
              have hS := hS2
              clear hS2
              try simp only [Act.put, List.setIfInBounds_toArray, List.set_cons_zero, List.set_cons_succ]
              refine wpAnyZ_one (i := 9) (by kernel_rfl) rfl (fun K hK => ?_)
              go_simp
              go_at_call 25
              refine (sum_of h none pb 0 d 0 k [] (ys.take k) _ oh rfl HTY.out (Bin.nil _ _) (HPB.out.below hS.below) Oct.nil (hy.take k) (by decide) (by omega) (Nat.zero_le _) (hdN)).mono ?_
              rintro e v3 ⟨rfl, hb8⟩
              rw [← eY.out]
              go_wp2_with fail
              refine hK.out _ _ (fun _ => (hS.grow hb8).tail.tail) ?_
              replace hS := hS.grow hb8
              clear hK K hb8
              try simp only [Act.put, List.setIfInBounds_toArray, List.set_cons_zero, List.set_cons_succ]
              refine wpAnyZ_one (i := 12) (by kernel_rfl) rfl (fun K hK => ?_)
              have h0 := hS.at (g := ga) (x := fun _ => 0) (by simp)
              have hT0 := h0.there
              have hS2 := hS.put1 X
              rw [if_pos (by rfl)]
              refine wp_store_arr _ _ _ rfl ga 16 X rfl rfl hT0 hib ?_
              try simp only [Act.put, List.setIfInBounds_toArray, List.set_cons_zero, List.set_cons_succ]
              refine hK.out _ _ (fun _ => hS2.tail.tail) ?_
              generalize World.setCells v3 ga 0 (vals 16 X) = v4 at hS2 ⊢
              clear hK K hS hT0 h0
              have hS := hS2
              clear hS2
              refine wpAnyZ_one (i := 13) (by kernel_rfl) rfl (fun K hK => ?_)
              have h0 := hS.at (g := gb) (x := fun _ => 0) (by simp)
              have hT0 := h0.there
              have hS2 := hS.put0 Y
              rw [if_pos (by rfl)]
              refine wp_store_arr _ _ _ rfl gb 16 Y rfl rfl hT0 hib ?_
              try simp only [Act.put, List.setIfInBounds_toArray, List.set_cons_zero, List.set_cons_succ]
              refine hK.out _ _ (fun _ => hS2.tail.tail) ?_
              generalize World.setCells v4 gb 0 (vals 16 Y) = v5 at hS2 ⊢
              clear hK K hS hT0 h0
              have hS := hS2
              clear hS2
              refine wpAnyZ_done (by kernel_rfl) ?_ _
              go_wp2_with fail
              go_meet
              exact ⟨ga, gb, rfl, rfl, hS.swap⟩
          · go_simp
            have hS2 := hS.fresh 35
            refine hK.out _ _ (fun _ => hS2.tail) ?_
            clear hK K hS
            obtain ⟨gb, hn⟩ : ∃ g, Hid (g = v0.heap.size) := ⟨_, rfl⟩
            rw [← hn.out] at hS2 ⊢
            generalize World.alloc v0 (.cells (vals 16 fun _ => 0).toArray 35) = v1 at hS2 ⊢
            clear hn
            have hS := hS2
            clear hS2
            try simp only [Act.put, List.setIfInBounds_toArray, List.set_cons_zero, List.set_cons_succ]
            refine wpAnyZ_two (i := 9) (j := 10) (by kernel_rfl) rfl rfl (fun K hK => ?_) (fun K hK => ?_) 
            · go_simp
              go_at_call 25
              refine (sum_of h none pb 0 d 0 k [] (ys.take k) _ oh rfl HTY.out (Bin.nil _ _) (HPB.out.below hS.below) Oct.nil (hy.take k) (by decide) (by omega) (Nat.zero_le _) (hdN)).mono ?_
              rintro e v2 ⟨rfl, hb8⟩
              rw [← eY.out]
              go_wp2_with fail
              refine hK.out _ _ (fun _ => (hS.grow hb8).tail) ?_
              replace hS := hS.grow hb8
              clear hK K hb8
              try simp only [Act.put, List.setIfInBounds_toArray, List.set_cons_zero, List.set_cons_succ]
              refine wpAnyZ_one (i := 10) (by kernel_rfl) rfl (fun K hK => ?_)
              go_simp
              have hS2 := hS.fresh 35
              refine hK.out _ _ (fun _ => hS2.tail.tail) ?_
              clear hK K hS
              obtain ⟨ga, hn⟩ : ∃ g, Hid (g = v2.heap.size) := ⟨_, rfl⟩
              rw [← hn.out] at hS2 ⊢
              generalize World.alloc v2 (.cells (vals 16 fun _ => 0).toArray 35) = v3 at hS2 ⊢
              clear hn
              have hS := hS2
              clear hS2
              try simp only [Act.put, List.setIfInBounds_toArray, List.set_cons_zero, List.set_cons_succ]
              refine wpAnyZ_one (i := 12) (by kernel_rfl) rfl (fun K hK => ?_)
              have h0 := hS.at (g := ga) (x := fun _ => 0) (by simp)
              have hT0 := h0.there
              have hS2 := hS.put0 X
              rw [if_pos (by rfl)]
              refine wp_store_arr _ _ _ rfl ga 16 X rfl rfl hT0 hib ?_
              try simp only [Act.put, List.setIfInBounds_toArray, List.set_cons_zero, List.set_cons_succ]
              refine hK.out _ _ (fun _ => hS2.tail.tail) ?_
              generalize World.setCells v3 ga 0 (vals 16 X) = v4 at hS2 ⊢
              clear hK K hS hT0 h0
              have hS := hS2
              clear hS2
              refine wpAnyZ_one (i := 13) (by kernel_rfl) rfl (fun K hK => ?_)
              have h0 := hS.at (g := gb) (x := fun _ => 0) (by simp)
              have hT0 := h0.there
              have hS2 := hS.put1 Y
              rw [if_pos (by rfl)]
              refine wp_store_arr _ _ _ rfl gb 16 Y rfl rfl hT0 hib ?_
              try simp only [Act.put, List.setIfInBounds_toArray, List.set_cons_zero, List.set_cons_succ]
              refine hK.out _ _ (fun _ => hS2.tail.tail) ?_
              generalize World.setCells v4 gb 0 (vals 16 Y) = v5 at hS2 ⊢
              clear hK K hS hT0 h0
              have hS := hS2
              clear hS2
              refine wpAnyZ_done (by kernel_rfl) ?_ _
              go_wp2_with fail
              go_meet
              exact ⟨ga, gb, rfl, rfl, hS⟩
            · go_simp
              have hS2 := hS.fresh 35
              refine hK.out _ _ (fun _ => hS2.tail.tail) ?_
              clear hK K hS
              obtain ⟨ga, hn⟩ : ∃ g, Hid (g = v1.heap.size) := ⟨_, rfl⟩
              rw [← hn.out] at hS2 ⊢
              generalize World.alloc v1 (.cells (vals 16 fun _ => 0).toArray 35) = v2 at hS2 ⊢
              clear hn
              have hS := hS2
              clear hS2
              try simp only [Act.put, List.setIfInBounds_toArray, List.set_cons_zero, List.set_cons_succ]
              refine wpAnyZ_one (i := 9) (by kernel_rfl) rfl (fun K hK => ?_)
              go_simp
              go_at_call 25
              refine (sum_of h none pb 0 d 0 k [] (ys.take k) _ oh rfl HTY.out (Bin.nil _ _) (HPB.out.below hS.below) Oct.nil (hy.take k) (by decide) (by omega) (Nat.zero_le _) (hdN)).mono ?_
              rintro e v3 ⟨rfl, hb8⟩
              rw [← eY.out]
              go_wp2_with fail
              refine hK.out _ _ (fun _ => (hS.grow hb8).tail.tail) ?_
              replace hS := hS.grow hb8
              clear hK K hb8
              try simp only [Act.put, List.setIfInBounds_toArray, List.set_cons_zero, List.set_cons_succ]
              refine wpAnyZ_one (i := 12) (by kernel_rfl) rfl (fun K hK => ?_)
              have h0 := hS.at (g := ga) (x := fun _ => 0) (by simp)
              have hT0 := h0.there
              have hS2 := hS.put0 X
              rw [if_pos (by rfl)]
              refine wp_store_arr _ _ _ rfl ga 16 X rfl rfl hT0 hib ?_
              try simp only [Act.put, List.setIfInBounds_toArray, List.set_cons_zero, List.set_cons_succ]
              refine hK.out _ _ (fun _ => hS2.tail.tail) ?_
              generalize World.setCells v3 ga 0 (vals 16 X) = v4 at hS2 ⊢
              clear hK K hS hT0 h0
              have hS := hS2
              clear hS2
              refine wpAnyZ_one (i := 13) (by kernel_rfl) rfl (fun K hK => ?_)
              have h0 := hS.at (g := gb) (x := fun _ => 0) (by simp)
              have hT0 := h0.there
              have hS2 := hS.put1 Y
              rw [if_pos (by rfl)]
              refine wp_store_arr _ _ _ rfl gb 16 Y rfl rfl hT0 hib ?_
              try simp only [Act.put, List.setIfInBounds_toArray, List.set_cons_zero, List.set_cons_succ]
              refine hK.out _ _ (fun _ => hS2.tail.tail) ?_
              generalize World.setCells v4 gb 0 (vals 16 Y) = v5 at hS2 ⊢
              clear hK K hS hT0 h0
              have hS := hS2
              clear hS2
              refine wpAnyZ_done (by kernel_rfl) ?_ _
              go_wp2_with fail
              go_meet
              exact ⟨ga, gb, rfl, rfl, hS⟩
        · go_simp
          have hS2 := hS.fresh 35
          refine hK.out _ _ (fun _ => hS2.tail) ?_
          clear hK K hS
          obtain ⟨ga, hn⟩ : ∃ g, Hid (g = w9.heap.size) := ⟨_, rfl⟩
          rw [← hn.out] at hS2 ⊢
          generalize World.alloc w9 (.cells (vals 16 fun _ => 0).toArray 35) = v0 at hS2 ⊢
          clear hn
          have hS := hS2
          clear hS2
          try simp only [Act.put, List.setIfInBounds_toArray, List.set_cons_zero, List.set_cons_succ]
          refine wpAnyZ_two (i := 4) (j := 11) (by kernel_rfl) rfl rfl (fun K hK => ?_) (fun K hK => ?_) 
          · go_simp
            go_at_call 25
            refine (sum_of h none pa 0 c 0 k [] (xs.take k) _ oh rfl HTX.out (Bin.nil _ _) (HPA.out.below hS.below) Oct.nil (hx.take k) (by decide) (by omega) (Nat.zero_le _) (hcN)).mono ?_
            rintro e v1 ⟨rfl, hb8⟩
            rw [← eX.out]
            go_wp2_with fail
            refine hK.out _ _ (fun _ => (hS.grow hb8).tail) ?_
            replace hS := hS.grow hb8
            clear hK K hb8
            try simp only [Act.put, List.setIfInBounds_toArray, List.set_cons_zero, List.set_cons_succ]
            refine wpAnyZ_two (i := 9) (j := 11) (by kernel_rfl) rfl rfl (fun K hK => ?_) (fun K hK => ?_) 
            · go_simp
              go_at_call 25
              refine (sum_of h none pb 0 d 0 k [] (ys.take k) _ oh rfl HTY.out (Bin.nil _ _) (HPB.out.below hS.below) Oct.nil (hy.take k) (by decide) (by omega) (Nat.zero_le _) (hdN)).mono ?_
              rintro e v2 ⟨rfl, hb8⟩
              rw [← eY.out]
              go_wp2_with fail
              refine hK.out _ _ (fun _ => (hS.grow hb8).tail) ?_
              replace hS := hS.grow hb8
              clear hK K hb8
              try simp only [Act.put, List.setIfInBounds_toArray, List.set_cons_zero, List.set_cons_succ]
              refine wpAnyZ_one (i := 11) (by kernel_rfl) rfl (fun K hK => ?_)
              go_simp
              have hS2 := hS.fresh 35
              refine hK.out _ _ (fun _ => hS2.tail.tail) ?_
              clear hK K hS
              obtain ⟨gb, hn⟩ : ∃ g, Hid (g = v2.heap.size) := ⟨_, rfl⟩
              rw [← hn.out] at hS2 ⊢
              generalize World.alloc v2 (.cells (vals 16 fun _ => 0).toArray 35) = v3 at hS2 ⊢
              clear hn
              have hS := hS2
              clear hS2
              try simp only [Act.put, List.setIfInBounds_toArray, List.set_cons_zero, List.set_cons_succ]
              refine wpAnyZ_one (i := 12) (by kernel_rfl) rfl (fun K hK => ?_)
              have h0 := hS.at (g := ga) (x := fun _ => 0) (by simp)
              have hT0 := h0.there
              have hS2 := hS.put1 X
              rw [if_pos (by rfl)]
              refine wp_store_arr _ _ _ rfl ga 16 X rfl rfl hT0 hib ?_
              try simp only [Act.put, List.setIfInBounds_toArray, List.set_cons_zero, List.set_cons_succ]
              refine hK.out _ _ (fun _ => hS2.tail.tail) ?_
              generalize World.setCells v3 ga 0 (vals 16 X) = v4 at hS2 ⊢
              clear hK K hS hT0 h0
              have hS := hS2
              clear hS2
              refine wpAnyZ_one (i := 13) (by kernel_rfl) rfl (fun K hK => ?_)
              have h0 := hS.at (g := gb) (x := fun _ => 0) (by simp)
              have hT0 := h0.there
              have hS2 := hS.put0 Y
              rw [if_pos (by rfl)]
              refine wp_store_arr _ _ _ rfl gb 16 Y rfl rfl hT0 hib ?_
              try simp only [Act.put, List.setIfInBounds_toArray, List.set_cons_zero, List.set_cons_succ]
              refine hK.out _ _ (fun _ => hS2.tail.tail) ?_
              generalize World.setCells v4 gb 0 (vals 16 Y) = v5 at hS2 ⊢
              clear hK K hS hT0 h0
              have hS := hS2
              clear hS2
              refine wpAnyZ_done (by kernel_rfl) ?_ _
              go_wp2_with fail
              go_meet
              exact ⟨ga, gb, rfl, rfl, hS.swap⟩
            · go_simp
              have hS2 := hS.fresh 35
              refine hK.out _ _ (fun _ => hS2.tail.tail) ?_
              clear hK K hS
              obtain ⟨gb, hn⟩ : ∃ g, Hid (g = v1.heap.size) := ⟨_, rfl⟩
              rw [← hn.out] at hS2 ⊢
              generalize World.alloc v1 (.cells (vals 16 fun _ => 0).toArray 35) = v2 at hS2 ⊢
              clear hn
              have hS := hS2
              clear hS2
              try simp only [Act.put, List.setIfInBounds_toArray, List.set_cons_zero, List.set_cons_succ]
              refine wpAnyZ_one (i := 9) (by kernel_rfl) rfl (fun K hK => ?_)
              go_simp
              go_at_call 25
              refine (sum_of h none pb 0 d 0 k [] (ys.take k) _ oh rfl HTY.out (Bin.nil _ _) (HPB.out.below hS.below) Oct.nil (hy.take k) (by decide) (by omega) (Nat.zero_le _) (hdN)).mono ?_
              rintro e v3 ⟨rfl, hb8⟩
              rw [← eY.out]
              go_wp2_with fail
              refine hK.out _ _ (fun _ => (hS.grow hb8).tail.tail) ?_
              replace hS := hS.grow hb8
              clear hK K hb8
              try simp only [Act.put, List.setIfInBounds_toArray, List.set_cons_zero, List.set_cons_succ]
              refine wpAnyZ_one (i := 12) (by kernel_rfl) rfl (fun K hK => ?_)
              have h0 := hS.at (g := ga) (x := fun _ => 0) (by simp)
              have hT0 := h0.there
              have hS2 := hS.put1 X
              rw [if_pos (by rfl)]
              refine wp_store_arr _ _ _ rfl ga 16 X rfl rfl hT0 hib ?_
              try simp only [Act.put, List.setIfInBounds_toArray, List.set_cons_zero, List.set_cons_succ]
              refine hK.out _ _ (fun _ => hS2.tail.tail) ?_
              generalize World.setCells v3 ga 0 (vals 16 X) = v4 at hS2 ⊢
              clear hK K hS hT0 h0
              have hS := hS2
              clear hS2
              refine wpAnyZ_one (i := 13) (by kernel_rfl) rfl (fun K hK => ?_)
              have h0 := hS.at (g := gb) (x := fun _ => 0) (by simp)
              have hT0 := h0.there
              have hS2 := hS.put0 Y
              rw [if_pos (by rfl)]
              refine wp_store_arr _ _ _ rfl gb 16 Y rfl rfl hT0 hib ?_
              try simp only [Act.put, List.setIfInBounds_toArray, List.set_cons_zero, List.set_cons_succ]
              refine hK.out _ _ (fun _ => hS2.tail.tail) ?_
              generalize World.setCells v4 gb 0 (vals 16 Y) = v5 at hS2 ⊢
              clear hK K hS hT0 h0
              have hS := hS2
              clear hS2
              refine wpAnyZ_done (by kernel_rfl) ?_ _
              go_wp2_with fail
              go_meet
              exact ⟨ga, gb, rfl, rfl, hS.swap⟩
          · go_simp
            have hS2 := hS.fresh 35
            refine hK.out _ _ (fun _ => hS2.tail.tail) ?_
            clear hK K hS
            obtain ⟨gb, hn⟩ : ∃ g, Hid (g = v0.heap.size) := ⟨_, rfl⟩
            rw [← hn.out] at hS2 ⊢
            generalize World.alloc v0 (.cells (vals 16 fun _ => 0).toArray 35) = v1 at hS2 ⊢
            clear hn
            have hS := hS2
            clear hS2
            try simp only [Act.put, List.setIfInBounds_toArray, List.set_cons_zero, List.set_cons_succ]
            refine wpAnyZ_one (i := 4) (by kernel_rfl) rfl (fun K hK => ?_)
            go_simp
            go_at_call 25
            refine (sum_of h none pa 0 c 0 k [] (xs.take k) _ oh rfl HTX.out (Bin.nil _ _) (HPA.out.below hS.below) Oct.nil (hx.take k) (by decide) (by omega) (Nat.zero_le _) (hcN)).mono ?_
            rintro e v2 ⟨rfl, hb8⟩
            rw [← eX.out]
            go_wp2_with fail
            refine hK.out _ _ (fun _ => (hS.grow hb8).tail.tail) ?_
            replace hS := hS.grow hb8
            clear hK K hb8
            try simp only [Act.put, List.setIfInBounds_toArray, List.set_cons_zero, List.set_cons_succ]
            refine wpAnyZ_one (i := 9) (by kernel_rfl) rfl (fun K hK => ?_)
            go_simp
            go_at_call 25
            refine (sum_of h none pb 0 d 0 k [] (ys.take k) _ oh rfl HTY.out (Bin.nil _ _) (HPB.out.below hS.below) Oct.nil (hy.take k) (by decide) (by omega) (Nat.zero_le _) (hdN)).mono ?_
            rintro e v3 ⟨rfl, hb8⟩
            rw [← eY.out]
            go_wp2_with fail
            refine hK.out _ _ (fun _ => (hS.grow hb8).tail.tail) ?_
            replace hS := hS.grow hb8
            clear hK K hb8
            try simp only [Act.put, List.setIfInBounds_toArray, List.set_cons_zero, List.set_cons_succ]
            refine wpAnyZ_one (i := 12) (by kernel_rfl) rfl (fun K hK => ?_)
            have h0 := hS.at (g := ga) (x := fun _ => 0) (by simp)
            have hT0 := h0.there
            have hS2 := hS.put1 X
            rw [if_pos (by rfl)]
            refine wp_store_arr _ _ _ rfl ga 16 X rfl rfl hT0 hib ?_
            try simp only [Act.put, List.setIfInBounds_toArray, List.set_cons_zero, List.set_cons_succ]
            refine hK.out _ _ (fun _ => hS2.tail.tail) ?_
            generalize World.setCells v3 ga 0 (vals 16 X) = v4 at hS2 ⊢
            clear hK K hS hT0 h0
            have hS := hS2
            clear hS2
            refine wpAnyZ_one (i := 13) (by kernel_rfl) rfl (fun K hK => ?_)
            have h0 := hS.at (g := gb) (x := fun _ => 0) (by simp)
            have hT0 := h0.there
            have hS2 := hS.put0 Y
            rw [if_pos (by rfl)]
            refine wp_store_arr _ _ _ rfl gb 16 Y rfl rfl hT0 hib ?_
            try simp only [Act.put, List.setIfInBounds_toArray, List.set_cons_zero, List.set_cons_succ]
            refine hK.out _ _ (fun _ => hS2.tail.tail) ?_
            generalize World.setCells v4 gb 0 (vals 16 Y) = v5 at hS2 ⊢
            clear hK K hS hT0 h0
            have hS := hS2
            clear hS2
            refine wpAnyZ_done (by kernel_rfl) ?_ _
            go_wp2_with fail
            go_meet
            exact ⟨ga, gb, rfl, rfl, hS.swap⟩
        · go_simp
          have hS2 := hS.fresh 35
          refine hK.out _ _ (fun _ => hS2.tail) ?_
          clear hK K hS
          obtain ⟨gb, hn⟩ : ∃ g, Hid (g = w9.heap.size) := ⟨_, rfl⟩
          rw [← hn.out] at hS2 ⊢
          generalize World.alloc w9 (.cells (vals 16 fun _ => 0).toArray 35) = v0 at hS2 ⊢
          clear hn
          have hS := hS2
          clear hS2
          try simp only [Act.put, List.setIfInBounds_toArray, List.set_cons_zero, List.set_cons_succ]
          refine wpAnyZ_two (i := 4) (j := 10) (by kernel_rfl) rfl rfl (fun K hK => ?_) (fun K hK => ?_) 
          · go_simp
            go_at_call 25
            refine (sum_of h none pa 0 c 0 k [] (xs.take k) _ oh rfl HTX.out (Bin.nil _ _) (HPA.out.below hS.below) Oct.nil (hx.take k) (by decide) (by omega) (Nat.zero_le _) (hcN)).mono ?_
            rintro e v1 ⟨rfl, hb8⟩
            rw [← eX.out]
            go_wp2_with fail
            refine hK.out _ _ (fun _ => (hS.grow hb8).tail) ?_
            replace hS := hS.grow hb8
            clear hK K hb8
            try simp only [Act.put, List.setIfInBounds_toArray, List.set_cons_zero, List.set_cons_succ]
            refine wpAnyZ_two (i := 9) (j := 10) (by kernel_rfl) rfl rfl (fun K hK => ?_) (fun K hK => ?_) 
            · go_simp
              go_at_call 25
              refine (sum_of h none pb 0 d 0 k [] (ys.take k) _ oh rfl HTY.out (Bin.nil _ _) (HPB.out.below hS.below) Oct.nil (hy.take k) (by decide) (by omega) (Nat.zero_le _) (hdN)).mono ?_
              rintro e v2 ⟨rfl, hb8⟩
              rw [← eY.out]
              go_wp2_with fail
              refine hK.out _ _ (fun _ => (hS.grow hb8).tail) ?_
              replace hS := hS.grow hb8
              clear hK K hb8
              try simp only [Act.put, List.setIfInBounds_toArray, List.set_cons_zero, List.set_cons_succ]
              refine wpAnyZ_one (i := 10) (by kernel_rfl) rfl (fun K hK => ?_)
              go_simp
              have hS2 := hS.fresh 35
              refine hK.out _ _ (fun _ => hS2.tail.tail) ?_
              clear hK K hS
              obtain ⟨ga, hn⟩ : ∃ g, Hid (g = v2.heap.size) := ⟨_, rfl⟩
              rw [← hn.out] at hS2 ⊢
              generalize World.alloc v2 (.cells (vals 16 fun _ => 0).toArray 35) = v3 at hS2 ⊢
              clear hn
              have hS := hS2
              clear hS2
              try simp only [Act.put, List.setIfInBounds_toArray, List.set_cons_zero, List.set_cons_succ]
              refine wpAnyZ_one (i := 12) (by kernel_rfl) rfl (fun K hK => ?_)
              have h0 := hS.at (g := ga) (x := fun _ => 0) (by simp)
              have hT0 := h0.there
              have hS2 := hS.put0 X
              rw [if_pos (by rfl)]
              refine wp_store_arr _ _ _ rfl ga 16 X rfl rfl hT0 hib ?_
              try simp only [Act.put, List.setIfInBounds_toArray, List.set_cons_zero, List.set_cons_succ]
              refine hK.out _ _ (fun _ => hS2.tail.tail) ?_
              generalize World.setCells v3 ga 0 (vals 16 X) = v4 at hS2 ⊢
              clear hK K hS hT0 h0
              have hS := hS2
              clear hS2
              refine wpAnyZ_one (i := 13) (by kernel_rfl) rfl (fun K hK => ?_)
              have h0 := hS.at (g := gb) (x := fun _ => 0) (by simp)
              have hT0 := h0.there
              have hS2 := hS.put1 Y
              rw [if_pos (by rfl)]
              refine wp_store_arr _ _ _ rfl gb 16 Y rfl rfl hT0 hib ?_
              try simp only [Act.put, List.setIfInBounds_toArray, List.set_cons_zero, List.set_cons_succ]
              refine hK.out _ _ (fun _ => hS2.tail.tail) ?_
              generalize World.setCells v4 gb 0 (vals 16 Y) = v5 at hS2 ⊢
              clear hK K hS hT0 h0
              have hS := hS2
              clear hS2
              refine wpAnyZ_done (by kernel_rfl) ?_ _
              go_wp2_with fail
              go_meet
              exact ⟨ga, gb, rfl, rfl, hS⟩
            · go_simp
              have hS2 := hS.fresh 35
              refine hK.out _ _ (fun _ => hS2.tail.tail) ?_
              clear hK K hS
              obtain ⟨ga, hn⟩ : ∃ g, Hid (g = v1.heap.size) := ⟨_, rfl⟩
              rw [← hn.out] at hS2 ⊢
              generalize World.alloc v1 (.cells (vals 16 fun _ => 0).toArray 35) = v2 at hS2 ⊢
              clear hn
              have hS := hS2
              clear hS2
              try simp only [Act.put, List.setIfInBounds_toArray, List.set_cons_zero, List.set_cons_succ]
              refine wpAnyZ_one (i := 9) (by kernel_rfl) rfl (fun K hK => ?_)
              go_simp
              go_at_call 25
              refine (sum_of h none pb 0 d 0 k [] (ys.take k) _ oh rfl HTY.out (Bin.nil _ _) (HPB.out.below hS.below) Oct.nil (hy.take k) (by decide) (by omega) (Nat.zero_le _) (hdN)).mono ?_
              rintro e v3 ⟨rfl, hb8⟩
              rw [← eY.out]
              go_wp2_with fail
              refine hK.out _ _ (fun _ => (hS.grow hb8).tail.tail) ?_
              replace hS := hS.grow hb8
              clear hK K hb8
              try simp only [Act.put, List.setIfInBounds_toArray, List.set_cons_zero, List.set_cons_succ]
              refine wpAnyZ_one (i := 12) (by kernel_rfl) rfl (fun K hK => ?_)
              have h0 := hS.at (g := ga) (x := fun _ => 0) (by simp)
              have hT0 := h0.there
              have hS2 := hS.put0 X
              rw [if_pos (by rfl)]
              refine wp_store_arr _ _ _ rfl ga 16 X rfl rfl hT0 hib ?_
              try simp only [Act.put, List.setIfInBounds_toArray, List.set_cons_zero, List.set_cons_succ]
              refine hK.out _ _ (fun _ => hS2.tail.tail) ?_
              generalize World.setCells v3 ga 0 (vals 16 X) = v4 at hS2 ⊢
              clear hK K hS hT0 h0
              have hS := hS2
              clear hS2
              refine wpAnyZ_one (i := 13) (by kernel_rfl) rfl (fun K hK => ?_)
              have h0 := hS.at (g := gb) (x := fun _ => 0) (by simp)
              have hT0 := h0.there
              have hS2 := hS.put1 Y
              rw [if_pos (by rfl)]
              refine wp_store_arr _ _ _ rfl gb 16 Y rfl rfl hT0 hib ?_
              try simp only [Act.put, List.setIfInBounds_toArray, List.set_cons_zero, List.set_cons_succ]
              refine hK.out _ _ (fun _ => hS2.tail.tail) ?_
              generalize World.setCells v4 gb 0 (vals 16 Y) = v5 at hS2 ⊢
              clear hK K hS hT0 h0
              have hS := hS2
              clear hS2
              refine wpAnyZ_done (by kernel_rfl) ?_ _
              go_wp2_with fail
              go_meet
              exact ⟨ga, gb, rfl, rfl, hS⟩
          · go_simp
            have hS2 := hS.fresh 35
            refine hK.out _ _ (fun _ => hS2.tail.tail) ?_
            clear hK K hS
            obtain ⟨ga, hn⟩ : ∃ g, Hid (g = v0.heap.size) := ⟨_, rfl⟩
            rw [← hn.out] at hS2 ⊢
            generalize World.alloc v0 (.cells (vals 16 fun _ => 0).toArray 35) = v1 at hS2 ⊢
            clear hn
            have hS := hS2
            clear hS2
            try simp only [Act.put, List.setIfInBounds_toArray, List.set_cons_zero, List.set_cons_succ]
            refine wpAnyZ_one (i := 4) (by kernel_rfl) rfl (fun K hK => ?_)
            go_simp
            go_at_call 25
            refine (sum_of h none pa 0 c 0 k [] (xs.take k) _ oh rfl HTX.out (Bin.nil _ _) (HPA.out.below hS.below) Oct.nil (hx.take k) (by decide) (by omega) (Nat.zero_le _) (hcN)).mono ?_
            rintro e v2 ⟨rfl, hb8⟩
            rw [← eX.out]
            go_wp2_with fail
            refine hK.out _ _ (fun _ => (hS.grow hb8).tail.tail) ?_
            replace hS := hS.grow hb8
            clear hK K hb8
            try simp only [Act.put, List.setIfInBounds_toArray, List.set_cons_zero, List.set_cons_succ]
            refine wpAnyZ_one (i := 9) (by kernel_rfl) rfl (fun K hK => ?_)
            go_simp
            go_at_call 25
            refine (sum_of h none pb 0 d 0 k [] (ys.take k) _ oh rfl HTY.out (Bin.nil _ _) (HPB.out.below hS.below) Oct.nil (hy.take k) (by decide) (by omega) (Nat.zero_le _) (hdN)).mono ?_
            rintro e v3 ⟨rfl, hb8⟩
            rw [← eY.out]
            go_wp2_with fail
            refine hK.out _ _ (fun _ => (hS.grow hb8).tail.tail) ?_
            replace hS := hS.grow hb8
            clear hK K hb8
            try simp only [Act.put, List.setIfInBounds_toArray, List.set_cons_zero, List.set_cons_succ]
            refine wpAnyZ_one (i := 12) (by kernel_rfl) rfl (fun K hK => ?_)
            have h0 := hS.at (g := ga) (x := fun _ => 0) (by simp)
            have hT0 := h0.there
            have hS2 := hS.put0 X
            rw [if_pos (by rfl)]
            refine wp_store_arr _ _ _ rfl ga 16 X rfl rfl hT0 hib ?_
            try simp only [Act.put, List.setIfInBounds_toArray, List.set_cons_zero, List.set_cons_succ]
            refine hK.out _ _ (fun _ => hS2.tail.tail) ?_
            generalize World.setCells v3 ga 0 (vals 16 X) = v4 at hS2 ⊢
            clear hK K hS hT0 h0
            have hS := hS2
            clear hS2
            refine wpAnyZ_one (i := 13) (by kernel_rfl) rfl (fun K hK => ?_)
            have h0 := hS.at (g := gb) (x := fun _ => 0) (by simp)
            have hT0 := h0.there
            have hS2 := hS.put1 Y
            rw [if_pos (by rfl)]
            refine wp_store_arr _ _ _ rfl gb 16 Y rfl rfl hT0 hib ?_
            try simp only [Act.put, List.setIfInBounds_toArray, List.set_cons_zero, List.set_cons_succ]
            refine hK.out _ _ (fun _ => hS2.tail.tail) ?_
            generalize World.setCells v4 gb 0 (vals 16 Y) = v5 at hS2 ⊢
            clear hK K hS hT0 h0
            have hS := hS2
            clear hS2
            refine wpAnyZ_done (by kernel_rfl) ?_ _
            go_wp2_with fail
            go_meet
            exact ⟨ga, gb, rfl, rfl, hS⟩
      case rest =>
        obtain ⟨ga, gb, rfl, rfl, hS⟩ := hcut
        obtain ⟨wq, rfl⟩ : ∃ w0, w0 = wc := ⟨_, rfl⟩
        have HX0 := hid (hS.at (g := ga) (x := X) (by simp))
        have HY0 := hid (hS.at (g := gb) (x := Y) (by simp))
        have HH2 := hid (HH.out.below' lh hS.below)
        have HV := hid (HV0.out.below hS.below)
        have hBc := hBb.trans (hS.below.mono hBb.size)
        have lx0 := HX0.out.lt (by decide)
        have ly0 := HY0.out.lt (by decide)
        have lh2 := HH2.out.lt (by decide)
        clear hS HH HV0 HPA HPB hBb
        go_upto_region 9 with fail
        go_cut [12, 13] (fun s12 s13 wx => ∃ gc gd : Nat, s12 = .pointer (some ⟨gc, 0, none⟩) ∧ s13 = .pointer (some ⟨gd, 0, none⟩) ∧ Arn wq [(gc, Z), (gd, O)] wx)
        case first =>
          have hSd : Arn wq [] wq.drew := ⟨⟨fun q hq => by simp at hq, (Below.refl _ _).drew⟩, by simp, fun q hq => by simp at hq⟩
          refine wp_region_z (Arn wq []) 11 (by kernel_rfl) hSd (fun hS => ?_)
          clear hSd
          generalize World.drew _ = w9 at hS ⊢
          refine wpAnyZ_take (i := 0) rfl (by kernel_rfl) (by kernel_rfl) (by kernel_rfl) (by kernel_rfl) (fun _ _ _ h => h) hS (yieldsIf_load_mid (by kernel_rfl) 35 (.tmp 3) rfl w.heap.size 0 (by kernel_rfl) (vals 16 h) _ (fun w hS => (HH2.out.below' lh2 hS.below).range) hub rfl hib) ?_
          simp only [Act.put, List.setIfInBounds_toArray, List.set_cons_zero, List.set_cons_succ]
          refine wpAnyZ_take (i := 1) (v := .slice pv k cv) rfl (by kernel_rfl) (by kernel_rfl) (by kernel_rfl) (by kernel_rfl) (fun _ _ _ h => h) hS (Or.inl ⟨by kernel_rfl, fun w hS => (by clear hS; go_simp)⟩) ?_
          simp only [Act.put, List.setIfInBounds_toArray, List.set_cons_zero, List.set_cons_succ]
          refine wpAnyZ_take (i := 3) rfl (by kernel_rfl) (by kernel_rfl) (by kernel_rfl) (by kernel_rfl) (fun _ _ _ h => h) hS (yieldsIf_load_mid (by kernel_rfl) 35 (.tmp 3) rfl w.heap.size 0 (by kernel_rfl) (vals 16 h) _ (fun w hS => (HH2.out.below' lh2 hS.below).range) hub rfl hib) ?_
          simp only [Act.put, List.setIfInBounds_toArray, List.set_cons_zero, List.set_cons_succ]
          refine wpAnyZ_take (i := 4) (v := .int .i64 (k : Int)) rfl (by kernel_rfl) (by kernel_rfl) (by kernel_rfl) (by kernel_rfl) (fun _ _ _ h => h) hS (Or.inl ⟨by kernel_rfl, fun w hS => (by clear hS; go_simp)⟩) ?_
          simp only [Act.put, List.setIfInBounds_toArray, List.set_cons_zero, List.set_cons_succ]
          refine wpAnyZ_four (i := 2) (j := 5) (k := 7) (l := 8) (by kernel_rfl) rfl rfl rfl rfl (fun K hK => ?_) (fun K hK => ?_) (fun K hK => ?_) (fun K hK => ?_) 
          · go_simp
            go_at_call 25
            refine (sum_of h none pv 0 cv 0 k [] (row FF k) _ oh rfl (row_length _ _) (Bin.nil _ _) (HV.out.below hS.below) Oct.nil HOR.out (by decide) (by omega) (Nat.zero_le _) (hcv)).mono ?_
            rintro e v0 ⟨rfl, hb8⟩
            rw [← eZ.out]
            go_wp2_with fail
            refine hK.out _ _ (fun _ => (hS.grow hb8)) ?_
            replace hS := hS.grow hb8
            clear hK K hb8
            try simp only [Act.put, List.setIfInBounds_toArray, List.set_cons_zero, List.set_cons_succ]
            refine wpAnyZ_three (i := 5) (j := 7) (k := 8) (by kernel_rfl) rfl rfl rfl (fun K hK => ?_) (fun K hK => ?_) (fun K hK => ?_) 
            · refine step_make_full rfl _ _ 22 rfl i0 Try.underlying22 hi hz0 hz1 hz2 k rfl rfl (by omega) (World.heap v0).size (Nat.le_refl _) ?_
              intro v1 hO hg
              have hbm : Below (World.heap v0).size v0 v1 := (Below.refl _ _).grown hg (Nat.le_refl _) (by simp)
              have hS2 := hS.grow hbm
              have hz := hO.slice.2.2
              refine hK.out _ _ (fun _ => hS2) ?_
              obtain ⟨gz, hn⟩ : ∃ g, Hid (g = (World.heap v0).size) := ⟨_, rfl⟩
              rw [← hn.out] at hz ⊢
              clear hn hK K hS hO hg hbm
              have hS := hS2
              clear hS2
              try simp only [Act.put, List.setIfInBounds_toArray, List.set_cons_zero, List.set_cons_succ]
              refine wpAnyZ_three (i := 6) (j := 7) (k := 8) (by kernel_rfl) rfl rfl rfl (fun K hK => ?_) (fun K hK => ?_) (fun K hK => ?_) 
              · go_simp
                go_at_call 25
                refine (sum_of h none (some ⟨gz, 0, none⟩) 0 k 0 k [] (List.replicate k 0) _ oh rfl (List.length_replicate ..) (Bin.nil _ _) (hz) Oct.nil HOZ.out (by decide) (by omega) (Nat.zero_le _) (Nat.le_refl _)).mono ?_
                rintro e v2 ⟨rfl, hb8⟩
                rw [← eO.out]
                go_wp2_with fail
                refine hK.out _ _ (fun _ => (hS.grow hb8)) ?_
                replace hS := hS.grow hb8
                replace hz := hz.below hb8
                clear hK K hb8
                try simp only [Act.put, List.setIfInBounds_toArray, List.set_cons_zero, List.set_cons_succ]
                refine wpAnyZ_two (i := 7) (j := 8) (by kernel_rfl) rfl rfl (fun K hK => ?_) (fun K hK => ?_) 
                · go_simp
                  have hS2 := hS.fresh 35
                  refine hK.out _ _ (fun _ => hS2.tail) ?_
                  clear hK K hS
                  obtain ⟨gc, hn⟩ : ∃ g, Hid (g = v2.heap.size) := ⟨_, rfl⟩
                  rw [← hn.out] at hS2 ⊢
                  replace hz := hz.below ((Below.refl _ _).alloc (Nat.le_refl _) (.cells (vals 16 fun _ => 0).toArray 35))
                  generalize World.alloc v2 (.cells (vals 16 fun _ => 0).toArray 35) = v3 at hS2 hz ⊢
                  clear hn
                  have hS := hS2
                  clear hS2
                  try simp only [Act.put, List.setIfInBounds_toArray, List.set_cons_zero, List.set_cons_succ]
                  refine wpAnyZ_one (i := 8) (by kernel_rfl) rfl (fun K hK => ?_)
                  go_simp
                  have hS2 := hS.fresh 35
                  refine hK.out _ _ (fun _ => hS2.tail.tail) ?_
                  clear hK K hS
                  obtain ⟨gd, hn⟩ : ∃ g, Hid (g = v3.heap.size) := ⟨_, rfl⟩
                  rw [← hn.out] at hS2 ⊢
                  replace hz := hz.below ((Below.refl _ _).alloc (Nat.le_refl _) (.cells (vals 16 fun _ => 0).toArray 35))
                  generalize World.alloc v3 (.cells (vals 16 fun _ => 0).toArray 35) = v4 at hS2 hz ⊢
                  clear hn
                  have hS := hS2
                  clear hS2
                  try simp only [Act.put, List.setIfInBounds_toArray, List.set_cons_zero, List.set_cons_succ]
                  refine wpAnyZ_one (i := 9) (by kernel_rfl) rfl (fun K hK => ?_)
                  clear hz
                  have h0 := hS.at (g := gc) (x := fun _ => 0) (by simp)
                  have hT0 := h0.there
                  have hS2 := hS.put1 Z
                  rw [if_pos (by rfl)]
                  refine wp_store_arr _ _ _ rfl gc 16 Z rfl rfl hT0 hib ?_
                  try simp only [Act.put, List.setIfInBounds_toArray, List.set_cons_zero, List.set_cons_succ]
                  refine hK.out _ _ (fun _ => hS2.tail.tail) ?_
                  generalize World.setCells v4 gc 0 (vals 16 Z) = v5 at hS2 ⊢
                  clear hK K hS hT0 h0
                  have hS := hS2
                  clear hS2
                  refine wpAnyZ_one (i := 10) (by kernel_rfl) rfl (fun K hK => ?_)
                  have h0 := hS.at (g := gd) (x := fun _ => 0) (by simp)
                  have hT0 := h0.there
                  have hS2 := hS.put0 O
                  rw [if_pos (by rfl)]
                  refine wp_store_arr _ _ _ rfl gd 16 O rfl rfl hT0 hib ?_
                  try simp only [Act.put, List.setIfInBounds_toArray, List.set_cons_zero, List.set_cons_succ]
                  refine hK.out _ _ (fun _ => hS2.tail.tail) ?_
                  generalize World.setCells v5 gd 0 (vals 16 O) = v6 at hS2 ⊢
                  clear hK K hS hT0 h0
                  have hS := hS2
                  clear hS2
                  refine wpAnyZ_done (by kernel_rfl) ?_ _
                  go_wp2_with fail
                  go_meet
                  exact ⟨gc, gd, rfl, rfl, hS.swap⟩
                · go_simp
                  have hS2 := hS.fresh 35
                  refine hK.out _ _ (fun _ => hS2.tail) ?_
                  clear hK K hS
                  obtain ⟨gd, hn⟩ : ∃ g, Hid (g = v2.heap.size) := ⟨_, rfl⟩
                  rw [← hn.out] at hS2 ⊢
                  replace hz := hz.below ((Below.refl _ _).alloc (Nat.le_refl _) (.cells (vals 16 fun _ => 0).toArray 35))
                  generalize World.alloc v2 (.cells (vals 16 fun _ => 0).toArray 35) = v3 at hS2 hz ⊢
                  clear hn
                  have hS := hS2
                  clear hS2
                  try simp only [Act.put, List.setIfInBounds_toArray, List.set_cons_zero, List.set_cons_succ]
                  refine wpAnyZ_one (i := 7) (by kernel_rfl) rfl (fun K hK => ?_)
                  go_simp
                  have hS2 := hS.fresh 35
                  refine hK.out _ _ (fun _ => hS2.tail.tail) ?_
                  clear hK K hS
                  obtain ⟨gc, hn⟩ : ∃ g, Hid (g = v3.heap.size) := ⟨_, rfl⟩
                  rw [← hn.out] at hS2 ⊢
                  replace hz := hz.below ((Below.refl _ _).alloc (Nat.le_refl _) (.cells (vals 16 fun _ => 0).toArray 35))
                  generalize World.alloc v3 (.cells (vals 16 fun _ => 0).toArray 35) = v4 at hS2 hz ⊢
                  clear hn
                  have hS := hS2
                  clear hS2
                  try simp only [Act.put, List.setIfInBounds_toArray, List.set_cons_zero, List.set_cons_succ]
                  refine wpAnyZ_one (i := 9) (by kernel_rfl) rfl (fun K hK => ?_)
                  clear hz
                  have h0 := hS.at (g := gc) (x := fun _ => 0) (by simp)
                  have hT0 := h0.there
                  have hS2 := hS.put0 Z
                  rw [if_pos (by rfl)]
                  refine wp_store_arr _ _ _ rfl gc 16 Z rfl rfl hT0 hib ?_
                  try simp only [Act.put, List.setIfInBounds_toArray, List.set_cons_zero, List.set_cons_succ]
                  refine hK.out _ _ (fun _ => hS2.tail.tail) ?_
                  generalize World.setCells v4 gc 0 (vals 16 Z) = v5 at hS2 ⊢
                  clear hK K hS hT0 h0
                  have hS := hS2
                  clear hS2
                  refine wpAnyZ_one (i := 10) (by kernel_rfl) rfl (fun K hK => ?_)
                  have h0 := hS.at (g := gd) (x := fun _ => 0) (by simp)
                  have hT0 := h0.there
                  have hS2 := hS.put1 O
                  rw [if_pos (by rfl)]
                  refine wp_store_arr _ _ _ rfl gd 16 O rfl rfl hT0 hib ?_
                  try simp only [Act.put, List.setIfInBounds_toArray, List.set_cons_zero, List.set_cons_succ]
                  refine hK.out _ _ (fun _ => hS2.tail.tail) ?_
                  generalize World.setCells v5 gd 0 (vals 16 O) = v6 at hS2 ⊢
                  clear hK K hS hT0 h0
                  have hS := hS2
                  clear hS2
                  refine wpAnyZ_done (by kernel_rfl) ?_ _
                  go_wp2_with fail
                  go_meet
                  exact ⟨gc, gd, rfl, rfl, hS⟩
              · go_simp
                have hS2 := hS.fresh 35
                refine hK.out _ _ (fun _ => hS2.tail) ?_
                clear hK K hS
                obtain ⟨gc, hn⟩ : ∃ g, Hid (g = v1.heap.size) := ⟨_, rfl⟩
                rw [← hn.out] at hS2 ⊢
                replace hz := hz.below ((Below.refl _ _).alloc (Nat.le_refl _) (.cells (vals 16 fun _ => 0).toArray 35))
                generalize World.alloc v1 (.cells (vals 16 fun _ => 0).toArray 35) = v2 at hS2 hz ⊢
                clear hn
                have hS := hS2
                clear hS2
                try simp only [Act.put, List.setIfInBounds_toArray, List.set_cons_zero, List.set_cons_succ]
                refine wpAnyZ_two (i := 6) (j := 8) (by kernel_rfl) rfl rfl (fun K hK => ?_) (fun K hK => ?_) 
                · go_simp
                  go_at_call 25
                  refine (sum_of h none (some ⟨gz, 0, none⟩) 0 k 0 k [] (List.replicate k 0) _ oh rfl (List.length_replicate ..) (Bin.nil _ _) (hz) Oct.nil HOZ.out (by decide) (by omega) (Nat.zero_le _) (Nat.le_refl _)).mono ?_
                  rintro e v3 ⟨rfl, hb8⟩
                  rw [← eO.out]
                  go_wp2_with fail
                  refine hK.out _ _ (fun _ => (hS.grow hb8).tail) ?_
                  replace hS := hS.grow hb8
                  replace hz := hz.below hb8
                  clear hK K hb8
                  try simp only [Act.put, List.setIfInBounds_toArray, List.set_cons_zero, List.set_cons_succ]
                  refine wpAnyZ_one (i := 8) (by kernel_rfl) rfl (fun K hK => ?_)
                  go_simp
                  have hS2 := hS.fresh 35
                  refine hK.out _ _ (fun _ => hS2.tail.tail) ?_
                  clear hK K hS
                  obtain ⟨gd, hn⟩ : ∃ g, Hid (g = v3.heap.size) := ⟨_, rfl⟩
                  rw [← hn.out] at hS2 ⊢
                  replace hz := hz.below ((Below.refl _ _).alloc (Nat.le_refl _) (.cells (vals 16 fun _ => 0).toArray 35))
                  generalize World.alloc v3 (.cells (vals 16 fun _ => 0).toArray 35) = v4 at hS2 hz ⊢
                  clear hn
                  have hS := hS2
                  clear hS2
                  try simp only [Act.put, List.setIfInBounds_toArray, List.set_cons_zero, List.set_cons_succ]
                  refine wpAnyZ_one (i := 9) (by kernel_rfl) rfl (fun K hK => ?_)
                  clear hz
                  have h0 := hS.at (g := gc) (x := fun _ => 0) (by simp)
                  have hT0 := h0.there
                  have hS2 := hS.put1 Z
                  rw [if_pos (by rfl)]
                  refine wp_store_arr _ _ _ rfl gc 16 Z rfl rfl hT0 hib ?_
                  try simp only [Act.put, List.setIfInBounds_toArray, List.set_cons_zero, List.set_cons_succ]
                  refine hK.out _ _ (fun _ => hS2.tail.tail) ?_
                  generalize World.setCells v4 gc 0 (vals 16 Z) = v5 at hS2 ⊢
                  clear hK K hS hT0 h0
                  have hS := hS2
                  clear hS2
                  refine wpAnyZ_one (i := 10) (by kernel_rfl) rfl (fun K hK => ?_)
                  have h0 := hS.at (g := gd) (x := fun _ => 0) (by simp)
                  have hT0 := h0.there
                  have hS2 := hS.put0 O
                  rw [if_pos (by rfl)]
                  refine wp_store_arr _ _ _ rfl gd 16 O rfl rfl hT0 hib ?_
                  try simp only [Act.put, List.setIfInBounds_toArray, List.set_cons_zero, List.set_cons_succ]
                  refine hK.out _ _ (fun _ => hS2.tail.tail) ?_
                  generalize World.setCells v5 gd 0 (vals 16 O) = v6 at hS2 ⊢
                  clear hK K hS hT0 h0
                  have hS := hS2
                  clear hS2
                  refine wpAnyZ_done (by kernel_rfl) ?_ _
                  go_wp2_with fail
                  go_meet
                  exact ⟨gc, gd, rfl, rfl, hS.swap⟩
                · go_simp
                  have hS2 := hS.fresh 35
                  refine hK.out _ _ (fun _ => hS2.tail.tail) ?_
                  clear hK K hS
                  obtain ⟨gd, hn⟩ : ∃ g, Hid (g = v2.heap.size) := ⟨_, rfl⟩
                  rw [← hn.out] at hS2 ⊢
                  replace hz := hz.below ((Below.refl _ _).alloc (Nat.le_refl _) (.cells (vals 16 fun _ => 0).toArray 35))
                  generalize World.alloc v2 (.cells (vals 16 fun _ => 0).toArray 35) = v3 at hS2 hz ⊢
                  clear hn
                  have hS := hS2
                  clear hS2
                  try simp only [Act.put, List.setIfInBounds_toArray, List.set_cons_zero, List.set_cons_succ]
                  refine wpAnyZ_one (i := 6) (by kernel_rfl) rfl (fun K hK => ?_)
                  go_simp
                  go_at_call 25
                  refine (sum_of h none (some ⟨gz, 0, none⟩) 0 k 0 k [] (List.replicate k 0) _ oh rfl (List.length_replicate ..) (Bin.nil _ _) (hz) Oct.nil HOZ.out (by decide) (by omega) (Nat.zero_le _) (Nat.le_refl _)).mono ?_
                  rintro e v4 ⟨rfl, hb8⟩
                  rw [← eO.out]
                  go_wp2_with fail
                  refine hK.out _ _ (fun _ => (hS.grow hb8).tail.tail) ?_
                  replace hS := hS.grow hb8
                  replace hz := hz.below hb8
                  clear hK K hb8
                  try simp only [Act.put, List.setIfInBounds_toArray, List.set_cons_zero, List.set_cons_succ]
                  refine wpAnyZ_one (i := 9) (by kernel_rfl) rfl (fun K hK => ?_)
                  clear hz
                  have h0 := hS.at (g := gc) (x := fun _ => 0) (by simp)
                  have hT0 := h0.there
                  have hS2 := hS.put1 Z
                  rw [if_pos (by rfl)]
                  refine wp_store_arr _ _ _ rfl gc 16 Z rfl rfl hT0 hib ?_
                  try simp only [Act.put, List.setIfInBounds_toArray, List.set_cons_zero, List.set_cons_succ]
                  refine hK.out _ _ (fun _ => hS2.tail.tail) ?_
                  generalize World.setCells v4 gc 0 (vals 16 Z) = v5 at hS2 ⊢
                  clear hK K hS hT0 h0
                  have hS := hS2
                  clear hS2
                  refine wpAnyZ_one (i := 10) (by kernel_rfl) rfl (fun K hK => ?_)
                  have h0 := hS.at (g := gd) (x := fun _ => 0) (by simp)
                  have hT0 := h0.there
                  have hS2 := hS.put0 O
                  rw [if_pos (by rfl)]
                  refine wp_store_arr _ _ _ rfl gd 16 O rfl rfl hT0 hib ?_
                  try simp only [Act.put, List.setIfInBounds_toArray, List.set_cons_zero, List.set_cons_succ]
                  refine hK.out _ _ (fun _ => hS2.tail.tail) ?_
                  generalize World.setCells v5 gd 0 (vals 16 O) = v6 at hS2 ⊢
                  clear hK K hS hT0 h0
                  have hS := hS2
                  clear hS2
                  refine wpAnyZ_done (by kernel_rfl) ?_ _
                  go_wp2_with fail
                  go_meet
                  exact ⟨gc, gd, rfl, rfl, hS.swap⟩
              · go_simp
                have hS2 := hS.fresh 35
                refine hK.out _ _ (fun _ => hS2.tail) ?_
                clear hK K hS
                obtain ⟨gd, hn⟩ : ∃ g, Hid (g = v1.heap.size) := ⟨_, rfl⟩
                rw [← hn.out] at hS2 ⊢
                replace hz := hz.below ((Below.refl _ _).alloc (Nat.le_refl _) (.cells (vals 16 fun _ => 0).toArray 35))
                generalize World.alloc v1 (.cells (vals 16 fun _ => 0).toArray 35) = v2 at hS2 hz ⊢
                clear hn
                have hS := hS2
                clear hS2
                try simp only [Act.put, List.setIfInBounds_toArray, List.set_cons_zero, List.set_cons_succ]
                refine wpAnyZ_two (i := 6) (j := 7) (by kernel_rfl) rfl rfl (fun K hK => ?_) (fun K hK => ?_) 
                · go_simp
                  go_at_call 25
                  refine (sum_of h none (some ⟨gz, 0, none⟩) 0 k 0 k [] (List.replicate k 0) _ oh rfl (List.length_replicate ..) (Bin.nil _ _) (hz) Oct.nil HOZ.out (by decide) (by omega) (Nat.zero_le _) (Nat.le_refl _)).mono ?_
                  rintro e v3 ⟨rfl, hb8⟩
                  rw [← eO.out]
                  go_wp2_with fail
                  refine hK.out _ _ (fun _ => (hS.grow hb8).tail) ?_
                  replace hS := hS.grow hb8
                  replace hz := hz.below hb8
                  clear hK K hb8
                  try simp only [Act.put, List.setIfInBounds_toArray, List.set_cons_zero, List.set_cons_succ]
                  refine wpAnyZ_one (i := 7) (by kernel_rfl) rfl (fun K hK => ?_)
                  go_simp
                  have hS2 := hS.fresh 35
                  refine hK.out _ _ (fun _ => hS2.tail.tail) ?_
                  clear hK K hS
                  obtain ⟨gc, hn⟩ : ∃ g, Hid (g = v3.heap.size) := ⟨_, rfl⟩
                  rw [← hn.out] at hS2 ⊢
                  replace hz := hz.below ((Below.refl _ _).alloc (Nat.le_refl _) (.cells (vals 16 fun _ => 0).toArray 35))
                  generalize World.alloc v3 (.cells (vals 16 fun _ => 0).toArray 35) = v4 at hS2 hz ⊢
                  clear hn
                  have hS := hS2
                  clear hS2
                  try simp only [Act.put, List.setIfInBounds_toArray, List.set_cons_zero, List.set_cons_succ]
                  refine wpAnyZ_one (i := 9) (by kernel_rfl) rfl (fun K hK => ?_)
                  clear hz
                  have h0 := hS.at (g := gc) (x := fun _ => 0) (by simp)
                  have hT0 := h0.there
                  have hS2 := hS.put0 Z
                  rw [if_pos (by rfl)]
                  refine wp_store_arr _ _ _ rfl gc 16 Z rfl rfl hT0 hib ?_
                  try simp only [Act.put, List.setIfInBounds_toArray, List.set_cons_zero, List.set_cons_succ]
                  refine hK.out _ _ (fun _ => hS2.tail.tail) ?_
                  generalize World.setCells v4 gc 0 (vals 16 Z) = v5 at hS2 ⊢
                  clear hK K hS hT0 h0
                  have hS := hS2
                  clear hS2
                  refine wpAnyZ_one (i := 10) (by kernel_rfl) rfl (fun K hK => ?_)
                  have h0 := hS.at (g := gd) (x := fun _ => 0) (by simp)
                  have hT0 := h0.there
                  have hS2 := hS.put1 O
                  rw [if_pos (by rfl)]
                  refine wp_store_arr _ _ _ rfl gd 16 O rfl rfl hT0 hib ?_
                  try simp only [Act.put, List.setIfInBounds_toArray, List.set_cons_zero, List.set_cons_succ]
                  refine hK.out _ _ (fun _ => hS2.tail.tail) ?_
                  generalize World.setCells v5 gd 0 (vals 16 O) = v6 at hS2 ⊢
                  clear hK K hS hT0 h0
                  have hS := hS2
                  clear hS2
                  refine wpAnyZ_done (by kernel_rfl) ?_ _
                  go_wp2_with fail
                  go_meet
                  exact ⟨gc, gd, rfl, rfl, hS⟩
                · go_simp
                  have hS2 := hS.fresh 35
                  refine hK.out _ _ (fun _ => hS2.tail.tail) ?_
                  clear hK K hS
                  obtain ⟨gc, hn⟩ : ∃ g, Hid (g = v2.heap.size) := ⟨_, rfl⟩
                  rw [← hn.out] at hS2 ⊢
                  replace hz := hz.below ((Below.refl _ _).alloc (Nat.le_refl _) (.cells (vals 16 fun _ => 0).toArray 35))
                  generalize World.alloc v2 (.cells (vals 16 fun _ => 0).toArray 35) = v3 at hS2 hz ⊢
                  clear hn
                  have hS := hS2
                  clear hS2
                  try simp only [Act.put, List.setIfInBounds_toArray, List.set_cons_zero, List.set_cons_succ]
                  refine wpAnyZ_one (i := 6) (by kernel_rfl) rfl (fun K hK => ?_)
                  go_simp
                  go_at_call 25
                  refine (sum_of h none (some ⟨gz, 0, none⟩) 0 k 0 k [] (List.replicate k 0) _ oh rfl (List.length_replicate ..) (Bin.nil _ _) (hz) Oct.nil HOZ.out (by decide) (by omega) (Nat.zero_le _) (Nat.le_refl _)).mono ?_
                  rintro e v4 ⟨rfl, hb8⟩
                  rw [← eO.out]
                  go_wp2_with fail
                  refine hK.out _ _ (fun _ => (hS.grow hb8).tail.tail) ?_
                  replace hS := hS.grow hb8
                  replace hz := hz.below hb8
                  clear hK K hb8
                  try simp only [Act.put, List.setIfInBounds_toArray, List.set_cons_zero, List.set_cons_succ]
                  refine wpAnyZ_one (i := 9) (by kernel_rfl) rfl (fun K hK => ?_)
                  clear hz
                  have h0 := hS.at (g := gc) (x := fun _ => 0) (by simp)
                  have hT0 := h0.there
                  have hS2 := hS.put0 Z
                  rw [if_pos (by rfl)]
                  refine wp_store_arr _ _ _ rfl gc 16 Z rfl rfl hT0 hib ?_
                  try simp only [Act.put, List.setIfInBounds_toArray, List.set_cons_zero, List.set_cons_succ]
                  refine hK.out _ _ (fun _ => hS2.tail.tail) ?_
                  generalize World.setCells v4 gc 0 (vals 16 Z) = v5 at hS2 ⊢
                  clear hK K hS hT0 h0
                  have hS := hS2
                  clear hS2
                  refine wpAnyZ_one (i := 10) (by kernel_rfl) rfl (fun K hK => ?_)
                  have h0 := hS.at (g := gd) (x := fun _ => 0) (by simp)
                  have hT0 := h0.there
                  have hS2 := hS.put1 O
                  rw [if_pos (by rfl)]
                  refine wp_store_arr _ _ _ rfl gd 16 O rfl rfl hT0 hib ?_
                  try simp only [Act.put, List.setIfInBounds_toArray, List.set_cons_zero, List.set_cons_succ]
                  refine hK.out _ _ (fun _ => hS2.tail.tail) ?_
                  generalize World.setCells v5 gd 0 (vals 16 O) = v6 at hS2 ⊢
                  clear hK K hS hT0 h0
                  have hS := hS2
                  clear hS2
                  refine wpAnyZ_done (by kernel_rfl) ?_ _
                  go_wp2_with fail
                  go_meet
                  exact ⟨gc, gd, rfl, rfl, hS⟩
            · go_simp
              have hS2 := hS.fresh 35
              refine hK.out _ _ (fun _ => hS2.tail) ?_
              clear hK K hS
              obtain ⟨gc, hn⟩ : ∃ g, Hid (g = v0.heap.size) := ⟨_, rfl⟩
              rw [← hn.out] at hS2 ⊢
              generalize World.alloc v0 (.cells (vals 16 fun _ => 0).toArray 35) = v1 at hS2 ⊢
              clear hn
              have hS := hS2
              clear hS2
              try simp only [Act.put, List.setIfInBounds_toArray, List.set_cons_zero, List.set_cons_succ]
              refine wpAnyZ_two (i := 5) (j := 8) (by kernel_rfl) rfl rfl (fun K hK => ?_) (fun K hK => ?_) 
              · refine step_make_full rfl _ _ 22 rfl i0 Try.underlying22 hi hz0 hz1 hz2 k rfl rfl (by omega) (World.heap v1).size (Nat.le_refl _) ?_
                intro v2 hO hg
                have hbm : Below (World.heap v1).size v1 v2 := (Below.refl _ _).grown hg (Nat.le_refl _) (by simp)
                have hS2 := hS.grow hbm
                have hz := hO.slice.2.2
                refine hK.out _ _ (fun _ => hS2.tail) ?_
                obtain ⟨gz, hn⟩ : ∃ g, Hid (g = (World.heap v1).size) := ⟨_, rfl⟩
                rw [← hn.out] at hz ⊢
                clear hn hK K hS hO hg hbm
                have hS := hS2
                clear hS2
                try simp only [Act.put, List.setIfInBounds_toArray, List.set_cons_zero, List.set_cons_succ]
                refine wpAnyZ_two (i := 6) (j := 8) (by kernel_rfl) rfl rfl (fun K hK => ?_) (fun K hK => ?_) 
                · go_simp
                  go_at_call 25
                  refine (sum_of h none (some ⟨gz, 0, none⟩) 0 k 0 k [] (List.replicate k 0) _ oh rfl (List.length_replicate ..) (Bin.nil _ _) (hz) Oct.nil HOZ.out (by decide) (by omega) (Nat.zero_le _) (Nat.le_refl _)).mono ?_
                  rintro e v3 ⟨rfl, hb8⟩
                  rw [← eO.out]
                  go_wp2_with fail
                  refine hK.out _ _ (fun _ => (hS.grow hb8).tail) ?_
                  replace hS := hS.grow hb8
                  replace hz := hz.below hb8
                  clear hK K hb8
                  try simp only [Act.put, List.setIfInBounds_toArray, List.set_cons_zero, List.set_cons_succ]
                  refine wpAnyZ_one (i := 8) (by kernel_rfl) rfl (fun K hK => ?_)
                  go_simp
                  have hS2 := hS.fresh 35
                  refine hK.out _ _ (fun _ => hS2.tail.tail) ?_
                  clear hK K hS
                  obtain ⟨gd, hn⟩ : ∃ g, Hid (g = v3.heap.size) := ⟨_, rfl⟩
                  rw [← hn.out] at hS2 ⊢
                  replace hz := hz.below ((Below.refl _ _).alloc (Nat.le_refl _) (.cells (vals 16 fun _ => 0).toArray 35))
                  generalize World.alloc v3 (.cells (vals 16 fun _ => 0).toArray 35) = v4 at hS2 hz ⊢
                  clear hn
                  have hS := hS2
                  clear hS2
                  try simp only [Act.put, List.setIfInBounds_toArray, List.set_cons_zero, List.set_cons_succ]
                  refine wpAnyZ_one (i := 9) (by kernel_rfl) rfl (fun K hK => ?_)
                  clear hz
                  have h0 := hS.at (g := gc) (x := fun _ => 0) (by simp)
                  have hT0 := h0.there
                  have hS2 := hS.put1 Z
                  rw [if_pos (by rfl)]
                  refine wp_store_arr _ _ _ rfl gc 16 Z rfl rfl hT0 hib ?_
                  try simp only [Act.put, List.setIfInBounds_toArray, List.set_cons_zero, List.set_cons_succ]
                  refine hK.out _ _ (fun _ => hS2.tail.tail) ?_
                  generalize World.setCells v4 gc 0 (vals 16 Z) = v5 at hS2 ⊢
                  clear hK K hS hT0 h0
                  have hS := hS2
                  clear hS2
                  refine wpAnyZ_one (i := 10) (by kernel_rfl) rfl (fun K hK => ?_)
                  have h0 := hS.at (g := gd) (x := fun _ => 0) (by simp)
                  have hT0 := h0.there
                  have hS2 := hS.put0 O
                  rw [if_pos (by rfl)]
                  refine wp_store_arr _ _ _ rfl gd 16 O rfl rfl hT0 hib ?_
                  try simp only [Act.put, List.setIfInBounds_toArray, List.set_cons_zero, List.set_cons_succ]
                  refine hK.out _ _ (fun _ => hS2.tail.tail) ?_
                  generalize World.setCells v5 gd 0 (vals 16 O) = v6 at hS2 ⊢
                  clear hK K hS hT0 h0
                  have hS := hS2
                  clear hS2
                  refine wpAnyZ_done (by kernel_rfl) ?_ _
                  go_wp2_with fail
                  go_meet
                  exact ⟨gc, gd, rfl, rfl, hS.swap⟩
                · go_simp
                  have hS2 := hS.fresh 35
                  refine hK.out _ _ (fun _ => hS2.tail.tail) ?_
                  clear hK K hS
                  obtain ⟨gd, hn⟩ : ∃ g, Hid (g = v2.heap.size) := ⟨_, rfl⟩
                  rw [← hn.out] at hS2 ⊢
                  replace hz := hz.below ((Below.refl _ _).alloc (Nat.le_refl _) (.cells (vals 16 fun _ => 0).toArray 35))
                  generalize World.alloc v2 (.cells (vals 16 fun _ => 0).toArray 35) = v3 at hS2 hz ⊢
                  clear hn
                  have hS := hS2
                  clear hS2
                  try simp only [Act.put, List.setIfInBounds_toArray, List.set_cons_zero, List.set_cons_succ]
                  refine wpAnyZ_one (i := 6) (by kernel_rfl) rfl (fun K hK => ?_)
                  go_simp
                  go_at_call 25
                  refine (sum_of h none (some ⟨gz, 0, none⟩) 0 k 0 k [] (List.replicate k 0) _ oh rfl (List.length_replicate ..) (Bin.nil _ _) (hz) Oct.nil HOZ.out (by decide) (by omega) (Nat.zero_le _) (Nat.le_refl _)).mono ?_
                  rintro e v4 ⟨rfl, hb8⟩
                  rw [← eO.out]
                  go_wp2_with fail
                  refine hK.out _ _ (fun _ => (hS.grow hb8).tail.tail) ?_
                  replace hS := hS.grow hb8
                  replace hz := hz.below hb8
                  clear hK K hb8
                  try simp only [Act.put, List.setIfInBounds_toArray, List.set_cons_zero, List.set_cons_succ]
                  refine wpAnyZ_one (i := 9) (by kernel_rfl) rfl (fun K hK => ?_)
                  clear hz
                  have h0 := hS.at (g := gc) (x := fun _ => 0) (by simp)
                  have hT0 := h0.there
                  have hS2 := hS.put1 Z
                  rw [if_pos (by rfl)]
                  refine wp_store_arr _ _ _ rfl gc 16 Z rfl rfl hT0 hib ?_
                  try simp only [Act.put, List.setIfInBounds_toArray, List.set_cons_zero, List.set_cons_succ]
                  refine hK.out _ _ (fun _ => hS2.tail.tail) ?_
                  generalize World.setCells v4 gc 0 (vals 16 Z) = v5 at hS2 ⊢
                  clear hK K hS hT0 h0
                  have hS := hS2
                  clear hS2
                  refine wpAnyZ_one (i := 10) (by kernel_rfl) rfl (fun K hK => ?_)
                  have h0 := hS.at (g := gd) (x := fun _ => 0) (by simp)
                  have hT0 := h0.there
                  have hS2 := hS.put0 O
                  rw [if_pos (by rfl)]
                  refine wp_store_arr _ _ _ rfl gd 16 O rfl rfl hT0 hib ?_
                  try simp only [Act.put, List.setIfInBounds_toArray, List.set_cons_zero, List.set_cons_succ]
                  refine hK.out _ _ (fun _ => hS2.tail.tail) ?_
                  generalize World.setCells v5 gd 0 (vals 16 O) = v6 at hS2 ⊢
                  clear hK K hS hT0 h0
                  have hS := hS2
                  clear hS2
                  refine wpAnyZ_done (by kernel_rfl) ?_ _
                  go_wp2_with fail
                  go_meet
                  exact ⟨gc, gd, rfl, rfl, hS.swap⟩
              · go_simp
                have hS2 := hS.fresh 35
                refine hK.out _ _ (fun _ => hS2.tail.tail) ?_
                clear hK K hS
                obtain ⟨gd, hn⟩ : ∃ g, Hid (g = v1.heap.size) := ⟨_, rfl⟩
                rw [← hn.out] at hS2 ⊢
                generalize World.alloc v1 (.cells (vals 16 fun _ => 0).toArray 35) = v2 at hS2 ⊢
                clear hn
                have hS := hS2
                clear hS2
                try simp only [Act.put, List.setIfInBounds_toArray, List.set_cons_zero, List.set_cons_succ]
                refine wpAnyZ_one (i := 5) (by kernel_rfl) rfl (fun K hK => ?_)
                refine step_make_full rfl _ _ 22 rfl i0 Try.underlying22 hi hz0 hz1 hz2 k rfl rfl (by omega) (World.heap v2).size (Nat.le_refl _) ?_
                intro v3 hO hg
                have hbm : Below (World.heap v2).size v2 v3 := (Below.refl _ _).grown hg (Nat.le_refl _) (by simp)
                have hS2 := hS.grow hbm
                have hz := hO.slice.2.2
                refine hK.out _ _ (fun _ => hS2.tail.tail) ?_
                obtain ⟨gz, hn⟩ : ∃ g, Hid (g = (World.heap v2).size) := ⟨_, rfl⟩
                rw [← hn.out] at hz ⊢
                clear hn hK K hS hO hg hbm
                have hS := hS2
                clear hS2
                try simp only [Act.put, List.setIfInBounds_toArray, List.set_cons_zero, List.set_cons_succ]
                refine wpAnyZ_one (i := 6) (by kernel_rfl) rfl (fun K hK => ?_)
                go_simp
                go_at_call 25
                refine (sum_of h none (some ⟨gz, 0, none⟩) 0 k 0 k [] (List.replicate k 0) _ oh rfl (List.length_replicate ..) (Bin.nil _ _) (hz) Oct.nil HOZ.out (by decide) (by omega) (Nat.zero_le _) (Nat.le_refl _)).mono ?_
                rintro e v4 ⟨rfl, hb8⟩
                rw [← eO.out]
                go_wp2_with fail
                refine hK.out _ _ (fun _ => (hS.grow hb8).tail.tail) ?_
                replace hS := hS.grow hb8
                replace hz := hz.below hb8
                clear hK K hb8
                try simp only [Act.put, List.setIfInBounds_toArray, List.set_cons_zero, List.set_cons_succ]
                refine wpAnyZ_one (i := 9) (by kernel_rfl) rfl (fun K hK => ?_)
                clear hz
                have h0 := hS.at (g := gc) (x := fun _ => 0) (by simp)
                have hT0 := h0.there
                have hS2 := hS.put1 Z
                rw [if_pos (by rfl)]
                refine wp_store_arr _ _ _ rfl gc 16 Z rfl rfl hT0 hib ?_
                try simp only [Act.put, List.setIfInBounds_toArray, List.set_cons_zero, List.set_cons_succ]
                refine hK.out _ _ (fun _ => hS2.tail.tail) ?_
                generalize World.setCells v4 gc 0 (vals 16 Z) = v5 at hS2 ⊢
                clear hK K hS hT0 h0
                have hS := hS2
                clear hS2
                refine wpAnyZ_one (i := 10) (by kernel_rfl) rfl (fun K hK => ?_)
                have h0 := hS.at (g := gd) (x := fun _ => 0) (by simp)
                have hT0 := h0.there
                have hS2 := hS.put0 O
                rw [if_pos (by rfl)]
                refine wp_store_arr _ _ _ rfl gd 16 O rfl rfl hT0 hib ?_
                try simp only [Act.put, List.setIfInBounds_toArray, List.set_cons_zero, List.set_cons_succ]
                refine hK.out _ _ (fun _ => hS2.tail.tail) ?_
                generalize World.setCells v5 gd 0 (vals 16 O) = v6 at hS2 ⊢
                clear hK K hS hT0 h0
                have hS := hS2
                clear hS2
                refine wpAnyZ_done (by kernel_rfl) ?_ _
                go_wp2_with fail
                go_meet
                exact ⟨gc, gd, rfl, rfl, hS.swap⟩
            · go_simp
              have hS2 := hS.fresh 35
              refine hK.out _ _ (fun _ => hS2.tail) ?_
              clear hK K hS
              obtain ⟨gd, hn⟩ : ∃ g, Hid (g = v0.heap.size) := ⟨_, rfl⟩
              rw [← hn.out] at hS2 ⊢
              generalize World.alloc v0 (.cells (vals 16 fun _ => 0).toArray 35) = v1 at hS2 ⊢
              clear hn
              have hS := hS2
              clear hS2
              try simp only [Act.put, List.setIfInBounds_toArray, List.set_cons_zero, List.set_cons_succ]
              refine wpAnyZ_two (i := 5) (j := 7) (by kernel_rfl) rfl rfl (fun K hK => ?_) (fun K hK => ?_) 
              · refine step_make_full rfl _ _ 22 rfl i0 Try.underlying22 hi hz0 hz1 hz2 k rfl rfl (by omega) (World.heap v1).size (Nat.le_refl _) ?_
                intro v2 hO hg
                have hbm : Below (World.heap v1).size v1 v2 := (Below.refl _ _).grown hg (Nat.le_refl _) (by simp)
                have hS2 := hS.grow hbm
                have hz := hO.slice.2.2
                refine hK.out _ _ (fun _ => hS2.tail) ?_
                obtain ⟨gz, hn⟩ : ∃ g, Hid (g = (World.heap v1).size) := ⟨_, rfl⟩
                rw [← hn.out] at hz ⊢
                clear hn hK K hS hO hg hbm
                have hS := hS2
                clear hS2
                try simp only [Act.put, List.setIfInBounds_toArray, List.set_cons_zero, List.set_cons_succ]
                refine wpAnyZ_two (i := 6) (j := 7) (by kernel_rfl) rfl rfl (fun K hK => ?_) (fun K hK => ?_) 
                · go_simp
                  go_at_call 25
                  refine (sum_of h none (some ⟨gz, 0, none⟩) 0 k 0 k [] (List.replicate k 0) _ oh rfl (List.length_replicate ..) (Bin.nil _ _) (hz) Oct.nil HOZ.out (by decide) (by omega) (Nat.zero_le _) (Nat.le_refl _)).mono ?_
                  rintro e v3 ⟨rfl, hb8⟩
                  rw [← eO.out]
                  go_wp2_with fail
                  refine hK.out _ _ (fun _ => (hS.grow hb8).tail) ?_
                  replace hS := hS.grow hb8
                  replace hz := hz.below hb8
                  clear hK K hb8
                  try simp only [Act.put, List.setIfInBounds_toArray, List.set_cons_zero, List.set_cons_succ]
                  refine wpAnyZ_one (i := 7) (by kernel_rfl) rfl (fun K hK => ?_)
                  go_simp
                  have hS2 := hS.fresh 35
                  refine hK.out _ _ (fun _ => hS2.tail.tail) ?_
                  clear hK K hS
                  obtain ⟨gc, hn⟩ : ∃ g, Hid (g = v3.heap.size) := ⟨_, rfl⟩
                  rw [← hn.out] at hS2 ⊢
                  replace hz := hz.below ((Below.refl _ _).alloc (Nat.le_refl _) (.cells (vals 16 fun _ => 0).toArray 35))
                  generalize World.alloc v3 (.cells (vals 16 fun _ => 0).toArray 35) = v4 at hS2 hz ⊢
                  clear hn
                  have hS := hS2
                  clear hS2
                  try simp only [Act.put, List.setIfInBounds_toArray, List.set_cons_zero, List.set_cons_succ]
                  refine wpAnyZ_one (i := 9) (by kernel_rfl) rfl (fun K hK => ?_)
                  clear hz
                  have h0 := hS.at (g := gc) (x := fun _ => 0) (by simp)
                  have hT0 := h0.there
                  have hS2 := hS.put0 Z
                  rw [if_pos (by rfl)]
                  refine wp_store_arr _ _ _ rfl gc 16 Z rfl rfl hT0 hib ?_
                  try simp only [Act.put, List.setIfInBounds_toArray, List.set_cons_zero, List.set_cons_succ]
                  refine hK.out _ _ (fun _ => hS2.tail.tail) ?_
                  generalize World.setCells v4 gc 0 (vals 16 Z) = v5 at hS2 ⊢
                  clear hK K hS hT0 h0
                  have hS := hS2
                  clear hS2
                  refine wpAnyZ_one (i := 10) (by kernel_rfl) rfl (fun K hK => ?_)
                  have h0 := hS.at (g := gd) (x := fun _ => 0) (by simp)
                  have hT0 := h0.there
                  have hS2 := hS.put1 O
                  rw [if_pos (by rfl)]
                  refine wp_store_arr _ _ _ rfl gd 16 O rfl rfl hT0 hib ?_
                  try simp only [Act.put, List.setIfInBounds_toArray, List.set_cons_zero, List.set_cons_succ]
                  refine hK.out _ _ (fun _ => hS2.tail.tail) ?_
                  generalize World.setCells v5 gd 0 (vals 16 O) = v6 at hS2 ⊢
                  clear hK K hS hT0 h0
                  have hS := hS2
                  clear hS2
                  refine wpAnyZ_done (by kernel_rfl) ?_ _
                  go_wp2_with fail
                  go_meet
                  exact ⟨gc, gd, rfl, rfl, hS⟩
                · go_simp
                  have hS2 := hS.fresh 35
                  refine hK.out _ _ (fun _ => hS2.tail.tail) ?_
                  clear hK K hS
                  obtain ⟨gc, hn⟩ : ∃ g, Hid (g = v2.heap.size) := ⟨_, rfl⟩
                  rw [← hn.out] at hS2 ⊢
                  replace hz := hz.below ((Below.refl _ _).alloc (Nat.le_refl _) (.cells (vals 16 fun _ => 0).toArray 35))
                  generalize World.alloc v2 (.cells (vals 16 fun _ => 0).toArray 35) = v3 at hS2 hz ⊢
                  clear hn
                  have hS := hS2
                  clear hS2
                  try simp only [Act.put, List.setIfInBounds_toArray, List.set_cons_zero, List.set_cons_succ]
                  refine wpAnyZ_one (i := 6) (by kernel_rfl) rfl (fun K hK => ?_)
                  go_simp
                  go_at_call 25
                  refine (sum_of h none (some ⟨gz, 0, none⟩) 0 k 0 k [] (List.replicate k 0) _ oh rfl (List.length_replicate ..) (Bin.nil _ _) (hz) Oct.nil HOZ.out (by decide) (by omega) (Nat.zero_le _) (Nat.le_refl _)).mono ?_
                  rintro e v4 ⟨rfl, hb8⟩
                  rw [← eO.out]
                  go_wp2_with fail
                  refine hK.out _ _ (fun _ => (hS.grow hb8).tail.tail) ?_
                  replace hS := hS.grow hb8
                  replace hz := hz.below hb8
                  clear hK K hb8
                  try simp only [Act.put, List.setIfInBounds_toArray, List.set_cons_zero, List.set_cons_succ]
                  refine wpAnyZ_one (i := 9) (by kernel_rfl) rfl (fun K hK => ?_)
                  clear hz
                  have h0 := hS.at (g := gc) (x := fun _ => 0) (by simp)
                  have hT0 := h0.there
                  have hS2 := hS.put0 Z
                  rw [if_pos (by rfl)]
                  refine wp_store_arr _ _ _ rfl gc 16 Z rfl rfl hT0 hib ?_
                  try simp only [Act.put, List.setIfInBounds_toArray, List.set_cons_zero, List.set_cons_succ]
                  refine hK.out _ _ (fun _ => hS2.tail.tail) ?_
                  generalize World.setCells v4 gc 0 (vals 16 Z) = v5 at hS2 ⊢
                  clear hK K hS hT0 h0
                  have hS := hS2
                  clear hS2
                  refine wpAnyZ_one (i := 10) (by kernel_rfl) rfl (fun K hK => ?_)
                  have h0 := hS.at (g := gd) (x := fun _ => 0) (by simp)
                  have hT0 := h0.there
                  have hS2 := hS.put1 O
                  rw [if_pos (by rfl)]
                  refine wp_store_arr _ _ _ rfl gd 16 O rfl rfl hT0 hib ?_
                  try simp only [Act.put, List.setIfInBounds_toArray, List.set_cons_zero, List.set_cons_succ]
                  refine hK.out _ _ (fun _ => hS2.tail.tail) ?_
                  generalize World.setCells v5 gd 0 (vals 16 O) = v6 at hS2 ⊢
                  clear hK K hS hT0 h0
                  have hS := hS2
                  clear hS2
                  refine wpAnyZ_done (by kernel_rfl) ?_ _
                  go_wp2_with fail
                  go_meet
                  exact ⟨gc, gd, rfl, rfl, hS⟩
              · go_simp
                have hS2 := hS.fresh 35
                refine hK.out _ _ (fun _ => hS2.tail.tail) ?_
                clear hK K hS
                obtain ⟨gc, hn⟩ : ∃ g, Hid (g = v1.heap.size) := ⟨_, rfl⟩
                rw [← hn.out] at hS2 ⊢
                generalize World.alloc v1 (.cells (vals 16 fun _ => 0).toArray 35) = v2 at hS2 ⊢
                clear hn
                have hS := hS2
                clear hS2
                try simp only [Act.put, List.setIfInBounds_toArray, List.set_cons_zero, List.set_cons_succ]
                refine wpAnyZ_one (i := 5) (by kernel_rfl) rfl (fun K hK => ?_)
                refine step_make_full rfl _ _ 22 rfl i0 Try.underlying22 hi hz0 hz1 hz2 k rfl rfl (by omega) (World.heap v2).size (Nat.le_refl _) ?_
                intro v3 hO hg
                have hbm : Below (World.heap v2).size v2 v3 := (Below.refl _ _).grown hg (Nat.le_refl _) (by simp)
                have hS2 := hS.grow hbm
                have hz := hO.slice.2.2
                refine hK.out _ _ (fun _ => hS2.tail.tail) ?_
                obtain ⟨gz, hn⟩ : ∃ g, Hid (g = (World.heap v2).size) := ⟨_, rfl⟩
                rw [← hn.out] at hz ⊢
                clear hn hK K hS hO hg hbm
                have hS := hS2
                clear hS2
                try simp only [Act.put, List.setIfInBounds_toArray, List.set_cons_zero, List.set_cons_succ]
                refine wpAnyZ_one (i := 6) (by kernel_rfl) rfl (fun K hK => ?_)
                go_simp
                go_at_call 25
                refine (sum_of h none (some ⟨gz, 0, none⟩) 0 k 0 k [] (List.replicate k 0) _ oh rfl (List.length_replicate ..) (Bin.nil _ _) (hz) Oct.nil HOZ.out (by decide) (by omega) (Nat.zero_le _) (Nat.le_refl _)).mono ?_
                rintro e v4 ⟨rfl, hb8⟩
                rw [← eO.out]
                go_wp2_with fail
                refine hK.out _ _ (fun _ => (hS.grow hb8).tail.tail) ?_
                replace hS := hS.grow hb8
                replace hz := hz.below hb8
                clear hK K hb8
                try simp only [Act.put, List.setIfInBounds_toArray, List.set_cons_zero, List.set_cons_succ]
                refine wpAnyZ_one (i := 9) (by kernel_rfl) rfl (fun K hK => ?_)
                clear hz
                have h0 := hS.at (g := gc) (x := fun _ => 0) (by simp)
                have hT0 := h0.there
                have hS2 := hS.put0 Z
                rw [if_pos (by rfl)]
                refine wp_store_arr _ _ _ rfl gc 16 Z rfl rfl hT0 hib ?_
                try simp only [Act.put, List.setIfInBounds_toArray, List.set_cons_zero, List.set_cons_succ]
                refine hK.out _ _ (fun _ => hS2.tail.tail) ?_
                generalize World.setCells v4 gc 0 (vals 16 Z) = v5 at hS2 ⊢
                clear hK K hS hT0 h0
                have hS := hS2
                clear hS2
                refine wpAnyZ_one (i := 10) (by kernel_rfl) rfl (fun K hK => ?_)
                have h0 := hS.at (g := gd) (x := fun _ => 0) (by simp)
                have hT0 := h0.there
                have hS2 := hS.put1 O
                rw [if_pos (by rfl)]
                refine wp_store_arr _ _ _ rfl gd 16 O rfl rfl hT0 hib ?_
                try simp only [Act.put, List.setIfInBounds_toArray, List.set_cons_zero, List.set_cons_succ]
                refine hK.out _ _ (fun _ => hS2.tail.tail) ?_
                generalize World.setCells v5 gd 0 (vals 16 O) = v6 at hS2 ⊢
                clear hK K hS hT0 h0
                have hS := hS2
                clear hS2
                refine wpAnyZ_done (by kernel_rfl) ?_ _
                go_wp2_with fail
                go_meet
                exact ⟨gc, gd, rfl, rfl, hS⟩
          · refine step_make_full rfl _ _ 22 rfl i0 Try.underlying22 hi hz0 hz1 hz2 k rfl rfl (by omega) (World.heap w9).size (Nat.le_refl _) ?_
            intro v0 hO hg
            have hbm : Below (World.heap w9).size w9 v0 := (Below.refl _ _).grown hg (Nat.le_refl _) (by simp)
            have hS2 := hS.grow hbm
            have hz := hO.slice.2.2
            refine hK.out _ _ (fun _ => hS2) ?_
            obtain ⟨gz, hn⟩ : ∃ g, Hid (g = (World.heap w9).size) := ⟨_, rfl⟩
            rw [← hn.out] at hz ⊢
            clear hn hK K hS hO hg hbm
            have hS := hS2
            clear hS2
            try simp only [Act.put, List.setIfInBounds_toArray, List.set_cons_zero, List.set_cons_succ]
            refine wpAnyZ_three (i := 2) (j := 7) (k := 8) (by kernel_rfl) rfl rfl rfl (fun K hK => ?_) (fun K hK => ?_) (fun K hK => ?_) 
            · go_simp
              go_at_call 25
              refine (sum_of h none pv 0 cv 0 k [] (row FF k) _ oh rfl (row_length _ _) (Bin.nil _ _) (HV.out.below hS.below) Oct.nil HOR.out (by decide) (by omega) (Nat.zero_le _) (hcv)).mono ?_
              rintro e v1 ⟨rfl, hb8⟩
              rw [← eZ.out]
              go_wp2_with fail
              refine hK.out _ _ (fun _ => (hS.grow hb8)) ?_
              replace hS := hS.grow hb8
              replace hz := hz.below hb8
              clear hK K hb8
              try simp only [Act.put, List.setIfInBounds_toArray, List.set_cons_zero, List.set_cons_succ]
              refine wpAnyZ_three (i := 6) (j := 7) (k := 8) (by kernel_rfl) rfl rfl rfl (fun K hK => ?_) (fun K hK => ?_) (fun K hK => ?_) 
              · go_simp
                go_at_call 25
                refine (sum_of h none (some ⟨gz, 0, none⟩) 0 k 0 k [] (List.replicate k 0) _ oh rfl (List.length_replicate ..) (Bin.nil _ _) (hz) Oct.nil HOZ.out (by decide) (by omega) (Nat.zero_le _) (Nat.le_refl _)).mono ?_
                rintro e v2 ⟨rfl, hb8⟩
                rw [← eO.out]
                go_wp2_with fail
                refine hK.out _ _ (fun _ => (hS.grow hb8)) ?_
                replace hS := hS.grow hb8
                replace hz := hz.below hb8
                clear hK K hb8
                try simp only [Act.put, List.setIfInBounds_toArray, List.set_cons_zero, List.set_cons_succ]
                refine wpAnyZ_two (i := 7) (j := 8) (by kernel_rfl) rfl rfl (fun K hK => ?_) (fun K hK => ?_) 
                · go_simp
                  have hS2 := hS.fresh 35
                  refine hK.out _ _ (fun _ => hS2.tail) ?_
                  clear hK K hS
                  obtain ⟨gc, hn⟩ : ∃ g, Hid (g = v2.heap.size) := ⟨_, rfl⟩
                  rw [← hn.out] at hS2 ⊢
                  replace hz := hz.below ((Below.refl _ _).alloc (Nat.le_refl _) (.cells (vals 16 fun _ => 0).toArray 35))
                  generalize World.alloc v2 (.cells (vals 16 fun _ => 0).toArray 35) = v3 at hS2 hz ⊢
                  clear hn
                  have hS := hS2
                  clear hS2
                  try simp only [Act.put, List.setIfInBounds_toArray, List.set_cons_zero, List.set_cons_succ]
                  refine wpAnyZ_one (i := 8) (by kernel_rfl) rfl (fun K hK => ?_)
                  go_simp
                  have hS2 := hS.fresh 35
                  refine hK.out _ _ (fun _ => hS2.tail.tail) ?_
                  clear hK K hS
                  obtain ⟨gd, hn⟩ : ∃ g, Hid (g = v3.heap.size) := ⟨_, rfl⟩
                  rw [← hn.out] at hS2 ⊢
                  replace hz := hz.below ((Below.refl _ _).alloc (Nat.le_refl _) (.cells (vals 16 fun _ => 0).toArray 35))
                  generalize World.alloc v3 (.cells (vals 16 fun _ => 0).toArray 35) = v4 at hS2 hz ⊢
                  clear hn
                  have hS := hS2
                  clear hS2
                  try simp only [Act.put, List.setIfInBounds_toArray, List.set_cons_zero, List.set_cons_succ]
                  refine wpAnyZ_one (i := 9) (by kernel_rfl) rfl (fun K hK => ?_)
                  clear hz
                  have h0 := hS.at (g := gc) (x := fun _ => 0) (by simp)
                  have hT0 := h0.there
                  have hS2 := hS.put1 Z
                  rw [if_pos (by rfl)]
                  refine wp_store_arr _ _ _ rfl gc 16 Z rfl rfl hT0 hib ?_
                  try simp only [Act.put, List.setIfInBounds_toArray, List.set_cons_zero, List.set_cons_succ]
                  refine hK.out _ _ (fun _ => hS2.tail.tail) ?_
                  generalize World.setCells v4 gc 0 (vals 16 Z) = v5 at hS2 ⊢
                  clear hK K hS hT0 h0
                  have hS := hS2
                  clear hS2
                  refine wpAnyZ_one (i := 10) (by kernel_rfl) rfl (fun K hK => ?_)
                  have h0 := hS.at (g := gd) (x := fun _ => 0) (by simp)
                  have hT0 := h0.there
                  have hS2 := hS.put0 O
                  rw [if_pos (by rfl)]
                  refine wp_store_arr _ _ _ rfl gd 16 O rfl rfl hT0 hib ?_
                  try simp only [Act.put, List.setIfInBounds_toArray, List.set_cons_zero, List.set_cons_succ]
                  refine hK.out _ _ (fun _ => hS2.tail.tail) ?_
                  generalize World.setCells v5 gd 0 (vals 16 O) = v6 at hS2 ⊢
                  clear hK K hS hT0 h0
                  have hS := hS2
                  clear hS2
                  refine wpAnyZ_done (by kernel_rfl) ?_ _
                  go_wp2_with fail
                  go_meet
                  exact ⟨gc, gd, rfl, rfl, hS.swap⟩
                · go_simp
                  have hS2 := hS.fresh 35
                  refine hK.out _ _ (fun _ => hS2.tail) ?_
                  clear hK K hS
                  obtain ⟨gd, hn⟩ : ∃ g, Hid (g = v2.heap.size) := ⟨_, rfl⟩
                  rw [← hn.out] at hS2 ⊢
                  replace hz := hz.below ((Below.refl _ _).alloc (Nat.le_refl _) (.cells (vals 16 fun _ => 0).toArray 35))
                  generalize World.alloc v2 (.cells (vals 16 fun _ => 0).toArray 35) = v3 at hS2 hz ⊢
                  clear hn
                  have hS := hS2
                  clear hS2
                  try simp only [Act.put, List.setIfInBounds_toArray, List.set_cons_zero, List.set_cons_succ]
                  refine wpAnyZ_one (i := 7) (by kernel_rfl) rfl (fun K hK => ?_)
                  go_simp
                  have hS2 := hS.fresh 35
                  refine hK.out _ _ (fun _ => hS2.tail.tail) ?_
                  clear hK K hS
                  obtain ⟨gc, hn⟩ : ∃ g, Hid (g = v3.heap.size) := ⟨_, rfl⟩
                  rw [← hn.out] at hS2 ⊢
                  replace hz := hz.below ((Below.refl _ _).alloc (Nat.le_refl _) (.cells (vals 16 fun _ => 0).toArray 35))
                  generalize World.alloc v3 (.cells (vals 16 fun _ => 0).toArray 35) = v4 at hS2 hz ⊢
                  clear hn
                  have hS := hS2
                  clear hS2
                  try simp only [Act.put, List.setIfInBounds_toArray, List.set_cons_zero, List.set_cons_succ]
                  refine wpAnyZ_one (i := 9) (by kernel_rfl) rfl (fun K hK => ?_)
                  clear hz
                  have h0 := hS.at (g := gc) (x := fun _ => 0) (by simp)
                  have hT0 := h0.there
                  have hS2 := hS.put0 Z
                  rw [if_pos (by rfl)]
                  refine wp_store_arr _ _ _ rfl gc 16 Z rfl rfl hT0 hib ?_
                  try simp only [Act.put, List.setIfInBounds_toArray, List.set_cons_zero, List.set_cons_succ]
                  refine hK.out _ _ (fun _ => hS2.tail.tail) ?_
                  generalize World.setCells v4 gc 0 (vals 16 Z) = v5 at hS2 ⊢
                  clear hK K hS hT0 h0
                  have hS := hS2
                  clear hS2
                  refine wpAnyZ_one (i := 10) (by kernel_rfl) rfl (fun K hK => ?_)
                  have h0 := hS.at (g := gd) (x := fun _ => 0) (by simp)
                  have hT0 := h0.there
                  have hS2 := hS.put1 O
                  rw [if_pos (by rfl)]
                  refine wp_store_arr _ _ _ rfl gd 16 O rfl rfl hT0 hib ?_
                  try simp only [Act.put, List.setIfInBounds_toArray, List.set_cons_zero, List.set_cons_succ]
                  refine hK.out _ _ (fun _ => hS2.tail.tail) ?_
                  generalize World.setCells v5 gd 0 (vals 16 O) = v6 at hS2 ⊢
                  clear hK K hS hT0 h0
                  have hS := hS2
                  clear hS2
                  refine wpAnyZ_done (by kernel_rfl) ?_ _
                  go_wp2_with fail
                  go_meet
                  exact ⟨gc, gd, rfl, rfl, hS⟩
              · go_simp
                have hS2 := hS.fresh 35
                refine hK.out _ _ (fun _ => hS2.tail) ?_
                clear hK K hS
                obtain ⟨gc, hn⟩ : ∃ g, Hid (g = v1.heap.size) := ⟨_, rfl⟩
                rw [← hn.out] at hS2 ⊢
                replace hz := hz.below ((Below.refl _ _).alloc (Nat.le_refl _) (.cells (vals 16 fun _ => 0).toArray 35))
                generalize World.alloc v1 (.cells (vals 16 fun _ => 0).toArray 35) = v2 at hS2 hz ⊢
                clear hn
                have hS := hS2
                clear hS2
                try simp only [Act.put, List.setIfInBounds_toArray, List.set_cons_zero, List.set_cons_succ]
                refine wpAnyZ_two (i := 6) (j := 8) (by kernel_rfl) rfl rfl (fun K hK => ?_) (fun K hK => ?_) 
                · go_simp
                  go_at_call 25
                  refine (sum_of h none (some ⟨gz, 0, none⟩) 0 k 0 k [] (List.replicate k 0) _ oh rfl (List.length_replicate ..) (Bin.nil _ _) (hz) Oct.nil HOZ.out (by decide) (by omega) (Nat.zero_le _) (Nat.le_refl _)).mono ?_
                  rintro e v3 ⟨rfl, hb8⟩
                  rw [← eO.out]
                  go_wp2_with fail
                  refine hK.out _ _ (fun _ => (hS.grow hb8).tail) ?_
                  replace hS := hS.grow hb8
                  replace hz := hz.below hb8
                  clear hK K hb8
                  try simp only [Act.put, List.setIfInBounds_toArray, List.set_cons_zero, List.set_cons_succ]
                  refine wpAnyZ_one (i := 8) (by kernel_rfl) rfl (fun K hK => ?_)
                  go_simp
                  have hS2 := hS.fresh 35
                  refine hK.out _ _ (fun _ => hS2.tail.tail) ?_
                  clear hK K hS
                  obtain ⟨gd, hn⟩ : ∃ g, Hid (g = v3.heap.size) := ⟨_, rfl⟩
                  rw [← hn.out] at hS2 ⊢
                  replace hz := hz.below ((Below.refl _ _).alloc (Nat.le_refl _) (.cells (vals 16 fun _ => 0).toArray 35))
                  generalize World.alloc v3 (.cells (vals 16 fun _ => 0).toArray 35) = v4 at hS2 hz ⊢
                  clear hn
                  have hS := hS2
                  clear hS2
                  try simp only [Act.put, List.setIfInBounds_toArray, List.set_cons_zero, List.set_cons_succ]
                  refine wpAnyZ_one (i := 9) (by kernel_rfl) rfl (fun K hK => ?_)
                  clear hz
                  have h0 := hS.at (g := gc) (x := fun _ => 0) (by simp)
                  have hT0 := h0.there
                  have hS2 := hS.put1 Z
                  rw [if_pos (by rfl)]
                  refine wp_store_arr _ _ _ rfl gc 16 Z rfl rfl hT0 hib ?_
                  try simp only [Act.put, List.setIfInBounds_toArray, List.set_cons_zero, List.set_cons_succ]
                  refine hK.out _ _ (fun _ => hS2.tail.tail) ?_
                  generalize World.setCells v4 gc 0 (vals 16 Z) = v5 at hS2 ⊢
                  clear hK K hS hT0 h0
                  have hS := hS2
                  clear hS2
                  refine wpAnyZ_one (i := 10) (by kernel_rfl) rfl (fun K hK => ?_)
                  have h0 := hS.at (g := gd) (x := fun _ => 0) (by simp)
                  have hT0 := h0.there
                  have hS2 := hS.put0 O
                  rw [if_pos (by rfl)]
                  refine wp_store_arr _ _ _ rfl gd 16 O rfl rfl hT0 hib ?_
                  try simp only [Act.put, List.setIfInBounds_toArray, List.set_cons_zero, List.set_cons_succ]
                  refine hK.out _ _ (fun _ => hS2.tail.tail) ?_
                  generalize World.setCells v5 gd 0 (vals 16 O) = v6 at hS2 ⊢
                  clear hK K hS hT0 h0
                  have hS := hS2
                  clear hS2
                  refine wpAnyZ_done (by kernel_rfl) ?_ _
                  go_wp2_with fail
                  go_meet
                  exact ⟨gc, gd, rfl, rfl, hS.swap⟩
                · go_simp
                  have hS2 := hS.fresh 35
                  refine hK.out _ _ (fun _ => hS2.tail.tail) ?_
                  clear hK K hS
                  obtain ⟨gd, hn⟩ : ∃ g, Hid (g = v2.heap.size) := ⟨_, rfl⟩
                  rw [← hn.out] at hS2 ⊢
                  replace hz := hz.below ((Below.refl _ _).alloc (Nat.le_refl _) (.cells (vals 16 fun _ => 0).toArray 35))
                  generalize World.alloc v2 (.cells (vals 16 fun _ => 0).toArray 35) = v3 at hS2 hz ⊢
                  clear hn
                  have hS := hS2
                  clear hS2
                  try simp only [Act.put, List.setIfInBounds_toArray, List.set_cons_zero, List.set_cons_succ]
                  refine wpAnyZ_one (i := 6) (by kernel_rfl) rfl (fun K hK => ?_)
                  go_simp
                  go_at_call 25
                  refine (sum_of h none (some ⟨gz, 0, none⟩) 0 k 0 k [] (List.replicate k 0) _ oh rfl (List.length_replicate ..) (Bin.nil _ _) (hz) Oct.nil HOZ.out (by decide) (by omega) (Nat.zero_le _) (Nat.le_refl _)).mono ?_
                  rintro e v4 ⟨rfl, hb8⟩
                  rw [← eO.out]
                  go_wp2_with fail
                  refine hK.out _ _ (fun _ => (hS.grow hb8).tail.tail) ?_
                  replace hS := hS.grow hb8
                  replace hz := hz.below hb8
                  clear hK K hb8
                  try simp only [Act.put, List.setIfInBounds_toArray, List.set_cons_zero, List.set_cons_succ]
                  refine wpAnyZ_one (i := 9) (by kernel_rfl) rfl (fun K hK => ?_)
                  clear hz
                  have h0 := hS.at (g := gc) (x := fun _ => 0) (by simp)
                  have hT0 := h0.there
                  have hS2 := hS.put1 Z
                  rw [if_pos (by rfl)]
                  refine wp_store_arr _ _ _ rfl gc 16 Z rfl rfl hT0 hib ?_
                  try simp only [Act.put, List.setIfInBounds_toArray, List.set_cons_zero, List.set_cons_succ]
                  refine hK.out _ _ (fun _ => hS2.tail.tail) ?_
                  generalize World.setCells v4 gc 0 (vals 16 Z) = v5 at hS2 ⊢
                  clear hK K hS hT0 h0
                  have hS := hS2
                  clear hS2
                  refine wpAnyZ_one (i := 10) (by kernel_rfl) rfl (fun K hK => ?_)
                  have h0 := hS.at (g := gd) (x := fun _ => 0) (by simp)
                  have hT0 := h0.there
                  have hS2 := hS.put0 O
                  rw [if_pos (by rfl)]
                  refine wp_store_arr _ _ _ rfl gd 16 O rfl rfl hT0 hib ?_
                  try simp only [Act.put, List.setIfInBounds_toArray, List.set_cons_zero, List.set_cons_succ]
                  refine hK.out _ _ (fun _ => hS2.tail.tail) ?_
                  generalize World.setCells v5 gd 0 (vals 16 O) = v6 at hS2 ⊢
                  clear hK K hS hT0 h0
                  have hS := hS2
                  clear hS2
                  refine wpAnyZ_done (by kernel_rfl) ?_ _
                  go_wp2_with fail
                  go_meet
                  exact ⟨gc, gd, rfl, rfl, hS.swap⟩
              · go_simp
                have hS2 := hS.fresh 35
                refine hK.out _ _ (fun _ => hS2.tail) ?_
                clear hK K hS
                obtain ⟨gd, hn⟩ : ∃ g, Hid (g = v1.heap.size) := ⟨_, rfl⟩
                rw [← hn.out] at hS2 ⊢
                replace hz := hz.below ((Below.refl _ _).alloc (Nat.le_refl _) (.cells (vals 16 fun _ => 0).toArray 35))
                generalize World.alloc v1 (.cells (vals 16 fun _ => 0).toArray 35) = v2 at hS2 hz ⊢
                clear hn
                have hS := hS2
                clear hS2
                try simp only [Act.put, List.setIfInBounds_toArray, List.set_cons_zero, List.set_cons_succ]
                refine wpAnyZ_two (i := 6) (j := 7) (by kernel_rfl) rfl rfl (fun K hK => ?_) (fun K hK => ?_) 
                · go_simp
                  go_at_call 25
                  refine (sum_of h none (some ⟨gz, 0, none⟩) 0 k 0 k [] (List.replicate k 0) _ oh rfl (List.length_replicate ..) (Bin.nil _ _) (hz) Oct.nil HOZ.out (by decide) (by omega) (Nat.zero_le _) (Nat.le_refl _)).mono ?_
                  rintro e v3 ⟨rfl, hb8⟩
                  rw [← eO.out]
                  go_wp2_with fail
                  refine hK.out _ _ (fun _ => (hS.grow hb8).tail) ?_
                  replace hS := hS.grow hb8
                  replace hz := hz.below hb8
                  clear hK K hb8
                  try simp only [Act.put, List.setIfInBounds_toArray, List.set_cons_zero, List.set_cons_succ]
                  refine wpAnyZ_one (i := 7) (by kernel_rfl) rfl (fun K hK => ?_)
                  go_simp
                  have hS2 := hS.fresh 35
                  refine hK.out _ _ (fun _ => hS2.tail.tail) ?_
                  clear hK K hS
                  obtain ⟨gc, hn⟩ : ∃ g, Hid (g = v3.heap.size) := ⟨_, rfl⟩
                  rw [← hn.out] at hS2 ⊢
                  replace hz := hz.below ((Below.refl _ _).alloc (Nat.le_refl _) (.cells (vals 16 fun _ => 0).toArray 35))
                  generalize World.alloc v3 (.cells (vals 16 fun _ => 0).toArray 35) = v4 at hS2 hz ⊢
                  clear hn
                  have hS := hS2
                  clear hS2
                  try simp only [Act.put, List.setIfInBounds_toArray, List.set_cons_zero, List.set_cons_succ]
                  refine wpAnyZ_one (i := 9) (by kernel_rfl) rfl (fun K hK => ?_)
                  clear hz
                  have h0 := hS.at (g := gc) (x := fun _ => 0) (by simp)
                  have hT0 := h0.there
                  have hS2 := hS.put0 Z
                  rw [if_pos (by rfl)]
                  refine wp_store_arr _ _ _ rfl gc 16 Z rfl rfl hT0 hib ?_
                  try simp only [Act.put, List.setIfInBounds_toArray, List.set_cons_zero, List.set_cons_succ]
                  refine hK.out _ _ (fun _ => hS2.tail.tail) ?_
                  generalize World.setCells v4 gc 0 (vals 16 Z) = v5 at hS2 ⊢
                  clear hK K hS hT0 h0
                  have hS := hS2
                  clear hS2
                  refine wpAnyZ_one (i := 10) (by kernel_rfl) rfl (fun K hK => ?_)
                  have h0 := hS.at (g := gd) (x := fun _ => 0) (by simp)
                  have hT0 := h0.there
                  have hS2 := hS.put1 O
                  rw [if_pos (by rfl)]
                  refine wp_store_arr _ _ _ rfl gd 16 O rfl rfl hT0 hib ?_
                  try simp only [Act.put, List.setIfInBounds_toArray, List.set_cons_zero, List.set_cons_succ]
                  refine hK.out _ _ (fun _ => hS2.tail.tail) ?_
                  generalize World.setCells v5 gd 0 (vals 16 O) = v6 at hS2 ⊢
                  clear hK K hS hT0 h0
                  have hS := hS2
                  clear hS2
                  refine wpAnyZ_done (by kernel_rfl) ?_ _
                  go_wp2_with fail
                  go_meet
                  exact ⟨gc, gd, rfl, rfl, hS⟩
                · go_simp
                  have hS2 := hS.fresh 35
                  refine hK.out _ _ (fun _ => hS2.tail.tail) ?_
                  clear hK K hS
                  obtain ⟨gc, hn⟩ : ∃ g, Hid (g = v2.heap.size) := ⟨_, rfl⟩
                  rw [← hn.out] at hS2 ⊢
                  replace hz := hz.below ((Below.refl _ _).alloc (Nat.le_refl _) (.cells (vals 16 fun _ => 0).toArray 35))
                  generalize World.alloc v2 (.cells (vals 16 fun _ => 0).toArray 35) = v3 at hS2 hz ⊢
                  clear hn
                  have hS := hS2
                  clear hS2
                  try simp only [Act.put, List.setIfInBounds_toArray, List.set_cons_zero, List.set_cons_succ]
                  refine wpAnyZ_one (i := 6) (by kernel_rfl) rfl (fun K hK => ?_)
                  go_simp
                  go_at_call 25
                  refine (sum_of h none (some ⟨gz, 0, none⟩) 0 k 0 k [] (List.replicate k 0) _ oh rfl (List.length_replicate ..) (Bin.nil _ _) (hz) Oct.nil HOZ.out (by decide) (by omega) (Nat.zero_le _) (Nat.le_refl _)).mono ?_
                  rintro e v4 ⟨rfl, hb8⟩
                  rw [← eO.out]
                  go_wp2_with fail
                  refine hK.out _ _ (fun _ => (hS.grow hb8).tail.tail) ?_
                  replace hS := hS.grow hb8
                  replace hz := hz.below hb8
                  clear hK K hb8
                  try simp only [Act.put, List.setIfInBounds_toArray, List.set_cons_zero, List.set_cons_succ]
                  refine wpAnyZ_one (i := 9) (by kernel_rfl) rfl (fun K hK => ?_)
                  clear hz
                  have h0 := hS.at (g := gc) (x := fun _ => 0) (by simp)
                  have hT0 := h0.there
                  have hS2 := hS.put0 Z
                  rw [if_pos (by rfl)]
                  refine wp_store_arr _ _ _ rfl gc 16 Z rfl rfl hT0 hib ?_
                  try simp only [Act.put, List.setIfInBounds_toArray, List.set_cons_zero, List.set_cons_succ]
                  refine hK.out _ _ (fun _ => hS2.tail.tail) ?_
                  generalize World.setCells v4 gc 0 (vals 16 Z) = v5 at hS2 ⊢
                  clear hK K hS hT0 h0
                  have hS := hS2
                  clear hS2
                  refine wpAnyZ_one (i := 10) (by kernel_rfl) rfl (fun K hK => ?_)
                  have h0 := hS.at (g := gd) (x := fun _ => 0) (by simp)
                  have hT0 := h0.there
                  have hS2 := hS.put1 O
                  rw [if_pos (by rfl)]
                  refine wp_store_arr _ _ _ rfl gd 16 O rfl rfl hT0 hib ?_
                  try simp only [Act.put, List.setIfInBounds_toArray, List.set_cons_zero, List.set_cons_succ]
                  refine hK.out _ _ (fun _ => hS2.tail.tail) ?_
                  generalize World.setCells v5 gd 0 (vals 16 O) = v6 at hS2 ⊢
                  clear hK K hS hT0 h0
                  have hS := hS2
                  clear hS2
                  refine wpAnyZ_done (by kernel_rfl) ?_ _
                  go_wp2_with fail
                  go_meet
                  exact ⟨gc, gd, rfl, rfl, hS⟩
            · go_simp
              have hS2 := hS.fresh 35
              refine hK.out _ _ (fun _ => hS2.tail) ?_
              clear hK K hS
              obtain ⟨gc, hn⟩ : ∃ g, Hid (g = v0.heap.size) := ⟨_, rfl⟩
              rw [← hn.out] at hS2 ⊢
              replace hz := hz.below ((Below.refl _ _).alloc (Nat.le_refl _) (.cells (vals 16 fun _ => 0).toArray 35))
              generalize World.alloc v0 (.cells (vals 16 fun _ => 0).toArray 35) = v1 at hS2 hz ⊢
              clear hn
              have hS := hS2
              clear hS2
              try simp only [Act.put, List.setIfInBounds_toArray, List.set_cons_zero, List.set_cons_succ]
              refine wpAnyZ_two (i := 2) (j := 8) (by kernel_rfl) rfl rfl (fun K hK => ?_) (fun K hK => ?_) 
              · go_simp
                go_at_call 25
                refine (sum_of h none pv 0 cv 0 k [] (row FF k) _ oh rfl (row_length _ _) (Bin.nil _ _) (HV.out.below hS.below) Oct.nil HOR.out (by decide) (by omega) (Nat.zero_le _) (hcv)).mono ?_
                rintro e v2 ⟨rfl, hb8⟩
                rw [← eZ.out]
                go_wp2_with fail
                refine hK.out _ _ (fun _ => (hS.grow hb8).tail) ?_
                replace hS := hS.grow hb8
                replace hz := hz.below hb8
                clear hK K hb8
                try simp only [Act.put, List.setIfInBounds_toArray, List.set_cons_zero, List.set_cons_succ]
                refine wpAnyZ_two (i := 6) (j := 8) (by kernel_rfl) rfl rfl (fun K hK => ?_) (fun K hK => ?_) 
                · go_simp
                  go_at_call 25
                  refine (sum_of h none (some ⟨gz, 0, none⟩) 0 k 0 k [] (List.replicate k 0) _ oh rfl (List.length_replicate ..) (Bin.nil _ _) (hz) Oct.nil HOZ.out (by decide) (by omega) (Nat.zero_le _) (Nat.le_refl _)).mono ?_
                  rintro e v3 ⟨rfl, hb8⟩
                  rw [← eO.out]
                  go_wp2_with fail
                  refine hK.out _ _ (fun _ => (hS.grow hb8).tail) ?_
                  replace hS := hS.grow hb8
                  replace hz := hz.below hb8
                  clear hK K hb8
                  try simp only [Act.put, List.setIfInBounds_toArray, List.set_cons_zero, List.set_cons_succ]
                  refine wpAnyZ_one (i := 8) (by kernel_rfl) rfl (fun K hK => ?_)
                  go_simp
                  have hS2 := hS.fresh 35
                  refine hK.out _ _ (fun _ => hS2.tail.tail) ?_
                  clear hK K hS
                  obtain ⟨gd, hn⟩ : ∃ g, Hid (g = v3.heap.size) := ⟨_, rfl⟩
                  rw [← hn.out] at hS2 ⊢
                  replace hz := hz.below ((Below.refl _ _).alloc (Nat.le_refl _) (.cells (vals 16 fun _ => 0).toArray 35))
                  generalize World.alloc v3 (.cells (vals 16 fun _ => 0).toArray 35) = v4 at hS2 hz ⊢
                  clear hn
                  have hS := hS2
                  clear hS2
                  try simp only [Act.put, List.setIfInBounds_toArray, List.set_cons_zero, List.set_cons_succ]
                  refine wpAnyZ_one (i := 9) (by kernel_rfl) rfl (fun K hK => ?_)
                  clear hz
                  have h0 := hS.at (g := gc) (x := fun _ => 0) (by simp)
                  have hT0 := h0.there
                  have hS2 := hS.put1 Z
                  rw [if_pos (by rfl)]
                  refine wp_store_arr _ _ _ rfl gc 16 Z rfl rfl hT0 hib ?_
                  try simp only [Act.put, List.setIfInBounds_toArray, List.set_cons_zero, List.set_cons_succ]
                  refine hK.out _ _ (fun _ => hS2.tail.tail) ?_
                  generalize World.setCells v4 gc 0 (vals 16 Z) = v5 at hS2 ⊢
                  clear hK K hS hT0 h0
                  have hS := hS2
                  clear hS2
                  refine wpAnyZ_one (i := 10) (by kernel_rfl) rfl (fun K hK => ?_)
                  have h0 := hS.at (g := gd) (x := fun _ => 0) (by simp)
                  have hT0 := h0.there
                  have hS2 := hS.put0 O
                  rw [if_pos (by rfl)]
                  refine wp_store_arr _ _ _ rfl gd 16 O rfl rfl hT0 hib ?_
                  try simp only [Act.put, List.setIfInBounds_toArray, List.set_cons_zero, List.set_cons_succ]
                  refine hK.out _ _ (fun _ => hS2.tail.tail) ?_
                  generalize World.setCells v5 gd 0 (vals 16 O) = v6 at hS2 ⊢
                  clear hK K hS hT0 h0
                  have hS := hS2
                  clear hS2
                  refine wpAnyZ_done (by kernel_rfl) ?_ _
                  go_wp2_with fail
                  go_meet
                  exact ⟨gc, gd, rfl, rfl, hS.swap⟩
                · go_simp
                  have hS2 := hS.fresh 35
                  refine hK.out _ _ (fun _ => hS2.tail.tail) ?_
                  clear hK K hS
                  obtain ⟨gd, hn⟩ : ∃ g, Hid (g = v2.heap.size) := ⟨_, rfl⟩
                  rw [← hn.out] at hS2 ⊢
                  replace hz := hz.below ((Below.refl _ _).alloc (Nat.le_refl _) (.cells (vals 16 fun _ => 0).toArray 35))
                  generalize World.alloc v2 (.cells (vals 16 fun _ => 0).toArray 35) = v3 at hS2 hz ⊢
                  clear hn
                  have hS := hS2
                  clear hS2
                  try simp only [Act.put, List.setIfInBounds_toArray, List.set_cons_zero, List.set_cons_succ]
                  refine wpAnyZ_one (i := 6) (by kernel_rfl) rfl (fun K hK => ?_)
                  go_simp
                  go_at_call 25
                  refine (sum_of h none (some ⟨gz, 0, none⟩) 0 k 0 k [] (List.replicate k 0) _ oh rfl (List.length_replicate ..) (Bin.nil _ _) (hz) Oct.nil HOZ.out (by decide) (by omega) (Nat.zero_le _) (Nat.le_refl _)).mono ?_
                  rintro e v4 ⟨rfl, hb8⟩
                  rw [← eO.out]
                  go_wp2_with fail
                  refine hK.out _ _ (fun _ => (hS.grow hb8).tail.tail) ?_
                  replace hS := hS.grow hb8
                  replace hz := hz.below hb8
                  clear hK K hb8
                  try simp only [Act.put, List.setIfInBounds_toArray, List.set_cons_zero, List.set_cons_succ]
                  refine wpAnyZ_one (i := 9) (by kernel_rfl) rfl (fun K hK => ?_)
                  clear hz
                  have h0 := hS.at (g := gc) (x := fun _ => 0) (by simp)
                  have hT0 := h0.there
                  have hS2 := hS.put1 Z
                  rw [if_pos (by rfl)]
                  refine wp_store_arr _ _ _ rfl gc 16 Z rfl rfl hT0 hib ?_
                  try simp only [Act.put, List.setIfInBounds_toArray, List.set_cons_zero, List.set_cons_succ]
                  refine hK.out _ _ (fun _ => hS2.tail.tail) ?_
                  generalize World.setCells v4 gc 0 (vals 16 Z) = v5 at hS2 ⊢
                  clear hK K hS hT0 h0
                  have hS := hS2
                  clear hS2
                  refine wpAnyZ_one (i := 10) (by kernel_rfl) rfl (fun K hK => ?_)
                  have h0 := hS.at (g := gd) (x := fun _ => 0) (by simp)
                  have hT0 := h0.there
                  have hS2 := hS.put0 O
                  rw [if_pos (by rfl)]
                  refine wp_store_arr _ _ _ rfl gd 16 O rfl rfl hT0 hib ?_
                  try simp only [Act.put, List.setIfInBounds_toArray, List.set_cons_zero, List.set_cons_succ]
                  refine hK.out _ _ (fun _ => hS2.tail.tail) ?_
                  generalize World.setCells v5 gd 0 (vals 16 O) = v6 at hS2 ⊢
                  clear hK K hS hT0 h0
                  have hS := hS2
                  clear hS2
                  refine wpAnyZ_done (by kernel_rfl) ?_ _
                  go_wp2_with fail
                  go_meet
                  exact ⟨gc, gd, rfl, rfl, hS.swap⟩
              · go_simp
                have hS2 := hS.fresh 35
                refine hK.out _ _ (fun _ => hS2.tail.tail) ?_
                clear hK K hS
                obtain ⟨gd, hn⟩ : ∃ g, Hid (g = v1.heap.size) := ⟨_, rfl⟩
                rw [← hn.out] at hS2 ⊢
                replace hz := hz.below ((Below.refl _ _).alloc (Nat.le_refl _) (.cells (vals 16 fun _ => 0).toArray 35))
                generalize World.alloc v1 (.cells (vals 16 fun _ => 0).toArray 35) = v2 at hS2 hz ⊢
                clear hn
                have hS := hS2
                clear hS2
                try simp only [Act.put, List.setIfInBounds_toArray, List.set_cons_zero, List.set_cons_succ]
                refine wpAnyZ_one (i := 2) (by kernel_rfl) rfl (fun K hK => ?_)
                go_simp
                go_at_call 25
                refine (sum_of h none pv 0 cv 0 k [] (row FF k) _ oh rfl (row_length _ _) (Bin.nil _ _) (HV.out.below hS.below) Oct.nil HOR.out (by decide) (by omega) (Nat.zero_le _) (hcv)).mono ?_
                rintro e v3 ⟨rfl, hb8⟩
                rw [← eZ.out]
                go_wp2_with fail
                refine hK.out _ _ (fun _ => (hS.grow hb8).tail.tail) ?_
                replace hS := hS.grow hb8
                replace hz := hz.below hb8
                clear hK K hb8
                try simp only [Act.put, List.setIfInBounds_toArray, List.set_cons_zero, List.set_cons_succ]
                refine wpAnyZ_one (i := 6) (by kernel_rfl) rfl (fun K hK => ?_)
                go_simp
                go_at_call 25
                refine (sum_of h none (some ⟨gz, 0, none⟩) 0 k 0 k [] (List.replicate k 0) _ oh rfl (List.length_replicate ..) (Bin.nil _ _) (hz) Oct.nil HOZ.out (by decide) (by omega) (Nat.zero_le _) (Nat.le_refl _)).mono ?_
                rintro e v4 ⟨rfl, hb8⟩
                rw [← eO.out]
                go_wp2_with fail
                refine hK.out _ _ (fun _ => (hS.grow hb8).tail.tail) ?_
                replace hS := hS.grow hb8
                replace hz := hz.below hb8
                clear hK K hb8
                try simp only [Act.put, List.setIfInBounds_toArray, List.set_cons_zero, List.set_cons_succ]
                refine wpAnyZ_one (i := 9) (by kernel_rfl) rfl (fun K hK => ?_)
                clear hz
                have h0 := hS.at (g := gc) (x := fun _ => 0) (by simp)
                have hT0 := h0.there
                have hS2 := hS.put1 Z
                rw [if_pos (by rfl)]
                refine wp_store_arr _ _ _ rfl gc 16 Z rfl rfl hT0 hib ?_
                try simp only [Act.put, List.setIfInBounds_toArray, List.set_cons_zero, List.set_cons_succ]
                refine hK.out _ _ (fun _ => hS2.tail.tail) ?_
                generalize World.setCells v4 gc 0 (vals 16 Z) = v5 at hS2 ⊢
                clear hK K hS hT0 h0
                have hS := hS2
                clear hS2
                refine wpAnyZ_one (i := 10) (by kernel_rfl) rfl (fun K hK => ?_)
                have h0 := hS.at (g := gd) (x := fun _ => 0) (by simp)
                have hT0 := h0.there
                have hS2 := hS.put0 O
                rw [if_pos (by rfl)]
                refine wp_store_arr _ _ _ rfl gd 16 O rfl rfl hT0 hib ?_
                try simp only [Act.put, List.setIfInBounds_toArray, List.set_cons_zero, List.set_cons_succ]
                refine hK.out _ _ (fun _ => hS2.tail.tail) ?_
                generalize World.setCells v5 gd 0 (vals 16 O) = v6 at hS2 ⊢
                clear hK K hS hT0 h0
                have hS := hS2
                clear hS2
                refine wpAnyZ_done (by kernel_rfl) ?_ _
                go_wp2_with fail
                go_meet
                exact ⟨gc, gd, rfl, rfl, hS.swap⟩
            · go_simp
              have hS2 := hS.fresh 35
              refine hK.out _ _ (fun _ => hS2.tail) ?_
              clear hK K hS
              obtain ⟨gd, hn⟩ : ∃ g, Hid (g = v0.heap.size) := ⟨_, rfl⟩
              rw [← hn.out] at hS2 ⊢
              replace hz := hz.below ((Below.refl _ _).alloc (Nat.le_refl _) (.cells (vals 16 fun _ => 0).toArray 35))
              generalize World.alloc v0 (.cells (vals 16 fun _ => 0).toArray 35) = v1 at hS2 hz ⊢
              clear hn
              have hS := hS2
              clear hS2
              try simp only [Act.put, List.setIfInBounds_toArray, List.set_cons_zero, List.set_cons_succ]
              refine wpAnyZ_two (i := 2) (j := 7) (by kernel_rfl) rfl rfl (fun K hK => ?_) (fun K hK => ?_) 
              · go_simp
                go_at_call 25
                refine (sum_of h none pv 0 cv 0 k [] (row FF k) _ oh rfl (row_length _ _) (Bin.nil _ _) (HV.out.below hS.below) Oct.nil HOR.out (by decide) (by omega) (Nat.zero_le _) (hcv)).mono ?_
                rintro e v2 ⟨rfl, hb8⟩
                rw [← eZ.out]
                go_wp2_with fail
                refine hK.out _ _ (fun _ => (hS.grow hb8).tail) ?_
                replace hS := hS.grow hb8
                replace hz := hz.below hb8
                clear hK K hb8
                try simp only [Act.put, List.setIfInBounds_toArray, List.set_cons_zero, List.set_cons_succ]
                refine wpAnyZ_two (i := 6) (j := 7) (by kernel_rfl) rfl rfl (fun K hK => ?_) (fun K hK => ?_) 
                · go_simp
                  go_at_call 25
                  refine (sum_of h none (some ⟨gz, 0, none⟩) 0 k 0 k [] (List.replicate k 0) _ oh rfl (List.length_replicate ..) (Bin.nil _ _) (hz) Oct.nil HOZ.out (by decide) (by omega) (Nat.zero_le _) (Nat.le_refl _)).mono ?_
                  rintro e v3 ⟨rfl, hb8⟩
                  rw [← eO.out]
                  go_wp2_with fail
                  refine hK.out _ _ (fun _ => (hS.grow hb8).tail) ?_
                  replace hS := hS.grow hb8
                  replace hz := hz.below hb8
                  clear hK K hb8
                  try simp only [Act.put, List.setIfInBounds_toArray, List.set_cons_zero, List.set_cons_succ]
                  refine wpAnyZ_one (i := 7) (by kernel_rfl) rfl (fun K hK => ?_)
                  go_simp
                  have hS2 := hS.fresh 35
                  refine hK.out _ _ (fun _ => hS2.tail.tail) ?_
                  clear hK K hS
                  obtain ⟨gc, hn⟩ : ∃ g, Hid (g = v3.heap.size) := ⟨_, rfl⟩
                  rw [← hn.out] at hS2 ⊢
                  replace hz := hz.below ((Below.refl _ _).alloc (Nat.le_refl _) (.cells (vals 16 fun _ => 0).toArray 35))
                  generalize World.alloc v3 (.cells (vals 16 fun _ => 0).toArray 35) = v4 at hS2 hz ⊢
                  clear hn
                  have hS := hS2
                  clear hS2
                  try simp only [Act.put, List.setIfInBounds_toArray, List.set_cons_zero, List.set_cons_succ]
                  refine wpAnyZ_one (i := 9) (by kernel_rfl) rfl (fun K hK => ?_)
                  clear hz
                  have h0 := hS.at (g := gc) (x := fun _ => 0) (by simp)
                  have hT0 := h0.there
                  have hS2 := hS.put0 Z
                  rw [if_pos (by rfl)]
                  refine wp_store_arr _ _ _ rfl gc 16 Z rfl rfl hT0 hib ?_
                  try simp only [Act.put, List.setIfInBounds_toArray, List.set_cons_zero, List.set_cons_succ]
                  refine hK.out _ _ (fun _ => hS2.tail.tail) ?_
                  generalize World.setCells v4 gc 0 (vals 16 Z) = v5 at hS2 ⊢
                  clear hK K hS hT0 h0
                  have hS := hS2
                  clear hS2
                  refine wpAnyZ_one (i := 10) (by kernel_rfl) rfl (fun K hK => ?_)
                  have h0 := hS.at (g := gd) (x := fun _ => 0) (by simp)
                  have hT0 := h0.there
                  have hS2 := hS.put1 O
                  rw [if_pos (by rfl)]
                  refine wp_store_arr _ _ _ rfl gd 16 O rfl rfl hT0 hib ?_
                  try simp only [Act.put, List.setIfInBounds_toArray, List.set_cons_zero, List.set_cons_succ]
                  refine hK.out _ _ (fun _ => hS2.tail.tail) ?_
                  generalize World.setCells v5 gd 0 (vals 16 O) = v6 at hS2 ⊢
                  clear hK K hS hT0 h0
                  have hS := hS2
                  clear hS2
                  refine wpAnyZ_done (by kernel_rfl) ?_ _
                  go_wp2_with fail
                  go_meet
                  exact ⟨gc, gd, rfl, rfl, hS⟩
                · go_simp
                  have hS2 := hS.fresh 35
                  refine hK.out _ _ (fun _ => hS2.tail.tail) ?_
                  clear hK K hS
                  obtain ⟨gc, hn⟩ : ∃ g, Hid (g = v2.heap.size) := ⟨_, rfl⟩
                  rw [← hn.out] at hS2 ⊢
                  replace hz := hz.below ((Below.refl _ _).alloc (Nat.le_refl _) (.cells (vals 16 fun _ => 0).toArray 35))
                  generalize World.alloc v2 (.cells (vals 16 fun _ => 0).toArray 35) = v3 at hS2 hz ⊢
                  clear hn
                  have hS := hS2
                  clear hS2
                  try simp only [Act.put, List.setIfInBounds_toArray, List.set_cons_zero, List.set_cons_succ]
                  refine wpAnyZ_one (i := 6) (by kernel_rfl) rfl (fun K hK => ?_)
                  go_simp
                  go_at_call 25
                  refine (sum_of h none (some ⟨gz, 0, none⟩) 0 k 0 k [] (List.replicate k 0) _ oh rfl (List.length_replicate ..) (Bin.nil _ _) (hz) Oct.nil HOZ.out (by decide) (by omega) (Nat.zero_le _) (Nat.le_refl _)).mono ?_
                  rintro e v4 ⟨rfl, hb8⟩
                  rw [← eO.out]
                  go_wp2_with fail
                  refine hK.out _ _ (fun _ => (hS.grow hb8).tail.tail) ?_
                  replace hS := hS.grow hb8
                  replace hz := hz.below hb8
                  clear hK K hb8
                  try simp only [Act.put, List.setIfInBounds_toArray, List.set_cons_zero, List.set_cons_succ]
                  refine wpAnyZ_one (i := 9) (by kernel_rfl) rfl (fun K hK => ?_)
                  clear hz
                  have h0 := hS.at (g := gc) (x := fun _ => 0) (by simp)
                  have hT0 := h0.there
                  have hS2 := hS.put0 Z
                  rw [if_pos (by rfl)]
                  refine wp_store_arr _ _ _ rfl gc 16 Z rfl rfl hT0 hib ?_
                  try simp only [Act.put, List.setIfInBounds_toArray, List.set_cons_zero, List.set_cons_succ]
                  refine hK.out _ _ (fun _ => hS2.tail.tail) ?_
                  generalize World.setCells v4 gc 0 (vals 16 Z) = v5 at hS2 ⊢
                  clear hK K hS hT0 h0
                  have hS := hS2
                  clear hS2
                  refine wpAnyZ_one (i := 10) (by kernel_rfl) rfl (fun K hK => ?_)
                  have h0 := hS.at (g := gd) (x := fun _ => 0) (by simp)
                  have hT0 := h0.there
                  have hS2 := hS.put1 O
                  rw [if_pos (by rfl)]
                  refine wp_store_arr _ _ _ rfl gd 16 O rfl rfl hT0 hib ?_
                  try simp only [Act.put, List.setIfInBounds_toArray, List.set_cons_zero, List.set_cons_succ]
                  refine hK.out _ _ (fun _ => hS2.tail.tail) ?_
                  generalize World.setCells v5 gd 0 (vals 16 O) = v6 at hS2 ⊢
                  clear hK K hS hT0 h0
                  have hS := hS2
                  clear hS2
                  refine wpAnyZ_done (by kernel_rfl) ?_ _
                  go_wp2_with fail
                  go_meet
                  exact ⟨gc, gd, rfl, rfl, hS⟩
              · go_simp
                have hS2 := hS.fresh 35
                refine hK.out _ _ (fun _ => hS2.tail.tail) ?_
                clear hK K hS
                obtain ⟨gc, hn⟩ : ∃ g, Hid (g = v1.heap.size) := ⟨_, rfl⟩
                rw [← hn.out] at hS2 ⊢
                replace hz := hz.below ((Below.refl _ _).alloc (Nat.le_refl _) (.cells (vals 16 fun _ => 0).toArray 35))
                generalize World.alloc v1 (.cells (vals 16 fun _ => 0).toArray 35) = v2 at hS2 hz ⊢
                clear hn
                have hS := hS2
                clear hS2
                try simp only [Act.put, List.setIfInBounds_toArray, List.set_cons_zero, List.set_cons_succ]
                refine wpAnyZ_one (i := 2) (by kernel_rfl) rfl (fun K hK => ?_)
                go_simp
                go_at_call 25
                refine (sum_of h none pv 0 cv 0 k [] (row FF k) _ oh rfl (row_length _ _) (Bin.nil _ _) (HV.out.below hS.below) Oct.nil HOR.out (by decide) (by omega) (Nat.zero_le _) (hcv)).mono ?_
                rintro e v3 ⟨rfl, hb8⟩
                rw [← eZ.out]
                go_wp2_with fail
                refine hK.out _ _ (fun _ => (hS.grow hb8).tail.tail) ?_
                replace hS := hS.grow hb8
                replace hz := hz.below hb8
                clear hK K hb8
                try simp only [Act.put, List.setIfInBounds_toArray, List.set_cons_zero, List.set_cons_succ]
                refine wpAnyZ_one (i := 6) (by kernel_rfl) rfl (fun K hK => ?_)
                go_simp
                go_at_call 25
                refine (sum_of h none (some ⟨gz, 0, none⟩) 0 k 0 k [] (List.replicate k 0) _ oh rfl (List.length_replicate ..) (Bin.nil _ _) (hz) Oct.nil HOZ.out (by decide) (by omega) (Nat.zero_le _) (Nat.le_refl _)).mono ?_
                rintro e v4 ⟨rfl, hb8⟩
                rw [← eO.out]
                go_wp2_with fail
                refine hK.out _ _ (fun _ => (hS.grow hb8).tail.tail) ?_
                replace hS := hS.grow hb8
                replace hz := hz.below hb8
                clear hK K hb8
                try simp only [Act.put, List.setIfInBounds_toArray, List.set_cons_zero, List.set_cons_succ]
                refine wpAnyZ_one (i := 9) (by kernel_rfl) rfl (fun K hK => ?_)
                clear hz
                have h0 := hS.at (g := gc) (x := fun _ => 0) (by simp)
                have hT0 := h0.there
                have hS2 := hS.put0 Z
                rw [if_pos (by rfl)]
                refine wp_store_arr _ _ _ rfl gc 16 Z rfl rfl hT0 hib ?_
                try simp only [Act.put, List.setIfInBounds_toArray, List.set_cons_zero, List.set_cons_succ]
                refine hK.out _ _ (fun _ => hS2.tail.tail) ?_
                generalize World.setCells v4 gc 0 (vals 16 Z) = v5 at hS2 ⊢
                clear hK K hS hT0 h0
                have hS := hS2
                clear hS2
                refine wpAnyZ_one (i := 10) (by kernel_rfl) rfl (fun K hK => ?_)
                have h0 := hS.at (g := gd) (x := fun _ => 0) (by simp)
                have hT0 := h0.there
                have hS2 := hS.put1 O
                rw [if_pos (by rfl)]
                refine wp_store_arr _ _ _ rfl gd 16 O rfl rfl hT0 hib ?_
                try simp only [Act.put, List.setIfInBounds_toArray, List.set_cons_zero, List.set_cons_succ]
                refine hK.out _ _ (fun _ => hS2.tail.tail) ?_
                generalize World.setCells v5 gd 0 (vals 16 O) = v6 at hS2 ⊢
                clear hK K hS hT0 h0
                have hS := hS2
                clear hS2
                refine wpAnyZ_done (by kernel_rfl) ?_ _
                go_wp2_with fail
                go_meet
                exact ⟨gc, gd, rfl, rfl, hS⟩
          · go_simp
            have hS2 := hS.fresh 35
            refine hK.out _ _ (fun _ => hS2.tail) ?_
            clear hK K hS
            obtain ⟨gc, hn⟩ : ∃ g, Hid (g = w9.heap.size) := ⟨_, rfl⟩
            rw [← hn.out] at hS2 ⊢
            generalize World.alloc w9 (.cells (vals 16 fun _ => 0).toArray 35) = v0 at hS2 ⊢
            clear hn
            have hS := hS2
            clear hS2
            try simp only [Act.put, List.setIfInBounds_toArray, List.set_cons_zero, List.set_cons_succ]
            refine wpAnyZ_three (i := 2) (j := 5) (k := 8) (by kernel_rfl) rfl rfl rfl (fun K hK => ?_) (fun K hK => ?_) (fun K hK => ?_) 
            · go_simp
              go_at_call 25
              refine (sum_of h none pv 0 cv 0 k [] (row FF k) _ oh rfl (row_length _ _) (Bin.nil _ _) (HV.out.below hS.below) Oct.nil HOR.out (by decide) (by omega) (Nat.zero_le _) (hcv)).mono ?_
              rintro e v1 ⟨rfl, hb8⟩
              rw [← eZ.out]
              go_wp2_with fail
              refine hK.out _ _ (fun _ => (hS.grow hb8).tail) ?_
              replace hS := hS.grow hb8
              clear hK K hb8
              try simp only [Act.put, List.setIfInBounds_toArray, List.set_cons_zero, List.set_cons_succ]
              refine wpAnyZ_two (i := 5) (j := 8) (by kernel_rfl) rfl rfl (fun K hK => ?_) (fun K hK => ?_) 
              · refine step_make_full rfl _ _ 22 rfl i0 Try.underlying22 hi hz0 hz1 hz2 k rfl rfl (by omega) (World.heap v1).size (Nat.le_refl _) ?_
                intro v2 hO hg
                have hbm : Below (World.heap v1).size v1 v2 := (Below.refl _ _).grown hg (Nat.le_refl _) (by simp)
                have hS2 := hS.grow hbm
                have hz := hO.slice.2.2
                refine hK.out _ _ (fun _ => hS2.tail) ?_
                obtain ⟨gz, hn⟩ : ∃ g, Hid (g = (World.heap v1).size) := ⟨_, rfl⟩
                rw [← hn.out] at hz ⊢
                clear hn hK K hS hO hg hbm
                have hS := hS2
                clear hS2
                try simp only [Act.put, List.setIfInBounds_toArray, List.set_cons_zero, List.set_cons_succ]
                refine wpAnyZ_two (i := 6) (j := 8) (by kernel_rfl) rfl rfl (fun K hK => ?_) (fun K hK => ?_) 
                · go_simp
                  go_at_call 25
                  refine (sum_of h none (some ⟨gz, 0, none⟩) 0 k 0 k [] (List.replicate k 0) _ oh rfl (List.length_replicate ..) (Bin.nil _ _) (hz) Oct.nil HOZ.out (by decide) (by omega) (Nat.zero_le _) (Nat.le_refl _)).mono ?_
                  rintro e v3 ⟨rfl, hb8⟩
                  rw [← eO.out]
                  go_wp2_with fail
                  refine hK.out _ _ (fun _ => (hS.grow hb8).tail) ?_
                  replace hS := hS.grow hb8
                  replace hz := hz.below hb8
                  clear hK K hb8
                  try simp only [Act.put, List.setIfInBounds_toArray, List.set_cons_zero, List.set_cons_succ]
                  refine wpAnyZ_one (i := 8) (by kernel_rfl) rfl (fun K hK => ?_)
                  go_simp
                  have hS2 := hS.fresh 35
                  refine hK.out _ _ (fun _ => hS2.tail.tail) ?_
                  clear hK K hS
                  obtain ⟨gd, hn⟩ : ∃ g, Hid (g = v3.heap.size) := ⟨_, rfl⟩
                  rw [← hn.out] at hS2 ⊢
                  replace hz := hz.below ((Below.refl _ _).alloc (Nat.le_refl _) (.cells (vals 16 fun _ => 0).toArray 35))
                  generalize World.alloc v3 (.cells (vals 16 fun _ => 0).toArray 35) = v4 at hS2 hz ⊢
                  clear hn
                  have hS := hS2
                  clear hS2
                  try simp only [Act.put, List.setIfInBounds_toArray, List.set_cons_zero, List.set_cons_succ]
                  refine wpAnyZ_one (i := 9) (by kernel_rfl) rfl (fun K hK => ?_)
                  clear hz
                  have h0 := hS.at (g := gc) (x := fun _ => 0) (by simp)
                  have hT0 := h0.there
                  have hS2 := hS.put1 Z
                  rw [if_pos (by rfl)]
                  refine wp_store_arr _ _ _ rfl gc 16 Z rfl rfl hT0 hib ?_
                  try simp only [Act.put, List.setIfInBounds_toArray, List.set_cons_zero, List.set_cons_succ]
                  refine hK.out _ _ (fun _ => hS2.tail.tail) ?_
                  generalize World.setCells v4 gc 0 (vals 16 Z) = v5 at hS2 ⊢
                  clear hK K hS hT0 h0
                  have hS := hS2
                  clear hS2
                  refine wpAnyZ_one (i := 10) (by kernel_rfl) rfl (fun K hK => ?_)
                  have h0 := hS.at (g := gd) (x := fun _ => 0) (by simp)
                  have hT0 := h0.there
                  have hS2 := hS.put0 O
                  rw [if_pos (by rfl)]
                  refine wp_store_arr _ _ _ rfl gd 16 O rfl rfl hT0 hib ?_
                  try simp only [Act.put, List.setIfInBounds_toArray, List.set_cons_zero, List.set_cons_succ]
                  refine hK.out _ _ (fun _ => hS2.tail.tail) ?_
                  generalize World.setCells v5 gd 0 (vals 16 O) = v6 at hS2 ⊢
                  clear hK K hS hT0 h0
                  have hS := hS2
                  clear hS2
                  refine wpAnyZ_done (by kernel_rfl) ?_ _
                  go_wp2_with fail
                  go_meet
                  exact ⟨gc, gd, rfl, rfl, hS.swap⟩
                · go_simp
                  have hS2 := hS.fresh 35
                  refine hK.out _ _ (fun _ => hS2.tail.tail) ?_
                  clear hK K hS
                  obtain ⟨gd, hn⟩ : ∃ g, Hid (g = v2.heap.size) := ⟨_, rfl⟩
                  rw [← hn.out] at hS2 ⊢
                  replace hz := hz.below ((Below.refl _ _).alloc (Nat.le_refl _) (.cells (vals 16 fun _ => 0).toArray 35))
                  generalize World.alloc v2 (.cells (vals 16 fun _ => 0).toArray 35) = v3 at hS2 hz ⊢
                  clear hn
                  have hS := hS2
                  clear hS2
                  try simp only [Act.put, List.setIfInBounds_toArray, List.set_cons_zero, List.set_cons_succ]
                  refine wpAnyZ_one (i := 6) (by kernel_rfl) rfl (fun K hK => ?_)
                  go_simp
                  go_at_call 25
                  refine (sum_of h none (some ⟨gz, 0, none⟩) 0 k 0 k [] (List.replicate k 0) _ oh rfl (List.length_replicate ..) (Bin.nil _ _) (hz) Oct.nil HOZ.out (by decide) (by omega) (Nat.zero_le _) (Nat.le_refl _)).mono ?_
                  rintro e v4 ⟨rfl, hb8⟩
                  rw [← eO.out]
                  go_wp2_with fail
                  refine hK.out _ _ (fun _ => (hS.grow hb8).tail.tail) ?_
                  replace hS := hS.grow hb8
                  replace hz := hz.below hb8
                  clear hK K hb8
                  try simp only [Act.put, List.setIfInBounds_toArray, List.set_cons_zero, List.set_cons_succ]
                  refine wpAnyZ_one (i := 9) (by kernel_rfl) rfl (fun K hK => ?_)
                  clear hz
                  have h0 := hS.at (g := gc) (x := fun _ => 0) (by simp)
                  have hT0 := h0.there
                  have hS2 := hS.put1 Z
                  rw [if_pos (by rfl)]
                  refine wp_store_arr _ _ _ rfl gc 16 Z rfl rfl hT0 hib ?_
                  try simp only [Act.put, List.setIfInBounds_toArray, List.set_cons_zero, List.set_cons_succ]
                  refine hK.out _ _ (fun _ => hS2.tail.tail) ?_
                  generalize World.setCells v4 gc 0 (vals 16 Z) = v5 at hS2 ⊢
                  clear hK K hS hT0 h0
                  have hS := hS2
                  clear hS2
                  refine wpAnyZ_one (i := 10) (by kernel_rfl) rfl (fun K hK => ?_)
                  have h0 := hS.at (g := gd) (x := fun _ => 0) (by simp)
                  have hT0 := h0.there
                  have hS2 := hS.put0 O
                  rw [if_pos (by rfl)]
                  refine wp_store_arr _ _ _ rfl gd 16 O rfl rfl hT0 hib ?_
                  try simp only [Act.put, List.setIfInBounds_toArray, List.set_cons_zero, List.set_cons_succ]
                  refine hK.out _ _ (fun _ => hS2.tail.tail) ?_
                  generalize World.setCells v5 gd 0 (vals 16 O) = v6 at hS2 ⊢
                  clear hK K hS hT0 h0
                  have hS := hS2
                  clear hS2
                  refine wpAnyZ_done (by kernel_rfl) ?_ _
                  go_wp2_with fail
                  go_meet
                  exact ⟨gc, gd, rfl, rfl, hS.swap⟩
              · go_simp
                have hS2 := hS.fresh 35
                refine hK.out _ _ (fun _ => hS2.tail.tail) ?_
                clear hK K hS
                obtain ⟨gd, hn⟩ : ∃ g, Hid (g = v1.heap.size) := ⟨_, rfl⟩
                rw [← hn.out] at hS2 ⊢
                generalize World.alloc v1 (.cells (vals 16 fun _ => 0).toArray 35) = v2 at hS2 ⊢
                clear hn
                have hS := hS2
                clear hS2
                try simp only [Act.put, List.setIfInBounds_toArray, List.set_cons_zero, List.set_cons_succ]
                refine wpAnyZ_one (i := 5) (by kernel_rfl) rfl (fun K hK => ?_)
                refine step_make_full rfl _ _ 22 rfl i0 Try.underlying22 hi hz0 hz1 hz2 k rfl rfl (by omega) (World.heap v2).size (Nat.le_refl _) ?_
                intro v3 hO hg
                have hbm : Below (World.heap v2).size v2 v3 := (Below.refl _ _).grown hg (Nat.le_refl _) (by simp)
                have hS2 := hS.grow hbm
                have hz := hO.slice.2.2
                refine hK.out _ _ (fun _ => hS2.tail.tail) ?_
                obtain ⟨gz, hn⟩ : ∃ g, Hid (g = (World.heap v2).size) := ⟨_, rfl⟩
                rw [← hn.out] at hz ⊢
                clear hn hK K hS hO hg hbm
                have hS := hS2
                clear hS2
                try simp only [Act.put, List.setIfInBounds_toArray, List.set_cons_zero, List.set_cons_succ]
                refine wpAnyZ_one (i := 6) (by kernel_rfl) rfl (fun K hK => ?_)
                go_simp
                go_at_call 25
                refine (sum_of h none (some ⟨gz, 0, none⟩) 0 k 0 k [] (List.replicate k 0) _ oh rfl (List.length_replicate ..) (Bin.nil _ _) (hz) Oct.nil HOZ.out (by decide) (by omega) (Nat.zero_le _) (Nat.le_refl _)).mono ?_
                rintro e v4 ⟨rfl, hb8⟩
                rw [← eO.out]
                go_wp2_with fail
                refine hK.out _ _ (fun _ => (hS.grow hb8).tail.tail) ?_
                replace hS := hS.grow hb8
                replace hz := hz.below hb8
                clear hK K hb8
                try simp only [Act.put, List.setIfInBounds_toArray, List.set_cons_zero, List.set_cons_succ]
                refine wpAnyZ_one (i := 9) (by kernel_rfl) rfl (fun K hK => ?_)
                clear hz
                have h0 := hS.at (g := gc) (x := fun _ => 0) (by simp)
                have hT0 := h0.there
                have hS2 := hS.put1 Z
                rw [if_pos (by rfl)]
                refine wp_store_arr _ _ _ rfl gc 16 Z rfl rfl hT0 hib ?_
                try simp only [Act.put, List.setIfInBounds_toArray, List.set_cons_zero, List.set_cons_succ]
                refine hK.out _ _ (fun _ => hS2.tail.tail) ?_
                generalize World.setCells v4 gc 0 (vals 16 Z) = v5 at hS2 ⊢
                clear hK K hS hT0 h0
                have hS := hS2
                clear hS2
                refine wpAnyZ_one (i := 10) (by kernel_rfl) rfl (fun K hK => ?_)
                have h0 := hS.at (g := gd) (x := fun _ => 0) (by simp)
                have hT0 := h0.there
                have hS2 := hS.put0 O
                rw [if_pos (by rfl)]
                refine wp_store_arr _ _ _ rfl gd 16 O rfl rfl hT0 hib ?_
                try simp only [Act.put, List.setIfInBounds_toArray, List.set_cons_zero, List.set_cons_succ]
                refine hK.out _ _ (fun _ => hS2.tail.tail) ?_
                generalize World.setCells v5 gd 0 (vals 16 O) = v6 at hS2 ⊢
                clear hK K hS hT0 h0
                have hS := hS2
                clear hS2
                refine wpAnyZ_done (by kernel_rfl) ?_ _
                go_wp2_with fail
                go_meet
                exact ⟨gc, gd, rfl, rfl, hS.swap⟩
            · refine step_make_full rfl _ _ 22 rfl i0 Try.underlying22 hi hz0 hz1 hz2 k rfl rfl (by omega) (World.heap v0).size (Nat.le_refl _) ?_
              intro v1 hO hg
              have hbm : Below (World.heap v0).size v0 v1 := (Below.refl _ _).grown hg (Nat.le_refl _) (by simp)
              have hS2 := hS.grow hbm
              have hz := hO.slice.2.2
              refine hK.out _ _ (fun _ => hS2.tail) ?_
              obtain ⟨gz, hn⟩ : ∃ g, Hid (g = (World.heap v0).size) := ⟨_, rfl⟩
              rw [← hn.out] at hz ⊢
              clear hn hK K hS hO hg hbm
              have hS := hS2
              clear hS2
              try simp only [Act.put, List.setIfInBounds_toArray, List.set_cons_zero, List.set_cons_succ]
              refine wpAnyZ_two (i := 2) (j := 8) (by kernel_rfl) rfl rfl (fun K hK => ?_) (fun K hK => ?_) 
              · go_simp
                go_at_call 25
                refine (sum_of h none pv 0 cv 0 k [] (row FF k) _ oh rfl (row_length _ _) (Bin.nil _ _) (HV.out.below hS.below) Oct.nil HOR.out (by decide) (by omega) (Nat.zero_le _) (hcv)).mono ?_
                rintro e v2 ⟨rfl, hb8⟩
                rw [← eZ.out]
                go_wp2_with fail
                refine hK.out _ _ (fun _ => (hS.grow hb8).tail) ?_
                replace hS := hS.grow hb8
                replace hz := hz.below hb8
                clear hK K hb8
                try simp only [Act.put, List.setIfInBounds_toArray, List.set_cons_zero, List.set_cons_succ]
                refine wpAnyZ_two (i := 6) (j := 8) (by kernel_rfl) rfl rfl (fun K hK => ?_) (fun K hK => ?_) 
                · go_simp
                  go_at_call 25
                  refine (sum_of h none (some ⟨gz, 0, none⟩) 0 k 0 k [] (List.replicate k 0) _ oh rfl (List.length_replicate ..) (Bin.nil _ _) (hz) Oct.nil HOZ.out (by decide) (by omega) (Nat.zero_le _) (Nat.le_refl _)).mono ?_
                  rintro e v3 ⟨rfl, hb8⟩
                  rw [← eO.out]
                  go_wp2_with fail
                  refine hK.out _ _ (fun _ => (hS.grow hb8).tail) ?_
                  replace hS := hS.grow hb8
                  replace hz := hz.below hb8
                  clear hK K hb8
                  try simp only [Act.put, List.setIfInBounds_toArray, List.set_cons_zero, List.set_cons_succ]
                  refine wpAnyZ_one (i := 8) (by kernel_rfl) rfl (fun K hK => ?_)
                  go_simp
                  have hS2 := hS.fresh 35
                  refine hK.out _ _ (fun _ => hS2.tail.tail) ?_
                  clear hK K hS
                  obtain ⟨gd, hn⟩ : ∃ g, Hid (g = v3.heap.size) := ⟨_, rfl⟩
                  rw [← hn.out] at hS2 ⊢
                  replace hz := hz.below ((Below.refl _ _).alloc (Nat.le_refl _) (.cells (vals 16 fun _ => 0).toArray 35))
                  generalize World.alloc v3 (.cells (vals 16 fun _ => 0).toArray 35) = v4 at hS2 hz ⊢
                  clear hn
                  have hS := hS2
                  clear hS2
                  try simp only [Act.put, List.setIfInBounds_toArray, List.set_cons_zero, List.set_cons_succ]
                  refine wpAnyZ_one (i := 9) (by kernel_rfl) rfl (fun K hK => ?_)
                  clear hz
                  have h0 := hS.at (g := gc) (x := fun _ => 0) (by simp)
                  have hT0 := h0.there
                  have hS2 := hS.put1 Z
                  rw [if_pos (by rfl)]
                  refine wp_store_arr _ _ _ rfl gc 16 Z rfl rfl hT0 hib ?_
                  try simp only [Act.put, List.setIfInBounds_toArray, List.set_cons_zero, List.set_cons_succ]
                  refine hK.out _ _ (fun _ => hS2.tail.tail) ?_
                  generalize World.setCells v4 gc 0 (vals 16 Z) = v5 at hS2 ⊢
                  clear hK K hS hT0 h0
                  have hS := hS2
                  clear hS2
                  refine wpAnyZ_one (i := 10) (by kernel_rfl) rfl (fun K hK => ?_)
                  have h0 := hS.at (g := gd) (x := fun _ => 0) (by simp)
                  have hT0 := h0.there
                  have hS2 := hS.put0 O
                  rw [if_pos (by rfl)]
                  refine wp_store_arr _ _ _ rfl gd 16 O rfl rfl hT0 hib ?_
                  try simp only [Act.put, List.setIfInBounds_toArray, List.set_cons_zero, List.set_cons_succ]
                  refine hK.out _ _ (fun _ => hS2.tail.tail) ?_
                  generalize World.setCells v5 gd 0 (vals 16 O) = v6 at hS2 ⊢
                  clear hK K hS hT0 h0
                  have hS := hS2
                  clear hS2
                  refine wpAnyZ_done (by kernel_rfl) ?_ _
                  go_wp2_with fail
                  go_meet
                  exact ⟨gc, gd, rfl, rfl, hS.swap⟩
                · go_simp
                  have hS2 := hS.fresh 35
                  refine hK.out _ _ (fun _ => hS2.tail.tail) ?_
                  clear hK K hS
                  obtain ⟨gd, hn⟩ : ∃ g, Hid (g = v2.heap.size) := ⟨_, rfl⟩
                  rw [← hn.out] at hS2 ⊢
                  replace hz := hz.below ((Below.refl _ _).alloc (Nat.le_refl _) (.cells (vals 16 fun _ => 0).toArray 35))
                  generalize World.alloc v2 (.cells (vals 16 fun _ => 0).toArray 35) = v3 at hS2 hz ⊢
                  clear hn
                  have hS := hS2
                  clear hS2
                  try simp only [Act.put, List.setIfInBounds_toArray, List.set_cons_zero, List.set_cons_succ]
                  refine wpAnyZ_one (i := 6) (by kernel_rfl) rfl (fun K hK => ?_)
                  go_simp
                  go_at_call 25
                  refine (sum_of h none (some ⟨gz, 0, none⟩) 0 k 0 k [] (List.replicate k 0) _ oh rfl (List.length_replicate ..) (Bin.nil _ _) (hz) Oct.nil HOZ.out (by decide) (by omega) (Nat.zero_le _) (Nat.le_refl _)).mono ?_
                  rintro e v4 ⟨rfl, hb8⟩
                  rw [← eO.out]
                  go_wp2_with fail
                  refine hK.out _ _ (fun _ => (hS.grow hb8).tail.tail) ?_
                  replace hS := hS.grow hb8
                  replace hz := hz.below hb8
                  clear hK K hb8
                  try simp only [Act.put, List.setIfInBounds_toArray, List.set_cons_zero, List.set_cons_succ]
                  refine wpAnyZ_one (i := 9) (by kernel_rfl) rfl (fun K hK => ?_)
                  clear hz
                  have h0 := hS.at (g := gc) (x := fun _ => 0) (by simp)
                  have hT0 := h0.there
                  have hS2 := hS.put1 Z
                  rw [if_pos (by rfl)]
                  refine wp_store_arr _ _ _ rfl gc 16 Z rfl rfl hT0 hib ?_
                  try simp only [Act.put, List.setIfInBounds_toArray, List.set_cons_zero, List.set_cons_succ]
                  refine hK.out _ _ (fun _ => hS2.tail.tail) ?_
                  generalize World.setCells v4 gc 0 (vals 16 Z) = v5 at hS2 ⊢
                  clear hK K hS hT0 h0
                  have hS := hS2
                  clear hS2
                  refine wpAnyZ_one (i := 10) (by kernel_rfl) rfl (fun K hK => ?_)
                  have h0 := hS.at (g := gd) (x := fun _ => 0) (by simp)
                  have hT0 := h0.there
                  have hS2 := hS.put0 O
                  rw [if_pos (by rfl)]
                  refine wp_store_arr _ _ _ rfl gd 16 O rfl rfl hT0 hib ?_
                  try simp only [Act.put, List.setIfInBounds_toArray, List.set_cons_zero, List.set_cons_succ]
                  refine hK.out _ _ (fun _ => hS2.tail.tail) ?_
                  generalize World.setCells v5 gd 0 (vals 16 O) = v6 at hS2 ⊢
                  clear hK K hS hT0 h0
                  have hS := hS2
                  clear hS2
                  refine wpAnyZ_done (by kernel_rfl) ?_ _
                  go_wp2_with fail
                  go_meet
                  exact ⟨gc, gd, rfl, rfl, hS.swap⟩
              · go_simp
                have hS2 := hS.fresh 35
                refine hK.out _ _ (fun _ => hS2.tail.tail) ?_
                clear hK K hS
                obtain ⟨gd, hn⟩ : ∃ g, Hid (g = v1.heap.size) := ⟨_, rfl⟩
                rw [← hn.out] at hS2 ⊢
                replace hz := hz.below ((Below.refl _ _).alloc (Nat.le_refl _) (.cells (vals 16 fun _ => 0).toArray 35))
                generalize World.alloc v1 (.cells (vals 16 fun _ => 0).toArray 35) = v2 at hS2 hz ⊢
                clear hn
                have hS := hS2
                clear hS2
                try simp only [Act.put, List.setIfInBounds_toArray, List.set_cons_zero, List.set_cons_succ]
                refine wpAnyZ_one (i := 2) (by kernel_rfl) rfl (fun K hK => ?_)
                go_simp
                go_at_call 25
                refine (sum_of h none pv 0 cv 0 k [] (row FF k) _ oh rfl (row_length _ _) (Bin.nil _ _) (HV.out.below hS.below) Oct.nil HOR.out (by decide) (by omega) (Nat.zero_le _) (hcv)).mono ?_
                rintro e v3 ⟨rfl, hb8⟩
                rw [← eZ.out]
                go_wp2_with fail
                refine hK.out _ _ (fun _ => (hS.grow hb8).tail.tail) ?_
                replace hS := hS.grow hb8
                replace hz := hz.below hb8
                clear hK K hb8
                try simp only [Act.put, List.setIfInBounds_toArray, List.set_cons_zero, List.set_cons_succ]
                refine wpAnyZ_one (i := 6) (by kernel_rfl) rfl (fun K hK => ?_)
                go_simp
                go_at_call 25
                refine (sum_of h none (some ⟨gz, 0, none⟩) 0 k 0 k [] (List.replicate k 0) _ oh rfl (List.length_replicate ..) (Bin.nil _ _) (hz) Oct.nil HOZ.out (by decide) (by omega) (Nat.zero_le _) (Nat.le_refl _)).mono ?_
                rintro e v4 ⟨rfl, hb8⟩
                rw [← eO.out]
                go_wp2_with fail
                refine hK.out _ _ (fun _ => (hS.grow hb8).tail.tail) ?_
                replace hS := hS.grow hb8
                replace hz := hz.below hb8
                clear hK K hb8
                try simp only [Act.put, List.setIfInBounds_toArray, List.set_cons_zero, List.set_cons_succ]
                refine wpAnyZ_one (i := 9) (by kernel_rfl) rfl (fun K hK => ?_)
                clear hz
                have h0 := hS.at (g := gc) (x := fun _ => 0) (by simp)
                have hT0 := h0.there
                have hS2 := hS.put1 Z
                rw [if_pos (by rfl)]
                refine wp_store_arr _ _ _ rfl gc 16 Z rfl rfl hT0 hib ?_
                try simp only [Act.put, List.setIfInBounds_toArray, List.set_cons_zero, List.set_cons_succ]
                refine hK.out _ _ (fun _ => hS2.tail.tail) ?_
                generalize World.setCells v4 gc 0 (vals 16 Z) = v5 at hS2 ⊢
                clear hK K hS hT0 h0
                have hS := hS2
                clear hS2
                refine wpAnyZ_one (i := 10) (by kernel_rfl) rfl (fun K hK => ?_)
                have h0 := hS.at (g := gd) (x := fun _ => 0) (by simp)
                have hT0 := h0.there
                have hS2 := hS.put0 O
                rw [if_pos (by rfl)]
                refine wp_store_arr _ _ _ rfl gd 16 O rfl rfl hT0 hib ?_
                try simp only [Act.put, List.setIfInBounds_toArray, List.set_cons_zero, List.set_cons_succ]
                refine hK.out _ _ (fun _ => hS2.tail.tail) ?_
                generalize World.setCells v5 gd 0 (vals 16 O) = v6 at hS2 ⊢
                clear hK K hS hT0 h0
                have hS := hS2
                clear hS2
                refine wpAnyZ_done (by kernel_rfl) ?_ _
                go_wp2_with fail
                go_meet
                exact ⟨gc, gd, rfl, rfl, hS.swap⟩
            · go_simp
              have hS2 := hS.fresh 35
              refine hK.out _ _ (fun _ => hS2.tail.tail) ?_
              clear hK K hS
              obtain ⟨gd, hn⟩ : ∃ g, Hid (g = v0.heap.size) := ⟨_, rfl⟩
              rw [← hn.out] at hS2 ⊢
              generalize World.alloc v0 (.cells (vals 16 fun _ => 0).toArray 35) = v1 at hS2 ⊢
              clear hn
              have hS := hS2
              clear hS2
              try simp only [Act.put, List.setIfInBounds_toArray, List.set_cons_zero, List.set_cons_succ]
              refine wpAnyZ_two (i := 2) (j := 5) (by kernel_rfl) rfl rfl (fun K hK => ?_) (fun K hK => ?_) 
              · go_simp
                go_at_call 25
                refine (sum_of h none pv 0 cv 0 k [] (row FF k) _ oh rfl (row_length _ _) (Bin.nil _ _) (HV.out.below hS.below) Oct.nil HOR.out (by decide) (by omega) (Nat.zero_le _) (hcv)).mono ?_
                rintro e v2 ⟨rfl, hb8⟩
                rw [← eZ.out]
                go_wp2_with fail
                refine hK.out _ _ (fun _ => (hS.grow hb8).tail.tail) ?_
                replace hS := hS.grow hb8
                clear hK K hb8
                try simp only [Act.put, List.setIfInBounds_toArray, List.set_cons_zero, List.set_cons_succ]
                refine wpAnyZ_one (i := 5) (by kernel_rfl) rfl (fun K hK => ?_)
                refine step_make_full rfl _ _ 22 rfl i0 Try.underlying22 hi hz0 hz1 hz2 k rfl rfl (by omega) (World.heap v2).size (Nat.le_refl _) ?_
                intro v3 hO hg
                have hbm : Below (World.heap v2).size v2 v3 := (Below.refl _ _).grown hg (Nat.le_refl _) (by simp)
                have hS2 := hS.grow hbm
                have hz := hO.slice.2.2
                refine hK.out _ _ (fun _ => hS2.tail.tail) ?_
                obtain ⟨gz, hn⟩ : ∃ g, Hid (g = (World.heap v2).size) := ⟨_, rfl⟩
                rw [← hn.out] at hz ⊢
                clear hn hK K hS hO hg hbm
                have hS := hS2
                clear hS2
                try simp only [Act.put, List.setIfInBounds_toArray, List.set_cons_zero, List.set_cons_succ]
                refine wpAnyZ_one (i := 6) (by kernel_rfl) rfl (fun K hK => ?_)
                go_simp
                go_at_call 25
                refine (sum_of h none (some ⟨gz, 0, none⟩) 0 k 0 k [] (List.replicate k 0) _ oh rfl (List.length_replicate ..) (Bin.nil _ _) (hz) Oct.nil HOZ.out (by decide) (by omega) (Nat.zero_le _) (Nat.le_refl _)).mono ?_
                rintro e v4 ⟨rfl, hb8⟩
                rw [← eO.out]
                go_wp2_with fail
                refine hK.out _ _ (fun _ => (hS.grow hb8).tail.tail) ?_
                replace hS := hS.grow hb8
                replace hz := hz.below hb8
                clear hK K hb8
                try simp only [Act.put, List.setIfInBounds_toArray, List.set_cons_zero, List.set_cons_succ]
                refine wpAnyZ_one (i := 9) (by kernel_rfl) rfl (fun K hK => ?_)
                clear hz
                have h0 := hS.at (g := gc) (x := fun _ => 0) (by simp)
                have hT0 := h0.there
                have hS2 := hS.put1 Z
                rw [if_pos (by rfl)]
                refine wp_store_arr _ _ _ rfl gc 16 Z rfl rfl hT0 hib ?_
                try simp only [Act.put, List.setIfInBounds_toArray, List.set_cons_zero, List.set_cons_succ]
                refine hK.out _ _ (fun _ => hS2.tail.tail) ?_
                generalize World.setCells v4 gc 0 (vals 16 Z) = v5 at hS2 ⊢
                clear hK K hS hT0 h0
                have hS := hS2
                clear hS2
                refine wpAnyZ_one (i := 10) (by kernel_rfl) rfl (fun K hK => ?_)
                have h0 := hS.at (g := gd) (x := fun _ => 0) (by simp)
                have hT0 := h0.there
                have hS2 := hS.put0 O
                rw [if_pos (by rfl)]
                refine wp_store_arr _ _ _ rfl gd 16 O rfl rfl hT0 hib ?_
                try simp only [Act.put, List.setIfInBounds_toArray, List.set_cons_zero, List.set_cons_succ]
                refine hK.out _ _ (fun _ => hS2.tail.tail) ?_
                generalize World.setCells v5 gd 0 (vals 16 O) = v6 at hS2 ⊢
                clear hK K hS hT0 h0
                have hS := hS2
                clear hS2
                refine wpAnyZ_done (by kernel_rfl) ?_ _
                go_wp2_with fail
                go_meet
                exact ⟨gc, gd, rfl, rfl, hS.swap⟩
              · refine step_make_full rfl _ _ 22 rfl i0 Try.underlying22 hi hz0 hz1 hz2 k rfl rfl (by omega) (World.heap v1).size (Nat.le_refl _) ?_
                intro v2 hO hg
                have hbm : Below (World.heap v1).size v1 v2 := (Below.refl _ _).grown hg (Nat.le_refl _) (by simp)
                have hS2 := hS.grow hbm
                have hz := hO.slice.2.2
                refine hK.out _ _ (fun _ => hS2.tail.tail) ?_
                obtain ⟨gz, hn⟩ : ∃ g, Hid (g = (World.heap v1).size) := ⟨_, rfl⟩
                rw [← hn.out] at hz ⊢
                clear hn hK K hS hO hg hbm
                have hS := hS2
                clear hS2
                try simp only [Act.put, List.setIfInBounds_toArray, List.set_cons_zero, List.set_cons_succ]
                refine wpAnyZ_one (i := 2) (by kernel_rfl) rfl (fun K hK => ?_)
                go_simp
                go_at_call 25
                refine (sum_of h none pv 0 cv 0 k [] (row FF k) _ oh rfl (row_length _ _) (Bin.nil _ _) (HV.out.below hS.below) Oct.nil HOR.out (by decide) (by omega) (Nat.zero_le _) (hcv)).mono ?_
                rintro e v3 ⟨rfl, hb8⟩
                rw [← eZ.out]
                go_wp2_with fail
                refine hK.out _ _ (fun _ => (hS.grow hb8).tail.tail) ?_
                replace hS := hS.grow hb8
                replace hz := hz.below hb8
                clear hK K hb8
                try simp only [Act.put, List.setIfInBounds_toArray, List.set_cons_zero, List.set_cons_succ]
                refine wpAnyZ_one (i := 6) (by kernel_rfl) rfl (fun K hK => ?_)
                go_simp
                go_at_call 25
                refine (sum_of h none (some ⟨gz, 0, none⟩) 0 k 0 k [] (List.replicate k 0) _ oh rfl (List.length_replicate ..) (Bin.nil _ _) (hz) Oct.nil HOZ.out (by decide) (by omega) (Nat.zero_le _) (Nat.le_refl _)).mono ?_
                rintro e v4 ⟨rfl, hb8⟩
                rw [← eO.out]
                go_wp2_with fail
                refine hK.out _ _ (fun _ => (hS.grow hb8).tail.tail) ?_
                replace hS := hS.grow hb8
                replace hz := hz.below hb8
                clear hK K hb8
                try simp only [Act.put, List.setIfInBounds_toArray, List.set_cons_zero, List.set_cons_succ]
                refine wpAnyZ_one (i := 9) (by kernel_rfl) rfl (fun K hK => ?_)
                clear hz
                have h0 := hS.at (g := gc) (x := fun _ => 0) (by simp)
                have hT0 := h0.there
                have hS2 := hS.put1 Z
                rw [if_pos (by rfl)]
                refine wp_store_arr _ _ _ rfl gc 16 Z rfl rfl hT0 hib ?_
                try simp only [Act.put, List.setIfInBounds_toArray, List.set_cons_zero, List.set_cons_succ]
                refine hK.out _ _ (fun _ => hS2.tail.tail) ?_
                generalize World.setCells v4 gc 0 (vals 16 Z) = v5 at hS2 ⊢
                clear hK K hS hT0 h0
                have hS := hS2
                clear hS2
                refine wpAnyZ_one (i := 10) (by kernel_rfl) rfl (fun K hK => ?_)
                have h0 := hS.at (g := gd) (x := fun _ => 0) (by simp)
                have hT0 := h0.there
                have hS2 := hS.put0 O
                rw [if_pos (by rfl)]
                refine wp_store_arr _ _ _ rfl gd 16 O rfl rfl hT0 hib ?_
                try simp only [Act.put, List.setIfInBounds_toArray, List.set_cons_zero, List.set_cons_succ]
                refine hK.out _ _ (fun _ => hS2.tail.tail) ?_
                generalize World.setCells v5 gd 0 (vals 16 O) = v6 at hS2 ⊢
                clear hK K hS hT0 h0
                have hS := hS2
                clear hS2
                refine wpAnyZ_done (by kernel_rfl) ?_ _
                go_wp2_with fail
                go_meet
                exact ⟨gc, gd, rfl, rfl, hS.swap⟩
          · go_simp
            have hS2 := hS.fresh 35
            refine hK.out _ _ (fun _ => hS2.tail) ?_
            clear hK K hS
            obtain ⟨gd, hn⟩ : ∃ g, Hid (g = w9.heap.size) := ⟨_, rfl⟩
            rw [← hn.out] at hS2 ⊢
            generalize World.alloc w9 (.cells (vals 16 fun _ => 0).toArray 35) = v0 at hS2 ⊢
            clear hn
            have hS := hS2
            clear hS2
            try simp only [Act.put, List.setIfInBounds_toArray, List.set_cons_zero, List.set_cons_succ]
            refine wpAnyZ_three (i := 2) (j := 5) (k := 7) (by kernel_rfl) rfl rfl rfl (fun K hK => ?_) (fun K hK => ?_) (fun K hK => ?_) 
            · go_simp
              go_at_call 25
              refine (sum_of h none pv 0 cv 0 k [] (row FF k) _ oh rfl (row_length _ _) (Bin.nil _ _) (HV.out.below hS.below) Oct.nil HOR.out (by decide) (by omega) (Nat.zero_le _) (hcv)).mono ?_
              rintro e v1 ⟨rfl, hb8⟩
              rw [← eZ.out]
              go_wp2_with fail
              refine hK.out _ _ (fun _ => (hS.grow hb8).tail) ?_
              replace hS := hS.grow hb8
              clear hK K hb8
              try simp only [Act.put, List.setIfInBounds_toArray, List.set_cons_zero, List.set_cons_succ]
              refine wpAnyZ_two (i := 5) (j := 7) (by kernel_rfl) rfl rfl (fun K hK => ?_) (fun K hK => ?_) 
              · refine step_make_full rfl _ _ 22 rfl i0 Try.underlying22 hi hz0 hz1 hz2 k rfl rfl (by omega) (World.heap v1).size (Nat.le_refl _) ?_
                intro v2 hO hg
                have hbm : Below (World.heap v1).size v1 v2 := (Below.refl _ _).grown hg (Nat.le_refl _) (by simp)
                have hS2 := hS.grow hbm
                have hz := hO.slice.2.2
                refine hK.out _ _ (fun _ => hS2.tail) ?_
                obtain ⟨gz, hn⟩ : ∃ g, Hid (g = (World.heap v1).size) := ⟨_, rfl⟩
                rw [← hn.out] at hz ⊢
                clear hn hK K hS hO hg hbm
                have hS := hS2
                clear hS2
                try simp only [Act.put, List.setIfInBounds_toArray, List.set_cons_zero, List.set_cons_succ]
                refine wpAnyZ_two (i := 6) (j := 7) (by kernel_rfl) rfl rfl (fun K hK => ?_) (fun K hK => ?_) 
                · go_simp
                  go_at_call 25
                  refine (sum_of h none (some ⟨gz, 0, none⟩) 0 k 0 k [] (List.replicate k 0) _ oh rfl (List.length_replicate ..) (Bin.nil _ _) (hz) Oct.nil HOZ.out (by decide) (by omega) (Nat.zero_le _) (Nat.le_refl _)).mono ?_
                  rintro e v3 ⟨rfl, hb8⟩
                  rw [← eO.out]
                  go_wp2_with fail
                  refine hK.out _ _ (fun _ => (hS.grow hb8).tail) ?_
                  replace hS := hS.grow hb8
                  replace hz := hz.below hb8
                  clear hK K hb8
                  try simp only [Act.put, List.setIfInBounds_toArray, List.set_cons_zero, List.set_cons_succ]
                  refine wpAnyZ_one (i := 7) (by kernel_rfl) rfl (fun K hK => ?_)
                  go_simp
                  have hS2 := hS.fresh 35
                  refine hK.out _ _ (fun _ => hS2.tail.tail) ?_
                  clear hK K hS
                  obtain ⟨gc, hn⟩ : ∃ g, Hid (g = v3.heap.size) := ⟨_, rfl⟩
                  rw [← hn.out] at hS2 ⊢
                  replace hz := hz.below ((Below.refl _ _).alloc (Nat.le_refl _) (.cells (vals 16 fun _ => 0).toArray 35))
                  generalize World.alloc v3 (.cells (vals 16 fun _ => 0).toArray 35) = v4 at hS2 hz ⊢
                  clear hn
                  have hS := hS2
                  clear hS2
                  try simp only [Act.put, List.setIfInBounds_toArray, List.set_cons_zero, List.set_cons_succ]
                  refine wpAnyZ_one (i := 9) (by kernel_rfl) rfl (fun K hK => ?_)
                  clear hz
                  have h0 := hS.at (g := gc) (x := fun _ => 0) (by simp)
                  have hT0 := h0.there
                  have hS2 := hS.put0 Z
                  rw [if_pos (by rfl)]
                  refine wp_store_arr _ _ _ rfl gc 16 Z rfl rfl hT0 hib ?_
                  try simp only [Act.put, List.setIfInBounds_toArray, List.set_cons_zero, List.set_cons_succ]
                  refine hK.out _ _ (fun _ => hS2.tail.tail) ?_
                  generalize World.setCells v4 gc 0 (vals 16 Z) = v5 at hS2 ⊢
                  clear hK K hS hT0 h0
                  have hS := hS2
                  clear hS2
                  refine wpAnyZ_one (i := 10) (by kernel_rfl) rfl (fun K hK => ?_)
                  have h0 := hS.at (g := gd) (x := fun _ => 0) (by simp)
                  have hT0 := h0.there
                  have hS2 := hS.put1 O
                  rw [if_pos (by rfl)]
                  refine wp_store_arr _ _ _ rfl gd 16 O rfl rfl hT0 hib ?_
                  try simp only [Act.put, List.setIfInBounds_toArray, List.set_cons_zero, List.set_cons_succ]
                  refine hK.out _ _ (fun _ => hS2.tail.tail) ?_
                  generalize World.setCells v5 gd 0 (vals 16 O) = v6 at hS2 ⊢
                  clear hK K hS hT0 h0
                  have hS := hS2
                  clear hS2
                  refine wpAnyZ_done (by kernel_rfl) ?_ _
                  go_wp2_with fail
                  go_meet
                  exact ⟨gc, gd, rfl, rfl, hS⟩
                · go_simp
                  have hS2 := hS.fresh 35
                  refine hK.out _ _ (fun _ => hS2.tail.tail) ?_
                  clear hK K hS
                  obtain ⟨gc, hn⟩ : ∃ g, Hid (g = v2.heap.size) := ⟨_, rfl⟩
                  rw [← hn.out] at hS2 ⊢
                  replace hz := hz.below ((Below.refl _ _).alloc (Nat.le_refl _) (.cells (vals 16 fun _ => 0).toArray 35))
                  generalize World.alloc v2 (.cells (vals 16 fun _ => 0).toArray 35) = v3 at hS2 hz ⊢
                  clear hn
                  have hS := hS2
                  clear hS2
                  try simp only [Act.put, List.setIfInBounds_toArray, List.set_cons_zero, List.set_cons_succ]
                  refine wpAnyZ_one (i := 6) (by kernel_rfl) rfl (fun K hK => ?_)
                  go_simp
                  go_at_call 25
                  refine (sum_of h none (some ⟨gz, 0, none⟩) 0 k 0 k [] (List.replicate k 0) _ oh rfl (List.length_replicate ..) (Bin.nil _ _) (hz) Oct.nil HOZ.out (by decide) (by omega) (Nat.zero_le _) (Nat.le_refl _)).mono ?_
                  rintro e v4 ⟨rfl, hb8⟩
                  rw [← eO.out]
                  go_wp2_with fail
                  refine hK.out _ _ (fun _ => (hS.grow hb8).tail.tail) ?_
                  replace hS := hS.grow hb8
                  replace hz := hz.below hb8
                  clear hK K hb8
                  try simp only [Act.put, List.setIfInBounds_toArray, List.set_cons_zero, List.set_cons_succ]
                  refine wpAnyZ_one (i := 9) (by kernel_rfl) rfl (fun K hK => ?_)
                  clear hz
                  have h0 := hS.at (g := gc) (x := fun _ => 0) (by simp)
                  have hT0 := h0.there
                  have hS2 := hS.put0 Z
                  rw [if_pos (by rfl)]
                  refine wp_store_arr _ _ _ rfl gc 16 Z rfl rfl hT0 hib ?_
                  try simp only [Act.put, List.setIfInBounds_toArray, List.set_cons_zero, List.set_cons_succ]
                  refine hK.out _ _ (fun _ => hS2.tail.tail) ?_
                  generalize World.setCells v4 gc 0 (vals 16 Z) = v5 at hS2 ⊢
                  clear hK K hS hT0 h0
                  have hS := hS2
                  clear hS2
                  refine wpAnyZ_one (i := 10) (by kernel_rfl) rfl (fun K hK => ?_)
                  have h0 := hS.at (g := gd) (x := fun _ => 0) (by simp)
                  have hT0 := h0.there
                  have hS2 := hS.put1 O
                  rw [if_pos (by rfl)]
                  refine wp_store_arr _ _ _ rfl gd 16 O rfl rfl hT0 hib ?_
                  try simp only [Act.put, List.setIfInBounds_toArray, List.set_cons_zero, List.set_cons_succ]
                  refine hK.out _ _ (fun _ => hS2.tail.tail) ?_
                  generalize World.setCells v5 gd 0 (vals 16 O) = v6 at hS2 ⊢
                  clear hK K hS hT0 h0
                  have hS := hS2
                  clear hS2
                  refine wpAnyZ_done (by kernel_rfl) ?_ _
                  go_wp2_with fail
                  go_meet
                  exact ⟨gc, gd, rfl, rfl, hS⟩
              · go_simp
                have hS2 := hS.fresh 35
                refine hK.out _ _ (fun _ => hS2.tail.tail) ?_
                clear hK K hS
                obtain ⟨gc, hn⟩ : ∃ g, Hid (g = v1.heap.size) := ⟨_, rfl⟩
                rw [← hn.out] at hS2 ⊢
                generalize World.alloc v1 (.cells (vals 16 fun _ => 0).toArray 35) = v2 at hS2 ⊢
                clear hn
                have hS := hS2
                clear hS2
                try simp only [Act.put, List.setIfInBounds_toArray, List.set_cons_zero, List.set_cons_succ]
                refine wpAnyZ_one (i := 5) (by kernel_rfl) rfl (fun K hK => ?_)
                refine step_make_full rfl _ _ 22 rfl i0 Try.underlying22 hi hz0 hz1 hz2 k rfl rfl (by omega) (World.heap v2).size (Nat.le_refl _) ?_
                intro v3 hO hg
                have hbm : Below (World.heap v2).size v2 v3 := (Below.refl _ _).grown hg (Nat.le_refl _) (by simp)
                have hS2 := hS.grow hbm
                have hz := hO.slice.2.2
                refine hK.out _ _ (fun _ => hS2.tail.tail) ?_
                obtain ⟨gz, hn⟩ : ∃ g, Hid (g = (World.heap v2).size) := ⟨_, rfl⟩
                rw [← hn.out] at hz ⊢
                clear hn hK K hS hO hg hbm
                have hS := hS2
                clear hS2
                try simp only [Act.put, List.setIfInBounds_toArray, List.set_cons_zero, List.set_cons_succ]
                refine wpAnyZ_one (i := 6) (by kernel_rfl) rfl (fun K hK => ?_)
                go_simp
                go_at_call 25
                refine (sum_of h none (some ⟨gz, 0, none⟩) 0 k 0 k [] (List.replicate k 0) _ oh rfl (List.length_replicate ..) (Bin.nil _ _) (hz) Oct.nil HOZ.out (by decide) (by omega) (Nat.zero_le _) (Nat.le_refl _)).mono ?_
                rintro e v4 ⟨rfl, hb8⟩
                rw [← eO.out]
                go_wp2_with fail
                refine hK.out _ _ (fun _ => (hS.grow hb8).tail.tail) ?_
                replace hS := hS.grow hb8
                replace hz := hz.below hb8
                clear hK K hb8
                try simp only [Act.put, List.setIfInBounds_toArray, List.set_cons_zero, List.set_cons_succ]
                refine wpAnyZ_one (i := 9) (by kernel_rfl) rfl (fun K hK => ?_)
                clear hz
                have h0 := hS.at (g := gc) (x := fun _ => 0) (by simp)
                have hT0 := h0.there
                have hS2 := hS.put0 Z
                rw [if_pos (by rfl)]
                refine wp_store_arr _ _ _ rfl gc 16 Z rfl rfl hT0 hib ?_
                try simp only [Act.put, List.setIfInBounds_toArray, List.set_cons_zero, List.set_cons_succ]
                refine hK.out _ _ (fun _ => hS2.tail.tail) ?_
                generalize World.setCells v4 gc 0 (vals 16 Z) = v5 at hS2 ⊢
                clear hK K hS hT0 h0
                have hS := hS2
                clear hS2
                refine wpAnyZ_one (i := 10) (by kernel_rfl) rfl (fun K hK => ?_)
                have h0 := hS.at (g := gd) (x := fun _ => 0) (by simp)
                have hT0 := h0.there
                have hS2 := hS.put1 O
                rw [if_pos (by rfl)]
                refine wp_store_arr _ _ _ rfl gd 16 O rfl rfl hT0 hib ?_
                try simp only [Act.put, List.setIfInBounds_toArray, List.set_cons_zero, List.set_cons_succ]
                refine hK.out _ _ (fun _ => hS2.tail.tail) ?_
                generalize World.setCells v5 gd 0 (vals 16 O) = v6 at hS2 ⊢
                clear hK K hS hT0 h0
                have hS := hS2
                clear hS2
                refine wpAnyZ_done (by kernel_rfl) ?_ _
                go_wp2_with fail
                go_meet
                exact ⟨gc, gd, rfl, rfl, hS⟩
            · refine step_make_full rfl _ _ 22 rfl i0 Try.underlying22 hi hz0 hz1 hz2 k rfl rfl (by omega) (World.heap v0).size (Nat.le_refl _) ?_
              intro v1 hO hg
              have hbm : Below (World.heap v0).size v0 v1 := (Below.refl _ _).grown hg (Nat.le_refl _) (by simp)
              have hS2 := hS.grow hbm
              have hz := hO.slice.2.2
              refine hK.out _ _ (fun _ => hS2.tail) ?_
              obtain ⟨gz, hn⟩ : ∃ g, Hid (g = (World.heap v0).size) := ⟨_, rfl⟩
              rw [← hn.out] at hz ⊢
              clear hn hK K hS hO hg hbm
              have hS := hS2
              clear hS2
              try simp only [Act.put, List.setIfInBounds_toArray, List.set_cons_zero, List.set_cons_succ]
              refine wpAnyZ_two (i := 2) (j := 7) (by kernel_rfl) rfl rfl (fun K hK => ?_) (fun K hK => ?_) 
              · go_simp
                go_at_call 25
                refine (sum_of h none pv 0 cv 0 k [] (row FF k) _ oh rfl (row_length _ _) (Bin.nil _ _) (HV.out.below hS.below) Oct.nil HOR.out (by decide) (by omega) (Nat.zero_le _) (hcv)).mono ?_
                rintro e v2 ⟨rfl, hb8⟩
                rw [← eZ.out]
                go_wp2_with fail
                refine hK.out _ _ (fun _ => (hS.grow hb8).tail) ?_
                replace hS := hS.grow hb8
                replace hz := hz.below hb8
                clear hK K hb8
                try simp only [Act.put, List.setIfInBounds_toArray, List.set_cons_zero, List.set_cons_succ]
                refine wpAnyZ_two (i := 6) (j := 7) (by kernel_rfl) rfl rfl (fun K hK => ?_) (fun K hK => ?_) 
                · go_simp
                  go_at_call 25
                  refine (sum_of h none (some ⟨gz, 0, none⟩) 0 k 0 k [] (List.replicate k 0) _ oh rfl (List.length_replicate ..) (Bin.nil _ _) (hz) Oct.nil HOZ.out (by decide) (by omega) (Nat.zero_le _) (Nat.le_refl _)).mono ?_
                  rintro e v3 ⟨rfl, hb8⟩
                  rw [← eO.out]
                  go_wp2_with fail
                  refine hK.out _ _ (fun _ => (hS.grow hb8).tail) ?_
                  replace hS := hS.grow hb8
                  replace hz := hz.below hb8
                  clear hK K hb8
                  try simp only [Act.put, List.setIfInBounds_toArray, List.set_cons_zero, List.set_cons_succ]
                  refine wpAnyZ_one (i := 7) (by kernel_rfl) rfl (fun K hK => ?_)
                  go_simp
                  have hS2 := hS.fresh 35
                  refine hK.out _ _ (fun _ => hS2.tail.tail) ?_
                  clear hK K hS
                  obtain ⟨gc, hn⟩ : ∃ g, Hid (g = v3.heap.size) := ⟨_, rfl⟩
                  rw [← hn.out] at hS2 ⊢
                  replace hz := hz.below ((Below.refl _ _).alloc (Nat.le_refl _) (.cells (vals 16 fun _ => 0).toArray 35))
                  generalize World.alloc v3 (.cells (vals 16 fun _ => 0).toArray 35) = v4 at hS2 hz ⊢
                  clear hn
                  have hS := hS2
                  clear hS2
                  try simp only [Act.put, List.setIfInBounds_toArray, List.set_cons_zero, List.set_cons_succ]
                  refine wpAnyZ_one (i := 9) (by kernel_rfl) rfl (fun K hK => ?_)
                  clear hz
                  have h0 := hS.at (g := gc) (x := fun _ => 0) (by simp)
                  have hT0 := h0.there
                  have hS2 := hS.put0 Z
                  rw [if_pos (by rfl)]
                  refine wp_store_arr _ _ _ rfl gc 16 Z rfl rfl hT0 hib ?_
                  try simp only [Act.put, List.setIfInBounds_toArray, List.set_cons_zero, List.set_cons_succ]
                  refine hK.out _ _ (fun _ => hS2.tail.tail) ?_
                  generalize World.setCells v4 gc 0 (vals 16 Z) = v5 at hS2 ⊢
                  clear hK K hS hT0 h0
                  have hS := hS2
                  clear hS2
                  refine wpAnyZ_one (i := 10) (by kernel_rfl) rfl (fun K hK => ?_)
                  have h0 := hS.at (g := gd) (x := fun _ => 0) (by simp)
                  have hT0 := h0.there
                  have hS2 := hS.put1 O
                  rw [if_pos (by rfl)]
                  refine wp_store_arr _ _ _ rfl gd 16 O rfl rfl hT0 hib ?_
                  try simp only [Act.put, List.setIfInBounds_toArray, List.set_cons_zero, List.set_cons_succ]
                  refine hK.out _ _ (fun _ => hS2.tail.tail) ?_
                  generalize World.setCells v5 gd 0 (vals 16 O) = v6 at hS2 ⊢
                  clear hK K hS hT0 h0
                  have hS := hS2
                  clear hS2
                  refine wpAnyZ_done (by kernel_rfl) ?_ _
                  go_wp2_with fail
                  go_meet
                  exact ⟨gc, gd, rfl, rfl, hS⟩
                · go_simp
                  have hS2 := hS.fresh 35
                  refine hK.out _ _ (fun _ => hS2.tail.tail) ?_
                  clear hK K hS
                  obtain ⟨gc, hn⟩ : ∃ g, Hid (g = v2.heap.size) := ⟨_, rfl⟩
                  rw [← hn.out] at hS2 ⊢
                  replace hz := hz.below ((Below.refl _ _).alloc (Nat.le_refl _) (.cells (vals 16 fun _ => 0).toArray 35))
                  generalize World.alloc v2 (.cells (vals 16 fun _ => 0).toArray 35) = v3 at hS2 hz ⊢
                  clear hn
                  have hS := hS2
                  clear hS2
                  try simp only [Act.put, List.setIfInBounds_toArray, List.set_cons_zero, List.set_cons_succ]
                  refine wpAnyZ_one (i := 6) (by kernel_rfl) rfl (fun K hK => ?_)
                  go_simp
                  go_at_call 25
                  refine (sum_of h none (some ⟨gz, 0, none⟩) 0 k 0 k [] (List.replicate k 0) _ oh rfl (List.length_replicate ..) (Bin.nil _ _) (hz) Oct.nil HOZ.out (by decide) (by omega) (Nat.zero_le _) (Nat.le_refl _)).mono ?_
                  rintro e v4 ⟨rfl, hb8⟩
                  rw [← eO.out]
                  go_wp2_with fail
                  refine hK.out _ _ (fun _ => (hS.grow hb8).tail.tail) ?_
                  replace hS := hS.grow hb8
                  replace hz := hz.below hb8
                  clear hK K hb8
                  try simp only [Act.put, List.setIfInBounds_toArray, List.set_cons_zero, List.set_cons_succ]
                  refine wpAnyZ_one (i := 9) (by kernel_rfl) rfl (fun K hK => ?_)
                  clear hz
                  have h0 := hS.at (g := gc) (x := fun _ => 0) (by simp)
                  have hT0 := h0.there
                  have hS2 := hS.put0 Z
                  rw [if_pos (by rfl)]
                  refine wp_store_arr _ _ _ rfl gc 16 Z rfl rfl hT0 hib ?_
                  try simp only [Act.put, List.setIfInBounds_toArray, List.set_cons_zero, List.set_cons_succ]
                  refine hK.out _ _ (fun _ => hS2.tail.tail) ?_
                  generalize World.setCells v4 gc 0 (vals 16 Z) = v5 at hS2 ⊢
                  clear hK K hS hT0 h0
                  have hS := hS2
                  clear hS2
                  refine wpAnyZ_one (i := 10) (by kernel_rfl) rfl (fun K hK => ?_)
                  have h0 := hS.at (g := gd) (x := fun _ => 0) (by simp)
                  have hT0 := h0.there
                  have hS2 := hS.put1 O
                  rw [if_pos (by rfl)]
                  refine wp_store_arr _ _ _ rfl gd 16 O rfl rfl hT0 hib ?_
                  try simp only [Act.put, List.setIfInBounds_toArray, List.set_cons_zero, List.set_cons_succ]
                  refine hK.out _ _ (fun _ => hS2.tail.tail) ?_
                  generalize World.setCells v5 gd 0 (vals 16 O) = v6 at hS2 ⊢
                  clear hK K hS hT0 h0
                  have hS := hS2
                  clear hS2
                  refine wpAnyZ_done (by kernel_rfl) ?_ _
                  go_wp2_with fail
                  go_meet
                  exact ⟨gc, gd, rfl, rfl, hS⟩
              · go_simp
                have hS2 := hS.fresh 35
                refine hK.out _ _ (fun _ => hS2.tail.tail) ?_
                clear hK K hS
                obtain ⟨gc, hn⟩ : ∃ g, Hid (g = v1.heap.size) := ⟨_, rfl⟩
                rw [← hn.out] at hS2 ⊢
                replace hz := hz.below ((Below.refl _ _).alloc (Nat.le_refl _) (.cells (vals 16 fun _ => 0).toArray 35))
                generalize World.alloc v1 (.cells (vals 16 fun _ => 0).toArray 35) = v2 at hS2 hz ⊢
                clear hn
                have hS := hS2
                clear hS2
                try simp only [Act.put, List.setIfInBounds_toArray, List.set_cons_zero, List.set_cons_succ]
                refine wpAnyZ_one (i := 2) (by kernel_rfl) rfl (fun K hK => ?_)
                go_simp
                go_at_call 25
                refine (sum_of h none pv 0 cv 0 k [] (row FF k) _ oh rfl (row_length _ _) (Bin.nil _ _) (HV.out.below hS.below) Oct.nil HOR.out (by decide) (by omega) (Nat.zero_le _) (hcv)).mono ?_
                rintro e v3 ⟨rfl, hb8⟩
                rw [← eZ.out]
                go_wp2_with fail
                refine hK.out _ _ (fun _ => (hS.grow hb8).tail.tail) ?_
                replace hS := hS.grow hb8
                replace hz := hz.below hb8
                clear hK K hb8
                try simp only [Act.put, List.setIfInBounds_toArray, List.set_cons_zero, List.set_cons_succ]
                refine wpAnyZ_one (i := 6) (by kernel_rfl) rfl (fun K hK => ?_)
                go_simp
                go_at_call 25
                refine (sum_of h none (some ⟨gz, 0, none⟩) 0 k 0 k [] (List.replicate k 0) _ oh rfl (List.length_replicate ..) (Bin.nil _ _) (hz) Oct.nil HOZ.out (by decide) (by omega) (Nat.zero_le _) (Nat.le_refl _)).mono ?_
                rintro e v4 ⟨rfl, hb8⟩
                rw [← eO.out]
                go_wp2_with fail
                refine hK.out _ _ (fun _ => (hS.grow hb8).tail.tail) ?_
                replace hS := hS.grow hb8
                replace hz := hz.below hb8
                clear hK K hb8
                try simp only [Act.put, List.setIfInBounds_toArray, List.set_cons_zero, List.set_cons_succ]
                refine wpAnyZ_one (i := 9) (by kernel_rfl) rfl (fun K hK => ?_)
                clear hz
                have h0 := hS.at (g := gc) (x := fun _ => 0) (by simp)
                have hT0 := h0.there
                have hS2 := hS.put0 Z
                rw [if_pos (by rfl)]
                refine wp_store_arr _ _ _ rfl gc 16 Z rfl rfl hT0 hib ?_
                try simp only [Act.put, List.setIfInBounds_toArray, List.set_cons_zero, List.set_cons_succ]
                refine hK.out _ _ (fun _ => hS2.tail.tail) ?_
                generalize World.setCells v4 gc 0 (vals 16 Z) = v5 at hS2 ⊢
                clear hK K hS hT0 h0
                have hS := hS2
                clear hS2
                refine wpAnyZ_one (i := 10) (by kernel_rfl) rfl (fun K hK => ?_)
                have h0 := hS.at (g := gd) (x := fun _ => 0) (by simp)
                have hT0 := h0.there
                have hS2 := hS.put1 O
                rw [if_pos (by rfl)]
                refine wp_store_arr _ _ _ rfl gd 16 O rfl rfl hT0 hib ?_
                try simp only [Act.put, List.setIfInBounds_toArray, List.set_cons_zero, List.set_cons_succ]
                refine hK.out _ _ (fun _ => hS2.tail.tail) ?_
                generalize World.setCells v5 gd 0 (vals 16 O) = v6 at hS2 ⊢
                clear hK K hS hT0 h0
                have hS := hS2
                clear hS2
                refine wpAnyZ_done (by kernel_rfl) ?_ _
                go_wp2_with fail
                go_meet
                exact ⟨gc, gd, rfl, rfl, hS⟩
            · go_simp
              have hS2 := hS.fresh 35
              refine hK.out _ _ (fun _ => hS2.tail.tail) ?_
              clear hK K hS
              obtain ⟨gc, hn⟩ : ∃ g, Hid (g = v0.heap.size) := ⟨_, rfl⟩
              rw [← hn.out] at hS2 ⊢
              generalize World.alloc v0 (.cells (vals 16 fun _ => 0).toArray 35) = v1 at hS2 ⊢
              clear hn
              have hS := hS2
              clear hS2
              try simp only [Act.put, List.setIfInBounds_toArray, List.set_cons_zero, List.set_cons_succ]
              refine wpAnyZ_two (i := 2) (j := 5) (by kernel_rfl) rfl rfl (fun K hK => ?_) (fun K hK => ?_) 
              · go_simp
                go_at_call 25
                refine (sum_of h none pv 0 cv 0 k [] (row FF k) _ oh rfl (row_length _ _) (Bin.nil _ _) (HV.out.below hS.below) Oct.nil HOR.out (by decide) (by omega) (Nat.zero_le _) (hcv)).mono ?_
                rintro e v2 ⟨rfl, hb8⟩
                rw [← eZ.out]
                go_wp2_with fail
                refine hK.out _ _ (fun _ => (hS.grow hb8).tail.tail) ?_
                replace hS := hS.grow hb8
                clear hK K hb8
                try simp only [Act.put, List.setIfInBounds_toArray, List.set_cons_zero, List.set_cons_succ]
                refine wpAnyZ_one (i := 5) (by kernel_rfl) rfl (fun K hK => ?_)
                refine step_make_full rfl _ _ 22 rfl i0 Try.underlying22 hi hz0 hz1 hz2 k rfl rfl (by omega) (World.heap v2).size (Nat.le_refl _) ?_
                intro v3 hO hg
                have hbm : Below (World.heap v2).size v2 v3 := (Below.refl _ _).grown hg (Nat.le_refl _) (by simp)
                have hS2 := hS.grow hbm
                have hz := hO.slice.2.2
                refine hK.out _ _ (fun _ => hS2.tail.tail) ?_
                obtain ⟨gz, hn⟩ : ∃ g, Hid (g = (World.heap v2).size) := ⟨_, rfl⟩
                rw [← hn.out] at hz ⊢
                clear hn hK K hS hO hg hbm
                have hS := hS2
                clear hS2
                try simp only [Act.put, List.setIfInBounds_toArray, List.set_cons_zero, List.set_cons_succ]
                refine wpAnyZ_one (i := 6) (by kernel_rfl) rfl (fun K hK => ?_)
                go_simp
                go_at_call 25
                refine (sum_of h none (some ⟨gz, 0, none⟩) 0 k 0 k [] (List.replicate k 0) _ oh rfl (List.length_replicate ..) (Bin.nil _ _) (hz) Oct.nil HOZ.out (by decide) (by omega) (Nat.zero_le _) (Nat.le_refl _)).mono ?_
                rintro e v4 ⟨rfl, hb8⟩
                rw [← eO.out]
                go_wp2_with fail
                refine hK.out _ _ (fun _ => (hS.grow hb8).tail.tail) ?_
                replace hS := hS.grow hb8
                replace hz := hz.below hb8
                clear hK K hb8
                try simp only [Act.put, List.setIfInBounds_toArray, List.set_cons_zero, List.set_cons_succ]
                refine wpAnyZ_one (i := 9) (by kernel_rfl) rfl (fun K hK => ?_)
                clear hz
                have h0 := hS.at (g := gc) (x := fun _ => 0) (by simp)
                have hT0 := h0.there
                have hS2 := hS.put0 Z
                rw [if_pos (by rfl)]
                refine wp_store_arr _ _ _ rfl gc 16 Z rfl rfl hT0 hib ?_
                try simp only [Act.put, List.setIfInBounds_toArray, List.set_cons_zero, List.set_cons_succ]
                refine hK.out _ _ (fun _ => hS2.tail.tail) ?_
                generalize World.setCells v4 gc 0 (vals 16 Z) = v5 at hS2 ⊢
                clear hK K hS hT0 h0
                have hS := hS2
                clear hS2
                refine wpAnyZ_one (i := 10) (by kernel_rfl) rfl (fun K hK => ?_)
                have h0 := hS.at (g := gd) (x := fun _ => 0) (by simp)
                have hT0 := h0.there
                have hS2 := hS.put1 O
                rw [if_pos (by rfl)]
                refine wp_store_arr _ _ _ rfl gd 16 O rfl rfl hT0 hib ?_
                try simp only [Act.put, List.setIfInBounds_toArray, List.set_cons_zero, List.set_cons_succ]
                refine hK.out _ _ (fun _ => hS2.tail.tail) ?_
                generalize World.setCells v5 gd 0 (vals 16 O) = v6 at hS2 ⊢
                clear hK K hS hT0 h0
                have hS := hS2
                clear hS2
                refine wpAnyZ_done (by kernel_rfl) ?_ _
                go_wp2_with fail
                go_meet
                exact ⟨gc, gd, rfl, rfl, hS⟩
              · refine step_make_full rfl _ _ 22 rfl i0 Try.underlying22 hi hz0 hz1 hz2 k rfl rfl (by omega) (World.heap v1).size (Nat.le_refl _) ?_
                intro v2 hO hg
                have hbm : Below (World.heap v1).size v1 v2 := (Below.refl _ _).grown hg (Nat.le_refl _) (by simp)
                have hS2 := hS.grow hbm
                have hz := hO.slice.2.2
                refine hK.out _ _ (fun _ => hS2.tail.tail) ?_
                obtain ⟨gz, hn⟩ : ∃ g, Hid (g = (World.heap v1).size) := ⟨_, rfl⟩
                rw [← hn.out] at hz ⊢
                clear hn hK K hS hO hg hbm
                have hS := hS2
                clear hS2
                try simp only [Act.put, List.setIfInBounds_toArray, List.set_cons_zero, List.set_cons_succ]
                refine wpAnyZ_one (i := 2) (by kernel_rfl) rfl (fun K hK => ?_)
                go_simp
                go_at_call 25
                refine (sum_of h none pv 0 cv 0 k [] (row FF k) _ oh rfl (row_length _ _) (Bin.nil _ _) (HV.out.below hS.below) Oct.nil HOR.out (by decide) (by omega) (Nat.zero_le _) (hcv)).mono ?_
                rintro e v3 ⟨rfl, hb8⟩
                rw [← eZ.out]
                go_wp2_with fail
                refine hK.out _ _ (fun _ => (hS.grow hb8).tail.tail) ?_
                replace hS := hS.grow hb8
                replace hz := hz.below hb8
                clear hK K hb8
                try simp only [Act.put, List.setIfInBounds_toArray, List.set_cons_zero, List.set_cons_succ]
                refine wpAnyZ_one (i := 6) (by kernel_rfl) rfl (fun K hK => ?_)
                go_simp
                go_at_call 25
                refine (sum_of h none (some ⟨gz, 0, none⟩) 0 k 0 k [] (List.replicate k 0) _ oh rfl (List.length_replicate ..) (Bin.nil _ _) (hz) Oct.nil HOZ.out (by decide) (by omega) (Nat.zero_le _) (Nat.le_refl _)).mono ?_
                rintro e v4 ⟨rfl, hb8⟩
                rw [← eO.out]
                go_wp2_with fail
                refine hK.out _ _ (fun _ => (hS.grow hb8).tail.tail) ?_
                replace hS := hS.grow hb8
                replace hz := hz.below hb8
                clear hK K hb8
                try simp only [Act.put, List.setIfInBounds_toArray, List.set_cons_zero, List.set_cons_succ]
                refine wpAnyZ_one (i := 9) (by kernel_rfl) rfl (fun K hK => ?_)
                clear hz
                have h0 := hS.at (g := gc) (x := fun _ => 0) (by simp)
                have hT0 := h0.there
                have hS2 := hS.put0 Z
                rw [if_pos (by rfl)]
                refine wp_store_arr _ _ _ rfl gc 16 Z rfl rfl hT0 hib ?_
                try simp only [Act.put, List.setIfInBounds_toArray, List.set_cons_zero, List.set_cons_succ]
                refine hK.out _ _ (fun _ => hS2.tail.tail) ?_
                generalize World.setCells v4 gc 0 (vals 16 Z) = v5 at hS2 ⊢
                clear hK K hS hT0 h0
                have hS := hS2
                clear hS2
                refine wpAnyZ_one (i := 10) (by kernel_rfl) rfl (fun K hK => ?_)
                have h0 := hS.at (g := gd) (x := fun _ => 0) (by simp)
                have hT0 := h0.there
                have hS2 := hS.put1 O
                rw [if_pos (by rfl)]
                refine wp_store_arr _ _ _ rfl gd 16 O rfl rfl hT0 hib ?_
                try simp only [Act.put, List.setIfInBounds_toArray, List.set_cons_zero, List.set_cons_succ]
                refine hK.out _ _ (fun _ => hS2.tail.tail) ?_
                generalize World.setCells v5 gd 0 (vals 16 O) = v6 at hS2 ⊢
                clear hK K hS hT0 h0
                have hS := hS2
                clear hS2
                refine wpAnyZ_done (by kernel_rfl) ?_ _
                go_wp2_with fail
                go_meet
                exact ⟨gc, gd, rfl, rfl, hS⟩
        case rest =>
          obtain ⟨gc, gd, rfl, rfl, hS⟩ := hcut
          have HX := hid (HX0.out.below' lx0 hS.below)
          have HY := hid (HY0.out.below' ly0 hS.below)
          have HZ := hid (hS.at (g := gc) (x := Z) (by simp))
          have HO := hid (hS.at (g := gd) (x := O) (by simp))
          have lx := HX.out.lt (by decide)
          have ly := HY.out.lt (by decide)
          have lz := HZ.out.lt (by decide)
          have lo := HO.out.lt (by decide)
          have hBe := hBc.trans (hS.below.mono hBc.size)
          have hSd : Below wc.heap.size wc wc.drew := (Below.refl _ _).drew
          clear hS
          go_upto_region 10 with fail
          refine wp_region_z (fun v => Below wc.heap.size wc v) 11 (by kernel_rfl) hSd (fun hS => ?_)
          clear hSd
          generalize World.drew _ = w9 at hS ⊢
          refine wpAnyZ_take (i := 0) rfl (by kernel_rfl) (by kernel_rfl) (by kernel_rfl) (by kernel_rfl) (fun _ _ _ h => h) hS (yieldsIf_load_mid (by kernel_rfl) 35 (.tmp 10) rfl ga 0 (by kernel_rfl) (vals 16 X) _ (fun w hS => (HX.out.below' lx hS).range) hub rfl hib) ?_
          simp only [Act.put, List.setIfInBounds_toArray, List.set_cons_zero, List.set_cons_succ]
          refine wpAnyZ_take (i := 1) rfl (by kernel_rfl) (by kernel_rfl) (by kernel_rfl) (by kernel_rfl) (fun _ _ _ h => h) hS (yieldsIf_load_mid (by kernel_rfl) 35 (.tmp 11) rfl gb 0 (by kernel_rfl) (vals 16 Y) _ (fun w hS => (HY.out.below' ly hS).range) hub rfl hib) ?_
          simp only [Act.put, List.setIfInBounds_toArray, List.set_cons_zero, List.set_cons_succ]
          refine wpAnyZ_take (i := 3) rfl (by kernel_rfl) (by kernel_rfl) (by kernel_rfl) (by kernel_rfl) (fun _ _ _ h => h) hS (yieldsIf_load_mid (by kernel_rfl) 35 (.tmp 12) rfl gc 0 (by kernel_rfl) (vals 16 Z) _ (fun w hS => (HZ.out.below' lz hS).range) hub rfl hib) ?_
          simp only [Act.put, List.setIfInBounds_toArray, List.set_cons_zero, List.set_cons_succ]
          refine wpAnyZ_take (i := 4) rfl (by kernel_rfl) (by kernel_rfl) (by kernel_rfl) (by kernel_rfl) (fun _ _ _ h => h) hS (yieldsIf_load_mid (by kernel_rfl) 35 (.tmp 13) rfl gd 0 (by kernel_rfl) (vals 16 O) _ (fun w hS => (HO.out.below' lo hS).range) hub rfl hib) ?_
          simp only [Act.put, List.setIfInBounds_toArray, List.set_cons_zero, List.set_cons_succ]
          refine wpAnyZ_one (i := 2) (by kernel_rfl) rfl (fun K hK => ?_)
          go_simp
          go_at_call 27
          refine (sums_of X Y _ oX oY).mono ?_
          rintro e v8 ⟨rfl, hb8⟩
          rw [← eXY.out]
          go_wp2_with fail
          refine hK.out _ _ (fun _ => hS.trans (hb8.mono hS.size)) ?_
          replace hS := hS.trans (hb8.mono hS.size)
          clear hK K
          try simp only [Act.put, List.setIfInBounds_toArray, List.set_cons_zero, List.set_cons_succ]
          refine wpAnyZ_one (i := 5) (by kernel_rfl) rfl (fun K hK => ?_)
          go_simp
          go_at_call 27
          refine (sums_of Z O _ oZ oO).mono ?_
          rintro e v8 ⟨rfl, hb8⟩
          rw [← eZO.out]
          go_wp2_with fail
          refine hK.out _ _ (fun _ => hS.trans (hb8.mono hS.size)) ?_
          replace hS := hS.trans (hb8.mono hS.size)
          clear hK K
          try simp only [Act.put, List.setIfInBounds_toArray, List.set_cons_zero, List.set_cons_succ]
          refine wpAnyZ_take (i := 6) (v := .bool true) rfl (by kernel_rfl) (by kernel_rfl) (by kernel_rfl) (by kernel_rfl) (fun _ _ _ h => h) hS (Or.inl ⟨by kernel_rfl, fun w hS => (by clear hS; go_simp)⟩) ?_
          simp only [Act.put, List.setIfInBounds_toArray, List.set_cons_zero, List.set_cons_succ]
          refine wpAnyZ_take (i := 7) (v := .bool true) rfl (by kernel_rfl) (by kernel_rfl) (by kernel_rfl) (by kernel_rfl) (fun _ _ _ h => h) hS (Or.inl ⟨by kernel_rfl, fun w hS => (by clear hS; go_simp)⟩) ?_
          simp only [Act.put, List.setIfInBounds_toArray, List.set_cons_zero, List.set_cons_succ]
          refine wpAnyZ_one (i := 8) (by kernel_rfl) rfl (fun K hK => ?_)
          go_simp
          go_at_call 24
          refine (gknown_any _).mono ?_
          rintro e v8 ⟨rfl, hb8⟩
          go_wp2_with fail
          refine hK.out _ _ (fun _ => hS.trans (hb8.mono hS.size)) ?_
          replace hS := hS.trans (hb8.mono hS.size)
          clear hK K
          try simp only [Act.put, List.setIfInBounds_toArray, List.set_cons_zero, List.set_cons_succ]
          refine wpAnyZ_take (i := 9) (v := .bool true) rfl (by kernel_rfl) (by kernel_rfl) (by kernel_rfl) (by kernel_rfl) (fun _ _ _ h => h) hS (Or.inl ⟨by kernel_rfl, fun w hS => (by clear hS; go_simp)⟩) ?_
          simp only [Act.put, List.setIfInBounds_toArray, List.set_cons_zero, List.set_cons_succ]
          refine wpAnyZ_one (i := 10) (by kernel_rfl) rfl (fun K hK => ?_)
          go_simp
          refine hK.out _ _ (fun _ => hS) ?_
          clear hK K
          try simp only [Act.put, List.setIfInBounds_toArray, List.set_cons_zero, List.set_cons_succ]
          refine wpAnyZ_done (by kernel_rfl) ?_ _
          go_wp2_with fail
          go_ret
          exact ⟨rfl, hBe.trans (hS.mono hBe.size)⟩
end Go.Proofs.Ytdifilcgammniaa
