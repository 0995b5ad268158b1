/-
  The walk of PackOnly.
-/
import Derived.Test.YtphmdjhmgmjmgaaPts
import Derived.Test.YtphmdjhmgmjmgaaKa
namespace Go.Proofs.Ytphmdjhmgmjmgaa
open Go.RowKit
set_option linter.unusedVariables false
set_option linter.unusedSimpArgs false

theorem bin_takeP {p : Option Addr} {w : World} {xs : List Int} (h : Bin w p xs) (n : Nat) : Bin w p (xs.take n) := fun hl => by
  rw [List.length_take] at hl
  obtain ⟨b, o, rfl, hc⟩ := h (by omega)
  refine ⟨b, o, rfl, fun i hi => ?_⟩
  rw [List.length_take] at hi
  rw [hc i (by omega), List.getD_eq_getElem?_getD, List.getD_eq_getElem?_getD, List.getElem?_take, if_pos (by omega)]
theorem conv_at {w : World} {p : Option Addr} {xs : List Int} {n : Nat} (h : Bin w p xs) (hl : xs.length = n) (cap : Nat) :
    (convert 24 9 (.slice p n cap)).run Try.prog w = .ok (.string (strOfNums xs)) w := by
  have := conv_str h cap
  rwa [hl] at this

set_option maxHeartbeats 4000000 in
set_option maxRecDepth 100000 in
theorem ponly_law (p : Option Addr) (c : Nat) (xs : List Int) (w : World) (hp : Bin w p xs) (ho : Oct xs) (hm : xs.length ≤ 140737488351232) (hc : xs.length ≤ c) :
    Calls Try.prog 8 #[.slice p xs.length c] w fun e w' => e = .returned (.bool true) ∧ Below w.heap.size w w' := by
  obtain ⟨i0, hi, hz0, hz1, hz2⟩ := info_parts Try.infoU8
  obtain ⟨n, hn⟩ : ∃ n, n = xs.length := ⟨_, rfl⟩
  rw [← hn] at hm hc ⊢
  have HL := hid hn.symm
  clear hn
  by_cases hlt : 4096 < n
  · have i1 : (4096 : Int) < (n : Int) := by omega
    go_enter Try.func8, Try.ntmps8
    go_wp2_with fail
    refine (known7_any w).mono ?_
    rintro e w1 ⟨rfl, hb1⟩
    go_wp2_with fail
    go_ret
    exact ⟨rfl, hb1⟩
  · have i1 : ¬ (4096 : Int) < (n : Int) := by omega
    have HP := hid hp
    have hnew := newReader_of p c n xs w hp ho HL.out hc hm
    clear hp
    go_enter Try.func8, Try.ntmps8
    go_wp2_with fail
    refine hnew.mono ?_
    rintro e w1 ⟨g, kk, rfl, hR, hg, hk, hb1⟩
    clear hnew
    have hB1 := hid hb1
    have hgl := hR.lg
    have hkl := hR.lk
    have hs1 := hb1.size
    clear hb1
    go_wp2_with fail
    go_loopw [4, 5] (fun v i wr => ∃ k A : Nat, k ≤ A ∧ A ≤ n ∧ i = .int .i64 (k : Int) ∧ Own w1.heap.size wr v A (xs.take A) ∧ PRd wr g kk xs A 0 ∧ w1.heap.size ≤ wr.heap.size ∧ Below w.heap.size w wr) (fun _ i _ => n + 1 - (intOf i).toNat)
    case atStart => exact ⟨0, 0, Nat.le_refl _, Nat.zero_le _, rfl, Own.nil _ _, hR, Nat.le_refl _, hB1.out⟩
    case round =>
      clear hR hB1
      obtain ⟨k, A, hkA, hAn, rfl, hO, hR, hz, hB⟩ := hrel
      have kI : (k : Int) ≤ (n : Int) := by omega
      have HO := hid hO
      have HB := hid hB
      clear hO hB
      have hleft : ∀ (wx : World) (f : Int), PRd wx g kk xs A f → Calls Try.prog 23 #[.pointer (some ⟨g, 0, none⟩)] wx fun e w' => e = .returned (.int .i64 ((n - A : Nat) : Int)) ∧ PRd w' g kk xs A f ∧ wx.grownBy w' (some g) := fun wx f h => by
        have := prLeft_of g kk A f xs wx h
        rwa [HL.out] at this
      have HLEFT := hid hleft
      clear hleft
      go_wp2_with fail
      refine (HLEFT.out wr 0 hR).mono ?_
      rintro e w2 ⟨rfl, hR2, hg2⟩
      have HB2 := hid (HB.out.grown hg2 HB.out.size (fun q hq => by cases hq; exact hg))
      have HO2 := hid (HO.out.aside_lt hg2 hgl)
      have sz2 := hg2.size
      clear hg2 hR HB HO
      go_wp2_with fail
      refine (prNum_of g kk A 0 xs w2 hR2).mono ?_
      rcases rdNum_cases ho A with ⟨er, hcs, her⟩ | ⟨N, hcs, hN, htk, hle⟩
      · rw [hcs]
        rintro e w3 ⟨rfl, hR3, hg3⟩
        have HB3 := hid (HB2.out.grown hg3 HB2.out.size (fun q hq => by cases hq; exact hg))
        have HO3 := hid (HO2.out.aside_lt hg3 hgl)
        clear hg3 hR2 HB2 HO2
        go_wp2_with fail
        refine (HLEFT.out w3 er hR3).mono ?_
        rintro e w4 ⟨rfl, hR4, hg4⟩
        have HB4 := hid (HB3.out.grown hg4 HB3.out.size (fun q hq => by cases hq; exact hg))
        have HO4 := hid (HO3.out.aside_lt hg4 hgl)
        clear hg4 hR3 HB3 HO3
        go_upto_region 17 with fail
        obtain ⟨p4, c4, rfl, hc4, hb4⟩ := HO4.out.bin
        have hlA : (xs.take A).length = A := by rw [List.length_take, HL.out]; omega
        have iA : (A : Int) ≤ (c : Int) := by omega
        have iA4 : (A : Int) ≤ (n : Int) := by omega
        have hpb := HP.out.below HB4.out
        have hpt : Bin w4 p (xs.take A) := bin_takeP hpb A
        have hS0 : (fun v => Bin v p4 (xs.take A) ∧ Bin v p (xs.take A) ∧ Below w.heap.size w v) w4.drew := ⟨hb4, hpt, HB4.out.trans (Below.refl _ _).drew⟩
        clear hb4 hpt hpb HB4 HO4 hR4
        refine wp_region_z (fun v => Bin v p4 (xs.take A) ∧ Bin v p (xs.take A) ∧ Below w.heap.size w v) 12 (by kernel_rfl) hS0 (fun hS => ?_)
        clear hS0
        generalize World.drew _ = w9 at hS ⊢
        refine wpAnyZ_take (i := 0) (v := .slice p4 A c4) rfl (by kernel_rfl) (by kernel_rfl) (by kernel_rfl) (by kernel_rfl) (fun _ _ _ h => h) hS (Or.inl ⟨by kernel_rfl, fun w hS => (by clear hS; go_simp)⟩) ?_
        simp only [Act.put, List.setIfInBounds_toArray, List.set_cons_zero, List.set_cons_succ]
        refine wpAnyZ_take (i := 1) (v := .string (strOfNums (xs.take A))) rfl (by kernel_rfl) (by kernel_rfl) (by kernel_rfl) (by kernel_rfl) (fun _ _ _ h => h) hS (Or.inl ⟨by kernel_rfl, fun w hS => (by have h := conv_at hS.1 hlA c4; clear hS; go_simp)⟩) ?_
        simp only [Act.put, List.setIfInBounds_toArray, List.set_cons_zero, List.set_cons_succ]
        refine wpAnyZ_take (i := 2) (v := .slice p n c) rfl (by kernel_rfl) (by kernel_rfl) (by kernel_rfl) (by kernel_rfl) (fun _ _ _ h => h) hS (Or.inl ⟨by kernel_rfl, fun w hS => (by clear hS; go_simp)⟩) ?_
        simp only [Act.put, List.setIfInBounds_toArray, List.set_cons_zero, List.set_cons_succ]
        refine wpAnyZ_take (i := 3) (v := .slice p4 A c4) rfl (by kernel_rfl) (by kernel_rfl) (by kernel_rfl) (by kernel_rfl) (fun _ _ _ h => h) hS (Or.inl ⟨by kernel_rfl, fun w hS => (by clear hS; go_simp)⟩) ?_
        simp only [Act.put, List.setIfInBounds_toArray, List.set_cons_zero, List.set_cons_succ]
        refine wpAnyZ_take (i := 4) (v := .int .i64 (A : Nat)) rfl (by kernel_rfl) (by kernel_rfl) (by kernel_rfl) (by kernel_rfl) (fun _ _ _ h => h) hS (Or.inl ⟨by kernel_rfl, fun w hS => (by clear hS; go_simp)⟩) ?_
        simp only [Act.put, List.setIfInBounds_toArray, List.set_cons_zero, List.set_cons_succ]
        refine wpAnyZ_take (i := 5) (v := .slice p A c) rfl (by kernel_rfl) (by kernel_rfl) (by kernel_rfl) (by kernel_rfl) (fun _ _ _ h => h) hS (Or.inl ⟨by kernel_rfl, fun w hS => (by clear hS; go_simp)⟩) ?_
        simp only [Act.put, List.setIfInBounds_toArray, List.set_cons_zero, List.set_cons_succ]
        refine wpAnyZ_take (i := 6) (v := .string (strOfNums (xs.take A))) rfl (by kernel_rfl) (by kernel_rfl) (by kernel_rfl) (by kernel_rfl) (fun _ _ _ h => h) hS (Or.inl ⟨by kernel_rfl, fun w hS => (by have h := conv_at hS.2.1 hlA c; clear hS; go_simp)⟩) ?_
        simp only [Act.put, List.setIfInBounds_toArray, List.set_cons_zero, List.set_cons_succ]
        refine wpAnyZ_take (i := 7) (v := .bool true) rfl (by kernel_rfl) (by kernel_rfl) (by kernel_rfl) (by kernel_rfl) (fun _ _ _ h => h) hS (Or.inl ⟨by kernel_rfl, fun w hS => (by clear hS; go_simp)⟩) ?_
        simp only [Act.put, List.setIfInBounds_toArray, List.set_cons_zero, List.set_cons_succ]
        refine wpAnyZ_take (i := 8) (v := .bool true) rfl (by kernel_rfl) (by kernel_rfl) (by kernel_rfl) (by kernel_rfl) (fun _ _ _ h => h) hS (Or.inl ⟨by kernel_rfl, fun w hS => (by clear hS; go_simp)⟩) ?_
        simp only [Act.put, List.setIfInBounds_toArray, List.set_cons_zero, List.set_cons_succ]
        refine wpAnyZ_one (i := 9) (by kernel_rfl) rfl (fun K hK => ?_)
        go_simp
        go_at_call 12
        refine (known7_any _).mono ?_
        rintro e v8 ⟨rfl, hb8⟩
        go_wp2_with fail
        refine hK.out _ _ (fun _ => And.intro (hS.1.below hb8) (And.intro (hS.2.1.below hb8) (hS.2.2.trans (hb8.mono hS.2.2.size)))) ?_
        replace hS := And.intro (hS.1.below hb8) (And.intro (hS.2.1.below hb8) (hS.2.2.trans (hb8.mono hS.2.2.size)))
        clear hK K hb8
        try simp only [Act.put, List.setIfInBounds_toArray, List.set_cons_zero, List.set_cons_succ]
        refine wpAnyZ_one (i := 10) (by kernel_rfl) rfl (fun K hK => ?_)
        go_simp
        refine hK.out _ _ (fun _ => hS) ?_
        clear hK K
        try simp only [Act.put, List.setIfInBounds_toArray, List.set_cons_zero, List.set_cons_succ]
        refine wpAnyZ_one (i := 11) (by kernel_rfl) rfl (fun K hK => ?_)
        go_simp
        refine hK.out _ _ (fun _ => hS) ?_
        clear hK K
        try simp only [Act.put, List.setIfInBounds_toArray, List.set_cons_zero, List.set_cons_succ]
        refine wpAnyZ_done (by kernel_rfl) ?_ _
        have HB := hid hS.2.2
        clear hS
        go_wp2_with fail
        go_ret
        exact ⟨rfl, HB.out⟩
      · rw [hcs]
        rintro e w3 ⟨rfl, hR3, hg3⟩
        have HB3 := hid (HB2.out.grown hg3 HB2.out.size (fun q hq => by cases hq; exact hg))
        have HO3 := hid (HO2.out.aside_lt hg3 hgl)
        have hLp := numL_pos N
        have hL10 := numL_ten hN
        have hoL := hid (numL_oct N)
        have hpnum := fun w' => pNum_of N w' hN
        obtain ⟨L, hL⟩ : ∃ L, Hid (L = numL N) := ⟨_, rfl⟩
        rw [← hL.out] at hLp hL10 hoL hpnum htk hle hR3
        obtain ⟨l, hl⟩ : ∃ l, Hid (l = L.length) := ⟨_, rfl⟩
        rw [← hl.out] at hLp hL10 hpnum htk hle hR3
        obtain ⟨A', hA'⟩ : ∃ A', Hid (A' = A + l) := ⟨_, rfl⟩
        rw [← hA'.out] at htk hle hR3
        rw [HL.out] at hle
        have hAA : A < A' := by have := hA'.out; omega
        have hkA' : k + 1 ≤ A' := by omega
        have i3 : ¬ ((n - A' : Nat) : Int) = ((n - A : Nat) : Int) := by omega
        have i4 : ((n - A : Nat) : Int) - ((n - A' : Nat) : Int) = (l : Int) := by have := hA'.out; omega
        have i5 : ¬ (10 : Int) < (l : Int) := by omega
        have hleft2 : ∀ (wx : World), PRd wx g kk xs A' 0 → Calls Try.prog 23 #[.pointer (some ⟨g, 0, none⟩)] wx fun e w' => e = .returned (.int .i64 ((n - A' : Nat) : Int)) ∧ PRd w' g kk xs A' 0 ∧ wx.grownBy w' (some g) := fun wx h => by
          have := prLeft_of g kk A' 0 xs wx h
          rwa [HL.out] at this
        have HLEFT2 := hid hleft2
        have HNUM := hid hpnum
        have HTK := hid htk
        have sz3 := hg3.size
        clear hg3 hR2 HB2 HO2 hleft2 hpnum htk hcs HLEFT
        go_wp2_with fail
        refine (HLEFT2.out w3 hR3).mono ?_
        rintro e w4 ⟨rfl, hR4, hg4⟩
        have HB4 := hid (HB3.out.grown hg4 HB3.out.size (fun q hq => by cases hq; exact hg))
        have HO4 := hid (HO3.out.aside_lt hg4 hgl)
        have sz4 := hg4.size
        clear hg4 hR3 HB3 HO3
        go_wp2_with fail
        refine (HNUM.out w4).mono ?_
        rintro e w5 ⟨v5, rfl, hv5, hb5⟩
        have HB5 := hid (HB4.out.trans (hb5.mono HB4.out.size))
        have HO5 := hid (HO4.out.below hb5)
        have hR5 := hR4.grown (gb_of none hb5) (by simp) (by simp)
        have hg5 : g < w4.heap.size := hR4.lg
        have HV5 := hid hv5
        obtain ⟨p5, c5, rfl, _, _⟩ := hv5.bin
        have sz5 := hb5.size
        clear hb5 hR4 HB4 HO4 HNUM hv5
        go_wp2_with fail
        refine (HLEFT2.out w5 hR5).mono ?_
        rintro e w6 ⟨rfl, hR6, hg6⟩
        have HB6 := hid (HB5.out.grown hg6 HB5.out.size (fun q hq => by cases hq; exact hg))
        have HO6 := hid (HO5.out.aside_lt hg6 hgl)
        have HV6 := hid (HV5.out.aside_lt hg6 hg5).bin
        have sz6 := hg6.size
        clear hg6 hR5 HB5 HO5 HV5 HLEFT2
        obtain ⟨_, _, hve, _, hvb⟩ := HV6.out
        cases hve
        have HVB := hid hvb
        clear hvb HV6
        have hw16 := HB6.out.size
        go_wp2_with (at_builtin; refine wpList_append_bin rfl (.tmp 45) (.tmp 46) 24 rfl i0 Try.underlying24 hi hz0 hz1 hz2 w1.heap.size _ A _ rfl (by exact HO6.out) p5 l c5 L rfl hl.out.symm (by exact HVB.out) (by omega) (by omega) ?_; intro p7 c7 w7 hO7 hg7 _)
        have hne : ∀ q, q < w1.heap.size → some q ≠ (_ : Option Nat) := fun q hq e => by
          have := (World.ownsRow.lt HO6.out q e.symm).1
          omega
        have hR7 := hR6.grown hg7 (hne g hgl) (hne kk hkl)
        have hB7 := HB6.out.grown hg7 HB6.out.size (fun q hq => by have := (World.ownsRow.lt HO6.out q hq).1; omega)
        have hz7 := hg7.size
        rw [HTK.out, ← hA'.out] at hO7
        rw [← hA'.out]
        exact ⟨⟨k + 1, A', hkA', hle, by go_num, hO7, hR7, by omega, hB7⟩, by simp [intOf]; omega⟩
end Go.Proofs.Ytphmdjhmgmjmgaa
