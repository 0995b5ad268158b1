/-
  The contract of Decrypt.
-/
import Derived.Test.YtdifilcgammniaaAenc
namespace Go.Proofs.Ytdifilcgammniaa
open Go.RowKit
set_option linter.unusedVariables false
set_option linter.unusedSimpArgs false

set_option maxHeartbeats 8000000 in
set_option maxRecDepth 100000 in
theorem decrypt_any (c k r : Nat) (F x : Nat → Nat) (w : World) (oF : ∀ j, F j < 256) (ox : ∀ j, x j < 256) (hr : 1 ≤ r) (hr2 : r ≤ 14) (hC : Cip w c k r F) :
    Calls Try.prog 20 #[.pointer (some ⟨c, 0, none⟩), .agg (vals 16 x).toArray] w fun e w' =>
      e = .returned (.tuple #[.agg (vals 16 (dec F r x)).toArray, .int .i64 0]) ∧ Below w.heap.size w w' := by
  have hz := Try.zeroState
  have hzb := Try.zeroBlock
  have hus := Try.underlying54
  have hub := Try.underlying35
  have his := Try.sizeState
  have hib := Try.sizeBlock
  have hvl := vals_length 16
  obtain ⟨wa, hwa, b1, b2, hB, hsz⟩ := boxes2 w 16 x (fun _ => 0) 35 35
  have HI := hid (show Inv w c k r F wa from ⟨hC.below hB, hC.lt, b2, hB⟩)
  have h0 := HI.out.1.1
  have B1 := hid b1
  have e4 : ¬ ((r : Int) + 1 ≤ (r : Int)) := by omega
  clear hC b1 b2 hB
  go_enter Try.func20, Try.ntmps20
  go_wp2_with fail
  rw [← hwa.out]
  refine (absent_no c k r F _ HI.out.1).mono ?_
  rintro e w' ⟨rfl, rfl⟩
  go_upto_region 4 with fail
  have hs := hid (Cip.st HI.out B1.out r (Nat.le_refl _) (r * 16) (by omega))
  have hga := HI.out.size
  clear hwa hsz HI B1 h0
  obtain ⟨y, hy⟩ : ∃ y, Hid (y = backS (movB (addK F r x))) := ⟨_, rfl⟩
  have oy : ∀ j, y j < 256 := by rw [hy.out]; exact backS_lt (movB_lt (addK_lt oF ox r))
  go_cut [7] (fun s wx => ∃ g : Nat, s = .pointer (some ⟨g, 0, none⟩) ∧ w.heap.size + 1 < g ∧ Arr wx g 16 y ∧ Inv w c k r F wx)
  case first =>
    refine wp_region_z (St w c k r F w.heap.size x (r * 16) (fun p => F (16 * r + p))) 13 (by kernel_rfl) hs.out.drew (fun hS => ?_)
    refine wpAnyZ_take (i := 0) (v := .pointer (some ⟨c, 0, none⟩)) rfl (by kernel_rfl) (by kernel_rfl) (by kernel_rfl) (by kernel_rfl) (fun _ _ _ h => h) hS (Or.inl ⟨by kernel_rfl, fun w hS => (by clear hS; go_simp)⟩) ?_
    simp only [Act.put, List.setIfInBounds_toArray, List.set_cons_zero, List.set_cons_succ]
    refine wpAnyZ_take (i := 1) rfl (by kernel_rfl) (by kernel_rfl) (by kernel_rfl) (by kernel_rfl) (fun _ _ _ h => h) hS (yieldsIf_load_mid (by kernel_rfl) 35 (.tmp 3) rfl w.heap.size 0 (by kernel_rfl) (vals 16 x) _ (fun w hS => hS.2.1) hub rfl hib) ?_
    simp only [Act.put, List.setIfInBounds_toArray, List.set_cons_zero, List.set_cons_succ]
    refine wpAnyZ_take (i := 2) (v := .pointer (some ⟨c, 0, none⟩)) rfl (by kernel_rfl) (by kernel_rfl) (by kernel_rfl) (by kernel_rfl) (fun _ _ _ h => h) hS (Or.inl ⟨by kernel_rfl, fun w hS => (by clear hS; go_simp)⟩) ?_
    simp only [Act.put, List.setIfInBounds_toArray, List.set_cons_zero, List.set_cons_succ]
    refine wpAnyZ_take (i := 3) (v := .pointer (some ⟨c, 0, none⟩)) rfl (by kernel_rfl) (by kernel_rfl) (by kernel_rfl) (by kernel_rfl) (fun _ _ _ h => h) hS (Or.inl ⟨by kernel_rfl, fun w hS => (by clear hS; go_simp)⟩) ?_
    simp only [Act.put, List.setIfInBounds_toArray, List.set_cons_zero, List.set_cons_succ]
    refine wpAnyZ_take (i := 4) (v := .pointer (some ⟨c, 0, none⟩)) rfl (by kernel_rfl) (by kernel_rfl) (by kernel_rfl) (by kernel_rfl) (fun _ _ _ h => h) hS (Or.inl ⟨by kernel_rfl, fun w hS => (by clear hS; go_simp)⟩) ?_
    simp only [Act.put, List.setIfInBounds_toArray, List.set_cons_zero, List.set_cons_succ]
    refine wpAnyZ_take (i := 5) (v := .slice (some ⟨k, 0, none⟩) (r + 1) (r + 1)) rfl (by kernel_rfl) (by kernel_rfl) (by kernel_rfl) (by kernel_rfl) (fun _ _ _ h => h) hS (Or.inl ⟨by kernel_rfl, fun w hS => (by have h := hS.1; clear hS; go_simp)⟩) ?_
    simp only [Act.put, List.setIfInBounds_toArray, List.set_cons_zero, List.set_cons_succ]
    refine wpAnyZ_take (i := 6) (v := .int .i64 (r : Int)) rfl (by kernel_rfl) (by kernel_rfl) (by kernel_rfl) (by kernel_rfl) (fun _ _ _ h => h) hS (Or.inl ⟨by kernel_rfl, fun w hS => (by clear hS; go_simp)⟩) ?_
    simp only [Act.put, List.setIfInBounds_toArray, List.set_cons_zero, List.set_cons_succ]
    refine wpAnyZ_take (i := 7) (v := .pointer (some ⟨k, r * 16, none⟩)) rfl (by kernel_rfl) (by kernel_rfl) (by kernel_rfl) (by kernel_rfl) (fun _ _ _ h => h) hS (Or.inl ⟨by kernel_rfl, fun w hS => (by clear hS; go_simp)⟩) ?_
    simp only [Act.put, List.setIfInBounds_toArray, List.set_cons_zero, List.set_cons_succ]
    refine wpAnyZ_take (i := 8) rfl (by kernel_rfl) (by kernel_rfl) (by kernel_rfl) (by kernel_rfl) (fun _ _ _ h => h) hS (yieldsIf_load_mid (by kernel_rfl) 54 (.tmp 25) rfl k (r * 16) (by kernel_rfl) (vals 16 (fun p => F (16 * r + p))) _ (fun w hS => hS.2.2.1) hus rfl his) ?_
    simp only [Act.put, List.setIfInBounds_toArray, List.set_cons_zero, List.set_cons_succ]
    clear hs hub hib
    refine wpAnyZ_two (i := 9) (j := 12) (by kernel_rfl) rfl rfl (fun K hK => ?_) (fun K hK => ?_)
    · go_simp
      go_at_call 37
      refine (plus_any x (fun p => F (16 * r + p)) _ ox (fun p => oF _)).mono ?_
      rintro e w1 ⟨rfl, hb1⟩
      go_wp2_with fail
      refine hK.out _ _ (fun _ => hS.grow hb1) ?_
      replace hS := hS.grow hb1
      clear hK K
      try simp only [Act.put, List.setIfInBounds_toArray, List.set_cons_zero, List.set_cons_succ]
      refine wpAnyZ_two (i := 10) (j := 12) (by kernel_rfl) rfl rfl (fun K hK => ?_) (fun K hK => ?_)
      · go_simp
        go_at_call 46
        refine (movedBack_any (addK F r x) _ (addK_lt oF ox r)).mono ?_
        rintro e w2 ⟨rfl, hb2⟩
        go_wp2_with fail
        refine hK.out _ _ (fun _ => hS.grow hb2) ?_
        replace hS := hS.grow hb2
        clear hK K
        try simp only [Act.put, List.setIfInBounds_toArray, List.set_cons_zero, List.set_cons_succ]
        refine wpAnyZ_two (i := 11) (j := 12) (by kernel_rfl) rfl rfl (fun K hK => ?_) (fun K hK => ?_)
        · go_simp
          go_at_call 45
          refine (restored_any c k r F (movB (addK F r x)) _ (movB_lt (addK_lt oF ox r)) hS.2.2.2.1).mono ?_
          rintro e w3 ⟨rfl, hb3⟩
          go_wp2_with fail
          refine hK.out _ _ (fun _ => hS.grow hb3) ?_
          replace hS := hS.grow hb3
          clear hK K
          try simp only [Act.put, List.setIfInBounds_toArray, List.set_cons_zero, List.set_cons_succ]
          refine wpAnyZ_one (i := 12) (by kernel_rfl) rfl (fun K hK => ?_)
          go_simp
          refine hK.out _ _ (fun _ => hS.alloc _) ?_
          have hg := hS.2.2.2.size
          replace hS := hS.alloc (.cells (vals 16 fun _ => 0).toArray 54)
          have hA := arr_new w3 16 (fun _ => 0) 54
          clear hK K
          try simp only [Act.put, List.setIfInBounds_toArray, List.set_cons_zero, List.set_cons_succ]
          have hT := hA.there
          refine wpAnyZ_one (i := 13) (by kernel_rfl) rfl (fun K hK => ?_)
          rw [if_pos (by rfl)]
          refine wp_store_arr _ _ _ rfl w3.heap.size 16 (backS (movB (addK F r x))) rfl rfl hT his ?_
          try simp only [Act.put, List.setIfInBounds_toArray, List.set_cons_zero, List.set_cons_succ]
          refine hK.out _ _ (fun h => absurd h (by decide)) ?_
          clear hK K
          refine wpAnyZ_done (by kernel_rfl) ?_ _
          go_wp2_with fail
          go_meet
          exact ⟨w3.heap.size, rfl, hg, by rw [hy.out]; exact hA.put _, hS.2.2.2.put hg _⟩
        · go_simp
          refine hK.out _ _ (fun _ => hS.alloc _) ?_
          have hg := hS.2.2.2.size
          replace hS := hS.alloc (.cells (vals 16 fun _ => 0).toArray 54)
          have hA := arr_new w2 16 (fun _ => 0) 54
          clear hK K
          try simp only [Act.put, List.setIfInBounds_toArray, List.set_cons_zero, List.set_cons_succ]
          refine wpAnyZ_one (i := 11) (by kernel_rfl) rfl (fun K hK => ?_)
          go_simp
          go_at_call 45
          refine (restored_any c k r F (movB (addK F r x)) _ (movB_lt (addK_lt oF ox r)) hS.2.2.2.1).mono ?_
          rintro e w3 ⟨rfl, hb3⟩
          go_wp2_with fail
          refine hK.out _ _ (fun _ => hS.grow hb3) ?_
          replace hS := hS.grow hb3
          clear hK K
          try simp only [Act.put, List.setIfInBounds_toArray, List.set_cons_zero, List.set_cons_succ]
          replace hA := hA.below hb3
          have hT := hA.there
          refine wpAnyZ_one (i := 13) (by kernel_rfl) rfl (fun K hK => ?_)
          rw [if_pos (by rfl)]
          refine wp_store_arr _ _ _ rfl w2.heap.size 16 (backS (movB (addK F r x))) rfl rfl hT his ?_
          try simp only [Act.put, List.setIfInBounds_toArray, List.set_cons_zero, List.set_cons_succ]
          refine hK.out _ _ (fun h => absurd h (by decide)) ?_
          clear hK K
          refine wpAnyZ_done (by kernel_rfl) ?_ _
          go_wp2_with fail
          go_meet
          exact ⟨w2.heap.size, rfl, hg, by rw [hy.out]; exact hA.put _, hS.2.2.2.put hg _⟩
      · go_simp
        refine hK.out _ _ (fun _ => hS.alloc _) ?_
        have hg := hS.2.2.2.size
        replace hS := hS.alloc (.cells (vals 16 fun _ => 0).toArray 54)
        have hA := arr_new w1 16 (fun _ => 0) 54
        clear hK K
        try simp only [Act.put, List.setIfInBounds_toArray, List.set_cons_zero, List.set_cons_succ]
        refine wpAnyZ_one (i := 10) (by kernel_rfl) rfl (fun K hK => ?_)
        go_simp
        go_at_call 46
        refine (movedBack_any (addK F r x) _ (addK_lt oF ox r)).mono ?_
        rintro e w2 ⟨rfl, hb2⟩
        go_wp2_with fail
        refine hK.out _ _ (fun _ => hS.grow hb2) ?_
        replace hS := hS.grow hb2
        clear hK K
        try simp only [Act.put, List.setIfInBounds_toArray, List.set_cons_zero, List.set_cons_succ]
        replace hA := hA.below hb2
        refine wpAnyZ_one (i := 11) (by kernel_rfl) rfl (fun K hK => ?_)
        go_simp
        go_at_call 45
        refine (restored_any c k r F (movB (addK F r x)) _ (movB_lt (addK_lt oF ox r)) hS.2.2.2.1).mono ?_
        rintro e w3 ⟨rfl, hb3⟩
        go_wp2_with fail
        refine hK.out _ _ (fun _ => hS.grow hb3) ?_
        replace hS := hS.grow hb3
        clear hK K
        try simp only [Act.put, List.setIfInBounds_toArray, List.set_cons_zero, List.set_cons_succ]
        replace hA := hA.below hb3
        have hT := hA.there
        refine wpAnyZ_one (i := 13) (by kernel_rfl) rfl (fun K hK => ?_)
        rw [if_pos (by rfl)]
        refine wp_store_arr _ _ _ rfl w1.heap.size 16 (backS (movB (addK F r x))) rfl rfl hT his ?_
        try simp only [Act.put, List.setIfInBounds_toArray, List.set_cons_zero, List.set_cons_succ]
        refine hK.out _ _ (fun h => absurd h (by decide)) ?_
        clear hK K
        refine wpAnyZ_done (by kernel_rfl) ?_ _
        go_wp2_with fail
        go_meet
        exact ⟨w1.heap.size, rfl, hg, by rw [hy.out]; exact hA.put _, hS.2.2.2.put hg _⟩
    · go_simp
      refine hK.out _ _ (fun _ => hS.alloc _) ?_
      replace hS := hS.alloc (.cells (vals 16 fun _ => 0).toArray 54)
      have hg := hga
      have hA := (arr_new wa 16 (fun _ => 0) 54).drew
      clear hK K
      try simp only [Act.put, List.setIfInBounds_toArray, List.set_cons_zero, List.set_cons_succ]
      refine wpAnyZ_one (i := 9) (by kernel_rfl) rfl (fun K hK => ?_)
      go_simp
      go_at_call 37
      refine (plus_any x (fun p => F (16 * r + p)) _ ox (fun p => oF _)).mono ?_
      rintro e w1 ⟨rfl, hb1⟩
      go_wp2_with fail
      refine hK.out _ _ (fun _ => hS.grow hb1) ?_
      replace hS := hS.grow hb1
      clear hK K
      try simp only [Act.put, List.setIfInBounds_toArray, List.set_cons_zero, List.set_cons_succ]
      replace hA := hA.below hb1
      refine wpAnyZ_one (i := 10) (by kernel_rfl) rfl (fun K hK => ?_)
      go_simp
      go_at_call 46
      refine (movedBack_any (addK F r x) _ (addK_lt oF ox r)).mono ?_
      rintro e w2 ⟨rfl, hb2⟩
      go_wp2_with fail
      refine hK.out _ _ (fun _ => hS.grow hb2) ?_
      replace hS := hS.grow hb2
      clear hK K
      try simp only [Act.put, List.setIfInBounds_toArray, List.set_cons_zero, List.set_cons_succ]
      replace hA := hA.below hb2
      refine wpAnyZ_one (i := 11) (by kernel_rfl) rfl (fun K hK => ?_)
      go_simp
      go_at_call 45
      refine (restored_any c k r F (movB (addK F r x)) _ (movB_lt (addK_lt oF ox r)) hS.2.2.2.1).mono ?_
      rintro e w3 ⟨rfl, hb3⟩
      go_wp2_with fail
      refine hK.out _ _ (fun _ => hS.grow hb3) ?_
      replace hS := hS.grow hb3
      clear hK K
      try simp only [Act.put, List.setIfInBounds_toArray, List.set_cons_zero, List.set_cons_succ]
      replace hA := hA.below hb3
      have hT := hA.there
      refine wpAnyZ_one (i := 13) (by kernel_rfl) rfl (fun K hK => ?_)
      rw [if_pos (by rfl)]
      refine wp_store_arr _ _ _ rfl wa.heap.size 16 (backS (movB (addK F r x))) rfl rfl hT his ?_
      try simp only [Act.put, List.setIfInBounds_toArray, List.set_cons_zero, List.set_cons_succ]
      refine hK.out _ _ (fun h => absurd h (by decide)) ?_
      clear hK K
      refine wpAnyZ_done (by kernel_rfl) ?_ _
      go_wp2_with fail
      go_meet
      exact ⟨wa.heap.size, rfl, hg, by rw [hy.out]; exact hA.put _, hS.2.2.2.put hg _⟩
  case rest =>
    obtain ⟨g, rfl, hg, hA, hI⟩ := hcut
    clear hs hzb
    have HA := hid hA
    have HI := hid hI
    have hd0 := hid (show decN F (r - 1) y = dec F r x from by rw [hy.out]; rfl)
    clear hA hI
    have e5 : IntKind.i64.wrap ((r : Int) - 1) = (r : Int) - 1 := by simp [IntKind.wrap, IntKind.bits, IntKind.signed]; omega
    go_wp2_with fail
    go_loopw [8] (fun i wr => ∃ n : Nat, n ≤ r - 1 ∧ i = .int .i64 (n : Int) ∧ ∃ z, Arr wr g 16 z ∧ (∀ j, z j < 256) ∧ Hid (decN F n z = dec F r x) ∧ Inv w c k r F wr) (fun i _ => (intOf i).toNat)
    case atStart => exact ⟨r - 1, Nat.le_refl _, by congr 1; omega, y, HA.out, oy, hd0, HI.out⟩
    case round =>
      clear HA HI hd0 e5 hy oy
      obtain ⟨n, hn, rfl, z, hA, oz, hzd, hI⟩ := hrel
      rcases n with _ | n
      · have hs := hid (Cip.st hI hA 0 (Nat.zero_le _) 0 rfl)
        clear hA hI
        go_wp2_with fail
        refine wp_region_z (St w c k r F g z 0 (fun p => F (16 * 0 + p))) 8 (by kernel_rfl) hs.out.drew (fun hS => ?_)
        refine wpAnyZ_take (i := 0) rfl (by kernel_rfl) (by kernel_rfl) (by kernel_rfl) (by kernel_rfl) (fun _ _ _ h => h) hS (yieldsIf_load_mid (by kernel_rfl) 54 (.tmp 7) rfl g 0 (by kernel_rfl) (vals 16 z) _ (fun w hS => hS.2.1) hus rfl his) ?_
        simp only [Act.put, List.setIfInBounds_toArray, List.set_cons_zero, List.set_cons_succ]
        refine wpAnyZ_take (i := 1) (v := .pointer (some ⟨c, 0, none⟩)) rfl (by kernel_rfl) (by kernel_rfl) (by kernel_rfl) (by kernel_rfl) (fun _ _ _ h => h) hS (Or.inl ⟨by kernel_rfl, fun w hS => (by clear hS; go_simp)⟩) ?_
        simp only [Act.put, List.setIfInBounds_toArray, List.set_cons_zero, List.set_cons_succ]
        refine wpAnyZ_take (i := 2) (v := .pointer (some ⟨c, 0, none⟩)) rfl (by kernel_rfl) (by kernel_rfl) (by kernel_rfl) (by kernel_rfl) (fun _ _ _ h => h) hS (Or.inl ⟨by kernel_rfl, fun w hS => (by clear hS; go_simp)⟩) ?_
        simp only [Act.put, List.setIfInBounds_toArray, List.set_cons_zero, List.set_cons_succ]
        refine wpAnyZ_take (i := 3) (v := .pointer (some ⟨c, 0, none⟩)) rfl (by kernel_rfl) (by kernel_rfl) (by kernel_rfl) (by kernel_rfl) (fun _ _ _ h => h) hS (Or.inl ⟨by kernel_rfl, fun w hS => (by clear hS; go_simp)⟩) ?_
        simp only [Act.put, List.setIfInBounds_toArray, List.set_cons_zero, List.set_cons_succ]
        refine wpAnyZ_take (i := 4) (v := .slice (some ⟨k, 0, none⟩) (r + 1) (r + 1)) rfl (by kernel_rfl) (by kernel_rfl) (by kernel_rfl) (by kernel_rfl) (fun _ _ _ h => h) hS (Or.inl ⟨by kernel_rfl, fun w hS => (by have h := hS.1; clear hS; go_simp)⟩) ?_
        simp only [Act.put, List.setIfInBounds_toArray, List.set_cons_zero, List.set_cons_succ]
        refine wpAnyZ_take (i := 5) (v := .pointer (some ⟨k, 0, none⟩)) rfl (by kernel_rfl) (by kernel_rfl) (by kernel_rfl) (by kernel_rfl) (fun _ _ _ h => h) hS (Or.inl ⟨by kernel_rfl, fun w hS => (by clear hS; go_simp)⟩) ?_
        simp only [Act.put, List.setIfInBounds_toArray, List.set_cons_zero, List.set_cons_succ]
        refine wpAnyZ_take (i := 6) rfl (by kernel_rfl) (by kernel_rfl) (by kernel_rfl) (by kernel_rfl) (fun _ _ _ h => h) hS (yieldsIf_load_mid (by kernel_rfl) 54 (.tmp 54) rfl k 0 (by kernel_rfl) (vals 16 (fun p => F (16 * 0 + p))) _ (fun w hS => hS.2.2.1) hus rfl his) ?_
        simp only [Act.put, List.setIfInBounds_toArray, List.set_cons_zero, List.set_cons_succ]
        refine wpAnyZ_one (i := 7) (by kernel_rfl) rfl (fun K hK => ?_)
        go_simp
        go_at_call 37
        refine (plus_any z (fun p => F (16 * 0 + p)) _ oz (fun p => oF _)).mono ?_
        rintro e w' ⟨rfl, hb⟩
        go_wp2_with fail
        refine hK.out _ _ (fun _ => hS.grow hb) ?_
        replace hS := hS.grow hb
        clear hK K
        try simp only [Act.put, List.setIfInBounds_toArray, List.set_cons_zero, List.set_cons_succ]
        have hT := hS.2.2.2.2.2.1.there
        refine wpAnyZ_one (i := 8) (by kernel_rfl) rfl (fun K hK => ?_)
        rw [if_pos (by rfl)]
        refine wp_store_arr _ _ _ rfl (w.heap.size + 1) 16 (addK F 0 z) rfl rfl hT hib ?_
        try simp only [Act.put, List.setIfInBounds_toArray, List.set_cons_zero, List.set_cons_succ]
        refine hK.out _ _ (fun h => absurd h (by decide)) ?_
        clear hK K
        refine wpAnyZ_one (i := 9) (by kernel_rfl) rfl (fun K hK => ?_)
        go_simp
        refine hK.out _ _ (fun h => absurd h (by decide)) ?_
        clear hK K
        try simp only [Act.put, List.setIfInBounds_toArray, List.set_cons_zero, List.set_cons_succ]
        refine wpAnyZ_done (by kernel_rfl) ?_ _
        go_wp2_with fail
        have hd := hzd.out
        refine bodyPost_ret (v := .tuple #[.agg (vals 16 (addK F 0 z)).toArray, .int .i64 0]) ?_ rfl ⟨by rw [← hd]; rfl, below_setCells _ 0 hS.2.2.2.2.2.2 (by omega)⟩
        exact results_cell_tmp_arr rfl _ _ 16 _ _ _ rfl rfl (hS.2.2.2.2.2.1.put _) hub rfl hib
      · have hs := hid (Cip.st hI hA (n + 1) (by omega) ((n + 1) * 16) (by omega))
        have HA := hid hA
        have e6 : ¬ ((r : Int) + 1 ≤ (n : Int) + 1) := by omega
        have e7 : (0 : Int) < (n : Int) + 1 := by omega
        have e8 : ¬ ((n : Int) + 1 < 0) := by omega
        clear hA hI
        go_wp2_with fail
        refine wp_region_z (St w c k r F g z ((n + 1) * 16) (fun p => F (16 * (n + 1) + p))) 13 (by kernel_rfl) hs.out.drew (fun hS => ?_)
        refine wpAnyZ_take (i := 0) (v := .pointer (some ⟨c, 0, none⟩)) rfl (by kernel_rfl) (by kernel_rfl) (by kernel_rfl) (by kernel_rfl) (fun _ _ _ h => h) hS (Or.inl ⟨by kernel_rfl, fun w hS => (by clear hS; go_simp)⟩) ?_
        simp only [Act.put, List.setIfInBounds_toArray, List.set_cons_zero, List.set_cons_succ]
        refine wpAnyZ_take (i := 1) rfl (by kernel_rfl) (by kernel_rfl) (by kernel_rfl) (by kernel_rfl) (fun _ _ _ h => h) hS (yieldsIf_load_mid (by kernel_rfl) 54 (.tmp 7) rfl g 0 (by kernel_rfl) (vals 16 z) _ (fun w hS => hS.2.1) hus rfl his) ?_
        simp only [Act.put, List.setIfInBounds_toArray, List.set_cons_zero, List.set_cons_succ]
        refine wpAnyZ_take (i := 2) (v := .pointer (some ⟨c, 0, none⟩)) rfl (by kernel_rfl) (by kernel_rfl) (by kernel_rfl) (by kernel_rfl) (fun _ _ _ h => h) hS (Or.inl ⟨by kernel_rfl, fun w hS => (by clear hS; go_simp)⟩) ?_
        simp only [Act.put, List.setIfInBounds_toArray, List.set_cons_zero, List.set_cons_succ]
        refine wpAnyZ_take (i := 3) (v := .pointer (some ⟨c, 0, none⟩)) rfl (by kernel_rfl) (by kernel_rfl) (by kernel_rfl) (by kernel_rfl) (fun _ _ _ h => h) hS (Or.inl ⟨by kernel_rfl, fun w hS => (by clear hS; go_simp)⟩) ?_
        simp only [Act.put, List.setIfInBounds_toArray, List.set_cons_zero, List.set_cons_succ]
        refine wpAnyZ_take (i := 4) (v := .pointer (some ⟨c, 0, none⟩)) rfl (by kernel_rfl) (by kernel_rfl) (by kernel_rfl) (by kernel_rfl) (fun _ _ _ h => h) hS (Or.inl ⟨by kernel_rfl, fun w hS => (by clear hS; go_simp)⟩) ?_
        simp only [Act.put, List.setIfInBounds_toArray, List.set_cons_zero, List.set_cons_succ]
        refine wpAnyZ_take (i := 5) (v := .slice (some ⟨k, 0, none⟩) (r + 1) (r + 1)) rfl (by kernel_rfl) (by kernel_rfl) (by kernel_rfl) (by kernel_rfl) (fun _ _ _ h => h) hS (Or.inl ⟨by kernel_rfl, fun w hS => (by have h := hS.1; clear hS; go_simp)⟩) ?_
        simp only [Act.put, List.setIfInBounds_toArray, List.set_cons_zero, List.set_cons_succ]
        refine wpAnyZ_take (i := 6) (v := .int .i64 ((n : Int) + 1)) rfl (by kernel_rfl) (by kernel_rfl) (by kernel_rfl) (by kernel_rfl) (fun _ _ _ h => h) hS (Or.inl ⟨by kernel_rfl, fun w hS => (by clear hS; go_simp)⟩) ?_
        simp only [Act.put, List.setIfInBounds_toArray, List.set_cons_zero, List.set_cons_succ]
        refine wpAnyZ_take (i := 7) (v := .pointer (some ⟨k, (n + 1) * 16, none⟩)) rfl (by kernel_rfl) (by kernel_rfl) (by kernel_rfl) (by kernel_rfl) (fun _ _ _ h => h) hS (Or.inl ⟨by kernel_rfl, fun w hS => (by clear hS; go_simp)⟩) ?_
        simp only [Act.put, List.setIfInBounds_toArray, List.set_cons_zero, List.set_cons_succ]
        refine wpAnyZ_take (i := 8) rfl (by kernel_rfl) (by kernel_rfl) (by kernel_rfl) (by kernel_rfl) (fun _ _ _ h => h) hS (yieldsIf_load_mid (by kernel_rfl) 54 (.tmp 43) rfl k ((n + 1) * 16) (by kernel_rfl) (vals 16 (fun p => F (16 * (n + 1) + p))) _ (fun w hS => hS.2.2.1) hus rfl his) ?_
        simp only [Act.put, List.setIfInBounds_toArray, List.set_cons_zero, List.set_cons_succ]
        have hA := HA.out.drew
        refine wpAnyZ_one (i := 9) (by kernel_rfl) rfl (fun K hK => ?_)
        go_simp
        go_at_call 37
        refine (plus_any z (fun p => F (16 * (n + 1) + p)) _ oz (fun p => oF _)).mono ?_
        rintro e w1 ⟨rfl, hb1⟩
        go_wp2_with fail
        refine hK.out _ _ (fun _ => hS.grow hb1) ?_
        replace hS := hS.grow hb1
        clear hK K
        try simp only [Act.put, List.setIfInBounds_toArray, List.set_cons_zero, List.set_cons_succ]
        replace hA := hA.below hb1
        refine wpAnyZ_one (i := 10) (by kernel_rfl) rfl (fun K hK => ?_)
        go_simp
        go_at_call 47
        refine (unmixed_any (addK F (n + 1) z) _ (addK_lt oF oz (n + 1))).mono ?_
        rintro e w2 ⟨rfl, hb2⟩
        go_wp2_with fail
        refine hK.out _ _ (fun _ => hS.grow hb2) ?_
        replace hS := hS.grow hb2
        clear hK K
        try simp only [Act.put, List.setIfInBounds_toArray, List.set_cons_zero, List.set_cons_succ]
        replace hA := hA.below hb2
        refine wpAnyZ_one (i := 11) (by kernel_rfl) rfl (fun K hK => ?_)
        go_simp
        go_at_call 46
        refine (movedBack_any (unmixS (addK F (n + 1) z)) _ (unmixS_lt _)).mono ?_
        rintro e w3 ⟨rfl, hb3⟩
        go_wp2_with fail
        refine hK.out _ _ (fun _ => hS.grow hb3) ?_
        replace hS := hS.grow hb3
        clear hK K
        try simp only [Act.put, List.setIfInBounds_toArray, List.set_cons_zero, List.set_cons_succ]
        replace hA := hA.below hb3
        refine wpAnyZ_one (i := 12) (by kernel_rfl) rfl (fun K hK => ?_)
        go_simp
        go_at_call 45
        refine (restored_any c k r F (movB (unmixS (addK F (n + 1) z))) _ (movB_lt (unmixS_lt _)) hS.2.2.2.1).mono ?_
        rintro e w4 ⟨rfl, hb4⟩
        go_wp2_with fail
        refine hK.out _ _ (fun _ => hS.grow hb4) ?_
        replace hS := hS.grow hb4
        clear hK K
        try simp only [Act.put, List.setIfInBounds_toArray, List.set_cons_zero, List.set_cons_succ]
        replace hA := hA.below hb4
        have hT := hA.there
        refine wpAnyZ_one (i := 13) (by kernel_rfl) rfl (fun K hK => ?_)
        rw [if_pos (by rfl)]
        refine wp_store_arr _ _ _ rfl g 16 (unrnd F (n + 1) z) rfl rfl hT his ?_
        try simp only [Act.put, List.setIfInBounds_toArray, List.set_cons_zero, List.set_cons_succ]
        refine hK.out _ _ (fun h => absurd h (by decide)) ?_
        clear hK K
        refine wpAnyZ_done (by kernel_rfl) ?_ _
        go_wp2_with fail
        go_roundw
        case rel => exact ⟨n, by omega, by go_num, _, hA.put _, unrnd_lt F z (n + 1), hzd, hS.2.2.2.put hg _⟩
        case measure => simp [intOf]
end Go.Proofs.Ytdifilcgammniaa
