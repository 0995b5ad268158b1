/-
  The walk of AesEncrypts.
-/
import Derived.Test.YtdifilcgammniaaAnw
import Derived.Test.YtdifilcgammniaaAsay
namespace Go.Proofs.Ytdifilcgammniaa
open Go.RowKit
set_option linter.unusedVariables false
set_option linter.unusedSimpArgs false

/-- The document's Encrypt, of the cipher's words. -/
theorem refEnc_of (n r : Nat) (F : Nat → Nat) (xs : List Int) (p : Option Addr) (cap : Nat) (b : Nat → Nat) (w : World) (h : n = 16 ∨ n = 32) (hr : r = n / 4 + 6 ∧ F = wordB (n / 4) (nats xs)) (hp : Bin w p xs) (hx : Oct xs) (hl : xs.length = n) (ob : ∀ j, b j < 256) :
    Calls Try.prog 19 #[.slice p n cap, .agg (vals 16 b).toArray] w fun e w' => e = .returned (.agg (vals 16 (enc F r b)).toArray) ∧ Below w.heap.size w w' := by
  rw [hr.2]
  exact refEncrypt_any words_say (n / 4) n r (16 * (r + 1)) xs p cap b w (by omega) hp hx hl ob

set_option maxHeartbeats 8000000 in
set_option maxRecDepth 100000 in
theorem encrypts_law (p : Option Addr) (cap : Nat) (xs : List Int) (b : Nat → Nat) (w : World) (hp : Bin w p xs) (hx : Oct xs) (hm : xs.length ≤ 140737488351232) (ob : ∀ j, b j < 256) :
    Calls Try.prog 4 #[.slice p xs.length cap, .agg (vals 16 b).toArray] w fun e w' => e = .returned (.bool true) ∧ Below w.heap.size w w' := by
  have hzb := Try.zeroBlock
  obtain ⟨wa, hwa, b1, hB, hsz⟩ := boxes1 w 16 b 35
  have hcp := copy_any p cap xs wa (hp.below hB) hm
  obtain ⟨n, hn⟩ : ∃ n, n = xs.length := ⟨_, rfl⟩
  rw [← hn] at hm hcp ⊢
  have HN := hid hn
  have HCP := hid hcp
  clear hn hcp
  go_enter Try.func4, Try.ntmps4
  go_wp2_with fail
  rw [← hwa.out]
  refine (may_any p cap n _).mono ?_
  rintro e w' ⟨rfl, rfl⟩
  by_cases h : n = 16 ∨ n = 32
  · have hmay : mayB n = true := by simp [mayB, h]
    rw [hmay]
    go_wp2_with fail
    refine HCP.out.mono ?_
    rintro e w1 ⟨g0, c0, rfl, hO, hb1⟩
    have hOs := hO.slice
    have b1' := b1.below hb1
    have hB1 := hB.trans (hb1.mono hB.size)
    have HO := hid hO
    have HP := hid hp
    clear HCP hO b1 hB hb1 hwa hp
    go_wp2_with fail
    refine (new_new _ c0 n xs _ hOs.2.2 hx HN.out.symm hOs.2.1 h).mono ?_
    rintro e w2 ⟨c, kb, r, F, rfl, hC, hrF, hr, oF, hb2, hcn, hkn⟩
    have hg1 : g0 < w1.heap.size := World.block_lt_of_cell? w1 _ (HO.out.cellAt 0 (by omega))
    have hO2 := HO.out.below hb2
    have b2 := b1'.below hb2
    have hB2 := hB1.trans (hb2.mono hB1.size)
    have hgc : g0 ≠ c := by omega
    have hgk : g0 ≠ kb := by omega
    have hgw : w.heap.size < g0 := by have := hOs.1; omega
    have H2 := hid (And.intro hO2 (And.intro b2 (And.intro hC hB2)))
    clear HO hOs b1' hB1 hb2 hO2 b2 hB2 hC hcn hkn hg1
    go_wp2_with fail
    go_loopw [30] (fun i wr => ∃ k : Nat, ∃ ys : List Int, k ≤ n ∧ i = .int .i64 (k : Int) ∧ Own wa.heap.size wr (.slice (some ⟨g0, 0, none⟩) n c0) n ys ∧ Arr wr w.heap.size 16 b ∧ Cip wr c kb r F ∧ Below w.heap.size w wr) (fun i _ => n - (intOf i).toNat)
    case atStart => exact ⟨0, xs, Nat.zero_le _, rfl, H2.out⟩
    case round =>
      clear H2
      obtain ⟨k, ys, hk, rfl, hO, hA, hC, hB⟩ := hrel
      by_cases hlt : k < n
      · have hc := hO.cellAt k hlt
        have hf := hO.frozenAt k
        have HS := hid (And.intro (hO.stored k 7) (And.intro (hA.beside (b' := g0) (by omega) k (.int .u8 7)) (And.intro (hC.beside hgc hgk [.int .u8 7] k) (hB.setCell (show w.heap.size ≤ (⟨g0, k, none⟩ : Addr).block from by show w.heap.size ≤ g0; omega) (.int .u8 7)))))
        have kI : (k : Int) < (n : Int) := by omega
        clear hO hA hC hB
        go_wp2_with fail
        go_roundw
        case rel => exact ⟨k + 1, ys.set k 7, by omega, by go_num, HS.out⟩
        case measure => simp [intOf]; omega
      · obtain rfl : k = n := by omega
        have hS : Bks w c kb r F [(w.heap.size, b)] wr := ⟨hC, fun q hq => by
          simp at hq
          subst hq
          exact hA, hB⟩
        clear hO hA hC hB
        go_upto_region 12 with fail
        go_wp2_with (refine wpList_load_arr rfl 35 _ rfl w.heap.size rfl 16 b ?_ _ Try.underlying35 rfl Try.sizeBlock ?_; exact hS.at (by simp))
        refine (encrypt_any c kb r F b _ oF ob hr.1 hr.2 hS.1).mono ?_
        rintro e w3 ⟨rfl, hb3⟩
        obtain ⟨x, hx'⟩ : ∃ z, Hid (z = enc F r b) := ⟨_, rfl⟩
        rw [← hx'.out]
        obtain ⟨hS', hn⟩ := (hS.grow hb3).new x 35
        clear hS hb3
        go_upto_region 13 with (refine wpList_store_arr rfl 35 _ _ rfl w3.heap.size 16 x rfl rfl (fun _ => 0) ?_ Try.sizeBlock ?_; exact hn)
        clear hn
        obtain ⟨gx, hgx⟩ : ∃ g, Hid (g = w3.heap.size) := ⟨_, rfl⟩
        rw [← hgx.out] at hS' ⊢
        generalize (w3.alloc (.cells (vals 16 fun _ => 0).toArray 35)).setCells gx 0 (vals 16 x) = w4 at hS' ⊢
        have hS := hS'
        clear hS'
        have q1 := fun w => same16 x x true w (same16_yes (Eq16.refl _))
        have hub := Try.underlying35
        have hib := Try.sizeBlock
        have HR := fun w' hpw => refEnc_of k r F xs p cap b w' h hrF.out hpw hx HN.out.symm ob
        rw [← hx'.out] at HR
        refine wp_region_z (Bks w c kb r F [(gx, x), (w.heap.size, b)]) 13 (by kernel_rfl) (hS.grow (Below.refl _ _).drew) (fun hS => ?_)
        refine wpAnyZ_take (i := 0) (v := .int .i64 0) rfl (by kernel_rfl) (by kernel_rfl) (by kernel_rfl) (by kernel_rfl) (fun _ _ _ h => h) hS (Or.inl ⟨by kernel_rfl, fun w hS => (by clear hS; go_simp)⟩) ?_
        simp only [Act.put, List.setIfInBounds_toArray, List.set_cons_zero, List.set_cons_succ]
        refine wpAnyZ_take (i := 1) (v := .bool true) rfl (by kernel_rfl) (by kernel_rfl) (by kernel_rfl) (by kernel_rfl) (fun _ _ _ h => h) hS (Or.inl ⟨by kernel_rfl, fun w hS => (by clear hS; go_simp)⟩) ?_
        simp only [Act.put, List.setIfInBounds_toArray, List.set_cons_zero, List.set_cons_succ]
        refine wpAnyZ_take (i := 2) (v := .bool true) rfl (by kernel_rfl) (by kernel_rfl) (by kernel_rfl) (by kernel_rfl) (fun _ _ _ h => h) hS (Or.inl ⟨by kernel_rfl, fun w hS => (by clear hS; go_simp)⟩) ?_
        simp only [Act.put, List.setIfInBounds_toArray, List.set_cons_zero, List.set_cons_succ]
        refine wpAnyZ_take (i := 3) rfl (by kernel_rfl) (by kernel_rfl) (by kernel_rfl) (by kernel_rfl) (fun _ _ _ h => h) hS (yieldsIf_load_mid (by kernel_rfl) 35 (.tmp 9) rfl gx 0 (by kernel_rfl) (vals 16 x) _ (fun w hS => (hS.at (by simp)).range) hub rfl hib) ?_
        simp only [Act.put, List.setIfInBounds_toArray, List.set_cons_zero, List.set_cons_succ]
        refine wpAnyZ_take (i := 4) (v := .slice p k cap) rfl (by kernel_rfl) (by kernel_rfl) (by kernel_rfl) (by kernel_rfl) (fun _ _ _ h => h) hS (Or.inl ⟨by kernel_rfl, fun w hS => (by clear hS; go_simp)⟩) ?_
        simp only [Act.put, List.setIfInBounds_toArray, List.set_cons_zero, List.set_cons_succ]
        refine wpAnyZ_take (i := 5) rfl (by kernel_rfl) (by kernel_rfl) (by kernel_rfl) (by kernel_rfl) (fun _ _ _ h => h) hS (yieldsIf_load_mid (by kernel_rfl) 35 (.tmp 3) rfl w.heap.size 0 (by kernel_rfl) (vals 16 b) _ (fun w hS => (hS.at (by simp)).range) hub rfl hib) ?_
        simp only [Act.put, List.setIfInBounds_toArray, List.set_cons_zero, List.set_cons_succ]
        refine wpAnyZ_one (i := 6) (by kernel_rfl) rfl (fun K hK => ?_)
        go_simp
        go_at_call 19
        refine (HR _ (HP.out.below hS.2.2)).mono ?_
        rintro e w8 ⟨rfl, hb8⟩
        go_wp2_with fail
        refine hK.out _ _ (fun _ => hS.grow hb8) ?_
        replace hS := hS.grow hb8
        clear hK K
        try simp only [Act.put, List.setIfInBounds_toArray, List.set_cons_zero, List.set_cons_succ]
        refine wpAnyZ_take (i := 7) (v := .bool true) rfl (by kernel_rfl) (by kernel_rfl) (by kernel_rfl) (by kernel_rfl) (fun _ _ _ h => h) hS (Or.inl ⟨by kernel_rfl, fun w hS => (by clear hS; go_simp)⟩) ?_
        simp only [Act.put, List.setIfInBounds_toArray, List.set_cons_zero, List.set_cons_succ]
        refine wpAnyZ_take (i := 8) (v := .bool true) rfl (by kernel_rfl) (by kernel_rfl) (by kernel_rfl) (by kernel_rfl) (fun _ _ _ h => h) hS (Or.inl ⟨by kernel_rfl, fun w hS => (by clear hS; go_simp)⟩) ?_
        simp only [Act.put, List.setIfInBounds_toArray, List.set_cons_zero, List.set_cons_succ]
        refine wpAnyZ_take (i := 9) (v := .bool true) rfl (by kernel_rfl) (by kernel_rfl) (by kernel_rfl) (by kernel_rfl) (fun _ _ _ h => h) hS (Or.inl ⟨by kernel_rfl, fun w hS => (by clear hS; go_simp)⟩) ?_
        simp only [Act.put, List.setIfInBounds_toArray, List.set_cons_zero, List.set_cons_succ]
        refine wpAnyZ_one (i := 10) (by kernel_rfl) rfl (fun K hK => ?_)
        go_simp
        go_at_call 16
        refine (known_any _).mono ?_
        rintro e w9 ⟨rfl, hb9⟩
        go_wp2_with fail
        refine hK.out _ _ (fun _ => hS.grow hb9) ?_
        replace hS := hS.grow hb9
        clear hK K
        try simp only [Act.put, List.setIfInBounds_toArray, List.set_cons_zero, List.set_cons_succ]
        refine wpAnyZ_take (i := 11) (v := .bool true) rfl (by kernel_rfl) (by kernel_rfl) (by kernel_rfl) (by kernel_rfl) (fun _ _ _ h => h) hS (Or.inl ⟨by kernel_rfl, fun w hS => (by clear hS; go_simp)⟩) ?_
        simp only [Act.put, List.setIfInBounds_toArray, List.set_cons_zero, List.set_cons_succ]
        refine wpAnyZ_one (i := 12) (by kernel_rfl) rfl (fun K hK => ?_)
        go_simp
        refine hK.out _ _ (fun _ => hS) ?_
        clear hK K
        try simp only [Act.put, List.setIfInBounds_toArray, List.set_cons_zero, List.set_cons_succ]
        refine wpAnyZ_done (by kernel_rfl) ?_ _
        go_wp2_with fail
        go_ret
        exact ⟨rfl, hS.2.2⟩
  · have hmay : mayB n = false := by simp [mayB]; omega
    rw [hmay]
    clear HCP
    go_wp2_with fail
    refine (known_any _).mono ?_
    rintro e w1 ⟨rfl, hb1⟩
    go_wp2_with fail
    go_ret
    exact ⟨rfl, hB.trans (hb1.mono hB.size)⟩
end Go.Proofs.Ytdifilcgammniaa
