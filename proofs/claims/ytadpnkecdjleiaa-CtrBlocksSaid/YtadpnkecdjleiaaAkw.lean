/-
  The contract of the program's Words.
-/
import Derived.Test.YtadpnkecdjleiaaAkeys
namespace Go.Proofs.Ytadpnkecdjleiaa
open Go.RowKit
set_option linter.unusedVariables false
set_option linter.unusedSimpArgs false

/-- The numbers of a slice of bytes. -/
def nats (xs : List Int) : List Nat := xs.map Int.toNat
theorem nats_length (xs : List Int) : (nats xs).length = xs.length := by simp [nats]
theorem nats_lt {xs : List Int} (h : Oct xs) : ∀ x ∈ nats xs, x < 256 := by
  intro x hx
  simp only [nats, List.mem_map] at hx
  obtain ⟨y, hy, rfl⟩ := hx
  have := h y hy
  omega
theorem nats_at {xs : List Int} (h : Oct xs) (j : Nat) : xs.getD j 0 = ((nats xs).getD j 0 : Nat) := by
  have h0 := h.at j
  have e : (nats xs).getD j 0 = (xs.getD j 0).toNat := by
    simp only [nats, List.getD_eq_getElem?_getD, List.getElem?_map]
    cases xs[j]? <;> rfl
  rw [e]
  omega
theorem bin_range {w : World} {b o : Nat} {xs : List Int} (hx : Oct xs) (hc : ∀ i, i < xs.length → w.cell? ⟨b, o + i, none⟩ = some (.int .u8 (xs.getD i 0))) (s n : Nat) (h : s + n ≤ xs.length) :
    w.rangeAt b (o + s) (vals n fun p => (nats xs).getD (s + p) 0) := fun j v hv => by
  have hj : j < n := by have := (List.getElem?_eq_some_iff.1 hv).1; rwa [vals_length] at this
  rw [vals_at _ _ _ hj] at hv
  rw [← hv, Nat.add_assoc, hc (s + j) (by omega), nats_at hx]

/-- F, as far as m. -/
def upto (F : Nat → Nat) (m j : Nat) : Nat := if j < m then F j else 0
theorem upto_lt (F : Nat → Nat) (m j : Nat) (h : j < m) : upto F m j = F j := if_pos h
theorem upto_put (F : Nat → Nat) (i : Nat) (y : Nat → Nat) (hy : ∀ p, p < 4 → y p = F (4 * i + p)) (j : Nat) :
    upto F (4 * (i + 1)) j = if i * 4 ≤ j ∧ j < i * 4 + 4 then y (j - i * 4) else upto F (4 * i) j := by
  unfold upto
  by_cases h : i * 4 ≤ j ∧ j < i * 4 + 4
  · rw [if_pos h, if_pos (by omega), hy _ (by omega), show 4 * i + (j - i * 4) = j from by omega]
  · rw [if_neg h]
    by_cases h2 : j < 4 * i
    · rw [if_pos h2, if_pos (by omega)]
    · rw [if_neg h2, if_neg (by omega)]

theorem keysS_grow {w w1 w2 : World} {g a c n : Nat} {x y z : Nat → Nat} (h : w1.rangeAt g a (vals 4 x) ∧ w1.rangeAt g c (vals 4 y) ∧ Arr w1 g n z ∧ Below w.heap.size w w1) (hb : Below w1.heap.size w1 w2) :
    w2.rangeAt g a (vals 4 x) ∧ w2.rangeAt g c (vals 4 y) ∧ Arr w2 g n z ∧ Below w.heap.size w w2 :=
  ⟨range_below h.1 (by rw [vals_length]; decide) hb, range_below h.2.1 (by rw [vals_length]; decide) hb, h.2.2.1.below hb, h.2.2.2.trans (hb.mono h.2.2.2.size)⟩
theorem words_no (p : Option Addr) (cap n : Nat) (w : World) (h1 : n ≠ 16) (h2 : n ≠ 32) :
    Calls Try.prog 27 #[.slice p n cap] w fun e w' => e = .returned (.tuple #[.slice none 0 0, .int .i64 2]) ∧ w = w' := by
  have e1 : ((n : Int) != 16) = true := by simp; omega
  have e2 : ((n : Int) != 32) = true := by simp; omega
  go_enter Try.func27, Try.ntmps27
  go_wp2
  go_ret2
  exact ⟨rfl, rfl⟩

theorem changed4_at (x : Nat → Nat) (m : Nat) (w : World) (ox : ∀ j, x j < 256) (hm : m < 80) :
    Calls Try.prog 39 #[.agg (vals 4 x).toArray, .int .i64 ((m : Int) + 4), .int .i64 4] w fun e w' =>
      e = .returned (.agg (vals 4 (chg 4 (m + 4) x)).toArray) ∧ Below w.heap.size w w' := by
  have h := changed4_any x (m + 4) w ox (by omega) (by omega)
  rw [show ((m + 4 : Nat) : Int) = (m : Int) + 4 from by omega] at h
  exact h

set_option maxHeartbeats 4000000 in
set_option maxRecDepth 100000 in
theorem words4_any (p : Option Addr) (cap : Nat) (xs : List Int) (w : World) (hp : Bin w p xs) (hx : Oct xs) (hl : xs.length = 16) (hcap : 16 ≤ cap) :
    Calls Try.prog 27 #[.slice p 16 cap] w fun e w' => ∃ g, e = .returned (.tuple #[.slice (some ⟨g, 0, none⟩) 44 44, .int .i64 0]) ∧
      Arr w' g 176 (wordB 4 (nats xs)) ∧ Below w.heap.size w w' ∧ w.heap.size ≤ g := by
  obtain ⟨i0, hi0, hz0, hz1, hz2⟩ := info_parts Try.infoWord
  obtain ⟨F, hF⟩ : ∃ F, Hid (F = wordB 4 (nats xs)) := ⟨_, rfl⟩
  have oF : ∀ j, F j < 256 := by rw [hF.out]; exact wordB_lt (nats_lt hx)
  have huw := Try.underlying68
  have hiw := Try.sizeWord
  obtain ⟨b, o, rfl, hlb, hc⟩ := hp.at (by omega)
  have HC := hid hc
  clear hc hp
  have hB : Below w.heap.size w (w.alloc (.cells (vals 176 fun _ => 0).toArray 68)) := (Below.refl _ _).alloc (Nat.le_refl _) _
  have hA := arr_new w 176 (fun _ => 0) 68
  rw [← hF.out]
  go_enter Try.func27, Try.ntmps27
  go_wp2_with (at_make; refine wpList_make_arr _ rfl _ _ 61 rfl 68 i0 4 (by decide) (by decide) Try.underlying61 hi0 hz0 hz1 hz2 .i64 .i64 _ _ 44 rfl rfl rfl rfl (by decide) ?_)
  generalize hg : w.heap.size = g
  rw [hg] at hA
  have hgb : b < g := by omega
  have hgw : w.heap.size ≤ g := by omega
  generalize w.alloc (.cells (vals 176 fun _ => 0).toArray 68) = w0 at hA hB ⊢
  have HB0 := hid hB
  have HA0 := hid hA
  have HG := hid hg
  clear hA hB hg
  go_loopw [24] (fun i wr => ∃ n : Nat, n ≤ 4 ∧ i = .int .i64 (n : Int) ∧ Arr wr g 176 (upto F (4 * n)) ∧ Below w.heap.size w wr) (fun i _ => 4 - (intOf i).toNat)
  case atStart => exact ⟨0, by decide, rfl, HA0.out.same fun j _ => by unfold upto; simp, HB0.out⟩
  case round =>
    clear HA0 HB0
    obtain ⟨i, hi, rfl, hA, hB⟩ := hrel
    by_cases hlt : i < 4
    · have hR := bin_range hx (fun j hj => (hB.cell (p := ⟨b, o + j, none⟩) hlb).trans (HC.out j hj)) (4 * i) 4 (by omega)
      have hy : ∀ p, p < 4 → (nats xs).getD (4 * i + p) 0 = F (4 * i + p) := fun p hp => by rw [hF.out, wordB_key (by rw [nats_length, hl]) _ (by omega)]
      obtain ⟨n', hn', hN, hA'⟩ : ∃ n' : Nat, n' ≤ 4 ∧ Hid ((n' : Int) = (i : Int) + 1) ∧ Arr (wr.setCells g (i * 4) (vals 4 fun p => (nats xs).getD (4 * i + p) 0)) g 176 (upto F (4 * n')) :=
        ⟨i + 1, by omega, hid (by omega), hA.putAt (by omega) _ _ fun j _ => upto_put F i _ hy j⟩
      have hb' := below_setCells (b := g) (vals 4 fun p => (nats xs).getD (4 * i + p) 0) (i * 4) hB (by omega)
      have hT := hA.thereAt (o := i * 4) (n := 4) (by omega)
      have e := word_at b (o + 4 * i) (16 - 4 * i) (cap - 4 * i) (by omega) wr
      have HR := hid hR
      have HT := hid hT
      have HA' := hid hA'
      have HB' := hid hb'
      clear hA hB hR hT hy hA' hb' HC
      rcases (show i = 0 ∨ i = 1 ∨ i = 2 ∨ i = 3 from by omega) with rfl | rfl | rfl | rfl
      all_goals
        simp at e
        have hR := HR.out
        have hT := HT.out
        simp only [Nat.reduceMul, Nat.add_zero, Nat.zero_mul, Nat.mul_zero, Nat.zero_add] at hR hT HA' HB'
        generalize hq : (fun p => (nats xs).getD _ 0) = q at hR HA' HB'
        have HQ := hid hq
        have HR' := hid hR
        have HT' := hid hT
        clear hR hT hq HR HT
        go_wp2_with (first | (refine wpList_load_mid rfl 68 _ rfl b _ rfl (vals 4 q) _ ?_ huw rfl hiw ?_; exact HR'.out) | (refine wpList_store_mid rfl 68 _ _ rfl g _ (vals 4 q).toArray rfl rfl ?_ hiw (all_oneCell_toArray (vals_one 4 _)) ?_; exact HT'.out))
        go_roundw
        case rel => exact ⟨n', hn', by (have := hN.out; congr 1; omega), HA'.out, HB'.out⟩
        case measure => simp [intOf]
    · obtain rfl : i = 4 := by omega
      have HA0 := hid hA
      have HB0 := hid hB
      clear hA hB HC
      rw [show ((4 : Nat) : Int) = (4 : Int) from rfl]
      go_wp2_with fail
      go_loopw [7] (fun i wr => ∃ m : Nat, m ≤ 40 ∧ i = .int .i64 ((m : Int) + 4) ∧ Arr wr g 176 (upto F (4 * (4 + m))) ∧ Below w.heap.size w wr) (fun i _ => 44 - (intOf i).toNat)
      case atStart => exact ⟨0, by decide, rfl, HA0.out, HB0.out⟩
      case round =>
        clear HA0 HB0
        obtain ⟨m, hm, rfl, hA, hB⟩ := hrel
        by_cases hlt : m < 40
        · have hs := hid (show (wr.drew.rangeAt g (m * 4) (vals 4 fun p => F (m * 4 + p)) ∧ wr.drew.rangeAt g ((m + 3) * 4) (vals 4 fun p => F ((m + 3) * 4 + p)) ∧ Arr wr.drew g 176 (upto F (4 * (4 + m))) ∧ Below w.heap.size w wr.drew) from
            ⟨(vals_same (n := 4) (fun j hj => upto_lt F (4 * (4 + m)) (m * 4 + j) (by omega))) ▸ hA.drew.part (o := m * 4) (n := 4) (by omega), (vals_same (n := 4) (fun j hj => upto_lt F (4 * (4 + m)) ((m + 3) * 4 + j) (by omega))) ▸ hA.drew.part (o := (m + 3) * 4) (n := 4) (by omega), hA.drew, hB.drew⟩)
          have hst : ∀ j, j < 4 → F (m * 4 + j) ^^^ chg 4 (m + 4) (fun p => F ((m + 3) * 4 + p)) j = F (4 * (m + 4) + j) := fun j hj => by
            have hstep : F (4 * (m + 4) + j) = F (4 * (m + 4 - 4) + j) ^^^ chg 4 (m + 4) (fun q => F (4 * (m + 4 - 1) + q)) j := by
              rw [hF.out]; exact wordB_step (by rw [nats_length, hl]) (by decide) (m + 4) j (by omega) (by omega) hj
            rw [hstep, show 4 * (m + 4 - 4) + j = m * 4 + j from by omega, show 4 * (m + 4 - 1) = (m + 3) * 4 from by omega]
          have e1 : (m : Int) + 4 < 44 := by omega
          have e2 : ¬ (44 ≤ (m : Int)) := by omega
          have e3 : (m : Int) + 3 < 44 := by omega
          have e4 : (m : Int) < 44 := by omega
          have p3 : (0 : Int) ≤ (m : Int) + 3 := by omega
          have t3 : ((m : Int) + 3).toNat = m + 3 := by omega
          have p4 : (0 : Int) ≤ (m : Int) + 4 := by omega
          have t4 : ((m : Int) + 4).toNat = m + 4 := by omega
          have HST := hid hst
          clear hA hB hst
          go_wp2_with fail
          refine wp_region_z (fun wx => wx.rangeAt g (m * 4) (vals 4 fun p => F (m * 4 + p)) ∧ wx.rangeAt g ((m + 3) * 4) (vals 4 fun p => F ((m + 3) * 4 + p)) ∧ Arr wx g 176 (upto F (4 * (4 + m))) ∧ Below w.heap.size w wx) 18 (by kernel_rfl) hs.out (fun hS => ?_)
          refine wpAnyZ_take (i := 0) (v := .slice (some ⟨g, 0, none⟩) 44 44) rfl (by kernel_rfl) (by kernel_rfl) (by kernel_rfl) (by kernel_rfl) (fun _ _ _ h => h) hS (Or.inl ⟨by kernel_rfl, fun w hS => (by clear hS; go_simp)⟩) ?_
          simp only [Act.put, List.setIfInBounds_toArray, List.set_cons_zero, List.set_cons_succ]
          refine wpAnyZ_take (i := 1) (v := .int .i64 ((m : Int) + 4)) rfl (by kernel_rfl) (by kernel_rfl) (by kernel_rfl) (by kernel_rfl) (fun _ _ _ h => h) hS (Or.inl ⟨by kernel_rfl, fun w hS => (by clear hS; go_simp)⟩) ?_
          simp only [Act.put, List.setIfInBounds_toArray, List.set_cons_zero, List.set_cons_succ]
          refine wpAnyZ_take (i := 2) (v := .slice (some ⟨g, 0, none⟩) 44 44) rfl (by kernel_rfl) (by kernel_rfl) (by kernel_rfl) (by kernel_rfl) (fun _ _ _ h => h) hS (Or.inl ⟨by kernel_rfl, fun w hS => (by clear hS; go_simp)⟩) ?_
          simp only [Act.put, List.setIfInBounds_toArray, List.set_cons_zero, List.set_cons_succ]
          refine wpAnyZ_take (i := 3) (v := .int .i64 ((m : Int) + 4)) rfl (by kernel_rfl) (by kernel_rfl) (by kernel_rfl) (by kernel_rfl) (fun _ _ _ h => h) hS (Or.inl ⟨by kernel_rfl, fun w hS => (by clear hS; go_simp)⟩) ?_
          simp only [Act.put, List.setIfInBounds_toArray, List.set_cons_zero, List.set_cons_succ]
          refine wpAnyZ_take (i := 4) (v := .int .i64 4) rfl (by kernel_rfl) (by kernel_rfl) (by kernel_rfl) (by kernel_rfl) (fun _ _ _ h => h) hS (Or.inl ⟨by kernel_rfl, fun w hS => (by clear hS; go_simp)⟩) ?_
          simp only [Act.put, List.setIfInBounds_toArray, List.set_cons_zero, List.set_cons_succ]
          refine wpAnyZ_take (i := 5) (v := .int .i64 (m : Int)) rfl (by kernel_rfl) (by kernel_rfl) (by kernel_rfl) (by kernel_rfl) (fun _ _ _ h => h) hS (Or.inl ⟨by kernel_rfl, fun w hS => (by clear hS; go_simp; (try (simp [IntKind.wrap, IntKind.bits, IntKind.signed])); (try omega))⟩) ?_
          simp only [Act.put, List.setIfInBounds_toArray, List.set_cons_zero, List.set_cons_succ]
          refine wpAnyZ_take (i := 6) (v := .pointer (some ⟨g, m * 4, none⟩)) rfl (by kernel_rfl) (by kernel_rfl) (by kernel_rfl) (by kernel_rfl) (fun _ _ _ h => h) hS (Or.inl ⟨by kernel_rfl, fun w hS => (by clear hS; go_simp)⟩) ?_
          simp only [Act.put, List.setIfInBounds_toArray, List.set_cons_zero, List.set_cons_succ]
          refine wpAnyZ_take (i := 7) rfl (by kernel_rfl) (by kernel_rfl) (by kernel_rfl) (by kernel_rfl) (fun _ _ _ h => h) hS (yieldsIf_load_mid (by kernel_rfl) 68 (.tmp 50) rfl g (m * 4) (by kernel_rfl) (vals 4 fun p => F (m * 4 + p)) _ (fun w hS => hS.1) huw rfl hiw) ?_
          simp only [Act.put, List.setIfInBounds_toArray, List.set_cons_zero, List.set_cons_succ]
          refine wpAnyZ_take (i := 8) (v := .slice (some ⟨g, 0, none⟩) 44 44) rfl (by kernel_rfl) (by kernel_rfl) (by kernel_rfl) (by kernel_rfl) (fun _ _ _ h => h) hS (Or.inl ⟨by kernel_rfl, fun w hS => (by clear hS; go_simp)⟩) ?_
          simp only [Act.put, List.setIfInBounds_toArray, List.set_cons_zero, List.set_cons_succ]
          refine wpAnyZ_take (i := 9) (v := .int .i64 ((m : Int) + 4)) rfl (by kernel_rfl) (by kernel_rfl) (by kernel_rfl) (by kernel_rfl) (fun _ _ _ h => h) hS (Or.inl ⟨by kernel_rfl, fun w hS => (by clear hS; go_simp)⟩) ?_
          simp only [Act.put, List.setIfInBounds_toArray, List.set_cons_zero, List.set_cons_succ]
          refine wpAnyZ_take (i := 10) (v := .int .i64 ((m : Int) + 3)) rfl (by kernel_rfl) (by kernel_rfl) (by kernel_rfl) (by kernel_rfl) (fun _ _ _ h => h) hS (Or.inl ⟨by kernel_rfl, fun w hS => (by clear hS; go_simp; (try (simp [IntKind.wrap, IntKind.bits, IntKind.signed])); (try omega))⟩) ?_
          simp only [Act.put, List.setIfInBounds_toArray, List.set_cons_zero, List.set_cons_succ]
          refine wpAnyZ_take (i := 11) (v := .pointer (some ⟨g, (m + 3) * 4, none⟩)) rfl (by kernel_rfl) (by kernel_rfl) (by kernel_rfl) (by kernel_rfl) (fun _ _ _ h => h) hS (Or.inl ⟨by kernel_rfl, fun w hS => (by clear hS; go_simp)⟩) ?_
          simp only [Act.put, List.setIfInBounds_toArray, List.set_cons_zero, List.set_cons_succ]
          refine wpAnyZ_take (i := 12) rfl (by kernel_rfl) (by kernel_rfl) (by kernel_rfl) (by kernel_rfl) (fun _ _ _ h => h) hS (yieldsIf_load_mid (by kernel_rfl) 68 (.tmp 55) rfl g ((m + 3) * 4) (by kernel_rfl) (vals 4 fun p => F ((m + 3) * 4 + p)) _ (fun w hS => hS.2.1) huw rfl hiw) ?_
          simp only [Act.put, List.setIfInBounds_toArray, List.set_cons_zero, List.set_cons_succ]
          refine wpAnyZ_take (i := 13) (v := .int .i64 ((m : Int) + 4)) rfl (by kernel_rfl) (by kernel_rfl) (by kernel_rfl) (by kernel_rfl) (fun _ _ _ h => h) hS (Or.inl ⟨by kernel_rfl, fun w hS => (by clear hS; go_simp)⟩) ?_
          simp only [Act.put, List.setIfInBounds_toArray, List.set_cons_zero, List.set_cons_succ]
          refine wpAnyZ_take (i := 14) (v := .int .i64 4) rfl (by kernel_rfl) (by kernel_rfl) (by kernel_rfl) (by kernel_rfl) (fun _ _ _ h => h) hS (Or.inl ⟨by kernel_rfl, fun w hS => (by clear hS; go_simp)⟩) ?_
          simp only [Act.put, List.setIfInBounds_toArray, List.set_cons_zero, List.set_cons_succ]
          refine wpAnyZ_one (i := 15) (by kernel_rfl) rfl (fun K hK => ?_)
          go_simp
          go_at_call 39
          refine (changed4_at (fun p => F ((m + 3) * 4 + p)) m _ (fun p => oF _) (by omega)).mono ?_
          rintro e w1 ⟨rfl, hb1⟩
          go_wp2_with fail
          refine hK.out _ _ (fun _ => keysS_grow hS hb1) ?_
          replace hS := keysS_grow hS hb1
          clear hK K
          try simp only [Act.put, List.setIfInBounds_toArray, List.set_cons_zero, List.set_cons_succ]
          refine wpAnyZ_one (i := 16) (by kernel_rfl) rfl (fun K hK => ?_)
          go_simp
          go_at_call 38
          refine (sum_any (fun p => F (m * 4 + p)) (chg 4 (m + 4) fun p => F ((m + 3) * 4 + p)) _ (fun p => oF _) (chg_lt (fun p => oF _))).mono ?_
          rintro e w2 ⟨rfl, hb2⟩
          go_wp2_with fail
          refine hK.out _ _ (fun _ => keysS_grow hS hb2) ?_
          replace hS := keysS_grow hS hb2
          clear hK K
          try simp only [Act.put, List.setIfInBounds_toArray, List.set_cons_zero, List.set_cons_succ]
          refine wpAnyZ_take (i := 17) (v := .pointer (some ⟨g, (m + 4) * 4, none⟩)) rfl (by kernel_rfl) (by kernel_rfl) (by kernel_rfl) (by kernel_rfl) (fun _ _ _ h => h) hS (Or.inl ⟨by kernel_rfl, fun w hS => (by clear hS; go_simp)⟩) ?_
          simp only [Act.put, List.setIfInBounds_toArray, List.set_cons_zero, List.set_cons_succ]
          have hT := hS.2.2.1.thereAt (o := (m + 4) * 4) (n := 4) (by omega)
          refine wpAnyZ_one (i := 18) (by kernel_rfl) rfl (fun K hK => ?_)
          rw [if_pos (by kernel_rfl)]
          refine wp_store_mid 68 _ _ rfl g ((m + 4) * 4) (vals 4 fun p => F (m * 4 + p) ^^^ chg 4 (m + 4) (fun p => F ((m + 3) * 4 + p)) p).toArray (by kernel_rfl) (by kernel_rfl) hT Try.sizeWord (all_oneCell_toArray (vals_one 4 _)) ?_
          try simp only [Act.put, List.setIfInBounds_toArray, List.set_cons_zero, List.set_cons_succ]
          refine hK.out _ _ (fun h => absurd h (by decide)) ?_
          clear hK K
          refine wpAnyZ_done (by kernel_rfl) ?_ _
          go_wp2_with fail
          go_roundw
          case rel =>
            refine ⟨m + 1, by omega, by go_num, ?_, below_setCells _ _ hS.2.2.2 (by omega)⟩
            refine hS.2.2.1.putAt (by omega) _ _ fun j _ => ?_
            rw [show 4 + (m + 1) = (m + 4) + 1 from by omega, show 4 + m = m + 4 from by omega]
            exact upto_put F (m + 4) _ HST.out j
          case measure => simp [intOf]; omega
        · obtain rfl : m = 40 := by omega
          have HA0 := hid hA
          clear hA
          go_wp2_with fail
          go_ret2
          exact ⟨g, rfl, HA0.out.same fun j hj => upto_lt F _ j (by omega), hB, hgw⟩

theorem changed8_at (x : Nat → Nat) (m : Nat) (w : World) (ox : ∀ j, x j < 256) (hm : m < 80) :
    Calls Try.prog 39 #[.agg (vals 4 x).toArray, .int .i64 ((m : Int) + 8), .int .i64 8] w fun e w' =>
      e = .returned (.agg (vals 4 (chg 8 (m + 8) x)).toArray) ∧ Below w.heap.size w w' := by
  have h := changed8_any x (m + 8) w ox (by omega) (by omega)
  rw [show ((m + 8 : Nat) : Int) = (m : Int) + 8 from by omega] at h
  exact h

set_option maxHeartbeats 4000000 in
set_option maxRecDepth 100000 in
theorem words8_any (p : Option Addr) (cap : Nat) (xs : List Int) (w : World) (hp : Bin w p xs) (hx : Oct xs) (hl : xs.length = 32) (hcap : 32 ≤ cap) :
    Calls Try.prog 27 #[.slice p 32 cap] w fun e w' => ∃ g, e = .returned (.tuple #[.slice (some ⟨g, 0, none⟩) 60 60, .int .i64 0]) ∧
      Arr w' g 240 (wordB 8 (nats xs)) ∧ Below w.heap.size w w' ∧ w.heap.size ≤ g := by
  obtain ⟨i0, hi0, hz0, hz1, hz2⟩ := info_parts Try.infoWord
  obtain ⟨F, hF⟩ : ∃ F, Hid (F = wordB 8 (nats xs)) := ⟨_, rfl⟩
  have oF : ∀ j, F j < 256 := by rw [hF.out]; exact wordB_lt (nats_lt hx)
  have huw := Try.underlying68
  have hiw := Try.sizeWord
  obtain ⟨b, o, rfl, hlb, hc⟩ := hp.at (by omega)
  have HC := hid hc
  clear hc hp
  have hB : Below w.heap.size w (w.alloc (.cells (vals 240 fun _ => 0).toArray 68)) := (Below.refl _ _).alloc (Nat.le_refl _) _
  have hA := arr_new w 240 (fun _ => 0) 68
  rw [← hF.out]
  go_enter Try.func27, Try.ntmps27
  go_wp2_with (at_make; refine wpList_make_arr _ rfl _ _ 61 rfl 68 i0 4 (by decide) (by decide) Try.underlying61 hi0 hz0 hz1 hz2 .i64 .i64 _ _ 60 rfl rfl rfl rfl (by decide) ?_)
  generalize hg : w.heap.size = g
  rw [hg] at hA
  have hgb : b < g := by omega
  have hgw : w.heap.size ≤ g := by omega
  generalize w.alloc (.cells (vals 240 fun _ => 0).toArray 68) = w0 at hA hB ⊢
  have HB0 := hid hB
  have HA0 := hid hA
  have HG := hid hg
  clear hA hB hg
  go_loopw [24] (fun i wr => ∃ n : Nat, n ≤ 8 ∧ i = .int .i64 (n : Int) ∧ Arr wr g 240 (upto F (4 * n)) ∧ Below w.heap.size w wr) (fun i _ => 8 - (intOf i).toNat)
  case atStart => exact ⟨0, by decide, rfl, HA0.out.same fun j _ => by unfold upto; simp, HB0.out⟩
  case round =>
    clear HA0 HB0
    obtain ⟨i, hi, rfl, hA, hB⟩ := hrel
    by_cases hlt : i < 8
    · have hR := bin_range hx (fun j hj => (hB.cell (p := ⟨b, o + j, none⟩) hlb).trans (HC.out j hj)) (4 * i) 4 (by omega)
      have hy : ∀ p, p < 4 → (nats xs).getD (4 * i + p) 0 = F (4 * i + p) := fun p hp => by rw [hF.out, wordB_key (by rw [nats_length, hl]) _ (by omega)]
      obtain ⟨n', hn', hN, hA'⟩ : ∃ n' : Nat, n' ≤ 8 ∧ Hid ((n' : Int) = (i : Int) + 1) ∧ Arr (wr.setCells g (i * 4) (vals 4 fun p => (nats xs).getD (4 * i + p) 0)) g 240 (upto F (4 * n')) :=
        ⟨i + 1, by omega, hid (by omega), hA.putAt (by omega) _ _ fun j _ => upto_put F i _ hy j⟩
      have hb' := below_setCells (b := g) (vals 4 fun p => (nats xs).getD (4 * i + p) 0) (i * 4) hB (by omega)
      have hT := hA.thereAt (o := i * 4) (n := 4) (by omega)
      have e := word_at b (o + 4 * i) (32 - 4 * i) (cap - 4 * i) (by omega) wr
      have HR := hid hR
      have HT := hid hT
      have HA' := hid hA'
      have HB' := hid hb'
      clear hA hB hR hT hy hA' hb' HC
      rcases (show i = 0 ∨ i = 1 ∨ i = 2 ∨ i = 3 ∨ i = 4 ∨ i = 5 ∨ i = 6 ∨ i = 7 from by omega) with rfl | rfl | rfl | rfl | rfl | rfl | rfl | rfl
      all_goals
        simp at e
        have hR := HR.out
        have hT := HT.out
        simp only [Nat.reduceMul, Nat.add_zero, Nat.zero_mul, Nat.mul_zero, Nat.zero_add] at hR hT HA' HB'
        generalize hq : (fun p => (nats xs).getD _ 0) = q at hR HA' HB'
        have HQ := hid hq
        have HR' := hid hR
        have HT' := hid hT
        clear hR hT hq HR HT
        go_wp2_with (first | (refine wpList_load_mid rfl 68 _ rfl b _ rfl (vals 4 q) _ ?_ huw rfl hiw ?_; exact HR'.out) | (refine wpList_store_mid rfl 68 _ _ rfl g _ (vals 4 q).toArray rfl rfl ?_ hiw (all_oneCell_toArray (vals_one 4 _)) ?_; exact HT'.out))
        go_roundw
        case rel => exact ⟨n', hn', by (have := hN.out; congr 1; omega), HA'.out, HB'.out⟩
        case measure => simp [intOf]
    · obtain rfl : i = 8 := by omega
      have HA0 := hid hA
      have HB0 := hid hB
      clear hA hB HC
      rw [show ((8 : Nat) : Int) = (8 : Int) from rfl]
      go_wp2_with fail
      go_loopw [7] (fun i wr => ∃ m : Nat, m ≤ 52 ∧ i = .int .i64 ((m : Int) + 8) ∧ Arr wr g 240 (upto F (4 * (8 + m))) ∧ Below w.heap.size w wr) (fun i _ => 60 - (intOf i).toNat)
      case atStart => exact ⟨0, by decide, rfl, HA0.out, HB0.out⟩
      case round =>
        clear HA0 HB0
        obtain ⟨m, hm, rfl, hA, hB⟩ := hrel
        by_cases hlt : m < 52
        · have hs := hid (show (wr.drew.rangeAt g (m * 4) (vals 4 fun p => F (m * 4 + p)) ∧ wr.drew.rangeAt g ((m + 7) * 4) (vals 4 fun p => F ((m + 7) * 4 + p)) ∧ Arr wr.drew g 240 (upto F (4 * (8 + m))) ∧ Below w.heap.size w wr.drew) from
            ⟨(vals_same (n := 4) (fun j hj => upto_lt F (4 * (8 + m)) (m * 4 + j) (by omega))) ▸ hA.drew.part (o := m * 4) (n := 4) (by omega), (vals_same (n := 4) (fun j hj => upto_lt F (4 * (8 + m)) ((m + 7) * 4 + j) (by omega))) ▸ hA.drew.part (o := (m + 7) * 4) (n := 4) (by omega), hA.drew, hB.drew⟩)
          have hst : ∀ j, j < 4 → F (m * 4 + j) ^^^ chg 8 (m + 8) (fun p => F ((m + 7) * 4 + p)) j = F (4 * (m + 8) + j) := fun j hj => by
            have hstep : F (4 * (m + 8) + j) = F (4 * (m + 8 - 8) + j) ^^^ chg 8 (m + 8) (fun q => F (4 * (m + 8 - 1) + q)) j := by
              rw [hF.out]; exact wordB_step (by rw [nats_length, hl]) (by decide) (m + 8) j (by omega) (by omega) hj
            rw [hstep, show 4 * (m + 8 - 8) + j = m * 4 + j from by omega, show 4 * (m + 8 - 1) = (m + 7) * 4 from by omega]
          have e1 : (m : Int) + 8 < 60 := by omega
          have e2 : ¬ (60 ≤ (m : Int)) := by omega
          have e3 : (m : Int) + 7 < 60 := by omega
          have e4 : (m : Int) < 60 := by omega
          have p3 : (0 : Int) ≤ (m : Int) + 7 := by omega
          have t3 : ((m : Int) + 7).toNat = m + 7 := by omega
          have p4 : (0 : Int) ≤ (m : Int) + 8 := by omega
          have t4 : ((m : Int) + 8).toNat = m + 8 := by omega
          have HST := hid hst
          clear hA hB hst
          go_wp2_with fail
          refine wp_region_z (fun wx => wx.rangeAt g (m * 4) (vals 4 fun p => F (m * 4 + p)) ∧ wx.rangeAt g ((m + 7) * 4) (vals 4 fun p => F ((m + 7) * 4 + p)) ∧ Arr wx g 240 (upto F (4 * (8 + m))) ∧ Below w.heap.size w wx) 18 (by kernel_rfl) hs.out (fun hS => ?_)
          refine wpAnyZ_take (i := 0) (v := .slice (some ⟨g, 0, none⟩) 60 60) rfl (by kernel_rfl) (by kernel_rfl) (by kernel_rfl) (by kernel_rfl) (fun _ _ _ h => h) hS (Or.inl ⟨by kernel_rfl, fun w hS => (by clear hS; go_simp)⟩) ?_
          simp only [Act.put, List.setIfInBounds_toArray, List.set_cons_zero, List.set_cons_succ]
          refine wpAnyZ_take (i := 1) (v := .int .i64 ((m : Int) + 8)) rfl (by kernel_rfl) (by kernel_rfl) (by kernel_rfl) (by kernel_rfl) (fun _ _ _ h => h) hS (Or.inl ⟨by kernel_rfl, fun w hS => (by clear hS; go_simp)⟩) ?_
          simp only [Act.put, List.setIfInBounds_toArray, List.set_cons_zero, List.set_cons_succ]
          refine wpAnyZ_take (i := 2) (v := .slice (some ⟨g, 0, none⟩) 60 60) rfl (by kernel_rfl) (by kernel_rfl) (by kernel_rfl) (by kernel_rfl) (fun _ _ _ h => h) hS (Or.inl ⟨by kernel_rfl, fun w hS => (by clear hS; go_simp)⟩) ?_
          simp only [Act.put, List.setIfInBounds_toArray, List.set_cons_zero, List.set_cons_succ]
          refine wpAnyZ_take (i := 3) (v := .int .i64 ((m : Int) + 8)) rfl (by kernel_rfl) (by kernel_rfl) (by kernel_rfl) (by kernel_rfl) (fun _ _ _ h => h) hS (Or.inl ⟨by kernel_rfl, fun w hS => (by clear hS; go_simp)⟩) ?_
          simp only [Act.put, List.setIfInBounds_toArray, List.set_cons_zero, List.set_cons_succ]
          refine wpAnyZ_take (i := 4) (v := .int .i64 8) rfl (by kernel_rfl) (by kernel_rfl) (by kernel_rfl) (by kernel_rfl) (fun _ _ _ h => h) hS (Or.inl ⟨by kernel_rfl, fun w hS => (by clear hS; go_simp)⟩) ?_
          simp only [Act.put, List.setIfInBounds_toArray, List.set_cons_zero, List.set_cons_succ]
          refine wpAnyZ_take (i := 5) (v := .int .i64 (m : Int)) rfl (by kernel_rfl) (by kernel_rfl) (by kernel_rfl) (by kernel_rfl) (fun _ _ _ h => h) hS (Or.inl ⟨by kernel_rfl, fun w hS => (by clear hS; go_simp; (try (simp [IntKind.wrap, IntKind.bits, IntKind.signed])); (try omega))⟩) ?_
          simp only [Act.put, List.setIfInBounds_toArray, List.set_cons_zero, List.set_cons_succ]
          refine wpAnyZ_take (i := 6) (v := .pointer (some ⟨g, m * 4, none⟩)) rfl (by kernel_rfl) (by kernel_rfl) (by kernel_rfl) (by kernel_rfl) (fun _ _ _ h => h) hS (Or.inl ⟨by kernel_rfl, fun w hS => (by clear hS; go_simp)⟩) ?_
          simp only [Act.put, List.setIfInBounds_toArray, List.set_cons_zero, List.set_cons_succ]
          refine wpAnyZ_take (i := 7) rfl (by kernel_rfl) (by kernel_rfl) (by kernel_rfl) (by kernel_rfl) (fun _ _ _ h => h) hS (yieldsIf_load_mid (by kernel_rfl) 68 (.tmp 50) rfl g (m * 4) (by kernel_rfl) (vals 4 fun p => F (m * 4 + p)) _ (fun w hS => hS.1) huw rfl hiw) ?_
          simp only [Act.put, List.setIfInBounds_toArray, List.set_cons_zero, List.set_cons_succ]
          refine wpAnyZ_take (i := 8) (v := .slice (some ⟨g, 0, none⟩) 60 60) rfl (by kernel_rfl) (by kernel_rfl) (by kernel_rfl) (by kernel_rfl) (fun _ _ _ h => h) hS (Or.inl ⟨by kernel_rfl, fun w hS => (by clear hS; go_simp)⟩) ?_
          simp only [Act.put, List.setIfInBounds_toArray, List.set_cons_zero, List.set_cons_succ]
          refine wpAnyZ_take (i := 9) (v := .int .i64 ((m : Int) + 8)) rfl (by kernel_rfl) (by kernel_rfl) (by kernel_rfl) (by kernel_rfl) (fun _ _ _ h => h) hS (Or.inl ⟨by kernel_rfl, fun w hS => (by clear hS; go_simp)⟩) ?_
          simp only [Act.put, List.setIfInBounds_toArray, List.set_cons_zero, List.set_cons_succ]
          refine wpAnyZ_take (i := 10) (v := .int .i64 ((m : Int) + 7)) rfl (by kernel_rfl) (by kernel_rfl) (by kernel_rfl) (by kernel_rfl) (fun _ _ _ h => h) hS (Or.inl ⟨by kernel_rfl, fun w hS => (by clear hS; go_simp; (try (simp [IntKind.wrap, IntKind.bits, IntKind.signed])); (try omega))⟩) ?_
          simp only [Act.put, List.setIfInBounds_toArray, List.set_cons_zero, List.set_cons_succ]
          refine wpAnyZ_take (i := 11) (v := .pointer (some ⟨g, (m + 7) * 4, none⟩)) rfl (by kernel_rfl) (by kernel_rfl) (by kernel_rfl) (by kernel_rfl) (fun _ _ _ h => h) hS (Or.inl ⟨by kernel_rfl, fun w hS => (by clear hS; go_simp)⟩) ?_
          simp only [Act.put, List.setIfInBounds_toArray, List.set_cons_zero, List.set_cons_succ]
          refine wpAnyZ_take (i := 12) rfl (by kernel_rfl) (by kernel_rfl) (by kernel_rfl) (by kernel_rfl) (fun _ _ _ h => h) hS (yieldsIf_load_mid (by kernel_rfl) 68 (.tmp 55) rfl g ((m + 7) * 4) (by kernel_rfl) (vals 4 fun p => F ((m + 7) * 4 + p)) _ (fun w hS => hS.2.1) huw rfl hiw) ?_
          simp only [Act.put, List.setIfInBounds_toArray, List.set_cons_zero, List.set_cons_succ]
          refine wpAnyZ_take (i := 13) (v := .int .i64 ((m : Int) + 8)) rfl (by kernel_rfl) (by kernel_rfl) (by kernel_rfl) (by kernel_rfl) (fun _ _ _ h => h) hS (Or.inl ⟨by kernel_rfl, fun w hS => (by clear hS; go_simp)⟩) ?_
          simp only [Act.put, List.setIfInBounds_toArray, List.set_cons_zero, List.set_cons_succ]
          refine wpAnyZ_take (i := 14) (v := .int .i64 8) rfl (by kernel_rfl) (by kernel_rfl) (by kernel_rfl) (by kernel_rfl) (fun _ _ _ h => h) hS (Or.inl ⟨by kernel_rfl, fun w hS => (by clear hS; go_simp)⟩) ?_
          simp only [Act.put, List.setIfInBounds_toArray, List.set_cons_zero, List.set_cons_succ]
          refine wpAnyZ_one (i := 15) (by kernel_rfl) rfl (fun K hK => ?_)
          go_simp
          go_at_call 39
          refine (changed8_at (fun p => F ((m + 7) * 4 + p)) m _ (fun p => oF _) (by omega)).mono ?_
          rintro e w1 ⟨rfl, hb1⟩
          go_wp2_with fail
          refine hK.out _ _ (fun _ => keysS_grow hS hb1) ?_
          replace hS := keysS_grow hS hb1
          clear hK K
          try simp only [Act.put, List.setIfInBounds_toArray, List.set_cons_zero, List.set_cons_succ]
          refine wpAnyZ_one (i := 16) (by kernel_rfl) rfl (fun K hK => ?_)
          go_simp
          go_at_call 38
          refine (sum_any (fun p => F (m * 4 + p)) (chg 8 (m + 8) fun p => F ((m + 7) * 4 + p)) _ (fun p => oF _) (chg_lt (fun p => oF _))).mono ?_
          rintro e w2 ⟨rfl, hb2⟩
          go_wp2_with fail
          refine hK.out _ _ (fun _ => keysS_grow hS hb2) ?_
          replace hS := keysS_grow hS hb2
          clear hK K
          try simp only [Act.put, List.setIfInBounds_toArray, List.set_cons_zero, List.set_cons_succ]
          refine wpAnyZ_take (i := 17) (v := .pointer (some ⟨g, (m + 8) * 4, none⟩)) rfl (by kernel_rfl) (by kernel_rfl) (by kernel_rfl) (by kernel_rfl) (fun _ _ _ h => h) hS (Or.inl ⟨by kernel_rfl, fun w hS => (by clear hS; go_simp)⟩) ?_
          simp only [Act.put, List.setIfInBounds_toArray, List.set_cons_zero, List.set_cons_succ]
          have hT := hS.2.2.1.thereAt (o := (m + 8) * 4) (n := 4) (by omega)
          refine wpAnyZ_one (i := 18) (by kernel_rfl) rfl (fun K hK => ?_)
          rw [if_pos (by kernel_rfl)]
          refine wp_store_mid 68 _ _ rfl g ((m + 8) * 4) (vals 4 fun p => F (m * 4 + p) ^^^ chg 8 (m + 8) (fun p => F ((m + 7) * 4 + p)) p).toArray (by kernel_rfl) (by kernel_rfl) hT Try.sizeWord (all_oneCell_toArray (vals_one 4 _)) ?_
          try simp only [Act.put, List.setIfInBounds_toArray, List.set_cons_zero, List.set_cons_succ]
          refine hK.out _ _ (fun h => absurd h (by decide)) ?_
          clear hK K
          refine wpAnyZ_done (by kernel_rfl) ?_ _
          go_wp2_with fail
          go_roundw
          case rel =>
            refine ⟨m + 1, by omega, by go_num, ?_, below_setCells _ _ hS.2.2.2 (by omega)⟩
            refine hS.2.2.1.putAt (by omega) _ _ fun j _ => ?_
            rw [show 8 + (m + 1) = (m + 8) + 1 from by omega, show 8 + m = m + 8 from by omega]
            exact upto_put F (m + 8) _ HST.out j
          case measure => simp [intOf]; omega
        · obtain rfl : m = 52 := by omega
          have HA0 := hid hA
          clear hA
          go_wp2_with fail
          go_ret2
          exact ⟨g, rfl, HA0.out.same fun j hj => upto_lt F _ j (by omega), hB, hgw⟩
end Go.Proofs.Ytadpnkecdjleiaa
