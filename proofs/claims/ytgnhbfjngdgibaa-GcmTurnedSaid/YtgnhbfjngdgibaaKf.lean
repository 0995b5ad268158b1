/-
  Akeys, Akw, Anew, in one text.
-/
import Derived.Test.YtgnhbfjngdgibaaAwords
import Derived.Test.YtgnhbfjngdgibaaAenc
/-
  Slices of arrays of bytes that are made; the contract of the program's Words.
-/
namespace Go.Proofs.Ytgnhbfjngdgibaa
open Go.RowKit
set_option linter.unusedVariables false
set_option linter.unusedSimpArgs false

theorem made_vals (n s : Nat) (hs : 0 < s) : madeCells (Value.agg (vals s fun _ => 0).toArray).cells (n * s) = (vals (n * s) fun _ => 0).toArray := by
  apply Array.ext
  · simp [madeCells, vals_length]
  · intro i h1 h2
    have hi : i % s < s := Nat.mod_lt _ hs
    simp only [madeCells, Value.cells, List.size_toArray, vals_length, Array.getElem_map, Array.getElem_range]
    rw [getElem!_pos _ _ (by rw [List.size_toArray, vals_length]; exact hi)]
    simp [vals]

/-- make([]T, n), T an array of bytes. -/
theorem wpList_make_arr {P : Program} (w : World) {ops : Array Oper} {rest : List Oper} {o : Oper} {a : Act} {Q : Exit → Act → World → Prop}
    (hg : o.guard = none) (l c : Operand) (t : TypeId) (hop : o.op = Op.makeSlice t l c)
    (e : TypeId) (i : TypeInfo) (s : Nat) (hs : 0 < s) (hs2 : s ≤ 16) (h1 : P.underlying t = some (.slice e)) (h2 : P.info? e = some i) (h3 : i.zero = some (.agg (vals s fun _ => 0).toArray)) (h4 : i.size = s) (h5 : i.bytes = s)
    (kl kc : IntKind) (L C : Int) (n : Nat) (hl : a.eval l = .int kl L) (hc : a.eval c = .int kc C) (hL : L = (n : Int)) (hC : C = (n : Int)) (b2 : n ≤ 1000)
    (hK : wpList P ops Q rest (a.put o.dst (.slice (some ⟨w.heap.size, 0, none⟩) n n)) (w.alloc (.cells (vals (n * s) fun _ => 0).toArray e))) :
    wpList P ops Q (o :: rest) a w := by
  refine wpList_plain hg fun K hK' => ?_
  subst hL hC
  have hns : n * s ≤ 1000 * 16 := Nat.mul_le_mul b2 hs2
  have hns2 : s * n ≤ 1000 * 16 := by rw [Nat.mul_comm]; exact hns
  have hr := run_make (P := P) w t e i _ h1 h2 h3 kl kc n n (by omega) (by omega) (by rw [h5]; omega) (by omega)
  simp only [Int.toNat_natCast, h4] at hr
  rw [made_vals n s hs] at hr
  unfold Oper.wp
  simp [execOp, hop, hl, hc, hr, Result.andThen]
  exact hK' _ _ hK

theorem Try.infoWord : (Try.prog.info? 76).map (fun i => (i.zero, i.size, i.bytes)) = some (some (.agg (vals 4 fun _ => 0).toArray), 4, 4) := by kernel_rfl
theorem Try.infoState : (Try.prog.info? 77).map (fun i => (i.zero, i.size, i.bytes)) = some (some (.agg (vals 16 fun _ => 0).toArray), 16, 16) := by kernel_rfl
end Go.Proofs.Ytgnhbfjngdgibaa

/-
  The contract of the program's Words.
-/
namespace Go.Proofs.Ytgnhbfjngdgibaa
open Go.RowKit
set_option linter.unusedVariables false
set_option linter.unusedSimpArgs false

/-- The numbers of a slice of bytes. -/
def nats (xs : List Int) : List Nat := xs.map Int.toNat
theorem nats_length (xs : List Int) : (nats xs).length = xs.length := by simp [nats]
theorem nats_lt {xs : List Int} (h : Oct xs) : ∀ x ∈ nats xs, x < 256 := by
  intro x hx
  simp only [nats, List.mem_map] at hx
  obtain ⟨y, hy, rfl⟩ := hx
  have := h y hy
  omega
theorem nats_at {xs : List Int} (h : Oct xs) (j : Nat) : xs.getD j 0 = ((nats xs).getD j 0 : Nat) := by
  have h0 := h.at j
  have e : (nats xs).getD j 0 = (xs.getD j 0).toNat := by
    simp only [nats, List.getD_eq_getElem?_getD, List.getElem?_map]
    cases xs[j]? <;> rfl
  rw [e]
  omega
theorem bin_range {w : World} {b o : Nat} {xs : List Int} (hx : Oct xs) (hc : ∀ i, i < xs.length → w.cell? ⟨b, o + i, none⟩ = some (.int .u8 (xs.getD i 0))) (s n : Nat) (h : s + n ≤ xs.length) :
    w.rangeAt b (o + s) (vals n fun p => (nats xs).getD (s + p) 0) := fun j v hv => by
  have hj : j < n := by have := (List.getElem?_eq_some_iff.1 hv).1; rwa [vals_length] at this
  rw [vals_at _ _ _ hj] at hv
  rw [← hv, Nat.add_assoc, hc (s + j) (by omega), nats_at hx]

/-- F, as far as m. -/
def upto (F : Nat → Nat) (m j : Nat) : Nat := if j < m then F j else 0
theorem upto_lt (F : Nat → Nat) (m j : Nat) (h : j < m) : upto F m j = F j := if_pos h
theorem upto_put (F : Nat → Nat) (i : Nat) (y : Nat → Nat) (hy : ∀ p, p < 4 → y p = F (4 * i + p)) (j : Nat) :
    upto F (4 * (i + 1)) j = if i * 4 ≤ j ∧ j < i * 4 + 4 then y (j - i * 4) else upto F (4 * i) j := by
  unfold upto
  by_cases h : i * 4 ≤ j ∧ j < i * 4 + 4
  · rw [if_pos h, if_pos (by omega), hy _ (by omega), show 4 * i + (j - i * 4) = j from by omega]
  · rw [if_neg h]
    by_cases h2 : j < 4 * i
    · rw [if_pos h2, if_pos (by omega)]
    · rw [if_neg h2, if_neg (by omega)]

theorem keysS_grow {w w1 w2 : World} {g a c n : Nat} {x y z : Nat → Nat} (h : w1.rangeAt g a (vals 4 x) ∧ w1.rangeAt g c (vals 4 y) ∧ Arr w1 g n z ∧ Below w.heap.size w w1) (hb : Below w1.heap.size w1 w2) :
    w2.rangeAt g a (vals 4 x) ∧ w2.rangeAt g c (vals 4 y) ∧ Arr w2 g n z ∧ Below w.heap.size w w2 :=
  ⟨range_below h.1 (by rw [vals_length]; decide) hb, range_below h.2.1 (by rw [vals_length]; decide) hb, h.2.2.1.below hb, h.2.2.2.trans (hb.mono h.2.2.2.size)⟩
set_option maxRecDepth 100000 in
theorem words_no (p : Option Addr) (cap n : Nat) (w : World) (h1 : n ≠ 16) (h2 : n ≠ 32) :
    Calls Try.prog 46 #[.slice p n cap] w fun e w' => e = .returned (.tuple #[.slice none 0 0, .int .i64 2]) ∧ w = w' := by
  have e1 : ((n : Int) != 16) = true := by simp; omega
  have e2 : ((n : Int) != 32) = true := by simp; omega
  go_enter Try.func46, Try.ntmps46
  go_wp2
  go_ret2
  exact ⟨rfl, rfl⟩

theorem changed4_at (x : Nat → Nat) (m : Nat) (w : World) (ox : ∀ j, x j < 256) (hm : m < 80) :
    Calls Try.prog 69 #[.agg (vals 4 x).toArray, .int .i64 ((m : Int) + 4), .int .i64 4] w fun e w' =>
      e = .returned (.agg (vals 4 (chg 4 (m + 4) x)).toArray) ∧ Below w.heap.size w w' := by
  have h := changed4_any x (m + 4) w ox (by omega) (by omega)
  rw [show ((m + 4 : Nat) : Int) = (m : Int) + 4 from by omega] at h
  exact h

set_option maxHeartbeats 4000000 in
set_option maxRecDepth 100000 in
theorem words4_any (p : Option Addr) (cap : Nat) (xs : List Int) (w : World) (hp : Bin w p xs) (hx : Oct xs) (hl : xs.length = 16) (hcap : 16 ≤ cap) :
    Calls Try.prog 46 #[.slice p 16 cap] w fun e w' => ∃ g, e = .returned (.tuple #[.slice (some ⟨g, 0, none⟩) 44 44, .int .i64 0]) ∧
      Arr w' g 176 (wordB 4 (nats xs)) ∧ Below w.heap.size w w' ∧ w.heap.size ≤ g := by
  obtain ⟨i0, hi0, hz0, hz1, hz2⟩ := info_parts Try.infoWord
  obtain ⟨F, hF⟩ : ∃ F, Hid (F = wordB 4 (nats xs)) := ⟨_, rfl⟩
  have oF : ∀ j, F j < 256 := by rw [hF.out]; exact wordB_lt (nats_lt hx)
  have huw := Try.underlying76
  have hiw := Try.sizeWord
  obtain ⟨b, o, rfl, hlb, hc⟩ := hp.at (by omega)
  have HC := hid hc
  clear hc hp
  have hB : Below w.heap.size w (w.alloc (.cells (vals 176 fun _ => 0).toArray 76)) := (Below.refl _ _).alloc (Nat.le_refl _) _
  have hA := arr_new w 176 (fun _ => 0) 76
  rw [← hF.out]
  go_enter Try.func46, Try.ntmps46
  go_wp2_with (at_make; refine wpList_make_arr _ rfl _ _ 69 rfl 76 i0 4 (by decide) (by decide) Try.underlying69 hi0 hz0 hz1 hz2 .i64 .i64 _ _ 44 rfl rfl rfl rfl (by decide) ?_)
  generalize hg : w.heap.size = g
  rw [hg] at hA
  have hgb : b < g := by omega
  have hgw : w.heap.size ≤ g := by omega
  generalize w.alloc (.cells (vals 176 fun _ => 0).toArray 76) = w0 at hA hB ⊢
  have HB0 := hid hB
  have HA0 := hid hA
  have HG := hid hg
  clear hA hB hg
  go_loopw [24] (fun i wr => ∃ n : Nat, n ≤ 4 ∧ i = .int .i64 (n : Int) ∧ Arr wr g 176 (upto F (4 * n)) ∧ Below w.heap.size w wr) (fun i _ => 4 - (intOf i).toNat)
  case atStart => exact ⟨0, by decide, rfl, HA0.out.same fun j _ => by unfold upto; simp, HB0.out⟩
  case round =>
    clear HA0 HB0
    obtain ⟨i, hi, rfl, hA, hB⟩ := hrel
    by_cases hlt : i < 4
    · have hR := bin_range hx (fun j hj => (hB.cell (p := ⟨b, o + j, none⟩) hlb).trans (HC.out j hj)) (4 * i) 4 (by omega)
      have hy : ∀ p, p < 4 → (nats xs).getD (4 * i + p) 0 = F (4 * i + p) := fun p hp => by rw [hF.out, wordB_key (by rw [nats_length, hl]) _ (by omega)]
      obtain ⟨n', hn', hN, hA'⟩ : ∃ n' : Nat, n' ≤ 4 ∧ Hid ((n' : Int) = (i : Int) + 1) ∧ Arr (wr.setCells g (i * 4) (vals 4 fun p => (nats xs).getD (4 * i + p) 0)) g 176 (upto F (4 * n')) :=
        ⟨i + 1, by omega, hid (by omega), hA.putAt (by omega) _ _ fun j _ => upto_put F i _ hy j⟩
      have hb' := below_setCells (b := g) (vals 4 fun p => (nats xs).getD (4 * i + p) 0) (i * 4) hB (by omega)
      have hT := hA.thereAt (o := i * 4) (n := 4) (by omega)
      have e := word_at b (o + 4 * i) (16 - 4 * i) (cap - 4 * i) (by omega) wr
      have HR := hid hR
      have HT := hid hT
      have HA' := hid hA'
      have HB' := hid hb'
      clear hA hB hR hT hy hA' hb' HC
      rcases (show i = 0 ∨ i = 1 ∨ i = 2 ∨ i = 3 from by omega) with rfl | rfl | rfl | rfl
      all_goals
        simp at e
        have hR := HR.out
        have hT := HT.out
        simp only [Nat.reduceMul, Nat.add_zero, Nat.zero_mul, Nat.mul_zero, Nat.zero_add] at hR hT HA' HB'
        generalize hq : (fun p => (nats xs).getD _ 0) = q at hR HA' HB'
        have HQ := hid hq
        have HR' := hid hR
        have HT' := hid hT
        clear hR hT hq HR HT
        go_wp2_with (first | (refine wpList_load_mid rfl 76 _ rfl b _ rfl (vals 4 q) _ ?_ huw rfl hiw ?_; exact HR'.out) | (refine wpList_store_mid rfl 76 _ _ rfl g _ (vals 4 q).toArray rfl rfl ?_ hiw (all_oneCell_toArray (vals_one 4 _)) ?_; exact HT'.out))
        go_roundw
        case rel => exact ⟨n', hn', by (have := hN.out; congr 1; omega), HA'.out, HB'.out⟩
        case measure => simp [intOf]
    · obtain rfl : i = 4 := by omega
      have HA0 := hid hA
      have HB0 := hid hB
      clear hA hB HC
      rw [show ((4 : Nat) : Int) = (4 : Int) from rfl]
      go_wp2_with fail
      go_loopw [7] (fun i wr => ∃ m : Nat, m ≤ 40 ∧ i = .int .i64 ((m : Int) + 4) ∧ Arr wr g 176 (upto F (4 * (4 + m))) ∧ Below w.heap.size w wr) (fun i _ => 44 - (intOf i).toNat)
      case atStart => exact ⟨0, by decide, rfl, HA0.out, HB0.out⟩
      case round =>
        clear HA0 HB0
        obtain ⟨m, hm, rfl, hA, hB⟩ := hrel
        by_cases hlt : m < 40
        · have hs := hid (show (wr.drew.rangeAt g (m * 4) (vals 4 fun p => F (m * 4 + p)) ∧ wr.drew.rangeAt g ((m + 3) * 4) (vals 4 fun p => F ((m + 3) * 4 + p)) ∧ Arr wr.drew g 176 (upto F (4 * (4 + m))) ∧ Below w.heap.size w wr.drew) from
            ⟨(vals_same (n := 4) (fun j hj => upto_lt F (4 * (4 + m)) (m * 4 + j) (by omega))) ▸ hA.drew.part (o := m * 4) (n := 4) (by omega), (vals_same (n := 4) (fun j hj => upto_lt F (4 * (4 + m)) ((m + 3) * 4 + j) (by omega))) ▸ hA.drew.part (o := (m + 3) * 4) (n := 4) (by omega), hA.drew, hB.drew⟩)
          have hst : ∀ j, j < 4 → F (m * 4 + j) ^^^ chg 4 (m + 4) (fun p => F ((m + 3) * 4 + p)) j = F (4 * (m + 4) + j) := fun j hj => by
            have hstep : F (4 * (m + 4) + j) = F (4 * (m + 4 - 4) + j) ^^^ chg 4 (m + 4) (fun q => F (4 * (m + 4 - 1) + q)) j := by
              rw [hF.out]; exact wordB_step (by rw [nats_length, hl]) (by decide) (m + 4) j (by omega) (by omega) hj
            rw [hstep, show 4 * (m + 4 - 4) + j = m * 4 + j from by omega, show 4 * (m + 4 - 1) = (m + 3) * 4 from by omega]
          have e1 : (m : Int) + 4 < 44 := by omega
          have e2 : ¬ (44 ≤ (m : Int)) := by omega
          have e3 : (m : Int) + 3 < 44 := by omega
          have e4 : (m : Int) < 44 := by omega
          have p3 : (0 : Int) ≤ (m : Int) + 3 := by omega
          have t3 : ((m : Int) + 3).toNat = m + 3 := by omega
          have p4 : (0 : Int) ≤ (m : Int) + 4 := by omega
          have t4 : ((m : Int) + 4).toNat = m + 4 := by omega
          have HST := hid hst
          clear hA hB hst
          go_wp2_with fail
          refine wp_region_z (fun wx => wx.rangeAt g (m * 4) (vals 4 fun p => F (m * 4 + p)) ∧ wx.rangeAt g ((m + 3) * 4) (vals 4 fun p => F ((m + 3) * 4 + p)) ∧ Arr wx g 176 (upto F (4 * (4 + m))) ∧ Below w.heap.size w wx) 18 (by kernel_rfl) hs.out (fun hS => ?_)
          refine wpAnyZ_take (i := 0) (v := .slice (some ⟨g, 0, none⟩) 44 44) rfl (by kernel_rfl) (by kernel_rfl) (by kernel_rfl) (by kernel_rfl) (fun _ _ _ h => h) hS (Or.inl ⟨by kernel_rfl, fun w hS => (by clear hS; go_simp)⟩) ?_
          simp only [Act.put, List.setIfInBounds_toArray, List.set_cons_zero, List.set_cons_succ]
          refine wpAnyZ_take (i := 1) (v := .int .i64 ((m : Int) + 4)) rfl (by kernel_rfl) (by kernel_rfl) (by kernel_rfl) (by kernel_rfl) (fun _ _ _ h => h) hS (Or.inl ⟨by kernel_rfl, fun w hS => (by clear hS; go_simp)⟩) ?_
          simp only [Act.put, List.setIfInBounds_toArray, List.set_cons_zero, List.set_cons_succ]
          refine wpAnyZ_take (i := 2) (v := .slice (some ⟨g, 0, none⟩) 44 44) rfl (by kernel_rfl) (by kernel_rfl) (by kernel_rfl) (by kernel_rfl) (fun _ _ _ h => h) hS (Or.inl ⟨by kernel_rfl, fun w hS => (by clear hS; go_simp)⟩) ?_
          simp only [Act.put, List.setIfInBounds_toArray, List.set_cons_zero, List.set_cons_succ]
          refine wpAnyZ_take (i := 3) (v := .int .i64 ((m : Int) + 4)) rfl (by kernel_rfl) (by kernel_rfl) (by kernel_rfl) (by kernel_rfl) (fun _ _ _ h => h) hS (Or.inl ⟨by kernel_rfl, fun w hS => (by clear hS; go_simp)⟩) ?_
          simp only [Act.put, List.setIfInBounds_toArray, List.set_cons_zero, List.set_cons_succ]
          refine wpAnyZ_take (i := 4) (v := .int .i64 4) rfl (by kernel_rfl) (by kernel_rfl) (by kernel_rfl) (by kernel_rfl) (fun _ _ _ h => h) hS (Or.inl ⟨by kernel_rfl, fun w hS => (by clear hS; go_simp)⟩) ?_
          simp only [Act.put, List.setIfInBounds_toArray, List.set_cons_zero, List.set_cons_succ]
          refine wpAnyZ_take (i := 5) (v := .int .i64 (m : Int)) rfl (by kernel_rfl) (by kernel_rfl) (by kernel_rfl) (by kernel_rfl) (fun _ _ _ h => h) hS (Or.inl ⟨by kernel_rfl, fun w hS => (by clear hS; go_simp; (try (simp [IntKind.wrap, IntKind.bits, IntKind.signed])); (try omega))⟩) ?_
          simp only [Act.put, List.setIfInBounds_toArray, List.set_cons_zero, List.set_cons_succ]
          refine wpAnyZ_take (i := 6) (v := .pointer (some ⟨g, m * 4, none⟩)) rfl (by kernel_rfl) (by kernel_rfl) (by kernel_rfl) (by kernel_rfl) (fun _ _ _ h => h) hS (Or.inl ⟨by kernel_rfl, fun w hS => (by clear hS; go_simp)⟩) ?_
          simp only [Act.put, List.setIfInBounds_toArray, List.set_cons_zero, List.set_cons_succ]
          refine wpAnyZ_take (i := 7) rfl (by kernel_rfl) (by kernel_rfl) (by kernel_rfl) (by kernel_rfl) (fun _ _ _ h => h) hS (yieldsIf_load_mid (by kernel_rfl) 76 (.tmp 50) rfl g (m * 4) (by kernel_rfl) (vals 4 fun p => F (m * 4 + p)) _ (fun w hS => hS.1) huw rfl hiw) ?_
          simp only [Act.put, List.setIfInBounds_toArray, List.set_cons_zero, List.set_cons_succ]
          refine wpAnyZ_take (i := 8) (v := .slice (some ⟨g, 0, none⟩) 44 44) rfl (by kernel_rfl) (by kernel_rfl) (by kernel_rfl) (by kernel_rfl) (fun _ _ _ h => h) hS (Or.inl ⟨by kernel_rfl, fun w hS => (by clear hS; go_simp)⟩) ?_
          simp only [Act.put, List.setIfInBounds_toArray, List.set_cons_zero, List.set_cons_succ]
          refine wpAnyZ_take (i := 9) (v := .int .i64 ((m : Int) + 4)) rfl (by kernel_rfl) (by kernel_rfl) (by kernel_rfl) (by kernel_rfl) (fun _ _ _ h => h) hS (Or.inl ⟨by kernel_rfl, fun w hS => (by clear hS; go_simp)⟩) ?_
          simp only [Act.put, List.setIfInBounds_toArray, List.set_cons_zero, List.set_cons_succ]
          refine wpAnyZ_take (i := 10) (v := .int .i64 ((m : Int) + 3)) rfl (by kernel_rfl) (by kernel_rfl) (by kernel_rfl) (by kernel_rfl) (fun _ _ _ h => h) hS (Or.inl ⟨by kernel_rfl, fun w hS => (by clear hS; go_simp; (try (simp [IntKind.wrap, IntKind.bits, IntKind.signed])); (try omega))⟩) ?_
          simp only [Act.put, List.setIfInBounds_toArray, List.set_cons_zero, List.set_cons_succ]
          refine wpAnyZ_take (i := 11) (v := .pointer (some ⟨g, (m + 3) * 4, none⟩)) rfl (by kernel_rfl) (by kernel_rfl) (by kernel_rfl) (by kernel_rfl) (fun _ _ _ h => h) hS (Or.inl ⟨by kernel_rfl, fun w hS => (by clear hS; go_simp)⟩) ?_
          simp only [Act.put, List.setIfInBounds_toArray, List.set_cons_zero, List.set_cons_succ]
          refine wpAnyZ_take (i := 12) rfl (by kernel_rfl) (by kernel_rfl) (by kernel_rfl) (by kernel_rfl) (fun _ _ _ h => h) hS (yieldsIf_load_mid (by kernel_rfl) 76 (.tmp 55) rfl g ((m + 3) * 4) (by kernel_rfl) (vals 4 fun p => F ((m + 3) * 4 + p)) _ (fun w hS => hS.2.1) huw rfl hiw) ?_
          simp only [Act.put, List.setIfInBounds_toArray, List.set_cons_zero, List.set_cons_succ]
          refine wpAnyZ_take (i := 13) (v := .int .i64 ((m : Int) + 4)) rfl (by kernel_rfl) (by kernel_rfl) (by kernel_rfl) (by kernel_rfl) (fun _ _ _ h => h) hS (Or.inl ⟨by kernel_rfl, fun w hS => (by clear hS; go_simp)⟩) ?_
          simp only [Act.put, List.setIfInBounds_toArray, List.set_cons_zero, List.set_cons_succ]
          refine wpAnyZ_take (i := 14) (v := .int .i64 4) rfl (by kernel_rfl) (by kernel_rfl) (by kernel_rfl) (by kernel_rfl) (fun _ _ _ h => h) hS (Or.inl ⟨by kernel_rfl, fun w hS => (by clear hS; go_simp)⟩) ?_
          simp only [Act.put, List.setIfInBounds_toArray, List.set_cons_zero, List.set_cons_succ]
          refine wpAnyZ_one (i := 15) (by kernel_rfl) rfl (fun K hK => ?_)
          go_simp
          go_at_call 69
          refine (changed4_at (fun p => F ((m + 3) * 4 + p)) m _ (fun p => oF _) (by omega)).mono ?_
          rintro e w1 ⟨rfl, hb1⟩
          go_wp2_with fail
          refine hK.out _ _ (fun _ => keysS_grow hS hb1) ?_
          replace hS := keysS_grow hS hb1
          clear hK K
          try simp only [Act.put, List.setIfInBounds_toArray, List.set_cons_zero, List.set_cons_succ]
          refine wpAnyZ_one (i := 16) (by kernel_rfl) rfl (fun K hK => ?_)
          go_simp
          go_at_call 68
          refine (sum_any (fun p => F (m * 4 + p)) (chg 4 (m + 4) fun p => F ((m + 3) * 4 + p)) _ (fun p => oF _) (chg_lt (fun p => oF _))).mono ?_
          rintro e w2 ⟨rfl, hb2⟩
          go_wp2_with fail
          refine hK.out _ _ (fun _ => keysS_grow hS hb2) ?_
          replace hS := keysS_grow hS hb2
          clear hK K
          try simp only [Act.put, List.setIfInBounds_toArray, List.set_cons_zero, List.set_cons_succ]
          refine wpAnyZ_take (i := 17) (v := .pointer (some ⟨g, (m + 4) * 4, none⟩)) rfl (by kernel_rfl) (by kernel_rfl) (by kernel_rfl) (by kernel_rfl) (fun _ _ _ h => h) hS (Or.inl ⟨by kernel_rfl, fun w hS => (by clear hS; go_simp)⟩) ?_
          simp only [Act.put, List.setIfInBounds_toArray, List.set_cons_zero, List.set_cons_succ]
          have hT := hS.2.2.1.thereAt (o := (m + 4) * 4) (n := 4) (by omega)
          refine wpAnyZ_one (i := 18) (by kernel_rfl) rfl (fun K hK => ?_)
          rw [if_pos (by kernel_rfl)]
          refine wp_store_mid 76 _ _ rfl g ((m + 4) * 4) (vals 4 fun p => F (m * 4 + p) ^^^ chg 4 (m + 4) (fun p => F ((m + 3) * 4 + p)) p).toArray (by kernel_rfl) (by kernel_rfl) hT Try.sizeWord (all_oneCell_toArray (vals_one 4 _)) ?_
          try simp only [Act.put, List.setIfInBounds_toArray, List.set_cons_zero, List.set_cons_succ]
          refine hK.out _ _ (fun h => absurd h (by decide)) ?_
          clear hK K
          refine wpAnyZ_done (by kernel_rfl) ?_ _
          go_wp2_with fail
          go_roundw
          case rel =>
            refine ⟨m + 1, by omega, by go_num, ?_, below_setCells _ _ hS.2.2.2 (by omega)⟩
            refine hS.2.2.1.putAt (by omega) _ _ fun j _ => ?_
            rw [show 4 + (m + 1) = (m + 4) + 1 from by omega, show 4 + m = m + 4 from by omega]
            exact upto_put F (m + 4) _ HST.out j
          case measure => simp [intOf]; omega
        · obtain rfl : m = 40 := by omega
          have HA0 := hid hA
          clear hA
          go_wp2_with fail
          go_ret2
          exact ⟨g, rfl, HA0.out.same fun j hj => upto_lt F _ j (by omega), hB, hgw⟩

theorem changed8_at (x : Nat → Nat) (m : Nat) (w : World) (ox : ∀ j, x j < 256) (hm : m < 80) :
    Calls Try.prog 69 #[.agg (vals 4 x).toArray, .int .i64 ((m : Int) + 8), .int .i64 8] w fun e w' =>
      e = .returned (.agg (vals 4 (chg 8 (m + 8) x)).toArray) ∧ Below w.heap.size w w' := by
  have h := changed8_any x (m + 8) w ox (by omega) (by omega)
  rw [show ((m + 8 : Nat) : Int) = (m : Int) + 8 from by omega] at h
  exact h

set_option maxHeartbeats 4000000 in
set_option maxRecDepth 100000 in
theorem words8_any (p : Option Addr) (cap : Nat) (xs : List Int) (w : World) (hp : Bin w p xs) (hx : Oct xs) (hl : xs.length = 32) (hcap : 32 ≤ cap) :
    Calls Try.prog 46 #[.slice p 32 cap] w fun e w' => ∃ g, e = .returned (.tuple #[.slice (some ⟨g, 0, none⟩) 60 60, .int .i64 0]) ∧
      Arr w' g 240 (wordB 8 (nats xs)) ∧ Below w.heap.size w w' ∧ w.heap.size ≤ g := by
  obtain ⟨i0, hi0, hz0, hz1, hz2⟩ := info_parts Try.infoWord
  obtain ⟨F, hF⟩ : ∃ F, Hid (F = wordB 8 (nats xs)) := ⟨_, rfl⟩
  have oF : ∀ j, F j < 256 := by rw [hF.out]; exact wordB_lt (nats_lt hx)
  have huw := Try.underlying76
  have hiw := Try.sizeWord
  obtain ⟨b, o, rfl, hlb, hc⟩ := hp.at (by omega)
  have HC := hid hc
  clear hc hp
  have hB : Below w.heap.size w (w.alloc (.cells (vals 240 fun _ => 0).toArray 76)) := (Below.refl _ _).alloc (Nat.le_refl _) _
  have hA := arr_new w 240 (fun _ => 0) 76
  rw [← hF.out]
  go_enter Try.func46, Try.ntmps46
  go_wp2_with (at_make; refine wpList_make_arr _ rfl _ _ 69 rfl 76 i0 4 (by decide) (by decide) Try.underlying69 hi0 hz0 hz1 hz2 .i64 .i64 _ _ 60 rfl rfl rfl rfl (by decide) ?_)
  generalize hg : w.heap.size = g
  rw [hg] at hA
  have hgb : b < g := by omega
  have hgw : w.heap.size ≤ g := by omega
  generalize w.alloc (.cells (vals 240 fun _ => 0).toArray 76) = w0 at hA hB ⊢
  have HB0 := hid hB
  have HA0 := hid hA
  have HG := hid hg
  clear hA hB hg
  go_loopw [24] (fun i wr => ∃ n : Nat, n ≤ 8 ∧ i = .int .i64 (n : Int) ∧ Arr wr g 240 (upto F (4 * n)) ∧ Below w.heap.size w wr) (fun i _ => 8 - (intOf i).toNat)
  case atStart => exact ⟨0, by decide, rfl, HA0.out.same fun j _ => by unfold upto; simp, HB0.out⟩
  case round =>
    clear HA0 HB0
    obtain ⟨i, hi, rfl, hA, hB⟩ := hrel
    by_cases hlt : i < 8
    · have hR := bin_range hx (fun j hj => (hB.cell (p := ⟨b, o + j, none⟩) hlb).trans (HC.out j hj)) (4 * i) 4 (by omega)
      have hy : ∀ p, p < 4 → (nats xs).getD (4 * i + p) 0 = F (4 * i + p) := fun p hp => by rw [hF.out, wordB_key (by rw [nats_length, hl]) _ (by omega)]
      obtain ⟨n', hn', hN, hA'⟩ : ∃ n' : Nat, n' ≤ 8 ∧ Hid ((n' : Int) = (i : Int) + 1) ∧ Arr (wr.setCells g (i * 4) (vals 4 fun p => (nats xs).getD (4 * i + p) 0)) g 240 (upto F (4 * n')) :=
        ⟨i + 1, by omega, hid (by omega), hA.putAt (by omega) _ _ fun j _ => upto_put F i _ hy j⟩
      have hb' := below_setCells (b := g) (vals 4 fun p => (nats xs).getD (4 * i + p) 0) (i * 4) hB (by omega)
      have hT := hA.thereAt (o := i * 4) (n := 4) (by omega)
      have e := word_at b (o + 4 * i) (32 - 4 * i) (cap - 4 * i) (by omega) wr
      have HR := hid hR
      have HT := hid hT
      have HA' := hid hA'
      have HB' := hid hb'
      clear hA hB hR hT hy hA' hb' HC
      rcases (show i = 0 ∨ i = 1 ∨ i = 2 ∨ i = 3 ∨ i = 4 ∨ i = 5 ∨ i = 6 ∨ i = 7 from by omega) with rfl | rfl | rfl | rfl | rfl | rfl | rfl | rfl
      all_goals
        simp at e
        have hR := HR.out
        have hT := HT.out
        simp only [Nat.reduceMul, Nat.add_zero, Nat.zero_mul, Nat.mul_zero, Nat.zero_add] at hR hT HA' HB'
        generalize hq : (fun p => (nats xs).getD _ 0) = q at hR HA' HB'
        have HQ := hid hq
        have HR' := hid hR
        have HT' := hid hT
        clear hR hT hq HR HT
        go_wp2_with (first | (refine wpList_load_mid rfl 76 _ rfl b _ rfl (vals 4 q) _ ?_ huw rfl hiw ?_; exact HR'.out) | (refine wpList_store_mid rfl 76 _ _ rfl g _ (vals 4 q).toArray rfl rfl ?_ hiw (all_oneCell_toArray (vals_one 4 _)) ?_; exact HT'.out))
        go_roundw
        case rel => exact ⟨n', hn', by (have := hN.out; congr 1; omega), HA'.out, HB'.out⟩
        case measure => simp [intOf]
    · obtain rfl : i = 8 := by omega
      have HA0 := hid hA
      have HB0 := hid hB
      clear hA hB HC
      rw [show ((8 : Nat) : Int) = (8 : Int) from rfl]
      go_wp2_with fail
      go_loopw [7] (fun i wr => ∃ m : Nat, m ≤ 52 ∧ i = .int .i64 ((m : Int) + 8) ∧ Arr wr g 240 (upto F (4 * (8 + m))) ∧ Below w.heap.size w wr) (fun i _ => 60 - (intOf i).toNat)
      case atStart => exact ⟨0, by decide, rfl, HA0.out, HB0.out⟩
      case round =>
        clear HA0 HB0
        obtain ⟨m, hm, rfl, hA, hB⟩ := hrel
        by_cases hlt : m < 52
        · have hs := hid (show (wr.drew.rangeAt g (m * 4) (vals 4 fun p => F (m * 4 + p)) ∧ wr.drew.rangeAt g ((m + 7) * 4) (vals 4 fun p => F ((m + 7) * 4 + p)) ∧ Arr wr.drew g 240 (upto F (4 * (8 + m))) ∧ Below w.heap.size w wr.drew) from
            ⟨(vals_same (n := 4) (fun j hj => upto_lt F (4 * (8 + m)) (m * 4 + j) (by omega))) ▸ hA.drew.part (o := m * 4) (n := 4) (by omega), (vals_same (n := 4) (fun j hj => upto_lt F (4 * (8 + m)) ((m + 7) * 4 + j) (by omega))) ▸ hA.drew.part (o := (m + 7) * 4) (n := 4) (by omega), hA.drew, hB.drew⟩)
          have hst : ∀ j, j < 4 → F (m * 4 + j) ^^^ chg 8 (m + 8) (fun p => F ((m + 7) * 4 + p)) j = F (4 * (m + 8) + j) := fun j hj => by
            have hstep : F (4 * (m + 8) + j) = F (4 * (m + 8 - 8) + j) ^^^ chg 8 (m + 8) (fun q => F (4 * (m + 8 - 1) + q)) j := by
              rw [hF.out]; exact wordB_step (by rw [nats_length, hl]) (by decide) (m + 8) j (by omega) (by omega) hj
            rw [hstep, show 4 * (m + 8 - 8) + j = m * 4 + j from by omega, show 4 * (m + 8 - 1) = (m + 7) * 4 from by omega]
          have e1 : (m : Int) + 8 < 60 := by omega
          have e2 : ¬ (60 ≤ (m : Int)) := by omega
          have e3 : (m : Int) + 7 < 60 := by omega
          have e4 : (m : Int) < 60 := by omega
          have p3 : (0 : Int) ≤ (m : Int) + 7 := by omega
          have t3 : ((m : Int) + 7).toNat = m + 7 := by omega
          have p4 : (0 : Int) ≤ (m : Int) + 8 := by omega
          have t4 : ((m : Int) + 8).toNat = m + 8 := by omega
          have HST := hid hst
          clear hA hB hst
          go_wp2_with fail
          refine wp_region_z (fun wx => wx.rangeAt g (m * 4) (vals 4 fun p => F (m * 4 + p)) ∧ wx.rangeAt g ((m + 7) * 4) (vals 4 fun p => F ((m + 7) * 4 + p)) ∧ Arr wx g 240 (upto F (4 * (8 + m))) ∧ Below w.heap.size w wx) 18 (by kernel_rfl) hs.out (fun hS => ?_)
          refine wpAnyZ_take (i := 0) (v := .slice (some ⟨g, 0, none⟩) 60 60) rfl (by kernel_rfl) (by kernel_rfl) (by kernel_rfl) (by kernel_rfl) (fun _ _ _ h => h) hS (Or.inl ⟨by kernel_rfl, fun w hS => (by clear hS; go_simp)⟩) ?_
          simp only [Act.put, List.setIfInBounds_toArray, List.set_cons_zero, List.set_cons_succ]
          refine wpAnyZ_take (i := 1) (v := .int .i64 ((m : Int) + 8)) rfl (by kernel_rfl) (by kernel_rfl) (by kernel_rfl) (by kernel_rfl) (fun _ _ _ h => h) hS (Or.inl ⟨by kernel_rfl, fun w hS => (by clear hS; go_simp)⟩) ?_
          simp only [Act.put, List.setIfInBounds_toArray, List.set_cons_zero, List.set_cons_succ]
          refine wpAnyZ_take (i := 2) (v := .slice (some ⟨g, 0, none⟩) 60 60) rfl (by kernel_rfl) (by kernel_rfl) (by kernel_rfl) (by kernel_rfl) (fun _ _ _ h => h) hS (Or.inl ⟨by kernel_rfl, fun w hS => (by clear hS; go_simp)⟩) ?_
          simp only [Act.put, List.setIfInBounds_toArray, List.set_cons_zero, List.set_cons_succ]
          refine wpAnyZ_take (i := 3) (v := .int .i64 ((m : Int) + 8)) rfl (by kernel_rfl) (by kernel_rfl) (by kernel_rfl) (by kernel_rfl) (fun _ _ _ h => h) hS (Or.inl ⟨by kernel_rfl, fun w hS => (by clear hS; go_simp)⟩) ?_
          simp only [Act.put, List.setIfInBounds_toArray, List.set_cons_zero, List.set_cons_succ]
          refine wpAnyZ_take (i := 4) (v := .int .i64 8) rfl (by kernel_rfl) (by kernel_rfl) (by kernel_rfl) (by kernel_rfl) (fun _ _ _ h => h) hS (Or.inl ⟨by kernel_rfl, fun w hS => (by clear hS; go_simp)⟩) ?_
          simp only [Act.put, List.setIfInBounds_toArray, List.set_cons_zero, List.set_cons_succ]
          refine wpAnyZ_take (i := 5) (v := .int .i64 (m : Int)) rfl (by kernel_rfl) (by kernel_rfl) (by kernel_rfl) (by kernel_rfl) (fun _ _ _ h => h) hS (Or.inl ⟨by kernel_rfl, fun w hS => (by clear hS; go_simp; (try (simp [IntKind.wrap, IntKind.bits, IntKind.signed])); (try omega))⟩) ?_
          simp only [Act.put, List.setIfInBounds_toArray, List.set_cons_zero, List.set_cons_succ]
          refine wpAnyZ_take (i := 6) (v := .pointer (some ⟨g, m * 4, none⟩)) rfl (by kernel_rfl) (by kernel_rfl) (by kernel_rfl) (by kernel_rfl) (fun _ _ _ h => h) hS (Or.inl ⟨by kernel_rfl, fun w hS => (by clear hS; go_simp)⟩) ?_
          simp only [Act.put, List.setIfInBounds_toArray, List.set_cons_zero, List.set_cons_succ]
          refine wpAnyZ_take (i := 7) rfl (by kernel_rfl) (by kernel_rfl) (by kernel_rfl) (by kernel_rfl) (fun _ _ _ h => h) hS (yieldsIf_load_mid (by kernel_rfl) 76 (.tmp 50) rfl g (m * 4) (by kernel_rfl) (vals 4 fun p => F (m * 4 + p)) _ (fun w hS => hS.1) huw rfl hiw) ?_
          simp only [Act.put, List.setIfInBounds_toArray, List.set_cons_zero, List.set_cons_succ]
          refine wpAnyZ_take (i := 8) (v := .slice (some ⟨g, 0, none⟩) 60 60) rfl (by kernel_rfl) (by kernel_rfl) (by kernel_rfl) (by kernel_rfl) (fun _ _ _ h => h) hS (Or.inl ⟨by kernel_rfl, fun w hS => (by clear hS; go_simp)⟩) ?_
          simp only [Act.put, List.setIfInBounds_toArray, List.set_cons_zero, List.set_cons_succ]
          refine wpAnyZ_take (i := 9) (v := .int .i64 ((m : Int) + 8)) rfl (by kernel_rfl) (by kernel_rfl) (by kernel_rfl) (by kernel_rfl) (fun _ _ _ h => h) hS (Or.inl ⟨by kernel_rfl, fun w hS => (by clear hS; go_simp)⟩) ?_
          simp only [Act.put, List.setIfInBounds_toArray, List.set_cons_zero, List.set_cons_succ]
          refine wpAnyZ_take (i := 10) (v := .int .i64 ((m : Int) + 7)) rfl (by kernel_rfl) (by kernel_rfl) (by kernel_rfl) (by kernel_rfl) (fun _ _ _ h => h) hS (Or.inl ⟨by kernel_rfl, fun w hS => (by clear hS; go_simp; (try (simp [IntKind.wrap, IntKind.bits, IntKind.signed])); (try omega))⟩) ?_
          simp only [Act.put, List.setIfInBounds_toArray, List.set_cons_zero, List.set_cons_succ]
          refine wpAnyZ_take (i := 11) (v := .pointer (some ⟨g, (m + 7) * 4, none⟩)) rfl (by kernel_rfl) (by kernel_rfl) (by kernel_rfl) (by kernel_rfl) (fun _ _ _ h => h) hS (Or.inl ⟨by kernel_rfl, fun w hS => (by clear hS; go_simp)⟩) ?_
          simp only [Act.put, List.setIfInBounds_toArray, List.set_cons_zero, List.set_cons_succ]
          refine wpAnyZ_take (i := 12) rfl (by kernel_rfl) (by kernel_rfl) (by kernel_rfl) (by kernel_rfl) (fun _ _ _ h => h) hS (yieldsIf_load_mid (by kernel_rfl) 76 (.tmp 55) rfl g ((m + 7) * 4) (by kernel_rfl) (vals 4 fun p => F ((m + 7) * 4 + p)) _ (fun w hS => hS.2.1) huw rfl hiw) ?_
          simp only [Act.put, List.setIfInBounds_toArray, List.set_cons_zero, List.set_cons_succ]
          refine wpAnyZ_take (i := 13) (v := .int .i64 ((m : Int) + 8)) rfl (by kernel_rfl) (by kernel_rfl) (by kernel_rfl) (by kernel_rfl) (fun _ _ _ h => h) hS (Or.inl ⟨by kernel_rfl, fun w hS => (by clear hS; go_simp)⟩) ?_
          simp only [Act.put, List.setIfInBounds_toArray, List.set_cons_zero, List.set_cons_succ]
          refine wpAnyZ_take (i := 14) (v := .int .i64 8) rfl (by kernel_rfl) (by kernel_rfl) (by kernel_rfl) (by kernel_rfl) (fun _ _ _ h => h) hS (Or.inl ⟨by kernel_rfl, fun w hS => (by clear hS; go_simp)⟩) ?_
          simp only [Act.put, List.setIfInBounds_toArray, List.set_cons_zero, List.set_cons_succ]
          refine wpAnyZ_one (i := 15) (by kernel_rfl) rfl (fun K hK => ?_)
          go_simp
          go_at_call 69
          refine (changed8_at (fun p => F ((m + 7) * 4 + p)) m _ (fun p => oF _) (by omega)).mono ?_
          rintro e w1 ⟨rfl, hb1⟩
          go_wp2_with fail
          refine hK.out _ _ (fun _ => keysS_grow hS hb1) ?_
          replace hS := keysS_grow hS hb1
          clear hK K
          try simp only [Act.put, List.setIfInBounds_toArray, List.set_cons_zero, List.set_cons_succ]
          refine wpAnyZ_one (i := 16) (by kernel_rfl) rfl (fun K hK => ?_)
          go_simp
          go_at_call 68
          refine (sum_any (fun p => F (m * 4 + p)) (chg 8 (m + 8) fun p => F ((m + 7) * 4 + p)) _ (fun p => oF _) (chg_lt (fun p => oF _))).mono ?_
          rintro e w2 ⟨rfl, hb2⟩
          go_wp2_with fail
          refine hK.out _ _ (fun _ => keysS_grow hS hb2) ?_
          replace hS := keysS_grow hS hb2
          clear hK K
          try simp only [Act.put, List.setIfInBounds_toArray, List.set_cons_zero, List.set_cons_succ]
          refine wpAnyZ_take (i := 17) (v := .pointer (some ⟨g, (m + 8) * 4, none⟩)) rfl (by kernel_rfl) (by kernel_rfl) (by kernel_rfl) (by kernel_rfl) (fun _ _ _ h => h) hS (Or.inl ⟨by kernel_rfl, fun w hS => (by clear hS; go_simp)⟩) ?_
          simp only [Act.put, List.setIfInBounds_toArray, List.set_cons_zero, List.set_cons_succ]
          have hT := hS.2.2.1.thereAt (o := (m + 8) * 4) (n := 4) (by omega)
          refine wpAnyZ_one (i := 18) (by kernel_rfl) rfl (fun K hK => ?_)
          rw [if_pos (by kernel_rfl)]
          refine wp_store_mid 76 _ _ rfl g ((m + 8) * 4) (vals 4 fun p => F (m * 4 + p) ^^^ chg 8 (m + 8) (fun p => F ((m + 7) * 4 + p)) p).toArray (by kernel_rfl) (by kernel_rfl) hT Try.sizeWord (all_oneCell_toArray (vals_one 4 _)) ?_
          try simp only [Act.put, List.setIfInBounds_toArray, List.set_cons_zero, List.set_cons_succ]
          refine hK.out _ _ (fun h => absurd h (by decide)) ?_
          clear hK K
          refine wpAnyZ_done (by kernel_rfl) ?_ _
          go_wp2_with fail
          go_roundw
          case rel =>
            refine ⟨m + 1, by omega, by go_num, ?_, below_setCells _ _ hS.2.2.2 (by omega)⟩
            refine hS.2.2.1.putAt (by omega) _ _ fun j _ => ?_
            rw [show 8 + (m + 1) = (m + 8) + 1 from by omega, show 8 + m = m + 8 from by omega]
            exact upto_put F (m + 8) _ HST.out j
          case measure => simp [intOf]; omega
        · obtain rfl : m = 52 := by omega
          have HA0 := hid hA
          clear hA
          go_wp2_with fail
          go_ret2
          exact ⟨g, rfl, HA0.out.same fun j hj => upto_lt F _ j (by omega), hB, hgw⟩
end Go.Proofs.Ytgnhbfjngdgibaa

/-
  The contract of New.
-/
namespace Go.Proofs.Ytgnhbfjngdgibaa
open Go.RowKit
set_option linter.unusedVariables false
set_option linter.unusedSimpArgs false

/-- A new cipher's cells. -/
def fresh (k n : Nat) : List Value := .slice (some ⟨k, 0, none⟩) n n :: vals 512 fun _ => 0
theorem Try.zeroCipher (w : World) : (zeroValue 75).run Try.prog w = .ok (.agg (Value.slice none 0 0 :: vals 512 fun _ => 0).toArray) w := by kernel_rfl

/-- The two tables of a cipher, as they stand. -/
def Tab (w : World) (c : Nat) (y : Nat → Nat) : Prop := ∀ j, j < 512 → w.cell? ⟨c, 1 + j, none⟩ = some (.int .u8 (y j : Nat)) ∧ w.frozen? ⟨c, 1 + j, none⟩ = false
theorem Tab.same {w : World} {c : Nat} {x y : Nat → Nat} (h : Tab w c x) (e : ∀ j, j < 512 → x j = y j) : Tab w c y := fun j hj => by rw [← e j hj]; exact h j hj
theorem Tab.below {w w' : World} {c : Nat} {y : Nat → Nat} (h : Tab w c y) (hb : Below w.heap.size w w') : Tab w' c y := fun j hj => by
  have hl : c < w.heap.size := World.block_lt_of_cell? w _ (h 0 (by decide)).1
  exact ⟨(hb.cell (p := ⟨c, 1 + j, none⟩) hl).trans (h j hj).1, (hb.frozen (p := ⟨c, 1 + j, none⟩) hl).trans (h j hj).2⟩
theorem Tab.set {w : World} {c : Nat} {y : Nat → Nat} (h : Tab w c y) (i z : Nat) (hi : i < 512) : Tab (w.setCell ⟨c, 1 + i, none⟩ (.int .u8 (z : Nat))) c (fun j => if j = i then z else y j) := fun j hj => by
  constructor
  · by_cases e : j = i
    · subst e
      rw [World.cell?_setCell_same w _ _ (h j hj).1]; simp
    · rw [World.cell?_setCell_other w _ _ _ (by intro hh; injection hh with _ h2 _; exact e (by omega)), (h j hj).1]; simp [e]
  · rw [World.frozen?_setCell]; exact (h j hj).2
theorem Tab.besideCells {w : World} {c b : Nat} {y : Nat → Nat} (h : Tab w c y) (hb : b ≠ c) (o : Nat) (vs : List Value) : Tab (w.setCells b o vs) c y := fun j hj => by
  rw [World.frozen?_setCells, World.cell?_setCells_out b vs o w ⟨c, 1 + j, none⟩ (fun hh _ => absurd hh.symm hb)]
  exact h j hj
theorem tab_new (w : World) (k n : Nat) (t : TypeId) : Tab (w.alloc (.cells (fresh k n).toArray t)) w.heap.size (fun _ => 0) ∧ (w.alloc (.cells (fresh k n).toArray t)).cell? ⟨w.heap.size, 0, none⟩ = some (.slice (some ⟨k, 0, none⟩) n n) := by
  constructor
  · intro j hj
    have e : (fresh k n)[1 + j]? = some (.int .u8 0) := by
      rw [Nat.add_comm]
      simp only [fresh, List.getElem?_cons_succ]
      exact vals_at 512 (fun _ => 0) j hj
    constructor
    · simp [e]
    · simp
  · simp [fresh]

/-- The tables when the first n are in. -/
def tabs (n j : Nat) : Nat := if j < 256 then (if j < n then sub j else 0) else if back (j - 256) < n then back (j - 256) else 0
theorem tabs_zero (j : Nat) : tabs 0 j = 0 := by unfold tabs; split <;> simp
theorem tabs_full {j : Nat} (hj : j < 512) : tabs 256 j = if j < 256 then sub j else back (j - 256) := by
  unfold tabs
  by_cases h : j < 256
  · simp [h]
  · rw [if_neg h, if_neg h, if_pos (back_lt (by omega))]
theorem tabs_step {n j : Nat} (hn : n < 256) (hj : j < 512) : (if j = 256 + sub n then n else if j = n then sub n else tabs n j) = tabs (n + 1) j := by
  have hs := sub_lt hn
  unfold tabs
  by_cases h : j < 256
  · rw [if_neg (by omega), if_pos h, if_pos h]
    by_cases h2 : j = n
    · subst h2; rw [if_pos rfl, if_pos (by omega)]
    · rw [if_neg h2]
      by_cases h3 : j < n
      · rw [if_pos h3, if_pos (by omega)]
      · rw [if_neg h3, if_neg (by omega)]
  · rw [if_neg h, if_neg h, if_neg (show ¬ j = n by omega)]
    by_cases h2 : j = 256 + sub n
    · subst h2
      rw [if_pos rfl, show 256 + sub n - 256 = sub n from by omega, back_sub hn, if_pos (by omega)]
    · have hb : back (j - 256) ≠ n := fun e => h2 (by
        have := sub_back (a := j - 256) (by omega)
        rw [e] at this
        omega)
      rw [if_neg h2]
      by_cases h3 : back (j - 256) < n
      · rw [if_pos h3, if_pos (by omega)]
      · rw [if_neg h3, if_neg (by omega)]

/-- What New's loops keep. -/
def Mk (w0 : World) (c k r : Nat) (G y : Nat → Nat) (wr : World) : Prop := wr.cell? ⟨c, 0, none⟩ = some (.slice (some ⟨k, 0, none⟩) (r + 1) (r + 1)) ∧ Arr wr k (16 * (r + 1)) G ∧ Tab wr c y ∧ Below w0.heap.size w0 wr
theorem Mk.grow {w0 w w' : World} {c k r : Nat} {G y : Nat → Nat} (h : Mk w0 c k r G y w) (hb : Below w.heap.size w w') : Mk w0 c k r G y w' :=
  ⟨(hb.cell (p := ⟨c, 0, none⟩) (World.block_lt_of_cell? w _ h.1)).trans h.1, h.2.1.below hb, h.2.2.1.below hb, h.2.2.2.trans (hb.mono h.2.2.2.size)⟩
theorem Mk.lt {w0 w : World} {c k r : Nat} {G y : Nat → Nat} (h : Mk w0 c k r G y w) : c < w.heap.size ∧ k < w.heap.size := ⟨World.block_lt_of_cell? w _ h.1, h.2.1.lt (by omega)⟩
theorem Mk.other {w0 w : World} {c k r g : Nat} {G y : Nat → Nat} (h : Mk w0 c k r G y w) (hg : w0.heap.size ≤ g) (hc : g ≠ c) (hk : g ≠ k) (o : Nat) (vs : List Value) : Mk w0 c k r G y (w.setCells g o vs) :=
  ⟨by rw [World.cell?_setCells_out g vs o w ⟨c, 0, none⟩ (fun hh _ => absurd hh.symm hc)]; exact h.1, fun j hj => by
    rw [World.frozen?_setCells, World.cell?_setCells_out g vs o w ⟨k, j, none⟩ (fun hh _ => absurd hh.symm hk)]; exact h.2.1 j hj, h.2.2.1.besideCells hc o vs, below_setCells vs o h.2.2.2 hg⟩
theorem Mk.keys {w0 w : World} {c k r : Nat} {G y : Nat → Nat} (h : Mk w0 c k r G y w) (hk : w0.heap.size ≤ k) (hc : k ≠ c) (o : Nat) (ho : o + 4 ≤ 16 * (r + 1)) (x G' : Nat → Nat) (e : ∀ j, j < 16 * (r + 1) → G' j = if o ≤ j ∧ j < o + 4 then x (j - o) else G j) : Mk w0 c k r G' y (w.setCells k o (vals 4 x)) :=
  ⟨by rw [World.cell?_setCells_out k (vals 4 x) o w ⟨c, 0, none⟩ (fun hh _ => absurd hh.symm hc)]; exact h.1, h.2.1.putAt ho x G' e, h.2.2.1.besideCells hc o _, below_setCells _ o h.2.2.2 hk⟩
theorem Mk.tab {w0 w : World} {c k r : Nat} {G y : Nat → Nat} (h : Mk w0 c k r G y w) (hc : w0.heap.size ≤ c) (hk : k ≠ c) (i z : Nat) (hi : i < 512) : Mk w0 c k r G (fun j => if j = i then z else y j) (w.setCell ⟨c, 1 + i, none⟩ (.int .u8 (z : Nat))) :=
  ⟨by rw [World.cell?_setCell_other w _ _ _ (by intro hh; injection hh with _ h2 _; omega)]; exact h.1, h.2.1.beside (fun e => hk e.symm) _ _, h.2.2.1.set i z hi, h.2.2.2.setCell hc _⟩
theorem Mk.cip {w0 w : World} {c k r : Nat} {G : Nat → Nat} (h : Mk w0 c k r G (tabs 256) w) : Cip w c k r G :=
  ⟨h.1, fun x hx => by
    have := (h.2.2.1 x (by omega)).1
    rw [tabs_full (by omega), if_pos hx] at this
    exact this, fun x hx => by
    have := (h.2.2.1 (256 + x) (by omega)).1
    rw [tabs_full (by omega), if_neg (by omega), show 256 + x - 256 = x from by omega, show 1 + (256 + x) = 257 + x from by omega] at this
    exact this, h.2.1⟩

set_option maxRecDepth 100000 in
theorem new_no (p : Option Addr) (cap n : Nat) (w : World) (h1 : n ≠ 16) (h2 : n ≠ 32) :
    Calls Try.prog 35 #[.slice p n cap] w fun e w' => e = .returned (.tuple #[.pointer none, .int .i64 2]) ∧ w = w' := by
  go_enter Try.func35, Try.ntmps35
  go_wp2_with fail
  refine (words_no p cap n _ h1 h2).mono ?_
  rintro e w' ⟨rfl, rfl⟩
  go_wp2
  go_ret2
  exact ⟨rfl, rfl⟩

set_option maxHeartbeats 8000000 in
set_option maxRecDepth 100000 in
theorem new4_new (p : Option Addr) (cap : Nat) (xs : List Int) (w : World) (hp : Bin w p xs) (hx : Oct xs) (hl : xs.length = 16) (hcap : 16 ≤ cap) :
    Calls Try.prog 35 #[.slice p 16 cap] w fun e w' => ∃ c kb, e = .returned (.tuple #[.pointer (some ⟨c, 0, none⟩), .int .i64 0]) ∧
      Cip w' c kb 10 (wordB 4 (nats xs)) ∧ Below w.heap.size w w' ∧ w.heap.size ≤ c ∧ w.heap.size ≤ kb := by
  obtain ⟨i0, hi0, hz0, hz1, hz2⟩ := info_parts Try.infoState
  obtain ⟨F, hF⟩ : ∃ F, Hid (F = wordB 4 (nats xs)) := ⟨_, rfl⟩
  have huw := Try.underlying76
  have hiw := Try.sizeWord
  have hz4 := Try.zeroWord
  have hzc := Try.zeroCipher
  rw [← hF.out]
  go_enter Try.func35, Try.ntmps35
  go_wp2_with fail
  refine (words4_any p cap xs _ hp hx hl hcap).mono ?_
  rintro e w1 ⟨g, rfl, hA, hb, hg⟩
  rw [← hF.out] at hA
  clear hp
  have hgl := hA.lt (by decide)
  have hsz := hb.size
  go_wp2_with (first | (at_make; refine wpList_make_arr _ rfl _ _ 72 rfl 77 i0 16 (by decide) (by decide) Try.underlying72 hi0 hz0 hz1 hz2 .i64 .i64 _ _ 11 rfl rfl rfl rfl (by decide) ?_))
  obtain ⟨kb, hkb⟩ : ∃ kb, kb = w1.heap.size := ⟨_, rfl⟩
  obtain ⟨c, hc⟩ : ∃ c, c = w1.heap.size + 1 := ⟨_, rfl⟩
  have hM : Mk w c kb 10 (fun _ => 0) (fun _ => 0) ((w1.alloc (.cells (vals 176 fun _ => 0).toArray 77)).alloc (.cells (fresh w1.heap.size 11).toArray 75)) := by
    have t := tab_new (w1.alloc (.cells (vals 176 fun _ => 0).toArray 77)) w1.heap.size 11 75
    have e : (w1.alloc (.cells (vals 176 fun _ => 0).toArray 77)).heap.size = c := by rw [hc]; simp
    rw [e, ← hkb] at t
    rw [← hkb]
    exact ⟨t.2, by rw [hkb]; exact (arr_new w1 176 (fun _ => 0) 77).alloc _, t.1, (hb.alloc (by omega) _).alloc (by rw [e]; omega) _⟩
  have hW : Arr ((w1.alloc (.cells (vals 176 fun _ => 0).toArray 77)).alloc (.cells (fresh w1.heap.size 11).toArray 75)) g 176 F := (hA.alloc _).alloc _
  have hgk : g < kb := by omega
  have hck : kb ≠ c := by omega
  have hkw : w.heap.size ≤ kb := by omega
  have hcw : w.heap.size ≤ c := by omega
  change Code.wp _ _ _ _ ((w1.alloc (.cells (vals 176 fun _ => 0).toArray 77)).alloc (.cells (fresh w1.heap.size 11).toArray 75))
  rw [← hc]
  generalize (w1.alloc (.cells (vals 176 fun _ => 0).toArray 77)).alloc (.cells (fresh w1.heap.size 11).toArray 75) = w2 at hM hW ⊢
  rw [← hkb]
  have HM := hid hM
  have HW := hid hW
  clear hA hM hW hb hsz hgl hkb hc
  have hkb := hkw
  go_loopw [27] (fun i wr => ∃ n : Nat, n ≤ 44 ∧ i = .int .i64 (n : Int) ∧ Mk w c kb 10 (upto F (4 * n)) (fun _ => 0) wr ∧ Arr wr g 176 F) (fun i _ => 44 - (intOf i).toNat)
  case atStart => exact ⟨0, by decide, rfl, ⟨HM.out.1, HM.out.2.1.same fun j _ => (by unfold upto; simp), HM.out.2.2⟩, HW.out⟩
  case round =>
    clear HM HW
    obtain ⟨n, hn, rfl, hM, hW⟩ := hrel
    by_cases hlt : n < 44
    · have hlm := hM.lt
      have hs4 : n * 4 = 4 * n := by omega
      have hR : wr.rangeAt g (n * 4) (vals 4 (fun p => F (4 * n + p))) := by rw [hs4]; exact hW.part (by omega)
      have HR := hid hR
      obtain ⟨h, hh⟩ : ∃ h, Hid (h = wr.heap.size) := ⟨_, rfl⟩
      have hhc : c < h ∧ kb < h := by rw [hh.out]; exact hlm
      obtain ⟨w3, hw3, hS3, hWw⟩ : ∃ w3, Hid (w3 = (wr.alloc (.cells (vals 4 fun _ => 0).toArray 76)).setCells h 0 (vals 4 (fun p => F (4 * n + p)))) ∧ (Mk w c kb 10 (upto F (4 * n)) (fun _ => 0) w3.drew ∧ Arr w3.drew h 4 (fun p => F (4 * n + p))) ∧ Hid (Arr w3 g 176 F) := by
        rw [hh.out]
        exact ⟨_, rfl, ⟨((hM.grow ((Below.refl _ _).alloc (Nat.le_refl _) _)).other (by omega) (by omega) (by omega) 0 _).grow (Below.refl _ _).drew, ((arr_new wr 4 (fun _ => 0) 76).put _).drew⟩, ((hW.alloc _).besidePut (by omega) 0 _)⟩
      have hs := hid hS3
      have e1 : (n : Int) < 44 := by omega
      have e2 : ¬ (44 ≤ (n : Int)) := by omega
      have hT := hid (arr_new wr 4 (fun _ => 0) 76)
      clear hM hW hR hlm hS3 hs4
      go_wp2_with (first | (refine wpList_load_mid rfl 76 _ rfl g (n * 4) rfl (vals 4 (fun p => F (4 * n + p))) _ ?_ huw rfl hiw ?_; exact HR.out) | (refine wpList_store_arr rfl 76 _ _ rfl wr.heap.size 4 (fun p => F (4 * n + p)) rfl rfl (fun _ => 0) ?_ hiw ?_; exact hT.out))
      rw [← hh.out, ← hw3.out]
      clear hT HR hw3
      have e3 : (0 : Int) ≤ (n : Int) := by omega
      rcases (show n % 4 = 0 ∨ n % 4 = 1 ∨ n % 4 = 2 ∨ n % 4 = 3 from by omega) with hm | hm | hm | hm
      · obtain ⟨a, ha⟩ : ∃ a, Hid (a = n / 4) := ⟨_, rfl⟩
        have hna : n = 4 * a + 0 := by have := ha.out; omega
        have ha1 : (a : Int) < 11 := by omega
        have ha2 : ¬ (11 ≤ (a : Int)) := by omega
        have d1 : IntKind.i64.wrap ((n : Int) / 4) = (a : Int) := by simp [IntKind.wrap, IntKind.bits, IntKind.signed]; omega
        have d2 : (n : Int) % 4 = 0 := by omega
        have d3 : (n : Int).tmod 4 = 0 := by rw [Int.tmod_eq_emod_of_nonneg (by omega)]; exact d2
        have HNA := hid hna
        clear hna hm
        have hmk := hs.out.1.keys (G' := upto F (4 * (n + 1))) hkb hck (a * 16) (by have := HNA.out; omega) (fun p => F (4 * n + p)) (fun j _ => (by rw [show a * 16 = n * 4 from by have := HNA.out; omega]; exact upto_put F n (fun p => F (4 * n + p)) (fun p _ => rfl) j))
        have HMK := hid hmk
        clear hmk
        refine wp_region_z (fun wx => wx.cell? ⟨c, 0, none⟩ = some (.slice (some ⟨kb, 0, none⟩) (10 + 1) (10 + 1))) 13 (by kernel_rfl) hs.out.1.1 (fun hS => ?_)
        refine wpAnyZ_take (i := 0) (v := .pointer (some ⟨c, 0, none⟩)) rfl (by kernel_rfl) (by kernel_rfl) (by kernel_rfl) (by kernel_rfl) (fun _ _ _ h => h) hS (Or.inl ⟨by kernel_rfl, fun w hS => (by clear hS; go_simp)⟩) ?_
        simp only [Act.put, List.setIfInBounds_toArray, List.set_cons_zero, List.set_cons_succ]
        refine wpAnyZ_take (i := 1) (v := .pointer (some ⟨c, 0, none⟩)) rfl (by kernel_rfl) (by kernel_rfl) (by kernel_rfl) (by kernel_rfl) (fun _ _ _ h => h) hS (Or.inl ⟨by kernel_rfl, fun w hS => (by clear hS; go_simp)⟩) ?_
        simp only [Act.put, List.setIfInBounds_toArray, List.set_cons_zero, List.set_cons_succ]
        refine wpAnyZ_take (i := 2) (v := .pointer (some ⟨c, 0, none⟩)) rfl (by kernel_rfl) (by kernel_rfl) (by kernel_rfl) (by kernel_rfl) (fun _ _ _ h => h) hS (Or.inl ⟨by kernel_rfl, fun w hS => (by clear hS; go_simp)⟩) ?_
        simp only [Act.put, List.setIfInBounds_toArray, List.set_cons_zero, List.set_cons_succ]
        refine wpAnyZ_take (i := 3) (v := .slice (some ⟨kb, 0, none⟩) 11 11) rfl (by kernel_rfl) (by kernel_rfl) (by kernel_rfl) (by kernel_rfl) (fun _ _ _ h => h) hS (Or.inl ⟨by kernel_rfl, fun w hS => (by go_simp)⟩) ?_
        simp only [Act.put, List.setIfInBounds_toArray, List.set_cons_zero, List.set_cons_succ]
        refine wpAnyZ_take (i := 4) (v := .int .i64 (n : Int)) rfl (by kernel_rfl) (by kernel_rfl) (by kernel_rfl) (by kernel_rfl) (fun _ _ _ h => h) hS (Or.inl ⟨by kernel_rfl, fun w hS => (by clear hS; go_simp)⟩) ?_
        simp only [Act.put, List.setIfInBounds_toArray, List.set_cons_zero, List.set_cons_succ]
        refine wpAnyZ_take (i := 5) (v := .int .i64 (a : Int)) rfl (by kernel_rfl) (by kernel_rfl) (by kernel_rfl) (by kernel_rfl) (fun _ _ _ h => h) hS (Or.inl ⟨by kernel_rfl, fun w hS => (by clear hS; go_simp; (try (simp [IntKind.wrap, IntKind.bits, IntKind.signed])); (try omega))⟩) ?_
        simp only [Act.put, List.setIfInBounds_toArray, List.set_cons_zero, List.set_cons_succ]
        refine wpAnyZ_take (i := 6) (v := .pointer (some ⟨kb, a * 16, none⟩)) rfl (by kernel_rfl) (by kernel_rfl) (by kernel_rfl) (by kernel_rfl) (fun _ _ _ h => h) hS (Or.inl ⟨by kernel_rfl, fun w hS => (by clear hS; go_simp)⟩) ?_
        simp only [Act.put, List.setIfInBounds_toArray, List.set_cons_zero, List.set_cons_succ]
        refine wpAnyZ_take (i := 7) (v := .int .i64 (n : Int)) rfl (by kernel_rfl) (by kernel_rfl) (by kernel_rfl) (by kernel_rfl) (fun _ _ _ h => h) hS (Or.inl ⟨by kernel_rfl, fun w hS => (by clear hS; go_simp)⟩) ?_
        simp only [Act.put, List.setIfInBounds_toArray, List.set_cons_zero, List.set_cons_succ]
        refine wpAnyZ_take (i := 8) (v := .int .i64 0) rfl (by kernel_rfl) (by kernel_rfl) (by kernel_rfl) (by kernel_rfl) (fun _ _ _ h => h) hS (Or.inl ⟨by kernel_rfl, fun w hS => (by clear hS; go_simp; (try (simp [IntKind.wrap, IntKind.bits, IntKind.signed])); (try omega))⟩) ?_
        simp only [Act.put, List.setIfInBounds_toArray, List.set_cons_zero, List.set_cons_succ]
        refine wpAnyZ_take (i := 9) (v := .int .i64 0) rfl (by kernel_rfl) (by kernel_rfl) (by kernel_rfl) (by kernel_rfl) (fun _ _ _ h => h) hS (Or.inl ⟨by kernel_rfl, fun w hS => (by clear hS; go_simp; (try (simp [IntKind.wrap, IntKind.bits, IntKind.signed])); (try omega))⟩) ?_
        simp only [Act.put, List.setIfInBounds_toArray, List.set_cons_zero, List.set_cons_succ]
        refine wpAnyZ_take (i := 10) (v := .slice (some ⟨kb, a * 16, none⟩) 16 16) rfl (by kernel_rfl) (by kernel_rfl) (by kernel_rfl) (by kernel_rfl) (fun _ _ _ h => h) hS (Or.inl ⟨by kernel_rfl, fun w hS => (by clear hS; go_simp)⟩) ?_
        simp only [Act.put, List.setIfInBounds_toArray, List.set_cons_zero, List.set_cons_succ]
        refine wpAnyZ_take (i := 11) (v := .slice (some ⟨h, 0, none⟩) 4 4) rfl (by kernel_rfl) (by kernel_rfl) (by kernel_rfl) (by kernel_rfl) (fun _ _ _ h => h) hS (Or.inl ⟨by kernel_rfl, fun w hS => (by clear hS; go_simp)⟩) ?_
        simp only [Act.put, List.setIfInBounds_toArray, List.set_cons_zero, List.set_cons_succ]
        refine wpAnyZ_one (i := 12) (by kernel_rfl) rfl (fun K hK => ?_)
        refine step_copy_cells rfl _ _ _ _ rfl 5 Try.underlying22 Try.sizeByte kb (a * 16) 16 16 (by kernel_rfl) ⟨h, 0, none⟩ 4 4 (by kernel_rfl) (vals 4 (fun p => F (4 * n + p))) rfl (range_cells hs.out.2.range) (hs.out.1.2.1.thereAt (by rw [vals_length]; omega)) (vals_one _ _) ?_
        refine hK.out _ _ (fun _ => HMK.out.1) ?_
        clear hK K
        try simp only [Act.put, List.setIfInBounds_toArray, List.set_cons_zero, List.set_cons_succ]
        refine wpAnyZ_done (by kernel_rfl) ?_ _
        go_wp2_with fail
        go_roundw
        case rel => exact ⟨n + 1, by omega, by go_num, HMK.out, hWw.out.drew.besidePut (by omega) _ _⟩
        case measure => simp [intOf]; omega
      · obtain ⟨a, ha⟩ : ∃ a, Hid (a = n / 4) := ⟨_, rfl⟩
        have hna : n = 4 * a + 1 := by have := ha.out; omega
        have ha1 : (a : Int) < 11 := by omega
        have ha2 : ¬ (11 ≤ (a : Int)) := by omega
        have d1 : IntKind.i64.wrap ((n : Int) / 4) = (a : Int) := by simp [IntKind.wrap, IntKind.bits, IntKind.signed]; omega
        have d2 : (n : Int) % 4 = 1 := by omega
        have d3 : (n : Int).tmod 4 = 1 := by rw [Int.tmod_eq_emod_of_nonneg (by omega)]; exact d2
        have HNA := hid hna
        clear hna hm
        have hmk := hs.out.1.keys (G' := upto F (4 * (n + 1))) hkb hck (a * 16 + 4) (by have := HNA.out; omega) (fun p => F (4 * n + p)) (fun j _ => (by rw [show a * 16 + 4 = n * 4 from by have := HNA.out; omega]; exact upto_put F n (fun p => F (4 * n + p)) (fun p _ => rfl) j))
        have HMK := hid hmk
        clear hmk
        refine wp_region_z (fun wx => wx.cell? ⟨c, 0, none⟩ = some (.slice (some ⟨kb, 0, none⟩) (10 + 1) (10 + 1))) 13 (by kernel_rfl) hs.out.1.1 (fun hS => ?_)
        refine wpAnyZ_take (i := 0) (v := .pointer (some ⟨c, 0, none⟩)) rfl (by kernel_rfl) (by kernel_rfl) (by kernel_rfl) (by kernel_rfl) (fun _ _ _ h => h) hS (Or.inl ⟨by kernel_rfl, fun w hS => (by clear hS; go_simp)⟩) ?_
        simp only [Act.put, List.setIfInBounds_toArray, List.set_cons_zero, List.set_cons_succ]
        refine wpAnyZ_take (i := 1) (v := .pointer (some ⟨c, 0, none⟩)) rfl (by kernel_rfl) (by kernel_rfl) (by kernel_rfl) (by kernel_rfl) (fun _ _ _ h => h) hS (Or.inl ⟨by kernel_rfl, fun w hS => (by clear hS; go_simp)⟩) ?_
        simp only [Act.put, List.setIfInBounds_toArray, List.set_cons_zero, List.set_cons_succ]
        refine wpAnyZ_take (i := 2) (v := .pointer (some ⟨c, 0, none⟩)) rfl (by kernel_rfl) (by kernel_rfl) (by kernel_rfl) (by kernel_rfl) (fun _ _ _ h => h) hS (Or.inl ⟨by kernel_rfl, fun w hS => (by clear hS; go_simp)⟩) ?_
        simp only [Act.put, List.setIfInBounds_toArray, List.set_cons_zero, List.set_cons_succ]
        refine wpAnyZ_take (i := 3) (v := .slice (some ⟨kb, 0, none⟩) 11 11) rfl (by kernel_rfl) (by kernel_rfl) (by kernel_rfl) (by kernel_rfl) (fun _ _ _ h => h) hS (Or.inl ⟨by kernel_rfl, fun w hS => (by go_simp)⟩) ?_
        simp only [Act.put, List.setIfInBounds_toArray, List.set_cons_zero, List.set_cons_succ]
        refine wpAnyZ_take (i := 4) (v := .int .i64 (n : Int)) rfl (by kernel_rfl) (by kernel_rfl) (by kernel_rfl) (by kernel_rfl) (fun _ _ _ h => h) hS (Or.inl ⟨by kernel_rfl, fun w hS => (by clear hS; go_simp)⟩) ?_
        simp only [Act.put, List.setIfInBounds_toArray, List.set_cons_zero, List.set_cons_succ]
        refine wpAnyZ_take (i := 5) (v := .int .i64 (a : Int)) rfl (by kernel_rfl) (by kernel_rfl) (by kernel_rfl) (by kernel_rfl) (fun _ _ _ h => h) hS (Or.inl ⟨by kernel_rfl, fun w hS => (by clear hS; go_simp; (try (simp [IntKind.wrap, IntKind.bits, IntKind.signed])); (try omega))⟩) ?_
        simp only [Act.put, List.setIfInBounds_toArray, List.set_cons_zero, List.set_cons_succ]
        refine wpAnyZ_take (i := 6) (v := .pointer (some ⟨kb, a * 16, none⟩)) rfl (by kernel_rfl) (by kernel_rfl) (by kernel_rfl) (by kernel_rfl) (fun _ _ _ h => h) hS (Or.inl ⟨by kernel_rfl, fun w hS => (by clear hS; go_simp)⟩) ?_
        simp only [Act.put, List.setIfInBounds_toArray, List.set_cons_zero, List.set_cons_succ]
        refine wpAnyZ_take (i := 7) (v := .int .i64 (n : Int)) rfl (by kernel_rfl) (by kernel_rfl) (by kernel_rfl) (by kernel_rfl) (fun _ _ _ h => h) hS (Or.inl ⟨by kernel_rfl, fun w hS => (by clear hS; go_simp)⟩) ?_
        simp only [Act.put, List.setIfInBounds_toArray, List.set_cons_zero, List.set_cons_succ]
        refine wpAnyZ_take (i := 8) (v := .int .i64 1) rfl (by kernel_rfl) (by kernel_rfl) (by kernel_rfl) (by kernel_rfl) (fun _ _ _ h => h) hS (Or.inl ⟨by kernel_rfl, fun w hS => (by clear hS; go_simp; (try (simp [IntKind.wrap, IntKind.bits, IntKind.signed])); (try omega))⟩) ?_
        simp only [Act.put, List.setIfInBounds_toArray, List.set_cons_zero, List.set_cons_succ]
        refine wpAnyZ_take (i := 9) (v := .int .i64 4) rfl (by kernel_rfl) (by kernel_rfl) (by kernel_rfl) (by kernel_rfl) (fun _ _ _ h => h) hS (Or.inl ⟨by kernel_rfl, fun w hS => (by clear hS; go_simp; (try (simp [IntKind.wrap, IntKind.bits, IntKind.signed])); (try omega))⟩) ?_
        simp only [Act.put, List.setIfInBounds_toArray, List.set_cons_zero, List.set_cons_succ]
        refine wpAnyZ_take (i := 10) (v := .slice (some ⟨kb, a * 16 + 4, none⟩) 12 12) rfl (by kernel_rfl) (by kernel_rfl) (by kernel_rfl) (by kernel_rfl) (fun _ _ _ h => h) hS (Or.inl ⟨by kernel_rfl, fun w hS => (by clear hS; go_simp)⟩) ?_
        simp only [Act.put, List.setIfInBounds_toArray, List.set_cons_zero, List.set_cons_succ]
        refine wpAnyZ_take (i := 11) (v := .slice (some ⟨h, 0, none⟩) 4 4) rfl (by kernel_rfl) (by kernel_rfl) (by kernel_rfl) (by kernel_rfl) (fun _ _ _ h => h) hS (Or.inl ⟨by kernel_rfl, fun w hS => (by clear hS; go_simp)⟩) ?_
        simp only [Act.put, List.setIfInBounds_toArray, List.set_cons_zero, List.set_cons_succ]
        refine wpAnyZ_one (i := 12) (by kernel_rfl) rfl (fun K hK => ?_)
        refine step_copy_cells rfl _ _ _ _ rfl 5 Try.underlying22 Try.sizeByte kb (a * 16 + 4) 12 12 (by kernel_rfl) ⟨h, 0, none⟩ 4 4 (by kernel_rfl) (vals 4 (fun p => F (4 * n + p))) rfl (range_cells hs.out.2.range) (hs.out.1.2.1.thereAt (by rw [vals_length]; omega)) (vals_one _ _) ?_
        refine hK.out _ _ (fun _ => HMK.out.1) ?_
        clear hK K
        try simp only [Act.put, List.setIfInBounds_toArray, List.set_cons_zero, List.set_cons_succ]
        refine wpAnyZ_done (by kernel_rfl) ?_ _
        go_wp2_with fail
        go_roundw
        case rel => exact ⟨n + 1, by omega, by go_num, HMK.out, hWw.out.drew.besidePut (by omega) _ _⟩
        case measure => simp [intOf]; omega
      · obtain ⟨a, ha⟩ : ∃ a, Hid (a = n / 4) := ⟨_, rfl⟩
        have hna : n = 4 * a + 2 := by have := ha.out; omega
        have ha1 : (a : Int) < 11 := by omega
        have ha2 : ¬ (11 ≤ (a : Int)) := by omega
        have d1 : IntKind.i64.wrap ((n : Int) / 4) = (a : Int) := by simp [IntKind.wrap, IntKind.bits, IntKind.signed]; omega
        have d2 : (n : Int) % 4 = 2 := by omega
        have d3 : (n : Int).tmod 4 = 2 := by rw [Int.tmod_eq_emod_of_nonneg (by omega)]; exact d2
        have HNA := hid hna
        clear hna hm
        have hmk := hs.out.1.keys (G' := upto F (4 * (n + 1))) hkb hck (a * 16 + 8) (by have := HNA.out; omega) (fun p => F (4 * n + p)) (fun j _ => (by rw [show a * 16 + 8 = n * 4 from by have := HNA.out; omega]; exact upto_put F n (fun p => F (4 * n + p)) (fun p _ => rfl) j))
        have HMK := hid hmk
        clear hmk
        refine wp_region_z (fun wx => wx.cell? ⟨c, 0, none⟩ = some (.slice (some ⟨kb, 0, none⟩) (10 + 1) (10 + 1))) 13 (by kernel_rfl) hs.out.1.1 (fun hS => ?_)
        refine wpAnyZ_take (i := 0) (v := .pointer (some ⟨c, 0, none⟩)) rfl (by kernel_rfl) (by kernel_rfl) (by kernel_rfl) (by kernel_rfl) (fun _ _ _ h => h) hS (Or.inl ⟨by kernel_rfl, fun w hS => (by clear hS; go_simp)⟩) ?_
        simp only [Act.put, List.setIfInBounds_toArray, List.set_cons_zero, List.set_cons_succ]
        refine wpAnyZ_take (i := 1) (v := .pointer (some ⟨c, 0, none⟩)) rfl (by kernel_rfl) (by kernel_rfl) (by kernel_rfl) (by kernel_rfl) (fun _ _ _ h => h) hS (Or.inl ⟨by kernel_rfl, fun w hS => (by clear hS; go_simp)⟩) ?_
        simp only [Act.put, List.setIfInBounds_toArray, List.set_cons_zero, List.set_cons_succ]
        refine wpAnyZ_take (i := 2) (v := .pointer (some ⟨c, 0, none⟩)) rfl (by kernel_rfl) (by kernel_rfl) (by kernel_rfl) (by kernel_rfl) (fun _ _ _ h => h) hS (Or.inl ⟨by kernel_rfl, fun w hS => (by clear hS; go_simp)⟩) ?_
        simp only [Act.put, List.setIfInBounds_toArray, List.set_cons_zero, List.set_cons_succ]
        refine wpAnyZ_take (i := 3) (v := .slice (some ⟨kb, 0, none⟩) 11 11) rfl (by kernel_rfl) (by kernel_rfl) (by kernel_rfl) (by kernel_rfl) (fun _ _ _ h => h) hS (Or.inl ⟨by kernel_rfl, fun w hS => (by go_simp)⟩) ?_
        simp only [Act.put, List.setIfInBounds_toArray, List.set_cons_zero, List.set_cons_succ]
        refine wpAnyZ_take (i := 4) (v := .int .i64 (n : Int)) rfl (by kernel_rfl) (by kernel_rfl) (by kernel_rfl) (by kernel_rfl) (fun _ _ _ h => h) hS (Or.inl ⟨by kernel_rfl, fun w hS => (by clear hS; go_simp)⟩) ?_
        simp only [Act.put, List.setIfInBounds_toArray, List.set_cons_zero, List.set_cons_succ]
        refine wpAnyZ_take (i := 5) (v := .int .i64 (a : Int)) rfl (by kernel_rfl) (by kernel_rfl) (by kernel_rfl) (by kernel_rfl) (fun _ _ _ h => h) hS (Or.inl ⟨by kernel_rfl, fun w hS => (by clear hS; go_simp; (try (simp [IntKind.wrap, IntKind.bits, IntKind.signed])); (try omega))⟩) ?_
        simp only [Act.put, List.setIfInBounds_toArray, List.set_cons_zero, List.set_cons_succ]
        refine wpAnyZ_take (i := 6) (v := .pointer (some ⟨kb, a * 16, none⟩)) rfl (by kernel_rfl) (by kernel_rfl) (by kernel_rfl) (by kernel_rfl) (fun _ _ _ h => h) hS (Or.inl ⟨by kernel_rfl, fun w hS => (by clear hS; go_simp)⟩) ?_
        simp only [Act.put, List.setIfInBounds_toArray, List.set_cons_zero, List.set_cons_succ]
        refine wpAnyZ_take (i := 7) (v := .int .i64 (n : Int)) rfl (by kernel_rfl) (by kernel_rfl) (by kernel_rfl) (by kernel_rfl) (fun _ _ _ h => h) hS (Or.inl ⟨by kernel_rfl, fun w hS => (by clear hS; go_simp)⟩) ?_
        simp only [Act.put, List.setIfInBounds_toArray, List.set_cons_zero, List.set_cons_succ]
        refine wpAnyZ_take (i := 8) (v := .int .i64 2) rfl (by kernel_rfl) (by kernel_rfl) (by kernel_rfl) (by kernel_rfl) (fun _ _ _ h => h) hS (Or.inl ⟨by kernel_rfl, fun w hS => (by clear hS; go_simp; (try (simp [IntKind.wrap, IntKind.bits, IntKind.signed])); (try omega))⟩) ?_
        simp only [Act.put, List.setIfInBounds_toArray, List.set_cons_zero, List.set_cons_succ]
        refine wpAnyZ_take (i := 9) (v := .int .i64 8) rfl (by kernel_rfl) (by kernel_rfl) (by kernel_rfl) (by kernel_rfl) (fun _ _ _ h => h) hS (Or.inl ⟨by kernel_rfl, fun w hS => (by clear hS; go_simp; (try (simp [IntKind.wrap, IntKind.bits, IntKind.signed])); (try omega))⟩) ?_
        simp only [Act.put, List.setIfInBounds_toArray, List.set_cons_zero, List.set_cons_succ]
        refine wpAnyZ_take (i := 10) (v := .slice (some ⟨kb, a * 16 + 8, none⟩) 8 8) rfl (by kernel_rfl) (by kernel_rfl) (by kernel_rfl) (by kernel_rfl) (fun _ _ _ h => h) hS (Or.inl ⟨by kernel_rfl, fun w hS => (by clear hS; go_simp)⟩) ?_
        simp only [Act.put, List.setIfInBounds_toArray, List.set_cons_zero, List.set_cons_succ]
        refine wpAnyZ_take (i := 11) (v := .slice (some ⟨h, 0, none⟩) 4 4) rfl (by kernel_rfl) (by kernel_rfl) (by kernel_rfl) (by kernel_rfl) (fun _ _ _ h => h) hS (Or.inl ⟨by kernel_rfl, fun w hS => (by clear hS; go_simp)⟩) ?_
        simp only [Act.put, List.setIfInBounds_toArray, List.set_cons_zero, List.set_cons_succ]
        refine wpAnyZ_one (i := 12) (by kernel_rfl) rfl (fun K hK => ?_)
        refine step_copy_cells rfl _ _ _ _ rfl 5 Try.underlying22 Try.sizeByte kb (a * 16 + 8) 8 8 (by kernel_rfl) ⟨h, 0, none⟩ 4 4 (by kernel_rfl) (vals 4 (fun p => F (4 * n + p))) rfl (range_cells hs.out.2.range) (hs.out.1.2.1.thereAt (by rw [vals_length]; omega)) (vals_one _ _) ?_
        refine hK.out _ _ (fun _ => HMK.out.1) ?_
        clear hK K
        try simp only [Act.put, List.setIfInBounds_toArray, List.set_cons_zero, List.set_cons_succ]
        refine wpAnyZ_done (by kernel_rfl) ?_ _
        go_wp2_with fail
        go_roundw
        case rel => exact ⟨n + 1, by omega, by go_num, HMK.out, hWw.out.drew.besidePut (by omega) _ _⟩
        case measure => simp [intOf]; omega
      · obtain ⟨a, ha⟩ : ∃ a, Hid (a = n / 4) := ⟨_, rfl⟩
        have hna : n = 4 * a + 3 := by have := ha.out; omega
        have ha1 : (a : Int) < 11 := by omega
        have ha2 : ¬ (11 ≤ (a : Int)) := by omega
        have d1 : IntKind.i64.wrap ((n : Int) / 4) = (a : Int) := by simp [IntKind.wrap, IntKind.bits, IntKind.signed]; omega
        have d2 : (n : Int) % 4 = 3 := by omega
        have d3 : (n : Int).tmod 4 = 3 := by rw [Int.tmod_eq_emod_of_nonneg (by omega)]; exact d2
        have HNA := hid hna
        clear hna hm
        have hmk := hs.out.1.keys (G' := upto F (4 * (n + 1))) hkb hck (a * 16 + 12) (by have := HNA.out; omega) (fun p => F (4 * n + p)) (fun j _ => (by rw [show a * 16 + 12 = n * 4 from by have := HNA.out; omega]; exact upto_put F n (fun p => F (4 * n + p)) (fun p _ => rfl) j))
        have HMK := hid hmk
        clear hmk
        refine wp_region_z (fun wx => wx.cell? ⟨c, 0, none⟩ = some (.slice (some ⟨kb, 0, none⟩) (10 + 1) (10 + 1))) 13 (by kernel_rfl) hs.out.1.1 (fun hS => ?_)
        refine wpAnyZ_take (i := 0) (v := .pointer (some ⟨c, 0, none⟩)) rfl (by kernel_rfl) (by kernel_rfl) (by kernel_rfl) (by kernel_rfl) (fun _ _ _ h => h) hS (Or.inl ⟨by kernel_rfl, fun w hS => (by clear hS; go_simp)⟩) ?_
        simp only [Act.put, List.setIfInBounds_toArray, List.set_cons_zero, List.set_cons_succ]
        refine wpAnyZ_take (i := 1) (v := .pointer (some ⟨c, 0, none⟩)) rfl (by kernel_rfl) (by kernel_rfl) (by kernel_rfl) (by kernel_rfl) (fun _ _ _ h => h) hS (Or.inl ⟨by kernel_rfl, fun w hS => (by clear hS; go_simp)⟩) ?_
        simp only [Act.put, List.setIfInBounds_toArray, List.set_cons_zero, List.set_cons_succ]
        refine wpAnyZ_take (i := 2) (v := .pointer (some ⟨c, 0, none⟩)) rfl (by kernel_rfl) (by kernel_rfl) (by kernel_rfl) (by kernel_rfl) (fun _ _ _ h => h) hS (Or.inl ⟨by kernel_rfl, fun w hS => (by clear hS; go_simp)⟩) ?_
        simp only [Act.put, List.setIfInBounds_toArray, List.set_cons_zero, List.set_cons_succ]
        refine wpAnyZ_take (i := 3) (v := .slice (some ⟨kb, 0, none⟩) 11 11) rfl (by kernel_rfl) (by kernel_rfl) (by kernel_rfl) (by kernel_rfl) (fun _ _ _ h => h) hS (Or.inl ⟨by kernel_rfl, fun w hS => (by go_simp)⟩) ?_
        simp only [Act.put, List.setIfInBounds_toArray, List.set_cons_zero, List.set_cons_succ]
        refine wpAnyZ_take (i := 4) (v := .int .i64 (n : Int)) rfl (by kernel_rfl) (by kernel_rfl) (by kernel_rfl) (by kernel_rfl) (fun _ _ _ h => h) hS (Or.inl ⟨by kernel_rfl, fun w hS => (by clear hS; go_simp)⟩) ?_
        simp only [Act.put, List.setIfInBounds_toArray, List.set_cons_zero, List.set_cons_succ]
        refine wpAnyZ_take (i := 5) (v := .int .i64 (a : Int)) rfl (by kernel_rfl) (by kernel_rfl) (by kernel_rfl) (by kernel_rfl) (fun _ _ _ h => h) hS (Or.inl ⟨by kernel_rfl, fun w hS => (by clear hS; go_simp; (try (simp [IntKind.wrap, IntKind.bits, IntKind.signed])); (try omega))⟩) ?_
        simp only [Act.put, List.setIfInBounds_toArray, List.set_cons_zero, List.set_cons_succ]
        refine wpAnyZ_take (i := 6) (v := .pointer (some ⟨kb, a * 16, none⟩)) rfl (by kernel_rfl) (by kernel_rfl) (by kernel_rfl) (by kernel_rfl) (fun _ _ _ h => h) hS (Or.inl ⟨by kernel_rfl, fun w hS => (by clear hS; go_simp)⟩) ?_
        simp only [Act.put, List.setIfInBounds_toArray, List.set_cons_zero, List.set_cons_succ]
        refine wpAnyZ_take (i := 7) (v := .int .i64 (n : Int)) rfl (by kernel_rfl) (by kernel_rfl) (by kernel_rfl) (by kernel_rfl) (fun _ _ _ h => h) hS (Or.inl ⟨by kernel_rfl, fun w hS => (by clear hS; go_simp)⟩) ?_
        simp only [Act.put, List.setIfInBounds_toArray, List.set_cons_zero, List.set_cons_succ]
        refine wpAnyZ_take (i := 8) (v := .int .i64 3) rfl (by kernel_rfl) (by kernel_rfl) (by kernel_rfl) (by kernel_rfl) (fun _ _ _ h => h) hS (Or.inl ⟨by kernel_rfl, fun w hS => (by clear hS; go_simp; (try (simp [IntKind.wrap, IntKind.bits, IntKind.signed])); (try omega))⟩) ?_
        simp only [Act.put, List.setIfInBounds_toArray, List.set_cons_zero, List.set_cons_succ]
        refine wpAnyZ_take (i := 9) (v := .int .i64 12) rfl (by kernel_rfl) (by kernel_rfl) (by kernel_rfl) (by kernel_rfl) (fun _ _ _ h => h) hS (Or.inl ⟨by kernel_rfl, fun w hS => (by clear hS; go_simp; (try (simp [IntKind.wrap, IntKind.bits, IntKind.signed])); (try omega))⟩) ?_
        simp only [Act.put, List.setIfInBounds_toArray, List.set_cons_zero, List.set_cons_succ]
        refine wpAnyZ_take (i := 10) (v := .slice (some ⟨kb, a * 16 + 12, none⟩) 4 4) rfl (by kernel_rfl) (by kernel_rfl) (by kernel_rfl) (by kernel_rfl) (fun _ _ _ h => h) hS (Or.inl ⟨by kernel_rfl, fun w hS => (by clear hS; go_simp)⟩) ?_
        simp only [Act.put, List.setIfInBounds_toArray, List.set_cons_zero, List.set_cons_succ]
        refine wpAnyZ_take (i := 11) (v := .slice (some ⟨h, 0, none⟩) 4 4) rfl (by kernel_rfl) (by kernel_rfl) (by kernel_rfl) (by kernel_rfl) (fun _ _ _ h => h) hS (Or.inl ⟨by kernel_rfl, fun w hS => (by clear hS; go_simp)⟩) ?_
        simp only [Act.put, List.setIfInBounds_toArray, List.set_cons_zero, List.set_cons_succ]
        refine wpAnyZ_one (i := 12) (by kernel_rfl) rfl (fun K hK => ?_)
        refine step_copy_cells rfl _ _ _ _ rfl 5 Try.underlying22 Try.sizeByte kb (a * 16 + 12) 4 4 (by kernel_rfl) ⟨h, 0, none⟩ 4 4 (by kernel_rfl) (vals 4 (fun p => F (4 * n + p))) rfl (range_cells hs.out.2.range) (hs.out.1.2.1.thereAt (by rw [vals_length]; omega)) (vals_one _ _) ?_
        refine hK.out _ _ (fun _ => HMK.out.1) ?_
        clear hK K
        try simp only [Act.put, List.setIfInBounds_toArray, List.set_cons_zero, List.set_cons_succ]
        refine wpAnyZ_done (by kernel_rfl) ?_ _
        go_wp2_with fail
        go_roundw
        case rel => exact ⟨n + 1, by omega, by go_num, HMK.out, hWw.out.drew.besidePut (by omega) _ _⟩
        case measure => simp [intOf]; omega
    · obtain rfl : n = 44 := by omega
      have HM := hid (show Mk w c kb 10 F (tabs 0) wr from ⟨hM.1, hM.2.1.same fun j hj => upto_lt F _ j (by omega), hM.2.2.1.same fun j _ => (tabs_zero j).symm, hM.2.2.2⟩)
      clear hM hW
      rw [show ((44 : Nat) : Int) = (44 : Int) from rfl]
      go_wp2_with fail
      go_loopw [46] (fun i wr => ∃ n : Nat, n ≤ 256 ∧ i = .int .i64 (n : Int) ∧ Mk w c kb 10 F (tabs n) wr) (fun i _ => 256 - (intOf i).toNat)
      case atStart => exact ⟨0, by decide, rfl, HM.out⟩
      case round =>
        clear HM
        obtain ⟨n, hn, rfl, hM⟩ := hrel
        by_cases hlt : n < 256
        · have hsl := sub_lt hlt
          obtain ⟨c1, f1⟩ := hM.2.2.1 n (by omega)
          have hM1 := hM.tab hcw hck n (sub n) (by omega)
          obtain ⟨c2, f2⟩ := hM1.2.2.1 (256 + sub n) (by omega)
          have hM2 := hM1.tab hcw hck (256 + sub n) n (by omega)
          rw [show 1 + (256 + sub n) = 257 + sub n from by omega] at c2 f2 hM2
          have HM2 := hid hM2
          clear hM hM1 hM2
          go_wp2_with fail
          refine (sub_any n _ hlt).mono ?_
          rintro e w9 ⟨rfl, rfl⟩
          go_wp2_with fail
          go_roundw
          case rel => exact ⟨n + 1, by omega, by go_num, HM2.out.1, HM2.out.2.1, HM2.out.2.2.1.same fun j hj => tabs_step hlt hj, HM2.out.2.2.2⟩
          case measure => simp [intOf]; omega
        · obtain rfl : n = 256 := by omega
          have HM := hid hM
          clear hM
          go_wp2_with fail
          go_ret2
          exact ⟨c, kb, rfl, HM.out.cip, HM.out.2.2.2, hcw, hkb⟩

set_option maxHeartbeats 8000000 in
set_option maxRecDepth 100000 in
theorem new8_new (p : Option Addr) (cap : Nat) (xs : List Int) (w : World) (hp : Bin w p xs) (hx : Oct xs) (hl : xs.length = 32) (hcap : 32 ≤ cap) :
    Calls Try.prog 35 #[.slice p 32 cap] w fun e w' => ∃ c kb, e = .returned (.tuple #[.pointer (some ⟨c, 0, none⟩), .int .i64 0]) ∧
      Cip w' c kb 14 (wordB 8 (nats xs)) ∧ Below w.heap.size w w' ∧ w.heap.size ≤ c ∧ w.heap.size ≤ kb := by
  obtain ⟨i0, hi0, hz0, hz1, hz2⟩ := info_parts Try.infoState
  obtain ⟨F, hF⟩ : ∃ F, Hid (F = wordB 8 (nats xs)) := ⟨_, rfl⟩
  have huw := Try.underlying76
  have hiw := Try.sizeWord
  have hz4 := Try.zeroWord
  have hzc := Try.zeroCipher
  rw [← hF.out]
  go_enter Try.func35, Try.ntmps35
  go_wp2_with fail
  refine (words8_any p cap xs _ hp hx hl hcap).mono ?_
  rintro e w1 ⟨g, rfl, hA, hb, hg⟩
  rw [← hF.out] at hA
  clear hp
  have hgl := hA.lt (by decide)
  have hsz := hb.size
  go_wp2_with (first | (at_make; refine wpList_make_arr _ rfl _ _ 72 rfl 77 i0 16 (by decide) (by decide) Try.underlying72 hi0 hz0 hz1 hz2 .i64 .i64 _ _ 15 rfl rfl rfl rfl (by decide) ?_))
  obtain ⟨kb, hkb⟩ : ∃ kb, kb = w1.heap.size := ⟨_, rfl⟩
  obtain ⟨c, hc⟩ : ∃ c, c = w1.heap.size + 1 := ⟨_, rfl⟩
  have hM : Mk w c kb 14 (fun _ => 0) (fun _ => 0) ((w1.alloc (.cells (vals 240 fun _ => 0).toArray 77)).alloc (.cells (fresh w1.heap.size 15).toArray 75)) := by
    have t := tab_new (w1.alloc (.cells (vals 240 fun _ => 0).toArray 77)) w1.heap.size 15 75
    have e : (w1.alloc (.cells (vals 240 fun _ => 0).toArray 77)).heap.size = c := by rw [hc]; simp
    rw [e, ← hkb] at t
    rw [← hkb]
    exact ⟨t.2, by rw [hkb]; exact (arr_new w1 240 (fun _ => 0) 77).alloc _, t.1, (hb.alloc (by omega) _).alloc (by rw [e]; omega) _⟩
  have hW : Arr ((w1.alloc (.cells (vals 240 fun _ => 0).toArray 77)).alloc (.cells (fresh w1.heap.size 15).toArray 75)) g 240 F := (hA.alloc _).alloc _
  have hgk : g < kb := by omega
  have hck : kb ≠ c := by omega
  have hkw : w.heap.size ≤ kb := by omega
  have hcw : w.heap.size ≤ c := by omega
  change Code.wp _ _ _ _ ((w1.alloc (.cells (vals 240 fun _ => 0).toArray 77)).alloc (.cells (fresh w1.heap.size 15).toArray 75))
  rw [← hc]
  generalize (w1.alloc (.cells (vals 240 fun _ => 0).toArray 77)).alloc (.cells (fresh w1.heap.size 15).toArray 75) = w2 at hM hW ⊢
  rw [← hkb]
  have HM := hid hM
  have HW := hid hW
  clear hA hM hW hb hsz hgl hkb hc
  have hkb := hkw
  go_loopw [27] (fun i wr => ∃ n : Nat, n ≤ 60 ∧ i = .int .i64 (n : Int) ∧ Mk w c kb 14 (upto F (4 * n)) (fun _ => 0) wr ∧ Arr wr g 240 F) (fun i _ => 60 - (intOf i).toNat)
  case atStart => exact ⟨0, by decide, rfl, ⟨HM.out.1, HM.out.2.1.same fun j _ => (by unfold upto; simp), HM.out.2.2⟩, HW.out⟩
  case round =>
    clear HM HW
    obtain ⟨n, hn, rfl, hM, hW⟩ := hrel
    by_cases hlt : n < 60
    · have hlm := hM.lt
      have hs4 : n * 4 = 4 * n := by omega
      have hR : wr.rangeAt g (n * 4) (vals 4 (fun p => F (4 * n + p))) := by rw [hs4]; exact hW.part (by omega)
      have HR := hid hR
      obtain ⟨h, hh⟩ : ∃ h, Hid (h = wr.heap.size) := ⟨_, rfl⟩
      have hhc : c < h ∧ kb < h := by rw [hh.out]; exact hlm
      obtain ⟨w3, hw3, hS3, hWw⟩ : ∃ w3, Hid (w3 = (wr.alloc (.cells (vals 4 fun _ => 0).toArray 76)).setCells h 0 (vals 4 (fun p => F (4 * n + p)))) ∧ (Mk w c kb 14 (upto F (4 * n)) (fun _ => 0) w3.drew ∧ Arr w3.drew h 4 (fun p => F (4 * n + p))) ∧ Hid (Arr w3 g 240 F) := by
        rw [hh.out]
        exact ⟨_, rfl, ⟨((hM.grow ((Below.refl _ _).alloc (Nat.le_refl _) _)).other (by omega) (by omega) (by omega) 0 _).grow (Below.refl _ _).drew, ((arr_new wr 4 (fun _ => 0) 76).put _).drew⟩, ((hW.alloc _).besidePut (by omega) 0 _)⟩
      have hs := hid hS3
      have e1 : (n : Int) < 60 := by omega
      have e2 : ¬ (60 ≤ (n : Int)) := by omega
      have hT := hid (arr_new wr 4 (fun _ => 0) 76)
      clear hM hW hR hlm hS3 hs4
      go_wp2_with (first | (refine wpList_load_mid rfl 76 _ rfl g (n * 4) rfl (vals 4 (fun p => F (4 * n + p))) _ ?_ huw rfl hiw ?_; exact HR.out) | (refine wpList_store_arr rfl 76 _ _ rfl wr.heap.size 4 (fun p => F (4 * n + p)) rfl rfl (fun _ => 0) ?_ hiw ?_; exact hT.out))
      rw [← hh.out, ← hw3.out]
      clear hT HR hw3
      have e3 : (0 : Int) ≤ (n : Int) := by omega
      rcases (show n % 4 = 0 ∨ n % 4 = 1 ∨ n % 4 = 2 ∨ n % 4 = 3 from by omega) with hm | hm | hm | hm
      · obtain ⟨a, ha⟩ : ∃ a, Hid (a = n / 4) := ⟨_, rfl⟩
        have hna : n = 4 * a + 0 := by have := ha.out; omega
        have ha1 : (a : Int) < 15 := by omega
        have ha2 : ¬ (15 ≤ (a : Int)) := by omega
        have d1 : IntKind.i64.wrap ((n : Int) / 4) = (a : Int) := by simp [IntKind.wrap, IntKind.bits, IntKind.signed]; omega
        have d2 : (n : Int) % 4 = 0 := by omega
        have d3 : (n : Int).tmod 4 = 0 := by rw [Int.tmod_eq_emod_of_nonneg (by omega)]; exact d2
        have HNA := hid hna
        clear hna hm
        have hmk := hs.out.1.keys (G' := upto F (4 * (n + 1))) hkb hck (a * 16) (by have := HNA.out; omega) (fun p => F (4 * n + p)) (fun j _ => (by rw [show a * 16 = n * 4 from by have := HNA.out; omega]; exact upto_put F n (fun p => F (4 * n + p)) (fun p _ => rfl) j))
        have HMK := hid hmk
        clear hmk
        refine wp_region_z (fun wx => wx.cell? ⟨c, 0, none⟩ = some (.slice (some ⟨kb, 0, none⟩) (14 + 1) (14 + 1))) 13 (by kernel_rfl) hs.out.1.1 (fun hS => ?_)
        refine wpAnyZ_take (i := 0) (v := .pointer (some ⟨c, 0, none⟩)) rfl (by kernel_rfl) (by kernel_rfl) (by kernel_rfl) (by kernel_rfl) (fun _ _ _ h => h) hS (Or.inl ⟨by kernel_rfl, fun w hS => (by clear hS; go_simp)⟩) ?_
        simp only [Act.put, List.setIfInBounds_toArray, List.set_cons_zero, List.set_cons_succ]
        refine wpAnyZ_take (i := 1) (v := .pointer (some ⟨c, 0, none⟩)) rfl (by kernel_rfl) (by kernel_rfl) (by kernel_rfl) (by kernel_rfl) (fun _ _ _ h => h) hS (Or.inl ⟨by kernel_rfl, fun w hS => (by clear hS; go_simp)⟩) ?_
        simp only [Act.put, List.setIfInBounds_toArray, List.set_cons_zero, List.set_cons_succ]
        refine wpAnyZ_take (i := 2) (v := .pointer (some ⟨c, 0, none⟩)) rfl (by kernel_rfl) (by kernel_rfl) (by kernel_rfl) (by kernel_rfl) (fun _ _ _ h => h) hS (Or.inl ⟨by kernel_rfl, fun w hS => (by clear hS; go_simp)⟩) ?_
        simp only [Act.put, List.setIfInBounds_toArray, List.set_cons_zero, List.set_cons_succ]
        refine wpAnyZ_take (i := 3) (v := .slice (some ⟨kb, 0, none⟩) 15 15) rfl (by kernel_rfl) (by kernel_rfl) (by kernel_rfl) (by kernel_rfl) (fun _ _ _ h => h) hS (Or.inl ⟨by kernel_rfl, fun w hS => (by go_simp)⟩) ?_
        simp only [Act.put, List.setIfInBounds_toArray, List.set_cons_zero, List.set_cons_succ]
        refine wpAnyZ_take (i := 4) (v := .int .i64 (n : Int)) rfl (by kernel_rfl) (by kernel_rfl) (by kernel_rfl) (by kernel_rfl) (fun _ _ _ h => h) hS (Or.inl ⟨by kernel_rfl, fun w hS => (by clear hS; go_simp)⟩) ?_
        simp only [Act.put, List.setIfInBounds_toArray, List.set_cons_zero, List.set_cons_succ]
        refine wpAnyZ_take (i := 5) (v := .int .i64 (a : Int)) rfl (by kernel_rfl) (by kernel_rfl) (by kernel_rfl) (by kernel_rfl) (fun _ _ _ h => h) hS (Or.inl ⟨by kernel_rfl, fun w hS => (by clear hS; go_simp; (try (simp [IntKind.wrap, IntKind.bits, IntKind.signed])); (try omega))⟩) ?_
        simp only [Act.put, List.setIfInBounds_toArray, List.set_cons_zero, List.set_cons_succ]
        refine wpAnyZ_take (i := 6) (v := .pointer (some ⟨kb, a * 16, none⟩)) rfl (by kernel_rfl) (by kernel_rfl) (by kernel_rfl) (by kernel_rfl) (fun _ _ _ h => h) hS (Or.inl ⟨by kernel_rfl, fun w hS => (by clear hS; go_simp)⟩) ?_
        simp only [Act.put, List.setIfInBounds_toArray, List.set_cons_zero, List.set_cons_succ]
        refine wpAnyZ_take (i := 7) (v := .int .i64 (n : Int)) rfl (by kernel_rfl) (by kernel_rfl) (by kernel_rfl) (by kernel_rfl) (fun _ _ _ h => h) hS (Or.inl ⟨by kernel_rfl, fun w hS => (by clear hS; go_simp)⟩) ?_
        simp only [Act.put, List.setIfInBounds_toArray, List.set_cons_zero, List.set_cons_succ]
        refine wpAnyZ_take (i := 8) (v := .int .i64 0) rfl (by kernel_rfl) (by kernel_rfl) (by kernel_rfl) (by kernel_rfl) (fun _ _ _ h => h) hS (Or.inl ⟨by kernel_rfl, fun w hS => (by clear hS; go_simp; (try (simp [IntKind.wrap, IntKind.bits, IntKind.signed])); (try omega))⟩) ?_
        simp only [Act.put, List.setIfInBounds_toArray, List.set_cons_zero, List.set_cons_succ]
        refine wpAnyZ_take (i := 9) (v := .int .i64 0) rfl (by kernel_rfl) (by kernel_rfl) (by kernel_rfl) (by kernel_rfl) (fun _ _ _ h => h) hS (Or.inl ⟨by kernel_rfl, fun w hS => (by clear hS; go_simp; (try (simp [IntKind.wrap, IntKind.bits, IntKind.signed])); (try omega))⟩) ?_
        simp only [Act.put, List.setIfInBounds_toArray, List.set_cons_zero, List.set_cons_succ]
        refine wpAnyZ_take (i := 10) (v := .slice (some ⟨kb, a * 16, none⟩) 16 16) rfl (by kernel_rfl) (by kernel_rfl) (by kernel_rfl) (by kernel_rfl) (fun _ _ _ h => h) hS (Or.inl ⟨by kernel_rfl, fun w hS => (by clear hS; go_simp)⟩) ?_
        simp only [Act.put, List.setIfInBounds_toArray, List.set_cons_zero, List.set_cons_succ]
        refine wpAnyZ_take (i := 11) (v := .slice (some ⟨h, 0, none⟩) 4 4) rfl (by kernel_rfl) (by kernel_rfl) (by kernel_rfl) (by kernel_rfl) (fun _ _ _ h => h) hS (Or.inl ⟨by kernel_rfl, fun w hS => (by clear hS; go_simp)⟩) ?_
        simp only [Act.put, List.setIfInBounds_toArray, List.set_cons_zero, List.set_cons_succ]
        refine wpAnyZ_one (i := 12) (by kernel_rfl) rfl (fun K hK => ?_)
        refine step_copy_cells rfl _ _ _ _ rfl 5 Try.underlying22 Try.sizeByte kb (a * 16) 16 16 (by kernel_rfl) ⟨h, 0, none⟩ 4 4 (by kernel_rfl) (vals 4 (fun p => F (4 * n + p))) rfl (range_cells hs.out.2.range) (hs.out.1.2.1.thereAt (by rw [vals_length]; omega)) (vals_one _ _) ?_
        refine hK.out _ _ (fun _ => HMK.out.1) ?_
        clear hK K
        try simp only [Act.put, List.setIfInBounds_toArray, List.set_cons_zero, List.set_cons_succ]
        refine wpAnyZ_done (by kernel_rfl) ?_ _
        go_wp2_with fail
        go_roundw
        case rel => exact ⟨n + 1, by omega, by go_num, HMK.out, hWw.out.drew.besidePut (by omega) _ _⟩
        case measure => simp [intOf]; omega
      · obtain ⟨a, ha⟩ : ∃ a, Hid (a = n / 4) := ⟨_, rfl⟩
        have hna : n = 4 * a + 1 := by have := ha.out; omega
        have ha1 : (a : Int) < 15 := by omega
        have ha2 : ¬ (15 ≤ (a : Int)) := by omega
        have d1 : IntKind.i64.wrap ((n : Int) / 4) = (a : Int) := by simp [IntKind.wrap, IntKind.bits, IntKind.signed]; omega
        have d2 : (n : Int) % 4 = 1 := by omega
        have d3 : (n : Int).tmod 4 = 1 := by rw [Int.tmod_eq_emod_of_nonneg (by omega)]; exact d2
        have HNA := hid hna
        clear hna hm
        have hmk := hs.out.1.keys (G' := upto F (4 * (n + 1))) hkb hck (a * 16 + 4) (by have := HNA.out; omega) (fun p => F (4 * n + p)) (fun j _ => (by rw [show a * 16 + 4 = n * 4 from by have := HNA.out; omega]; exact upto_put F n (fun p => F (4 * n + p)) (fun p _ => rfl) j))
        have HMK := hid hmk
        clear hmk
        refine wp_region_z (fun wx => wx.cell? ⟨c, 0, none⟩ = some (.slice (some ⟨kb, 0, none⟩) (14 + 1) (14 + 1))) 13 (by kernel_rfl) hs.out.1.1 (fun hS => ?_)
        refine wpAnyZ_take (i := 0) (v := .pointer (some ⟨c, 0, none⟩)) rfl (by kernel_rfl) (by kernel_rfl) (by kernel_rfl) (by kernel_rfl) (fun _ _ _ h => h) hS (Or.inl ⟨by kernel_rfl, fun w hS => (by clear hS; go_simp)⟩) ?_
        simp only [Act.put, List.setIfInBounds_toArray, List.set_cons_zero, List.set_cons_succ]
        refine wpAnyZ_take (i := 1) (v := .pointer (some ⟨c, 0, none⟩)) rfl (by kernel_rfl) (by kernel_rfl) (by kernel_rfl) (by kernel_rfl) (fun _ _ _ h => h) hS (Or.inl ⟨by kernel_rfl, fun w hS => (by clear hS; go_simp)⟩) ?_
        simp only [Act.put, List.setIfInBounds_toArray, List.set_cons_zero, List.set_cons_succ]
        refine wpAnyZ_take (i := 2) (v := .pointer (some ⟨c, 0, none⟩)) rfl (by kernel_rfl) (by kernel_rfl) (by kernel_rfl) (by kernel_rfl) (fun _ _ _ h => h) hS (Or.inl ⟨by kernel_rfl, fun w hS => (by clear hS; go_simp)⟩) ?_
        simp only [Act.put, List.setIfInBounds_toArray, List.set_cons_zero, List.set_cons_succ]
        refine wpAnyZ_take (i := 3) (v := .slice (some ⟨kb, 0, none⟩) 15 15) rfl (by kernel_rfl) (by kernel_rfl) (by kernel_rfl) (by kernel_rfl) (fun _ _ _ h => h) hS (Or.inl ⟨by kernel_rfl, fun w hS => (by go_simp)⟩) ?_
        simp only [Act.put, List.setIfInBounds_toArray, List.set_cons_zero, List.set_cons_succ]
        refine wpAnyZ_take (i := 4) (v := .int .i64 (n : Int)) rfl (by kernel_rfl) (by kernel_rfl) (by kernel_rfl) (by kernel_rfl) (fun _ _ _ h => h) hS (Or.inl ⟨by kernel_rfl, fun w hS => (by clear hS; go_simp)⟩) ?_
        simp only [Act.put, List.setIfInBounds_toArray, List.set_cons_zero, List.set_cons_succ]
        refine wpAnyZ_take (i := 5) (v := .int .i64 (a : Int)) rfl (by kernel_rfl) (by kernel_rfl) (by kernel_rfl) (by kernel_rfl) (fun _ _ _ h => h) hS (Or.inl ⟨by kernel_rfl, fun w hS => (by clear hS; go_simp; (try (simp [IntKind.wrap, IntKind.bits, IntKind.signed])); (try omega))⟩) ?_
        simp only [Act.put, List.setIfInBounds_toArray, List.set_cons_zero, List.set_cons_succ]
        refine wpAnyZ_take (i := 6) (v := .pointer (some ⟨kb, a * 16, none⟩)) rfl (by kernel_rfl) (by kernel_rfl) (by kernel_rfl) (by kernel_rfl) (fun _ _ _ h => h) hS (Or.inl ⟨by kernel_rfl, fun w hS => (by clear hS; go_simp)⟩) ?_
        simp only [Act.put, List.setIfInBounds_toArray, List.set_cons_zero, List.set_cons_succ]
        refine wpAnyZ_take (i := 7) (v := .int .i64 (n : Int)) rfl (by kernel_rfl) (by kernel_rfl) (by kernel_rfl) (by kernel_rfl) (fun _ _ _ h => h) hS (Or.inl ⟨by kernel_rfl, fun w hS => (by clear hS; go_simp)⟩) ?_
        simp only [Act.put, List.setIfInBounds_toArray, List.set_cons_zero, List.set_cons_succ]
        refine wpAnyZ_take (i := 8) (v := .int .i64 1) rfl (by kernel_rfl) (by kernel_rfl) (by kernel_rfl) (by kernel_rfl) (fun _ _ _ h => h) hS (Or.inl ⟨by kernel_rfl, fun w hS => (by clear hS; go_simp; (try (simp [IntKind.wrap, IntKind.bits, IntKind.signed])); (try omega))⟩) ?_
        simp only [Act.put, List.setIfInBounds_toArray, List.set_cons_zero, List.set_cons_succ]
        refine wpAnyZ_take (i := 9) (v := .int .i64 4) rfl (by kernel_rfl) (by kernel_rfl) (by kernel_rfl) (by kernel_rfl) (fun _ _ _ h => h) hS (Or.inl ⟨by kernel_rfl, fun w hS => (by clear hS; go_simp; (try (simp [IntKind.wrap, IntKind.bits, IntKind.signed])); (try omega))⟩) ?_
        simp only [Act.put, List.setIfInBounds_toArray, List.set_cons_zero, List.set_cons_succ]
        refine wpAnyZ_take (i := 10) (v := .slice (some ⟨kb, a * 16 + 4, none⟩) 12 12) rfl (by kernel_rfl) (by kernel_rfl) (by kernel_rfl) (by kernel_rfl) (fun _ _ _ h => h) hS (Or.inl ⟨by kernel_rfl, fun w hS => (by clear hS; go_simp)⟩) ?_
        simp only [Act.put, List.setIfInBounds_toArray, List.set_cons_zero, List.set_cons_succ]
        refine wpAnyZ_take (i := 11) (v := .slice (some ⟨h, 0, none⟩) 4 4) rfl (by kernel_rfl) (by kernel_rfl) (by kernel_rfl) (by kernel_rfl) (fun _ _ _ h => h) hS (Or.inl ⟨by kernel_rfl, fun w hS => (by clear hS; go_simp)⟩) ?_
        simp only [Act.put, List.setIfInBounds_toArray, List.set_cons_zero, List.set_cons_succ]
        refine wpAnyZ_one (i := 12) (by kernel_rfl) rfl (fun K hK => ?_)
        refine step_copy_cells rfl _ _ _ _ rfl 5 Try.underlying22 Try.sizeByte kb (a * 16 + 4) 12 12 (by kernel_rfl) ⟨h, 0, none⟩ 4 4 (by kernel_rfl) (vals 4 (fun p => F (4 * n + p))) rfl (range_cells hs.out.2.range) (hs.out.1.2.1.thereAt (by rw [vals_length]; omega)) (vals_one _ _) ?_
        refine hK.out _ _ (fun _ => HMK.out.1) ?_
        clear hK K
        try simp only [Act.put, List.setIfInBounds_toArray, List.set_cons_zero, List.set_cons_succ]
        refine wpAnyZ_done (by kernel_rfl) ?_ _
        go_wp2_with fail
        go_roundw
        case rel => exact ⟨n + 1, by omega, by go_num, HMK.out, hWw.out.drew.besidePut (by omega) _ _⟩
        case measure => simp [intOf]; omega
      · obtain ⟨a, ha⟩ : ∃ a, Hid (a = n / 4) := ⟨_, rfl⟩
        have hna : n = 4 * a + 2 := by have := ha.out; omega
        have ha1 : (a : Int) < 15 := by omega
        have ha2 : ¬ (15 ≤ (a : Int)) := by omega
        have d1 : IntKind.i64.wrap ((n : Int) / 4) = (a : Int) := by simp [IntKind.wrap, IntKind.bits, IntKind.signed]; omega
        have d2 : (n : Int) % 4 = 2 := by omega
        have d3 : (n : Int).tmod 4 = 2 := by rw [Int.tmod_eq_emod_of_nonneg (by omega)]; exact d2
        have HNA := hid hna
        clear hna hm
        have hmk := hs.out.1.keys (G' := upto F (4 * (n + 1))) hkb hck (a * 16 + 8) (by have := HNA.out; omega) (fun p => F (4 * n + p)) (fun j _ => (by rw [show a * 16 + 8 = n * 4 from by have := HNA.out; omega]; exact upto_put F n (fun p => F (4 * n + p)) (fun p _ => rfl) j))
        have HMK := hid hmk
        clear hmk
        refine wp_region_z (fun wx => wx.cell? ⟨c, 0, none⟩ = some (.slice (some ⟨kb, 0, none⟩) (14 + 1) (14 + 1))) 13 (by kernel_rfl) hs.out.1.1 (fun hS => ?_)
        refine wpAnyZ_take (i := 0) (v := .pointer (some ⟨c, 0, none⟩)) rfl (by kernel_rfl) (by kernel_rfl) (by kernel_rfl) (by kernel_rfl) (fun _ _ _ h => h) hS (Or.inl ⟨by kernel_rfl, fun w hS => (by clear hS; go_simp)⟩) ?_
        simp only [Act.put, List.setIfInBounds_toArray, List.set_cons_zero, List.set_cons_succ]
        refine wpAnyZ_take (i := 1) (v := .pointer (some ⟨c, 0, none⟩)) rfl (by kernel_rfl) (by kernel_rfl) (by kernel_rfl) (by kernel_rfl) (fun _ _ _ h => h) hS (Or.inl ⟨by kernel_rfl, fun w hS => (by clear hS; go_simp)⟩) ?_
        simp only [Act.put, List.setIfInBounds_toArray, List.set_cons_zero, List.set_cons_succ]
        refine wpAnyZ_take (i := 2) (v := .pointer (some ⟨c, 0, none⟩)) rfl (by kernel_rfl) (by kernel_rfl) (by kernel_rfl) (by kernel_rfl) (fun _ _ _ h => h) hS (Or.inl ⟨by kernel_rfl, fun w hS => (by clear hS; go_simp)⟩) ?_
        simp only [Act.put, List.setIfInBounds_toArray, List.set_cons_zero, List.set_cons_succ]
        refine wpAnyZ_take (i := 3) (v := .slice (some ⟨kb, 0, none⟩) 15 15) rfl (by kernel_rfl) (by kernel_rfl) (by kernel_rfl) (by kernel_rfl) (fun _ _ _ h => h) hS (Or.inl ⟨by kernel_rfl, fun w hS => (by go_simp)⟩) ?_
        simp only [Act.put, List.setIfInBounds_toArray, List.set_cons_zero, List.set_cons_succ]
        refine wpAnyZ_take (i := 4) (v := .int .i64 (n : Int)) rfl (by kernel_rfl) (by kernel_rfl) (by kernel_rfl) (by kernel_rfl) (fun _ _ _ h => h) hS (Or.inl ⟨by kernel_rfl, fun w hS => (by clear hS; go_simp)⟩) ?_
        simp only [Act.put, List.setIfInBounds_toArray, List.set_cons_zero, List.set_cons_succ]
        refine wpAnyZ_take (i := 5) (v := .int .i64 (a : Int)) rfl (by kernel_rfl) (by kernel_rfl) (by kernel_rfl) (by kernel_rfl) (fun _ _ _ h => h) hS (Or.inl ⟨by kernel_rfl, fun w hS => (by clear hS; go_simp; (try (simp [IntKind.wrap, IntKind.bits, IntKind.signed])); (try omega))⟩) ?_
        simp only [Act.put, List.setIfInBounds_toArray, List.set_cons_zero, List.set_cons_succ]
        refine wpAnyZ_take (i := 6) (v := .pointer (some ⟨kb, a * 16, none⟩)) rfl (by kernel_rfl) (by kernel_rfl) (by kernel_rfl) (by kernel_rfl) (fun _ _ _ h => h) hS (Or.inl ⟨by kernel_rfl, fun w hS => (by clear hS; go_simp)⟩) ?_
        simp only [Act.put, List.setIfInBounds_toArray, List.set_cons_zero, List.set_cons_succ]
        refine wpAnyZ_take (i := 7) (v := .int .i64 (n : Int)) rfl (by kernel_rfl) (by kernel_rfl) (by kernel_rfl) (by kernel_rfl) (fun _ _ _ h => h) hS (Or.inl ⟨by kernel_rfl, fun w hS => (by clear hS; go_simp)⟩) ?_
        simp only [Act.put, List.setIfInBounds_toArray, List.set_cons_zero, List.set_cons_succ]
        refine wpAnyZ_take (i := 8) (v := .int .i64 2) rfl (by kernel_rfl) (by kernel_rfl) (by kernel_rfl) (by kernel_rfl) (fun _ _ _ h => h) hS (Or.inl ⟨by kernel_rfl, fun w hS => (by clear hS; go_simp; (try (simp [IntKind.wrap, IntKind.bits, IntKind.signed])); (try omega))⟩) ?_
        simp only [Act.put, List.setIfInBounds_toArray, List.set_cons_zero, List.set_cons_succ]
        refine wpAnyZ_take (i := 9) (v := .int .i64 8) rfl (by kernel_rfl) (by kernel_rfl) (by kernel_rfl) (by kernel_rfl) (fun _ _ _ h => h) hS (Or.inl ⟨by kernel_rfl, fun w hS => (by clear hS; go_simp; (try (simp [IntKind.wrap, IntKind.bits, IntKind.signed])); (try omega))⟩) ?_
        simp only [Act.put, List.setIfInBounds_toArray, List.set_cons_zero, List.set_cons_succ]
        refine wpAnyZ_take (i := 10) (v := .slice (some ⟨kb, a * 16 + 8, none⟩) 8 8) rfl (by kernel_rfl) (by kernel_rfl) (by kernel_rfl) (by kernel_rfl) (fun _ _ _ h => h) hS (Or.inl ⟨by kernel_rfl, fun w hS => (by clear hS; go_simp)⟩) ?_
        simp only [Act.put, List.setIfInBounds_toArray, List.set_cons_zero, List.set_cons_succ]
        refine wpAnyZ_take (i := 11) (v := .slice (some ⟨h, 0, none⟩) 4 4) rfl (by kernel_rfl) (by kernel_rfl) (by kernel_rfl) (by kernel_rfl) (fun _ _ _ h => h) hS (Or.inl ⟨by kernel_rfl, fun w hS => (by clear hS; go_simp)⟩) ?_
        simp only [Act.put, List.setIfInBounds_toArray, List.set_cons_zero, List.set_cons_succ]
        refine wpAnyZ_one (i := 12) (by kernel_rfl) rfl (fun K hK => ?_)
        refine step_copy_cells rfl _ _ _ _ rfl 5 Try.underlying22 Try.sizeByte kb (a * 16 + 8) 8 8 (by kernel_rfl) ⟨h, 0, none⟩ 4 4 (by kernel_rfl) (vals 4 (fun p => F (4 * n + p))) rfl (range_cells hs.out.2.range) (hs.out.1.2.1.thereAt (by rw [vals_length]; omega)) (vals_one _ _) ?_
        refine hK.out _ _ (fun _ => HMK.out.1) ?_
        clear hK K
        try simp only [Act.put, List.setIfInBounds_toArray, List.set_cons_zero, List.set_cons_succ]
        refine wpAnyZ_done (by kernel_rfl) ?_ _
        go_wp2_with fail
        go_roundw
        case rel => exact ⟨n + 1, by omega, by go_num, HMK.out, hWw.out.drew.besidePut (by omega) _ _⟩
        case measure => simp [intOf]; omega
      · obtain ⟨a, ha⟩ : ∃ a, Hid (a = n / 4) := ⟨_, rfl⟩
        have hna : n = 4 * a + 3 := by have := ha.out; omega
        have ha1 : (a : Int) < 15 := by omega
        have ha2 : ¬ (15 ≤ (a : Int)) := by omega
        have d1 : IntKind.i64.wrap ((n : Int) / 4) = (a : Int) := by simp [IntKind.wrap, IntKind.bits, IntKind.signed]; omega
        have d2 : (n : Int) % 4 = 3 := by omega
        have d3 : (n : Int).tmod 4 = 3 := by rw [Int.tmod_eq_emod_of_nonneg (by omega)]; exact d2
        have HNA := hid hna
        clear hna hm
        have hmk := hs.out.1.keys (G' := upto F (4 * (n + 1))) hkb hck (a * 16 + 12) (by have := HNA.out; omega) (fun p => F (4 * n + p)) (fun j _ => (by rw [show a * 16 + 12 = n * 4 from by have := HNA.out; omega]; exact upto_put F n (fun p => F (4 * n + p)) (fun p _ => rfl) j))
        have HMK := hid hmk
        clear hmk
        refine wp_region_z (fun wx => wx.cell? ⟨c, 0, none⟩ = some (.slice (some ⟨kb, 0, none⟩) (14 + 1) (14 + 1))) 13 (by kernel_rfl) hs.out.1.1 (fun hS => ?_)
        refine wpAnyZ_take (i := 0) (v := .pointer (some ⟨c, 0, none⟩)) rfl (by kernel_rfl) (by kernel_rfl) (by kernel_rfl) (by kernel_rfl) (fun _ _ _ h => h) hS (Or.inl ⟨by kernel_rfl, fun w hS => (by clear hS; go_simp)⟩) ?_
        simp only [Act.put, List.setIfInBounds_toArray, List.set_cons_zero, List.set_cons_succ]
        refine wpAnyZ_take (i := 1) (v := .pointer (some ⟨c, 0, none⟩)) rfl (by kernel_rfl) (by kernel_rfl) (by kernel_rfl) (by kernel_rfl) (fun _ _ _ h => h) hS (Or.inl ⟨by kernel_rfl, fun w hS => (by clear hS; go_simp)⟩) ?_
        simp only [Act.put, List.setIfInBounds_toArray, List.set_cons_zero, List.set_cons_succ]
        refine wpAnyZ_take (i := 2) (v := .pointer (some ⟨c, 0, none⟩)) rfl (by kernel_rfl) (by kernel_rfl) (by kernel_rfl) (by kernel_rfl) (fun _ _ _ h => h) hS (Or.inl ⟨by kernel_rfl, fun w hS => (by clear hS; go_simp)⟩) ?_
        simp only [Act.put, List.setIfInBounds_toArray, List.set_cons_zero, List.set_cons_succ]
        refine wpAnyZ_take (i := 3) (v := .slice (some ⟨kb, 0, none⟩) 15 15) rfl (by kernel_rfl) (by kernel_rfl) (by kernel_rfl) (by kernel_rfl) (fun _ _ _ h => h) hS (Or.inl ⟨by kernel_rfl, fun w hS => (by go_simp)⟩) ?_
        simp only [Act.put, List.setIfInBounds_toArray, List.set_cons_zero, List.set_cons_succ]
        refine wpAnyZ_take (i := 4) (v := .int .i64 (n : Int)) rfl (by kernel_rfl) (by kernel_rfl) (by kernel_rfl) (by kernel_rfl) (fun _ _ _ h => h) hS (Or.inl ⟨by kernel_rfl, fun w hS => (by clear hS; go_simp)⟩) ?_
        simp only [Act.put, List.setIfInBounds_toArray, List.set_cons_zero, List.set_cons_succ]
        refine wpAnyZ_take (i := 5) (v := .int .i64 (a : Int)) rfl (by kernel_rfl) (by kernel_rfl) (by kernel_rfl) (by kernel_rfl) (fun _ _ _ h => h) hS (Or.inl ⟨by kernel_rfl, fun w hS => (by clear hS; go_simp; (try (simp [IntKind.wrap, IntKind.bits, IntKind.signed])); (try omega))⟩) ?_
        simp only [Act.put, List.setIfInBounds_toArray, List.set_cons_zero, List.set_cons_succ]
        refine wpAnyZ_take (i := 6) (v := .pointer (some ⟨kb, a * 16, none⟩)) rfl (by kernel_rfl) (by kernel_rfl) (by kernel_rfl) (by kernel_rfl) (fun _ _ _ h => h) hS (Or.inl ⟨by kernel_rfl, fun w hS => (by clear hS; go_simp)⟩) ?_
        simp only [Act.put, List.setIfInBounds_toArray, List.set_cons_zero, List.set_cons_succ]
        refine wpAnyZ_take (i := 7) (v := .int .i64 (n : Int)) rfl (by kernel_rfl) (by kernel_rfl) (by kernel_rfl) (by kernel_rfl) (fun _ _ _ h => h) hS (Or.inl ⟨by kernel_rfl, fun w hS => (by clear hS; go_simp)⟩) ?_
        simp only [Act.put, List.setIfInBounds_toArray, List.set_cons_zero, List.set_cons_succ]
        refine wpAnyZ_take (i := 8) (v := .int .i64 3) rfl (by kernel_rfl) (by kernel_rfl) (by kernel_rfl) (by kernel_rfl) (fun _ _ _ h => h) hS (Or.inl ⟨by kernel_rfl, fun w hS => (by clear hS; go_simp; (try (simp [IntKind.wrap, IntKind.bits, IntKind.signed])); (try omega))⟩) ?_
        simp only [Act.put, List.setIfInBounds_toArray, List.set_cons_zero, List.set_cons_succ]
        refine wpAnyZ_take (i := 9) (v := .int .i64 12) rfl (by kernel_rfl) (by kernel_rfl) (by kernel_rfl) (by kernel_rfl) (fun _ _ _ h => h) hS (Or.inl ⟨by kernel_rfl, fun w hS => (by clear hS; go_simp; (try (simp [IntKind.wrap, IntKind.bits, IntKind.signed])); (try omega))⟩) ?_
        simp only [Act.put, List.setIfInBounds_toArray, List.set_cons_zero, List.set_cons_succ]
        refine wpAnyZ_take (i := 10) (v := .slice (some ⟨kb, a * 16 + 12, none⟩) 4 4) rfl (by kernel_rfl) (by kernel_rfl) (by kernel_rfl) (by kernel_rfl) (fun _ _ _ h => h) hS (Or.inl ⟨by kernel_rfl, fun w hS => (by clear hS; go_simp)⟩) ?_
        simp only [Act.put, List.setIfInBounds_toArray, List.set_cons_zero, List.set_cons_succ]
        refine wpAnyZ_take (i := 11) (v := .slice (some ⟨h, 0, none⟩) 4 4) rfl (by kernel_rfl) (by kernel_rfl) (by kernel_rfl) (by kernel_rfl) (fun _ _ _ h => h) hS (Or.inl ⟨by kernel_rfl, fun w hS => (by clear hS; go_simp)⟩) ?_
        simp only [Act.put, List.setIfInBounds_toArray, List.set_cons_zero, List.set_cons_succ]
        refine wpAnyZ_one (i := 12) (by kernel_rfl) rfl (fun K hK => ?_)
        refine step_copy_cells rfl _ _ _ _ rfl 5 Try.underlying22 Try.sizeByte kb (a * 16 + 12) 4 4 (by kernel_rfl) ⟨h, 0, none⟩ 4 4 (by kernel_rfl) (vals 4 (fun p => F (4 * n + p))) rfl (range_cells hs.out.2.range) (hs.out.1.2.1.thereAt (by rw [vals_length]; omega)) (vals_one _ _) ?_
        refine hK.out _ _ (fun _ => HMK.out.1) ?_
        clear hK K
        try simp only [Act.put, List.setIfInBounds_toArray, List.set_cons_zero, List.set_cons_succ]
        refine wpAnyZ_done (by kernel_rfl) ?_ _
        go_wp2_with fail
        go_roundw
        case rel => exact ⟨n + 1, by omega, by go_num, HMK.out, hWw.out.drew.besidePut (by omega) _ _⟩
        case measure => simp [intOf]; omega
    · obtain rfl : n = 60 := by omega
      have HM := hid (show Mk w c kb 14 F (tabs 0) wr from ⟨hM.1, hM.2.1.same fun j hj => upto_lt F _ j (by omega), hM.2.2.1.same fun j _ => (tabs_zero j).symm, hM.2.2.2⟩)
      clear hM hW
      rw [show ((60 : Nat) : Int) = (60 : Int) from rfl]
      go_wp2_with fail
      go_loopw [46] (fun i wr => ∃ n : Nat, n ≤ 256 ∧ i = .int .i64 (n : Int) ∧ Mk w c kb 14 F (tabs n) wr) (fun i _ => 256 - (intOf i).toNat)
      case atStart => exact ⟨0, by decide, rfl, HM.out⟩
      case round =>
        clear HM
        obtain ⟨n, hn, rfl, hM⟩ := hrel
        by_cases hlt : n < 256
        · have hsl := sub_lt hlt
          obtain ⟨c1, f1⟩ := hM.2.2.1 n (by omega)
          have hM1 := hM.tab hcw hck n (sub n) (by omega)
          obtain ⟨c2, f2⟩ := hM1.2.2.1 (256 + sub n) (by omega)
          have hM2 := hM1.tab hcw hck (256 + sub n) n (by omega)
          rw [show 1 + (256 + sub n) = 257 + sub n from by omega] at c2 f2 hM2
          have HM2 := hid hM2
          clear hM hM1 hM2
          go_wp2_with fail
          refine (sub_any n _ hlt).mono ?_
          rintro e w9 ⟨rfl, rfl⟩
          go_wp2_with fail
          go_roundw
          case rel => exact ⟨n + 1, by omega, by go_num, HM2.out.1, HM2.out.2.1, HM2.out.2.2.1.same fun j hj => tabs_step hlt hj, HM2.out.2.2.2⟩
          case measure => simp [intOf]; omega
        · obtain rfl : n = 256 := by omega
          have HM := hid hM
          clear hM
          go_wp2_with fail
          go_ret2
          exact ⟨c, kb, rfl, HM.out.cip, HM.out.2.2.2, hcw, hkb⟩
theorem new4_any (p : Option Addr) (cap : Nat) (xs : List Int) (w : World) (hp : Bin w p xs) (hx : Oct xs) (hl : xs.length = 16) (hcap : 16 ≤ cap) :
    Calls Try.prog 35 #[.slice p 16 cap] w fun e w' => ∃ c kb, e = .returned (.tuple #[.pointer (some ⟨c, 0, none⟩), .int .i64 0]) ∧
      Cip w' c kb 10 (wordB 4 (nats xs)) ∧ Below w.heap.size w w' := by
  refine (new4_new p cap xs w hp hx hl hcap).mono ?_
  rintro e w' ⟨c, kb, he, hC, hb, _, _⟩
  exact ⟨c, kb, he, hC, hb⟩
theorem new8_any (p : Option Addr) (cap : Nat) (xs : List Int) (w : World) (hp : Bin w p xs) (hx : Oct xs) (hl : xs.length = 32) (hcap : 32 ≤ cap) :
    Calls Try.prog 35 #[.slice p 32 cap] w fun e w' => ∃ c kb, e = .returned (.tuple #[.pointer (some ⟨c, 0, none⟩), .int .i64 0]) ∧
      Cip w' c kb 14 (wordB 8 (nats xs)) ∧ Below w.heap.size w w' := by
  refine (new8_new p cap xs w hp hx hl hcap).mono ?_
  rintro e w' ⟨c, kb, he, hC, hb, _, _⟩
  exact ⟨c, kb, he, hC, hb⟩
end Go.Proofs.Ytgnhbfjngdgibaa
