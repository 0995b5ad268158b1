/-
  The document's Encrypt, over the contract of its Words.
-/
import Derived.Test.YtgnhbfjngdgibaaKe
import Derived.Test.YtgnhbfjngdgibaaKf
import Derived.Deep.CutRange
import Derived.Deep.DeepCutAuto
namespace Go.Proofs.Ytgnhbfjngdgibaa
open Go.RowKit
set_option linter.unusedVariables false
set_option linter.unusedSimpArgs false

/-- What the document's Words answers. -/
def WordsSay : Prop := ∀ (k n N : Nat) (xs : List Int) (p : Option Addr) (cap : Nat) (w : World), (k = 4 ∧ n = 16 ∧ N = 176 ∨ k = 8 ∧ n = 32 ∧ N = 240) → Bin w p xs → Oct xs → xs.length = n →
  Calls Try.prog 60 #[.slice p n cap] w fun e w' => ∃ g c, e = .returned (.slice (some ⟨g, 0, none⟩) N c) ∧ w.heap.size ≤ g ∧ (∀ i, i < N → w'.cell? ⟨g, i, none⟩ = some (.int .u8 (wordB k (nats xs) i : Nat))) ∧ Below w.heap.size w w'

theorem refMixV (c : Nat → Nat) (w : World) (oc : ∀ j, c j < 256) :
    Calls Try.prog 64 #[.agg (vals 4 c).toArray] w fun e w' => e = .returned (.agg (vals 4 (mix c)).toArray) ∧ Below w.heap.size w w' := refMix_any c w oc
theorem refMovS (x : Nat → Nat) (w : World) :
    Calls Try.prog 63 #[.agg (vals 16 x).toArray, .agg #[.int .i64 0, .int .i64 1, .int .i64 2, .int .i64 3]] w fun e w' => e = .returned (.agg (vals 16 (movS x)).toArray) ∧ Below w.heap.size w w' := by
  have h := refMoved_any x (fun p => [0, 1, 2, 3].getD p 0) w (fun p => by
    rw [List.getD_eq_getElem?_getD]
    rcases p with _ | _ | _ | _ | p <;> simp)
  rw [show vals 16 (fun j => x (from4 (fun p => [0, 1, 2, 3].getD p 0) j)) = vals 16 (movS x) from vals_same fun j hj => by
    have e : ∀ j, j < 16 → from4 (fun p => [0, 1, 2, 3].getD p 0) j = src j := by decide
    show x _ = x _
    rw [e j hj]] at h
  exact h
theorem refMovB (x : Nat → Nat) (w : World) :
    Calls Try.prog 63 #[.agg (vals 16 x).toArray, .agg #[.int .i64 0, .int .i64 3, .int .i64 2, .int .i64 1]] w fun e w' => e = .returned (.agg (vals 16 (movB x)).toArray) ∧ Below w.heap.size w w' := by
  have h := refMoved_any x (fun p => [0, 3, 2, 1].getD p 0) w (fun p => by
    rw [List.getD_eq_getElem?_getD]
    rcases p with _ | _ | _ | _ | p <;> simp)
  rw [show vals 16 (fun j => x (from4 (fun p => [0, 3, 2, 1].getD p 0) j)) = vals 16 (movB x) from vals_same fun j hj => by
    have e : ∀ j, j < 16 → from4 (fun p => [0, 3, 2, 1].getD p 0) j = dst j := by decide
    show x _ = x _
    rw [e j hj]] at h
  exact h

/-- What the rounds keep: the state in block g, the words' bytes in block gw, the result's place. -/
def J (w0 : World) (gw N g : Nat) (F s : Nat → Nat) (wr : World) : Prop :=
  Arr wr g 16 s ∧ (∀ i, i < N → wr.cell? ⟨gw, i, none⟩ = some (.int .u8 (F i : Nat))) ∧ Arr wr (w0.heap.size + 1) 16 (fun _ => 0) ∧ Below w0.heap.size w0 wr ∧ (w0.heap.size + 1 < g ∧ gw ≠ g ∧ 0 < N)
section
variable {w0 w w' : World} {gw N g : Nat} {F s t : Nat → Nat}
theorem J.same (h : J w0 gw N g F s w) (e : ∀ j, j < 16 → s j = t j) : J w0 gw N g F t w := ⟨h.1.same e, h.2⟩
theorem J.grow (h : J w0 gw N g F s w) (hb : Below w.heap.size w w') : J w0 gw N g F s w' :=
  ⟨h.1.below hb, fun i hi => (hb.cell (p := ⟨gw, i, none⟩) (World.block_lt_of_cell? w _ (h.2.1 i hi))).trans (h.2.1 i hi), h.2.2.1.below hb, h.2.2.2.1.trans (hb.mono h.2.2.2.1.size), h.2.2.2.2⟩
theorem J.lt (h : J w0 gw N g F s w) : g < w.heap.size ∧ gw < w.heap.size := ⟨h.1.lt (by decide), World.block_lt_of_cell? w _ (h.2.1 0 h.2.2.2.2.2.2)⟩
theorem J.set (h : J w0 gw N g F s w) (i y : Nat) (hi : i < 16) : J w0 gw N g F (fun j => if j = i then y else s j) (w.setCell ⟨g, i, none⟩ (.int .u8 (y : Nat))) :=
  ⟨h.1.set i y hi, fun j hj => (World.cell?_setCell_other w _ _ _ (by intro hh; injection hh with h1 _ _; exact h.2.2.2.2.2.1 (by omega))).trans (h.2.1 j hj), h.2.2.1.beside (by have := h.2.2.2.2.1; omega) _ _, h.2.2.2.1.setCell (by have := h.2.2.2.2.1; simp; omega) _, h.2.2.2.2⟩
theorem J.put (h : J w0 gw N g F s w) (t : Nat → Nat) : J w0 gw N g F t (w.setCells g 0 (vals 16 t)) :=
  ⟨h.1.put t, fun j hj => (World.cell?_setCells_out g _ 0 w ⟨gw, j, none⟩ (fun hh _ => absurd hh h.2.2.2.2.2.1)).trans (h.2.1 j hj), h.2.2.1.besidePut (by have := h.2.2.2.2.1; omega) 0 _, below_setCells _ 0 h.2.2.2.1 (by have := h.2.2.2.2.1; omega), h.2.2.2.2⟩
theorem J.new (h : J w0 gw N g F s w) (t : TypeId) (n : Nat) (c : Nat → Nat) : J w0 gw N g F s ((w.alloc (.cells (vals n fun _ => 0).toArray t)).setCells w.heap.size 0 (vals n c)) := by
  have hg := h.grow ((Below.refl w.heap.size w).alloc (Nat.le_refl _) (.cells (vals n fun _ => 0).toArray t))
  have hl := h.lt
  exact ⟨hg.1.besidePut (by omega) 0 _, fun j hj => (World.cell?_setCells_out w.heap.size _ 0 _ ⟨gw, j, none⟩ (fun hh _ => by simp only at hh; omega)).trans (hg.2.1 j hj), hg.2.2.1.besidePut (by have := h.2.2.2.2.1; omega) 0 _, below_setCells _ 0 hg.2.2.2.1 (by have := h.2.2.2.2.1; omega), h.2.2.2.2⟩
end

theorem mixS_at (s : Nat → Nat) (q p : Nat) (hp : p < 4) : mixS s (4 * q + p) = mix (fun t => s (4 * q + t)) p := by
  unfold mixS; rw [show (4 * q + p) / 4 = q from by omega, show (4 * q + p) % 4 = p from by omega]
theorem unmixS_at (s : Nat → Nat) (q p : Nat) (hp : p < 4) : unmixS s (4 * q + p) = unmix (fun t => s (4 * q + t)) p := by
  unfold unmixS; rw [show (4 * q + p) / 4 = q from by omega, show (4 * q + p) % 4 = p from by omega]

/-- A state that is loaded, of the document's type. -/
theorem ld {w : World} {ops : Array Oper} {rest : List Oper} {op : Oper} {a : Act} {Q : Exit → Act → World → Prop} (hgd : op.guard = none) (q : Operand) (ho : op.op = .load 44 q)
    (g : Nat) (hq : a.eval q = .pointer (some ⟨g, 0, none⟩)) (s : Nat → Nat) (hc : Arr w g 16 s)
    (h : wpList Try.prog ops Q rest (a.put op.dst (.agg (vals 16 s).toArray)) w) : wpList Try.prog ops Q (op :: rest) a w :=
  wpList_load_arr hgd 44 q ho g hq 16 s hc _ Try.underlying44 rfl Try.sizeBlock h
theorem st {w : World} {ops : Array Oper} {rest : List Oper} {op : Oper} {a : Act} {Q : Exit → Act → World → Prop} (hgd : op.guard = none) (q r : Operand) (ho : op.op = .store 44 q r)
    (g : Nat) (y : Nat → Nat) (hq : a.eval q = .pointer (some ⟨g, 0, none⟩)) (hr : a.eval r = .agg (vals 16 y).toArray) (s : Nat → Nat) (hc : Arr w g 16 s)
    (h : wpList Try.prog ops Q rest (a.put op.dst undef) (w.setCells g 0 (vals 16 y))) : wpList Try.prog ops Q (op :: rest) a w :=
  wpList_store_arr hgd 44 q r ho g 16 y hq hr s hc Try.sizeBlock h

theorem refAdd0 (x F : Nat → Nat) (b n cap : Nat) (w : World) (ox : ∀ j, x j < 256) (oF : ∀ j, F j < 256) (hF : ∀ i, i < n → w.cell? ⟨b, i, none⟩ = some (.int .u8 (F i : Nat))) (hj : 16 ≤ n) (hn : n ≤ 1000) :
    Calls Try.prog 61 #[.agg (vals 16 x).toArray, .slice (some ⟨b, 0, none⟩) n cap, .int .i64 0] w fun e w' => e = .returned (.agg (vals 16 (addK F 0 x)).toArray) ∧ Below w.heap.size w w' := refAdd_any x F b n cap 0 w ox oF hF (by omega) hn
theorem refAddS (x F : Nat → Nat) (b n cap j : Nat) (w : World) (ox : ∀ j, x j < 256) (oF : ∀ j, F j < 256) (hF : ∀ i, i < n → w.cell? ⟨b, i, none⟩ = some (.int .u8 (F i : Nat))) (hj : 16 * (j + 1) + 16 ≤ n) (hn : n ≤ 1000) :
    Calls Try.prog 61 #[.agg (vals 16 x).toArray, .slice (some ⟨b, 0, none⟩) n cap, .int .i64 ((j : Int) + 1)] w fun e w' => e = .returned (.agg (vals 16 (addK F (j + 1) x)).toArray) ∧ Below w.heap.size w w' := by
  have h := refAdd_any x F b n cap (j + 1) w ox oF hF hj hn
  rw [show ((j + 1 : Nat) : Int) = (j : Int) + 1 from by omega] at h
  exact h

/-- The state behind m rounds of r. -/
def es (F : Nat → Nat) (r m : Nat) (x : Nat → Nat) : Nat → Nat := if m < r then encN F m x else enc F r x

set_option maxHeartbeats 8000000 in
set_option maxRecDepth 100000 in
theorem refEncrypt_any (hW : WordsSay) (k n r N : Nat) (xs : List Int) (p : Option Addr) (cap : Nat) (x : Nat → Nat) (w : World) (hn : k = 4 ∧ n = 16 ∧ N = 176 ∧ r = 10 ∨ k = 8 ∧ n = 32 ∧ N = 240 ∧ r = 14) (hp : Bin w p xs) (hx : Oct xs) (hl : xs.length = n) (ox : ∀ j, x j < 256) :
    Calls Try.prog 43 #[.slice p n cap, .agg (vals 16 x).toArray] w fun e w' => e = .returned (.agg (vals 16 (enc (wordB k (nats xs)) r x)).toArray) ∧ Below w.heap.size w w' := by
  have hzb := Try.zeroBlock
  have hzw := Try.zeroWord
  obtain ⟨wa, hwa, b1, b2, hB, hsz⟩ := boxes2 w 16 x (fun _ => 0) 44 44
  have hpa := hp.below hB
  have hww := hW k n N xs p cap wa (by omega) hpa hx hl
  have oF : ∀ j, wordB k (nats xs) j < 256 := wordB_lt (nats_lt hx)
  obtain ⟨F, hF⟩ : ∃ F, Hid (F = wordB k (nats xs)) := ⟨_, rfl⟩
  rw [← hF.out] at hww oF ⊢
  have hNr : N = 16 * (r + 1) := by omega
  have hrn : wrap64 (wrap64 ((n : Int) / 4) + 6) = (r : Int) := by
    rcases hn with ⟨_, rfl, _, rfl⟩ | ⟨_, rfl, _, rfl⟩ <;> (unfold wrap64; omega)
  have hr14 : r ≤ 14 ∧ 1 ≤ r := by omega
  have HL := hid hl
  have HN := hid hn
  have HNr := hid hNr
  have HWW := hid hww
  have HRN := hid hrn
  clear hl hn hNr hww hp hpa hW hx hrn
  go_enter Try.func43, Try.ntmps43
  go_wp2_with fail
  rw [← hwa.out]
  refine HWW.out.mono ?_
  rintro e w1 ⟨gw, gc, rfl, hgw, hF1, hb1⟩
  have hgl : gw < w1.heap.size := World.block_lt_of_cell? w1 _ (hF1 0 (by have := HNr.out; omega))
  have HF1 := hid hF1
  have B1 := hid (b1.below hb1)
  have B2 := hid (b2.below hb1)
  have HB1 := hid (hB.trans (hb1.mono hB.size))
  clear hF1 b1 b2 hB hb1 HWW hwa
  go_wp2_with (refine ld rfl _ rfl w.heap.size rfl x ?_ ?_; exact B1.out)
  rw [HRN.out]
  refine (refAdd0 x F gw N gc _ ox oF HF1.out (by have := HNr.out; omega) (by have := HNr.out; omega)).mono ?_
  rintro e w2 ⟨rfl, hb2⟩
  have hs2 := hb2.size
  have hs1 := HB1.out.size
  obtain ⟨g, hg⟩ : ∃ g, Hid (g = w2.heap.size) := ⟨_, rfl⟩
  have hn2 := arr_new w2 16 (fun _ => 0) 44
  have hJ : J w gw N g F (encN F 0 x) ((w2.alloc (.cells (vals 16 fun _ => 0).toArray 44)).setCells w2.heap.size 0 (vals 16 (addK F 0 x))) := by
    rw [hg.out]
    have hl2 := (B2.out.below hb2).lt (by decide)
    have hbb := HB1.out.trans (hb2.mono hs1)
    exact ⟨hn2.put _, fun i hi => (World.cell?_setCells_out w2.heap.size _ 0 _ ⟨gw, i, none⟩ (fun hh _ => by simp only at hh; omega)).trans ((((Below.refl w2.heap.size w2).alloc (Nat.le_refl _) _).cell (p := ⟨gw, i, none⟩) (by show gw < w2.heap.size; omega)).trans ((hb2.cell (p := ⟨gw, i, none⟩) hgl).trans (HF1.out i hi))), ((B2.out.below hb2).alloc _).besidePut (by omega) 0 _, below_setCells _ 0 (hbb.alloc hbb.size _) hbb.size, by omega, by omega, by have := HNr.out; omega⟩
  clear hb2 hs2 hs1 HF1 B1 B2 HB1
  go_wp2_with (refine st rfl _ _ rfl w2.heap.size (addK F 0 x) rfl rfl (fun _ => 0) ?_ ?_; exact hn2)
  rw [← hg.out]
  rw [← hg.out] at hJ
  generalize (w2.alloc (.cells (vals 16 fun _ => 0).toArray 44)).setCells g 0 (vals 16 (addK F 0 x)) = w3 at hJ ⊢
  clear hn2
  have HJ := hid hJ
  clear hJ
  go_loopw [8] (fun i wr => ∃ m : Nat, m ≤ r ∧ i = .int .i64 ((m : Int) + 1) ∧ J w gw N g F (es F r m x) wr) (fun i _ => r + 1 - (intOf i).toNat)
  case atStart => exact ⟨0, Nat.zero_le _, rfl, HJ.out.same fun j _ => by unfold es; rw [if_pos (by omega)]⟩
  case round =>
    clear HJ
    obtain ⟨m, hm, rfl, hJ⟩ := hrel
    by_cases hlt : m < r
    · have hle : (m : Int) + 1 ≤ (r : Int) := by omega
      have hd : decide ((m : Int) + 1 ≤ (r : Int)) = true := by simp; omega
      obtain ⟨s, hs⟩ : ∃ s, Hid (s = encN F m x) := ⟨_, rfl⟩
      have os : ∀ j, s j < 256 := by rw [hs.out]; exact encN_lt oF ox m
      have HJ := hid (hJ.same (t := s) fun j _ => by unfold es; rw [if_pos hlt, hs.out])
      clear hJ
      go_wp2_with fail
      go_loopw [9] (fun i wr => ∃ i' : Nat, i' ≤ 16 ∧ i = .int .i64 (i' : Int) ∧ J w gw N g F (mixk (subS s) s i') wr) (fun i _ => 16 - (intOf i).toNat)
      case atStart => exact ⟨0, by decide, rfl, HJ.out.same fun j _ => (mixk_zero (subS s) s j).symm⟩
      case round =>
        clear HJ
        obtain ⟨i, hi, rfl, hJ⟩ := hrel
        by_cases hlt2 : i < 16
        · obtain ⟨hc, hf⟩ := hJ.1 i hlt2
          rw [mixk_at _ _ _ _ (Nat.le_refl _)] at hc
          have HS := hid (hJ.set i (sub (s i)) hlt2)
          have iI : (i : Int) < 16 := by omega
          clear hJ
          go_wp2_with fail
          refine (refSub_any (s i) _ (os i)).mono ?_
          rintro e w' ⟨rfl, rfl⟩
          go_wp2_with fail
          go_roundw
          case rel => exact ⟨i + 1, by omega, by go_num, HS.out.same fun j _ => mixk_step (subS s) s i j⟩
          case measure => simp [intOf]; omega
        · obtain rfl : i = 16 := by omega
          have HJ := hid (hJ.same (t := subS s) fun j hj => mixk_full _ _ 16 j hj)
          clear hJ
          rw [show ((16 : Nat) : Int) = (16 : Int) from rfl]
          go_wp2_with (refine ld rfl _ rfl g rfl (subS s) ?_ ?_; exact HJ.out.1)
          refine (refMovS (subS s) _).mono ?_
          rintro e w4 ⟨rfl, hb4⟩
          obtain ⟨u, hu⟩ : ∃ u, Hid (u = movS (subS s)) := ⟨_, rfl⟩
          have ou : ∀ j, u j < 256 := by rw [hu.out]; exact movS_lt (subS_lt os)
          rw [← hu.out]
          have hA4 := (HJ.out.grow hb4).1
          have hJ4 := (HJ.out.grow hb4).put u
          clear HJ hb4
          by_cases hmr : m + 1 < r
          · have hle2 : (m : Int) + 1 < (r : Int) := by omega
            have hd2 : decide ((m : Int) + 1 < (r : Int)) = true := by simp; omega
            go_wp2_with (refine st rfl _ _ rfl g u rfl rfl (subS s) ?_ ?_; exact hA4)
            generalize w4.setCells g 0 (vals 16 u) = w5 at hJ4 ⊢
            have HJ4 := hid hJ4
            clear hA4 hJ4
            go_loopw [10] (fun i wr => ∃ q : Nat, q ≤ 4 ∧ i = .int .i64 (q : Int) ∧ J w gw N g F (mixk (mixS u) u (4 * q)) wr) (fun i _ => 4 - (intOf i).toNat)
            case atStart => exact ⟨0, by decide, rfl, HJ4.out.same fun j _ => (mixk_zero (mixS u) u j).symm⟩
            case round =>
              clear HJ4
              obtain ⟨q, hq, rfl, hJ⟩ := hrel
              by_cases hlq : q < 4
              · have HJ := hid hJ
                have qI : (q : Int) < 4 := by omega
                have hdq : decide ((q : Int) < 4) = true := by simp; omega
                obtain ⟨z, hz⟩ : ∃ z, Hid (z = mixk (mixS u) u (4 * q)) := ⟨_, rfl⟩
                rw [← hz.out] at HJ
                obtain ⟨c, hc⟩ : ∃ c : Nat → Nat, Hid (c = fun p => z (4 * q + p)) := ⟨_, rfl⟩
                have oc : ∀ j, c j < 256 := fun j => by rw [hc.out]; show z _ < 256; rw [hz.out]; unfold mixk; split; exact mixS_lt _ _; exact ou _
                clear hJ
                go_wp2_with (refine ld rfl _ rfl g rfl z ?_ ?_; exact HJ.out.1)
                refine (refColumn_any z q _ hlq).mono ?_
                rintro e w6 ⟨rfl, hb6⟩
                rw [← hc.out]
                have HJ6 := hid (HJ.out.grow hb6)
                clear HJ hb6
                go_wp2_with fail
                refine (refMixV c _ oc).mono ?_
                rintro e w7 ⟨rfl, hb7⟩
                have hJ7 := HJ6.out.grow hb7
                have hn7 := arr_new w7 4 (fun _ => 0) 76
                have hJ8 := hJ7.new 76 4 (mix c)
                have hA8 := hn7.put (mix c)
                have hgl7 := hJ7.lt
                obtain ⟨h, hh⟩ : ∃ h, Hid (h = w7.heap.size) := ⟨_, rfl⟩
                clear HJ6 hb7 hJ7
                go_wp2_with (refine wpList_store_arr rfl 76 _ _ rfl w7.heap.size 4 (mix c) rfl rfl (fun _ => 0) ?_ Try.sizeWord ?_; exact hn7)
                rw [← hh.out] at hJ8 hA8 hgl7
                rw [← hh.out]
                generalize (w7.alloc (.cells (vals 4 fun _ => 0).toArray 76)).setCells h 0 (vals 4 (mix c)) = w8 at hJ8 hA8 ⊢
                clear hn7
                have hcm : ∀ p, p < 4 → mix c p = mixS u (4 * q + p) := fun p hp => by
                  rw [mixS_at u q p hp, hc.out]
                  exact mix_congr p fun t ht => by rw [hz.out]; exact mixk_at _ _ _ _ (by omega)
                have HCM := hid hcm
                have HJ8 := hid hJ8
                have HA8 := hid hA8
                clear hJ8 hA8 hcm
                go_loopw [12] (fun i wr => ∃ p : Nat, p ≤ 4 ∧ i = .int .i64 (p : Int) ∧ J w gw N g F (mixk (mixS u) u (4 * q + p)) wr ∧ Arr wr h 4 (mix c)) (fun i _ => 4 - (intOf i).toNat)
                case atStart => exact ⟨0, by decide, rfl, by rw [Nat.add_zero, ← hz.out]; exact HJ8.out, HA8.out⟩
                case round =>
                  clear HJ8 HA8
                  obtain ⟨p, hp, rfl, hJ, hA⟩ := hrel
                  by_cases hlp : p < 4
                  · have pI : (p : Int) < 4 := by omega
                    obtain ⟨hc1, hf1⟩ := hJ.1 (4 * q + p) (by omega)
                    have hc2 := (hA p hlp).1
                    have HS := hid (hJ.set (4 * q + p) (mix c p) (by omega))
                    have HA2 := hid (hA.beside (b' := g) (by omega) (4 * q + p) (.int .u8 (mix c p : Nat)))
                    have p2 : (0 : Int) ≤ 4 * (q : Int) + (p : Int) := by omega
                    have p3 : 4 * (q : Int) + (p : Int) < 16 := by omega
                    have t1 : (4 * (q : Int) + (p : Int)).toNat = 4 * q + p := by omega
                    clear hJ hA
                    go_wp2_with fail
                    go_roundw
                    case rel => exact ⟨p + 1, by omega, by go_num, HS.out.same fun j _ => by rw [HCM.out p hlp]; exact mixk_step (mixS u) u (4 * q + p) j, HA2.out⟩
                    case measure => simp [intOf]; omega
                  · obtain rfl : p = 4 := by omega
                    have HJ := hid hJ
                    clear hJ hA
                    go_wp2_with fail
                    go_roundw
                    case rel => exact ⟨q + 1, by omega, by go_num, by rw [show 4 * (q + 1) = 4 * q + 4 from by omega]; exact HJ.out⟩
                    case measure => simp [intOf]; omega
              · obtain rfl : q = 4 := by omega
                have HJ := hid (hJ.same (t := mixS u) fun j hj => mixk_full _ _ 16 j hj)
                clear hJ
                go_wp2_with (refine ld rfl _ rfl g rfl (mixS u) ?_ ?_; exact HJ.out.1)
                refine (refAddS (mixS u) F gw N gc m _ (mixS_lt u) oF HJ.out.2.1 (by have := HNr.out; omega) (by have := HNr.out; omega)).mono ?_
                rintro e w9 ⟨rfl, hb9⟩
                have hA9 := (HJ.out.grow hb9).1
                have HJ9 := hid ((HJ.out.grow hb9).put (addK F (m + 1) (mixS u)))
                clear HJ hb9
                go_wp2_with (refine st rfl _ _ rfl g (addK F (m + 1) (mixS u)) rfl rfl (mixS u) ?_ ?_; exact hA9)
                go_roundw
                case rel => exact ⟨m + 1, by omega, by go_num, HJ9.out.same fun j _ => by unfold es; rw [if_pos hmr, hu.out, hs.out]; rfl⟩
                case measure => simp [intOf]; omega
          · have HMR := hid (show m + 1 = r from by omega)
            have hle2 : ¬ ((m : Int) + 1 < (r : Int)) := by omega
            have HJ4 := hid hJ4
            clear hJ4
            go_upto_region 21 with (refine st rfl _ _ rfl g u rfl rfl (subS s) ?_ ?_; exact hA4)
            go_wp2_with (refine ld rfl _ rfl g rfl u ?_ ?_; exact HJ4.out.1)
            refine (refAddS u F gw N gc m _ ou oF HJ4.out.2.1 (by have := HNr.out; omega) (by have := HNr.out; omega)).mono ?_
            rintro e w9 ⟨rfl, hb9⟩
            have hA9 := (HJ4.out.grow hb9).1
            have HJ9 := hid ((HJ4.out.grow hb9).put (addK F (m + 1) u))
            clear HJ4 hb9
            go_wp2_with (refine st rfl _ _ rfl g (addK F (m + 1) u) rfl rfl u ?_ ?_; exact hA9)
            go_roundw
            case rel => exact ⟨m + 1, by omega, by go_num, HJ9.out.same fun j _ => by unfold es; rw [if_neg (by omega), hu.out, hs.out, ← HMR.out]; rfl⟩
            case measure => simp [intOf]; omega
    · obtain rfl : m = r := by omega
      have hJ' := hJ.same (t := enc F m x) fun j _ => by unfold es; rw [if_neg (by omega)]
      have hlr : ¬ ((m : Int) + 1 ≤ (m : Int)) := by omega
      clear hJ
      go_wp2_with (first | (refine ld rfl _ rfl g rfl (enc F m x) ?_ ?_; exact hJ'.1) | (refine st rfl _ _ rfl (w.heap.size + 1) (enc F m x) rfl rfl (fun _ => 0) ?_ ?_; exact hJ'.2.2.1))
      refine bodyPost_ret (v := .agg (vals 16 (enc F m x)).toArray) ?_ rfl ⟨rfl, below_setCells _ 0 hJ'.2.2.2.1 (by omega)⟩
      exact results_cell_arr rfl _ _ 16 _ _ rfl (hJ'.2.2.1.put _) Try.underlying44 rfl Try.sizeBlock
end Go.Proofs.Ytgnhbfjngdgibaa
