/-
  The contract of taken: what a sum becomes with some bytes' blocks.
-/
import Derived.Test.YtgnhbfjngdgibaaGhm
import Derived.Test.YtgnhbfjngdgibaaKh
import Derived.Test.YtgnhbfjngdgibaaKa
import Derived.Deep.CutRange
import Derived.Deep.DeepCutAuto
namespace Go.Proofs.Ytgnhbfjngdgibaa
open Go.RowKit
set_option linter.unusedVariables false
set_option linter.unusedSimpArgs false

/-- What taken's loops keep: the sum, the element, the result's place. -/
def Tk (w0 : World) (s h : Nat → Nat) (w : World) : Prop := Arr w w0.heap.size 16 s ∧ Arr w (w0.heap.size + 1) 16 h ∧ Arr w (w0.heap.size + 1 + 1) 16 (fun _ => 0) ∧ Below w0.heap.size w0 w
theorem Tk.grow {w0 w w' : World} {s h : Nat → Nat} (t : Tk w0 s h w) (hb : Below w.heap.size w w') : Tk w0 s h w' := ⟨t.1.below hb, t.2.1.below hb, t.2.2.1.below hb, t.2.2.2.trans (hb.mono t.2.2.2.size)⟩
theorem Tk.set {w0 w : World} {s h : Nat → Nat} (t : Tk w0 s h w) (i y : Nat) (hi : i < 16) : Tk w0 (fun j => if j = i then y else s j) h (w.setCell ⟨w0.heap.size, i, none⟩ (.int .u8 (y : Nat))) :=
  ⟨t.1.set i y hi, t.2.1.beside (by omega) i _, t.2.2.1.beside (by omega) i _, t.2.2.2.setCell (Nat.le_refl _) _⟩
theorem Tk.put {w0 w : World} {s h : Nat → Nat} (t : Tk w0 s h w) (y : Nat → Nat) : Tk w0 y h (w.setCells w0.heap.size 0 (vals 16 y)) :=
  ⟨t.1.put y, t.2.1.besidePut (by omega) 0 _, t.2.2.1.besidePut (by omega) 0 _, below_setCells _ 0 t.2.2.2 (Nat.le_refl _)⟩
theorem Tk.same {w0 w : World} {s t h : Nat → Nat} (k : Tk w0 s h w) (e : ∀ j, j < 16 → s j = t j) : Tk w0 t h w := ⟨k.1.same e, k.2⟩
/-- From here on nothing is asked of the world. -/
theorem wpAnyZ_true {P : Program} {md : Region.Mode} {ops : Array Oper} {Q : Exit → Act → World → Prop} {S : World → Prop} {z z' : Nat} :
    ∀ (fuel : Nat) (listed : Array Bool) (a : Act) (w : World), wpAnyZ P md ops Q S z fuel listed a w → wpAnyZ P md ops Q (fun _ => True) z' fuel listed a w
  | 0, _, _, _, h => h
  | fuel + 1, _, _, _, h => ⟨h.1, fun i hi => wpOp_mono (fun a' w' h' => ⟨fun _ => trivial, wpAnyZ_true fuel _ a' w' h'.2⟩) (h.2 i hi)⟩
/-- What is left of a slice of bytes. -/
theorem sliced_from {b o n cap k : Nat} {w : World} {ys : List Int} (hn : n = ys.length) (h : Bin w (some ⟨b, o, none⟩) ys) (h1 : k ≤ n) (h2 : n ≤ cap) :
    ∃ p2, sliced (some ⟨b, o, none⟩) k n cap 1 = .slice p2 (n - k) (cap - k) ∧ Bin w p2 (ys.drop k) := by
  refine ⟨_, rfl, fun hl => ?_⟩
  rw [List.length_drop] at hl
  have hne : ¬ (cap = k) := by omega
  rw [if_neg hne]
  obtain ⟨b', o', e, hc⟩ := h (by omega)
  injection e with e
  injection e with e1 e2 _
  subst e1
  subst e2
  refine ⟨b, o + k, by simp [Addr.add], fun i hi => ?_⟩
  rw [List.length_drop] at hi
  rw [Nat.add_assoc, hc (k + i) (by omega), List.getD_eq_getElem?_getD, List.getD_eq_getElem?_getD, List.getElem?_drop]
/-- How long a slice is. -/
def lenV : Value → Nat
  | .slice _ n _ => n
  | _ => 0

set_option maxHeartbeats 8000000 in
set_option maxRecDepth 100000 in
theorem taken_of (s h : Nat → Nat) (p : Option Addr) (cap : Nat) (xs : List Int) (w : World) (os : ∀ j, s j < 256) (oh : ∀ j, h j < 256) (hp : Bin w p xs) (hx : Oct xs) (hm : xs.length ≤ 140737488351232) (hcap : xs.length ≤ cap) :
    Calls Try.prog 57 #[.agg (vals 16 s).toArray, .agg (vals 16 h).toArray, .slice p xs.length cap] w fun e w' => e = .returned (.agg (vals 16 (by16 (tkL (el h) (el s) xs))).toArray) ∧ Below w.heap.size w w' := by
  have hzb := Try.zeroBlock
  obtain ⟨w1, hw1, hs1, hh1, hr1, hB, hsz⟩ := boxes3 w 16 s h (fun _ => 0) 44 44 44
  have HT := hid (show Tk w s h w1 from ⟨hs1, hh1, hr1, hB⟩)
  obtain ⟨V, hV⟩ : ∃ V, Hid (V = tkL (el h) (el s) xs) := ⟨_, rfl⟩
  rw [← hV.out]
  clear hs1 hh1 hr1 hB hsz
  go_enter Try.func57, Try.ntmps57
  go_wp2_with fail
  rw [← hw1.out]
  go_loopw [2] (fun v wr => ∃ (ys : List Int) (p' : Option Addr) (cap' : Nat) (sN : Nat → Nat), v = .slice p' ys.length cap' ∧ ys.length ≤ cap' ∧ ys.length ≤ 140737488351232 ∧ Bin w p' ys ∧ Oct ys ∧ (∀ j, sN j < 256) ∧ tkL (el h) (el sN) ys = V ∧ Tk w sN h wr) (fun v _ => lenV v)
  case atStart => exact ⟨xs, p, cap, s, rfl, hcap, hm, hp, hx, os, hV.out.symm, HT.out⟩
  case round =>
    clear HT hV hm hcap os hx hp
    obtain ⟨ys, p', cap', sN, rfl, hcap, hm, hp, hx, os, hV, hT⟩ := hrel
    by_cases h0 : 0 < ys.length
    · obtain ⟨b, o, rfl, hbl, hc⟩ := hp.at h0
      obtain ⟨n, hn⟩ : ∃ n, n = ys.length := ⟨_, rfl⟩
      obtain ⟨k, hk⟩ : ∃ k, Hid (k = min 16 n) := ⟨_, rfl⟩
      rw [← hn] at h0 hcap hm
      rw [← hn]
      have HN := hid hn
      have HC := hid hc
      have HV := hid hV
      have HT := hid hT
      have HP := hid hp
      clear hn hc hV hT hp
      have hub := Try.underlying44
      have hib := Try.sizeBlock
      by_cases h16 : 16 ≤ n
      · have hI : (16 : Int) ≤ (n : Int) := by omega
        go_wp2_with fail
        try rw [show max (16 : Int) 0 = 16 from rfl]
        go_loopw [20] (fun i wr => ∃ q : Nat, q ≤ 16 ∧ i = .int .i64 (q : Int) ∧ Tk w (fun j => if j < q then sN j ^^^ byt ys j else sN j) h wr) (fun i _ => 16 - (intOf i).toNat)
        case atStart => exact ⟨0, by omega, rfl, HT.out.same fun j _ => by rw [if_neg (by omega)]⟩
        case round =>
          clear HT HC
          obtain ⟨q, hq, rfl, hT⟩ := hrel
          by_cases hlq : q < 16
          · have hcx := ((HP.out.below hT.2.2.2).at (by have := HN.out; omega))
            obtain ⟨b', o', e1, _, hc⟩ := hcx
            have hc1 := hc q (by have := HN.out; omega)
            rw [byt_at hx q] at hc1
            injection e1 with e1
            injection e1 with e2 e3 _
            subst e2
            subst e3
            have hs1 : wr.cell? ⟨w.heap.size, q, none⟩ = some (.int .u8 (sN q : Nat)) := by have e := (hT.1 q (by omega)).1; simp only [Nat.lt_irrefl, if_false] at e; exact e
            have hf1 := (hT.1 q (by omega)).2
            have hX := xor8 (os q) (byt_lt hx q)
            have HT2 := hid (hT.set q (sN q ^^^ byt ys q) (by omega))
            have qI : (q : Int) < 16 := by omega
            have qK : (q : Int) < (16 : Int) := by omega
            have qN : (q : Int) < (n : Int) := by omega
            clear hT hc
            go_wp2_with fail
            try rw [hX]
            go_roundw
            case rel => exact ⟨q + 1, by omega, by go_num, HT2.out.same fun j hj => by
              by_cases h1 : j = q
              · subst h1; rw [if_pos rfl, if_pos (by omega)]
              · rw [if_neg h1]
                by_cases h2 : j < q
                · rw [if_pos h2, if_pos (by omega)]
                · rw [if_neg h2, if_neg (by omega)]⟩
            case measure => simp [intOf]; omega
          · obtain rfl : q = 16 := by omega
            obtain ⟨s', hs'⟩ : ∃ s' : Nat → Nat, Hid (s' = fun j => sN j ^^^ byt ys j) := ⟨_, rfl⟩
            have os' : ∀ j, s' j < 256 := fun j => by rw [hs'.out]; exact xor_byte (os j) (byt_lt hx j)
            have hT' := hT.same (t := s') fun j hj => by
              rw [hs'.out]
              show _ = sN j ^^^ byt ys j
              by_cases h1 : j < 16
              · rw [if_pos h1]
              · rw [if_neg h1, byt_past (show ys.length ≤ j by have := HN.out; omega), Nat.xor_zero]
            have hV' : tkL (el h) (el (by16 (G.mul (el s') (el h)))) (ys.drop 16) = V := by
              rw [el_by16 (G.mul_lt (el_lt oh)), hs'.out, el_xor os (byt_lt hx), ← HV.out, tkL_step (el h) (el sN) (xs := ys) (by have := HN.out; omega)]
              rfl
            have HV' := hid hV'
            clear hT HV hs' hV'
            go_upto_region 8 with fail
            obtain ⟨p2, e2, hp2⟩ := sliced_from (k := 16) HN.out HP.out (by omega) hcap
            have hS0 := hT'.grow (Below.refl _ _).drew
            refine wp_region_z (fun _ => True) 8 (by kernel_rfl) trivial (fun hS => ?_)
            refine wpAnyZ_take (i := 3) (v := .slice (some ⟨b, o, none⟩) n cap') rfl (by kernel_rfl) (by kernel_rfl) (by kernel_rfl) (by kernel_rfl) (fun _ _ _ h => h) hS (Or.inl ⟨by kernel_rfl, fun w hS => (by clear hS; go_simp)⟩) ?_
            simp only [Act.put, List.setIfInBounds_toArray, List.set_cons_zero, List.set_cons_succ]
            refine wpAnyZ_take (i := 4) (v := .int .i64 16) rfl (by kernel_rfl) (by kernel_rfl) (by kernel_rfl) (by kernel_rfl) (fun _ _ _ h => h) hS (Or.inl ⟨by kernel_rfl, fun w hS => (by clear hS; go_simp)⟩) ?_
            simp only [Act.put, List.setIfInBounds_toArray, List.set_cons_zero, List.set_cons_succ]
            refine wpAnyZ_take (i := 5) (v := .slice p2 (n - 16) (cap' - 16)) rfl (by kernel_rfl) (by kernel_rfl) (by kernel_rfl) (by kernel_rfl) (fun _ _ _ h => h) hS (Or.inl ⟨by kernel_rfl, fun w hS => (by clear hS; rw [← e2]; go_simp)⟩) ?_
            simp only [Act.put, List.setIfInBounds_toArray, List.set_cons_zero, List.set_cons_succ]
            refine wpAnyZ_true (S := Tk w s' h) (z := 6) _ _ _ _ ?_
            replace hS := hS0
            clear hS0
            refine wpAnyZ_take (i := 0) rfl (by kernel_rfl) (by kernel_rfl) (by kernel_rfl) (by kernel_rfl) (fun _ _ _ h => h) hS (yieldsIf_load_mid (by kernel_rfl) 44 (.tmp 3) rfl w.heap.size 0 (by kernel_rfl) (vals 16 s') _ (fun w hS => hS.1.range) hub rfl hib) ?_
            simp only [Act.put, List.setIfInBounds_toArray, List.set_cons_zero, List.set_cons_succ]
            refine wpAnyZ_take (i := 1) rfl (by kernel_rfl) (by kernel_rfl) (by kernel_rfl) (by kernel_rfl) (fun _ _ _ h => h) hS (yieldsIf_load_mid (by kernel_rfl) 44 (.tmp 4) rfl (w.heap.size + 1) 0 (by kernel_rfl) (vals 16 h) _ (fun w hS => hS.2.1.range) hub rfl hib) ?_
            simp only [Act.put, List.setIfInBounds_toArray, List.set_cons_zero, List.set_cons_succ]
            refine wpAnyZ_one (i := 2) (by kernel_rfl) rfl (fun K hK => ?_)
            go_simp
            go_at_call 74
            refine (mul_of s' h _ os' oh).mono ?_
            rintro e w8 ⟨rfl, hb8⟩
            go_wp2_with fail
            refine hK.out _ _ (fun _ => hS.grow hb8) ?_
            replace hS := hS.grow hb8
            clear hK K
            try simp only [Act.put, List.setIfInBounds_toArray, List.set_cons_zero, List.set_cons_succ]
            have hT := hS.1.there
            refine wpAnyZ_one (i := 6) (by kernel_rfl) rfl (fun K hK => ?_)
            rw [if_pos (by rfl)]
            refine wp_store_arr _ _ _ rfl w.heap.size 16 (by16 (G.mul (el s') (el h))) rfl rfl hT hib ?_
            try simp only [Act.put, List.setIfInBounds_toArray, List.set_cons_zero, List.set_cons_succ]
            refine hK.out _ _ (fun h => absurd h (by decide)) ?_
            clear hK K
            refine wpAnyZ_one (i := 7) (by kernel_rfl) rfl (fun K hK => ?_)
            go_simp
            refine hK.out _ _ (fun h => absurd h (by decide)) ?_
            clear hK K
            try simp only [Act.put, List.setIfInBounds_toArray, List.set_cons_zero, List.set_cons_succ]
            refine wpAnyZ_done (by kernel_rfl) ?_ _
            go_wp2_with fail
            go_roundw
            case rel => exact ⟨ys.drop 16, p2, cap' - 16, by16 (G.mul (el s') (el h)), by rw [List.length_drop, ← HN.out]; try simp, by rw [List.length_drop, ← HN.out]; omega, by rw [List.length_drop, ← HN.out]; omega, hp2, hx.drop _, by16_lt _, HV'.out, hS.put _⟩
            case measure => simp [lenV]; omega
      · have hI : (n : Int) < 16 := by omega
        go_wp2_with fail
        go_loopw [20] (fun i wr => ∃ q : Nat, q ≤ n ∧ i = .int .i64 (q : Int) ∧ Tk w (fun j => if j < q then sN j ^^^ byt ys j else sN j) h wr) (fun i _ => n - (intOf i).toNat)
        case atStart => exact ⟨0, by omega, rfl, HT.out.same fun j _ => by rw [if_neg (by omega)]⟩
        case round =>
          clear HT HC
          obtain ⟨q, hq, rfl, hT⟩ := hrel
          by_cases hlq : q < n
          · have hcx := ((HP.out.below hT.2.2.2).at (by have := HN.out; omega))
            obtain ⟨b', o', e1, _, hc⟩ := hcx
            have hc1 := hc q (by have := HN.out; omega)
            rw [byt_at hx q] at hc1
            injection e1 with e1
            injection e1 with e2 e3 _
            subst e2
            subst e3
            have hs1 : wr.cell? ⟨w.heap.size, q, none⟩ = some (.int .u8 (sN q : Nat)) := by have e := (hT.1 q (by omega)).1; simp only [Nat.lt_irrefl, if_false] at e; exact e
            have hf1 := (hT.1 q (by omega)).2
            have hX := xor8 (os q) (byt_lt hx q)
            have HT2 := hid (hT.set q (sN q ^^^ byt ys q) (by omega))
            have qI : (q : Int) < 16 := by omega
            have qK : (q : Int) < (n : Int) := by omega
            have qN : (q : Int) < (n : Int) := by omega
            clear hT hc
            go_wp2_with fail
            try rw [hX]
            go_roundw
            case rel => exact ⟨q + 1, by omega, by go_num, HT2.out.same fun j hj => by
              by_cases h1 : j = q
              · subst h1; rw [if_pos rfl, if_pos (by omega)]
              · rw [if_neg h1]
                by_cases h2 : j < q
                · rw [if_pos h2, if_pos (by omega)]
                · rw [if_neg h2, if_neg (by omega)]⟩
            case measure => simp [intOf]; omega
          · obtain rfl : q = n := by omega
            obtain ⟨s', hs'⟩ : ∃ s' : Nat → Nat, Hid (s' = fun j => sN j ^^^ byt ys j) := ⟨_, rfl⟩
            have os' : ∀ j, s' j < 256 := fun j => by rw [hs'.out]; exact xor_byte (os j) (byt_lt hx j)
            have hT' := hT.same (t := s') fun j hj => by
              rw [hs'.out]
              show _ = sN j ^^^ byt ys j
              by_cases h1 : j < q
              · rw [if_pos h1]
              · rw [if_neg h1, byt_past (show ys.length ≤ j by have := HN.out; omega), Nat.xor_zero]
            have hV' : tkL (el h) (el (by16 (G.mul (el s') (el h)))) (ys.drop q) = V := by
              rw [el_by16 (G.mul_lt (el_lt oh)), hs'.out, el_xor os (byt_lt hx), ← HV.out, tkL_step (el h) (el sN) (xs := ys) (by have := HN.out; omega)]
              rw [List.drop_eq_nil_of_le (show ys.length ≤ q by have := HN.out; omega), List.drop_eq_nil_of_le (show ys.length ≤ 16 by have := HN.out; omega)]; rfl
            have HV' := hid hV'
            clear hT HV hs' hV'
            go_upto_region 8 with fail
            obtain ⟨p2, e2, hp2⟩ := sliced_from (k := q) HN.out HP.out (by omega) hcap
            have hS0 := hT'.grow (Below.refl _ _).drew
            refine wp_region_z (fun _ => True) 8 (by kernel_rfl) trivial (fun hS => ?_)
            refine wpAnyZ_take (i := 3) (v := .slice (some ⟨b, o, none⟩) q cap') rfl (by kernel_rfl) (by kernel_rfl) (by kernel_rfl) (by kernel_rfl) (fun _ _ _ h => h) hS (Or.inl ⟨by kernel_rfl, fun w hS => (by clear hS; go_simp)⟩) ?_
            simp only [Act.put, List.setIfInBounds_toArray, List.set_cons_zero, List.set_cons_succ]
            refine wpAnyZ_take (i := 4) (v := .int .i64 (q : Int)) rfl (by kernel_rfl) (by kernel_rfl) (by kernel_rfl) (by kernel_rfl) (fun _ _ _ h => h) hS (Or.inl ⟨by kernel_rfl, fun w hS => (by clear hS; go_simp)⟩) ?_
            simp only [Act.put, List.setIfInBounds_toArray, List.set_cons_zero, List.set_cons_succ]
            refine wpAnyZ_take (i := 5) (v := .slice p2 (q - q) (cap' - q)) rfl (by kernel_rfl) (by kernel_rfl) (by kernel_rfl) (by kernel_rfl) (fun _ _ _ h => h) hS (Or.inl ⟨by kernel_rfl, fun w hS => (by clear hS; rw [← e2]; go_simp)⟩) ?_
            simp only [Act.put, List.setIfInBounds_toArray, List.set_cons_zero, List.set_cons_succ]
            refine wpAnyZ_true (S := Tk w s' h) (z := 6) _ _ _ _ ?_
            replace hS := hS0
            clear hS0
            refine wpAnyZ_take (i := 0) rfl (by kernel_rfl) (by kernel_rfl) (by kernel_rfl) (by kernel_rfl) (fun _ _ _ h => h) hS (yieldsIf_load_mid (by kernel_rfl) 44 (.tmp 3) rfl w.heap.size 0 (by kernel_rfl) (vals 16 s') _ (fun w hS => hS.1.range) hub rfl hib) ?_
            simp only [Act.put, List.setIfInBounds_toArray, List.set_cons_zero, List.set_cons_succ]
            refine wpAnyZ_take (i := 1) rfl (by kernel_rfl) (by kernel_rfl) (by kernel_rfl) (by kernel_rfl) (fun _ _ _ h => h) hS (yieldsIf_load_mid (by kernel_rfl) 44 (.tmp 4) rfl (w.heap.size + 1) 0 (by kernel_rfl) (vals 16 h) _ (fun w hS => hS.2.1.range) hub rfl hib) ?_
            simp only [Act.put, List.setIfInBounds_toArray, List.set_cons_zero, List.set_cons_succ]
            refine wpAnyZ_one (i := 2) (by kernel_rfl) rfl (fun K hK => ?_)
            go_simp
            go_at_call 74
            refine (mul_of s' h _ os' oh).mono ?_
            rintro e w8 ⟨rfl, hb8⟩
            go_wp2_with fail
            refine hK.out _ _ (fun _ => hS.grow hb8) ?_
            replace hS := hS.grow hb8
            clear hK K
            try simp only [Act.put, List.setIfInBounds_toArray, List.set_cons_zero, List.set_cons_succ]
            have hT := hS.1.there
            refine wpAnyZ_one (i := 6) (by kernel_rfl) rfl (fun K hK => ?_)
            rw [if_pos (by rfl)]
            refine wp_store_arr _ _ _ rfl w.heap.size 16 (by16 (G.mul (el s') (el h))) rfl rfl hT hib ?_
            try simp only [Act.put, List.setIfInBounds_toArray, List.set_cons_zero, List.set_cons_succ]
            refine hK.out _ _ (fun h => absurd h (by decide)) ?_
            clear hK K
            refine wpAnyZ_one (i := 7) (by kernel_rfl) rfl (fun K hK => ?_)
            go_simp
            refine hK.out _ _ (fun h => absurd h (by decide)) ?_
            clear hK K
            try simp only [Act.put, List.setIfInBounds_toArray, List.set_cons_zero, List.set_cons_succ]
            refine wpAnyZ_done (by kernel_rfl) ?_ _
            go_wp2_with fail
            go_roundw
            case rel => exact ⟨ys.drop q, p2, cap' - q, by16 (G.mul (el s') (el h)), by rw [List.length_drop, ← HN.out]; try simp, by rw [List.length_drop, ← HN.out]; omega, by rw [List.length_drop, ← HN.out]; omega, hp2, hx.drop _, by16_lt _, HV'.out, hS.put _⟩
            case measure => simp [lenV]; omega
    · obtain rfl : ys = [] := List.length_eq_zero_iff.1 (by omega)
      have hr := hT.2.2.1
      have hrl := hT.1
      rw [tkL_nil] at hV
      have hV' : vals 16 sN = vals 16 (by16 V) := by rw [← hV, by16_vals os]
      clear hp hx
      go_wp2_with (first | (refine wpList_load_arr rfl 44 _ rfl w.heap.size rfl 16 sN ?_ _ Try.underlying44 rfl Try.sizeBlock ?_; exact hrl) | (refine wpList_store_arr rfl 44 _ _ rfl (w.heap.size + 1 + 1) 16 sN rfl rfl (fun _ => 0) ?_ Try.sizeBlock ?_; exact hr))
      refine bodyPost_ret (v := .agg (vals 16 (by16 V)).toArray) ?_ rfl ⟨rfl, below_setCells _ 0 hT.2.2.2 (by omega)⟩
      rw [← hV']
      exact results_cell_arr rfl _ _ 16 _ _ rfl (hr.put _) Try.underlying44 rfl Try.sizeBlock
end Go.Proofs.Ytgnhbfjngdgibaa
