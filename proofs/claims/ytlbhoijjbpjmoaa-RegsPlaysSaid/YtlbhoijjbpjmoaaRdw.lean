/-
  The document's device: Write.
-/
import Derived.Test.YtlbhoijjbpjmoaaRdp
import Derived.Test.YtlbhoijjbpjmoaaKa
import Derived.Deep.AppendLies
namespace Go.Proofs.Ytlbhoijjbpjmoaa
open Go.RowKit
set_option linter.unusedVariables false
set_option linter.unusedSimpArgs false

theorem Try.infoWait : (Try.prog.info? 86).map (fun i => (i.zero, i.size, i.bytes)) = some (some (.agg #[.int .i64 0, .slice none 0 0]), 2, 32) := by kernel_rfl
/-- Two cells in a new array. -/
theorem two_cells (w : World) (x y : Value) (t : TypeId) : ∀ (j : Nat) u, [x, y][j]? = some u → (w.alloc (.cells #[x, y] t)).cell? ((⟨w.heap.size, 0, none⟩ : Addr).add j) = some u := by
  intro j u hj
  match j, hj with
  | 0, hj => simp at hj; subst hj; simp [Addr.add]
  | 1, hj => simp at hj; subst hj; simp [Addr.add]
  | n + 2, hj => simp at hj
theorem RDs.le {B g : Nat} {w : World} {F : Nat → Prop} {S : Dst} (h : RDs B w g F S) : B ≤ w.heap.size := by
  have := h.lt g h.fg
  omega
theorem RDv.below {e : TypeId} {B g n steps fail : Nat} {w w' : World} {F : Nat → Prop} {vN vF vW : Value} {VN VF VW : Nat → Value} {now firm : Nat → List Int} {ws : List (Nat × List Int)} {cut : Int} {down : Bool} (h : RDv e B w g F n vN VN now vF VF firm vW VW ws steps fail cut down) (hb : Below w.heap.size w w') : RDv e B w' g F n vN VN now vF VF firm vW VW ws steps fail cut down :=
  h.tb (F' := fun _ => False) (Tb.of_below hb) fun _ _ h => h
theorem RDv.rdk {e : TypeId} {B g n steps fail : Nat} {w : World} {F : Nat → Prop} {vN vF vW : Value} {VN VF VW : Nat → Value} {now firm : Nat → List Int} {ws : List (Nat × List Int)} {cut : Int} {down : Bool} (h : RDv e B w g F n vN VN now vF VF firm vW VW ws steps fail cut down) : RDk e B w g F n now firm ws steps fail cut down := ⟨_, _, _, _, _, _, h⟩
theorem copy_256 (p : Option Addr) (cap : Nat) (xs : List Int) (w : World) (hp : Bin w p xs) (hl : xs.length = 256) :
    Calls Try.prog 10 #[.slice p 256 cap] w fun e w' => ∃ g c, e = .returned (.slice (some ⟨g, 0, none⟩) 256 c) ∧ Own w.heap.size w' (.slice (some ⟨g, 0, none⟩) 256 c) 256 xs ∧ Below w.heap.size w w' := by
  have := copy_any p cap xs w hp (by omega)
  rw [hl] at this
  exact this

set_option maxHeartbeats 16000000 in
set_option maxRecDepth 100000 in
theorem rWrite_of (B g : Nat) (F : Nat → Prop) (S : Dst) (i : Int) (p : Option Addr) (c n : Nat) (bs : List Int) (w : World) (h : RDs B w g F S) (hp : Bin w p bs) (ho : Oct bs) (hl : bs.length = n) (hF : ∀ a, p = some a → 0 < n → ¬ F a.block) (hs : S.steps < 9223372036854775807) (hw : S.ws.length < 4294967296) :
    Calls Try.prog 35 #[.pointer (some ⟨g, 0, none⟩), .int .i64 i, .slice p n c] w fun e w' => e = .returned (.int .i64 (S.writeE i bs)) ∧ Rstep B w g F (S.write i bs) w' := by
  obtain ⟨i0, hi, hz0, hz1, hz2⟩ := info_parts Try.infoWait
  have hh := rHas_of B g F S i w h
  unfold Dst.writeE
  by_cases h1 : S.has i = false
  · rw [if_pos (Or.inl h1), show S.write i bs = S from if_pos (Or.inl h1)]
    rw [h1] at hh
    have H := hid h
    go_enter Try.func35, Try.ntmps35
    go_wp2_with fail
    refine hh.mono ?_
    rintro e w1 ⟨rfl, rfl⟩
    go_wp2
    go_ret
    exact ⟨rfl, F, H.out, Tb.refl _ _, fun q hq => .inl hq⟩
  · have h1t : S.has i = true := by simpa using h1
    rw [h1t] at hh
    by_cases h2 : n = 256
    · subst h2
      obtain ⟨hi0, hi1, hi2⟩ := Dst.has_lt h1
      obtain ⟨k, rfl⟩ : ∃ k : Nat, i = (k : Int) := ⟨i.toNat, by omega⟩
      rw [Int.toNat_natCast] at hi2
      have hno : ¬ (S.has (k : Int) = false ∨ bs.length ≠ 256) := by rw [h1t, hl]; simp
      rw [if_neg hno]
      have hst := rStep_of B g F S w h hs
      by_cases he : S.err ≠ 0
      · rw [show S.write (k : Int) bs = S.step from by unfold Dst.write; rw [if_neg hno, if_pos he]]
        obtain ⟨er, her⟩ : ∃ e, Hid (e = S.err) := ⟨_, rfl⟩
        rw [← her.out] at he hst ⊢
        go_enter Try.func35, Try.ntmps35
        go_wp2_with fail
        refine hh.mono ?_
        rintro e w1 ⟨rfl, rfl⟩
        clear hh
        go_wp2_with fail
        refine hst.mono ?_
        rintro e w1 ⟨rfl, hr⟩
        have HR := hid hr
        clear hst hr
        go_wp2
        go_ret
        exact ⟨rfl, HR.out⟩
      · have he0 : S.err = 0 := by simpa using he
        have hwe : S.write (k : Int) bs = S.step.put k bs := by unfold Dst.write; rw [if_neg hno, if_neg he, Int.toNat_natCast]
        have hokw := Dst.ok_write h.ok (k : Int) ho
        rw [hwe] at hokw ⊢
        have HOK := hid hokw
        rw [he0] at hst ⊢
        clear he he0 hwe hokw hno
        have HCP := hid (fun (wx : World) (hx : Bin wx p bs) => copy_256 p c bs wx hx hl)
        have HBL := hid hl
        have HP0 := hid hp
        have HH := hid h
        have hF' := hF
        clear hp hl hi0 hi1 hF h
        go_enter Try.func35, Try.ntmps35
        go_wp2_with fail
        refine hh.mono ?_
        rintro e w0 ⟨rfl, rfl⟩
        clear hh
        go_wp2_with fail
        refine hst.mono ?_
        rintro e w1 ⟨rfl, F1, hr1, ht1, hn1⟩
        have HN1 := hid hn1
        have HT1 := hid ht1
        have HP1 := hid (HP0.out.tb ht1 (fun a ha => hF' a ha (by decide)))
        have HPF : Hid (∀ a, p = some a → ¬ F1 a.block) := hid (fun a ha h => by
          rcases hn1 _ h with h2 | h2
          · exact hF' a ha (by decide) h2
          · obtain ⟨b', o', e', hb', _⟩ := HP0.out.at (by rw [HBL.out]; decide)
            rw [ha] at e'; injection e' with e3; rw [e3] at h2; exact absurd hb' (Nat.not_lt.2 h2))
        have HTB : Hid (∀ (W : World), Tb F w W → B ≤ W.heap.size) := hid (fun W t => Nat.le_trans (HH.out.le) t.size)
        obtain ⟨vN, VN, vF, VF, vW, VW, hv⟩ := hr1.at'
        have hkN : k < S.step.n := by rw [Dst.step_n]; exact hi2
        obtain ⟨bN, cN, rfl, _⟩ := hv.rN.isSlice (by omega)
        have HV1 := hid hv
        obtain ⟨N, hN⟩ : ∃ n, Hid (n = S.step.n) := ⟨_, rfl⟩
        obtain ⟨M, hM⟩ : ∃ n, Hid (n = S.step.ws.length) := ⟨_, rfl⟩
        have HM : Hid (M = S.step.ws.length) := hM
        have hM2 : M < 4294967296 := by rw [hM.out, Dst.step_ws]; exact hw
        rw [← hN.out] at hkN
        have hkI : (k : Int) < (N : Int) := by omega
        rw [show S.step.n = N from hN.out.symm] at HV1
        clear hst hv hr1 ht1 hn1
        go_upto_region 6 with fail
        have hS0 : (fun v => v.cell? ⟨g, 0, none⟩ = some (.slice (some ⟨bN, 0, none⟩) N cN)) w1.drew := (HV1.out.below ((Below.refl _ _).drew)).c0
        have HV2 := hid (HV1.out.below ((Below.refl _ _).drew))
        have HP2 := hid (HP1.out.below ((Below.refl _ _).drew))
        have HT2 := hid (HT1.out.drew)
        clear HV1 HP1 HT1
        refine wp_region_z (fun v => v.cell? ⟨g, 0, none⟩ = some (.slice (some ⟨bN, 0, none⟩) N cN)) 9 (by kernel_rfl) hS0 (fun hS => ?_)
        clear hS0
        generalize World.drew _ = w2 at hS HV2 HP2 HT2 ⊢
        refine wpAnyZ_take (i := 0) (v := .pointer (some ⟨g, 0, none⟩)) rfl (by kernel_rfl) (by kernel_rfl) (by kernel_rfl) (by kernel_rfl) (fun _ _ _ h => h) hS (Or.inl ⟨by kernel_rfl, fun w hS => (by clear hS; go_simp)⟩) ?_
        simp only [Act.put, List.setIfInBounds_toArray, List.set_cons_zero, List.set_cons_succ]
        refine wpAnyZ_take (i := 1) (v := .pointer (some ⟨g, 0, none⟩)) rfl (by kernel_rfl) (by kernel_rfl) (by kernel_rfl) (by kernel_rfl) (fun _ _ _ h => h) hS (Or.inl ⟨by kernel_rfl, fun w hS => (by clear hS; go_simp)⟩) ?_
        simp only [Act.put, List.setIfInBounds_toArray, List.set_cons_zero, List.set_cons_succ]
        refine wpAnyZ_take (i := 2) (v := .pointer (some ⟨g, 0, none⟩)) rfl (by kernel_rfl) (by kernel_rfl) (by kernel_rfl) (by kernel_rfl) (fun _ _ _ h => h) hS (Or.inl ⟨by kernel_rfl, fun w hS => (by clear hS; go_simp)⟩) ?_
        simp only [Act.put, List.setIfInBounds_toArray, List.set_cons_zero, List.set_cons_succ]
        refine wpAnyZ_take (i := 3) (v := .slice (some ⟨bN, 0, none⟩) N cN) rfl (by kernel_rfl) (by kernel_rfl) (by kernel_rfl) (by kernel_rfl) (fun _ _ _ h => h) hS (Or.inl ⟨by kernel_rfl, fun w hS => (by have hc := hS; clear hS; go_simp)⟩) ?_
        simp only [Act.put, List.setIfInBounds_toArray, List.set_cons_zero, List.set_cons_succ]
        refine wpAnyZ_take (i := 4) (v := .int .i64 (k : Nat)) rfl (by kernel_rfl) (by kernel_rfl) (by kernel_rfl) (by kernel_rfl) (fun _ _ _ h => h) hS (Or.inl ⟨by kernel_rfl, fun w hS => (by clear hS; go_simp)⟩) ?_
        simp only [Act.put, List.setIfInBounds_toArray, List.set_cons_zero, List.set_cons_succ]
        refine wpAnyZ_take (i := 5) (v := .slice p 256 c) rfl (by kernel_rfl) (by kernel_rfl) (by kernel_rfl) (by kernel_rfl) (fun _ _ _ h => h) hS (Or.inl ⟨by kernel_rfl, fun w hS => (by clear hS; go_simp)⟩) ?_
        simp only [Act.put, List.setIfInBounds_toArray, List.set_cons_zero, List.set_cons_succ]
        refine wpAnyZ_one (i := 6) (by kernel_rfl) rfl (fun K hK => ?_)
        go_simp
        go_at_call 10
        refine (HCP.out w2 HP2.out).mono ?_
        rintro e v8 ⟨g8, c8, rfl, hO8, hb8⟩
        replace hS := (HV2.out.below hb8).c0
        have hg8 := World.ownsRow.lt hO8 g8 rfl
        have hn8 : ¬ F1 g8 := fun h => by have := (HV2.out.lt g8 h).2; omega
        have HV3 := hid ((HV2.out.below hb8).putN (k := k) rfl hkN (hO8.mono (HTB.out _ HT2.out)) rfl hn8)
        have HC3 := hid (And.intro ((HV2.out.below hb8).rN.cellAt k hkN) (World.ownsRow.frozenAt (HV2.out.below hb8).rN.out k))
        have HT3 := hid ((HT2.out.below hb8).setCell (b := bN) (HN1.out bN (HV2.out.fN bN (.inl rfl)).1) k (.slice (some ⟨g8, 0, none⟩) 256 c8))
        have HP3 := hid ((HP2.out.below hb8).tb (F := fun q => q = bN) (w' := v8.setCell ⟨bN, k, none⟩ (.slice (some ⟨g8, 0, none⟩) 256 c8)) (Tb.setCell (F := fun q => q = bN) (b := bN) (Tb.refl _ v8) (.inl rfl) k _) (fun a ha e => HPF.out a ha (e ▸ (HV2.out.fN bN (.inl rfl)).1)))
        have HGN : Hid (¬ g = g8) := hid (fun e => hn8 (e ▸ HV2.out.fg))
        have HN3 : Hid (∀ q, (F1 q ∨ q = g8) → F q ∨ w.heap.size ≤ q) := hid (fun q hq => by
          rcases hq with h1 | rfl
          · exact HN1.out q h1
          · have := HT2.out.size; exact .inr (by omega))
        have HPF3 : Hid (∀ a, p = some a → ¬ (F1 a.block ∨ a.block = g8)) := hid (fun a ha h => by
          rcases h with h1 | h1
          · exact HPF.out a ha h1
          · obtain ⟨b', o', e', hb', _⟩ := HP2.out.at (by rw [HBL.out]; decide)
            rw [ha] at e'; injection e' with e2; rw [e2] at h1; show False; simp only at h1; omega)
        have hS3 : v8.cell? ⟨g, 0, none⟩ = some (.slice (some ⟨bN, 0, none⟩) N cN) := hS
        have HS3 := hid HV3.out.c0
        clear hO8 hb8 HV2 HP2 HT2 hg8 hn8
        go_wp2_with fail
        refine hK.out _ _ (fun _ => hS) ?_
        clear hK K
        try simp only [Act.put, List.setIfInBounds_toArray, List.set_cons_zero, List.set_cons_succ]
        refine wpAnyZ_take (i := 7) (v := .pointer (some ⟨bN, k, none⟩)) rfl (by kernel_rfl) (by kernel_rfl) (by kernel_rfl) (by kernel_rfl) (fun _ _ _ h => h) hS (Or.inl ⟨by kernel_rfl, fun w hS => (by clear hS; go_simp)⟩) ?_
        simp only [Act.put, List.setIfInBounds_toArray, List.set_cons_zero, List.set_cons_succ]
        refine wpAnyZ_one (i := 8) (by kernel_rfl) rfl (fun K hK => ?_)
        obtain ⟨hcc, hff⟩ := HC3.out
        go_simp
        refine hK.out _ _ (fun _ => HS3.out) ?_
        clear hK K hcc hff
        try simp only [Act.put, List.setIfInBounds_toArray, List.set_cons_zero, List.set_cons_succ]
        refine wpAnyZ_done (by kernel_rfl) ?_ _
        clear hS HC3 HS3 hS3
        have HGG : Hid (¬ g = g8) := hid (fun e => HGN.out e)
        generalize World.setCell v8 ⟨bN, k, none⟩ (.slice (some ⟨g8, 0, none⟩) 256 c8) = w3 at HV3 HT3 HP3 ⊢
        go_upto_region 7 with fail
        have hS0 : (fun v => v.cell? ⟨g, 2, none⟩ = some vW) w3.drew := (HV3.out.below ((Below.refl _ _).drew)).c2
        have HV4 := hid (HV3.out.below ((Below.refl _ _).drew))
        have HP4 := hid (HP3.out.below ((Below.refl _ _).drew))
        have HT4 := hid (HT3.out.drew)
        clear HV3 HP3 HT3
        refine wp_region_z (fun v => v.cell? ⟨g, 2, none⟩ = some vW) 13 (by kernel_rfl) hS0 (fun hS => ?_)
        clear hS0
        generalize World.drew _ = w4 at hS HV4 HP4 HT4 ⊢
        refine wpAnyZ_take (i := 0) (v := .pointer (some ⟨g, 0, none⟩)) rfl (by kernel_rfl) (by kernel_rfl) (by kernel_rfl) (by kernel_rfl) (fun _ _ _ h => h) hS (Or.inl ⟨by kernel_rfl, fun w hS => (by clear hS; go_simp)⟩) ?_
        simp only [Act.put, List.setIfInBounds_toArray, List.set_cons_zero, List.set_cons_succ]
        refine wpAnyZ_take (i := 1) (v := .pointer (some ⟨g, 0, none⟩)) rfl (by kernel_rfl) (by kernel_rfl) (by kernel_rfl) (by kernel_rfl) (fun _ _ _ h => h) hS (Or.inl ⟨by kernel_rfl, fun w hS => (by clear hS; go_simp)⟩) ?_
        simp only [Act.put, List.setIfInBounds_toArray, List.set_cons_zero, List.set_cons_succ]
        refine wpAnyZ_take (i := 2) (v := .pointer (some ⟨g, 0, none⟩)) rfl (by kernel_rfl) (by kernel_rfl) (by kernel_rfl) (by kernel_rfl) (fun _ _ _ h => h) hS (Or.inl ⟨by kernel_rfl, fun w hS => (by clear hS; go_simp)⟩) ?_
        simp only [Act.put, List.setIfInBounds_toArray, List.set_cons_zero, List.set_cons_succ]
        refine wpAnyZ_take (i := 3) (v := .pointer (some ⟨g, 2, none⟩)) rfl (by kernel_rfl) (by kernel_rfl) (by kernel_rfl) (by kernel_rfl) (fun _ _ _ h => h) hS (Or.inl ⟨by kernel_rfl, fun w hS => (by clear hS; go_simp)⟩) ?_
        simp only [Act.put, List.setIfInBounds_toArray, List.set_cons_zero, List.set_cons_succ]
        refine wpAnyZ_take (i := 4) (v := vW) rfl (by kernel_rfl) (by kernel_rfl) (by kernel_rfl) (by kernel_rfl) (fun _ _ _ h => h) hS (Or.inl ⟨by kernel_rfl, fun w hS => (by have hc := hS; clear hS; go_simp)⟩) ?_
        simp only [Act.put, List.setIfInBounds_toArray, List.set_cons_zero, List.set_cons_succ]
        refine wpAnyZ_take (i := 5) (v := .int .i64 (k : Nat)) rfl (by kernel_rfl) (by kernel_rfl) (by kernel_rfl) (by kernel_rfl) (fun _ _ _ h => h) hS (Or.inl ⟨by kernel_rfl, fun w hS => (by clear hS; go_simp)⟩) ?_
        simp only [Act.put, List.setIfInBounds_toArray, List.set_cons_zero, List.set_cons_succ]
        refine wpAnyZ_take (i := 6) (v := .slice p 256 c) rfl (by kernel_rfl) (by kernel_rfl) (by kernel_rfl) (by kernel_rfl) (fun _ _ _ h => h) hS (Or.inl ⟨by kernel_rfl, fun w hS => (by clear hS; go_simp)⟩) ?_
        simp only [Act.put, List.setIfInBounds_toArray, List.set_cons_zero, List.set_cons_succ]
        refine wpAnyZ_one (i := 7) (by kernel_rfl) rfl (fun K hK => ?_)
        go_simp
        go_at_call 10
        refine (HCP.out w4 HP4.out).mono ?_
        rintro e v5 ⟨g5, c5, rfl, hO5, hb5⟩
        replace hS := (HV4.out.below hb5).c2
        have hg5 := World.ownsRow.lt hO5 g5 rfl
        have HN5 : Hid (¬ (F1 g5 ∨ g5 = g8)) := hid (fun h => by have := (HV4.out.lt g5 h).2; omega)
        have HG5 : Hid (w.heap.size ≤ g5) := hid (by have := HT4.out.size; omega)
        have HV5 := hid (HV4.out.below hb5)
        have HT5 := hid (HT4.out.below hb5)
        have HO5 := hid (Own.mono hO5 (HTB.out _ HT4.out))
        clear hO5 hb5 HV4 HP4 HT4 hg5
        go_wp2_with fail
        refine hK.out _ _ (fun _ => hS) ?_
        clear hK K
        try simp only [Act.put, List.setIfInBounds_toArray, List.set_cons_zero, List.set_cons_succ]
        refine wpAnyZ_take (i := 8) (v := .agg #[.int .i64 (k : Nat), .slice (some ⟨g5, 0, none⟩) 256 c5]) rfl (by kernel_rfl) (by kernel_rfl) (by kernel_rfl) (by kernel_rfl) (fun _ _ _ h => h) hS (Or.inl ⟨by kernel_rfl, fun w hS => (by clear hS; go_simp)⟩) ?_
        simp only [Act.put, List.setIfInBounds_toArray, List.set_cons_zero, List.set_cons_succ]
        have hbl : Below v5.heap.size v5 (World.alloc v5 (.cells #[.int .i64 (k : Nat), .slice (some ⟨g5, 0, none⟩) 256 c5] 86)) := (Below.refl _ _).alloc (Nat.le_refl _) _
        have HNW := hid (two_cells v5 (.int .i64 (k : Nat)) (.slice (some ⟨g5, 0, none⟩) 256 c5) 86)
        have HV6 := hid (HV5.out.below hbl)
        have HT6 := hid (HT5.out.below hbl)
        have HO6 := hid (HO5.out.below hbl)
        have HS6 := hid HV6.out.c2
        clear hbl HV5 HT5 HO5
        refine wpAnyZ_one (i := 9) (by kernel_rfl) rfl (fun K hK => ?_)
        go_simp
        refine hK.out _ _ (fun _ => HS6.out) ?_
        clear hK K
        try simp only [Act.put, List.setIfInBounds_toArray, List.set_cons_zero, List.set_cons_succ]
        clear hS
        obtain ⟨g6, hg6⟩ : ∃ g, Hid (g = v5.heap.size) := ⟨_, rfl⟩
        rw [← hg6.out] at HNW ⊢
        generalize World.alloc v5 (.cells #[.int .i64 (k : Nat), .slice (some ⟨g5, 0, none⟩) 256 c5] 86) = v6 at HNW HV6 HT6 HO6 HS6 ⊢
        have hS := HS6.out
        clear HS6 hg6
        have hrow := HV6.out.rW.out
        rw [← HM.out] at hrow
        have HROW := hid hrow
        clear hrow
        refine wpAnyZ_one (i := 10) (by kernel_rfl) rfl (fun K hK => ?_)
        refine step_append_lies _ rfl (.tmp 34) (.tmp 39) 56 rfl B 86 i0 (.agg #[.int .i64 0, .slice none 0 0]) 2 32 Try.underlying56 hi hz0 hz1 hz2 rfl (by decide) vW M _ rfl (by exact HROW.out) ⟨g6, 0, none⟩ 1 1 [.int .i64 (k : Nat), .slice (some ⟨g5, 0, none⟩) 256 c5] rfl rfl (by exact HNW.out) (fun u hu => by (simp at hu); (rcases hu with rfl | rfl <;> rfl)) (by decide) (by unfold maxLen; omega) (by omega) (HTB.out _ HT6.out) _ rfl ?_
        intro g9 cap9 w9 hown hgrow hat hlt9
        have hat' : (Value.slice (some ⟨g9, 0, none⟩) (M + 1) cap9).ownBlock = vW.ownBlock ∨ (Value.slice (some ⟨g9, 0, none⟩) (M + 1) cap9).ownBlock = some v6.heap.size := by
          rcases hat with h1 | h1
          · exact .inl h1.symm
          · exact .inr (congrArg some h1)
        have hH2 : v6.heap.size < w9.heap.size ∨ (Value.slice (some ⟨g9, 0, none⟩) (M + 1) cap9).ownBlock = vW.ownBlock := by
          rcases hat with h1 | h1
          · exact .inr h1.symm
          · exact .inl (by rw [← h1]; exact hlt9)
        have HV9 := hid (HV6.out.snoc (v' := .slice (some ⟨g9, 0, none⟩) (M + 1) cap9) (a := k) hgrow (by have h9 := hown; rw [HM.out] at h9 ⊢; exact h9) HO6.out rfl HN5.out hat' (Nat.le_refl _) hH2)
        have t9 : Tb F w w9 := HT6.out.grown hgrow (fun q hq hlt => (HN3.out q (HV6.out.fW q (.inl hq)).1).elim id (fun h => by omega))
        have HT9 := hid (t9.setCell (b := g) (HN1.out g (HV6.out.fg.elim id (fun h => absurd h HGG.out))) 2 (.slice (some ⟨g9, 0, none⟩) (M + 1) cap9))
        have hc9 : w9.cell? ⟨g, 2, none⟩ = some vW ∧ w9.frozen? ⟨g, 2, none⟩ = false := by
          have tg : Tb (fun q => vW.ownBlock = some q) v6 w9 := Tb.of_grown hgrow fun q e => e
          have hgn : ¬ vW.ownBlock = some g := fun e => (HV6.out.fW g (.inl e)).2 rfl
          have hgl := (HV6.out.lt g HV6.out.fg).2
          exact ⟨(tg.cell (p := ⟨g, 2, none⟩) hgl hgn).trans HV6.out.c2, (tg.frozen (p := ⟨g, 2, none⟩) hgl hgn).trans (HV6.out.z 2 (by decide))⟩
        have HC9 := hid hc9
        have HNF : Hid (∀ q, ((F1 q ∨ q = g8) ∨ q = g5 ∨ (Value.slice (some ⟨g9, 0, none⟩) (M + 1) cap9).ownBlock = some q) → F q ∨ w.heap.size ≤ q) := hid (fun q hq => by
          rcases hq with h1 | rfl | h1
          · exact HN3.out q h1
          · exact .inr HG5.out
          · rcases hat' with h2 | h2
            · exact HN3.out q (HV6.out.fW q (.inl (h2.symm.trans h1))).1
            · have h3 := Option.some.inj (h2.symm.trans h1); have := HT6.out.size; exact .inr (by omega))
        have hS9 : w9.cell? ⟨g, 2, none⟩ = some vW := hc9.1
        clear hown hgrow hat hat' hH2 t9 hc9 hS HV6 HT6 HO6 HROW
        have hS := hS9
        clear hS9
        refine hK.out _ _ (fun _ => hS) ?_
        clear hK K
        try simp only [Act.put, List.setIfInBounds_toArray, List.set_cons_zero, List.set_cons_succ]
        refine wpAnyZ_one (i := 11) (by kernel_rfl) rfl (fun K hK => ?_)
        go_simp
        refine hK.out _ _ (fun _ => hS) ?_
        clear hK K
        try simp only [Act.put, List.setIfInBounds_toArray, List.set_cons_zero, List.set_cons_succ]; try simp only [List.getElem_toArray, List.getElem_cons_succ, List.getElem_cons_zero]
        refine wpAnyZ_take (i := 12) (v := .pointer (some ⟨g, 2, none⟩)) rfl (by kernel_rfl) (by kernel_rfl) (by kernel_rfl) (by kernel_rfl) (fun _ _ _ h => h) hS (Or.inl ⟨by kernel_rfl, fun w hS => (by clear hS; go_simp)⟩) ?_
        simp only [Act.put, List.setIfInBounds_toArray, List.set_cons_zero, List.set_cons_succ]; try simp only [List.getElem_toArray, List.getElem_cons_succ, List.getElem_cons_zero]
        refine wpAnyZ_one (i := 13) (by kernel_rfl) rfl (fun K hK => ?_)
        obtain ⟨hcc, hff⟩ := HC9.out
        clear hS
        go_simp
        refine hK.out _ _ (fun h => absurd h (by decide)) ?_
        clear hK K hcc hff
        try simp only [Act.put, List.setIfInBounds_toArray, List.set_cons_zero, List.set_cons_succ]
        refine wpAnyZ_done (by kernel_rfl) ?_ _
        have HVF := hid HV9.out
        clear HV9
        go_wp2
        go_ret
        have hf := HVF.out.rdk
        rw [hN.out] at hf
        exact ⟨rfl, _, ⟨HOK.out, hf⟩, HT9.out, HNF.out⟩
    · have h2' : ¬ (n : Int) = 256 := by omega
      have h2l : bs.length ≠ 256 := by omega
      rw [if_pos (Or.inr h2l), show S.write i bs = S from if_pos (Or.inr h2l)]
      have H := hid h
      go_enter Try.func35, Try.ntmps35
      go_wp2_with fail
      refine hh.mono ?_
      rintro e w1 ⟨rfl, rfl⟩
      go_wp2
      go_ret
      exact ⟨rfl, F, H.out, Tb.refl _ _, fun q hq => .inl hq⟩
end Go.Proofs.Ytlbhoijjbpjmoaa
