/-
  The document's registers: New.
-/
import Derived.Test.YtlbhoijjbpjmoaaRr
import Derived.Test.YtlbhoijjbpjmoaaRdn
namespace Go.Proofs.Ytlbhoijjbpjmoaa
open Go.RowKit
set_option linter.unusedVariables false
set_option linter.unusedSimpArgs false

/-- Rows of bytes that are handed in. -/
def Ins (w : World) (a : Option Addr) (n : Nat) (Fr : Nat → Option Addr × Nat × List Int) : Prop :=
  (0 < n → ∃ b o, a = some ⟨b, o, none⟩ ∧ ∀ i, i < n → w.cell? ⟨b, o + i, none⟩ = some (.slice (Fr i).1 (Fr i).2.2.length (Fr i).2.1)) ∧ ∀ i, i < n → Bin w (Fr i).1 (Fr i).2.2 ∧ Oct (Fr i).2.2 ∧ (Fr i).2.2.length ≤ (Fr i).2.1 ∧ (Fr i).2.2.length ≤ 140737488351232
theorem Ins.below {w w' : World} {a : Option Addr} {n : Nat} {Fr : Nat → Option Addr × Nat × List Int} (h : Ins w a n Fr) (hb : Below w.heap.size w w') : Ins w' a n Fr :=
  ⟨fun hn => by
    obtain ⟨b, o, e, hc⟩ := h.1 hn
    exact ⟨b, o, e, fun i hi => (hb.cell (p := ⟨b, o + i, none⟩) (World.block_lt_of_cell? _ _ (hc i hi))).trans (hc i hi)⟩, fun i hi => ⟨(h.2 i hi).1.below hb, (h.2 i hi).2⟩⟩
/-- Five cells at the head of block g. -/
structure Sv5 (w : World) (g : Nat) (v0 v1 v2 v3 v4 : Value) : Prop where
  c0 : w.cell? ⟨g, 0, none⟩ = some v0
  c1 : w.cell? ⟨g, 1, none⟩ = some v1
  c2 : w.cell? ⟨g, 2, none⟩ = some v2
  c3 : w.cell? ⟨g, 3, none⟩ = some v3
  c4 : w.cell? ⟨g, 4, none⟩ = some v4
  z : ∀ j, j < 5 → w.frozen? ⟨g, j, none⟩ = false
section
variable {w w' : World} {g : Nat} {v0 v1 v2 v3 v4 : Value}
theorem Sv5.new (w : World) (v0 v1 v2 v3 v4 : Value) (t : TypeId) : Sv5 (w.alloc (.cells #[v0, v1, v2, v3, v4] t)) w.heap.size v0 v1 v2 v3 v4 := ⟨by simp, by simp, by simp, by simp, by simp, fun j _ => by simp⟩
theorem Sv5.lt (h : Sv5 w g v0 v1 v2 v3 v4) : g < w.heap.size := World.block_lt_of_cell? w _ h.c0
theorem Sv5.tb {F : Nat → Prop} (h : Sv5 w g v0 v1 v2 v3 v4) (ht : Tb F w w') (hn : ¬ F g) : Sv5 w' g v0 v1 v2 v3 v4 := by
  have hc : ∀ j, w'.cell? ⟨g, j, none⟩ = w.cell? ⟨g, j, none⟩ := fun j => ht.cell (p := ⟨g, j, none⟩) h.lt hn
  exact ⟨(hc 0).trans h.c0, (hc 1).trans h.c1, (hc 2).trans h.c2, (hc 3).trans h.c3, (hc 4).trans h.c4, fun j hj => (ht.frozen (p := ⟨g, j, none⟩) h.lt hn).trans (h.z j hj)⟩
theorem Sv5.below (h : Sv5 w g v0 v1 v2 v3 v4) (hb : Below w.heap.size w w') : Sv5 w' g v0 v1 v2 v3 v4 := h.tb (F := fun _ => False) (Tb.of_below hb) fun h => h
theorem Sv5.set4 (h : Sv5 w g v0 v1 v2 v3 v4) (u : Value) : Sv5 (w.setCell ⟨g, 4, none⟩ u) g v0 v1 v2 v3 u := by
  have hc : ∀ j, j ≠ 4 → (w.setCell ⟨g, 4, none⟩ u).cell? ⟨g, j, none⟩ = w.cell? ⟨g, j, none⟩ := fun j hj => World.cell?_setCell_other w _ _ _ (fun e0 => hj (Addr.mk.inj e0).2.1.symm)
  exact ⟨(hc 0 (by decide)).trans h.c0, (hc 1 (by decide)).trans h.c1, (hc 2 (by decide)).trans h.c2, (hc 3 (by decide)).trans h.c3, World.cell?_setCell_same w _ _ h.c4, fun j hj => (World.frozen?_setCell w _ _ _).trans (h.z j hj)⟩
end
/-- Registers out of their parts. -/
theorem Sv5.rrg {w : World} {g gd lim n : Nat} {v : Value} {V : Nat → Value} {D : Nat → List Int} (h : Sv5 w g (.pointer (some ⟨gd, 0, none⟩)) (.int .u64 (lim : Nat)) (.int .u64 0) (.int .u64 0) v) (hr : Rowu (g + 1) w v n V D) (ho : ∀ i, i < n → Oct (D i)) (hl : lim ≤ 18446744073709551615) :
    ∃ F, RRg g w g F gd ⟨lim, 0, 0, (List.range n).map D⟩ := by
  obtain ⟨p, c, rfl, hd⟩ := hr.drs ho
  have hlt : ∀ q, Rowu.has (.slice p n c) n V q → g + 1 ≤ q ∧ q < w.heap.size := hr.lt
  refine ⟨fun q => q = g ∨ Rowu.has (.slice p n c) n V q, ⟨hl, Nat.zero_le _, Nat.le_refl _, fun x hx => ?_⟩, p, c, h.c0, h.c1, h.c2, h.c3, ?_, h.z, hd.mono fun q hq => ⟨.inr hq, fun e => by have := (hlt q hq).1; omega⟩, .inl rfl, fun q hq => ?_⟩
  · obtain ⟨i, hi, rfl⟩ := List.mem_map.1 hx
    exact ho i (List.mem_range.1 hi)
  · show w.cell? ⟨g, 4, none⟩ = some (.slice p ((List.range n).map D).length c)
    rw [List.length_map, List.length_range]
    exact h.c4
  · rcases hq with rfl | hq
    · exact ⟨Nat.le_refl _, h.lt⟩
    · have := hlt q hq
      exact ⟨by omega, this.2⟩

set_option maxHeartbeats 16000000 in
set_option maxRecDepth 100000 in
theorem rrNew_of (gd lim n cl : Nat) (a : Option Addr) (Fr : Nat → Option Addr × Nat × List Int) (w : World) (hlim : lim ≤ 18446744073709551615) (hn : n ≤ 1000000) (hin : Ins w a n Fr) :
    Calls Try.prog 13 #[.pointer (some ⟨gd, 0, none⟩), .int .u64 (lim : Nat), .slice a n cl] w fun e w' => ∃ g F, e = .returned (.pointer (some ⟨g, 0, none⟩)) ∧ RRg w.heap.size w' g F gd ⟨lim, 0, 0, (List.range n).map fun i => (Fr i).2.2⟩ ∧ Below w.heap.size w w' := by
  obtain ⟨j0, hj, hy0, hy1, hy2⟩ := info_parts Try.infoBytes
  obtain ⟨D, hD⟩ : ∃ D : Nat → List Int, Hid (D = fun i => (Fr i).2.2) := ⟨_, rfl⟩
  obtain ⟨wa, hwa⟩ : ∃ wa, Hid (wa = w.alloc (.cells #[.pointer (some ⟨gd, 0, none⟩), .int .u64 (lim : Nat), .int .u64 0, .int .u64 0, .slice none 0 0] 54)) := ⟨_, rfl⟩
  have HV0 : Hid (Sv5 wa w.heap.size (.pointer (some ⟨gd, 0, none⟩)) (.int .u64 (lim : Nat)) (.int .u64 0) (.int .u64 0) (.slice none 0 0)) := hid (by rw [hwa.out]; exact Sv5.new _ _ _ _ _ _ _)
  have HT0 : Hid (Below w.heap.size w wa) := hid (by rw [hwa.out]; exact (Below.refl _ _).alloc (Nat.le_refl _) _)
  obtain ⟨g, hg⟩ : ∃ g, Hid (g = w.heap.size) := ⟨_, rfl⟩
  have HG : Hid (g = w.heap.size) := hg
  rw [← hg.out] at HV0
  have HIN := hid hin
  have HOC := hid (fun i (hi : i < n) => (hin.2 i hi).2.1)
  clear hin
  go_enter Try.func13, Try.ntmps13
  go_upto_region 2 with fail
  rw [← hwa.out, ← hg.out]
  clear hwa hg
  go_wp2_with fail
  go_loopw [8] (fun i wr => ∃ (k : Nat) (vD : Value) (V : Nat → Value), k ≤ n ∧ i = .int .i64 (k : Int) ∧ Sv5 wr g (.pointer (some ⟨gd, 0, none⟩)) (.int .u64 (lim : Nat)) (.int .u64 0) (.int .u64 0) vD ∧ Rowu (g + 1) wr vD k V (fun i => (Fr i).2.2) ∧ Below w.heap.size w wr) (fun i _ => n - (intOf i).toNat)
  case atStart => exact ⟨0, _, fun _ => .slice none 0 0, Nat.zero_le _, rfl, HV0.out, Rowu.nil _ _ _ _, HT0.out⟩
  case round =>
    clear HV0 HT0
    obtain ⟨k, vD, V, hk, rfl, hv, hr, ht⟩ := hrel
    have HV := hid hv
    have HR := hid hr
    have HT := hid ht
    clear hv hr ht
    by_cases hkn : k < n
    · have kI : (k : Int) < (n : Int) := by omega
      have hin' := HIN.out.below HT.out
      obtain ⟨bA, oA, ea, hca⟩ := hin'.1 (by omega)
      subst ea
      have hck := hca k hkn
      have HBA : Hid (bA < w.heap.size) := hid (by obtain ⟨b', o', e', hc'⟩ := HIN.out.1 (by omega); cases e'; exact World.block_lt_of_cell? _ _ (hc' k hkn))
      have hfk := hin'.2 k hkn
      obtain ⟨pk, lk, ck, hpk, HLK, hckk⟩ : ∃ p l c, (Fr k).1 = p ∧ Hid (l = (Fr k).2.2.length) ∧ (Fr k).2.1 = c := ⟨_, _, _, rfl, rfl, rfl⟩
      rw [hpk, hckk, ← HLK.out] at hck
      have HPK : Hid (∀ W, Ins W (some ⟨bA, oA, none⟩) n Fr → Bin W pk (Fr k).2.2) := hid (fun W h => hpk ▸ (h.2 k hkn).1)
      have HCP : Hid (∀ W, Bin W pk (Fr k).2.2 → Calls Try.prog 10 #[.slice pk lk ck] W fun e w' => ∃ g c, e = .returned (.slice (some ⟨g, 0, none⟩) lk c) ∧ Own W.heap.size w' (.slice (some ⟨g, 0, none⟩) lk c) lk (Fr k).2.2 ∧ Below W.heap.size W w') := hid (fun W h => by rw [HLK.out]; exact copy_any pk ck (Fr k).2.2 W h hfk.2.2.2)
      clear hca hfk hpk hckk
      go_upto_region 5 with fail
      have HV2 := hid (HV.out.below ((Below.refl _ _).drew))
      have HR2 := hid (HR.out.below ((Below.refl _ _).drew))
      have HT2 := hid (HT.out.trans ((Below.refl wr.heap.size wr).drew.mono HT.out.size))
      have HI2 := hid (hin'.below ((Below.refl _ _).drew))
      have hck2 : wr.drew.cell? ⟨bA, oA + k, none⟩ = some (.slice pk lk ck) := hck
      have hS0 : (fun v => v.cell? ⟨g, 4, none⟩ = some vD ∧ v.cell? ⟨bA, oA + k, none⟩ = some (.slice pk lk ck)) wr.drew := ⟨HV2.out.c4, hck2⟩
      clear HV HR HT hck hck2 hin'
      refine wp_region_z (fun v => v.cell? ⟨g, 4, none⟩ = some vD ∧ v.cell? ⟨bA, oA + k, none⟩ = some (.slice pk lk ck)) 10 (by kernel_rfl) hS0 (fun hS => ?_)
      clear hS0
      generalize World.drew _ = w2 at hS HV2 HR2 HT2 HI2 ⊢
      refine wpAnyZ_take (i := 0) (v := .pointer (some ⟨g, 4, none⟩)) rfl (by kernel_rfl) (by kernel_rfl) (by kernel_rfl) (by kernel_rfl) (fun _ _ _ h => h) hS (Or.inl ⟨by kernel_rfl, fun w hS => (by clear hS; go_simp)⟩) ?_
      simp only [Act.put, List.setIfInBounds_toArray, List.set_cons_zero, List.set_cons_succ, List.getElem_toArray, List.getElem_cons_succ, List.getElem_cons_zero]
      refine wpAnyZ_take (i := 1) (v := vD) rfl (by kernel_rfl) (by kernel_rfl) (by kernel_rfl) (by kernel_rfl) (fun _ _ _ h => h) hS (Or.inl ⟨by kernel_rfl, fun w hS => (by have hc := hS.1; clear hS; go_simp)⟩) ?_
      simp only [Act.put, List.setIfInBounds_toArray, List.set_cons_zero, List.set_cons_succ, List.getElem_toArray, List.getElem_cons_succ, List.getElem_cons_zero]
      refine wpAnyZ_take (i := 2) (v := .slice (some ⟨bA, oA, none⟩) n cl) rfl (by kernel_rfl) (by kernel_rfl) (by kernel_rfl) (by kernel_rfl) (fun _ _ _ h => h) hS (Or.inl ⟨by kernel_rfl, fun w hS => (by clear hS; go_simp)⟩) ?_
      simp only [Act.put, List.setIfInBounds_toArray, List.set_cons_zero, List.set_cons_succ, List.getElem_toArray, List.getElem_cons_succ, List.getElem_cons_zero]
      refine wpAnyZ_take (i := 3) (v := .int .i64 (k : Nat)) rfl (by kernel_rfl) (by kernel_rfl) (by kernel_rfl) (by kernel_rfl) (fun _ _ _ h => h) hS (Or.inl ⟨by kernel_rfl, fun w hS => (by clear hS; go_simp)⟩) ?_
      simp only [Act.put, List.setIfInBounds_toArray, List.set_cons_zero, List.set_cons_succ, List.getElem_toArray, List.getElem_cons_succ, List.getElem_cons_zero]
      refine wpAnyZ_take (i := 4) (v := .pointer (some ⟨bA, oA + k, none⟩)) rfl (by kernel_rfl) (by kernel_rfl) (by kernel_rfl) (by kernel_rfl) (fun _ _ _ h => h) hS (Or.inl ⟨by kernel_rfl, fun w hS => (by clear hS; go_simp)⟩) ?_
      simp only [Act.put, List.setIfInBounds_toArray, List.set_cons_zero, List.set_cons_succ, List.getElem_toArray, List.getElem_cons_succ, List.getElem_cons_zero]
      refine wpAnyZ_take (i := 5) (v := .slice pk lk ck) rfl (by kernel_rfl) (by kernel_rfl) (by kernel_rfl) (by kernel_rfl) (fun _ _ _ h => h) hS (Or.inl ⟨by kernel_rfl, fun w hS => (by have hc := hS.2; clear hS; go_simp)⟩) ?_
      simp only [Act.put, List.setIfInBounds_toArray, List.set_cons_zero, List.set_cons_succ, List.getElem_toArray, List.getElem_cons_succ, List.getElem_cons_zero]
      refine wpAnyZ_one (i := 6) (by kernel_rfl) rfl (fun K hK => ?_)
      go_simp
      go_at_call 10
      refine (HCP.out w2 (HPK.out w2 HI2.out)).mono ?_
      rintro e v8 ⟨g8, c8, rfl, hO8, hb8⟩
      have HV3 := hid (HV2.out.below hb8)
      have HR3 := hid (HR2.out.below hb8)
      have HT3 := hid (HT2.out.trans (hb8.mono HT2.out.size))
      have HLg : Hid (w2.heap.size ≤ g8) := hid (World.ownsRow.lt hO8 g8 rfl).1
      have HL2 : Hid (∀ q, Rowu.has vD k V q → q < w2.heap.size) := hid (fun q hq => (HR2.out.lt q hq).2)
      have HO3 := hid (Own.mono hO8 (Nat.succ_le_of_lt HV2.out.lt))
      replace hS : (fun v => v.cell? ⟨g, 4, none⟩ = some vD ∧ v.cell? ⟨bA, oA + k, none⟩ = some (.slice pk lk ck)) v8 := ⟨HV3.out.c4, (hb8.cell (p := ⟨bA, oA + k, none⟩) (World.block_lt_of_cell? _ _ hS.2)).trans hS.2⟩
      clear hO8 hb8 HV2 HR2 HT2 HI2
      go_wp2_with fail
      refine hK.out _ _ (fun _ => hS) ?_
      clear hK K
      try simp only [Act.put, List.setIfInBounds_toArray, List.set_cons_zero, List.set_cons_succ, List.getElem_toArray, List.getElem_cons_succ, List.getElem_cons_zero]
      have hbl : Below v8.heap.size v8 (World.alloc v8 (.cells #[.slice (some ⟨g8, 0, none⟩) lk c8] 31)) := (Below.refl _ _).alloc (Nat.le_refl _) _
      have HNW := hid (one_cell v8 (.slice (some ⟨g8, 0, none⟩) lk c8) 31)
      have HV4 := hid (HV3.out.below hbl)
      have HR4 := hid (HR3.out.below hbl)
      have HT4 := hid (HT3.out.trans (hbl.mono HT3.out.size))
      have HO4 := hid (HO3.out.below hbl)
      have HS4 : Hid ((fun v => v.cell? ⟨g, 4, none⟩ = some vD ∧ v.cell? ⟨bA, oA + k, none⟩ = some (.slice pk lk ck)) (World.alloc v8 (.cells #[.slice (some ⟨g8, 0, none⟩) lk c8] 31))) := hid ⟨HV4.out.c4, (hbl.cell (p := ⟨bA, oA + k, none⟩) (World.block_lt_of_cell? _ _ hS.2)).trans hS.2⟩
      clear hbl HV3 HR3 HT3 HO3
      refine wpAnyZ_one (i := 7) (by kernel_rfl) rfl (fun K hK => ?_)
      go_simp
      refine hK.out _ _ (fun _ => HS4.out) ?_
      clear hK K
      try simp only [Act.put, List.setIfInBounds_toArray, List.set_cons_zero, List.set_cons_succ, List.getElem_toArray, List.getElem_cons_succ, List.getElem_cons_zero]
      clear hS
      obtain ⟨g6, hg6⟩ : ∃ g, Hid (g = v8.heap.size) := ⟨_, rfl⟩
      rw [← hg6.out] at HNW ⊢
      generalize World.alloc v8 (.cells #[.slice (some ⟨g8, 0, none⟩) lk c8] 31) = w4 at HNW HV4 HR4 HT4 HO4 HS4 ⊢
      have hS := HS4.out
      clear HS4 hg6
      have HROW := hid HR4.out.out
      refine wpAnyZ_one (i := 8) (by kernel_rfl) rfl (fun K hK => ?_)
      refine step_append_lies _ rfl (.tmp 19) (.tmp 25) 23 rfl (g + 1) 31 j0 (.slice none 0 0) 1 24 Try.underlying23 hj hy0 hy1 hy2 rfl (by decide) vD k _ rfl (by exact HROW.out) ⟨g6, 0, none⟩ 1 1 [.slice (some ⟨g8, 0, none⟩) lk c8] rfl rfl (by exact HNW.out) (fun u hu => by (rw [List.mem_singleton.1 hu]; rfl)) (by decide) (by unfold maxLen; omega) (by omega) (Nat.succ_le_of_lt HV4.out.lt) _ rfl ?_
      intro g9 cap9 w9 hown hgrow hat hlt9
      have hat' : (Value.slice (some ⟨g9, 0, none⟩) (k + 1) cap9).ownBlock = vD.ownBlock ∨ (Value.slice (some ⟨g9, 0, none⟩) (k + 1) cap9).ownBlock = some w4.heap.size := by
        rcases hat with h1 | h1
        · exact .inl h1.symm
        · exact .inr (congrArg some h1)
      have hr9 := HR4.out.snoc (xs := (Fr k).2.2) hgrow hown (by rw [← HLK.out]; exact HO4.out) (fun q e1 e2 => by have h1 := HL2.out q (.inl e2); have h2 := HLg.out; have h3 : g8 = q := Option.some.inj e1; omega) (fun i hi q e1 e2 => by have h1 := HL2.out q (.inr ⟨i, hi, e1⟩); have h2 := HLg.out; have h3 : g8 = q := Option.some.inj e2; omega) hat' (Nat.le_refl _)
      have tg : Tb (fun q => vD.ownBlock = some q) w4 w9 := Tb.of_grown hgrow fun q e => e
      have hgn : ¬ vD.ownBlock = some g := fun e => by have := (World.ownsRow.lt HROW.out g e).1; omega
      have HV9 := hid (HV4.out.tb tg hgn)
      have HT9 := hid (HT4.out.grown hgrow HT4.out.size (fun q hq => by have := (World.ownsRow.lt HROW.out q hq).1; have := HG.out; omega))
      have HR9 := hid (hr9.tb (F := fun q => q = g) (w' := w9.setCell ⟨g, 4, none⟩ (.slice (some ⟨g9, 0, none⟩) (k + 1) cap9)) (Tb.setCell (F := fun q => q = g) (b := g) (Tb.refl _ w9) (.inl rfl) 4 _) (fun q hq e => by have := (hr9.lt q hq).1; omega))
      replace hS : (fun v => v.cell? ⟨g, 4, none⟩ = some vD ∧ v.cell? ⟨bA, oA + k, none⟩ = some (.slice pk lk ck)) w9 := ⟨HV9.out.c4, (tg.cell (p := ⟨bA, oA + k, none⟩) (World.block_lt_of_cell? _ _ hS.2) (fun e => by have := (World.ownsRow.lt HROW.out bA e).1; have := HBA.out; have := HG.out; omega)).trans hS.2⟩
      clear hown hgrow hat hat' tg hgn hr9 HV4 HR4 HT4 HO4 HROW HNW
      refine hK.out _ _ (fun _ => hS) ?_
      clear hK K
      try simp only [Act.put, List.setIfInBounds_toArray, List.set_cons_zero, List.set_cons_succ, List.getElem_toArray, List.getElem_cons_succ, List.getElem_cons_zero]
      refine wpAnyZ_take (i := 9) (v := .pointer (some ⟨g, 4, none⟩)) rfl (by kernel_rfl) (by kernel_rfl) (by kernel_rfl) (by kernel_rfl) (fun _ _ _ h => h) hS (Or.inl ⟨by kernel_rfl, fun w hS => (by clear hS; go_simp)⟩) ?_
      simp only [Act.put, List.setIfInBounds_toArray, List.set_cons_zero, List.set_cons_succ, List.getElem_toArray, List.getElem_cons_succ, List.getElem_cons_zero]
      refine wpAnyZ_one (i := 10) (by kernel_rfl) rfl (fun K hK => ?_)
      have hcc := HV9.out.c4
      have hff := HV9.out.z 4 (by decide)
      clear hS
      go_simp
      refine hK.out _ _ (fun h => absurd h (by decide)) ?_
      clear hK K hcc hff
      try simp only [Act.put, List.setIfInBounds_toArray, List.set_cons_zero, List.set_cons_succ, List.getElem_toArray, List.getElem_cons_succ, List.getElem_cons_zero]
      refine wpAnyZ_done (by kernel_rfl) ?_ _
      have HV10 := hid (HV9.out.set4 (.slice (some ⟨g9, 0, none⟩) (k + 1) cap9))
      have HT10 := hid (HT9.out.setCell (p := ⟨g, 4, none⟩) (by have := HG.out; show w.heap.size ≤ g; omega) (.slice (some ⟨g9, 0, none⟩) (k + 1) cap9))
      clear HV9 HT9
      generalize World.setCell w9 ⟨g, 4, none⟩ (.slice (some ⟨g9, 0, none⟩) (k + 1) cap9) = wr at HR9 HT10 HV10 ⊢
      go_wp2_with fail
      go_roundw
      case rel => exact ⟨k + 1, _, _, by omega, by go_num, HV10.out, HR9.out.same (fun i hi => by by_cases e : i = k; (subst e; rw [if_pos rfl]); rw [if_neg e]), HT10.out⟩
      case measure => simp [intOf]; omega
    · obtain rfl : k = n := by omega
      have kI : ¬ (k : Int) < (k : Int) := by omega
      go_wp2_with fail
      go_ret
      obtain ⟨F, hF⟩ := HV.out.rrg HR.out HOC.out hlim
      rw [HG.out] at hF
      exact ⟨_, rfl, ⟨F, by rw [HG.out]; exact hF⟩, HT.out⟩
end Go.Proofs.Ytlbhoijjbpjmoaa
