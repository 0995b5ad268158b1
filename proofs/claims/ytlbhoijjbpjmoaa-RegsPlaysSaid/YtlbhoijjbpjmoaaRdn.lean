/-
  The document's device: New.
-/
import Derived.Test.YtlbhoijjbpjmoaaRdf
import Derived.Test.YtlbhoijjbpjmoaaKa
namespace Go.Proofs.Ytlbhoijjbpjmoaa
open Go.RowKit
set_option linter.unusedVariables false
set_option linter.unusedSimpArgs false

theorem Try.infoBytes : (Try.prog.info? 31).map (fun i => (i.zero, i.size, i.bytes)) = some (some (.slice none 0 0), 1, 24) := by kernel_rfl
/-- One cell in a new array. -/
theorem one_cell (w : World) (x : Value) (t : TypeId) : ∀ (j : Nat) u, [x][j]? = some u → (w.alloc (.cells #[x] t)).cell? ((⟨w.heap.size, 0, none⟩ : Addr).add j) = some u := by
  intro j u hj
  match j, hj with
  | 0, hj => simp at hj; subst hj; simp [Addr.add]
  | n + 1, hj => simp at hj
/-- A device while it is made: so many blocks that it tells, so many that are firm, all of them noughts. -/
structure RN (B : Nat) (w : World) (g : Nat) (F : Nat → Prop) (oN : Nat) (vN : Value) (VN : Nat → Value) (kN : Nat) (oF : Nat) (vF : Value) (VF : Nat → Value) (kF : Nat) : Prop where
  oo : oN ≠ oF ∧ oN < 2 ∧ oF < 2
  cN : w.cell? ⟨g, oN, none⟩ = some vN
  cF : w.cell? ⟨g, oF, none⟩ = some vF
  c2 : w.cell? ⟨g, 2, none⟩ = some (.slice none 0 0)
  c3 : w.cell? ⟨g, 3, none⟩ = some (.int .u64 0)
  c4 : w.cell? ⟨g, 4, none⟩ = some (.int .i64 0)
  c5 : w.cell? ⟨g, 5, none⟩ = some (.int .i64 (-1))
  c6 : w.cell? ⟨g, 6, none⟩ = some (.bool false)
  z : ∀ j, j < 7 → w.frozen? ⟨g, j, none⟩ = false
  rN : Rowz B w vN kN 256 VN (fun _ => Dst.zeros)
  rF : Rowz B w vF kF 256 VF (fun _ => Dst.zeros)
  fg : F g
  fN : ∀ q, Rowz.has vN kN VN q → F q ∧ q ≠ g
  fF : ∀ q, Rowz.has vF kF VF q → F q ∧ q ≠ g
  d : ∀ q, Rowz.has vN kN VN q → ¬ Rowz.has vF kF VF q
  lt : ∀ q, F q → B ≤ q ∧ q < w.heap.size
section
variable {B g oN oF kN kF : Nat} {w w' : World} {F : Nat → Prop} {vN vF : Value} {VN VF : Nat → Value}
theorem RN.swap (h : RN B w g F oN vN VN kN oF vF VF kF) : RN B w g F oF vF VF kF oN vN VN kN :=
  ⟨⟨h.oo.1.symm, h.oo.2.2, h.oo.2.1⟩, h.cF, h.cN, h.c2, h.c3, h.c4, h.c5, h.c6, h.z, h.rF, h.rN, h.fg, h.fF, h.fN, fun q h1 h2 => h.d q h2 h1, h.lt⟩
theorem RN.below (h : RN B w g F oN vN VN kN oF vF VF kF) (hb : Below w.heap.size w w') : RN B w' g F oN vN VN kN oF vF VF kF := by
  have hl := (h.lt g h.fg).2
  have hc : ∀ j, w'.cell? ⟨g, j, none⟩ = w.cell? ⟨g, j, none⟩ := fun j => hb.cell (p := ⟨g, j, none⟩) hl
  exact ⟨h.oo, (hc _).trans h.cN, (hc _).trans h.cF, (hc _).trans h.c2, (hc _).trans h.c3, (hc _).trans h.c4, (hc _).trans h.c5, (hc _).trans h.c6, fun j hj => ((Tb.of_below (F := fun _ => False) hb).frozen (p := ⟨g, j, none⟩) hl (fun h => h)).trans (h.z j hj), h.rN.below hb, h.rF.below hb, h.fg, h.fN, h.fF, h.d, fun q hq => ⟨(h.lt q hq).1, Nat.lt_of_lt_of_le (h.lt q hq).2 hb.size⟩⟩
/-- One block more. -/
theorem RN.snocN {v' u : Value} {H q0 : Nat} (h : RN B w g F oN vN VN kN oF vF VF kF) (hg : w.grownBy w' vN.ownBlock) (ho : w'.ownsRow B 31 1 v' (kN + 1) ((List.range kN).map VN ++ [u])) (hu : Own B w u 256 Dst.zeros) (hq : u.ownBlock = some q0) (hq0 : ¬ F q0)
    (hv : v'.ownBlock = vN.ownBlock ∨ v'.ownBlock = some H) (hH : w.heap.size ≤ H) (hH2 : H < w'.heap.size ∨ v'.ownBlock = vN.ownBlock) (hB : B ≤ q0) :
    RN B (w'.setCell ⟨g, oN, none⟩ v') g (fun q => F q ∨ q = q0 ∨ v'.ownBlock = some q) oN v' (fun k => if k = kN then u else VN k) (kN + 1) oF vF VF kF ∧ (w'.cell? ⟨g, oN, none⟩ = some vN ∧ w'.frozen? ⟨g, oN, none⟩ = false) := by
  have t1 : Tb (fun q => vN.ownBlock = some q) w w' := Tb.of_grown hg fun q e => e
  have t2 : Tb (fun q => q = g) w' (w'.setCell ⟨g, oN, none⟩ v') := Tb.setCell (F := fun q => q = g) (b := g) (Tb.refl _ w') (.inl rfl) oN v'
  have hgl := (h.lt g h.fg).2
  have hgn : ¬ vN.ownBlock = some g := fun e => (h.fN g (.inl e)).2 rfl
  have hc1 : ∀ j, w'.cell? ⟨g, j, none⟩ = w.cell? ⟨g, j, none⟩ := fun j => t1.cell (p := ⟨g, j, none⟩) hgl hgn
  have hz1 : ∀ j, w'.frozen? ⟨g, j, none⟩ = w.frozen? ⟨g, j, none⟩ := fun j => t1.frozen (p := ⟨g, j, none⟩) hgl hgn
  have hc : ∀ k, k ≠ oN → (w'.setCell ⟨g, oN, none⟩ v').cell? ⟨g, k, none⟩ = w.cell? ⟨g, k, none⟩ := fun k hk => (World.cell?_setCell_other w' _ _ _ (fun e0 => hk (Addr.mk.inj e0).2.1.symm)).trans (hc1 k)
  have hv' : ∀ q, v'.ownBlock = some q → vN.ownBlock = some q ∨ (w.heap.size ≤ q ∧ q < w'.heap.size) := fun q e => by
    rcases hv with h1 | h1
    · exact .inl (h1.symm.trans e)
    · rcases hH2 with h2 | h2
      · have := Option.some.inj (h1.symm.trans e); exact .inr (by omega)
      · exact .inl (h2.symm.trans e)
  have hvg : ∀ q, v'.ownBlock = some q → q ≠ g := fun q e => by
    rcases hv' q e with h1 | h1
    · exact (h.fN q (.inl h1)).2
    · intro e2; omega
  have hql := (World.ownsRow.lt hu q0 hq)
  have hqg : q0 ≠ g := fun e => hq0 (e ▸ h.fg)
  have hW := h.rN.snoc (xs := Dst.zeros) hg ho hu (fun q e1 e2 => hq0 (by rw [hq] at e1; rw [Option.some.inj e1]; exact (h.fN q (.inl e2)).1)) (fun i hi q e1 e2 => hq0 (by rw [hq] at e2; rw [Option.some.inj e2]; exact (h.fN q (.inr ⟨i, hi, e1⟩)).1)) hv hH
  have hW2 : Rowz B w' v' (kN + 1) 256 (fun k => if k = kN then u else VN k) (fun _ => Dst.zeros) := hW.same (fun i _ => by split <;> rfl)
  have hn : ∀ q, Rowz.has v' (kN + 1) (fun k => if k = kN then u else VN k) q → v'.ownBlock = some q ∨ Rowz.has vN kN VN q ∨ q = q0 := fun q h1 => by
    rcases h1 with h2 | ⟨i, hi, h2⟩
    · exact .inl h2
    · by_cases hi2 : i = kN
      · simp only [if_pos hi2] at h2
        rw [hq] at h2
        exact .inr (.inr (Option.some.inj h2).symm)
      · simp only [if_neg hi2] at h2
        exact .inr (.inl (.inr ⟨i, by omega, h2⟩))
  have no2 : ∀ j, 2 ≤ j → j ≠ oN := fun j hj e => by have := h.oo.2.1; omega
  refine ⟨⟨h.oo, World.cell?_setCell_same w' _ _ ((hc1 oN).trans h.cN), (hc oF h.oo.1.symm).trans h.cF, (hc 2 (no2 2 (by decide))).trans h.c2, (hc 3 (no2 3 (by decide))).trans h.c3, (hc 4 (no2 4 (by decide))).trans h.c4, (hc 5 (no2 5 (by decide))).trans h.c5, (hc 6 (no2 6 (by decide))).trans h.c6, fun j hj => (World.frozen?_setCell w' _ _ _).trans ((hz1 j).trans (h.z j hj)),
    hW2.tb t2 fun q hq => ?_, (h.rF.tb t1 fun q hq e => h.d q (.inl e) hq).tb t2 fun q hq => (h.fF q hq).2, .inl h.fg, fun q h1 => ?_, fun q h1 => ⟨.inl (h.fF q h1).1, (h.fF q h1).2⟩, fun q h1 h2 => ?_, fun q h1 => ?_⟩, (hc1 oN).trans h.cN, (hz1 oN).trans (h.z oN (by have := h.oo.2.1; omega))⟩
  · rcases hn q hq with h1 | h1 | rfl
    · exact hvg q h1
    · exact (h.fN q h1).2
    · exact hqg
  · rcases hn q h1 with h2 | h2 | rfl
    · exact ⟨.inr (.inr h2), hvg q h2⟩
    · exact ⟨.inl (h.fN q h2).1, (h.fN q h2).2⟩
    · exact ⟨.inr (.inl rfl), hqg⟩
  · rcases hn q h1 with h3 | h3 | rfl
    · rcases hv' q h3 with h4 | h4
      · exact h.d q (.inl h4) h2
      · have := (h.lt q (h.fF q h2).1).2; omega
    · exact h.d q h3 h2
    · exact hq0 (h.fF q h2).1
  · rw [World.size_setCell]
    have := t1.size
    rcases h1 with h2 | rfl | h2
    · have := h.lt q h2; omega
    · omega
    · have := World.ownsRow.lt ho q h2; omega
theorem RN.rdk {n : Nat} (h : RN B w g F 0 vN VN n 1 vF VF n) : RDk 86 B w g F (Dst.new n).n (Dst.new n).now (Dst.new n).firm (Dst.new n).ws (Dst.new n).steps (Dst.new n).fail (Dst.new n).cut (Dst.new n).down := by
  have no : ∀ q, ¬ Rowz.has (.slice none 0 0) 0 (fun _ => Value.slice none 0 0) q := fun q hq => by
    rcases hq with hq | ⟨i, hi, _⟩
    · cases hq
    · exact absurd hi (Nat.not_lt_zero _)
  exact ⟨vN, VN, vF, VF, .slice none 0 0, fun _ => .slice none 0 0, h.cN, h.cF, h.c2, h.c3, h.c4, h.c5, h.c6, h.z, h.rN, h.rF, Wtz.nil _ _ _ _ _ _ _, h.fg, h.fN, h.fF, fun q hq => absurd hq (no q), h.d, fun q _ h2 => no q h2, fun q _ h2 => no q h2, h.lt⟩
end
theorem rn_new (w : World) (t : TypeId) : RN w.heap.size (w.alloc (.cells #[.slice none 0 0, .slice none 0 0, .slice none 0 0, .int .u64 0, .int .i64 0, .int .i64 (-1), .bool false] t)) w.heap.size (fun q => q = w.heap.size) 0 (.slice none 0 0) (fun _ => .slice none 0 0) 0 1 (.slice none 0 0) (fun _ => .slice none 0 0) 0 := by
  have no : ∀ q, ¬ Rowz.has (.slice none 0 0) 0 (fun _ => Value.slice none 0 0) q := fun q hq => by
    rcases hq with hq | ⟨i, hi, _⟩
    · cases hq
    · exact absurd hi (Nat.not_lt_zero _)
  refine ⟨by decide, by simp, by simp, by simp, by simp, by simp, by simp, by simp, fun j hj => ?_, Rowz.nil _ _ _ _ _, Rowz.nil _ _ _ _ _, rfl, fun q hq => absurd hq (no q), fun q hq => absurd hq (no q), fun q hq => absurd hq (no q), fun q hq => by subst hq; simp⟩
  have : j = 0 ∨ j = 1 ∨ j = 2 ∨ j = 3 ∨ j = 4 ∨ j = 5 ∨ j = 6 := by omega
  rcases this with rfl | rfl | rfl | rfl | rfl | rfl | rfl <;> simp

set_option maxHeartbeats 16000000 in
set_option maxRecDepth 100000 in
theorem rNew_of (n : Nat) (w : World) (h8 : 8 ≤ n) (hm : n ≤ 4096) :
    Calls Try.prog 12 #[.int .i64 (n : Nat)] w fun e w' => ∃ g F, e = .returned (.pointer (some ⟨g, 0, none⟩)) ∧ RDs w.heap.size w' g F (Dst.new n) ∧ Below w.heap.size w w' := by
  obtain ⟨i0, hi, hz0, hz1, hz2⟩ := info_parts Try.infoU8
  obtain ⟨j0, hj, hy0, hy1, hy2⟩ := info_parts Try.infoBytes
  obtain ⟨wa, hwa⟩ : ∃ wa, Hid (wa = w.alloc (.cells #[.slice none 0 0, .slice none 0 0, .slice none 0 0, .int .u64 0, .int .i64 0, .int .i64 (-1), .bool false] 58)) := ⟨_, rfl⟩
  have HR0 : Hid (RN w.heap.size wa w.heap.size (fun q => q = w.heap.size) 0 (.slice none 0 0) (fun _ => .slice none 0 0) 0 1 (.slice none 0 0) (fun _ => .slice none 0 0) 0) := hid (by rw [hwa.out]; exact rn_new w _)
  have HT0 : Hid (Below w.heap.size w wa) := hid (by rw [hwa.out]; exact (Below.refl _ _).alloc (Nat.le_refl _) _)
  obtain ⟨g, hg⟩ : ∃ g, Hid (g = w.heap.size) := ⟨_, rfl⟩
  have HR1 : Hid (RN w.heap.size wa g (fun q => q = g) 0 (.slice none 0 0) (fun _ => .slice none 0 0) 0 1 (.slice none 0 0) (fun _ => .slice none 0 0) 0) := hid (by rw [hg.out]; exact HR0.out)
  clear HR0
  go_enter Try.func12, Try.ntmps12
  go_upto_region 2 with fail
  rw [← hwa.out, ← hg.out]
  clear hwa hg
  go_wp2_with fail
  go_loopw [4] (fun i wr => ∃ (k : Nat) (F1 : Nat → Prop) (vN vF : Value) (VN VF : Nat → Value), k ≤ n ∧ i = .int .i64 (k : Int) ∧ RN w.heap.size wr g F1 0 vN VN k 1 vF VF k ∧ Below w.heap.size w wr) (fun i _ => n - (intOf i).toNat)
  case atStart => exact ⟨0, _, _, _, _, _, Nat.zero_le _, rfl, HR1.out, HT0.out⟩
  case round =>
    clear HR1 HT0
    obtain ⟨k, F1, vN, vF, VN, VF, hk, rfl, hr, ht⟩ := hrel
    have HR := hid hr
    have HT := hid ht
    clear hr ht
    by_cases hkn : k < n
    · have kI : (k : Int) < (n : Int) := by omega
      go_upto_region 5 with fail
      have hS0 : (fun v => v.cell? ⟨g, 0, none⟩ = some vN) wr.drew := (HR.out.below ((Below.refl _ _).drew)).cN
      have HR2 := hid (HR.out.below ((Below.refl _ _).drew))
      have HT2 := hid (HT.out.trans ((Below.refl wr.heap.size wr).drew.mono HT.out.size))
      clear HR HT
      refine wp_region_z (fun v => v.cell? ⟨g, 0, none⟩ = some vN) 6 (by kernel_rfl) hS0 (fun hS => ?_)
      clear hS0
      generalize World.drew _ = w2 at hS HR2 HT2 ⊢
      refine wpAnyZ_take (i := 0) (v := .pointer (some ⟨g, 0, none⟩)) rfl (by kernel_rfl) (by kernel_rfl) (by kernel_rfl) (by kernel_rfl) (fun _ _ _ h => h) hS (Or.inl ⟨by kernel_rfl, fun w hS => (by clear hS; go_simp)⟩) ?_
      simp only [Act.put, List.setIfInBounds_toArray, List.set_cons_zero, List.set_cons_succ]
      refine wpAnyZ_take (i := 1) (v := vN) rfl (by kernel_rfl) (by kernel_rfl) (by kernel_rfl) (by kernel_rfl) (fun _ _ _ h => h) hS (Or.inl ⟨by kernel_rfl, fun w hS => (by have hc := hS; clear hS; go_simp)⟩) ?_
      simp only [Act.put, List.setIfInBounds_toArray, List.set_cons_zero, List.set_cons_succ]
      refine wpAnyZ_one (i := 2) (by kernel_rfl) rfl (fun K hK => ?_)
      refine step_make_full rfl _ _ 31 rfl i0 Try.underlying31 hi hz0 hz1 hz2 256 rfl rfl (by decide) w2.heap.size (Nat.le_refl _) ?_
      intro w3 hO3 hg3
      have hb3 : Below w2.heap.size w2 w3 := (Below.refl _ _).grown hg3 (Nat.le_refl _) (by simp)
      have hn3 : ¬ F1 w2.heap.size := fun h => Nat.lt_irrefl _ (HR2.out.lt _ h).2
      have HR3 := hid (HR2.out.below hb3)
      have HT3 := hid (HT2.out.trans (hb3.mono HT2.out.size))
      have HO3 := hid (Own.mono hO3 HT2.out.size)
      have HQ3 := hid hn3
      have HL3 : Hid (w2.heap.size < w3.heap.size ∧ w.heap.size ≤ w2.heap.size) := hid ⟨(World.ownsRow.lt hO3 _ rfl).2, HT2.out.size⟩
      have hS3 : w3.cell? ⟨g, 0, none⟩ = some vN := HR3.out.cN
      clear hO3 hg3 hb3 hn3 hS HR2 HT2
      have hS := hS3
      clear hS3
      obtain ⟨q0, hq0⟩ : ∃ q, Hid (q = w2.heap.size) := ⟨_, rfl⟩
      rw [← hq0.out] at HO3 HQ3 HL3 ⊢
      refine hK.out _ _ (fun _ => hS) ?_
      clear hK K hq0
      try simp only [Act.put, List.setIfInBounds_toArray, List.set_cons_zero, List.set_cons_succ]
      have hbl : Below w3.heap.size w3 (World.alloc w3 (.cells #[.slice (some ⟨q0, 0, none⟩) 256 256] 31)) := (Below.refl _ _).alloc (Nat.le_refl _) _
      have HNW := hid (one_cell w3 (.slice (some ⟨q0, 0, none⟩) 256 256) 31)
      have HR4 := hid (HR3.out.below hbl)
      have HT4 := hid (HT3.out.trans (hbl.mono HT3.out.size))
      have HO4 := hid (HO3.out.below hbl)
      have HS4 := hid HR4.out.cN
      have HL4 : Hid (q0 < (World.alloc w3 (.cells #[.slice (some ⟨q0, 0, none⟩) 256 256] 31)).heap.size) := hid (Nat.lt_of_lt_of_le HL3.out.1 hbl.size)
      clear hbl HR3 HT3 HO3
      refine wpAnyZ_one (i := 3) (by kernel_rfl) rfl (fun K hK => ?_)
      go_simp
      refine hK.out _ _ (fun _ => HS4.out) ?_
      clear hK K
      try simp only [Act.put, List.setIfInBounds_toArray, List.set_cons_zero, List.set_cons_succ]
      clear hS
      obtain ⟨g6, hg6⟩ : ∃ g, Hid (g = w3.heap.size) := ⟨_, rfl⟩
      rw [← hg6.out] at HNW ⊢
      generalize World.alloc w3 (.cells #[.slice (some ⟨q0, 0, none⟩) 256 256] 31) = w4 at HNW HR4 HT4 HO4 HS4 HL4 ⊢
      have hS := HS4.out
      clear HS4 hg6
      have HROW := hid HR4.out.rN.out
      refine wpAnyZ_one (i := 4) (by kernel_rfl) rfl (fun K hK => ?_)
      refine step_append_lies _ rfl (.tmp 12) (.tmp 14) 23 rfl w.heap.size 31 j0 (.slice none 0 0) 1 24 Try.underlying23 hj hy0 hy1 hy2 rfl (by decide) vN k _ rfl (by exact HROW.out) ⟨g6, 0, none⟩ 1 1 [.slice (some ⟨q0, 0, none⟩) 256 256] rfl rfl (by exact HNW.out) (fun u hu => by (rw [List.mem_singleton.1 hu]; rfl)) (by decide) (by unfold maxLen; omega) (by omega) HT4.out.size _ rfl ?_
      intro g9 cap9 w9 hown hgrow hat hlt9
      have hat' : (Value.slice (some ⟨g9, 0, none⟩) (k + 1) cap9).ownBlock = (vN).ownBlock ∨ (Value.slice (some ⟨g9, 0, none⟩) (k + 1) cap9).ownBlock = some w4.heap.size := by
        rcases hat with h1 | h1
        · exact .inl h1.symm
        · exact .inr (congrArg some h1)
      have hH2 : w4.heap.size < w9.heap.size ∨ (Value.slice (some ⟨g9, 0, none⟩) (k + 1) cap9).ownBlock = (vN).ownBlock := by
        rcases hat with h1 | h1
        · exact .inr h1.symm
        · exact .inl (by rw [← h1]; exact hlt9)
      have hn9 := HR4.out.snocN hgrow hown HO4.out rfl HQ3.out hat' (Nat.le_refl _) hH2 HL3.out.2
      have HR9 := hid hn9.1
      have HC9 := hid hn9.2
      have HT9 := hid ((HT4.out.grown hgrow HT4.out.size (fun q hq => (HR4.out.lt q (HR4.out.fN q (.inl hq)).1).1)).setCell (p := ⟨g, 0, none⟩) (HR4.out.lt g HR4.out.fg).1 (.slice (some ⟨g9, 0, none⟩) (k + 1) cap9))
      have hS9 : w9.cell? ⟨g, 0, none⟩ = some vN := hn9.2.1
      clear hown hgrow hat hat' hH2 hn9 hS HR4 HT4 HO4 HROW HNW
      have hS := hS9
      clear hS9
      refine hK.out _ _ (fun _ => hS) ?_
      clear hK K
      try simp only [Act.put, List.setIfInBounds_toArray, List.set_cons_zero, List.set_cons_succ]
      refine wpAnyZ_take (i := 5) (v := .pointer (some ⟨g, 0, none⟩)) rfl (by kernel_rfl) (by kernel_rfl) (by kernel_rfl) (by kernel_rfl) (fun _ _ _ h => h) hS (Or.inl ⟨by kernel_rfl, fun w hS => (by clear hS; go_simp)⟩) ?_
      simp only [Act.put, List.setIfInBounds_toArray, List.set_cons_zero, List.set_cons_succ]
      refine wpAnyZ_one (i := 6) (by kernel_rfl) rfl (fun K hK => ?_)
      obtain ⟨hcc, hff⟩ := HC9.out
      clear hS
      go_simp
      refine hK.out _ _ (fun h => absurd h (by decide)) ?_
      clear hK K hcc hff
      try simp only [Act.put, List.setIfInBounds_toArray, List.set_cons_zero, List.set_cons_succ]
      refine wpAnyZ_done (by kernel_rfl) ?_ _
      clear HC9 HL4 HQ3 HL3
      generalize World.setCell w9 ⟨g, 0, none⟩ (.slice (some ⟨g9, 0, none⟩) (k + 1) cap9) = wr at HR9 HT9 ⊢
      have HR := hid HR9.out
      have HT := HT9
      clear HR9 HT9
      obtain ⟨vN', hvN'⟩ : ∃ v, Hid (v = Value.slice (some ⟨g9, 0, none⟩) (k + 1) cap9) := ⟨_, rfl⟩
      rw [← hvN'.out] at HR
      have HF1 : Hid (∃ P : Nat → Prop, P = fun q => F1 q ∨ q = q0 ∨ vN'.ownBlock = some q) := hid ⟨_, rfl⟩
      obtain ⟨P0, hP0⟩ := HF1.out
      rw [← hP0] at HR
      clear hP0 HF1
      go_upto_region 6 with fail
      have hS0 : (fun v => v.cell? ⟨g, 1, none⟩ = some vF) wr.drew := (HR.out.swap.below ((Below.refl _ _).drew)).cN
      have HR2 := hid (HR.out.swap.below ((Below.refl _ _).drew))
      have HT2 := hid (HT.out.trans ((Below.refl wr.heap.size wr).drew.mono HT.out.size))
      clear HR HT
      refine wp_region_z (fun v => v.cell? ⟨g, 1, none⟩ = some vF) 6 (by kernel_rfl) hS0 (fun hS => ?_)
      clear hS0
      generalize World.drew _ = w2 at hS HR2 HT2 ⊢
      refine wpAnyZ_take (i := 0) (v := .pointer (some ⟨g, 1, none⟩)) rfl (by kernel_rfl) (by kernel_rfl) (by kernel_rfl) (by kernel_rfl) (fun _ _ _ h => h) hS (Or.inl ⟨by kernel_rfl, fun w hS => (by clear hS; go_simp)⟩) ?_
      simp only [Act.put, List.setIfInBounds_toArray, List.set_cons_zero, List.set_cons_succ]
      refine wpAnyZ_take (i := 1) (v := vF) rfl (by kernel_rfl) (by kernel_rfl) (by kernel_rfl) (by kernel_rfl) (fun _ _ _ h => h) hS (Or.inl ⟨by kernel_rfl, fun w hS => (by have hc := hS; clear hS; go_simp)⟩) ?_
      simp only [Act.put, List.setIfInBounds_toArray, List.set_cons_zero, List.set_cons_succ]
      refine wpAnyZ_one (i := 2) (by kernel_rfl) rfl (fun K hK => ?_)
      refine step_make_full rfl _ _ 31 rfl i0 Try.underlying31 hi hz0 hz1 hz2 256 rfl rfl (by decide) w2.heap.size (Nat.le_refl _) ?_
      intro w3 hO3 hg3
      have hb3 : Below w2.heap.size w2 w3 := (Below.refl _ _).grown hg3 (Nat.le_refl _) (by simp)
      have hn3 : ¬ P0 w2.heap.size := fun h => Nat.lt_irrefl _ (HR2.out.lt _ h).2
      have HR3 := hid (HR2.out.below hb3)
      have HT3 := hid (HT2.out.trans (hb3.mono HT2.out.size))
      have HO3 := hid (Own.mono hO3 HT2.out.size)
      have HQ3 := hid hn3
      have HL3 : Hid (w2.heap.size < w3.heap.size ∧ w.heap.size ≤ w2.heap.size) := hid ⟨(World.ownsRow.lt hO3 _ rfl).2, HT2.out.size⟩
      have hS3 : w3.cell? ⟨g, 1, none⟩ = some vF := HR3.out.cN
      clear hO3 hg3 hb3 hn3 hS HR2 HT2
      have hS := hS3
      clear hS3
      obtain ⟨q0, hq0⟩ : ∃ q, Hid (q = w2.heap.size) := ⟨_, rfl⟩
      rw [← hq0.out] at HO3 HQ3 HL3 ⊢
      refine hK.out _ _ (fun _ => hS) ?_
      clear hK K hq0
      try simp only [Act.put, List.setIfInBounds_toArray, List.set_cons_zero, List.set_cons_succ]
      have hbl : Below w3.heap.size w3 (World.alloc w3 (.cells #[.slice (some ⟨q0, 0, none⟩) 256 256] 31)) := (Below.refl _ _).alloc (Nat.le_refl _) _
      have HNW := hid (one_cell w3 (.slice (some ⟨q0, 0, none⟩) 256 256) 31)
      have HR4 := hid (HR3.out.below hbl)
      have HT4 := hid (HT3.out.trans (hbl.mono HT3.out.size))
      have HO4 := hid (HO3.out.below hbl)
      have HS4 := hid HR4.out.cN
      have HL4 : Hid (q0 < (World.alloc w3 (.cells #[.slice (some ⟨q0, 0, none⟩) 256 256] 31)).heap.size) := hid (Nat.lt_of_lt_of_le HL3.out.1 hbl.size)
      clear hbl HR3 HT3 HO3
      refine wpAnyZ_one (i := 3) (by kernel_rfl) rfl (fun K hK => ?_)
      go_simp
      refine hK.out _ _ (fun _ => HS4.out) ?_
      clear hK K
      try simp only [Act.put, List.setIfInBounds_toArray, List.set_cons_zero, List.set_cons_succ]
      clear hS
      obtain ⟨g6, hg6⟩ : ∃ g, Hid (g = w3.heap.size) := ⟨_, rfl⟩
      rw [← hg6.out] at HNW ⊢
      generalize World.alloc w3 (.cells #[.slice (some ⟨q0, 0, none⟩) 256 256] 31) = w4 at HNW HR4 HT4 HO4 HS4 HL4 ⊢
      have hS := HS4.out
      clear HS4 hg6
      have HROW := hid HR4.out.rN.out
      refine wpAnyZ_one (i := 4) (by kernel_rfl) rfl (fun K hK => ?_)
      refine step_append_lies _ rfl (.tmp 18) (.tmp 20) 23 rfl w.heap.size 31 j0 (.slice none 0 0) 1 24 Try.underlying23 hj hy0 hy1 hy2 rfl (by decide) vF k _ rfl (by exact HROW.out) ⟨g6, 0, none⟩ 1 1 [.slice (some ⟨q0, 0, none⟩) 256 256] rfl rfl (by exact HNW.out) (fun u hu => by (rw [List.mem_singleton.1 hu]; rfl)) (by decide) (by unfold maxLen; omega) (by omega) HT4.out.size _ rfl ?_
      intro g9 cap9 w9 hown hgrow hat hlt9
      have hat' : (Value.slice (some ⟨g9, 0, none⟩) (k + 1) cap9).ownBlock = (vF).ownBlock ∨ (Value.slice (some ⟨g9, 0, none⟩) (k + 1) cap9).ownBlock = some w4.heap.size := by
        rcases hat with h1 | h1
        · exact .inl h1.symm
        · exact .inr (congrArg some h1)
      have hH2 : w4.heap.size < w9.heap.size ∨ (Value.slice (some ⟨g9, 0, none⟩) (k + 1) cap9).ownBlock = (vF).ownBlock := by
        rcases hat with h1 | h1
        · exact .inr h1.symm
        · exact .inl (by rw [← h1]; exact hlt9)
      have hn9 := HR4.out.snocN hgrow hown HO4.out rfl HQ3.out hat' (Nat.le_refl _) hH2 HL3.out.2
      have HR9 := hid hn9.1
      have HC9 := hid hn9.2
      have HT9 := hid ((HT4.out.grown hgrow HT4.out.size (fun q hq => (HR4.out.lt q (HR4.out.fN q (.inl hq)).1).1)).setCell (p := ⟨g, 1, none⟩) (HR4.out.lt g HR4.out.fg).1 (.slice (some ⟨g9, 0, none⟩) (k + 1) cap9))
      have hS9 : w9.cell? ⟨g, 1, none⟩ = some vF := hn9.2.1
      clear hown hgrow hat hat' hH2 hn9 hS HR4 HT4 HO4 HROW HNW
      have hS := hS9
      clear hS9
      refine hK.out _ _ (fun _ => hS) ?_
      clear hK K
      try simp only [Act.put, List.setIfInBounds_toArray, List.set_cons_zero, List.set_cons_succ]
      refine wpAnyZ_take (i := 5) (v := .pointer (some ⟨g, 1, none⟩)) rfl (by kernel_rfl) (by kernel_rfl) (by kernel_rfl) (by kernel_rfl) (fun _ _ _ h => h) hS (Or.inl ⟨by kernel_rfl, fun w hS => (by clear hS; go_simp)⟩) ?_
      simp only [Act.put, List.setIfInBounds_toArray, List.set_cons_zero, List.set_cons_succ]
      refine wpAnyZ_one (i := 6) (by kernel_rfl) rfl (fun K hK => ?_)
      obtain ⟨hcc, hff⟩ := HC9.out
      clear hS
      go_simp
      refine hK.out _ _ (fun h => absurd h (by decide)) ?_
      clear hK K hcc hff
      try simp only [Act.put, List.setIfInBounds_toArray, List.set_cons_zero, List.set_cons_succ]
      refine wpAnyZ_done (by kernel_rfl) ?_ _
      clear HC9 HL4 HQ3 HL3
      generalize World.setCell w9 ⟨g, 1, none⟩ (.slice (some ⟨g9, 0, none⟩) (k + 1) cap9) = wr at HR9 HT9 ⊢
      have HR := hid HR9.out.swap
      have HT := HT9
      clear HR9 HT9
      obtain ⟨vF', hvF'⟩ : ∃ v, Hid (v = Value.slice (some ⟨g9, 0, none⟩) (k + 1) cap9) := ⟨_, rfl⟩
      rw [← hvF'.out] at HR
      have HP0 : Hid (∃ P : Nat → Prop, P = fun q => P0 q ∨ q = q0 ∨ vF'.ownBlock = some q) := hid ⟨_, rfl⟩
      obtain ⟨P1, hP1⟩ := HP0.out
      rw [← hP1] at HR
      clear hP1 HP0
      go_wp2_with fail
      go_roundw
      case rel => exact ⟨k + 1, P1, vN', vF', _, _, by omega, by go_num, HR.out, HT.out⟩
      case measure => simp [intOf]; omega
    · obtain rfl : k = n := by omega
      have kI : ¬ (k : Int) < (k : Int) := by omega
      go_wp2_with fail
      go_ret
      exact ⟨g, rfl, ⟨F1, ⟨Dst.ok_new h8 hm, HR.out.rdk⟩⟩, HT.out⟩
end Go.Proofs.Ytlbhoijjbpjmoaa
