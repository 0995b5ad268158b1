/-
  DiskPlays: Write, Fill, Read, Foreign, Fork.
-/
import Derived.Test.YtlbhoijjbpjmoaaDp1
import Derived.Test.YtlbhoijjbpjmoaaKa
namespace Go.Proofs.Ytlbhoijjbpjmoaa
open Go.RowKit
set_option linter.unusedVariables false
set_option linter.unusedSimpArgs false

theorem tb_one' {w : World} {b o : Nat} {v : Value} : Tb (fun q => q = b) w (w.setCell ⟨b, o, none⟩ v) := Tb.setCell (F := fun q => q = b) (b := b) (Tb.refl _ w) (.inl rfl) o v
theorem own_lt' {B n c : Nat} {w : World} {b : Nat} {xs : List Int} (h : Own B w (.slice (some ⟨b, 0, none⟩) n c) n xs) : b < w.heap.size := (World.ownsRow.lt h b rfl).2
theorem readL_oct {S : Dst} (h : S.ok) (i : Int) : Oct (S.readL i) := by
  unfold Dst.readL
  by_cases h1 : S.has i = false
  · rw [if_pos h1]; exact Oct.nil
  · rw [if_neg h1]
    split
    · exact Oct.nil
    · exact (h.now _ (Dst.has_lt h1).2.2).2
theorem readL_len {S : Dst} (h : S.ok) (i : Int) : (S.readL i).length ≤ 256 := by
  unfold Dst.readL
  by_cases h1 : S.has i = false
  · rw [if_pos h1]; exact Nat.zero_le _
  · rw [if_neg h1]
    split
    · exact Nat.zero_le _
    · exact Nat.le_of_eq (h.now _ (Dst.has_lt h1).2.2).1
theorem copy_len (p : Option Addr) (cap n : Nat) (xs : List Int) (w : World) (hp : Bin w p xs) (hl : xs.length = n) (hm : n ≤ 140737488351232) :
    Calls Try.prog 10 #[.slice p n cap] w fun e w' => ∃ g c, e = .returned (.slice (some ⟨g, 0, none⟩) n c) ∧ Own w.heap.size w' (.slice (some ⟨g, 0, none⟩) n c) n xs ∧ Below w.heap.size w w' := by
  subst hl
  exact copy_any p cap xs w hp hm

set_option maxHeartbeats 16000000 in
set_option maxRecDepth 100000 in
theorem does_fill {wR : World} {G : Nat → Prop} (B g g2 : Nat) (F F2 : Nat → Prop) (S : Dst) (i at0 : Int) (p3 : Option Addr) (c3 n3 : Nat) (b3 : List Int) (p4 : Option Addr) (c4 n4 : Nat) (b4 : List Int) (w : World) (hU : Duo wR G B w g g2 F F2 S S) (hBw : B ≤ w.heap.size)
    (hiw : (Lit.int .i64 i).wf = true) (haw : (Lit.int .i64 at0).wf = true) (h3 : Bin w p3 b3) (o3 : Oct b3) (l3 : b3.length = n3) (q3 : n3 ≤ c3) (m3 : n3 ≤ 140737488351232) (e3 : ∀ a, p3 = some a → 0 < n3 → a.block < B) (h4 : Bin w p4 b4) (o4 : Oct b4) (l4 : b4.length = n4) (q4 : n4 ≤ c4) (m4 : n4 ≤ 140737488351232) (e4 : ∀ a, p4 = some a → 0 < n4 → a.block < B) (hs : S.steps < 9223372036854775000) (hw : S.ws.length < 4294967000) :
    Calls Try.prog 21 #[.pointer (some ⟨g, 0, none⟩), .pointer (some ⟨g2, 0, none⟩), .agg #[.int .i64 10, .int .i64 i, .int .i64 at0, .slice p3 n3 c3, .slice p4 n4 c4]] w (PlaysAt wR G B w g g2 S) := by
  obtain ⟨w0, hw0⟩ : ∃ wa, Hid (wa = w.alloc (.cells #[.int .i64 10, .int .i64 i, .int .i64 at0, .slice p3 n3 c3, .slice p4 n4 c4] 41)) := ⟨_, rfl⟩
  have hb0 : Below w.heap.size w w0 := by rw [hw0.out]; exact (Below.refl _ _).alloc (Nat.le_refl _) _
  have H5 : Hid (Five w0 w.heap.size (.int .i64 10) (.int .i64 i) (.int .i64 at0) (.slice p3 n3 c3) (.slice p4 n4 c4)) := hid (by rw [hw0.out]; exact five_new _ _ _ _ _ _ _)
  have HU := hid (hU.below hb0)
  have HB := hid (bel_below (Below.refl B w) hBw hb0)
  have HFb := hid (own_box hU)
  have P3 := hid (h3.below hb0)
  have P4 := hid (h4.below hb0)
  have L3 := hid l3
  have L4 := hid l4
  have E3 := hid e3
  have E4 := hid e4
  have HS := hid (And.intro hs hw)
  obtain ⟨gb, hgb⟩ : ∃ g, Hid (g = w.heap.size) := ⟨_, rfl⟩
  rw [← hgb.out] at H5 HFb
  have HGB : Hid (gb < w0.heap.size) := hid H5.out.lt
  clear hb0 hU h3 h4 l3 l4 e3 e4 hs hw
  go_enter Try.func21, Try.ntmps21
  go_upto_region 1 with fail
  rw [← hw0.out, ← hgb.out]
  clear hw0 hgb
  obtain ⟨d0, d1, d2, d3, d4⟩ := H5.out
  obtain ⟨x, hx, hxe⟩ : ∃ x : Int, (0 ≤ x ∧ x ≤ 255) ∧ IntKind.u8.wrap at0 = x := ⟨at0 % 256, by omega, IntKind.wrap_u8' at0⟩
  obtain ⟨er, her⟩ : ∃ e, Hid (e = S.writeE i (fullL x)) := ⟨_, rfl⟩
  go_upto_region 13 with fail
  have hS0 : (fun v => Five v gb (.int .i64 10) (.int .i64 i) (.int .i64 at0) (.slice p3 n3 c3) (.slice p4 n4 c4)) w0.drew := H5.out.below ((Below.refl _ _).drew)
  have HU1 := hid (HU.out.below ((Below.refl _ _).drew))
  have HB1 := hid (bel_below HB.out.1 HB.out.2 ((Below.refl _ _).drew))
  have P31 := hid (P3.out.below ((Below.refl _ _).drew))
  clear HU HB P3 d0 d1 d2 d3 d4
  refine wp_region_z (fun v => Five v gb (.int .i64 10) (.int .i64 i) (.int .i64 at0) (.slice p3 n3 c3) (.slice p4 n4 c4)) 20 (by kernel_rfl) hS0 (fun hS => ?_)
  clear hS0
  generalize World.drew _ = w1 at hS HU1 HB1 P31 ⊢
  refine wpAnyZ_take (i := 0) (v := .pointer (some ⟨g, 0, none⟩)) rfl (by kernel_rfl) (by kernel_rfl) (by kernel_rfl) (by kernel_rfl) (fun _ _ _ h => h) hS (Or.inl ⟨by kernel_rfl, fun w hS => (by clear hS; go_simp)⟩) ?_
  simp only [Act.put, List.setIfInBounds_toArray, List.set_cons_zero, List.set_cons_succ]
  refine wpAnyZ_take (i := 1) (v := .pointer (some ⟨g, 0, none⟩)) rfl (by kernel_rfl) (by kernel_rfl) (by kernel_rfl) (by kernel_rfl) (fun _ _ _ h => h) hS (Or.inl ⟨by kernel_rfl, fun w hS => (by clear hS; go_simp)⟩) ?_
  simp only [Act.put, List.setIfInBounds_toArray, List.set_cons_zero, List.set_cons_succ]
  refine wpAnyZ_take (i := 2) (v := .pointer (some ⟨gb, 1, none⟩)) rfl (by kernel_rfl) (by kernel_rfl) (by kernel_rfl) (by kernel_rfl) (fun _ _ _ h => h) hS (Or.inl ⟨by kernel_rfl, fun w hS => (by clear hS; go_simp)⟩) ?_
  simp only [Act.put, List.setIfInBounds_toArray, List.set_cons_zero, List.set_cons_succ]
  refine wpAnyZ_take (i := 3) (v := .int .i64 i) rfl (by kernel_rfl) (by kernel_rfl) (by kernel_rfl) (by kernel_rfl) (fun _ _ _ h => h) hS (Or.inl ⟨by kernel_rfl, fun w hS => (by have hc := hS.c1; clear hS; go_simp)⟩) ?_
  simp only [Act.put, List.setIfInBounds_toArray, List.set_cons_zero, List.set_cons_succ]
  refine wpAnyZ_take (i := 4) (v := .pointer (some ⟨gb, 2, none⟩)) rfl (by kernel_rfl) (by kernel_rfl) (by kernel_rfl) (by kernel_rfl) (fun _ _ _ h => h) hS (Or.inl ⟨by kernel_rfl, fun w hS => (by clear hS; go_simp)⟩) ?_
  simp only [Act.put, List.setIfInBounds_toArray, List.set_cons_zero, List.set_cons_succ]
  refine wpAnyZ_take (i := 5) (v := .int .i64 at0) rfl (by kernel_rfl) (by kernel_rfl) (by kernel_rfl) (by kernel_rfl) (fun _ _ _ h => h) hS (Or.inl ⟨by kernel_rfl, fun w hS => (by have hc := hS.c2; clear hS; go_simp)⟩) ?_
  simp only [Act.put, List.setIfInBounds_toArray, List.set_cons_zero, List.set_cons_succ]
  refine wpAnyZ_take (i := 6) (v := .int .u8 x) rfl (by kernel_rfl) (by kernel_rfl) (by kernel_rfl) (by kernel_rfl) (fun _ _ _ h => h) hS (Or.inl ⟨by kernel_rfl, fun w hS => (by clear hS; go_simp)⟩) ?_
  simp only [Act.put, List.setIfInBounds_toArray, List.set_cons_zero, List.set_cons_succ]
  refine wpAnyZ_take (i := 9) (v := .pointer (some ⟨g2, 0, none⟩)) rfl (by kernel_rfl) (by kernel_rfl) (by kernel_rfl) (by kernel_rfl) (fun _ _ _ h => h) hS (Or.inl ⟨by kernel_rfl, fun w hS => (by clear hS; go_simp)⟩) ?_
  simp only [Act.put, List.setIfInBounds_toArray, List.set_cons_zero, List.set_cons_succ]; try simp only [List.getElem_toArray, List.getElem_cons_succ, List.getElem_cons_zero]
  refine wpAnyZ_take (i := 10) (v := .pointer (some ⟨gb, 1, none⟩)) rfl (by kernel_rfl) (by kernel_rfl) (by kernel_rfl) (by kernel_rfl) (fun _ _ _ h => h) hS (Or.inl ⟨by kernel_rfl, fun w hS => (by clear hS; go_simp)⟩) ?_
  simp only [Act.put, List.setIfInBounds_toArray, List.set_cons_zero, List.set_cons_succ]; try simp only [List.getElem_toArray, List.getElem_cons_succ, List.getElem_cons_zero]
  refine wpAnyZ_take (i := 11) (v := .int .i64 i) rfl (by kernel_rfl) (by kernel_rfl) (by kernel_rfl) (by kernel_rfl) (fun _ _ _ h => h) hS (Or.inl ⟨by kernel_rfl, fun w hS => (by have hc := hS.c1; clear hS; go_simp)⟩) ?_
  simp only [Act.put, List.setIfInBounds_toArray, List.set_cons_zero, List.set_cons_succ]; try simp only [List.getElem_toArray, List.getElem_cons_succ, List.getElem_cons_zero]
  refine wpAnyZ_take (i := 12) (v := .pointer (some ⟨gb, 2, none⟩)) rfl (by kernel_rfl) (by kernel_rfl) (by kernel_rfl) (by kernel_rfl) (fun _ _ _ h => h) hS (Or.inl ⟨by kernel_rfl, fun w hS => (by clear hS; go_simp)⟩) ?_
  simp only [Act.put, List.setIfInBounds_toArray, List.set_cons_zero, List.set_cons_succ]; try simp only [List.getElem_toArray, List.getElem_cons_succ, List.getElem_cons_zero]
  refine wpAnyZ_take (i := 13) (v := .int .i64 at0) rfl (by kernel_rfl) (by kernel_rfl) (by kernel_rfl) (by kernel_rfl) (fun _ _ _ h => h) hS (Or.inl ⟨by kernel_rfl, fun w hS => (by have hc := hS.c2; clear hS; go_simp)⟩) ?_
  simp only [Act.put, List.setIfInBounds_toArray, List.set_cons_zero, List.set_cons_succ]; try simp only [List.getElem_toArray, List.getElem_cons_succ, List.getElem_cons_zero]
  refine wpAnyZ_take (i := 14) (v := .int .u8 x) rfl (by kernel_rfl) (by kernel_rfl) (by kernel_rfl) (by kernel_rfl) (fun _ _ _ h => h) hS (Or.inl ⟨by kernel_rfl, fun w hS => (by clear hS; go_simp)⟩) ?_
  simp only [Act.put, List.setIfInBounds_toArray, List.set_cons_zero, List.set_cons_succ]; try simp only [List.getElem_toArray, List.getElem_cons_succ, List.getElem_cons_zero]
  refine wpAnyZ_one (i := 7) (by kernel_rfl) rfl (fun K hK => ?_)
  go_simp
  go_at_call 36
  refine (full_of x _ hx).mono ?_
  rintro e v2 ⟨g8, c8, rfl, hc8, hO, hb⟩
  have HN := hid (HU1.out.p.newer' hO)
  have HU2 := hid (HU1.out.below hb)
  have HB2 := hid (bel_below HB1.out.1 HB1.out.2 hb)
  replace hS := hS.below hb
  have HO := hid hO
  clear hO hb HU1 HB1
  go_wp2_with fail
  refine hK.out _ _ (fun _ => hS) ?_
  clear hK K
  try simp only [Act.put, List.setIfInBounds_toArray, List.set_cons_zero, List.set_cons_succ]; try simp only [List.getElem_toArray, List.getElem_cons_succ, List.getElem_cons_zero]
  refine wpAnyZ_one (i := 8) (by kernel_rfl) rfl (fun K hK => ?_)
  go_simp
  go_at_call 34
  refine (dWrite_of B g F S v2 HU2.out.p i hiw _ c8 256 _ HO.out.slice'.2 (fullL_oct hx) (fullL_len x) hc8 (by decide) HN.out (by have := HS.out.1; omega) (by have := HS.out.2; omega)).mono ?_
  rintro e v3 ⟨rfl, hs⟩
  rw [← her.out]
  obtain ⟨F3, hu, ht, hn⟩ := HU2.out.stepP hs
  have HB3 := hid (bel_step HB2.out.1 HB2.out.2 ht (fun q hq => (HU2.out.lt1 q hq).1))
  have HU3 := hid hu
  replace hS := hS.tb ht HFb.out.1
  clear hs hu ht hn HU2 HB2 HO HN
  go_wp2_with fail
  refine hK.out _ _ (fun _ => hS) ?_
  clear hK K
  try simp only [Act.put, List.setIfInBounds_toArray, List.set_cons_zero, List.set_cons_succ]; try simp only [List.getElem_toArray, List.getElem_cons_succ, List.getElem_cons_zero]
  refine wpAnyZ_one (i := 15) (by kernel_rfl) rfl (fun K hK => ?_)
  go_simp
  go_at_call 36
  refine (full_of x _ hx).mono ?_
  rintro e v4 ⟨g9, c9, rfl, hc9, hO, hb⟩
  have hg9 := World.ownsRow.lt hO g9 rfl
  have HN : Hid (¬ F2 g9) := hid (fun h => by have := (HU3.out.lt2 _ h).2; omega)
  have HU4 := hid (HU3.out.below hb)
  have HB4 := hid (bel_below HB3.out.1 HB3.out.2 hb)
  replace hS := hS.below hb
  have HO := hid hO
  clear hO hb HU3 HB3 hg9
  go_wp2_with fail
  refine hK.out _ _ (fun _ => hS) ?_
  clear hK K
  try simp only [Act.put, List.setIfInBounds_toArray, List.set_cons_zero, List.set_cons_succ]; try simp only [List.getElem_toArray, List.getElem_cons_succ, List.getElem_cons_zero]
  refine wpAnyZ_one (i := 16) (by kernel_rfl) rfl (fun K hK => ?_)
  go_simp
  go_at_call 35
  refine (rWrite_of B g2 F2 S i _ c9 256 _ v4 HU4.out.r HO.out.slice'.2 (fullL_oct hx) (fullL_len x) (fun a ha _ => by cases ha; exact HN.out) (by have := HS.out.1; omega) (by have := HS.out.2; omega)).mono ?_
  rintro e v5 ⟨rfl, hs⟩
  rw [← her.out]
  obtain ⟨F5, hu, ht, hn⟩ := HU4.out.stepR hs
  have HB5 := hid (bel_step HB4.out.1 HB4.out.2 ht (fun q hq => (HU4.out.lt2 q hq).1))
  have HU5 := hid hu
  replace hS := hS.tb ht HFb.out.2
  clear hs hu ht hn HU4 HB4 HO HN
  go_wp2_with fail
  refine hK.out _ _ (fun _ => hS) ?_
  clear hK K
  try simp only [Act.put, List.setIfInBounds_toArray, List.set_cons_zero, List.set_cons_succ]; try simp only [List.getElem_toArray, List.getElem_cons_succ, List.getElem_cons_zero]
  refine wpAnyZ_take (i := 17) (v := .bool true) rfl (by kernel_rfl) (by kernel_rfl) (by kernel_rfl) (by kernel_rfl) (fun _ _ _ h => h) hS (Or.inl ⟨by kernel_rfl, fun w hS => (by clear hS; go_simp)⟩) ?_
  simp only [Act.put, List.setIfInBounds_toArray, List.set_cons_zero, List.set_cons_succ]; try simp only [List.getElem_toArray, List.getElem_cons_succ, List.getElem_cons_zero]
  refine wpAnyZ_one (i := 18) (by kernel_rfl) rfl (fun K hK => ?_)
  go_simp
  refine hK.out _ _ (fun _ => hS) ?_
  clear hK K
  try simp only [Act.put, List.setIfInBounds_toArray, List.set_cons_zero, List.set_cons_succ]; try simp only [List.getElem_toArray, List.getElem_cons_succ, List.getElem_cons_zero]
  refine wpAnyZ_one (i := 19) (by kernel_rfl) rfl (fun K hK => ?_)
  go_simp
  refine hK.out _ _ (fun _ => hS) ?_
  clear hK K
  try simp only [Act.put, List.setIfInBounds_toArray, List.set_cons_zero, List.set_cons_succ]; try simp only [List.getElem_toArray, List.getElem_cons_succ, List.getElem_cons_zero]
  refine wpAnyZ_done (by kernel_rfl) ?_ _
  clear hS
  go_wp2_with fail
  go_ret2
  exact ⟨_, _, S.write i (fullL x), rfl, HU5.out, HB5.out.1, HB5.out.2, write_facts S i _⟩

set_option maxHeartbeats 16000000 in
set_option maxRecDepth 100000 in
theorem does_foreign {wR : World} {G : Nat → Prop} (B g g2 : Nat) (F F2 : Nat → Prop) (S : Dst) (i at0 : Int) (p3 : Option Addr) (c3 n3 : Nat) (b3 : List Int) (p4 : Option Addr) (c4 n4 : Nat) (b4 : List Int) (w : World) (hU : Duo wR G B w g g2 F F2 S S) (hBw : B ≤ w.heap.size)
    (hiw : (Lit.int .i64 i).wf = true) (haw : (Lit.int .i64 at0).wf = true) (h3 : Bin w p3 b3) (o3 : Oct b3) (l3 : b3.length = n3) (q3 : n3 ≤ c3) (m3 : n3 ≤ 140737488351232) (e3 : ∀ a, p3 = some a → 0 < n3 → a.block < B) (h4 : Bin w p4 b4) (o4 : Oct b4) (l4 : b4.length = n4) (q4 : n4 ≤ c4) (m4 : n4 ≤ 140737488351232) (e4 : ∀ a, p4 = some a → 0 < n4 → a.block < B) (hs : S.steps < 9223372036854775000) (hw : S.ws.length < 4294967000) :
    Calls Try.prog 21 #[.pointer (some ⟨g, 0, none⟩), .pointer (some ⟨g2, 0, none⟩), .agg #[.int .i64 8, .int .i64 i, .int .i64 at0, .slice p3 n3 c3, .slice p4 n4 c4]] w (PlaysAt wR G B w g g2 S) := by
  obtain ⟨w0, hw0⟩ : ∃ wa, Hid (wa = w.alloc (.cells #[.int .i64 8, .int .i64 i, .int .i64 at0, .slice p3 n3 c3, .slice p4 n4 c4] 41)) := ⟨_, rfl⟩
  have hb0 : Below w.heap.size w w0 := by rw [hw0.out]; exact (Below.refl _ _).alloc (Nat.le_refl _) _
  have H5 : Hid (Five w0 w.heap.size (.int .i64 8) (.int .i64 i) (.int .i64 at0) (.slice p3 n3 c3) (.slice p4 n4 c4)) := hid (by rw [hw0.out]; exact five_new _ _ _ _ _ _ _)
  have HU := hid (hU.below hb0)
  have HB := hid (bel_below (Below.refl B w) hBw hb0)
  have HFb := hid (own_box hU)
  have P3 := hid (h3.below hb0)
  have P4 := hid (h4.below hb0)
  have L3 := hid l3
  have L4 := hid l4
  have E3 := hid e3
  have E4 := hid e4
  have HS := hid (And.intro hs hw)
  obtain ⟨gb, hgb⟩ : ∃ g, Hid (g = w.heap.size) := ⟨_, rfl⟩
  rw [← hgb.out] at H5 HFb
  have HGB : Hid (gb < w0.heap.size) := hid H5.out.lt
  clear hb0 hU h3 h4 l3 l4 e3 e4 hs hw
  go_enter Try.func21, Try.ntmps21
  go_upto_region 1 with fail
  rw [← hw0.out, ← hgb.out]
  clear hw0 hgb
  obtain ⟨d0, d1, d2, d3, d4⟩ := H5.out
  obtain ⟨er, her⟩ : ∃ e, Hid (e = S.foreignE i at0 b3) := ⟨_, rfl⟩
  have HCP := hid (fun W (h : Bin W p3 b3) => copy_len p3 c3 n3 b3 W h L3.out m3)
  go_upto_region 38 with fail
  have hS0 : (fun v => Five v gb (.int .i64 8) (.int .i64 i) (.int .i64 at0) (.slice p3 n3 c3) (.slice p4 n4 c4)) w0.drew := H5.out.below ((Below.refl _ _).drew)
  have HU1 := hid (HU.out.below ((Below.refl _ _).drew))
  have HB1 := hid (bel_below HB.out.1 HB.out.2 ((Below.refl _ _).drew))
  have P31 := hid (P3.out.below ((Below.refl _ _).drew))
  clear HU HB P3 d0 d1 d2 d3 d4
  refine wp_region_z (fun v => Five v gb (.int .i64 8) (.int .i64 i) (.int .i64 at0) (.slice p3 n3 c3) (.slice p4 n4 c4)) 21 (by kernel_rfl) hS0 (fun hS => ?_)
  clear hS0
  generalize World.drew _ = w1 at hS HU1 HB1 P31 ⊢
  refine wpAnyZ_take (i := 0) (v := .pointer (some ⟨g, 0, none⟩)) rfl (by kernel_rfl) (by kernel_rfl) (by kernel_rfl) (by kernel_rfl) (fun _ _ _ h => h) hS (Or.inl ⟨by kernel_rfl, fun w hS => (by clear hS; go_simp)⟩) ?_
  simp only [Act.put, List.setIfInBounds_toArray, List.set_cons_zero, List.set_cons_succ]
  refine wpAnyZ_take (i := 1) (v := .pointer (some ⟨g, 0, none⟩)) rfl (by kernel_rfl) (by kernel_rfl) (by kernel_rfl) (by kernel_rfl) (fun _ _ _ h => h) hS (Or.inl ⟨by kernel_rfl, fun w hS => (by clear hS; go_simp)⟩) ?_
  simp only [Act.put, List.setIfInBounds_toArray, List.set_cons_zero, List.set_cons_succ]
  refine wpAnyZ_take (i := 2) (v := .pointer (some ⟨gb, 1, none⟩)) rfl (by kernel_rfl) (by kernel_rfl) (by kernel_rfl) (by kernel_rfl) (fun _ _ _ h => h) hS (Or.inl ⟨by kernel_rfl, fun w hS => (by clear hS; go_simp)⟩) ?_
  simp only [Act.put, List.setIfInBounds_toArray, List.set_cons_zero, List.set_cons_succ]
  refine wpAnyZ_take (i := 3) (v := .int .i64 i) rfl (by kernel_rfl) (by kernel_rfl) (by kernel_rfl) (by kernel_rfl) (fun _ _ _ h => h) hS (Or.inl ⟨by kernel_rfl, fun w hS => (by have hc := hS.c1; clear hS; go_simp)⟩) ?_
  simp only [Act.put, List.setIfInBounds_toArray, List.set_cons_zero, List.set_cons_succ]
  refine wpAnyZ_take (i := 4) (v := .pointer (some ⟨gb, 2, none⟩)) rfl (by kernel_rfl) (by kernel_rfl) (by kernel_rfl) (by kernel_rfl) (fun _ _ _ h => h) hS (Or.inl ⟨by kernel_rfl, fun w hS => (by clear hS; go_simp)⟩) ?_
  simp only [Act.put, List.setIfInBounds_toArray, List.set_cons_zero, List.set_cons_succ]
  refine wpAnyZ_take (i := 5) (v := .int .i64 at0) rfl (by kernel_rfl) (by kernel_rfl) (by kernel_rfl) (by kernel_rfl) (fun _ _ _ h => h) hS (Or.inl ⟨by kernel_rfl, fun w hS => (by have hc := hS.c2; clear hS; go_simp)⟩) ?_
  simp only [Act.put, List.setIfInBounds_toArray, List.set_cons_zero, List.set_cons_succ]
  refine wpAnyZ_take (i := 6) (v := .pointer (some ⟨gb, 3, none⟩)) rfl (by kernel_rfl) (by kernel_rfl) (by kernel_rfl) (by kernel_rfl) (fun _ _ _ h => h) hS (Or.inl ⟨by kernel_rfl, fun w hS => (by clear hS; go_simp)⟩) ?_
  simp only [Act.put, List.setIfInBounds_toArray, List.set_cons_zero, List.set_cons_succ]
  refine wpAnyZ_take (i := 7) (v := .slice p3 n3 c3) rfl (by kernel_rfl) (by kernel_rfl) (by kernel_rfl) (by kernel_rfl) (fun _ _ _ h => h) hS (Or.inl ⟨by kernel_rfl, fun w hS => (by have hc := hS.c3; clear hS; go_simp)⟩) ?_
  simp only [Act.put, List.setIfInBounds_toArray, List.set_cons_zero, List.set_cons_succ]
  refine wpAnyZ_take (i := 10) (v := .pointer (some ⟨g2, 0, none⟩)) rfl (by kernel_rfl) (by kernel_rfl) (by kernel_rfl) (by kernel_rfl) (fun _ _ _ h => h) hS (Or.inl ⟨by kernel_rfl, fun w hS => (by clear hS; go_simp)⟩) ?_
  simp only [Act.put, List.setIfInBounds_toArray, List.set_cons_zero, List.set_cons_succ]; try simp only [List.getElem_toArray, List.getElem_cons_succ, List.getElem_cons_zero]
  refine wpAnyZ_take (i := 11) (v := .pointer (some ⟨gb, 1, none⟩)) rfl (by kernel_rfl) (by kernel_rfl) (by kernel_rfl) (by kernel_rfl) (fun _ _ _ h => h) hS (Or.inl ⟨by kernel_rfl, fun w hS => (by clear hS; go_simp)⟩) ?_
  simp only [Act.put, List.setIfInBounds_toArray, List.set_cons_zero, List.set_cons_succ]; try simp only [List.getElem_toArray, List.getElem_cons_succ, List.getElem_cons_zero]
  refine wpAnyZ_take (i := 12) (v := .int .i64 i) rfl (by kernel_rfl) (by kernel_rfl) (by kernel_rfl) (by kernel_rfl) (fun _ _ _ h => h) hS (Or.inl ⟨by kernel_rfl, fun w hS => (by have hc := hS.c1; clear hS; go_simp)⟩) ?_
  simp only [Act.put, List.setIfInBounds_toArray, List.set_cons_zero, List.set_cons_succ]; try simp only [List.getElem_toArray, List.getElem_cons_succ, List.getElem_cons_zero]
  refine wpAnyZ_take (i := 13) (v := .pointer (some ⟨gb, 2, none⟩)) rfl (by kernel_rfl) (by kernel_rfl) (by kernel_rfl) (by kernel_rfl) (fun _ _ _ h => h) hS (Or.inl ⟨by kernel_rfl, fun w hS => (by clear hS; go_simp)⟩) ?_
  simp only [Act.put, List.setIfInBounds_toArray, List.set_cons_zero, List.set_cons_succ]; try simp only [List.getElem_toArray, List.getElem_cons_succ, List.getElem_cons_zero]
  refine wpAnyZ_take (i := 14) (v := .int .i64 at0) rfl (by kernel_rfl) (by kernel_rfl) (by kernel_rfl) (by kernel_rfl) (fun _ _ _ h => h) hS (Or.inl ⟨by kernel_rfl, fun w hS => (by have hc := hS.c2; clear hS; go_simp)⟩) ?_
  simp only [Act.put, List.setIfInBounds_toArray, List.set_cons_zero, List.set_cons_succ]; try simp only [List.getElem_toArray, List.getElem_cons_succ, List.getElem_cons_zero]
  refine wpAnyZ_take (i := 15) (v := .pointer (some ⟨gb, 3, none⟩)) rfl (by kernel_rfl) (by kernel_rfl) (by kernel_rfl) (by kernel_rfl) (fun _ _ _ h => h) hS (Or.inl ⟨by kernel_rfl, fun w hS => (by clear hS; go_simp)⟩) ?_
  simp only [Act.put, List.setIfInBounds_toArray, List.set_cons_zero, List.set_cons_succ]; try simp only [List.getElem_toArray, List.getElem_cons_succ, List.getElem_cons_zero]
  refine wpAnyZ_take (i := 16) (v := .slice p3 n3 c3) rfl (by kernel_rfl) (by kernel_rfl) (by kernel_rfl) (by kernel_rfl) (fun _ _ _ h => h) hS (Or.inl ⟨by kernel_rfl, fun w hS => (by have hc := hS.c3; clear hS; go_simp)⟩) ?_
  simp only [Act.put, List.setIfInBounds_toArray, List.set_cons_zero, List.set_cons_succ]; try simp only [List.getElem_toArray, List.getElem_cons_succ, List.getElem_cons_zero]
  refine wpAnyZ_one (i := 8) (by kernel_rfl) rfl (fun K hK => ?_)
  go_simp
  go_at_call 10
  refine (HCP.out _ P31.out).mono ?_
  rintro e v2 ⟨g8, c8, rfl, hO, hb⟩
  have HN := hid (HU1.out.p.newer' hO)
  have HU2 := hid (HU1.out.below hb)
  have HB2 := hid (bel_below HB1.out.1 HB1.out.2 hb)
  have P32 := hid (P31.out.below hb)
  replace hS := hS.below hb
  have HO := hid hO
  clear hO hb HU1 HB1 P31 HCP
  go_wp2_with fail
  refine hK.out _ _ (fun _ => hS) ?_
  clear hK K
  try simp only [Act.put, List.setIfInBounds_toArray, List.set_cons_zero, List.set_cons_succ]; try simp only [List.getElem_toArray, List.getElem_cons_succ, List.getElem_cons_zero]
  refine wpAnyZ_one (i := 9) (by kernel_rfl) rfl (fun K hK => ?_)
  go_simp
  go_at_call 42
  refine (dForeign_of B g F S v2 HU2.out.p i at0 hiw haw _ c8 n3 _ HO.out.slice'.2 o3 L3.out HO.out.slice'.1 m3 HN.out).mono ?_
  rintro e v3 ⟨rfl, hs⟩
  rw [← her.out]
  obtain ⟨F3, hu, ht, hn⟩ := HU2.out.stepP hs
  have HB3 := hid (bel_step HB2.out.1 HB2.out.2 ht (fun q hq => (HU2.out.lt1 q hq).1))
  have HU3 := hid hu
  have P33 := hid (bin_elder P32.out L3.out ht (fun a ha hn h => by have := E3.out a ha hn; have := (HU2.out.lt1 _ h).1; omega))
  replace hS := hS.tb ht HFb.out.1
  clear hs hu ht hn HU2 HB2 HO HN P32
  go_wp2_with fail
  refine hK.out _ _ (fun _ => hS) ?_
  clear hK K
  try simp only [Act.put, List.setIfInBounds_toArray, List.set_cons_zero, List.set_cons_succ]; try simp only [List.getElem_toArray, List.getElem_cons_succ, List.getElem_cons_zero]
  refine wpAnyZ_one (i := 17) (by kernel_rfl) rfl (fun K hK => ?_)
  go_simp
  go_at_call 43
  refine (rForeign_of B g2 F2 S i at0 p3 c3 n3 b3 v3 HU3.out.r haw P33.out o3 L3.out m3 (fun a ha hn h => by have := E3.out a ha hn; have := (HU3.out.lt2 _ h).1; omega)).mono ?_
  rintro e v5 ⟨rfl, hs⟩
  rw [← her.out]
  obtain ⟨F5, hu, ht, hn⟩ := HU3.out.stepR hs
  have HB5 := hid (bel_step HB3.out.1 HB3.out.2 ht (fun q hq => (HU3.out.lt2 q hq).1))
  have HU5 := hid hu
  replace hS := hS.tb ht HFb.out.2
  clear hs hu ht hn HU3 HB3
  go_wp2_with fail
  refine hK.out _ _ (fun _ => hS) ?_
  clear hK K
  try simp only [Act.put, List.setIfInBounds_toArray, List.set_cons_zero, List.set_cons_succ]; try simp only [List.getElem_toArray, List.getElem_cons_succ, List.getElem_cons_zero]
  refine wpAnyZ_take (i := 18) (v := .bool true) rfl (by kernel_rfl) (by kernel_rfl) (by kernel_rfl) (by kernel_rfl) (fun _ _ _ h => h) hS (Or.inl ⟨by kernel_rfl, fun w hS => (by clear hS; go_simp)⟩) ?_
  simp only [Act.put, List.setIfInBounds_toArray, List.set_cons_zero, List.set_cons_succ]; try simp only [List.getElem_toArray, List.getElem_cons_succ, List.getElem_cons_zero]
  refine wpAnyZ_one (i := 19) (by kernel_rfl) rfl (fun K hK => ?_)
  go_simp
  refine hK.out _ _ (fun _ => hS) ?_
  clear hK K
  try simp only [Act.put, List.setIfInBounds_toArray, List.set_cons_zero, List.set_cons_succ]; try simp only [List.getElem_toArray, List.getElem_cons_succ, List.getElem_cons_zero]
  refine wpAnyZ_one (i := 20) (by kernel_rfl) rfl (fun K hK => ?_)
  go_simp
  refine hK.out _ _ (fun _ => hS) ?_
  clear hK K
  try simp only [Act.put, List.setIfInBounds_toArray, List.set_cons_zero, List.set_cons_succ]; try simp only [List.getElem_toArray, List.getElem_cons_succ, List.getElem_cons_zero]
  refine wpAnyZ_done (by kernel_rfl) ?_ _
  clear hS
  go_wp2_with fail
  go_ret2
  exact ⟨_, _, S.foreign i at0 b3, rfl, HU5.out, HB5.out.1, HB5.out.2, foreign_facts S i at0 b3⟩

set_option maxHeartbeats 16000000 in
set_option maxRecDepth 100000 in
theorem does_read {wR : World} {G : Nat → Prop} (B g g2 : Nat) (F F2 : Nat → Prop) (S : Dst) (i at0 : Int) (p3 : Option Addr) (c3 n3 : Nat) (b3 : List Int) (p4 : Option Addr) (c4 n4 : Nat) (b4 : List Int) (w : World) (hU : Duo wR G B w g g2 F F2 S S) (hBw : B ≤ w.heap.size)
    (hiw : (Lit.int .i64 i).wf = true) (haw : (Lit.int .i64 at0).wf = true) (h3 : Bin w p3 b3) (o3 : Oct b3) (l3 : b3.length = n3) (q3 : n3 ≤ c3) (m3 : n3 ≤ 140737488351232) (e3 : ∀ a, p3 = some a → 0 < n3 → a.block < B) (h4 : Bin w p4 b4) (o4 : Oct b4) (l4 : b4.length = n4) (q4 : n4 ≤ c4) (m4 : n4 ≤ 140737488351232) (e4 : ∀ a, p4 = some a → 0 < n4 → a.block < B) (hs : S.steps < 9223372036854775000) (hw : S.ws.length < 4294967000) :
    Calls Try.prog 21 #[.pointer (some ⟨g, 0, none⟩), .pointer (some ⟨g2, 0, none⟩), .agg #[.int .i64 2, .int .i64 i, .int .i64 at0, .slice p3 n3 c3, .slice p4 n4 c4]] w (PlaysAt wR G B w g g2 S) := by
  obtain ⟨w0, hw0⟩ : ∃ wa, Hid (wa = w.alloc (.cells #[.int .i64 2, .int .i64 i, .int .i64 at0, .slice p3 n3 c3, .slice p4 n4 c4] 41)) := ⟨_, rfl⟩
  have hb0 : Below w.heap.size w w0 := by rw [hw0.out]; exact (Below.refl _ _).alloc (Nat.le_refl _) _
  have H5 : Hid (Five w0 w.heap.size (.int .i64 2) (.int .i64 i) (.int .i64 at0) (.slice p3 n3 c3) (.slice p4 n4 c4)) := hid (by rw [hw0.out]; exact five_new _ _ _ _ _ _ _)
  have HU := hid (hU.below hb0)
  have HB := hid (bel_below (Below.refl B w) hBw hb0)
  have HFb := hid (own_box hU)
  have P3 := hid (h3.below hb0)
  have P4 := hid (h4.below hb0)
  have L3 := hid l3
  have L4 := hid l4
  have E3 := hid e3
  have E4 := hid e4
  have HS := hid (And.intro hs hw)
  obtain ⟨gb, hgb⟩ : ∃ g, Hid (g = w.heap.size) := ⟨_, rfl⟩
  rw [← hgb.out] at H5 HFb
  have HGB : Hid (gb < w0.heap.size) := hid H5.out.lt
  clear hb0 hU h3 h4 l3 l4 e3 e4 hs hw
  go_enter Try.func21, Try.ntmps21
  go_upto_region 1 with fail
  rw [← hw0.out, ← hgb.out]
  clear hw0 hgb
  obtain ⟨d0, d1, d2, d3, d4⟩ := H5.out
  have HP := hid (fun W h => dRead_of B g F S W h i hiw)
  have HR := hid (fun W h => rRead_of B g2 F2 S i W h)
  have hLo := readL_oct HU.out.p.ok i
  obtain ⟨L, hL⟩ : ∃ l, Hid (l = S.readL i) := ⟨_, rfl⟩
  obtain ⟨er, her⟩ : ∃ e, Hid (e = S.readE i) := ⟨_, rfl⟩
  rw [← hL.out] at hLo
  rw [← hL.out, ← her.out] at HP HR
  obtain ⟨m, hm⟩ : ∃ m, Hid (m = L.length) := ⟨_, rfl⟩
  rw [← hm.out] at HP HR
  have HLO := hid hLo
  clear hLo
  have hm256 : m ≤ 256 := by rw [hm.out, hL.out]; exact readL_len HU.out.p.ok i
  go_wp2_with fail
  refine (HP.out _ HU.out.p).mono ?_
  rintro e w1 ⟨v1, rfl, hO1, hb⟩
  have HU1 := hid (HU.out.below hb)
  have HB1 := hid (bel_below HB.out.1 HB.out.2 hb)
  have H51 := hid (H5.out.below hb)
  obtain ⟨pv, cv, rfl, _, _⟩ := hO1.bin
  have HO1 := hid hO1
  have HNI : Hid (∀ q, (Value.slice pv m cv).ownBlock = some q → ¬ F q ∧ ¬ F2 q) := hid (fun q hq => by have h9 := (Ort.lt hO1 q hq).1; exact ⟨fun h => by have := (HU.out.lt1 q h).2; omega, fun h => by have := (HU.out.lt2 q h).2; omega⟩)
  have HBo : Hid (B ≤ w0.heap.size ∧ wR.heap.size ≤ w0.heap.size) := hid (And.intro HB.out.2 HU.out.t.size)
  clear hO1 hb HP HU HB d0 d1 d2 d3 d4
  obtain ⟨d0, d1, d2, d3, d4⟩ := H51.out
  go_wp2_with fail
  refine (HR.out _ HU1.out.r).mono ?_
  rintro e w2 ⟨v2, rfl, hO2, hb⟩
  have HU2 := hid (HU1.out.below hb)
  have HB2 := hid (bel_below HB1.out.1 HB1.out.2 hb)
  have HO12 := hid (HO1.out.below hb)
  obtain ⟨pw, cw, rfl, _, hbw⟩ := hO2.bin
  have HSM := hid (refSame_yes pv pw cv cw m L w2 hm.out.symm HO12.out.slice'.2 hbw HLO.out)
  clear hO2 hb HR HU1 HB1 hbw d0 d1 d2 d3 d4 HO1
  go_wp2_with fail
  refine HSM.out.mono ?_
  rintro e w' ⟨rfl, rfl⟩
  clear HSM
  obtain ⟨Bo, hBo⟩ : ∃ b, Hid (b = w0.heap.size) := ⟨_, rfl⟩
  rw [← hBo.out] at HO12 HBo
  go_wp2_with fail
  go_loopw [107] (fun j wr => ∃ (k : Nat) (zs : List Int), k ≤ m ∧ j = .int .i64 (k : Int) ∧ Ort Bo wr (.slice pv m cv) m zs ∧ Duo wR G B wr g g2 F F2 S S ∧ Below B w wr ∧ B ≤ wr.heap.size) (fun j _ => m - (intOf j).toNat)
  case atStart => exact ⟨0, _, Nat.zero_le _, rfl, HO12.out, HU2.out, HB2.out.1, HB2.out.2⟩
  case round =>
    clear HO12 HU2 HB2
    obtain ⟨k, zs, hk, rfl, hO, hU', hB', hB2⟩ := hrel
    by_cases hkn : k < m
    · have kI : (k : Int) < (m : Int) := by omega
      obtain ⟨bi, ci, hve, _, hbi⟩ := hO.isSlice (by omega)
      injection hve with hv1 _ hv3
      subst hv1
      subst hv3
      have hlz := hO.len
      have hcI := hO.cellAt k hkn
      have hfz := hO.frozenAt k
      obtain ⟨x, hx⟩ : ∃ x, Hid (x = zs.getD k 0) := ⟨_, rfl⟩
      rw [← hx.out] at hcI
      have HO := hid (hO.stored k (bits .xor .u8 x 255))
      have tI : Tb (fun q => q = bi) wr (wr.setCell ⟨bi, k, none⟩ (.int .u8 (bits .xor .u8 x 255))) := tb_one'
      have HNI' := HNI.out bi rfl
      have HUn := hid (hU'.aside tI HNI'.1 HNI'.2 (Nat.le_trans HBo.out.2 (Ort.lt hO bi rfl).1))
      have HBn := hid (bel_step hB' hB2 tI (fun q hq => by rw [hq]; exact Nat.le_trans HBo.out.1 (Ort.lt hO bi rfl).1))
      clear hO hU' hB' hB2 hbi tI
      go_wp2_with fail
      go_roundw
      case rel => exact ⟨k + 1, _, by omega, by go_num, HO.out, HUn.out, HBn.out.1, HBn.out.2⟩
      case measure => simp [intOf]; omega
    · obtain rfl : k = m := by omega
      have kI : ¬ (k : Int) < (k : Int) := by omega
      go_wp2_with fail
      go_ret2
      exact ⟨_, _, S, rfl, hU', hB', hB2, rfl, Nat.le_succ _, Nat.le_succ _⟩

set_option maxHeartbeats 16000000 in
set_option maxRecDepth 100000 in
theorem does_write {wR : World} {G : Nat → Prop} (B g g2 : Nat) (F F2 : Nat → Prop) (S : Dst) (i at0 : Int) (p3 : Option Addr) (c3 n3 : Nat) (b3 : List Int) (p4 : Option Addr) (c4 n4 : Nat) (b4 : List Int) (w : World) (hU : Duo wR G B w g g2 F F2 S S) (hBw : B ≤ w.heap.size)
    (hiw : (Lit.int .i64 i).wf = true) (haw : (Lit.int .i64 at0).wf = true) (h3 : Bin w p3 b3) (o3 : Oct b3) (l3 : b3.length = n3) (q3 : n3 ≤ c3) (m3 : n3 ≤ 140737488351232) (e3 : ∀ a, p3 = some a → 0 < n3 → a.block < B) (h4 : Bin w p4 b4) (o4 : Oct b4) (l4 : b4.length = n4) (q4 : n4 ≤ c4) (m4 : n4 ≤ 140737488351232) (e4 : ∀ a, p4 = some a → 0 < n4 → a.block < B) (hs : S.steps < 9223372036854775000) (hw : S.ws.length < 4294967000) :
    Calls Try.prog 21 #[.pointer (some ⟨g, 0, none⟩), .pointer (some ⟨g2, 0, none⟩), .agg #[.int .i64 1, .int .i64 i, .int .i64 at0, .slice p3 n3 c3, .slice p4 n4 c4]] w (PlaysAt wR G B w g g2 S) := by
  obtain ⟨w0, hw0⟩ : ∃ wa, Hid (wa = w.alloc (.cells #[.int .i64 1, .int .i64 i, .int .i64 at0, .slice p3 n3 c3, .slice p4 n4 c4] 41)) := ⟨_, rfl⟩
  have hb0 : Below w.heap.size w w0 := by rw [hw0.out]; exact (Below.refl _ _).alloc (Nat.le_refl _) _
  have H5 : Hid (Five w0 w.heap.size (.int .i64 1) (.int .i64 i) (.int .i64 at0) (.slice p3 n3 c3) (.slice p4 n4 c4)) := hid (by rw [hw0.out]; exact five_new _ _ _ _ _ _ _)
  have HU := hid (hU.below hb0)
  have HB := hid (bel_below (Below.refl B w) hBw hb0)
  have HFb := hid (own_box hU)
  have P3 := hid (h3.below hb0)
  have P4 := hid (h4.below hb0)
  have L3 := hid l3
  have L4 := hid l4
  have E3 := hid e3
  have E4 := hid e4
  have HS := hid (And.intro hs hw)
  obtain ⟨gb, hgb⟩ : ∃ g, Hid (g = w.heap.size) := ⟨_, rfl⟩
  rw [← hgb.out] at H5 HFb
  have HGB : Hid (gb < w0.heap.size) := hid H5.out.lt
  clear hb0 hU h3 h4 l3 l4 e3 e4 hs hw
  go_enter Try.func21, Try.ntmps21
  go_upto_region 1 with fail
  rw [← hw0.out, ← hgb.out]
  clear hw0 hgb
  obtain ⟨d0, d1, d2, d3, d4⟩ := H5.out
  have HCP := hid (fun W (h : Bin W p3 b3) => copy_len p3 c3 n3 b3 W h L3.out m3)
  obtain ⟨er, her⟩ : ∃ e, Hid (e = S.writeE i b3) := ⟨_, rfl⟩
  go_wp2_with fail
  refine (HCP.out _ P3.out).mono ?_
  rintro e w1 ⟨gi, ci, rfl, hO, hb⟩
  have HN := hid (HU.out.p.newer' hO)
  have HN2 : Hid (¬ F gi ∧ ¬ F2 gi ∧ w0.heap.size ≤ gi) := hid ⟨fun h => by have := (HU.out.lt1 _ h).2; have := (World.ownsRow.lt hO gi rfl).1; omega, fun h => by have := (HU.out.lt2 _ h).2; have := (World.ownsRow.lt hO gi rfl).1; omega, (World.ownsRow.lt hO gi rfl).1⟩
  have HBo : Hid (B ≤ w0.heap.size ∧ wR.heap.size ≤ w0.heap.size) := hid (And.intro HB.out.2 HU.out.t.size)
  have HU1 := hid (HU.out.below hb)
  have HB1 := hid (bel_below HB.out.1 HB.out.2 hb)
  have H51 := hid (H5.out.below hb)
  have P31 := hid (P3.out.below hb)
  have HO1 := hid hO
  clear hO hb HCP HU HB H5 P3 d0 d1 d2 d3 d4
  obtain ⟨d0, d1, d2, d3, d4⟩ := H51.out
  have HP := hid (dWrite_of B g F S w1 HU1.out.p i hiw _ ci n3 b3 HO1.out.slice'.2 o3 L3.out HO1.out.slice'.1 m3 HN.out (by have := HS.out.1; omega) (by have := HS.out.2; omega))
  rw [← her.out] at HP
  go_wp2_with fail
  refine HP.out.mono ?_
  rintro e w2 ⟨rfl, hs⟩
  obtain ⟨F3, hu, ht, hn⟩ := HU1.out.stepP hs
  have HB2 := hid (bel_step HB1.out.1 HB1.out.2 ht (fun q hq => (HU1.out.lt1 q hq).1))
  have HU2 := hid hu
  have H52 := hid (H51.out.tb ht HFb.out.1)
  have P32 := hid (bin_elder P31.out L3.out ht (fun a ha hn h => by have := E3.out a ha hn; have := (HU1.out.lt1 _ h).1; omega))
  have HO2 := hid (HO1.out.tb ht (fun q hq => by rw [← Option.some.inj hq]; exact HN2.out.1))
  have HNF : Hid (¬ F3 gi) := hid (fun h => by
    rcases hn _ h with h1 | h1
    · exact HN2.out.1 h1
    · have := own_lt' HO1.out; omega)
  clear hs hu ht hn HU1 HB1 HO1 P31 HP H51 d0 d1 d2 d3 d4
  obtain ⟨d0, d1, d2, d3, d4⟩ := H52.out
  have HSM := hid (refSame_yes (some ⟨gi, 0, none⟩) p3 ci c3 n3 b3 w2 L3.out HO2.out.slice'.2 P32.out o3)
  go_wp2_with fail
  refine HSM.out.mono ?_
  rintro e w' ⟨rfl, rfl⟩
  have HR := hid (rWrite_of B g2 F2 S i p3 c3 n3 b3 w2 HU2.out.r P32.out o3 L3.out (fun a ha hn h => by have := E3.out a ha hn; have := (HU2.out.lt2 _ h).1; omega) (by have := HS.out.1; omega) (by have := HS.out.2; omega))
  rw [← her.out] at HR
  clear HSM
  go_wp2_with fail
  refine HR.out.mono ?_
  rintro e w3 ⟨rfl, hs⟩
  obtain ⟨F4, hu, ht, hn⟩ := HU2.out.stepR hs
  have HB3 := hid (bel_step HB2.out.1 HB2.out.2 ht (fun q hq => (HU2.out.lt2 q hq).1))
  have HU3 := hid hu
  have HO3 := hid (HO2.out.tb ht (fun q hq => by rw [← Option.some.inj hq]; exact HN2.out.2.1))
  have HNI : Hid (∀ q, (Value.slice (some ⟨gi, 0, none⟩) n3 ci).ownBlock = some q → ¬ F3 q ∧ ¬ F4 q) := hid (fun q hq => by
    rw [← Option.some.inj hq]
    refine ⟨HNF.out, fun h => ?_⟩
    rcases hn _ h with h1 | h1
    · exact HN2.out.2.1 h1
    · have := own_lt' HO2.out; show False; simp only at h1; omega)
  clear hs hu ht hn HU2 HB2 HO2 P32 HR H52 d0 d1 d2 d3 d4
  obtain ⟨Bo, hBo⟩ : ∃ b, Hid (b = w0.heap.size) := ⟨_, rfl⟩
  rw [← hBo.out] at HO3 HBo
  obtain ⟨T, hT⟩ : ∃ T, Hid (T = S.write i b3) := ⟨_, rfl⟩
  rw [← hT.out] at HU3
  go_wp2_with fail
  go_loopw [49] (fun j wr => ∃ (k : Nat) (zs : List Int), k ≤ n3 ∧ j = .int .i64 (k : Int) ∧ Own Bo wr (.slice (some ⟨gi, 0, none⟩) n3 ci) n3 zs ∧ Duo wR G B wr g g2 F3 F4 T T ∧ Below B w wr ∧ B ≤ wr.heap.size) (fun j _ => n3 - (intOf j).toNat)
  case atStart => exact ⟨0, _, Nat.zero_le _, rfl, HO3.out, HU3.out, HB3.out.1, HB3.out.2⟩
  case round =>
    clear HO3 HU3 HB3
    obtain ⟨k, zs, hk, rfl, hO, hU', hB', hB2⟩ := hrel
    by_cases hkn : k < n3
    · have kI : (k : Int) < (n3 : Int) := by omega
      have hlz := hO.len
      have hcI := hO.cellAt k hkn
      have hfz := hO.frozenAt k
      obtain ⟨x, hx⟩ : ∃ x, Hid (x = zs.getD k 0) := ⟨_, rfl⟩
      rw [← hx.out] at hcI
      have HO := hid (hO.stored k (bits .xor .u8 x 255))
      have tI : Tb (fun q => q = gi) wr (wr.setCell ⟨gi, k, none⟩ (.int .u8 (bits .xor .u8 x 255))) := tb_one'
      have HNI' := HNI.out gi rfl
      have HUn := hid (hU'.aside tI HNI'.1 HNI'.2 (Nat.le_trans HBo.out.2 (World.ownsRow.lt hO gi rfl).1))
      have HBn := hid (bel_step hB' hB2 tI (fun q hq => by rw [hq]; exact Nat.le_trans HBo.out.1 (World.ownsRow.lt hO gi rfl).1))
      clear hO hU' hB' hB2 tI
      go_wp2_with fail
      go_roundw
      case rel => exact ⟨k + 1, _, by omega, by go_num, HO.out, HUn.out, HBn.out.1, HBn.out.2⟩
      case measure => simp [intOf]; omega
    · obtain rfl : k = n3 := by omega
      have kI : ¬ (k : Int) < (k : Int) := by omega
      go_wp2_with fail
      go_ret2
      exact ⟨_, _, T, rfl, hU', hB', hB2, by rw [hT.out]; exact write_facts S i b3⟩

set_option maxHeartbeats 16000000 in
set_option maxRecDepth 100000 in
theorem does_fork {wR : World} {G : Nat → Prop} (B g g2 : Nat) (F F2 : Nat → Prop) (S : Dst) (i at0 : Int) (p3 : Option Addr) (c3 n3 : Nat) (b3 : List Int) (p4 : Option Addr) (c4 n4 : Nat) (b4 : List Int) (w : World) (hU : Duo wR G B w g g2 F F2 S S) (hBw : B ≤ w.heap.size)
    (hiw : (Lit.int .i64 i).wf = true) (haw : (Lit.int .i64 at0).wf = true) (h3 : Bin w p3 b3) (o3 : Oct b3) (l3 : b3.length = n3) (q3 : n3 ≤ c3) (m3 : n3 ≤ 140737488351232) (e3 : ∀ a, p3 = some a → 0 < n3 → a.block < B) (h4 : Bin w p4 b4) (o4 : Oct b4) (l4 : b4.length = n4) (q4 : n4 ≤ c4) (m4 : n4 ≤ 140737488351232) (e4 : ∀ a, p4 = some a → 0 < n4 → a.block < B) (hs : S.steps < 9223372036854775000) (hw : S.ws.length < 4294967000) :
    Calls Try.prog 21 #[.pointer (some ⟨g, 0, none⟩), .pointer (some ⟨g2, 0, none⟩), .agg #[.int .i64 9, .int .i64 i, .int .i64 at0, .slice p3 n3 c3, .slice p4 n4 c4]] w (Plays wR G B w g2 S) := by
  obtain ⟨w0, hw0⟩ : ∃ wa, Hid (wa = w.alloc (.cells #[.int .i64 9, .int .i64 i, .int .i64 at0, .slice p3 n3 c3, .slice p4 n4 c4] 41)) := ⟨_, rfl⟩
  have hb0 : Below w.heap.size w w0 := by rw [hw0.out]; exact (Below.refl _ _).alloc (Nat.le_refl _) _
  have H5 : Hid (Five w0 w.heap.size (.int .i64 9) (.int .i64 i) (.int .i64 at0) (.slice p3 n3 c3) (.slice p4 n4 c4)) := hid (by rw [hw0.out]; exact five_new _ _ _ _ _ _ _)
  have HU := hid (hU.below hb0)
  have HB := hid (bel_below (Below.refl B w) hBw hb0)
  have HFb := hid (own_box hU)
  have P3 := hid (h3.below hb0)
  have P4 := hid (h4.below hb0)
  have L3 := hid l3
  have L4 := hid l4
  have E3 := hid e3
  have E4 := hid e4
  have HS := hid (And.intro hs hw)
  obtain ⟨gb, hgb⟩ : ∃ g, Hid (g = w.heap.size) := ⟨_, rfl⟩
  rw [← hgb.out] at H5 HFb
  have HGB : Hid (gb < w0.heap.size) := hid H5.out.lt
  clear hb0 hU h3 h4 l3 l4 e3 e4 hs hw
  go_enter Try.func21, Try.ntmps21
  go_upto_region 1 with fail
  rw [← hw0.out, ← hgb.out]
  clear hw0 hgb
  obtain ⟨d0, d1, d2, d3, d4⟩ := H5.out
  have HSZ : Hid (wR.heap.size ≤ w0.heap.size) := hid HU.out.t.size
  have HFK := hid (dFork_of B g F S w0 HU.out.p)
  go_wp2_with fail
  refine HFK.out.mono ?_
  rintro e w1 ⟨gf, Ff, rfl, hf, hb⟩
  have HFF : Hid (∀ q, Ff q → w0.heap.size ≤ q ∧ q < w1.heap.size) := hid (fun q hq => hf.lt q hq)
  have HD2 : Hid (∀ q, Ff q → ¬ F2 q) := hid (fun q hq h => by have := (hf.lt q hq).1; have := (HU.out.lt2 q h).2; omega)
  have HFo : Hid (∀ q, F q → ¬ Ff q) := hid (fun q hq h => by have := (hf.lt q h).1; have := (HU.out.lt1 q hq).2; omega)
  have HV1 := hid (hf.mono HB.out.2)
  have HU1 := hid (HU.out.below hb)
  have HB1 := hid (bel_below HB.out.1 HB.out.2 hb)
  clear hf hb HFK HU HB d0 d1 d2 d3 d4
  go_wp2_with fail
  refine (dCrash_of B g F S w1 HU1.out.p none 0 0 [] (Bin.nil _ _) Oct.nil rfl (Nat.le_refl _) (by decide) (fun a ha => by cases ha)).mono ?_
  rintro e w2 ⟨rfl, hs⟩
  obtain ⟨Fa, hu, ht, hn⟩ := HU1.out.stepP hs
  have HB2 := hid (bel_step HB1.out.1 HB1.out.2 ht (fun q hq => (HU1.out.lt1 q hq).1))
  have HU2 := hid hu
  have HV2 := hid (HV1.out.tb ht (fun q hq h => HFo.out q h hq))
  have HFo2 : Hid (∀ q, Fa q → ¬ Ff q) := hid (fun q hq h => by
    rcases hn q hq with h1 | h1
    · exact HFo.out q h1 h
    · have := (HV1.out.lt q h).2; omega)
  clear hs hu ht hn
  obtain ⟨S1, hS1⟩ : ∃ s, Hid (s = S.crash (([] : List Int).map Int.toNat)) := ⟨_, rfl⟩
  have HS1 : Hid (S1.steps = S.steps ∧ S1.ws.length = 0) := hid (by rw [hS1.out]; exact ⟨rfl, rfl⟩)
  rw [← hS1.out] at HU2
  go_wp2_with fail
  refine (full_of 99 w2 (by decide)).mono ?_
  rintro e w3 ⟨g8, c8, rfl, hc8, hO, hb⟩
  have HN := hid (HU2.out.p.newer' hO)
  have HU3 := hid (HU2.out.below hb)
  have HB3 := hid (bel_below HB2.out.1 HB2.out.2 hb)
  have HV3 := hid (HV2.out.below hb)
  have HO := hid hO
  clear hO hb
  go_wp2_with fail
  refine (dWrite_of B g _ S1 w3 HU3.out.p 0 (by decide) _ c8 256 _ HO.out.slice'.2 (fullL_oct (by decide)) (fullL_len 99) hc8 (by decide) HN.out (by have := HS1.out.1; have := HS.out.1; omega) (by have := HS1.out.2; omega)).mono ?_
  rintro e w4 ⟨rfl, hs⟩
  obtain ⟨F4, hu, ht, hn⟩ := HU3.out.stepP hs
  have HB4 := hid (bel_step HB3.out.1 HB3.out.2 ht (fun q hq => (HU3.out.lt1 q hq).1))
  have HU4 := hid hu
  have HV4 := hid (HV3.out.tb ht (fun q hq h => HFo2.out q h hq))
  have HFo4 : Hid (∀ q, F4 q → ¬ Ff q) := hid (fun q hq h => by
    rcases hn q hq with h1 | h1
    · exact HFo2.out q h1 h
    · have := (HV3.out.lt q h).2; omega)
  clear hs hu ht hn
  obtain ⟨S2, hS2⟩ : ∃ s, Hid (s = S1.write 0 (fullL 99)) := ⟨_, rfl⟩
  have HS2 : Hid (S2.steps ≤ S.steps + 1) := hid (by rw [hS2.out]; have := (write_facts S1 0 (fullL 99)).2.1; have := HS1.out.1; omega)
  rw [← hS2.out] at HU4
  go_wp2_with fail
  refine (dSync_of B g _ S2 w4 HU4.out.p (by have := HS2.out; have := HS.out.1; omega)).mono ?_
  rintro e w5 ⟨rfl, hs⟩
  obtain ⟨F5, hu, ht, hn⟩ := HU4.out.stepP hs
  have HB5 := hid (bel_step HB4.out.1 HB4.out.2 ht (fun q hq => (HU4.out.lt1 q hq).1))
  have HU5 := hid hu
  have HV5 := hid (HV4.out.tb ht (fun q hq h => HFo4.out q h hq))
  have HFo5 : Hid (∀ q, F5 q → ¬ Ff q) := hid (fun q hq h => by
    rcases hn q hq with h1 | h1
    · exact HFo4.out q h1 h
    · have := (HV4.out.lt q h).2; omega)
  clear hs hu ht hn
  go_wp2_with fail
  go_ret2
  exact ⟨gf, Ff, F2, S, rfl, ⟨HV5.out, HU5.out.r, HD2.out, HU5.out.t, fun q hq => hq.elim (fun h => .inr (Nat.le_trans HSZ.out (HFF.out q h).1)) (fun h => HU5.out.c q (.inr h))⟩, HB5.out.1, HB5.out.2, rfl, Nat.le_succ _, Nat.le_succ _⟩

end Go.Proofs.Ytlbhoijjbpjmoaa
