/-
  The walk of AesBack.
-/
import Derived.Test.YtkomelkhkofaaaaAkn
import Derived.Test.YtkomelkhkofaaaaAdec
import Derived.Deep.CutRange
import Derived.Deep.DeepCutAuto
namespace Go.Proofs.Ytkomelkhkofaaaa
open Go.RowKit
set_option linter.unusedVariables false
set_option linter.unusedSimpArgs false

/-- The keys of a cipher that New made. -/
theorem new_any (p : Option Addr) (cap n : Nat) (xs : List Int) (w : World) (hp : Bin w p xs) (hx : Oct xs) (hl : xs.length = n) (hcap : n ≤ cap) (h : n = 16 ∨ n = 32) :
    Calls Try.prog 11 #[.slice p n cap] w fun e w' => ∃ c kb r F, e = .returned (.tuple #[.pointer (some ⟨c, 0, none⟩), .int .i64 0]) ∧
      Cip w' c kb r F ∧ Hid (r = n / 4 + 6 ∧ F = wordB (n / 4) (nats xs)) ∧ (1 ≤ r ∧ r ≤ 14) ∧ (∀ j, F j < 256) ∧ Below w.heap.size w w' := by
  rcases h with rfl | rfl
  · refine (new4_any p cap xs w hp hx hl hcap).mono ?_
    rintro e w' ⟨c, kb, he, hC, hb⟩
    exact ⟨c, kb, 10, _, he, hC, ⟨rfl, rfl⟩, ⟨by decide, by decide⟩, wordB_lt (nats_lt hx), hb⟩
  · refine (new8_any p cap xs w hp hx hl hcap).mono ?_
    rintro e w' ⟨c, kb, he, hC, hb⟩
    exact ⟨c, kb, 14, _, he, hC, ⟨rfl, rfl⟩, ⟨by decide, by decide⟩, wordB_lt (nats_lt hx), hb⟩

/-- What a row of blocks holds, and a cipher beside it. -/
def Bks (w0 : World) (c k r : Nat) (F : Nat → Nat) (bs : List (Nat × (Nat → Nat))) (w : World) : Prop := Cip w c k r F ∧ (∀ q ∈ bs, Arr w q.1 16 q.2) ∧ Below w0.heap.size w0 w
theorem Bks.grow {w0 w w' : World} {c k r : Nat} {F : Nat → Nat} {bs : List (Nat × (Nat → Nat))} (h : Bks w0 c k r F bs w) (hb : Below w.heap.size w w') : Bks w0 c k r F bs w' :=
  ⟨h.1.below hb, fun q hq => (h.2.1 q hq).below hb, h.2.2.trans (hb.mono h.2.2.size)⟩
theorem Cip.beside {w : World} {c k r g : Nat} {F : Nat → Nat} (h : Cip w c k r F) (hc : g ≠ c) (hk : g ≠ k) (vs : List Value) : Cip (w.setCells g 0 vs) c k r F := by
  obtain ⟨h0, h1, h2, h3⟩ := h
  have e : ∀ j, (w.setCells g 0 vs).cell? ⟨c, j, none⟩ = w.cell? ⟨c, j, none⟩ := fun j => World.cell?_setCells_out g vs 0 w ⟨c, j, none⟩ (fun hh _ => absurd hh.symm hc)
  exact ⟨by rw [e]; exact h0, fun x hx => by rw [e]; exact h1 x hx, fun x hx => by rw [e]; exact h2 x hx, fun j hj => by
    rw [World.frozen?_setCells, World.cell?_setCells_out g vs 0 w ⟨k, j, none⟩ (fun hh _ => absurd hh.symm hk)]; exact h3 j hj⟩
/-- A new block with x, behind a callee. -/
theorem Bks.new {w0 w : World} {c k r : Nat} {F : Nat → Nat} {bs : List (Nat × (Nat → Nat))} (h : Bks w0 c k r F bs w) (x : Nat → Nat) (t : TypeId) :
    Bks w0 c k r F ((w.heap.size, x) :: bs) ((w.alloc (.cells (vals 16 fun _ => 0).toArray t)).setCells w.heap.size 0 (vals 16 x)) ∧ Arr (w.alloc (.cells (vals 16 fun _ => 0).toArray t)) w.heap.size 16 (fun _ => 0) := by
  have hl := h.1.lt
  have hn := arr_new w 16 (fun _ => 0) t
  have hg := h.grow ((Below.refl w.heap.size w).alloc (Nat.le_refl _) (.cells (vals 16 fun _ => 0).toArray t))
  refine ⟨⟨hg.1.beside (by omega) (by omega) _, fun q hq => ?_, below_setCells _ 0 hg.2.2 h.2.2.size⟩, hn⟩
  rcases List.mem_cons.1 hq with rfl | hq
  · exact hn.put x
  · have := (h.2.1 q hq).lt (by decide)
    exact (hg.2.1 q hq).besidePut (by omega) 0 _
theorem Bks.at {w0 w : World} {c k r : Nat} {F : Nat → Nat} {bs : List (Nat × (Nat → Nat))} (h : Bks w0 c k r F bs w) {g : Nat} {x : Nat → Nat} (hm : (g, x) ∈ bs) : Arr w g 16 x := h.2.1 _ hm

theorem enc_same {F a b : Nat → Nat} (oF : ∀ j, F j < 256) (oa : ∀ j, a j < 256) (ob : ∀ j, b j < 256) (r : Nat) :
    ((List.range 16).all fun i => enc F r a i == enc F r b i) = ((List.range 16).all fun i => a i == b i) := by
  have all_iff : ∀ x y : Nat → Nat, ((List.range 16).all fun i => x i == y i) = true ↔ Eq16 x y := fun x y => by
    rw [List.all_eq_true]
    constructor
    · intro h j hj
      have := h j (List.mem_range.2 hj)
      rwa [beq_iff_eq] at this
    · intro h j hj
      rw [beq_iff_eq]
      exact h j (List.mem_range.1 hj)
  rw [Bool.eq_iff_iff, all_iff, all_iff]
  constructor
  · intro h
    exact (dec_enc oF oa r).symm.trans ((dec_congr F r h).trans (dec_enc oF ob r))
  · intro h
    exact enc_congr F r h

set_option maxHeartbeats 8000000 in
set_option maxRecDepth 100000 in
theorem back_law (p : Option Addr) (cap : Nat) (xs : List Int) (a b : Nat → Nat) (w : World) (hp : Bin w p xs) (hx : Oct xs) (hm : xs.length ≤ 140737488351232) (hcap : xs.length ≤ cap) (oa : ∀ j, a j < 256) (ob : ∀ j, b j < 256) :
    Calls Try.prog 7 #[.slice p xs.length cap, .agg (vals 16 a).toArray, .agg (vals 16 b).toArray] w fun e w' => e = .returned (.bool true) ∧ Below w.heap.size w w' := by
  have hzb := Try.zeroBlock
  obtain ⟨wa, hwa, b1, b2, hB, hsz⟩ := boxes2 w 16 a b 35 35
  obtain ⟨n, hn⟩ : ∃ n, n = xs.length := ⟨_, rfl⟩
  rw [← hn] at hm hcap ⊢
  have HN := hid hn
  clear hn
  go_enter Try.func7, Try.ntmps7
  go_wp2_with fail
  rw [← hwa.out]
  have hpa := hp.below hB
  by_cases h : n = 16 ∨ n = 32
  · refine (new_any p cap n xs _ hpa hx HN.out.symm hcap h).mono ?_
    rintro e w0 ⟨c, kb, r, F, rfl, hC, _, hr, oF, hb0⟩
    have hS : Bks w c kb r F [(w.heap.size, a), (w.heap.size + 1, b)] w0 := ⟨hC, fun q hq => by
      simp at hq
      rcases hq with rfl | rfl
      · exact b1.below hb0
      · exact b2.below hb0, hB.trans (hb0.mono hB.size)⟩
    clear hC hb0 b1 b2 hB hwa hpa hp hsz
    go_upto_region 6 with fail
    go_wp2_with (refine wpList_load_arr rfl 35 _ rfl w.heap.size rfl 16 a ?_ _ Try.underlying35 rfl Try.sizeBlock ?_; exact hS.at (by simp))
    refine (encrypt_any c kb r F a _ oF oa hr.1 hr.2 hS.1).mono ?_
    rintro e w1 ⟨rfl, hb1⟩
    obtain ⟨x, hx'⟩ : ∃ z, Hid (z = enc F r a) := ⟨_, rfl⟩
    have ox : ∀ j, x j < 256 := by rw [hx'.out]; exact enc_lt oF oa r
    rw [← hx'.out]
    obtain ⟨hS', hn⟩ := (hS.grow hb1).new x 35
    clear hS hb1
    go_upto_region 7 with (refine wpList_store_arr rfl 35 _ _ rfl w1.heap.size 16 x rfl rfl (fun _ => 0) ?_ Try.sizeBlock ?_; exact hn)
    clear hn
    obtain ⟨gx, hgx⟩ : ∃ g, Hid (g = w1.heap.size) := ⟨_, rfl⟩
    rw [← hgx.out] at hS' ⊢
    generalize (w1.alloc (.cells (vals 16 fun _ => 0).toArray 35)).setCells gx 0 (vals 16 x) = v1 at hS' ⊢
    have hS := hS'
    clear hS'
    go_wp2_with (refine wpList_load_arr rfl 35 _ rfl (w.heap.size + 1) rfl 16 b ?_ _ Try.underlying35 rfl Try.sizeBlock ?_; exact hS.at (by simp))
    refine (encrypt_any c kb r F b _ oF ob hr.1 hr.2 hS.1).mono ?_
    rintro e w2 ⟨rfl, hb2⟩
    obtain ⟨y, hy⟩ : ∃ z, Hid (z = enc F r b) := ⟨_, rfl⟩
    have oy : ∀ j, y j < 256 := by rw [hy.out]; exact enc_lt oF ob r
    rw [← hy.out]
    obtain ⟨hS', hn⟩ := (hS.grow hb2).new y 35
    clear hS hb2
    go_upto_region 8 with (refine wpList_store_arr rfl 35 _ _ rfl w2.heap.size 16 y rfl rfl (fun _ => 0) ?_ Try.sizeBlock ?_; exact hn)
    clear hn
    obtain ⟨gy, hgy⟩ : ∃ g, Hid (g = w2.heap.size) := ⟨_, rfl⟩
    rw [← hgy.out] at hS' ⊢
    generalize (w2.alloc (.cells (vals 16 fun _ => 0).toArray 35)).setCells gy 0 (vals 16 y) = v2 at hS' ⊢
    have hS := hS'
    clear hS'
    go_wp2_with (refine wpList_load_arr rfl 35 _ rfl gx rfl 16 x ?_ _ Try.underlying35 rfl Try.sizeBlock ?_; exact hS.at (by simp))
    refine (decrypt_any c kb r F x _ oF ox hr.1 hr.2 hS.1).mono ?_
    rintro e w3 ⟨rfl, hb3⟩
    obtain ⟨u, hu⟩ : ∃ z, Hid (z = dec F r x) := ⟨_, rfl⟩
    have ou : ∀ j, u j < 256 := by rw [hu.out]; exact dec_lt oF ox r
    rw [← hu.out]
    obtain ⟨hS', hn⟩ := (hS.grow hb3).new u 35
    clear hS hb3
    go_upto_region 9 with (refine wpList_store_arr rfl 35 _ _ rfl w3.heap.size 16 u rfl rfl (fun _ => 0) ?_ Try.sizeBlock ?_; exact hn)
    clear hn
    obtain ⟨gu, hgu⟩ : ∃ g, Hid (g = w3.heap.size) := ⟨_, rfl⟩
    rw [← hgu.out] at hS' ⊢
    generalize (w3.alloc (.cells (vals 16 fun _ => 0).toArray 35)).setCells gu 0 (vals 16 u) = v3 at hS' ⊢
    have hS := hS'
    clear hS'
    go_wp2_with (refine wpList_load_arr rfl 35 _ rfl (w.heap.size + 1) rfl 16 b ?_ _ Try.underlying35 rfl Try.sizeBlock ?_; exact hS.at (by simp))
    refine (decrypt_any c kb r F b _ oF ob hr.1 hr.2 hS.1).mono ?_
    rintro e w4 ⟨rfl, hb4⟩
    obtain ⟨v, hv⟩ : ∃ z, Hid (z = dec F r b) := ⟨_, rfl⟩
    have ov : ∀ j, v j < 256 := by rw [hv.out]; exact dec_lt oF ob r
    rw [← hv.out]
    obtain ⟨hS', hn⟩ := (hS.grow hb4).new v 35
    clear hS hb4
    go_upto_region 10 with (refine wpList_store_arr rfl 35 _ _ rfl w4.heap.size 16 v rfl rfl (fun _ => 0) ?_ Try.sizeBlock ?_; exact hn)
    clear hn
    obtain ⟨gv, hgv⟩ : ∃ g, Hid (g = w4.heap.size) := ⟨_, rfl⟩
    rw [← hgv.out] at hS' ⊢
    generalize (w4.alloc (.cells (vals 16 fun _ => 0).toArray 35)).setCells gv 0 (vals 16 v) = v4 at hS' ⊢
    have hS := hS'
    clear hS'
    go_wp2_with (refine wpList_load_arr rfl 35 _ rfl gv rfl 16 v ?_ _ Try.underlying35 rfl Try.sizeBlock ?_; exact hS.at (by simp))
    refine (encrypt_any c kb r F v _ oF ov hr.1 hr.2 hS.1).mono ?_
    rintro e w5 ⟨rfl, hb5⟩
    obtain ⟨t, ht⟩ : ∃ z, Hid (z = enc F r v) := ⟨_, rfl⟩
    have ot : ∀ j, t j < 256 := by rw [ht.out]; exact enc_lt oF ov r
    rw [← ht.out]
    obtain ⟨hS', hn⟩ := (hS.grow hb5).new t 35
    clear hS hb5
    go_upto_region 11 with (refine wpList_store_arr rfl 35 _ _ rfl w5.heap.size 16 t rfl rfl (fun _ => 0) ?_ Try.sizeBlock ?_; exact hn)
    clear hn
    obtain ⟨gt, hgt⟩ : ∃ g, Hid (g = w5.heap.size) := ⟨_, rfl⟩
    rw [← hgt.out] at hS' ⊢
    generalize (w5.alloc (.cells (vals 16 fun _ => 0).toArray 35)).setCells gt 0 (vals 16 t) = v5 at hS' ⊢
    have hS := hS'
    clear hS'
    go_wp2_with (refine wpList_load_arr rfl 35 _ rfl w.heap.size rfl 16 a ?_ _ Try.underlying35 rfl Try.sizeBlock ?_; exact hS.at (by simp))
    refine (encrypt_any c kb r F a _ oF oa hr.1 hr.2 hS.1).mono ?_
    rintro e w6 ⟨rfl, hb6⟩
    obtain ⟨s, hs'⟩ : ∃ z, Hid (z = enc F r a) := ⟨_, rfl⟩
    have os : ∀ j, s j < 256 := by rw [hs'.out]; exact enc_lt oF oa r
    rw [← hs'.out]
    obtain ⟨hS', hn⟩ := (hS.grow hb6).new s 35
    clear hS hb6
    go_upto_region 14 with (refine wpList_store_arr rfl 35 _ _ rfl w6.heap.size 16 s rfl rfl (fun _ => 0) ?_ Try.sizeBlock ?_; exact hn)
    clear hn
    obtain ⟨gs, hgs⟩ : ∃ g, Hid (g = w6.heap.size) := ⟨_, rfl⟩
    rw [← hgs.out] at hS' ⊢
    generalize (w6.alloc (.cells (vals 16 fun _ => 0).toArray 35)).setCells gs 0 (vals 16 s) = v6 at hS' ⊢
    have hS := hS'
    clear hS'
    have eu : Eq16 u a := by rw [hu.out, hx'.out]; exact dec_enc oF oa r
    have et : Eq16 t b := by rw [ht.out, hv.out]; exact enc_dec oF ob r
    have es : Eq16 s x := by rw [hs'.out, hx'.out]; exact Eq16.refl _
    obtain ⟨q, hq⟩ : ∃ q, ((List.range 16).all fun i => a i == b i) = q := ⟨_, rfl⟩
    have hxy : ((List.range 16).all fun i => x i == y i) = q := by rw [← hq, hx'.out, hy.out]; exact enc_same oF oa ob r
    have q1 := fun w => same16 u a true w (same16_yes eu)
    have q2 := fun w => same16 t b true w (same16_yes et)
    have q3 := fun w => same16 x y q w hxy
    have q4 := fun w => same16 a b q w hq
    have q5 := fun w => same16 s x true w (same16_yes es)
    have hub := Try.underlying35
    have hib := Try.sizeBlock
    clear eu et es hq hxy
    refine wp_region_z (Bks w c kb r F [(gs, s), (gt, t), (gv, v), (gu, u), (gy, y), (gx, x), (w.heap.size, a), (w.heap.size + 1, b)]) 26 (by kernel_rfl) (hS.grow (Below.refl _ _).drew) (fun hS => ?_)
    refine wpAnyZ_take (i := 0) rfl (by kernel_rfl) (by kernel_rfl) (by kernel_rfl) (by kernel_rfl) (fun _ _ _ h => h) hS (yieldsIf_load_mid (by kernel_rfl) 35 (.tmp 13) rfl gu 0 (by kernel_rfl) (vals 16 u) _ (fun w hS => (hS.at (by simp)).range) hub rfl hib) ?_
    simp only [Act.put, List.setIfInBounds_toArray, List.set_cons_zero, List.set_cons_succ]
    refine wpAnyZ_take (i := 1) rfl (by kernel_rfl) (by kernel_rfl) (by kernel_rfl) (by kernel_rfl) (fun _ _ _ h => h) hS (yieldsIf_load_mid (by kernel_rfl) 35 (.tmp 4) rfl w.heap.size 0 (by kernel_rfl) (vals 16 a) _ (fun w hS => (hS.at (by simp)).range) hub rfl hib) ?_
    simp only [Act.put, List.setIfInBounds_toArray, List.set_cons_zero, List.set_cons_succ]
    refine wpAnyZ_take (i := 2) (v := .bool true) rfl (by kernel_rfl) (by kernel_rfl) (by kernel_rfl) (by kernel_rfl) (fun _ _ _ h => h) hS (Or.inl ⟨by kernel_rfl, fun w hS => (by clear hS; go_simp)⟩) ?_
    simp only [Act.put, List.setIfInBounds_toArray, List.set_cons_zero, List.set_cons_succ]
    refine wpAnyZ_take (i := 3) (v := .bool true) rfl (by kernel_rfl) (by kernel_rfl) (by kernel_rfl) (by kernel_rfl) (fun _ _ _ h => h) hS (Or.inl ⟨by kernel_rfl, fun w hS => (by clear hS; go_simp)⟩) ?_
    simp only [Act.put, List.setIfInBounds_toArray, List.set_cons_zero, List.set_cons_succ]
    refine wpAnyZ_take (i := 4) rfl (by kernel_rfl) (by kernel_rfl) (by kernel_rfl) (by kernel_rfl) (fun _ _ _ h => h) hS (yieldsIf_load_mid (by kernel_rfl) 35 (.tmp 17) rfl gt 0 (by kernel_rfl) (vals 16 t) _ (fun w hS => (hS.at (by simp)).range) hub rfl hib) ?_
    simp only [Act.put, List.setIfInBounds_toArray, List.set_cons_zero, List.set_cons_succ]
    refine wpAnyZ_take (i := 5) rfl (by kernel_rfl) (by kernel_rfl) (by kernel_rfl) (by kernel_rfl) (fun _ _ _ h => h) hS (yieldsIf_load_mid (by kernel_rfl) 35 (.tmp 5) rfl (w.heap.size + 1) 0 (by kernel_rfl) (vals 16 b) _ (fun w hS => (hS.at (by simp)).range) hub rfl hib) ?_
    simp only [Act.put, List.setIfInBounds_toArray, List.set_cons_zero, List.set_cons_succ]
    refine wpAnyZ_take (i := 6) (v := .bool true) rfl (by kernel_rfl) (by kernel_rfl) (by kernel_rfl) (by kernel_rfl) (fun _ _ _ h => h) hS (Or.inl ⟨by kernel_rfl, fun w hS => (by clear hS; go_simp)⟩) ?_
    simp only [Act.put, List.setIfInBounds_toArray, List.set_cons_zero, List.set_cons_succ]
    refine wpAnyZ_take (i := 7) (v := .bool true) rfl (by kernel_rfl) (by kernel_rfl) (by kernel_rfl) (by kernel_rfl) (fun _ _ _ h => h) hS (Or.inl ⟨by kernel_rfl, fun w hS => (by clear hS; go_simp)⟩) ?_
    simp only [Act.put, List.setIfInBounds_toArray, List.set_cons_zero, List.set_cons_succ]
    refine wpAnyZ_take (i := 8) (v := .bool true) rfl (by kernel_rfl) (by kernel_rfl) (by kernel_rfl) (by kernel_rfl) (fun _ _ _ h => h) hS (Or.inl ⟨by kernel_rfl, fun w hS => (by clear hS; go_simp)⟩) ?_
    simp only [Act.put, List.setIfInBounds_toArray, List.set_cons_zero, List.set_cons_succ]
    refine wpAnyZ_take (i := 9) rfl (by kernel_rfl) (by kernel_rfl) (by kernel_rfl) (by kernel_rfl) (fun _ _ _ h => h) hS (yieldsIf_load_mid (by kernel_rfl) 35 (.tmp 9) rfl gx 0 (by kernel_rfl) (vals 16 x) _ (fun w hS => (hS.at (by simp)).range) hub rfl hib) ?_
    simp only [Act.put, List.setIfInBounds_toArray, List.set_cons_zero, List.set_cons_succ]
    refine wpAnyZ_take (i := 10) rfl (by kernel_rfl) (by kernel_rfl) (by kernel_rfl) (by kernel_rfl) (fun _ _ _ h => h) hS (yieldsIf_load_mid (by kernel_rfl) 35 (.tmp 11) rfl gy 0 (by kernel_rfl) (vals 16 y) _ (fun w hS => (hS.at (by simp)).range) hub rfl hib) ?_
    simp only [Act.put, List.setIfInBounds_toArray, List.set_cons_zero, List.set_cons_succ]
    refine wpAnyZ_take (i := 11) (v := .bool q) rfl (by kernel_rfl) (by kernel_rfl) (by kernel_rfl) (by kernel_rfl) (fun _ _ _ h => h) hS (Or.inl ⟨by kernel_rfl, fun w hS => (by clear hS; go_simp)⟩) ?_
    simp only [Act.put, List.setIfInBounds_toArray, List.set_cons_zero, List.set_cons_succ]
    refine wpAnyZ_take (i := 12) rfl (by kernel_rfl) (by kernel_rfl) (by kernel_rfl) (by kernel_rfl) (fun _ _ _ h => h) hS (yieldsIf_load_mid (by kernel_rfl) 35 (.tmp 4) rfl w.heap.size 0 (by kernel_rfl) (vals 16 a) _ (fun w hS => (hS.at (by simp)).range) hub rfl hib) ?_
    simp only [Act.put, List.setIfInBounds_toArray, List.set_cons_zero, List.set_cons_succ]
    refine wpAnyZ_take (i := 13) rfl (by kernel_rfl) (by kernel_rfl) (by kernel_rfl) (by kernel_rfl) (fun _ _ _ h => h) hS (yieldsIf_load_mid (by kernel_rfl) 35 (.tmp 5) rfl (w.heap.size + 1) 0 (by kernel_rfl) (vals 16 b) _ (fun w hS => (hS.at (by simp)).range) hub rfl hib) ?_
    simp only [Act.put, List.setIfInBounds_toArray, List.set_cons_zero, List.set_cons_succ]
    refine wpAnyZ_take (i := 14) (v := .bool q) rfl (by kernel_rfl) (by kernel_rfl) (by kernel_rfl) (by kernel_rfl) (fun _ _ _ h => h) hS (Or.inl ⟨by kernel_rfl, fun w hS => (by clear hS; go_simp)⟩) ?_
    simp only [Act.put, List.setIfInBounds_toArray, List.set_cons_zero, List.set_cons_succ]
    refine wpAnyZ_take (i := 15) (v := .bool true) rfl (by kernel_rfl) (by kernel_rfl) (by kernel_rfl) (by kernel_rfl) (fun _ _ _ h => h) hS (Or.inl ⟨by kernel_rfl, fun w hS => (by clear hS; go_simp)⟩) ?_
    simp only [Act.put, List.setIfInBounds_toArray, List.set_cons_zero, List.set_cons_succ]
    refine wpAnyZ_take (i := 16) (v := .bool true) rfl (by kernel_rfl) (by kernel_rfl) (by kernel_rfl) (by kernel_rfl) (fun _ _ _ h => h) hS (Or.inl ⟨by kernel_rfl, fun w hS => (by clear hS; go_simp)⟩) ?_
    simp only [Act.put, List.setIfInBounds_toArray, List.set_cons_zero, List.set_cons_succ]
    refine wpAnyZ_take (i := 17) (v := .bool true) rfl (by kernel_rfl) (by kernel_rfl) (by kernel_rfl) (by kernel_rfl) (fun _ _ _ h => h) hS (Or.inl ⟨by kernel_rfl, fun w hS => (by clear hS; go_simp)⟩) ?_
    simp only [Act.put, List.setIfInBounds_toArray, List.set_cons_zero, List.set_cons_succ]
    refine wpAnyZ_take (i := 18) rfl (by kernel_rfl) (by kernel_rfl) (by kernel_rfl) (by kernel_rfl) (fun _ _ _ h => h) hS (yieldsIf_load_mid (by kernel_rfl) 35 (.tmp 19) rfl gs 0 (by kernel_rfl) (vals 16 s) _ (fun w hS => (hS.at (by simp)).range) hub rfl hib) ?_
    simp only [Act.put, List.setIfInBounds_toArray, List.set_cons_zero, List.set_cons_succ]
    refine wpAnyZ_take (i := 19) rfl (by kernel_rfl) (by kernel_rfl) (by kernel_rfl) (by kernel_rfl) (fun _ _ _ h => h) hS (yieldsIf_load_mid (by kernel_rfl) 35 (.tmp 9) rfl gx 0 (by kernel_rfl) (vals 16 x) _ (fun w hS => (hS.at (by simp)).range) hub rfl hib) ?_
    simp only [Act.put, List.setIfInBounds_toArray, List.set_cons_zero, List.set_cons_succ]
    refine wpAnyZ_take (i := 20) (v := .bool true) rfl (by kernel_rfl) (by kernel_rfl) (by kernel_rfl) (by kernel_rfl) (fun _ _ _ h => h) hS (Or.inl ⟨by kernel_rfl, fun w hS => (by clear hS; go_simp)⟩) ?_
    simp only [Act.put, List.setIfInBounds_toArray, List.set_cons_zero, List.set_cons_succ]
    refine wpAnyZ_take (i := 21) (v := .bool true) rfl (by kernel_rfl) (by kernel_rfl) (by kernel_rfl) (by kernel_rfl) (fun _ _ _ h => h) hS (Or.inl ⟨by kernel_rfl, fun w hS => (by clear hS; go_simp)⟩) ?_
    simp only [Act.put, List.setIfInBounds_toArray, List.set_cons_zero, List.set_cons_succ]
    refine wpAnyZ_take (i := 22) (v := .bool true) rfl (by kernel_rfl) (by kernel_rfl) (by kernel_rfl) (by kernel_rfl) (fun _ _ _ h => h) hS (Or.inl ⟨by kernel_rfl, fun w hS => (by clear hS; go_simp)⟩) ?_
    simp only [Act.put, List.setIfInBounds_toArray, List.set_cons_zero, List.set_cons_succ]
    refine wpAnyZ_one (i := 23) (by kernel_rfl) rfl (fun K hK => ?_)
    go_simp
    go_at_call 14
    refine (known_any _).mono ?_
    rintro e w9 ⟨rfl, hb9⟩
    go_wp2_with fail
    refine hK.out _ _ (fun _ => hS.grow hb9) ?_
    replace hS := hS.grow hb9
    clear hK K
    try simp only [Act.put, List.setIfInBounds_toArray, List.set_cons_zero, List.set_cons_succ]
    refine wpAnyZ_take (i := 24) (v := .bool true) rfl (by kernel_rfl) (by kernel_rfl) (by kernel_rfl) (by kernel_rfl) (fun _ _ _ h => h) hS (Or.inl ⟨by kernel_rfl, fun w hS => (by clear hS; go_simp)⟩) ?_
    simp only [Act.put, List.setIfInBounds_toArray, List.set_cons_zero, List.set_cons_succ]
    refine wpAnyZ_one (i := 25) (by kernel_rfl) rfl (fun K hK => ?_)
    go_simp
    refine hK.out _ _ (fun _ => hS) ?_
    clear hK K
    try simp only [Act.put, List.setIfInBounds_toArray, List.set_cons_zero, List.set_cons_succ]
    refine wpAnyZ_done (by kernel_rfl) ?_ _
    go_wp2_with fail
    go_ret
    exact ⟨rfl, hS.2.2⟩
  · have h1 : ((n : Int) != 16) = true := by simp; omega
    have h2 : ((n : Int) != 32) = true := by simp; omega
    refine (new_no p cap n _ (fun e => h (.inl e)) (fun e => h (.inr e))).mono ?_
    rintro e w0 ⟨rfl, rfl⟩
    go_wp2_with fail
    refine (known_any _).mono ?_
    rintro e w1 ⟨rfl, hb1⟩
    go_wp2_with fail
    go_ret
    exact ⟨rfl, hB.trans (hb1.mono hB.size)⟩
end Go.Proofs.Ytkomelkhkofaaaa
