/-
  The program's pack: its reader.
-/
import Derived.Test.YtphmdjhmgmjmgaaPpk
import Derived.Test.YtphmdjhmgmjmgaaPx
import Derived.Test.YtphmdjhmgmjmgaaPru
import Derived.Test.YtphmdjhmgmjmgaaPgx
namespace Go.Proofs.Ytphmdjhmgmjmgaa
open Go.RowKit
set_option linter.unusedVariables false
set_option linter.unusedSimpArgs false

/-- The program's reader: the bytes xs, the place at0, the fault f; it lies in block g, its bytes in block k. -/
structure PRd (w : World) (g k : Nat) (xs : List Int) (at0 : Nat) (f : Int) : Prop where
  rd : ∃ p c, Rdr w g (.slice p xs.length c) at0 f ∧ Bin w p xs ∧ (∀ a, p = some a → a.block = k ∧ g ≠ k) ∧ xs.length ≤ c ∧ ((p = none ∧ c = 0) ∨ ∃ b o, p = some ⟨b, o, none⟩)
  lg : g < w.heap.size
  lk : k < w.heap.size
  le : at0 ≤ xs.length
  oc : Oct xs
  ml : xs.length ≤ 140737488351232
theorem PRd.grown {w w' : World} {g k : Nat} {xs : List Int} {at0 : Nat} {f : Int} {row : Option Nat} (h : PRd w g k xs at0 f) (hg : w.grownBy w' row) (h1 : some g ≠ row) (h2 : some k ≠ row) : PRd w' g k xs at0 f := by
  obtain ⟨⟨p, c, hr, hb, hk, hc, hs⟩, lg, lk, le, oc, ml⟩ := h
  have := hg.size
  exact ⟨⟨p, c, hr.grown hg h1, hb.grown hg (fun a ha => by rw [(hk a ha).1]; exact h2), hk, hc, hs⟩, by omega, by omega, le, oc, ml⟩
/-- As it is behind a step that turned its place and its fault. -/
theorem PRd.turned {w w' : World} {g k : Nat} {xs : List Int} {at0 at1 : Nat} {f e : Int} (h : PRd w g k xs at0 f) (hg : w.grownBy w' (some g)) (hr : ∀ p c, Rdr w g (.slice p xs.length c) at0 f → Rdr w' g (.slice p xs.length c) at1 e) (h1 : at1 ≤ xs.length) : PRd w' g k xs at1 e := by
  obtain ⟨⟨p, c, hR, hb, hk, hc, hs⟩, lg, lk, le, oc, ml⟩ := h
  have := hg.size
  exact ⟨⟨p, c, hr p c hR, hb.grown hg (fun a ha => by rw [(hk a ha).1]; intro h; injection h with h; exact (hk a ha).2 h.symm), hk, hc, hs⟩, by omega, by omega, h1, oc, ml⟩

theorem txt_le (ys : List Int) (most : Int) (ho : Oct ys) : (txt ys most).2.1 ≤ ys.length := by
  unfold txt
  by_cases h : txtE (tkn ys 0 0) most ys.length ≠ 0
  · rw [if_pos h]; exact Nat.zero_le _
  · rw [if_neg h]
    show (tkn ys 0 0).2.1 + (tkn ys 0 0).1 ≤ _
    have hk := tkn_k ys 0 0 (by omega)
    unfold txtE at h
    by_cases h1 : (tkn ys 0 0).2.2 ≠ 0
    · rw [if_pos h1] at h; exact absurd h1 h
    · rw [if_neg h1] at h
      by_cases h2 : (if most ≤ 0 then 0 < (tkn ys 0 0).1 else most < ((tkn ys 0 0).1 : Int))
      · rw [if_pos h2] at h; exact absurd (by decide) h
      · rw [if_neg h2] at h
        by_cases h3 : ys.length - (tkn ys 0 0).2.1 < (tkn ys 0 0).1
        · rw [if_pos h3] at h; exact absurd (by decide) h
        · omega
theorem Own.grown' {B n g : Nat} {w w' : World} {v : Value} {xs : List Int} (h : Own B w v n xs) (hg : w.grownBy w' (some g)) (hB : g < B) : Own B w' v n xs := by
  refine ⟨h.1, ?_⟩
  rcases h.2 with h2 | ⟨k, cap, cur, h1, h2, h3, h4⟩
  · exact .inl h2
  · have hlt : k < w.heap.size := (Array.getElem?_eq_some_iff.1 h3).1
    exact .inr ⟨k, cap, cur, h1, h2, (hg.block k hlt (by simp; omega)).trans h3, h4⟩
/-- What stands behind a place, and where. -/
theorem drop_slice' (p : Option Addr) (n c at0 : Nat) (xs : List Int) (hat : at0 ≤ n) (hnc : n ≤ c) (hl : xs.length = n) (hsp : (p = none ∧ c = 0) ∨ ∃ b o, p = some ⟨b, o, none⟩) : ∃ q : Option Addr,
    (∀ w, (Instr.sliceAt 24 (.slice p n c) (some (.int .i64 (at0 : Nat))) none none).run Try.prog w = .ok (.slice q (n - at0 : Nat) (c - at0 : Nat)) w) ∧ (∀ w, Bin w p xs → Bin w q (xs.drop at0)) ∧ ((q = none ∧ c - at0 = 0) ∨ ∃ b o, q = some ⟨b, o, none⟩) := by
  rcases hsp with ⟨rfl, rfl⟩ | ⟨b, o, rfl⟩
  · obtain rfl : n = 0 := by omega
    obtain rfl : at0 = 0 := by omega
    exact ⟨none, fun w => by kernel_rfl, fun w h => by rw [List.drop_zero]; exact h, .inl ⟨rfl, rfl⟩⟩
  · by_cases hc : c = at0
    · obtain rfl : n = at0 := by omega
      subst hc
      refine ⟨some ⟨b, o, none⟩, fun w => ?_, fun w h => ?_, .inr ⟨_, _, rfl⟩⟩
      · go_simp
      · rw [← hl, List.drop_length]
        exact Bin.nil _ _
    · refine ⟨some ⟨b, o + at0, none⟩, fun w => ?_, fun w h => bin_dropP h at0, .inr ⟨_, _, rfl⟩⟩
      have i7 : ¬ c = at0 := hc
      have i6 : (at0 : Int) ≤ (n : Int) := by omega
      have i5 : (at0 : Int) ≤ (c : Int) := by omega
      go_simp

set_option maxHeartbeats 4000000 in
set_option maxRecDepth 100000 in
theorem stopped_of (g at0 : Nat) (f : Int) (v : Value) (w : World) (h : Rdr w g v at0 f) :
    Calls Try.prog 27 #[.pointer (some ⟨g, 0, none⟩)] w fun e w' => e = .returned (.bool (decide (¬ f = 0))) ∧ w = w' := by
  obtain ⟨c0, c1, c2, z1, z2⟩ := h
  by_cases hf : f = 0
  · subst hf
    go_enter Try.func27, Try.ntmps27
    go_wp2
    go_ret
    exact ⟨rfl, rfl⟩
  · go_enter Try.func27, Try.ntmps27
    go_wp2
    go_ret
    exact ⟨by simp [hf], rfl⟩
set_option maxHeartbeats 4000000 in
set_option maxRecDepth 100000 in
theorem stopped_nil (w : World) : Calls Try.prog 27 #[.pointer none] w fun e w' => e = .returned (.bool true) ∧ w = w' := by
  go_enter Try.func27, Try.ntmps27
  go_wp2
  go_ret
  exact ⟨rfl, rfl⟩
set_option maxHeartbeats 4000000 in
set_option maxRecDepth 100000 in
theorem pass_of (g at0 size : Nat) (f e0 : Int) (v : Value) (w : World) (h : Rdr w g v at0 f) (hs : at0 + size ≤ 281474976710656) :
    Calls Try.prog 29 #[.pointer (some ⟨g, 0, none⟩), .int .i64 (size : Nat), .int .i64 e0] w fun e w' => e = .returned (.tuple #[]) ∧ Rdr w' g v (at0 + size) e0 ∧ w.grownBy w' (some g) := by
  have q2 := hid ((h.set1 (at0 + size)).set2 e0)
  have q3 := hid (gb_cell (gb_cell (gb_of (some g) (Below.refl w.heap.size w)) 1 (.int .i64 ((at0 + size : Nat) : Int))) 2 (.int .i64 e0))
  have r1 := h.set1 (at0 + size)
  obtain ⟨c0, c1, c2, z1, z2⟩ := h
  obtain ⟨d0, d1, d2, y1, y2⟩ := r1
  have hw : IntKind.i64.wrap ((at0 : Int) + (size : Int)) = (at0 : Int) + (size : Int) := i64_sum at0 size hs
  go_enter Try.func29, Try.ntmps29
  go_wp2
  go_end0
  exact ⟨rfl, q2.out, q3.out⟩
set_option maxHeartbeats 4000000 in
set_option maxRecDepth 100000 in
theorem prLeft_of (g k at0 : Nat) (f : Int) (xs : List Int) (w : World) (h : PRd w g k xs at0 f) :
    Calls Try.prog 23 #[.pointer (some ⟨g, 0, none⟩)] w fun e w' => e = .returned (.int .i64 ((xs.length - at0 : Nat) : Int)) ∧ PRd w' g k xs at0 f ∧ w.grownBy w' (some g) := by
  have H := hid h
  obtain ⟨⟨p, c, hr, _, _, _, _⟩, _, _, le, _, ml⟩ := h
  have HR := hid hr
  obtain ⟨c0, c1, c2, z1, z2⟩ := hr
  obtain ⟨n, hn⟩ : ∃ n, Hid (n = xs.length) := ⟨_, rfl⟩
  rw [← hn.out] at c0 le ml ⊢
  obtain ⟨d, hd⟩ : ∃ d, Hid (d = n - at0) := ⟨_, rfl⟩
  have hds := hd.out
  rw [← hds]
  have i1 : (n : Int) - (at0 : Int) = (d : Int) := by omega
  have i2 : IntKind.i64.wrap (d : Int) = (d : Int) := by simp [IntKind.wrap, IntKind.signed, IntKind.bits]; omega
  clear hds
  go_enter Try.func23, Try.ntmps23
  go_upto_region 3 with fail
  go_quiet (fail)
  rename_i nq
  go_wp2
  go_ret
  exact ⟨rfl, H.out.grown (gb_drewN (gb_of none (Below.refl w.heap.size w)) nq) (by simp) (by simp), gb_drewN (gb_of _ (Below.refl w.heap.size w)) nq⟩
set_option maxHeartbeats 4000000 in
set_option maxRecDepth 100000 in
theorem prDone_of (g k at0 : Nat) (f : Int) (xs : List Int) (w : World) (h : PRd w g k xs at0 f) :
    Calls Try.prog 24 #[.pointer (some ⟨g, 0, none⟩)] w fun e w' => e = .returned (.tuple #[.int .i64 (rdDone xs.length at0 f), .int .i64 (at0 : Nat)]) ∧ PRd w' g k xs at0 f ∧ w.grownBy w' (some g) := by
  have HL := hid (fun (wx : World) (hx : PRd wx g k xs at0 f) => prLeft_of g k at0 f xs wx hx)
  have H := hid h
  obtain ⟨n, hn⟩ : ∃ n, Hid (n = xs.length) := ⟨_, rfl⟩
  have le := h.le
  rw [← hn.out] at HL le ⊢
  by_cases hf : f = 0
  · subst hf
    obtain ⟨d, hd⟩ : ∃ d, Hid (d = n - at0) := ⟨_, rfl⟩
    have hds := hd.out
    rw [← hds] at HL
    obtain ⟨⟨p, c, hr, _, _, _, _⟩, _, _, _, _, ml⟩ := h
    obtain ⟨c0, c1, c2, z1, z2⟩ := hr
    by_cases hl : at0 < n
    · have e : rdDone n at0 0 = 5 := if_pos ⟨rfl, hl⟩
      rw [e]
      clear e
      have i1 : (0 : Int) < (d : Int) := by omega
      clear hds
      go_enter Try.func24, Try.ntmps24
      go_wp2_with fail
      refine (HL.out _ H.out).mono ?_
      rintro e w1 ⟨rfl, h1, hg1⟩
      have H1 := hid h1
      obtain ⟨⟨p1, d1, hr1, _⟩, _⟩ := h1
      have HG := hid hg1
      obtain ⟨k0, k1, k2, x1, x2⟩ := hr1
      clear HL c0 c1 c2 z1 z2 hg1
      go_wp2
      go_quiet (fail)
      rename_i nq
      go_wp2
      go_ret2
      exact ⟨rfl, H1.out.grown (gb_drewN (gb_of none (Below.refl _ _)) nq) (by simp) (by simp), gb_drewN HG.out nq⟩
    · have e : rdDone n at0 0 = 0 := if_neg (fun h => hl h.2)
      rw [e]
      clear e
      have i1 : ¬ (0 : Int) < (d : Int) := by omega
      clear hds
      go_enter Try.func24, Try.ntmps24
      go_wp2_with fail
      refine (HL.out _ H.out).mono ?_
      rintro e w1 ⟨rfl, h1, hg1⟩
      have H1 := hid h1
      obtain ⟨⟨p1, d1, hr1, _⟩, _⟩ := h1
      have HG := hid hg1
      obtain ⟨k0, k1, k2, x1, x2⟩ := hr1
      clear HL c0 c1 c2 z1 z2 hg1
      go_wp2
      go_quiet (fail)
      rename_i nq
      go_wp2
      go_ret2
      exact ⟨rfl, H1.out.grown (gb_drewN (gb_of none (Below.refl _ _)) nq) (by simp) (by simp), gb_drewN HG.out nq⟩
  · have e : rdDone n at0 f = f := if_neg (fun h => hf h.1)
    rw [e]
    clear e
    obtain ⟨⟨p, c, hr, _, _, _, _⟩, _, _, _, _, ml⟩ := h
    obtain ⟨c0, c1, c2, z1, z2⟩ := hr
    go_enter Try.func24, Try.ntmps24
    go_wp2
    go_quiet (fail)
    rename_i nq
    go_wp2
    go_ret2
    exact ⟨rfl, H.out.grown (gb_drewN (gb_of none (Below.refl _ _)) nq) (by simp) (by simp), gb_drewN (gb_of _ (Below.refl w.heap.size w)) nq⟩

set_option maxHeartbeats 4000000 in
set_option maxRecDepth 100000 in
theorem prNum_nil (w : World) : Calls Try.prog 17 #[.pointer none] w fun e w' => e = .returned (.int .u64 0) ∧ Below w.heap.size w w' := by
  go_enter Try.func17, Try.ntmps17
  go_wp2_with fail
  refine (stopped_nil _).mono ?_
  rintro e w1 ⟨rfl, rfl⟩
  go_wp2
  go_ret
  exact ⟨rfl, Below.refl _ _⟩
set_option maxHeartbeats 4000000 in
set_option maxRecDepth 100000 in
theorem prByte_nil (w : World) : Calls Try.prog 19 #[.pointer none] w fun e w' => e = .returned (.int .u8 0) ∧ Below w.heap.size w w' := by
  go_enter Try.func19, Try.ntmps19
  go_wp2_with fail
  refine (stopped_nil _).mono ?_
  rintro e w1 ⟨rfl, rfl⟩
  go_wp2
  go_ret
  exact ⟨rfl, Below.refl _ _⟩
set_option maxHeartbeats 4000000 in
set_option maxRecDepth 100000 in
theorem prText_nil (most : Int) (w : World) : Calls Try.prog 21 #[.pointer none, .int .i64 most] w fun e w' => e = .returned (.slice none 0 0) ∧ Below w.heap.size w w' := by
  go_enter Try.func21, Try.ntmps21
  go_wp2_with fail
  refine (stopped_nil _).mono ?_
  rintro e w1 ⟨rfl, rfl⟩
  go_wp2
  go_ret
  exact ⟨rfl, Below.refl _ _⟩
set_option maxHeartbeats 4000000 in
set_option maxRecDepth 100000 in
theorem prLeft_nil (w : World) : Calls Try.prog 23 #[.pointer none] w fun e w' => e = .returned (.int .i64 0) ∧ Below w.heap.size w w' := by
  go_enter Try.func23, Try.ntmps23
  go_wp2
  go_ret
  exact ⟨rfl, Below.refl _ _⟩
set_option maxHeartbeats 4000000 in
set_option maxRecDepth 100000 in
theorem prDone_nil (w : World) : Calls Try.prog 24 #[.pointer none] w fun e w' => e = .returned (.tuple #[.int .i64 1, .int .i64 0]) ∧ Below w.heap.size w w' := by
  go_enter Try.func24, Try.ntmps24
  go_wp2
  go_ret2
  exact ⟨rfl, Below.refl _ _⟩

theorem rdr_new7 (w : World) (v : Value) (t : TypeId) : Rdr (w.alloc (.cells #[v, .int .i64 0, .int .i64 0] t)) w.heap.size v 0 0 := by
  refine ⟨?_, ?_, ?_, ?_, ?_⟩ <;> simp
set_option maxHeartbeats 4000000 in
set_option maxRecDepth 100000 in
theorem newReader_of (p : Option Addr) (c n : Nat) (bs : List Int) (w : World) (hp : Bin w p bs) (ho : Oct bs) (hl : bs.length = n) (hc : n ≤ c) (hm : n ≤ 140737488351232) :
    Calls Try.prog 16 #[.slice p n c] w fun e w' => ∃ g k, e = .returned (.pointer (some ⟨g, 0, none⟩)) ∧ PRd w' g k bs 0 0 ∧ w.heap.size ≤ g ∧ w.heap.size ≤ k ∧ Below w.heap.size w w' := by
  have hcl := clone_of p c n bs w hp hl hm
  have HO := hid ho
  have HL := hid hl
  clear hl ho
  go_enter Try.func16, Try.ntmps16
  go_wp2_with fail
  refine hcl.mono ?_
  rintro e w1 ⟨v, rfl, hO, hB⟩
  have HB := hid hB
  have hsz := hB.size
  rcases hO.shape with ⟨rfl, rfl⟩ | ⟨k, c1, rfl, hk, hc1⟩
  · have hR := rdr_new7 w1 (.slice none 0 0) 53
    have HR := hid hR
    obtain rfl : bs = [] := List.length_eq_zero_iff.1 HL.out
    have HB2 := hid (HB.out.alloc hsz (.cells #[.slice none 0 0, .int .i64 0, .int .i64 0] 53))
    clear hB hO hcl
    go_wp2
    go_ret
    exact ⟨_, w1.heap.size, rfl, ⟨⟨none, 0, HR.out, Bin.nil _ _, (fun a ha => by cases ha), Nat.le_refl _, .inl ⟨rfl, rfl⟩⟩, by simp, by simp, Nat.le_refl _, HO.out, by simp⟩, hsz, hsz, HB2.out⟩
  · have hR := rdr_new7 w1 (.slice (some ⟨k, 0, none⟩) n c1) 53
    have hbn := hO.slice'.2.below ((Below.refl w1.heap.size w1).alloc (Nat.le_refl _) (.cells #[.slice (some ⟨k, 0, none⟩) n c1, .int .i64 0, .int .i64 0] 53))
    have hkl : k < w1.heap.size := (World.ownsRow.lt hO k rfl).2
    have HR := hid hR
    have HN := hid hbn
    have HB2 := hid (HB.out.alloc hsz (.cells #[.slice (some ⟨k, 0, none⟩) n c1, .int .i64 0, .int .i64 0] 53))
    clear hB hO hcl hR hbn
    go_wp2
    go_ret
    refine ⟨_, k, rfl, ⟨⟨some ⟨k, 0, none⟩, c1, by rw [HL.out]; exact HR.out, HN.out, (fun a ha => by cases ha; exact ⟨rfl, by omega⟩), by rw [HL.out]; exact hc1, .inr ⟨k, 0, rfl⟩⟩, by simp, by simp; omega, Nat.zero_le _, HO.out, by rw [HL.out]; exact hm⟩, hsz, hk, HB2.out⟩
set_option maxHeartbeats 4000000 in
set_option maxRecDepth 100000 in
theorem prNum_of (g k at0 : Nat) (f : Int) (xs : List Int) (w : World) (h : PRd w g k xs at0 f) :
    Calls Try.prog 17 #[.pointer (some ⟨g, 0, none⟩)] w fun e w' => e = .returned (.int .u64 ((rdNum xs at0 f).1 : Nat)) ∧ PRd w' g k xs (rdNum xs at0 f).2.1 (rdNum xs at0 f).2.2 ∧ w.grownBy w' (some g) := by
  have H := hid h
  obtain ⟨⟨p, c, hR, hp, hk, hnc, hsp⟩, lg, lk, hat, ho, hm⟩ := h
  have hst := stopped_of g at0 f _ w hR
  have HRR := hid hR
  have hg0 := hid (gb_of (some g) (Below.refl w.heap.size w))
  by_cases hf : f = 0
  · have e : rdNum xs at0 f = ((tkn (xs.drop at0) 0 0).1, at0 + (tkn (xs.drop at0) 0 0).2.1, (tkn (xs.drop at0) 0 0).2.2) := by unfold rdNum; rw [if_pos hf]
    rw [e]
    clear e
    subst hf
    have hk1 : at0 + (tkn (xs.drop at0) 0 0).2.1 ≤ xs.length := by
      have := tkn_k (xs.drop at0) 0 0 (by omega)
      rw [List.length_drop] at this
      omega
    obtain ⟨n, hn⟩ : ∃ n, Hid (n = xs.length) := ⟨_, rfl⟩
    have hl := hn.out.symm
    rw [hl] at hnc hm hat HRR hk1
    have htk := fun (p' : Option Addr) (c' : Nat) (w' : World) h => (number_of p' c' (n - at0) (xs.drop at0) w' h (ho.drop at0) (by rw [List.length_drop, hl]) (by omega)).mono (fun e w2 h => (And.intro h.1 h.2.symm : _ ∧ w2 = w'))
    obtain ⟨T, hT⟩ : ∃ T, Hid (T = tkn (xs.drop at0) 0 0) := ⟨_, rfl⟩
    rw [← hT.out] at htk hk1 ⊢
    obtain ⟨t0, t1, t2⟩ := T
    simp only at htk hk1 ⊢
    have HTK := hid htk
    obtain ⟨q, hq, hqb⟩ := drop_slice p n c at0 xs hat hnc hl hsp
    have HQ := hid hq
    have hbd := hid hqb
    have HPass := hid (fun (wx : World) (hx : Rdr wx g (.slice p n c) at0 0) => pass_of g at0 t1 0 t2 _ wx hx (by omega))
    have HX := hid (And.intro hk1 hl)
    have HC0 := hid HRR.out.c0
    clear htk hq hqb hR hk1 hl ho
    go_enter Try.func17, Try.ntmps17
    go_wp2_with fail
    refine hst.mono ?_
    rintro e w1 ⟨rfl, rfl⟩
    clear hst
    go_upto_region 3 with fail
    have hS0 : (fun v => Rdr v g (.slice p n c) at0 0 ∧ Bin v p xs ∧ w.grownBy v (some g)) w.drew := ⟨HRR.out.drewN 1, hp, gb_drewN hg0.out 1⟩
    clear hp HRR hg0
    refine wp_region_z (fun v => Rdr v g (.slice p n c) at0 0 ∧ Bin v p xs ∧ w.grownBy v (some g)) 17 (by kernel_rfl) hS0 (fun hS => ?_)
    clear hS0
    generalize World.drew _ = w9 at hS ⊢
    refine wpAnyZ_take (i := 0) (v := .pointer (some ⟨g, 0, none⟩)) rfl (by kernel_rfl) (by kernel_rfl) (by kernel_rfl) (by kernel_rfl) (fun _ _ _ h => h) hS (Or.inl ⟨by kernel_rfl, fun w hS => (by clear hS; go_simp)⟩) ?_
    simp only [Act.put, List.setIfInBounds_toArray, List.set_cons_zero, List.set_cons_succ]
    refine wpAnyZ_take (i := 1) (v := .pointer (some ⟨g, 0, none⟩)) rfl (by kernel_rfl) (by kernel_rfl) (by kernel_rfl) (by kernel_rfl) (fun _ _ _ h => h) hS (Or.inl ⟨by kernel_rfl, fun w hS => (by clear hS; go_simp)⟩) ?_
    simp only [Act.put, List.setIfInBounds_toArray, List.set_cons_zero, List.set_cons_succ]
    refine wpAnyZ_take (i := 2) (v := .pointer (some ⟨g, 0, none⟩)) rfl (by kernel_rfl) (by kernel_rfl) (by kernel_rfl) (by kernel_rfl) (fun _ _ _ h => h) hS (Or.inl ⟨by kernel_rfl, fun w hS => (by clear hS; go_simp)⟩) ?_
    simp only [Act.put, List.setIfInBounds_toArray, List.set_cons_zero, List.set_cons_succ]
    refine wpAnyZ_take (i := 3) (v := .slice p n c) rfl (by kernel_rfl) (by kernel_rfl) (by kernel_rfl) (by kernel_rfl) (fun _ _ _ h => h) hS (Or.inl ⟨by kernel_rfl, fun w hS => (by have hc := hS.1.c0; clear hS; go_simp)⟩) ?_
    simp only [Act.put, List.setIfInBounds_toArray, List.set_cons_zero, List.set_cons_succ]
    refine wpAnyZ_take (i := 4) (v := .pointer (some ⟨g, 0, none⟩)) rfl (by kernel_rfl) (by kernel_rfl) (by kernel_rfl) (by kernel_rfl) (fun _ _ _ h => h) hS (Or.inl ⟨by kernel_rfl, fun w hS => (by clear hS; go_simp)⟩) ?_
    simp only [Act.put, List.setIfInBounds_toArray, List.set_cons_zero, List.set_cons_succ]
    refine wpAnyZ_take (i := 5) (v := .pointer (some ⟨g, 0, none⟩)) rfl (by kernel_rfl) (by kernel_rfl) (by kernel_rfl) (by kernel_rfl) (fun _ _ _ h => h) hS (Or.inl ⟨by kernel_rfl, fun w hS => (by clear hS; go_simp)⟩) ?_
    simp only [Act.put, List.setIfInBounds_toArray, List.set_cons_zero, List.set_cons_succ]
    refine wpAnyZ_take (i := 6) (v := .pointer (some ⟨g, 1, none⟩)) rfl (by kernel_rfl) (by kernel_rfl) (by kernel_rfl) (by kernel_rfl) (fun _ _ _ h => h) hS (Or.inl ⟨by kernel_rfl, fun w hS => (by clear hS; go_simp)⟩) ?_
    simp only [Act.put, List.setIfInBounds_toArray, List.set_cons_zero, List.set_cons_succ]
    refine wpAnyZ_take (i := 7) (v := .int .i64 (at0 : Nat)) rfl (by kernel_rfl) (by kernel_rfl) (by kernel_rfl) (by kernel_rfl) (fun _ _ _ h => h) hS (Or.inl ⟨by kernel_rfl, fun w hS => (by have hc := hS.1.c1; clear hS; go_simp)⟩) ?_
    simp only [Act.put, List.setIfInBounds_toArray, List.set_cons_zero, List.set_cons_succ]
    refine wpAnyZ_take (i := 8) (v := .slice q (n - at0) (c - at0)) rfl (by kernel_rfl) (by kernel_rfl) (by kernel_rfl) (by kernel_rfl) (fun _ _ _ h => h) hS (Or.inl ⟨by kernel_rfl, fun w hS => (by have hc := HQ.out; clear hS; go_simp)⟩) ?_
    simp only [Act.put, List.setIfInBounds_toArray, List.set_cons_zero, List.set_cons_succ]
    refine wpAnyZ_one (i := 9) (by kernel_rfl) rfl (fun K hK => ?_)
    go_simp
    go_at_call 28
    refine (HTK.out _ _ _ (hbd.out _ hS.2.1)).mono ?_
    rintro e v8 ⟨rfl, rfl⟩
    go_wp2_with fail
    refine hK.out _ _ (fun _ => hS) ?_
    clear hK K
    try simp only [Act.put, List.setIfInBounds_toArray, List.set_cons_zero, List.set_cons_succ]
    refine wpAnyZ_take (i := 10) (v := .tuple #[.int .u64 (t0 : Nat), .int .i64 (t1 : Nat), .int .i64 t2]) rfl (by kernel_rfl) (by kernel_rfl) (by kernel_rfl) (by kernel_rfl) (fun _ _ _ h => h) hS (Or.inl ⟨by kernel_rfl, fun w hS => (by clear hS; go_simp)⟩) ?_
    simp only [Act.put, List.setIfInBounds_toArray, List.set_cons_zero, List.set_cons_succ]
    refine wpAnyZ_take (i := 11) (v := .int .u64 (t0 : Nat)) rfl (by kernel_rfl) (by kernel_rfl) (by kernel_rfl) (by kernel_rfl) (fun _ _ _ h => h) hS (Or.inl ⟨by kernel_rfl, fun w hS => (by clear hS; go_simp)⟩) ?_
    simp only [Act.put, List.setIfInBounds_toArray, List.set_cons_zero, List.set_cons_succ]
    refine wpAnyZ_take (i := 12) (v := .int .i64 (t1 : Nat)) rfl (by kernel_rfl) (by kernel_rfl) (by kernel_rfl) (by kernel_rfl) (fun _ _ _ h => h) hS (Or.inl ⟨by kernel_rfl, fun w hS => (by clear hS; go_simp)⟩) ?_
    simp only [Act.put, List.setIfInBounds_toArray, List.set_cons_zero, List.set_cons_succ]
    refine wpAnyZ_take (i := 13) (v := .int .i64 t2) rfl (by kernel_rfl) (by kernel_rfl) (by kernel_rfl) (by kernel_rfl) (fun _ _ _ h => h) hS (Or.inl ⟨by kernel_rfl, fun w hS => (by clear hS; go_simp)⟩) ?_
    simp only [Act.put, List.setIfInBounds_toArray, List.set_cons_zero, List.set_cons_succ]
    refine wpAnyZ_one (i := 14) (by kernel_rfl) rfl (fun K hK => ?_)
    go_simp
    refine hK.out _ _ (fun _ => hS) ?_
    clear hK K
    try simp only [Act.put, List.setIfInBounds_toArray, List.set_cons_zero, List.set_cons_succ]
    refine wpAnyZ_one (i := 15) (by kernel_rfl) rfl (fun K hK => ?_)
    go_simp
    refine hK.out _ _ (fun _ => hS) ?_
    clear hK K
    try simp only [Act.put, List.setIfInBounds_toArray, List.set_cons_zero, List.set_cons_succ]
    refine wpAnyZ_one (i := 16) (by kernel_rfl) rfl (fun K hK => ?_)
    go_simp
    refine hK.out _ _ (fun _ => hS) ?_
    clear hK K
    try simp only [Act.put, List.setIfInBounds_toArray, List.set_cons_zero, List.set_cons_succ]
    refine wpAnyZ_done (by kernel_rfl) ?_ _
    go_wp2_with fail
    refine (HPass.out _ hS.1).mono ?_
    rintro e w2 ⟨rfl, hr2, hg2⟩
    have hgg := hid (gb_trans hS.2.2 hg2)
    have HR2 := hid hr2
    clear hS hg2 hr2
    go_wp2
    go_ret
    refine ⟨rfl, H.out.turned hgg.out (fun p' c' hr' => ?_) (by rw [HX.out.2]; exact HX.out.1), hgg.out⟩
    have e0 := HC0.out.symm.trans (HX.out.2 ▸ hr'.c0)
    injection e0 with e1
    injection e1 with e2 e3 e4
    subst e2
    subst e4
    rw [HX.out.2]
    exact HR2.out
  · have e : rdNum xs at0 f = (0, at0, f) := by unfold rdNum; rw [if_neg hf]
    rw [e]
    clear e
    have hd : decide (¬ f = 0) = true := by simpa using hf
    rw [hd] at hst
    go_enter Try.func17, Try.ntmps17
    go_wp2_with fail
    refine hst.mono ?_
    rintro e w1 ⟨rfl, rfl⟩
    go_wp2
    go_ret
    exact ⟨rfl, H.out, hg0.out⟩

set_option maxHeartbeats 4000000 in
set_option maxRecDepth 100000 in
theorem prByte_of (g k at0 : Nat) (f : Int) (xs : List Int) (w : World) (h : PRd w g k xs at0 f) :
    Calls Try.prog 19 #[.pointer (some ⟨g, 0, none⟩)] w fun e w' => e = .returned (.int .u8 (rdByte xs at0 f).1) ∧ PRd w' g k xs (rdByte xs at0 f).2.1 (rdByte xs at0 f).2.2 ∧ w.grownBy w' (some g) := by
  have H := hid h
  obtain ⟨⟨p, c, hR, hp, hk, hnc, hsp⟩, lg, lk, hat, ho, hm⟩ := h
  have hst := stopped_of g at0 f _ w hR
  have hg0 := hid (gb_of (some g) (Below.refl w.heap.size w))
  by_cases hf : f = 0
  · subst hf
    have HL := hid (prLeft_of g k at0 0 xs w H.out)
    obtain ⟨n, hn⟩ : ∃ n, Hid (n = xs.length) := ⟨_, rfl⟩
    have hl := hn.out.symm
    rw [hl] at HL hat hm
    obtain ⟨d, hd⟩ : ∃ d, Hid (d = n - at0) := ⟨_, rfl⟩
    have hds := hd.out
    rw [← hds] at HL
    by_cases h : at0 < n
    · have e : rdByte xs at0 0 = (xs.getD at0 0, at0 + 1, 0) := by unfold rdByte; rw [if_pos rfl, if_pos (by omega)]
      rw [e]
      clear e
      obtain ⟨x, hx⟩ : ∃ x, Hid (x = xs.getD at0 0) := ⟨_, rfl⟩
      rw [← hx.out]
      have i1 : ¬ (d : Int) = 0 := by omega
      have HX := hid (And.intro h hl)
      clear hds hR hp hk hnc hsp
      go_enter Try.func19, Try.ntmps19
      go_wp2_with fail
      refine hst.mono ?_
      rintro e w1 ⟨rfl, rfl⟩
      clear hst
      go_wp2_with fail
      refine HL.out.mono ?_
      rintro e w1 ⟨rfl, h1, hg1⟩
      have H1 := hid h1
      have HG := hid hg1
      obtain ⟨⟨p, c, hR, hp, hk, hnc, hsp⟩, _⟩ := h1
      have HR := hid hR
      obtain ⟨c0, c1, c2, z1, z2⟩ := hR
      obtain ⟨b, o, rfl, _, hc⟩ := hp.at (by omega)
      have hck := hc at0 (by omega)
      rw [← hx.out] at hck
      rw [hl] at c0
      have i3 : (at0 : Int) < (n : Int) := by omega
      have HPass := hid (fun (nq : Nat) => pass_of g at0 1 0 0 _ (w1.drewN nq) (HR.out.drewN nq) (by omega))
      clear HL hc hg1 hp hk hnc hsp hl
      go_upto_region 6 with fail
      go_quiet (fail)
      rename_i nq
      go_wp2_with fail
      refine (HPass.out nq).mono ?_
      rintro e w2 ⟨rfl, hr2, hg2⟩
      have HG2 := hid (gb_trans (gb_drewN (gb_of (some g) (Below.refl w1.heap.size w1)) nq) hg2)
      have HR2 := hid hr2
      have HC0 := hid HR.out.c0
      clear hr2 hg2 HPass c0 c1 c2 z1 z2 hck
      go_wp2
      go_ret
      refine ⟨rfl, H1.out.turned HG2.out (fun p' c' hr' => ?_) (by have := HX.out; omega), gb_trans HG.out HG2.out⟩
      have e0 := HC0.out.symm.trans hr'.c0
      injection e0 with e1
      injection e1 with e2 e3 e4
      subst e2
      subst e4
      exact HR2.out
    · have e : rdByte xs at0 0 = (0, at0, 4) := by unfold rdByte; rw [if_pos rfl, if_neg (by omega)]
      rw [e]
      clear e
      have i1 : d = 0 := by omega
      subst i1
      have HX := hid hl
      clear hds hR hp hk hnc hsp
      go_enter Try.func19, Try.ntmps19
      go_wp2_with fail
      refine hst.mono ?_
      rintro e w1 ⟨rfl, rfl⟩
      clear hst
      go_wp2_with fail
      refine HL.out.mono ?_
      rintro e w1 ⟨rfl, h1, hg1⟩
      have H1 := hid h1
      have HG := hid hg1
      obtain ⟨⟨p, c, hR, hp, hk, hnc, hsp⟩, _⟩ := h1
      have HR := hid hR
      have HPass := hid (pass_of g at0 0 0 4 _ w1 HR.out (by omega))
      clear HL hg1 hR hp hk hnc hsp hl
      go_wp2_with fail
      refine HPass.out.mono ?_
      rintro e w2 ⟨rfl, hr2, hg2⟩
      have HG2 := hid hg2
      have HR2 := hid hr2
      have HC0 := hid HR.out.c0
      clear hr2 hg2 HPass
      go_wp2
      go_ret
      refine ⟨rfl, H1.out.turned HG2.out (fun p' c' hr' => ?_) (by have := HX.out; omega), gb_trans HG.out HG2.out⟩
      have e0 := HC0.out.symm.trans hr'.c0
      injection e0 with e1
      injection e1 with e2 e3 e4
      subst e2
      subst e4
      exact HR2.out
  · have e : rdByte xs at0 f = (0, at0, f) := by unfold rdByte; rw [if_neg hf]
    rw [e]
    clear e
    have hd : decide (¬ f = 0) = true := by simpa using hf
    rw [hd] at hst
    go_enter Try.func19, Try.ntmps19
    go_wp2_with fail
    refine hst.mono ?_
    rintro e w1 ⟨rfl, rfl⟩
    go_wp2
    go_ret
    exact ⟨rfl, H.out, hg0.out⟩
set_option maxHeartbeats 4000000 in
set_option maxRecDepth 100000 in
theorem prText_of (g k at0 : Nat) (f most : Int) (xs : List Int) (w : World) (h : PRd w g k xs at0 f) (hmo : (Lit.int .i64 most).wf = true) :
    Calls Try.prog 21 #[.pointer (some ⟨g, 0, none⟩), .int .i64 most] w fun e w' => ∃ v, e = .returned v ∧ Own w.heap.size w' v (rdText xs most at0 f).1.length (rdText xs most at0 f).1 ∧ PRd w' g k xs (rdText xs most at0 f).2.1 (rdText xs most at0 f).2.2 ∧ w.grownBy w' (some g) := by
  have H := hid h
  obtain ⟨⟨p, c, hR, hp, hk, hnc, hsp⟩, lg, lk, hat, ho, hm⟩ := h
  have hst := stopped_of g at0 f _ w hR
  have HRR := hid hR
  have hg0 := hid (gb_of (some g) (Below.refl w.heap.size w))
  by_cases hf : f = 0
  · subst hf
    rw [rdText_txt]
    have hk1 := txt_le (xs.drop at0) most (ho.drop at0)
    rw [List.length_drop] at hk1
    obtain ⟨n, hn⟩ : ∃ n, Hid (n = xs.length) := ⟨_, rfl⟩
    have hl := hn.out.symm
    rw [hl] at hnc hm hat HRR hk1
    have htk := fun (p' : Option Addr) (c' : Nat) (w' : World) (hc' : n - at0 ≤ c') (hs' : (p' = none ∧ c' = 0) ∨ ∃ b o, p' = some ⟨b, o, none⟩) h => text_of p' c' (n - at0) most (xs.drop at0) w' h (ho.drop at0) (by rw [List.length_drop, hl]) hc' (by omega) hmo hs'
    obtain ⟨T, hT⟩ : ∃ T, Hid (T = txt (xs.drop at0) most) := ⟨_, rfl⟩
    rw [← hT.out] at htk hk1 ⊢
    obtain ⟨tl, t1, t2⟩ := T
    simp only at htk hk1 ⊢
    obtain ⟨m, hm'⟩ : ∃ m, Hid (m = tl.length) := ⟨_, rfl⟩
    rw [← hm'.out] at htk ⊢
    obtain ⟨q, hq, hqb, hqs⟩ := drop_slice' p n c at0 xs hat hnc hl hsp
    have HTK := hid (fun (w' : World) h => htk q (c - at0) w' (by omega) hqs h)
    have HQ := hid hq
    have hbd := hid hqb
    have HPass := hid (fun (wx : World) (hx : Rdr wx g (.slice p n c) at0 0) => pass_of g at0 t1 0 t2 _ wx hx (by omega))
    have HX := hid (And.intro (show at0 + t1 ≤ n by omega) hl)
    have HC0 := hid HRR.out.c0
    clear htk hq hqb hR hk1 hl ho hqs
    go_enter Try.func21, Try.ntmps21
    go_wp2_with fail
    refine hst.mono ?_
    rintro e w1 ⟨rfl, rfl⟩
    clear hst
    go_upto_region 3 with fail
    have hS0 : (fun v => Rdr v g (.slice p n c) at0 0 ∧ Bin v p xs ∧ w.grownBy v (some g)) w.drew := ⟨HRR.out.drewN 1, hp, gb_drewN hg0.out 1⟩
    clear hp HRR hg0
    refine wp_region_z (fun v => Rdr v g (.slice p n c) at0 0 ∧ Bin v p xs ∧ w.grownBy v (some g)) 18 (by kernel_rfl) hS0 (fun hS => ?_)
    clear hS0
    generalize World.drew _ = w9 at hS ⊢
    refine wpAnyZ_take (i := 0) (v := .pointer (some ⟨g, 0, none⟩)) rfl (by kernel_rfl) (by kernel_rfl) (by kernel_rfl) (by kernel_rfl) (fun _ _ _ h => h) hS (Or.inl ⟨by kernel_rfl, fun w hS => (by clear hS; go_simp)⟩) ?_
    simp only [Act.put, List.setIfInBounds_toArray, List.set_cons_zero, List.set_cons_succ]
    refine wpAnyZ_take (i := 1) (v := .pointer (some ⟨g, 0, none⟩)) rfl (by kernel_rfl) (by kernel_rfl) (by kernel_rfl) (by kernel_rfl) (fun _ _ _ h => h) hS (Or.inl ⟨by kernel_rfl, fun w hS => (by clear hS; go_simp)⟩) ?_
    simp only [Act.put, List.setIfInBounds_toArray, List.set_cons_zero, List.set_cons_succ]
    refine wpAnyZ_take (i := 2) (v := .pointer (some ⟨g, 0, none⟩)) rfl (by kernel_rfl) (by kernel_rfl) (by kernel_rfl) (by kernel_rfl) (fun _ _ _ h => h) hS (Or.inl ⟨by kernel_rfl, fun w hS => (by clear hS; go_simp)⟩) ?_
    simp only [Act.put, List.setIfInBounds_toArray, List.set_cons_zero, List.set_cons_succ]
    refine wpAnyZ_take (i := 3) (v := .slice p n c) rfl (by kernel_rfl) (by kernel_rfl) (by kernel_rfl) (by kernel_rfl) (fun _ _ _ h => h) hS (Or.inl ⟨by kernel_rfl, fun w hS => (by have hc := hS.1.c0; clear hS; go_simp)⟩) ?_
    simp only [Act.put, List.setIfInBounds_toArray, List.set_cons_zero, List.set_cons_succ]
    refine wpAnyZ_take (i := 4) (v := .pointer (some ⟨g, 0, none⟩)) rfl (by kernel_rfl) (by kernel_rfl) (by kernel_rfl) (by kernel_rfl) (fun _ _ _ h => h) hS (Or.inl ⟨by kernel_rfl, fun w hS => (by clear hS; go_simp)⟩) ?_
    simp only [Act.put, List.setIfInBounds_toArray, List.set_cons_zero, List.set_cons_succ]
    refine wpAnyZ_take (i := 5) (v := .pointer (some ⟨g, 0, none⟩)) rfl (by kernel_rfl) (by kernel_rfl) (by kernel_rfl) (by kernel_rfl) (fun _ _ _ h => h) hS (Or.inl ⟨by kernel_rfl, fun w hS => (by clear hS; go_simp)⟩) ?_
    simp only [Act.put, List.setIfInBounds_toArray, List.set_cons_zero, List.set_cons_succ]
    refine wpAnyZ_take (i := 6) (v := .pointer (some ⟨g, 1, none⟩)) rfl (by kernel_rfl) (by kernel_rfl) (by kernel_rfl) (by kernel_rfl) (fun _ _ _ h => h) hS (Or.inl ⟨by kernel_rfl, fun w hS => (by clear hS; go_simp)⟩) ?_
    simp only [Act.put, List.setIfInBounds_toArray, List.set_cons_zero, List.set_cons_succ]
    refine wpAnyZ_take (i := 7) (v := .int .i64 (at0 : Nat)) rfl (by kernel_rfl) (by kernel_rfl) (by kernel_rfl) (by kernel_rfl) (fun _ _ _ h => h) hS (Or.inl ⟨by kernel_rfl, fun w hS => (by have hc := hS.1.c1; clear hS; go_simp)⟩) ?_
    simp only [Act.put, List.setIfInBounds_toArray, List.set_cons_zero, List.set_cons_succ]
    refine wpAnyZ_take (i := 8) (v := .slice q (n - at0) (c - at0)) rfl (by kernel_rfl) (by kernel_rfl) (by kernel_rfl) (by kernel_rfl) (fun _ _ _ h => h) hS (Or.inl ⟨by kernel_rfl, fun w hS => (by have hc := HQ.out; clear hS; go_simp)⟩) ?_
    simp only [Act.put, List.setIfInBounds_toArray, List.set_cons_zero, List.set_cons_succ]
    refine wpAnyZ_take (i := 9) (v := .int .i64 most) rfl (by kernel_rfl) (by kernel_rfl) (by kernel_rfl) (by kernel_rfl) (fun _ _ _ h => h) hS (Or.inl ⟨by kernel_rfl, fun w hS => (by clear hS; go_simp)⟩) ?_
    simp only [Act.put, List.setIfInBounds_toArray, List.set_cons_zero, List.set_cons_succ]
    refine wpAnyZ_one (i := 10) (by kernel_rfl) rfl (fun K hK => ?_)
    go_simp
    go_at_call 31
    refine (HTK.out _ (hbd.out _ hS.2.1)).mono ?_
    rintro e v8 ⟨vt, rfl, hO, hB⟩
    have hSz := hS.2.2.size
    replace hO := Own.mono hO hSz
    replace hS : (fun v => Rdr v g (.slice p n c) at0 0 ∧ Bin v p xs ∧ w.grownBy v (some g)) v8 := ⟨hS.1.grown (gb_of none hB) (by simp), hS.2.1.below hB, gb_below hS.2.2 hB⟩
    go_wp2_with fail
    refine hK.out _ _ (fun _ => hS) ?_
    clear hK K
    try simp only [Act.put, List.setIfInBounds_toArray, List.set_cons_zero, List.set_cons_succ]
    refine wpAnyZ_take (i := 11) (v := .tuple #[vt, .int .i64 (t1 : Nat), .int .i64 t2]) rfl (by kernel_rfl) (by kernel_rfl) (by kernel_rfl) (by kernel_rfl) (fun _ _ _ h => h) hS (Or.inl ⟨by kernel_rfl, fun w hS => (by clear hS; go_simp)⟩) ?_
    simp only [Act.put, List.setIfInBounds_toArray, List.set_cons_zero, List.set_cons_succ]
    refine wpAnyZ_take (i := 12) (v := vt) rfl (by kernel_rfl) (by kernel_rfl) (by kernel_rfl) (by kernel_rfl) (fun _ _ _ h => h) hS (Or.inl ⟨by kernel_rfl, fun w hS => (by clear hS; go_simp)⟩) ?_
    simp only [Act.put, List.setIfInBounds_toArray, List.set_cons_zero, List.set_cons_succ]
    refine wpAnyZ_take (i := 13) (v := .int .i64 (t1 : Nat)) rfl (by kernel_rfl) (by kernel_rfl) (by kernel_rfl) (by kernel_rfl) (fun _ _ _ h => h) hS (Or.inl ⟨by kernel_rfl, fun w hS => (by clear hS; go_simp)⟩) ?_
    simp only [Act.put, List.setIfInBounds_toArray, List.set_cons_zero, List.set_cons_succ]
    refine wpAnyZ_take (i := 14) (v := .int .i64 t2) rfl (by kernel_rfl) (by kernel_rfl) (by kernel_rfl) (by kernel_rfl) (fun _ _ _ h => h) hS (Or.inl ⟨by kernel_rfl, fun w hS => (by clear hS; go_simp)⟩) ?_
    simp only [Act.put, List.setIfInBounds_toArray, List.set_cons_zero, List.set_cons_succ]
    refine wpAnyZ_one (i := 15) (by kernel_rfl) rfl (fun K hK => ?_)
    go_simp
    refine hK.out _ _ (fun _ => hS) ?_
    clear hK K
    try simp only [Act.put, List.setIfInBounds_toArray, List.set_cons_zero, List.set_cons_succ]
    refine wpAnyZ_one (i := 16) (by kernel_rfl) rfl (fun K hK => ?_)
    go_simp
    refine hK.out _ _ (fun _ => hS) ?_
    clear hK K
    try simp only [Act.put, List.setIfInBounds_toArray, List.set_cons_zero, List.set_cons_succ]
    refine wpAnyZ_one (i := 17) (by kernel_rfl) rfl (fun K hK => ?_)
    go_simp
    refine hK.out _ _ (fun _ => hS) ?_
    clear hK K
    try simp only [Act.put, List.setIfInBounds_toArray, List.set_cons_zero, List.set_cons_succ]
    refine wpAnyZ_done (by kernel_rfl) ?_ _
    have HO := hid hO
    clear hO hB
    go_wp2_with fail
    refine (HPass.out _ hS.1).mono ?_
    rintro e w2 ⟨rfl, hr2, hg2⟩
    have hgg := hid (gb_trans hS.2.2 hg2)
    have HR2 := hid hr2
    have HO2 := hid (Own.grown' HO.out hg2 (by have := lg; omega))
    clear hS hg2 hr2 HO
    go_wp2
    go_ret
    refine ⟨_, rfl, HO2.out, H.out.turned hgg.out (fun p' c' hr' => ?_) (by rw [HX.out.2]; exact HX.out.1), hgg.out⟩
    have e0 := HC0.out.symm.trans (HX.out.2 ▸ hr'.c0)
    injection e0 with e1
    injection e1 with e2 e3 e4
    subst e2
    subst e4
    rw [HX.out.2]
    exact HR2.out
  · have e : rdText xs most at0 f = ([], at0, f) := by unfold rdText; rw [if_pos hf]
    rw [e]
    clear e
    have hd : decide (¬ f = 0) = true := by simpa using hf
    rw [hd] at hst
    go_enter Try.func21, Try.ntmps21
    go_wp2_with fail
    refine hst.mono ?_
    rintro e w1 ⟨rfl, rfl⟩
    go_wp2
    go_ret
    exact ⟨_, rfl, Own.nil _ _, H.out, hg0.out⟩
end Go.Proofs.Ytphmdjhmgmjmgaa
