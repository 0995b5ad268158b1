/-
  The program's registers in memory; a copy of rows of bytes; New.
-/
import Derived.Test.YtlbhoijjbpjmoaaRgn
import Derived.Test.YtlbhoijjbpjmoaaDkn
import Derived.Test.YtlbhoijjbpjmoaaClo
namespace Go.Proofs.Ytlbhoijjbpjmoaa
open Go.RowKit
set_option linter.unusedVariables false
set_option linter.unusedSimpArgs false

/-- The rows' own block: it can be written, and no row lies in it. -/
def Fre (w : World) (p : Option Addr) (L : List (List Int)) : Prop :=
  ∀ i x, L[i]? = some x → ∀ b o, p = some ⟨b, o, none⟩ → w.frozen? ⟨b, o + i, none⟩ = false ∧ ∀ pi n ci, w.cell? ⟨b, o + i, none⟩ = some (.slice pi n ci) → ∀ a, pi = some a → a.block ≠ b
section
variable {w w' : World} {p : Option Addr} {L : List (List Int)} {F : Nat → Prop} {c : Nat}
theorem Fre.frame (h : Fre w p L) (hd : Drs w F p c L) (hc : ∀ q : Addr, F q.block → q.block < w.heap.size → w'.cell? q = w.cell? q ∧ w'.frozen? q = w.frozen? q) : Fre w' p L := fun i x hx b o hp => by
  obtain ⟨b', o', pi, ci, e, h2, h3, _⟩ := hd.2 i x hx
  obtain ⟨rfl, rfl⟩ : b = b' ∧ o = o' := by
    have := Option.some.inj (hp.symm.trans e)
    exact ⟨(Addr.mk.inj this).1, (Addr.mk.inj this).2.1⟩
  obtain ⟨e1, e2⟩ := hc ⟨b, o + i, none⟩ h2 (World.block_lt_of_cell? _ _ h3)
  obtain ⟨g1, g2⟩ := h i x hx b o hp
  exact ⟨e2.trans g1, fun pi n ci h => g2 pi n ci (e1.symm.trans h)⟩
theorem Rowu.fre {B n c : Nat} {V : Nat → Value} {D : Nat → List Int} (h : Rowu B w (.slice p n c) n V D) : Fre w p ((List.range n).map D) := fun i x hx b o hp => by
  rw [List.getElem?_map] at hx
  by_cases hi : i < n
  · subst hp
    rcases h.shape with ⟨e, _⟩ | ⟨g, cap, e, _, _⟩
    · cases e
    · injection e with e1 _ e3
      injection e1 with e4
      obtain ⟨rfl, rfl⟩ : b = g ∧ o = 0 := ⟨(Addr.mk.inj e4).1, (Addr.mk.inj e4).2.1⟩
      rw [Nat.zero_add]
      refine ⟨World.ownsRow.frozenAt h.out i, fun pi m ci hc a ha e => ?_⟩
      have hv : V i = .slice pi m ci := Option.some.inj ((h.cellAt i hi).symm.trans hc)
      exact h.ap0 i hi b (by rw [hv, ha]; show some a.block = some b; rw [e]) rfl
  · rw [List.getElem?_eq_none (by simp; omega)] at hx
    cases hx
end

/-- The program's registers R, in block g, over the blocks F, all of them from B on, beside the device in block gd. -/
structure PRg (B : Nat) (w : World) (g : Nat) (F : Nat → Prop) (gd : Nat) (R : Rst) : Prop where
  lt : ∀ q, F q → B ≤ q ∧ q < w.heap.size
  fg : F g
  ok : R.ok
  stand : ∃ p c, RRv B w g F gd p c R.lim R.res R.com R.draws ∧ Fre w p R.draws
theorem PRg.tb {B g gd : Nat} {w w' : World} {F F' : Nat → Prop} {R : Rst} (h : PRg B w g F gd R) (ht : Tb F' w w') (hF : ∀ q, F q → ¬ F' q) : PRg B w' g F gd R := by
  obtain ⟨p, c, hv, hf⟩ := h.stand
  have hv' := hv.tb ht hF
  exact ⟨hv'.lt, h.fg, h.ok, p, c, hv', hf.frame hv.dr fun q hq hl => ⟨ht.cell hl (hF _ hq.1), ht.frozen hl (hF _ hq.1)⟩⟩
theorem PRg.mono {B B' g gd : Nat} {w : World} {F : Nat → Prop} {R : Rst} (h : PRg B w g F gd R) (hB : B' ≤ B) : PRg B' w g F gd R := by
  obtain ⟨p, c, hv, hf⟩ := h.stand
  have hl : ∀ q, F q → B' ≤ q ∧ q < w.heap.size := fun q hq => ⟨Nat.le_trans hB (h.lt q hq).1, (h.lt q hq).2⟩
  exact ⟨hl, h.fg, h.ok, p, c, ⟨hv.c0, hv.c1, hv.c2, hv.c3, hv.c4, hv.z, hv.dr, hv.fg, hl⟩, hf⟩
theorem PRg.below {B g gd : Nat} {w w' : World} {F : Nat → Prop} {R : Rst} (h : PRg B w g F gd R) (hb : Below w.heap.size w w') : PRg B w' g F gd R := h.tb (F' := fun _ => False) (Tb.of_below hb) fun _ _ h => h

/-- What a call of the registers leaves: the registers over F', the device over Fd'. -/
def PRstep (B : Nat) (w : World) (g : Nat) (F : Nat → Prop) (gd : Nat) (Fd : Nat → Prop) (R' : Rst) (S' : Dst) (w' : World) : Prop :=
  ∃ F' Fd', PRg B w' g F' gd R' ∧ PDk B w' gd Fd' S' ∧ (∀ q, F' q → ¬ Fd' q) ∧ Tb (fun q => F q ∨ Fd q) w w' ∧ (∀ q, F' q → F q ∨ w.heap.size ≤ q) ∧ ∀ q, Fd' q → Fd q ∨ w.heap.size ≤ q
/-- What Draw leaves: the bytes are none of the registers' any more. -/
def PRdraw (B : Nat) (w : World) (g : Nat) (F : Nat → Prop) (gd : Nat) (R' : Rst) (v : Value) (L : List Int) (w' : World) : Prop :=
  ∃ F', PRg B w' g F' gd R' ∧ Tb F w w' ∧ (∀ q, F' q → F q ∨ w.heap.size ≤ q) ∧ Ort B w' v L.length L ∧ ∀ q, v.ownBlock = some q → (F q ∨ w.heap.size ≤ q) ∧ ¬ F' q

/-- A row of no slices. -/
theorem madeB (n : Nat) : (madeCells (Value.slice none 0 0).cells (n * 1)).toList = (List.range n).map fun _ => Value.slice none 0 0 := by
  rw [made_list _ _ rfl]
  show List.replicate n _ = _
  exact (List.ext_getElem (by simp) fun i h1 h2 => by simp)
theorem rowu_made {B n : Nat} {w : World} {v : Value} (h : w.ownsRow B 31 1 v n ((List.range n).map fun _ => Value.slice none 0 0)) : Rowu B w v n (fun _ => .slice none 0 0) (fun _ => []) :=
  ⟨h, fun i hi => Own.nil _ _, fun i hi q e => (by cases e), fun i j hi hj hij q e => (by cases e)⟩

set_option maxHeartbeats 8000000 in
set_option maxRecDepth 100000 in
theorem copies_of (n cl : Nat) (a : Option Addr) (Fr : Nat → Option Addr × Nat × List Int) (w : World) (hn : n ≤ 1000000) (hin : Ins w a n Fr) :
    Calls Try.prog 30 #[.slice a n cl] w fun e w' => ∃ g V, e = .returned (.slice (some ⟨g, 0, none⟩) n n) ∧ Rowu w.heap.size w' (.slice (some ⟨g, 0, none⟩) n n) n V (fun i => (Fr i).2.2) ∧ Below w.heap.size w w' := by
  obtain ⟨j0, hj, hy0, hy1, hy2⟩ := info_parts Try.infoBytes
  have HIN := hid hin
  obtain ⟨g, hg⟩ : ∃ g, Hid (g = w.heap.size) := ⟨_, rfl⟩
  clear hin
  go_enter Try.func30, Try.ntmps30
  go_wp2_with (at_make; refine wpList_make_full _ rfl (.tmp 7) (.tmp 7) 23 rfl w.heap.size 31 j0 (.slice none 0 0) 1 Try.underlying23 hj hy0 hy1 .i64 .i64 _ _ n rfl rfl rfl rfl (by rw [hy2]; omega) (by unfold maxLen; omega) (Nat.le_refl _) ?_; intro w1 hown hgrow)
  rw [madeB, ← hg.out] at hown
  have HR0 := hid (rowu_made hown)
  have HT0 := hid ((Below.refl w.heap.size w).grown hgrow (Nat.le_refl _) (by simp))
  rw [← hg.out]
  clear hown hgrow
  go_loopw [11] (fun i wr => ∃ (k : Nat) (V : Nat → Value), k ≤ n ∧ i = .int .i64 (k : Int) ∧ Rowu g wr (.slice (some ⟨g, 0, none⟩) n n) n V (fun i => if i < k then (Fr i).2.2 else []) ∧ Below w.heap.size w wr) (fun i _ => n - (intOf i).toNat)
  case atStart => exact ⟨0, _, Nat.zero_le _, rfl, HR0.out.same (fun i hi => (if_neg (Nat.not_lt_zero _)).symm), HT0.out⟩
  case round =>
    clear HR0 HT0
    obtain ⟨k, V, hk, rfl, hr, ht⟩ := hrel
    have HR := hid hr
    have HT := hid ht
    clear hr ht
    by_cases hkn : k < n
    · have kI : (k : Int) < (n : Int) := by omega
      have hin' := HIN.out.below HT.out
      obtain ⟨bA, oA, ea, hca⟩ := hin'.1 (by omega)
      subst ea
      have hck := hca k hkn
      have hfk := hin'.2 k hkn
      obtain ⟨pk, lk, ck, hpk, HLK, hckk⟩ : ∃ p l c, (Fr k).1 = p ∧ Hid (l = (Fr k).2.2.length) ∧ (Fr k).2.1 = c := ⟨_, _, _, rfl, rfl, rfl⟩
      rw [hpk, hckk, ← HLK.out] at hck
      have HCP := hid (clone_of pk ck lk (Fr k).2.2 wr (hpk ▸ hfk.1) HLK.out.symm (by rw [HLK.out]; exact Nat.le_trans hfk.2.2.2 (by decide)))
      clear hca hfk hpk hckk hin'
      go_wp2_with fail
      refine HCP.out.mono ?_
      rintro e w2 ⟨v2, rfl, hO2, hb2⟩
      obtain ⟨p2, c2, rfl, _, _⟩ := hO2.bin
      have hr2 := HR.out.below hb2
      have h0 := World.ownsRow.frozenAt hr2.out k
      have h1 := hr2.cellAt k hkn
      have hlr := HR.out.lt
      have hlo := fun q hq => (World.ownsRow.lt hO2 q hq).1
      have HP := hid (hr2.put (i := k) (u := .slice p2 lk c2) (xs := (Fr k).2.2) hkn (by rw [← HLK.out]; exact Own.mono hO2 (by have := (hlr g (.inl rfl)).2; omega)) (fun e => by have h3 := hlo g e; have h4 := (hlr g (.inl rfl)).2; omega) (fun j hj hjk q e1 e2 => by have h3 := hlo q e2; have h4 := (hlr q (.inr ⟨j, hj, e1⟩)).2; omega))
      have HT2 := hid ((HT.out.trans (hb2.mono HT.out.size)).setCell (p := ⟨g, k, none⟩) (by have := hg.out; show w.heap.size ≤ g; omega) (.slice p2 lk c2))
      clear hO2 hb2 hr2 hlr hlo hck HCP HT HR
      go_wp2_with fail
      go_roundw
      case rel => exact ⟨k + 1, _, by omega, by go_num, HP.out.same (fun i hi => by
        by_cases e : i = k
        · subst e; rw [if_pos rfl, if_pos (Nat.lt_succ_self _)]
        · rw [if_neg e]
          by_cases h : i < k
          · rw [if_pos h, if_pos (by omega)]
          · rw [if_neg h, if_neg (by omega)]), HT2.out⟩
      case measure => simp [intOf]; omega
    · obtain rfl : k = n := by omega
      have kI : ¬ (k : Int) < (k : Int) := by omega
      go_wp2_with fail
      go_ret
      exact ⟨g, rfl, ⟨V, by rw [← hg.out]; exact HR.out.same fun i hi => if_pos hi⟩, HT.out⟩

section
variable (B g gd : Nat) (F Fd : Nat → Prop) (R : Rst) (S : Dst) (w : World)
set_option maxHeartbeats 8000000 in
set_option maxRecDepth 100000 in
theorem gNew_of (lim n cl : Nat) (a : Option Addr) (Fr : Nat → Option Addr × Nat × List Int) (hlim : lim ≤ 18446744073709551615) (hn : n ≤ 1000000) (hin : Ins w a n Fr) :
    Calls Try.prog 11 #[.pointer (some ⟨gd, 0, none⟩), .int .u64 (lim : Nat), .slice a n cl] w fun e w' => ∃ g F, e = .returned (.tuple #[.pointer (some ⟨g, 0, none⟩), .int .i64 0]) ∧ PRg w.heap.size w' g F gd ⟨lim, 0, 0, (List.range n).map fun i => (Fr i).2.2⟩ ∧ Below w.heap.size w w' := by
  have HOC := hid (fun i (hi : i < n) => (hin.2 i hi).2.1)
  have HC := hid (copies_of n cl a Fr w hn hin)
  have HL := hid hlim
  clear hin hlim hn
  go_enter Try.func11, Try.ntmps11
  go_wp2_with fail
  refine HC.out.mono ?_
  rintro e w1 ⟨gr, V, rfl, hr, hb⟩
  have HR := hid hr
  have HB := hid hb
  clear hr hb HC
  have hs := Sv5.new w1 (.pointer (some ⟨gd, 0, none⟩)) (.int .u64 (lim : Nat)) (.int .u64 0) (.int .u64 0) (.slice (some ⟨gr, 0, none⟩) n n) 72
  have hb2 : Below w1.heap.size w1 (w1.alloc (.cells #[.pointer (some ⟨gd, 0, none⟩), .int .u64 (lim : Nat), .int .u64 0, .int .u64 0, .slice (some ⟨gr, 0, none⟩) n n] 72)) := (Below.refl _ _).alloc (Nat.le_refl _) _
  have HS := hid hs
  have HB2 := hid hb2
  clear hs hb2
  go_wp2
  go_ret2
  obtain ⟨p, c, e, hd⟩ := (HR.out.below HB2.out).drs HOC.out
  injection e with e1 _ e3
  subst e1
  subst e3
  have hl := (HR.out.below HB2.out).lt
  have hl0 := HR.out.lt
  have hbs := HB.out.size
  have hg : ∀ q, Rowu.has (.slice (some ⟨gr, 0, none⟩) n n) n V q → q ≠ w1.heap.size := fun q hq e => by have := (hl0 q hq).2; omega
  have hlt : ∀ q, (q = w1.heap.size ∨ Rowu.has (.slice (some ⟨gr, 0, none⟩) n n) n V q) → w.heap.size ≤ q ∧ q < (w1.alloc (.cells #[.pointer (some ⟨gd, 0, none⟩), .int .u64 (lim : Nat), .int .u64 0, .int .u64 0, .slice (some ⟨gr, 0, none⟩) n n] 72)).heap.size := fun q hq => by
    rcases hq with rfl | hq
    · exact ⟨hbs, HS.out.lt⟩
    · exact hl q hq
  refine ⟨_, fun q => q = w1.heap.size ∨ Rowu.has (.slice (some ⟨gr, 0, none⟩) n n) n V q, rfl, ⟨hlt, .inl rfl, ⟨HL.out, Nat.zero_le _, Nat.le_refl _, fun x hx => ?_⟩, some ⟨gr, 0, none⟩, n, ⟨HS.out.c0, HS.out.c1, HS.out.c2, HS.out.c3, ?_, HS.out.z, hd.mono fun q hq => ⟨.inr hq, hg q hq⟩, .inl rfl, hlt⟩, (HR.out.below HB2.out).fre⟩, HB.out.trans (HB2.out.mono hbs)⟩
  · obtain ⟨i, hi, rfl⟩ := List.mem_map.1 hx
    exact HOC.out i (List.mem_range.1 hi)
  · show World.cell? _ _ = some (.slice _ ((List.range n).map _).length n)
    rw [List.length_map, List.length_range]
    exact HS.out.c4
set_option maxHeartbeats 4000000 in
set_option maxRecDepth 100000 in
theorem gNew_nil (lim : Int) (v : Value) : Calls Try.prog 11 #[.pointer none, .int .u64 lim, v] w fun e w' => e = .returned (.tuple #[.pointer none, .int .i64 1]) ∧ Below w.heap.size w w' := by
  go_enter Try.func11, Try.ntmps11
  go_wp2
  go_ret2
  exact ⟨rfl, Below.refl _ _⟩
end
end Go.Proofs.Ytlbhoijjbpjmoaa
