/-
  The document's device: what is stored into it.
-/
import Derived.Test.YtlbhoijjbpjmoaaRdc
namespace Go.Proofs.Ytlbhoijjbpjmoaa
open Go.RowKit
set_option linter.unusedVariables false
set_option linter.unusedSimpArgs false

section
variable {e : TypeId} {B g n steps fail : Nat} {w w' : World} {F F' : Nat → Prop} {vN vF vW : Value} {VN VF VW : Nat → Value} {now firm : Nat → List Int} {ws : List (Nat × List Int)} {cut : Int} {down : Bool}
theorem Rowz.has_put {v : Value} {n : Nat} {V : Nat → Value} {k q : Nat} {u : Value} (h : Rowz.has v n (fun j => if j = k then u else V j) q) : Rowz.has v n V q ∨ u.ownBlock = some q := by
  rcases h with h | ⟨i, hi, h⟩
  · exact .inl (.inl h)
  · by_cases e : i = k
    · simp only [if_pos e] at h
      exact .inr h
    · simp only [if_neg e] at h
      exact .inl (.inr ⟨i, hi, h⟩)
/-- The head's cells where another block is turned. -/
theorem RDv.head {b : Nat} (h : RDv e B w g F n vN VN now vF VF firm vW VW ws steps fail cut down) (ht : Tb (fun q => q = b) w w') (hb : g ≠ b) (j : Nat) : w'.cell? ⟨g, j, none⟩ = w.cell? ⟨g, j, none⟩ ∧ w'.frozen? ⟨g, j, none⟩ = w.frozen? ⟨g, j, none⟩ :=
  ⟨ht.cell (p := ⟨g, j, none⟩) (h.lt g h.fg).2 hb, ht.frozen (p := ⟨g, j, none⟩) (h.lt g h.fg).2 hb⟩

/-- Block k of what it tells taken for another slice. -/
theorem RDv.putN {b c k q0 : Nat} {u : Value} {xs : List Int} (h : RDv e B w g F n vN VN now vF VF firm vW VW ws steps fail cut down) (hv : vN = .slice (some ⟨b, 0, none⟩) n c) (hk : k < n) (hu : Own B w u 256 xs) (hq : u.ownBlock = some q0) (hq0 : ¬ F q0) :
    RDv e B (w.setCell ⟨b, k, none⟩ u) g (fun q => F q ∨ q = q0) n vN (fun j => if j = k then u else VN j) (putB now k xs) vF VF firm vW VW ws steps fail cut down := by
  subst hv
  have hbh : Rowz.has (.slice (some ⟨b, 0, none⟩) n c) n VN b := .inl rfl
  have ht : Tb (fun q => q = b) w (w.setCell ⟨b, k, none⟩ u) := Tb.setCell (F := fun q => q = b) (b := b) (Tb.refl _ w) (.inl rfl) k u
  have hgb : g ≠ b := fun e => (h.fN b hbh).2 e.symm
  have hd := h.head ht hgb
  have hr := h.rN.put (i := k) hk hu (fun e => hq0 (by rw [hq] at e; rw [Option.some.inj e]; exact (h.fN b hbh).1)) (fun j hj hjk q hq1 e => hq0 (by rw [hq] at e; rw [Option.some.inj e]; exact (h.fN q (.inr ⟨j, hj, hq1⟩)).1))
  have hn : ∀ q, Rowz.has (.slice (some ⟨b, 0, none⟩) n c) n (fun j => if j = k then u else VN j) q → Rowz.has (.slice (some ⟨b, 0, none⟩) n c) n VN q ∨ q = q0 := fun q h1 => by
    rcases Rowz.has_put h1 with h2 | h2
    · exact .inl h2
    · rw [hq] at h2; exact .inr (Option.some.inj h2).symm
  have hq0l := (World.ownsRow.lt hu q0 hq)
  refine ⟨(hd 0).1.trans h.c0, (hd 1).1.trans h.c1, (hd 2).1.trans h.c2, (hd 3).1.trans h.c3, (hd 4).1.trans h.c4, (hd 5).1.trans h.c5, (hd 6).1.trans h.c6, fun j hj => (hd j).2.trans (h.z j hj), hr, h.rF.tb ht fun q hq e => h.dNF b hbh (e ▸ hq), h.rW.tb ht fun q hq e => h.dNW b hbh (e ▸ hq),
    .inl h.fg, fun q h1 => ?_, fun q h1 => ⟨.inl (h.fF q h1).1, (h.fF q h1).2⟩, fun q h1 => ⟨.inl (h.fW q h1).1, (h.fW q h1).2⟩, fun q h1 h2 => ?_, fun q h1 h2 => ?_, h.dFW, fun q h1 => ?_⟩
  · rcases hn q h1 with h2 | rfl
    · exact ⟨.inl (h.fN q h2).1, (h.fN q h2).2⟩
    · exact ⟨.inr rfl, fun e => hq0 (e ▸ h.fg)⟩
  · rcases hn q h1 with h3 | rfl
    · exact h.dNF q h3 h2
    · exact hq0 (h.fF q h2).1
  · rcases hn q h1 with h3 | rfl
    · exact h.dNW q h3 h2
    · exact hq0 (h.fW q h2).1
  · rw [World.size_setCell]
    rcases h1 with h2 | rfl
    · exact h.lt q h2
    · exact hq0l

/-- Block k of what is firm taken for another slice. -/
theorem RDv.putF {b c k q0 : Nat} {u : Value} {xs : List Int} (h : RDv e B w g F n vN VN now vF VF firm vW VW ws steps fail cut down) (hv : vF = .slice (some ⟨b, 0, none⟩) n c) (hk : k < n) (hu : Own B w u 256 xs) (hq : u.ownBlock = some q0) (hq0 : ¬ F q0) :
    RDv e B (w.setCell ⟨b, k, none⟩ u) g (fun q => F q ∨ q = q0) n vN VN now vF (fun j => if j = k then u else VF j) (putB firm k xs) vW VW ws steps fail cut down := by
  subst hv
  have hbh : Rowz.has (.slice (some ⟨b, 0, none⟩) n c) n VF b := .inl rfl
  have ht : Tb (fun q => q = b) w (w.setCell ⟨b, k, none⟩ u) := Tb.setCell (F := fun q => q = b) (b := b) (Tb.refl _ w) (.inl rfl) k u
  have hgb : g ≠ b := fun e => (h.fF b hbh).2 e.symm
  have hd := h.head ht hgb
  have hr := h.rF.put (i := k) hk hu (fun e => hq0 (by rw [hq] at e; rw [Option.some.inj e]; exact (h.fF b hbh).1)) (fun j hj hjk q hq1 e => hq0 (by rw [hq] at e; rw [Option.some.inj e]; exact (h.fF q (.inr ⟨j, hj, hq1⟩)).1))
  have hn : ∀ q, Rowz.has (.slice (some ⟨b, 0, none⟩) n c) n (fun j => if j = k then u else VF j) q → Rowz.has (.slice (some ⟨b, 0, none⟩) n c) n VF q ∨ q = q0 := fun q h1 => by
    rcases Rowz.has_put h1 with h2 | h2
    · exact .inl h2
    · rw [hq] at h2; exact .inr (Option.some.inj h2).symm
  have hq0l := (World.ownsRow.lt hu q0 hq)
  refine ⟨(hd 0).1.trans h.c0, (hd 1).1.trans h.c1, (hd 2).1.trans h.c2, (hd 3).1.trans h.c3, (hd 4).1.trans h.c4, (hd 5).1.trans h.c5, (hd 6).1.trans h.c6, fun j hj => (hd j).2.trans (h.z j hj), h.rN.tb ht fun q hq e => h.dNF q hq (e ▸ hbh), hr, h.rW.tb ht fun q hq e => h.dFW b hbh (e ▸ hq),
    .inl h.fg, fun q h1 => ⟨.inl (h.fN q h1).1, (h.fN q h1).2⟩, fun q h1 => ?_, fun q h1 => ⟨.inl (h.fW q h1).1, (h.fW q h1).2⟩, fun q h1 h2 => ?_, h.dNW, fun q h1 h2 => ?_, fun q h1 => ?_⟩
  · rcases hn q h1 with h2 | rfl
    · exact ⟨.inl (h.fF q h2).1, (h.fF q h2).2⟩
    · exact ⟨.inr rfl, fun e => hq0 (e ▸ h.fg)⟩
  · rcases hn q h2 with h3 | rfl
    · exact h.dNF q h1 h3
    · exact hq0 (h.fN q h1).1
  · rcases hn q h1 with h3 | rfl
    · exact h.dFW q h3 h2
    · exact hq0 (h.fW q h2).1
  · rw [World.size_setCell]
    rcases h1 with h2 | rfl
    · exact h.lt q h2
    · exact hq0l

/-- Byte j of block k of what it tells written. -/
theorem RDv.byteN {b c k j : Nat} {x : Int} (h : RDv e B w g F n vN VN now vF VF firm vW VW ws steps fail cut down) (hk : k < n) (hV : VN k = .slice (some ⟨b, 0, none⟩) 256 c) :
    RDv e B (w.setCell ⟨b, j, none⟩ (.int .u8 x)) g F n vN VN (putB now k ((now k).set j x)) vF VF firm vW VW ws steps fail cut down := by
  have hbh : Rowz.has vN n VN b := .inr ⟨k, hk, by rw [hV]; rfl⟩
  have ht : Tb (fun q => q = b) w (w.setCell ⟨b, j, none⟩ (.int .u8 x)) := Tb.setCell (F := fun q => q = b) (b := b) (Tb.refl _ w) (.inl rfl) j (.int .u8 x)
  have hd := h.head ht (fun e => (h.fN b hbh).2 e.symm)
  exact ⟨(hd 0).1.trans h.c0, (hd 1).1.trans h.c1, (hd 2).1.trans h.c2, (hd 3).1.trans h.c3, (hd 4).1.trans h.c4, (hd 5).1.trans h.c5, (hd 6).1.trans h.c6, fun j hj => (hd j).2.trans (h.z j hj), h.rN.byte hk hV j x, h.rF.tb ht fun q hq e => h.dNF b hbh (e ▸ hq), h.rW.tb ht fun q hq e => h.dNW b hbh (e ▸ hq),
    h.fg, h.fN, h.fF, h.fW, h.dNF, h.dNW, h.dFW, fun q h1 => by rw [World.size_setCell]; exact h.lt q h1⟩
/-- Byte j of block k of what is firm written. -/
theorem RDv.byteF {b c k j : Nat} {x : Int} (h : RDv e B w g F n vN VN now vF VF firm vW VW ws steps fail cut down) (hk : k < n) (hV : VF k = .slice (some ⟨b, 0, none⟩) 256 c) :
    RDv e B (w.setCell ⟨b, j, none⟩ (.int .u8 x)) g F n vN VN now vF VF (putB firm k ((firm k).set j x)) vW VW ws steps fail cut down := by
  have hbh : Rowz.has vF n VF b := .inr ⟨k, hk, by rw [hV]; rfl⟩
  have ht : Tb (fun q => q = b) w (w.setCell ⟨b, j, none⟩ (.int .u8 x)) := Tb.setCell (F := fun q => q = b) (b := b) (Tb.refl _ w) (.inl rfl) j (.int .u8 x)
  have hd := h.head ht (fun e => (h.fF b hbh).2 e.symm)
  exact ⟨(hd 0).1.trans h.c0, (hd 1).1.trans h.c1, (hd 2).1.trans h.c2, (hd 3).1.trans h.c3, (hd 4).1.trans h.c4, (hd 5).1.trans h.c5, (hd 6).1.trans h.c6, fun j hj => (hd j).2.trans (h.z j hj), h.rN.tb ht fun q hq e => h.dNF q hq (e ▸ hbh), h.rF.byte hk hV j x, h.rW.tb ht fun q hq e => h.dFW b hbh (e ▸ hq),
    h.fg, h.fN, h.fF, h.fW, h.dNF, h.dNW, h.dFW, fun q h1 => by rw [World.size_setCell]; exact h.lt q h1⟩
/-- Nothing waits any more. -/
theorem RDv.calm (h : RDv e B w g F n vN VN now vF VF firm vW VW ws steps fail cut down) :
    RDv e B (w.setCell ⟨g, 2, none⟩ (.slice none 0 0)) g F n vN VN now vF VF firm (.slice none 0 0) VW [] steps fail cut down := by
  have ht : Tb (fun q => q = g) w (w.setCell ⟨g, 2, none⟩ (.slice none 0 0)) := Tb.setCell (F := fun q => q = g) (b := g) (Tb.refl _ w) (.inl rfl) 2 (.slice none 0 0)
  have hc : ∀ k, k ≠ 2 → (w.setCell ⟨g, 2, none⟩ (.slice none 0 0)).cell? ⟨g, k, none⟩ = w.cell? ⟨g, k, none⟩ := fun k hk => World.cell?_setCell_other w _ _ _ (fun e0 => hk (Addr.mk.inj e0).2.1.symm)
  have no : ∀ q, ¬ Rowz.has (.slice none 0 0) 0 VW q := fun q hq => by
    rcases hq with hq | ⟨i, hi, _⟩
    · cases hq
    · exact absurd hi (Nat.not_lt_zero _)
  exact ⟨(hc 0 (by decide)).trans h.c0, (hc 1 (by decide)).trans h.c1, World.cell?_setCell_same w _ _ h.c2, (hc 3 (by decide)).trans h.c3, (hc 4 (by decide)).trans h.c4, (hc 5 (by decide)).trans h.c5, (hc 6 (by decide)).trans h.c6, fun j hj => (World.frozen?_setCell w _ _ _).trans (h.z j hj),
    h.rN.tb ht fun q hq => (h.fN q hq).2, h.rF.tb ht fun q hq => (h.fF q hq).2, Wtz.nil _ _ _ _ _ _ _, h.fg, h.fN, h.fF, fun q hq => absurd hq (no q), h.dNF, fun q _ h2 => no q h2, fun q _ h2 => no q h2, fun q h1 => by rw [World.size_setCell]; exact h.lt q h1⟩

/-- One write more waits: vW was grown to v', which is then stored. -/
theorem RDv.snoc {v' u : Value} {xs : List Int} {H q0 a : Nat} (h : RDv e B w g F n vN VN now vF VF firm vW VW ws steps fail cut down) (hg : w.grownBy w' vW.ownBlock) (ho : w'.ownsRow B e 2 v' (ws.length + 1) (pairsL (fun i => .int .i64 ((ws.getD i (0, [])).1 : Nat)) VW ws.length ++ [.int .i64 (a : Nat), u]))
    (hu : Own B w u 256 xs) (hq : u.ownBlock = some q0) (hq0 : ¬ F q0) (hv : v'.ownBlock = vW.ownBlock ∨ v'.ownBlock = some H) (hH : w.heap.size ≤ H) (hH2 : H < w'.heap.size ∨ v'.ownBlock = vW.ownBlock) :
    RDv e B (w'.setCell ⟨g, 2, none⟩ v') g (fun q => F q ∨ q = q0 ∨ v'.ownBlock = some q) n vN VN now vF VF firm v' (fun k => if k = ws.length then u else VW k) (ws ++ [(a, xs)]) steps fail cut down := by
  have hwb : ∀ q, vW.ownBlock = some q → Rowz.has vW ws.length VW q := fun q hq => .inl hq
  have t1 : Tb (fun q => vW.ownBlock = some q) w w' := Tb.of_grown hg fun q e => e
  have t2 : Tb (fun q => q = g) w' (w'.setCell ⟨g, 2, none⟩ v') := Tb.setCell (F := fun q => q = g) (b := g) (Tb.refl _ w') (.inl rfl) 2 v'
  have hgl := (h.lt g h.fg).2
  have hgn : ¬ vW.ownBlock = some g := fun e => (h.fW g (hwb g e)).2 rfl
  have hc1 : ∀ j, w'.cell? ⟨g, j, none⟩ = w.cell? ⟨g, j, none⟩ := fun j => t1.cell (p := ⟨g, j, none⟩) hgl hgn
  have hz1 : ∀ j, w'.frozen? ⟨g, j, none⟩ = w.frozen? ⟨g, j, none⟩ := fun j => t1.frozen (p := ⟨g, j, none⟩) hgl hgn
  have hc : ∀ k, k ≠ 2 → (w'.setCell ⟨g, 2, none⟩ v').cell? ⟨g, k, none⟩ = w.cell? ⟨g, k, none⟩ := fun k hk => (World.cell?_setCell_other w' _ _ _ (fun e0 => hk (Addr.mk.inj e0).2.1.symm)).trans (hc1 k)
  have hv' : ∀ q, v'.ownBlock = some q → vW.ownBlock = some q ∨ (w.heap.size ≤ q ∧ q < w'.heap.size) := fun q e => by
    rcases hv with h1 | h1
    · exact .inl (h1.symm.trans e)
    · rcases hH2 with h2 | h2
      · have := Option.some.inj (h1.symm.trans e); exact .inr (by omega)
      · exact .inl (h2.symm.trans e)
  have hvg : ∀ q, v'.ownBlock = some q → q ≠ g := fun q e => by
    rcases hv' q e with h1 | h1
    · exact (h.fW q (hwb q h1)).2
    · intro e2; omega
  have hql := (World.ownsRow.lt hu q0 hq)
  have hqg : q0 ≠ g := fun e => hq0 (e ▸ h.fg)
  have hW := h.rW.snoc (a := ((a : Nat) : Int)) (xs := xs) hg ho hu (fun q e1 e2 => hq0 (by rw [hq] at e1; rw [Option.some.inj e1]; exact (h.fW q (hwb q e2)).1)) (fun i hi q e1 e2 => hq0 (by rw [hq] at e2; rw [Option.some.inj e2]; exact (h.fW q (.inr ⟨i, hi, e1⟩)).1)) hv hH
  have hW2 : Wtz e B w' v' (ws ++ [(a, xs)]).length 256 (fun i => (((ws ++ [(a, xs)]).getD i (0, [])).1 : Nat)) (fun k => if k = ws.length then u else VW k) (fun i => ((ws ++ [(a, xs)]).getD i (0, [])).2) := by
    rw [List.length_append, List.length_singleton]
    refine ⟨?_, fun i hi => ?_, hW.ap0, hW.ap⟩
    · have e1 := hW.out
      rw [pairsL_same (A' := fun i => .int .i64 ((((ws ++ [(a, xs)]).getD i (0, [])).1 : Nat) : Int)) (V' := fun k => if k = ws.length then u else VW k) (fun i hi => ⟨?_, rfl⟩)] at e1
      · exact e1
      · by_cases hi2 : i = ws.length
        · subst hi2
          simp
        · have hl : i < ws.length := by omega
          simp [hi2, List.getElem?_append_left hl]
    · have e1 := hW.row i hi
      by_cases hi2 : i = ws.length
      · subst hi2
        simpa using e1
      · have hl : i < ws.length := by omega
        simpa [hi2, List.getElem?_append_left hl] using e1
  have hn : ∀ q, Rowz.has v' (ws ++ [(a, xs)]).length (fun k => if k = ws.length then u else VW k) q → v'.ownBlock = some q ∨ Rowz.has vW ws.length VW q ∨ q = q0 := fun q h1 => by
    rcases h1 with h2 | ⟨i, hi, h2⟩
    · exact .inl h2
    · by_cases hi2 : i = ws.length
      · simp only [if_pos hi2] at h2
        rw [hq] at h2
        exact .inr (.inr (Option.some.inj h2).symm)
      · simp only [if_neg hi2] at h2
        rw [List.length_append, List.length_singleton] at hi
        exact .inr (.inl (.inr ⟨i, by omega, h2⟩))
  have far : ∀ q, F q → ∀ q', (v'.ownBlock = some q' ∧ ¬ vW.ownBlock = some q') → q ≠ q' := fun q hF q' h1 e => by
    rcases hv' q' h1.1 with h2 | h2
    · exact h1.2 h2
    · have := (h.lt q hF).2; omega
  refine ⟨(hc 0 (by decide)).trans h.c0, (hc 1 (by decide)).trans h.c1, World.cell?_setCell_same w' _ _ ((hc1 2).trans h.c2), (hc 3 (by decide)).trans h.c3, (hc 4 (by decide)).trans h.c4, (hc 5 (by decide)).trans h.c5, (hc 6 (by decide)).trans h.c6, fun j hj => (World.frozen?_setCell w' _ _ _).trans ((hz1 j).trans (h.z j hj)),
    (h.rN.tb t1 fun q hq e => h.dNW q hq (hwb q e)).tb t2 fun q hq => (h.fN q hq).2, (h.rF.tb t1 fun q hq e => h.dFW q hq (hwb q e)).tb t2 fun q hq => (h.fF q hq).2, hW2.tb t2 fun q hq => ?_,
    .inl h.fg, fun q h1 => ⟨.inl (h.fN q h1).1, (h.fN q h1).2⟩, fun q h1 => ⟨.inl (h.fF q h1).1, (h.fF q h1).2⟩, fun q h1 => ?_, h.dNF, fun q h1 h2 => ?_, fun q h1 h2 => ?_, fun q h1 => ?_⟩
  · rcases hn q hq with h1 | h1 | rfl
    · exact hvg q h1
    · exact (h.fW q h1).2
    · exact hqg
  · rcases hn q h1 with h2 | h2 | rfl
    · exact ⟨.inr (.inr h2), hvg q h2⟩
    · exact ⟨.inl (h.fW q h2).1, (h.fW q h2).2⟩
    · exact ⟨.inr (.inl rfl), hqg⟩
  · rcases hn q h2 with h3 | h3 | rfl
    · by_cases h4 : vW.ownBlock = some q
      · exact h.dNW q h1 (hwb q h4)
      · exact far q (h.fN q h1).1 q ⟨h3, h4⟩ rfl
    · exact h.dNW q h1 h3
    · exact hq0 (h.fN q h1).1
  · rcases hn q h2 with h3 | h3 | rfl
    · by_cases h4 : vW.ownBlock = some q
      · exact h.dFW q h1 (hwb q h4)
      · exact far q (h.fF q h1).1 q ⟨h3, h4⟩ rfl
    · exact h.dFW q h1 h3
    · exact hq0 (h.fF q h1).1
  · rw [World.size_setCell]
    have := t1.size
    rcases h1 with h2 | rfl | h2
    · have := h.lt q h2; omega
    · omega
    · have := World.ownsRow.lt ho q h2; omega
end
end Go.Proofs.Ytlbhoijjbpjmoaa
