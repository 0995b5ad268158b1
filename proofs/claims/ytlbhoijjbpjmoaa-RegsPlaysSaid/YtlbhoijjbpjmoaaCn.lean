/-
  The counter blocks of the program and of the document: First and Next.
-/
import Derived.Test.YtlbhoijjbpjmoaaKh
import Derived.Test.YtlbhoijjbpjmoaaKa
import Derived.Deep.CutRange
import Derived.Deep.DeepCutAuto
namespace Go.Proofs.Ytlbhoijjbpjmoaa
open Go.RowKit
set_option linter.unusedVariables false
set_option linter.unusedSimpArgs false

/-- A copy into cells that are there. -/
theorem wpList_copy_cells {P : Program} {ops : Array Oper} {rest : List Oper} {o : Oper} {a : Act} {w : World} {Q : Exit → Act → World → Prop}
    (hg : o.guard = none) (s x : Operand) (t1 t2 : TypeId) (hop : o.op = Op.call { callee := Callee.builtin Builtin.copy, args := #[s, x], argTypes := #[t1, t2] })
    (e : TypeId) (h1 : P.underlying t1 = some (.slice e)) (h2 : (P.info? e).map (·.size) = some 1)
    (b off dn dcap : Nat) (hs : a.eval s = .slice (some ⟨b, off, none⟩) dn dcap)
    (ad : Addr) (m c : Nat) (hx : a.eval x = .slice (some ad) m c) (cs : List Value) (hn : cs.length = Nat.min m dn) (hc : ∀ j u, cs[j]? = some u → w.cell? (ad.add j) = some u)
    (ht : w.there b off cs.length) (h1c : ∀ u ∈ cs, u.oneCell' = true)
    (hK : wpList P ops Q rest (a.put o.dst (goInt cs.length)) (w.setCells b off cs)) : wpList P ops Q (o :: rest) a w := by
  refine wpList_plain hg fun K hK' => ?_
  have hrun := run_copy_cells (P := P) w t1 t2 o.type e b off dn dcap ad m c cs h1 h2 hn hc (fun j hj => (ht j hj).1) (fun j hj => (ht j hj).2) h1c
  unfold Oper.wp
  simp [execOp, hop, resolve, invoke, builtin, hs, hx, hrun, Result.andThen]
  exact hK' _ _ hK

theorem heap_setCells_other {b g : Nat} (hne : g ≠ b) : ∀ (vs : List Value) (o : Nat) (w : World), (w.setCells b o vs).heap[g]? = w.heap[g]?
  | [], _, _ => rfl
  | v :: r, o, w => (heap_setCells_other hne r (o + 1) (w.setCell ⟨b, o, none⟩ v)).trans (Below.heap_setCell _ _ _ g hne)
/-- One's own slice stays where an elder block is written. -/
theorem Own.besidePut {B b n : Nat} {w : World} {v : Value} {xs : List Int} (h : Own B w v n xs) (hb : b < B) (o : Nat) (vs : List Value) : Own B (w.setCells b o vs) v n xs := by
  refine ⟨h.1, ?_⟩
  rcases h.2 with h2 | ⟨g, cap, cur, h1, h2, h3, h4⟩
  · exact .inl h2
  · exact .inr ⟨g, cap, cur, h1, h2, (heap_setCells_other (by omega) vs o w).trans h3, h4⟩
theorem Own.ne {B b n : Nat} {w : World} {v : Value} {xs : List Int} (h : Own B w v n xs) (hb : b < B) : some b ≠ v.ownBlock := fun e => by
  have := (World.ownsRow.lt h b e.symm).1
  omega
theorem Arr.grown {w w' : World} {b n : Nat} {x : Nat → Nat} {row : Option Nat} (h : Arr w b n x) (hn : 0 < n) (hg : w.grownBy w' row) (hne : some b ≠ row) : Arr w' b n x := fun j hj =>
  ⟨(hg.cell_far ⟨b, j, none⟩ (h.lt hn) hne).trans (h j hj).1, (hg.frozen_far ⟨b, j, none⟩ (h.lt hn) hne).trans (h j hj).2⟩
/-- What a step keeps that turns one block. -/
theorem gb_below {w w1 w2 : World} {row : Option Nat} (h : w.grownBy w1 row) (hb : Below w1.heap.size w1 w2) : w.grownBy w2 row :=
  ⟨hb.os.trans h.os, hb.tape.trans h.tape, hb.output.trans h.output, Nat.le_trans h.size hb.size, fun k hk hne => (hb.block k (Nat.lt_of_lt_of_le hk h.size)).trans (h.block k hk hne)⟩
theorem gb_of {w w1 : World} (row : Option Nat) (hb : Below w.heap.size w w1) : w.grownBy w1 row := ⟨hb.os, hb.tape, hb.output, hb.size, fun k hk _ => hb.block k hk⟩
theorem gb_set {w w1 : World} {row : Option Nat} {b : Nat} (h : w.grownBy w1 row) (hb : some b = row ∨ w.heap.size ≤ b) (o : Nat) (vs : List Value) : w.grownBy (w1.setCells b o vs) row := by
  have h0 := below_setCells (b := b) vs o (Below.refl 0 w1) (Nat.zero_le _)
  refine ⟨h0.os.trans h.os, h0.tape.trans h.tape, h0.output.trans h.output, Nat.le_trans h.size h0.size, fun k hk hne => (heap_setCells_other ?_ vs o w1).trans (h.block k hk hne)⟩
  rintro rfl
  rcases hb with e | e
  · exact hne e
  · omega
theorem gb_trans {w w1 w2 : World} {row : Option Nat} (h : w.grownBy w1 row) (h2 : w1.grownBy w2 row) : w.grownBy w2 row :=
  ⟨h2.os.trans h.os, h2.tape.trans h.tape, h2.output.trans h.output, Nat.le_trans h.size h2.size, fun k hk hne => (h2.block k (Nat.lt_of_lt_of_le hk h.size) hne).trans (h.block k hk hne)⟩
theorem Bin.grown {w w' : World} {row : Option Nat} {p : Option Addr} {xs : List Int} (h : Bin w p xs) (hg : w.grownBy w' row) (hne : ∀ a, p = some a → some a.block ≠ row) : Bin w' p xs := fun hn => by
  obtain ⟨b, o, rfl, hlt, hc⟩ := h.at hn
  exact ⟨b, o, rfl, fun i hi => (hg.cell_far ⟨b, o + i, none⟩ hlt (hne ⟨b, o, none⟩ rfl)).trans (hc i hi)⟩
theorem be4 (n : Nat) : be 4 (n : Int) = row (fun j => n / 256 ^ (3 - j) % 256) 4 := by
  simp [be, row, List.range_succ]
/-- One's own bytes as cells to be copied. -/
theorem own_cells {B : Nat} {w : World} {g c n : Nat} {y : Nat → Nat} (h : Own B w (.slice (some ⟨g, 0, none⟩) n c) n (row y n)) :
    ∀ j u, (vals n y)[j]? = some u → w.cell? ((⟨g, 0, none⟩ : Addr).add j) = some u := fun j u hj => by
  have hjl : j < n := by have := (List.getElem?_eq_some_iff.1 hj).1; rwa [vals_length] at this
  rw [Addr.add_mid, Nat.zero_add, h.cellAt j hjl, row_at y n j hjl, ← hj, vals_at n y j hjl]

/-- Noughts, and a one at the end. -/
def one15 (j : Nat) : Nat := if j = 15 then 1 else 0

end Go.Proofs.Ytlbhoijjbpjmoaa
