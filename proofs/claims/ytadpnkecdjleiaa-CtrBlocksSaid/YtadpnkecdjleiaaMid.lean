/-
  Arrays of bytes read and written as a whole. Stands on no function of the program.
-/
import Derived.Test.YtadpnkecdjleiaaVals
import Derived.Test.YtadpnkecdjleiaaOwn
import Derived.Laws.Rows
import Derived.Laws.CopyOwn
import Derived.Deep.MidRow
import Derived.Deep.AppendLies
import Derived.Deep.RegionLaw
import Derived.Deep.RegionHeld3
import Derived.Deep.QuietTactic
import Derived.BigQuiet
import Derived.BigRegion
namespace Go.Proofs.Ytadpnkecdjleiaa
open Go.RowKit

/-- x, but y at i. -/
def upd (x : Nat → Nat) (i y : Nat) : Nat → Nat := fun j => if j = i then y else x j
/-- The first k of x are y's. -/
def mixk (y x : Nat → Nat) (k : Nat) : Nat → Nat := fun j => if j < k then y j else x j
theorem mixk_zero (y x : Nat → Nat) (j : Nat) : mixk y x 0 j = x j := by simp [mixk]
theorem mixk_full (y x : Nat → Nat) (n j : Nat) (h : j < n) : mixk y x n j = y j := by simp [mixk, h]
theorem mixk_at (y x : Nat → Nat) (k j : Nat) (h : k ≤ j) : mixk y x k j = x j := by simp [mixk]; omega
theorem mixk_step (y x : Nat → Nat) (k j : Nat) : (if j = k then y k else mixk y x k j) = mixk y x (k + 1) j := by
  unfold mixk
  by_cases h : j = k
  · subst h; simp
  · by_cases h2 : j < k
    · rw [if_neg h, if_pos h2, if_pos (by omega)]
    · rw [if_neg h, if_neg h2, if_neg (by omega)]

theorem vals_one (n : Nat) (x : Nat → Nat) : ∀ v ∈ vals n x, v.oneCell' = true := by
  intro v hv
  simp only [vals, List.mem_map] at hv
  obtain ⟨j, _, rfl⟩ := hv
  rfl

section
variable {P : Program} {w w' : World} {b b' n : Nat} {x y : Nat → Nat}

theorem Arr.range (h : Arr w b n x) : w.rangeAt b 0 (vals n x) := fun j v hv => by
  have hj : j < n := by have := (List.getElem?_eq_some_iff.1 hv).1; rwa [vals_length] at this
  rw [vals_at _ _ _ hj] at hv
  rw [Nat.zero_add, ← hv]
  exact (h j hj).1
theorem Arr.there (h : Arr w b n x) : w.there b 0 n := fun j hj => by
  rw [Nat.zero_add, (h j hj).1]
  exact ⟨rfl, (h j hj).2⟩
theorem Arr.of (h : w.rangeAt b 0 (vals n x)) (h2 : w.there b 0 n) : Arr w b n x := fun j hj => by
  have h1 := h j _ (vals_at n x j hj)
  have h3 := (h2 j hj).2
  rw [Nat.zero_add] at h1 h3
  exact ⟨h1, h3⟩
theorem Arr.put (h : Arr w b n x) (y : Nat → Nat) : Arr (w.setCells b 0 (vals n y)) b n y :=
  Arr.of (World.rangeAt_setCells_same w b 0 _ (by rw [vals_length]; exact h.there)) (World.there_setCells h.there b 0 _)
theorem Arr.besidePut (h : Arr w b n x) (hb : b' ≠ b) (o : Nat) (vs : List Value) : Arr (w.setCells b' o vs) b n x :=
  Arr.of (World.rangeAt_setCells_apart h.range b' o vs (.inl (fun e => hb e.symm))) (World.there_setCells h.there b' o _)
theorem Arr.drewN (h : Arr w b n x) (k : Nat) : Arr (w.drewN k) b n x := h
theorem Arr.below' {B : Nat} (h : Arr w b n x) (hl : b < B) (hb : Below B w w') : Arr w' b n x := fun j hj =>
  ⟨(hb.cell (p := ⟨b, j, none⟩) hl).trans (h j hj).1, (hb.frozen (p := ⟨b, j, none⟩) hl).trans (h j hj).2⟩

theorem below_setCells {B : Nat} : ∀ (vs : List Value) (o : Nat) {w0 w : World}, Below B w0 w → B ≤ b → Below B w0 (w.setCells b o vs)
  | [], _, _, _, h, _ => h
  | v :: r, o, _, _, h, hb => below_setCells r (o + 1) (h.setCell hb v) hb

/-- A load of the whole. -/
theorem wpList_load_arr {ops : Array Oper} {rest : List Oper} {op : Oper} {a : Act} {Q : Exit → Act → World → Prop} (hgd : op.guard = none) (ty : TypeId) (q : Operand) (ho : op.op = .load ty q)
    (b : Nat) (hq : a.eval q = .pointer (some ⟨b, 0, none⟩)) (n : Nat) (y : Nat → Nat) (hc : Arr w b n y) (d : TypeDesc)
    (hu : P.underlying ty = some d) (hd : d.isRow = true) (hi : (P.info? ty).map (·.size) = some n)
    (h : wpList P ops Q rest (a.put op.dst (.agg (vals n y).toArray)) w) : wpList P ops Q (op :: rest) a w :=
  wpList_load_mid hgd ty q ho b 0 hq (vals n y) d hc.range hu hd (by rw [vals_length]; exact hi) h
/-- A store of the whole. -/
theorem wpList_store_arr {ops : Array Oper} {rest : List Oper} {op : Oper} {a : Act} {Q : Exit → Act → World → Prop} (hgd : op.guard = none) (ty : TypeId) (q r : Operand) (ho : op.op = .store ty q r)
    (b : Nat) (n : Nat) (y : Nat → Nat) (hq : a.eval q = .pointer (some ⟨b, 0, none⟩)) (hr : a.eval r = .agg (vals n y).toArray) (x : Nat → Nat) (hc : Arr w b n x) (hi : (P.info? ty).map (·.size) = some n)
    (h : wpList P ops Q rest (a.put op.dst undef) (w.setCells b 0 (vals n y))) : wpList P ops Q (op :: rest) a w :=
  wpList_store_mid hgd ty q r ho b 0 (vals n y).toArray hq hr (by rw [List.size_toArray, vals_length]; exact hc.there) (by rw [List.size_toArray, vals_length]; exact hi) (all_oneCell_toArray (vals_one n y)) h
theorem wp_store_arr {op : Oper} {a : Act} {K : Act → World → Prop} {Q : Exit → Act → World → Prop} (ty : TypeId) (q r : Operand) (ho : op.op = .store ty q r)
    (b : Nat) (n : Nat) (y : Nat → Nat) (hq : a.eval q = .pointer (some ⟨b, 0, none⟩)) (hr : a.eval r = .agg (vals n y).toArray) (ht : w.there b 0 n) (hi : (P.info? ty).map (·.size) = some n)
    (h : K (a.put op.dst undef) (w.setCells b 0 (vals n y))) : op.wp P a w K Q :=
  wp_store_mid ty q r ho b 0 (vals n y).toArray hq hr (by rw [List.size_toArray, vals_length]; exact ht) (by rw [List.size_toArray, vals_length]; exact hi) (all_oneCell_toArray (vals_one n y)) h
/-- A result that lies in a cell. -/
theorem results_cell_arr {fn : Func} {p : Tmp} {ty : TypeId} (h : fn.results = #[.cell p ty]) (tmps : Array Value) (b : Nat) (n : Nat) (y : Nat → Nat) (d : TypeDesc)
    (hp : tmps.getD p undef = .pointer (some ⟨b, 0, none⟩)) (hc : Arr w b n y)
    (hu : P.underlying ty = some d) (hd : d.isRow = true) (hi : (P.info? ty).map (·.size) = some n) :
    (results fn tmps).run P w = .ok (.agg (vals n y).toArray) w := by
  have hp' : tmps[p]?.getD undef = .pointer (some ⟨b, 0, none⟩) := by simpa using hp
  simp [results, h, hp', asAddr, run_loadVar_mid w b 0 ty (vals n y) d hc.range hu hd (by rw [vals_length]; exact hi)]
/-- Two results, the first in a cell. -/
theorem results_cell_tmp_arr {fn : Func} {p q : Tmp} {ty : TypeId} (h : fn.results = #[.cell p ty, .tmp q]) (tmps : Array Value) (b : Nat) (n : Nat) (y : Nat → Nat) (d : TypeDesc) (v : Value)
    (hp : tmps.getD p undef = .pointer (some ⟨b, 0, none⟩)) (hq : tmps.getD q undef = v) (hc : Arr w b n y)
    (hu : P.underlying ty = some d) (hd : d.isRow = true) (hi : (P.info? ty).map (·.size) = some n) :
    (results fn tmps).run P w = .ok (.tuple #[.agg (vals n y).toArray, v]) w := by
  have hp' : tmps[p]?.getD undef = .pointer (some ⟨b, 0, none⟩) := by simpa using hp
  have hq' : tmps[q]?.getD undef = v := by simpa using hq
  simp [results, h, hp', hq', asAddr, run_loadVar_mid w b 0 ty (vals n y) d hc.range hu hd (by rw [vals_length]; exact hi)]
end

section
variable {P : Program} {w w' : World} {b b' n : Nat} {x y : Nat → Nat}

/-- A copy, as one step of a region that draws. -/
theorem step_copy_cells {ops : Array Oper} {o : Oper} {a : Act} {w : World} {K : Act → World → Prop} {Q : Exit → Act → World → Prop} {E : Prop}
    (hg : o.guard = none) (s x : Operand) (t1 t2 : TypeId) (hop : o.op = Op.call { callee := Callee.builtin Builtin.copy, args := #[s, x], argTypes := #[t1, t2] })
    (e : TypeId) (h1 : P.underlying t1 = some (.slice e)) (h2 : (P.info? e).map (·.size) = some 1)
    (b off dn dcap : Nat) (hs : a.eval s = .slice (some ⟨b, off, none⟩) dn dcap)
    (ad : Addr) (m c : Nat) (hx : a.eval x = .slice (some ad) m c) (cs : List Value) (hn : cs.length = Nat.min m dn) (hc : ∀ j u, cs[j]? = some u → w.cell? (ad.add j) = some u)
    (ht : w.there b off cs.length) (h1c : ∀ u ∈ cs, u.oneCell' = true)
    (hK : K (a.put o.dst (goInt cs.length)) (w.setCells b off cs)) :
    if Region.wanted o (yielded ops a.tmps) = true then Oper.wp P o a w K Q else E := by
  have hw : Region.wanted o (yielded ops a.tmps) = true := by simp [Region.wanted, hg]
  rw [if_pos hw]
  have hrun := run_copy_cells (P := P) w t1 t2 o.type e b off dn dcap ad m c cs h1 h2 hn hc (fun j hj => (ht j hj).1) (fun j hj => (ht j hj).2) h1c
  unfold Oper.wp
  simp [execOp, hop, resolve, invoke, builtin, hs, hx, hrun, Result.andThen]
  exact hK

/-- A part of an array. -/
theorem Arr.part {N o n : Nat} (h : Arr w b N x) (ho : o + n ≤ N) : w.rangeAt b o (vals n fun j => x (o + j)) := fun j v hv => by
  have hj : j < n := by have := (List.getElem?_eq_some_iff.1 hv).1; rwa [vals_length] at this
  rw [vals_at _ _ _ hj] at hv
  rw [← hv]
  exact (h (o + j) (by omega)).1
theorem Arr.thereAt {N o n : Nat} (h : Arr w b N x) (ho : o + n ≤ N) : w.there b o n := fun j hj => by
  rw [(h (o + j) (by omega)).1]
  exact ⟨rfl, (h (o + j) (by omega)).2⟩
/-- A part of an array written. -/
theorem Arr.putAt {N o n : Nat} (h : Arr w b N x) (ho : o + n ≤ N) (y z : Nat → Nat) (hz : ∀ j, j < N → z j = if o ≤ j ∧ j < o + n then y (j - o) else x j) : Arr (w.setCells b o (vals n y)) b N z := fun j hj => by
  rw [World.frozen?_setCells, hz j hj]
  refine ⟨?_, (h j hj).2⟩
  by_cases hin : o ≤ j ∧ j < o + n
  · have := World.cell?_setCells_in b (vals n y) o w (fun i hi => ((h.thereAt ho) i (by rwa [vals_length] at hi)).1) (j - o) (by rw [vals_length]; omega)
    rw [if_pos hin]
    rw [show o + (j - o) = j from by omega] at this
    rw [this]
    have e := vals_at n y (j - o) (by omega)
    rw [List.getElem?_eq_getElem (by rw [vals_length]; omega)] at e
    exact e
  · rw [if_neg hin, World.cell?_setCells_out b (vals n y) o w ⟨b, j, none⟩ (fun _ _ => by rw [vals_length]; show j < o ∨ o + n ≤ j; omega)]
    exact (h j hj).1
theorem range_cells {o : Nat} (h : w.rangeAt b o (vals n x)) : ∀ j u, (vals n x)[j]? = some u → w.cell? ((⟨b, o, none⟩ : Addr).add j) = some u := fun j u hj => by
  rw [Addr.add_mid]; exact h j u hj

/-- Two and three new arrays. -/
theorem boxes2 (w : World) (n : Nat) (x y : Nat → Nat) (t u : TypeId) : ∃ wa, Hid (wa = (w.alloc (.cells (vals n x).toArray t)).alloc (.cells (vals n y).toArray u)) ∧
    Arr wa w.heap.size n x ∧ Arr wa (w.heap.size + 1) n y ∧ Below w.heap.size w wa ∧ wa.heap.size = w.heap.size + 1 + 1 := by
  refine ⟨_, rfl, (arr_new w n x t).alloc _, ?_, ((Below.refl w.heap.size w).alloc (Nat.le_refl _) _).alloc (by simp) _, by simp⟩
  have := arr_new (w.alloc (.cells (vals n x).toArray t)) n y u
  simpa using this
theorem boxes3 (w : World) (n : Nat) (x y z : Nat → Nat) (t u v : TypeId) : ∃ wa, Hid (wa = ((w.alloc (.cells (vals n x).toArray t)).alloc (.cells (vals n y).toArray u)).alloc (.cells (vals n z).toArray v)) ∧
    Arr wa w.heap.size n x ∧ Arr wa (w.heap.size + 1) n y ∧ Arr wa (w.heap.size + 1 + 1) n z ∧ Below w.heap.size w wa ∧ wa.heap.size = w.heap.size + 1 + 1 + 1 := by
  refine ⟨_, rfl, ((arr_new w n x t).alloc _).alloc _, ?_, ?_, (((Below.refl w.heap.size w).alloc (Nat.le_refl _) _).alloc (by simp) _).alloc (by simp; omega) _, by simp⟩
  · have := (arr_new (w.alloc (.cells (vals n x).toArray t)) n y u).alloc (.cells (vals n z).toArray v)
    simpa using this
  · have := arr_new ((w.alloc (.cells (vals n x).toArray t)).alloc (.cells (vals n y).toArray u)) n z v
    simpa using this
end

theorem Try.sizeState : (Try.prog.info? 69).map (·.size) = some 16 := by kernel_rfl
theorem Try.sizeBlock : (Try.prog.info? 23).map (·.size) = some 16 := by kernel_rfl
theorem Try.sizeWord : (Try.prog.info? 68).map (·.size) = some 4 := by kernel_rfl
theorem Try.sizeByte : (Try.prog.info? 5).map (·.size) = some 1 := by kernel_rfl
theorem Try.zeroState (w : World) : (zeroValue 69).run Try.prog w = .ok (.agg (vals 16 fun _ => 0).toArray) w := by kernel_rfl
theorem Try.zeroBlock (w : World) : (zeroValue 23).run Try.prog w = .ok (.agg (vals 16 fun _ => 0).toArray) w := by kernel_rfl
theorem Try.zeroWord (w : World) : (zeroValue 68).run Try.prog w = .ok (.agg (vals 4 fun _ => 0).toArray) w := by kernel_rfl

end Go.Proofs.Ytadpnkecdjleiaa
