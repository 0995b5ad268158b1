/-
  Aknown, Anw, in one text.
-/
import Derived.Test.YtgnhbfjngdgibaaAeval
import Derived.Test.YtgnhbfjngdgibaaKf
import Derived.Test.YtgnhbfjngdgibaaAenc
import Derived.Test.YtgnhbfjngdgibaaKa
import Derived.Deep.CutRange
import Derived.Deep.DeepCutAuto
/-
  The contracts of count, block and known, and of Encrypt and Decrypt of a cipher that is not there.
-/
namespace Go.Proofs.Ytgnhbfjngdgibaa
open Go.RowKit
set_option linter.unusedVariables false
set_option linter.unusedSimpArgs false

/-- The numbers from 0 on. -/
def upL (n : Nat) : List Int := (List.range n).map Int.ofNat
theorem upL_length (n : Nat) : (upL n).length = n := by simp [upL]
theorem upL_snoc (n : Nat) : upL (n + 1) = upL n ++ [(n : Int)] := by simp [upL, List.range_succ]
theorem upL_nats (n : Nat) : nats (upL n) = List.range n := by
  simp only [nats, upL, List.map_map]
  apply List.ext_getElem?
  intro i
  rw [List.getElem?_map]
  cases (List.range n)[i]? <;> rfl
theorem upL_oct (n : Nat) (h : n ≤ 256) : Oct (upL n) := by
  intro x hx
  simp only [upL, List.mem_map, List.mem_range] at hx
  obtain ⟨y, hy, rfl⟩ := hx
  simp; omega

theorem bl_of (r : Nat → Nat) (i : Nat) (hi : i < 16) (w : World) :
    (Instr.index 44 (.agg (vals 16 r).toArray) (.int .i64 (i : Int))).run Try.prog w = .ok (.int .u8 (r i : Nat)) w := by
  rcases (show i = 0 ∨ i = 1 ∨ i = 2 ∨ i = 3 ∨ i = 4 ∨ i = 5 ∨ i = 6 ∨ i = 7 ∨ i = 8 ∨ i = 9 ∨ i = 10 ∨ i = 11 ∨ i = 12 ∨ i = 13 ∨ i = 14 ∨ i = 15 from by omega) with rfl | rfl | rfl | rfl | rfl | rfl | rfl | rfl | rfl | rfl | rfl | rfl | rfl | rfl | rfl | rfl
  all_goals kernel_rfl

/-- Two blocks compared. -/
theorem same16 (x y : Nat → Nat) (b : Bool) (w : World) (h : ((List.range 16).all fun i => x i == y i) = b) :
    (Op.equalIn 10000 44 (.agg (vals 16 x).toArray) (.agg (vals 16 y).toArray)).run Try.prog w = .ok b w := by
  obtain ⟨i, hi⟩ := Try.sizeU8
  have h1 := run_equalIn_array (P := Try.prog) w 9999 (vals 16 x).toArray (vals 16 y).toArray Try.underlying44 hi
  rw [Try.cellsU8, items_u8 16 9998 x y w _ (by simp), h] at h1
  exact h1
theorem same16_yes {x y : Nat → Nat} (h : Eq16 x y) : ((List.range 16).all fun i => x i == y i) = true := by
  rw [List.all_eq_true]
  intro j hj
  rw [beq_iff_eq]
  exact h j (by simpa using hj)

set_option maxHeartbeats 1000000 in
set_option maxRecDepth 100000 in
theorem encrypt_nil (x : Nat → Nat) (w : World) :
    Calls Try.prog 37 #[.pointer none, .agg (vals 16 x).toArray] w fun e w' =>
      e = .returned (.tuple #[.agg (vals 16 fun _ => 0).toArray, .int .i64 1]) ∧ Below w.heap.size w w' := by
  have hzb := Try.zeroBlock
  obtain ⟨wa, hwa, b1, b2, hB, hsz⟩ := boxes2 w 16 x (fun _ => 0) 44 44
  go_enter Try.func37, Try.ntmps37
  go_wp2_with fail
  rw [← hwa.out]
  refine (absent_nil _).mono ?_
  rintro e w' ⟨rfl, rfl⟩
  go_wp2_with (refine wpList_store_arr rfl 44 _ _ rfl _ 16 (fun _ => 0) rfl rfl _ b2 Try.sizeBlock ?_)
  refine bodyPost_ret (v := .tuple #[.agg (vals 16 fun _ => 0).toArray, .int .i64 1]) ?_ rfl ⟨rfl, below_setCells _ 0 hB (by omega)⟩
  exact results_cell_tmp_arr rfl _ _ 16 _ _ _ rfl rfl (b2.put _) Try.underlying44 rfl Try.sizeBlock

/-- A load of the whole, behind a guard that lets it by. -/
theorem wpList_load_want {P : Program} {w : World} {ops : Array Oper} {rest : List Oper} {op : Oper} {a : Act} {Q : Exit → Act → World → Prop} (ty : TypeId) (q : Operand) (ho : op.op = .load ty q) (hw : Region.wanted op (yielded ops a.tmps) = true)
    (b : Nat) (hq : a.eval q = .pointer (some ⟨b, 0, none⟩)) (n : Nat) (y : Nat → Nat) (hc : Arr w b n y) (d : TypeDesc)
    (hu : P.underlying ty = some d) (hd : d.isRow = true) (hi : (P.info? ty).map (·.size) = some n)
    (h : wpList P ops Q rest (a.put op.dst (.agg (vals n y).toArray)) w) : wpList P ops Q (op :: rest) a w :=
  BigFrame.wpList_want hw fun _ hK => wp_load_mid ty q ho b 0 hq (vals n y) d hc.range hu hd (by rw [vals_length]; exact hi) (hK _ _ h)

theorem std16 : (vals 16 fun j => [0x69, 0xc4, 0xe0, 0xd8, 0x6a, 0x7b, 0x04, 0x30, 0xd8, 0xcd, 0xb7, 0x80, 0x70, 0xb4, 0xc5, 0x5a].getD j 0).toArray = #[.int .u8 0x69, .int .u8 0xc4, .int .u8 0xe0, .int .u8 0xd8, .int .u8 0x6a, .int .u8 0x7b, .int .u8 0x04, .int .u8 0x30, .int .u8 0xd8, .int .u8 0xcd, .int .u8 0xb7, .int .u8 0x80, .int .u8 0x70, .int .u8 0xb4, .int .u8 0xc5, .int .u8 0x5a] := by kernel_rfl
theorem oblk (j : Nat) : blkN j < 256 := by unfold blkN; omega
theorem o16 (j : Nat) : wordB 4 (List.range 16) j < 256 := wordB_lt (by decide) j
theorem eq_known (y : Nat → Nat) (hk : Eq16 y fun j => [0x69, 0xc4, 0xe0, 0xd8, 0x6a, 0x7b, 0x04, 0x30, 0xd8, 0xcd, 0xb7, 0x80, 0x70, 0xb4, 0xc5, 0x5a].getD j 0) (w : World) :
    (Op.equalIn 10000 44 (.agg (vals 16 y).toArray) (.agg #[.int .u8 0x69, .int .u8 0xc4, .int .u8 0xe0, .int .u8 0xd8, .int .u8 0x6a, .int .u8 0x7b, .int .u8 0x04, .int .u8 0x30, .int .u8 0xd8, .int .u8 0xcd, .int .u8 0xb7, .int .u8 0x80, .int .u8 0x70, .int .u8 0xb4, .int .u8 0xc5, .int .u8 0x5a])).run Try.prog w = .ok true w := by
  have h := same16 y _ true w (same16_yes hk)
  rw [std16] at h
  exact h

end Go.Proofs.Ytgnhbfjngdgibaa

/-
  A cipher that New made, and blocks that lie beside it.
-/
namespace Go.Proofs.Ytgnhbfjngdgibaa
open Go.RowKit
set_option linter.unusedVariables false
set_option linter.unusedSimpArgs false

/-- The keys of a cipher that New made, which is new. -/
theorem new_new (p : Option Addr) (cap n : Nat) (xs : List Int) (w : World) (hp : Bin w p xs) (hx : Oct xs) (hl : xs.length = n) (hcap : n ≤ cap) (h : n = 16 ∨ n = 32) :
    Calls Try.prog 35 #[.slice p n cap] w fun e w' => ∃ c kb r F, e = .returned (.tuple #[.pointer (some ⟨c, 0, none⟩), .int .i64 0]) ∧
      Cip w' c kb r F ∧ Hid (r = n / 4 + 6 ∧ F = wordB (n / 4) (nats xs)) ∧ (1 ≤ r ∧ r ≤ 14) ∧ (∀ j, F j < 256) ∧ Below w.heap.size w w' ∧ w.heap.size ≤ c ∧ w.heap.size ≤ kb := by
  rcases h with rfl | rfl
  · refine (new4_new p cap xs w hp hx hl hcap).mono ?_
    rintro e w' ⟨c, kb, he, hC, hb, h1, h2⟩
    exact ⟨c, kb, 10, _, he, hC, ⟨rfl, rfl⟩, ⟨by decide, by decide⟩, wordB_lt (nats_lt hx), hb, h1, h2⟩
  · refine (new8_new p cap xs w hp hx hl hcap).mono ?_
    rintro e w' ⟨c, kb, he, hC, hb, h1, h2⟩
    exact ⟨c, kb, 14, _, he, hC, ⟨rfl, rfl⟩, ⟨by decide, by decide⟩, wordB_lt (nats_lt hx), hb, h1, h2⟩
theorem new_any (p : Option Addr) (cap n : Nat) (xs : List Int) (w : World) (hp : Bin w p xs) (hx : Oct xs) (hl : xs.length = n) (hcap : n ≤ cap) (h : n = 16 ∨ n = 32) :
    Calls Try.prog 35 #[.slice p n cap] w fun e w' => ∃ c kb r F, e = .returned (.tuple #[.pointer (some ⟨c, 0, none⟩), .int .i64 0]) ∧
      Cip w' c kb r F ∧ Hid (r = n / 4 + 6 ∧ F = wordB (n / 4) (nats xs)) ∧ (1 ≤ r ∧ r ≤ 14) ∧ (∀ j, F j < 256) ∧ Below w.heap.size w w' := by
  refine (new_new p cap n xs w hp hx hl hcap h).mono ?_
  rintro e w' ⟨c, kb, r, F, he, hC, hr, h1, oF, hb, _, _⟩
  exact ⟨c, kb, r, F, he, hC, hr, h1, oF, hb⟩

/-- What a row of blocks holds, and a cipher beside it. -/
def Bks (w0 : World) (c k r : Nat) (F : Nat → Nat) (bs : List (Nat × (Nat → Nat))) (w : World) : Prop := Cip w c k r F ∧ (∀ q ∈ bs, Arr w q.1 16 q.2) ∧ Below w0.heap.size w0 w
theorem Bks.grow {w0 w w' : World} {c k r : Nat} {F : Nat → Nat} {bs : List (Nat × (Nat → Nat))} (h : Bks w0 c k r F bs w) (hb : Below w.heap.size w w') : Bks w0 c k r F bs w' :=
  ⟨h.1.below hb, fun q hq => (h.2.1 q hq).below hb, h.2.2.trans (hb.mono h.2.2.size)⟩
theorem Cip.beside {w : World} {c k r g : Nat} {F : Nat → Nat} (h : Cip w c k r F) (hc : g ≠ c) (hk : g ≠ k) (vs : List Value) (o : Nat := 0) : Cip (w.setCells g o vs) c k r F := by
  obtain ⟨h0, h1, h2, h3⟩ := h
  have e : ∀ j, (w.setCells g o vs).cell? ⟨c, j, none⟩ = w.cell? ⟨c, j, none⟩ := fun j => World.cell?_setCells_out g vs o w ⟨c, j, none⟩ (fun hh _ => absurd hh.symm hc)
  exact ⟨by rw [e]; exact h0, fun x hx => by rw [e]; exact h1 x hx, fun x hx => by rw [e]; exact h2 x hx, fun j hj => by
    rw [World.frozen?_setCells, World.cell?_setCells_out g vs o w ⟨k, j, none⟩ (fun hh _ => absurd hh.symm hk)]; exact h3 j hj⟩
/-- A new block with x, behind a callee. -/
theorem Bks.new {w0 w : World} {c k r : Nat} {F : Nat → Nat} {bs : List (Nat × (Nat → Nat))} (h : Bks w0 c k r F bs w) (x : Nat → Nat) (t : TypeId) :
    Bks w0 c k r F ((w.heap.size, x) :: bs) ((w.alloc (.cells (vals 16 fun _ => 0).toArray t)).setCells w.heap.size 0 (vals 16 x)) ∧ Arr (w.alloc (.cells (vals 16 fun _ => 0).toArray t)) w.heap.size 16 (fun _ => 0) := by
  have hl := h.1.lt
  have hn := arr_new w 16 (fun _ => 0) t
  have hg := h.grow ((Below.refl w.heap.size w).alloc (Nat.le_refl _) (.cells (vals 16 fun _ => 0).toArray t))
  refine ⟨⟨hg.1.beside (by omega) (by omega) _, fun q hq => ?_, below_setCells _ 0 hg.2.2 h.2.2.size⟩, hn⟩
  rcases List.mem_cons.1 hq with rfl | hq
  · exact hn.put x
  · have := (h.2.1 q hq).lt (by decide)
    exact (hg.2.1 q hq).besidePut (by omega) 0 _
theorem Bks.at {w0 w : World} {c k r : Nat} {F : Nat → Nat} {bs : List (Nat × (Nat → Nat))} (h : Bks w0 c k r F bs w) {g : Nat} {x : Nat → Nat} (hm : (g, x) ∈ bs) : Arr w g 16 x := h.2.1 _ hm


end Go.Proofs.Ytgnhbfjngdgibaa
