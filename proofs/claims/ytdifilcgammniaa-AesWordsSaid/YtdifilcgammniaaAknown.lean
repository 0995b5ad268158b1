/-
  The contracts of count, block and known, and of Encrypt and Decrypt of a cipher that is not there.
-/
import Derived.Test.YtdifilcgammniaaAeval
import Derived.Test.YtdifilcgammniaaAnew
import Derived.Test.YtdifilcgammniaaAenc
import Derived.Test.YtdifilcgammniaaAeq
namespace Go.Proofs.Ytdifilcgammniaa
open Go.RowKit
set_option linter.unusedVariables false
set_option linter.unusedSimpArgs false

/-- The numbers from 0 on. -/
def upL (n : Nat) : List Int := (List.range n).map Int.ofNat
theorem upL_length (n : Nat) : (upL n).length = n := by simp [upL]
theorem upL_snoc (n : Nat) : upL (n + 1) = upL n ++ [(n : Int)] := by simp [upL, List.range_succ]
theorem upL_nats (n : Nat) : nats (upL n) = List.range n := by
  simp only [nats, upL, List.map_map]
  apply List.ext_getElem?
  intro i
  rw [List.getElem?_map]
  cases (List.range n)[i]? <;> rfl
theorem upL_oct (n : Nat) (h : n ≤ 256) : Oct (upL n) := by
  intro x hx
  simp only [upL, List.mem_map, List.mem_range] at hx
  obtain ⟨y, hy, rfl⟩ := hx
  simp; omega

set_option maxHeartbeats 1000000 in
theorem count_any (n : Nat) (w : World) (hn : n ≤ 32) :
    Calls Try.prog 32 #[.int .i64 0, .int .i64 n] w fun e w' => ∃ v, e = .returned v ∧ Own w.heap.size w' v n (upL n) ∧ Below w.heap.size w w' := by
  obtain ⟨i0, hi, hz0, hz1, hz2⟩ := info_parts Try.infoU8
  go_enter Try.func32, Try.ntmps32
  go_wp2
  go_loopw [5, 6] (fun v i wr => ∃ k : Nat, k ≤ n ∧ i = .int .i64 (k : Int) ∧ Own w.heap.size wr v k (upL k) ∧ Below w.heap.size w wr) (fun _ i _ => n - (intOf i).toNat)
  case atStart => exact ⟨0, by omega, rfl, Own.nil _ _, Below.refl _ _⟩
  case round =>
    obtain ⟨k, hk, rfl, hown, hbel⟩ := hrel
    by_cases hlt : k < n
    · have HO := hid hown
      clear hown
      have e8 : IntKind.u8.wrap (k : Int) = (k : Int) := by simp [IntKind.wrap, IntKind.bits, IntKind.signed]; omega
      have hsz := hbel.size
      go_wp2_with (at_builtin; refine wpList_append_lies _ rfl (.tmp 12) (.tmp 17) 22 rfl w.heap.size 5 i0 (.int .u8 0) 1 1 Try.underlying22 hi hz0 hz1 hz2 rfl (by decide) u5 k _ rfl (by exact World.ownsRow.alloc HO.out _) ⟨wr.heap.size, 0, none⟩ 1 1 [.int .u8 (k : Int)] rfl rfl (by exact one_new _ _ _) (int_one _) (by decide) (by unfold maxLen; omega) (by omega) (by simp; omega) _ rfl ?_; intro g cap w2 hown2 hgrow2 _ _)
      have HN := hid (show Own w.heap.size w2 (.slice (some ⟨g, 0, none⟩) (k + 1) cap) (k + 1) (upL k ++ [(k : Int)]) from by
        unfold Own; rw [List.map_append]; exact hown2)
      have hb2 : Below w.heap.size w w2 := (hbel.alloc hsz _).grown hgrow2 (by simp; omega) (fun q hq => (World.ownsRow.lt HO.out q hq).1)
      clear hown2 hgrow2
      go_wp2
      go_roundw
      case rel => exact ⟨k + 1, by omega, by go_num, by rw [upL_snoc]; exact HN.out, hb2⟩
      case measure => simp [intOf]; omega
    · obtain rfl : k = n := by omega
      have HO := hid hown
      clear hown
      go_wp2
      go_ret
      exact ⟨_, rfl, HO.out, hbel⟩

theorem bl_of (r : Nat → Nat) (i : Nat) (hi : i < 16) (w : World) :
    (Instr.index 35 (.agg (vals 16 r).toArray) (.int .i64 (i : Int))).run Try.prog w = .ok (.int .u8 (r i : Nat)) w := by
  rcases (show i = 0 ∨ i = 1 ∨ i = 2 ∨ i = 3 ∨ i = 4 ∨ i = 5 ∨ i = 6 ∨ i = 7 ∨ i = 8 ∨ i = 9 ∨ i = 10 ∨ i = 11 ∨ i = 12 ∨ i = 13 ∨ i = 14 ∨ i = 15 from by omega) with rfl | rfl | rfl | rfl | rfl | rfl | rfl | rfl | rfl | rfl | rfl | rfl | rfl | rfl | rfl | rfl
  all_goals kernel_rfl

set_option maxRecDepth 100000 in
theorem block_any (w : World) :
    Calls Try.prog 33 #[] w fun e w' => e = .returned (.agg (vals 16 blkN).toArray) ∧ Below w.heap.size w w' := by
  have hz := Try.zeroBlock
  obtain ⟨wa, hwa, b1, b2, hB, _⟩ := boxes2 w 16 (fun _ => 0) (fun _ => 0) 35 35
  go_enter Try.func33, Try.ntmps33
  go_wp2_with fail
  try rw [← hwa.out]
  go_loopw [3] (fun i wr => ∃ n : Nat, n ≤ 16 ∧ i = .int .i64 (n : Int) ∧ Two w.heap.size w wr 16 (w.heap.size + 1) (mixk blkN (fun _ => 0) n) w.heap.size) (fun i _ => 16 - (intOf i).toNat)
  case atStart => exact ⟨0, by decide, rfl, b2.same fun j _ => (mixk_zero blkN (fun _ => 0) j).symm, b1, hB⟩
  case round =>
    clear b1 b2 hB hwa hz
    obtain ⟨k, hk, rfl, h1, h2, hb⟩ := hrel
    by_cases hlt : k < 16
    · obtain ⟨hc, hf⟩ := h1 k hlt
      have HS := hid (h1.set k (blkN k) hlt)
      have H2 := hid h2
      have e8 : 17 * (k : Int) = ((blkN k : Nat) : Int) := by unfold blkN; omega
      have E8 := hid e8
      clear h1 h2 e8
      go_wp2
      go_roundw
      case rel =>
        refine ⟨k + 1, by omega, by go_num, ?_, ?_, hb.setCell (by simp) _⟩
        · rw [E8.out]
          exact HS.out.same fun j _ => mixk_step blkN _ k j
        · exact H2.out.beside (by omega) _ _
      case measure => simp [intOf]; omega
    · obtain rfl : k = 16 := by omega
      have h3 := h2.put (mixk blkN (fun _ => 0) 16)
      go_wp2_with (first | (refine wpList_load_arr rfl 35 _ rfl _ rfl 16 _ h1 _ Try.underlying35 rfl Try.sizeBlock ?_) | (refine wpList_store_arr rfl 35 _ _ rfl _ 16 _ rfl rfl _ h2 Try.sizeBlock ?_))
      refine bodyPost_ret (v := .agg (vals 16 blkN).toArray) ?_ rfl ⟨rfl, below_setCells _ 0 hb (by omega)⟩
      have h4 := h3.same fun j hj => mixk_full _ _ 16 j hj
      exact results_cell_arr rfl _ _ 16 _ _ rfl h4 Try.underlying35 rfl Try.sizeBlock

/-- Two blocks compared. -/
theorem same16 (x y : Nat → Nat) (b : Bool) (w : World) (h : ((List.range 16).all fun i => x i == y i) = b) :
    (Op.equalIn 10000 35 (.agg (vals 16 x).toArray) (.agg (vals 16 y).toArray)).run Try.prog w = .ok b w := by
  obtain ⟨i, hi⟩ := Try.sizeU8
  have h1 := run_equalIn_array (P := Try.prog) w 9999 (vals 16 x).toArray (vals 16 y).toArray Try.underlying35 hi
  rw [Try.cellsU8, items_u8 16 9998 x y w _ (by simp), h] at h1
  exact h1
theorem same16_yes {x y : Nat → Nat} (h : Eq16 x y) : ((List.range 16).all fun i => x i == y i) = true := by
  rw [List.all_eq_true]
  intro j hj
  rw [beq_iff_eq]
  exact h j (by simpa using hj)

set_option maxHeartbeats 1000000 in
set_option maxRecDepth 100000 in
theorem encrypt_nil (x : Nat → Nat) (w : World) :
    Calls Try.prog 18 #[.pointer none, .agg (vals 16 x).toArray] w fun e w' =>
      e = .returned (.tuple #[.agg (vals 16 fun _ => 0).toArray, .int .i64 1]) ∧ Below w.heap.size w w' := by
  have hzb := Try.zeroBlock
  obtain ⟨wa, hwa, b1, b2, hB, hsz⟩ := boxes2 w 16 x (fun _ => 0) 35 35
  go_enter Try.func18, Try.ntmps18
  go_wp2_with fail
  rw [← hwa.out]
  refine (absent_nil _).mono ?_
  rintro e w' ⟨rfl, rfl⟩
  go_wp2_with (refine wpList_store_arr rfl 35 _ _ rfl _ 16 (fun _ => 0) rfl rfl _ b2 Try.sizeBlock ?_)
  refine bodyPost_ret (v := .tuple #[.agg (vals 16 fun _ => 0).toArray, .int .i64 1]) ?_ rfl ⟨rfl, below_setCells _ 0 hB (by omega)⟩
  exact results_cell_tmp_arr rfl _ _ 16 _ _ _ rfl rfl (b2.put _) Try.underlying35 rfl Try.sizeBlock

set_option maxHeartbeats 1000000 in
set_option maxRecDepth 100000 in
theorem decrypt_nil (x : Nat → Nat) (w : World) :
    Calls Try.prog 20 #[.pointer none, .agg (vals 16 x).toArray] w fun e w' =>
      e = .returned (.tuple #[.agg (vals 16 fun _ => 0).toArray, .int .i64 1]) ∧ Below w.heap.size w w' := by
  have hzb := Try.zeroBlock
  obtain ⟨wa, hwa, b1, b2, hB, hsz⟩ := boxes2 w 16 x (fun _ => 0) 35 35
  go_enter Try.func20, Try.ntmps20
  go_wp2_with fail
  rw [← hwa.out]
  refine (absent_nil _).mono ?_
  rintro e w' ⟨rfl, rfl⟩
  go_wp2_with (refine wpList_store_arr rfl 35 _ _ rfl _ 16 (fun _ => 0) rfl rfl _ b2 Try.sizeBlock ?_)
  refine bodyPost_ret (v := .tuple #[.agg (vals 16 fun _ => 0).toArray, .int .i64 1]) ?_ rfl ⟨rfl, below_setCells _ 0 hB (by omega)⟩
  exact results_cell_tmp_arr rfl _ _ 16 _ _ _ rfl rfl (b2.put _) Try.underlying35 rfl Try.sizeBlock

/-- A load of the whole, behind a guard that lets it by. -/
theorem wpList_load_want {P : Program} {w : World} {ops : Array Oper} {rest : List Oper} {op : Oper} {a : Act} {Q : Exit → Act → World → Prop} (ty : TypeId) (q : Operand) (ho : op.op = .load ty q) (hw : Region.wanted op (yielded ops a.tmps) = true)
    (b : Nat) (hq : a.eval q = .pointer (some ⟨b, 0, none⟩)) (n : Nat) (y : Nat → Nat) (hc : Arr w b n y) (d : TypeDesc)
    (hu : P.underlying ty = some d) (hd : d.isRow = true) (hi : (P.info? ty).map (·.size) = some n)
    (h : wpList P ops Q rest (a.put op.dst (.agg (vals n y).toArray)) w) : wpList P ops Q (op :: rest) a w :=
  BigFrame.wpList_want hw fun _ hK => wp_load_mid ty q ho b 0 hq (vals n y) d hc.range hu hd (by rw [vals_length]; exact hi) (hK _ _ h)

theorem std16 : (vals 16 fun j => [0x69, 0xc4, 0xe0, 0xd8, 0x6a, 0x7b, 0x04, 0x30, 0xd8, 0xcd, 0xb7, 0x80, 0x70, 0xb4, 0xc5, 0x5a].getD j 0).toArray = #[.int .u8 0x69, .int .u8 0xc4, .int .u8 0xe0, .int .u8 0xd8, .int .u8 0x6a, .int .u8 0x7b, .int .u8 0x04, .int .u8 0x30, .int .u8 0xd8, .int .u8 0xcd, .int .u8 0xb7, .int .u8 0x80, .int .u8 0x70, .int .u8 0xb4, .int .u8 0xc5, .int .u8 0x5a] := by kernel_rfl
theorem oblk (j : Nat) : blkN j < 256 := by unfold blkN; omega
theorem o16 (j : Nat) : wordB 4 (List.range 16) j < 256 := wordB_lt (by decide) j
theorem eq_known (y : Nat → Nat) (hk : Eq16 y fun j => [0x69, 0xc4, 0xe0, 0xd8, 0x6a, 0x7b, 0x04, 0x30, 0xd8, 0xcd, 0xb7, 0x80, 0x70, 0xb4, 0xc5, 0x5a].getD j 0) (w : World) :
    (Op.equalIn 10000 35 (.agg (vals 16 y).toArray) (.agg #[.int .u8 0x69, .int .u8 0xc4, .int .u8 0xe0, .int .u8 0xd8, .int .u8 0x6a, .int .u8 0x7b, .int .u8 0x04, .int .u8 0x30, .int .u8 0xd8, .int .u8 0xcd, .int .u8 0xb7, .int .u8 0x80, .int .u8 0x70, .int .u8 0xb4, .int .u8 0xc5, .int .u8 0x5a])).run Try.prog w = .ok true w := by
  have h := same16 y _ true w (same16_yes hk)
  rw [std16] at h
  exact h

end Go.Proofs.Ytdifilcgammniaa
