/-
  slices.Chunk of bytes, by sixteen: what it makes, and what that tells.
-/
import Derived.Test.YtgnhbfjngdgibaaRnd
namespace Go.Proofs.Ytgnhbfjngdgibaa
open Go.RowKit Go.Shelf
set_option linter.unusedVariables false
set_option linter.unusedSimpArgs false
attribute [local go_sem] Oper.semAt_some

set_option maxHeartbeats 2000000 in
set_option maxRecDepth 100000 in
theorem chunk_of (p : Option Addr) (n cap : Nat) (w : World) :
    Calls Try.prog 39 #[.slice p n cap, .int .i64 16] w fun e w' => e = .returned (.func (.func 55) #[] #[.pointer (some ⟨w.heap.size, 0, none⟩), .pointer (some ⟨w.heap.size + 1, 0, none⟩)]) ∧
      w' = (w.alloc (.cells #[.slice p n cap] 22)).alloc (.cells #[.int .i64 16] 3) := by
  have hmf : ∀ (fn : Fn) (first cap : Array Value) (w : World), (Instr.makeFunc fn first cap).run Try.prog w = .ok (.func fn first cap) w := fun _ _ _ _ => rfl
  go_enter Try.func39, Try.ntmps39
  go_wp2_with fail
  go_ret
  exact ⟨rfl, rfl⟩

/-- Where chunk k begins, and how long it is. -/
def chP (p : Option Addr) (k : Nat) : Option Addr := p.map fun a => ⟨a.block, a.off + 16 * k, a.spot⟩
def chN (n k : Nat) : Nat := min 16 (n - 16 * k)

/-- What stays in a round that goes on: two boxes. -/
def Kp2 (a b : Nat) (W W' : World) : Prop := W'.heap[a]? = W.heap[a]? ∧ W'.heap[b]? = W.heap[b]?
theorem Kp2.t {a b : Nat} {A B C : World} (h : Kp2 a b A B) (k : Kp2 a b B C) : Kp2 a b A C := ⟨k.1.trans h.1, k.2.trans h.2⟩
theorem Kp2.b {a b : Nat} {w : World} (ha : a < w.heap.size) (hb : b < w.heap.size) (W : World) (l : Nat) (o o' : Obj) (hl : w.heap.size ≤ l) (_ : W.heap[l]? = some o) (_ : o.isCells = false) (_ : o.isWalk = false) : Kp2 a b W (W.putObj l o') :=
  ⟨World.putObj_heap_other (by omega), World.putObj_heap_other (by omega)⟩

set_option maxHeartbeats 2000000 in
set_option maxRecDepth 100000 in
theorem chunk1_in (n l Bs Bn b o len cap : Nat) (hn : 1 ≤ n) (hlen : 0 < len) (hm : len ≤ 140737488355328) (J Jx : List Nat → World → Prop)
    (hY : ∀ pre x W, J pre W → pre.length < (len + 15) / 16 → YieldAt Fence.wide (n - 1) Try.prog l #[.slice (chP (some ⟨b, o, none⟩) x) (chN len x) (chN len x)] W fun e W' =>
      (e = .returned (.bool true) ∧ J (pre ++ [x]) W' ∧ Kp2 Bs Bn W W') ∨ (e = .returned (.bool false) ∧ Jx (pre ++ [x]) W'))
    (W : World) (hBs : W.cell? ⟨Bs, 0, none⟩ = some (.slice (some ⟨b, o, none⟩) len cap)) (hBn : W.cell? ⟨Bn, 0, none⟩ = some (.int .i64 16)) (hcap : len ≤ cap) (h0 : J [] W) (hJd : ∀ pre W n, J pre W → J pre (W.drewN n)) :
    CallsIn Fence.wide n Try.prog 55 #[.func (.yield l) #[] #[], .pointer (some ⟨Bs, 0, none⟩), .pointer (some ⟨Bn, 0, none⟩)] W fun e W' => (∃ v, e = .returned v) ∧
      ((∃ ys, ys = List.range ((len + 15) / 16) ∧ J ys W') ∨ (∃ pre, (∃ k, k ≤ (len + 15) / 16 ∧ pre = List.range k) ∧ Jx pre W')) := by
  refine callsIn_of_wp Try.func55 rfl trivial ?_ rfl
  simp only [Try.ntmps55, List.size_toArray, List.length_cons, List.length_nil, Nat.reduceAdd, Nat.reduceSub, Array.replicate_succ, Array.replicate_zero, List.push_toArray, List.append_toArray, List.nil_append, List.cons_append]
  gi_wp2
  gi_loopw [4] (fun i wr => ∃ k a : Nat, k ≤ (len + 15) / 16 ∧ Hid (a = 16 * k) ∧ i = .int .i64 (a : Int) ∧ J (List.range k) wr ∧ wr.heap[Bs]? = W.heap[Bs]? ∧ wr.heap[Bn]? = W.heap[Bn]?)
    (fun i _ => len + 16 - (intOf i).toNat)
  case atStart => exact ⟨0, 0, Nat.zero_le _, rfl, rfl, h0, rfl, rfl⟩
  case round =>
    obtain ⟨k, a, hk, ha, rfl, hJs, hs0, hn0⟩ := hrel
    have hs : wr.cell? ⟨Bs, 0, none⟩ = some (.slice (some ⟨b, o, none⟩) len cap) := by rw [← hBs]; exact World.cell?_of_block hs0
    have hn' : wr.cell? ⟨Bn, 0, none⟩ = some (.int .i64 16) := by rw [← hBn]; exact World.cell?_of_block hn0
    by_cases hlt : k < (len + 15) / 16
    · have hkl : a < len := by rw [ha.out]; omega
      have kI : (a : Int) < (len : Int) := by omega
      obtain ⟨m, hm'⟩ : ∃ m, Hid (m = chN len k) := ⟨_, rfl⟩
      have hm1 : m ≤ 16 ∧ m ≤ len - a ∧ 1 ≤ m := by rw [hm'.out, ha.out] at *; unfold chN; omega
      have hmin : ∀ w, (Builtin.min_ #[3, 3] 3 #[.int .i64 16, .int .i64 ((len - a : Nat) : Int)]).run Try.prog w = .ok (.int .i64 (m : Int)) w := by
        intro w
        have e : m = min 16 (len - a) := by rw [hm'.out, ha.out]; rfl
        rw [e]
        by_cases h : 16 ≤ len - a
        · rw [Nat.min_eq_left h]
          simp [Builtin.min_, Builtin.min2]
          omega
        · rw [Nat.min_eq_right (by omega)]
          simp [Builtin.min_, Builtin.min2]
          omega
      have hd : J (List.range k) wr.drew := hJd _ _ 1 hJs
      gi_wp2
      refine wpIn_wide.2 ?_
      go_region
      obtain ⟨fn, tmps, assign, body, hy, hR⟩ := hY (List.range k) k wr.drew hd (by rw [List.length_range]; exact hlt)
      have e1 : chP (some ⟨b, o, none⟩) k = some ⟨b, o + a, none⟩ := by rw [ha.out]; rfl
      rw [e1, ← hm'.out] at hy
      have ham : a + m ≤ cap := by omega
      have hwr : IntKind.i64.wrap ((a : Int) + (m : Int)) = ((a + m : Nat) : Int) := by simp [IntKind.wrap, IntKind.bits, IntKind.signed]; omega
      have kJ : ((a + m : Nat) : Int) ≤ (cap : Int) := by omega
      clear hmin hJs hY
      gi_wp2
      refine hR.mono ?_
      rintro e W3 (⟨rfl, hJ3, hk3⟩ | ⟨rfl, hJx3⟩)
      · have hs3 : W3.heap[Bs]? = W.heap[Bs]? := hk3.1.trans hs0
        have hn3 : W3.heap[Bn]? = W.heap[Bn]? := hk3.2.trans hn0
        have hn4 : W3.cell? ⟨Bn, 0, none⟩ = some (.int .i64 16) := by rw [← hBn]; exact World.cell?_of_block hn3
        rw [← List.range_succ] at hJ3
        have e2 : Hid (a + 16 = 16 * (k + 1)) := by have := ha.out; show a + 16 = 16 * (k + 1); omega
        have hw3 : IntKind.i64.wrap ((a : Int) + 16) = ((a + 16 : Nat) : Int) := by simp [IntKind.wrap, IntKind.bits, IntKind.signed]; omega
        clear hs hn' hs0 hn0 hd hy hR
        gi_wp2
        go_roundw
        case rel => exact ⟨k + 1, a + 16, by omega, e2, by go_num, hJ3, hs3, hn3⟩
        case measure => simp [intOf]; omega
      · gi_wp2
        refine bodyPost_ret (results_none rfl _ _ _) rfl ?_
        exact ⟨⟨_, rfl⟩, .inr ⟨_, ⟨k + 1, by omega, rfl⟩, by rw [List.range_succ]; exact hJx3⟩⟩
    · obtain rfl : k = (len + 15) / 16 := by omega
      have kI : ¬ (a : Int) < (len : Int) := by have := ha.out; omega
      gi_wp2
      go_end0
      exact ⟨⟨_, rfl⟩, .inl (by first | exact hJs | exact ⟨_, rfl, hJs⟩)⟩

set_option maxHeartbeats 2000000 in
set_option maxRecDepth 100000 in
/-- Nothing to be parted. -/
theorem chunk1_none (n l Bs Bn : Nat) (p : Option Addr) (cap : Nat) (J : List Nat → World → Prop) (W : World) (hBs : W.cell? ⟨Bs, 0, none⟩ = some (.slice p 0 cap)) (h0 : J [] W) :
    CallsIn Fence.wide n Try.prog 55 #[.func (.yield l) #[] #[], .pointer (some ⟨Bs, 0, none⟩), .pointer (some ⟨Bn, 0, none⟩)] W fun e W' => (∃ v, e = .returned v) ∧ J [] W' := by
  refine callsIn_of_wp Try.func55 rfl trivial ?_ rfl
  simp only [Try.ntmps55, List.size_toArray, List.length_cons, List.length_nil, Nat.reduceAdd, Nat.reduceSub, Array.replicate_succ, Array.replicate_zero, List.push_toArray, List.append_toArray, List.nil_append, List.cons_append]
  gi_wp2
  gi_loopw [4] (fun i wr => i = .int .i64 0 ∧ J [] wr ∧ wr.cell? ⟨Bs, 0, none⟩ = some (.slice p 0 cap)) (fun _ _ => 0)
  case atStart => exact ⟨rfl, h0, hBs⟩
  case round =>
    obtain ⟨rfl, hJs, hc⟩ := hrel
    gi_wp2
    go_end0
    exact ⟨⟨_, rfl⟩, hJs⟩

/-- slices.Chunk(s, 16), as a sequence: parts of sixteen bytes, each by its number. -/
theorem chunk_stops (n Bs Bn len cap : Nat) (p : Option Addr) (hn : 1 ≤ n) (hm : len ≤ 140737488355328) (hcap : len ≤ cap) (hp : 0 < len → ∃ b o, p = some ⟨b, o, none⟩) (w : World) (hBs : w.cell? ⟨Bs, 0, none⟩ = some (.slice p len cap)) (hBn : w.cell? ⟨Bn, 0, none⟩ = some (.int .i64 16)) :
    SeqStopsK Fence.wide n Try.prog 55 #[.pointer (some ⟨Bs, 0, none⟩), .pointer (some ⟨Bn, 0, none⟩)] (fun x : Nat => #[Value.slice (chP p x) (chN len x) (chN len x)]) (Kp2 Bs Bn)
      (fun ys => ys = List.range ((len + 15) / 16)) (fun pre => ∃ k, k ≤ (len + 15) / 16 ∧ pre = List.range k) ((len + 15) / 16) w := fun l J Jx W hW hJ _ hY h0 => by
  have hs := (hW.cell (p := ⟨Bs, 0, none⟩) (World.block_lt_of_cell? w _ hBs)).trans hBs
  have hn' := (hW.cell (p := ⟨Bn, 0, none⟩) (World.block_lt_of_cell? w _ hBn)).trans hBn
  by_cases hl : 0 < len
  · obtain ⟨b, o, rfl⟩ := hp hl
    exact chunk1_in n l Bs Bn b o len cap hn hl hm J Jx hY W hs hn' hcap h0 (fun pre W' k hj => hJ pre W' _ none hj ⟨rfl, rfl, rfl, Nat.le_refl _, fun _ _ _ => rfl⟩ (by simp))
  · obtain rfl : len = 0 := by omega
    refine (chunk1_none n l Bs Bn p cap J W hs h0).mono ?_
    rintro e W' ⟨he, hj⟩
    exact ⟨he, .inl ⟨[], rfl, hj⟩⟩
end Go.Proofs.Ytgnhbfjngdgibaa
