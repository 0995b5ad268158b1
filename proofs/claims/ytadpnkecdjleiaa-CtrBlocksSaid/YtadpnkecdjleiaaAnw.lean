/-
  A cipher that New made, and blocks that lie beside it.
-/
import Derived.Test.YtadpnkecdjleiaaAknown
import Derived.Test.YtadpnkecdjleiaaOsl
import Derived.Test.YtadpnkecdjleiaaAenc
import Derived.Deep.CutRange
import Derived.Deep.DeepCutAuto
namespace Go.Proofs.Ytadpnkecdjleiaa
open Go.RowKit
set_option linter.unusedVariables false
set_option linter.unusedSimpArgs false

/-- The keys of a cipher that New made, which is new. -/
theorem new_new (p : Option Addr) (cap n : Nat) (xs : List Int) (w : World) (hp : Bin w p xs) (hx : Oct xs) (hl : xs.length = n) (hcap : n ≤ cap) (h : n = 16 ∨ n = 32) :
    Calls Try.prog 21 #[.slice p n cap] w fun e w' => ∃ c kb r F, e = .returned (.tuple #[.pointer (some ⟨c, 0, none⟩), .int .i64 0]) ∧
      Cip w' c kb r F ∧ Hid (r = n / 4 + 6 ∧ F = wordB (n / 4) (nats xs)) ∧ (1 ≤ r ∧ r ≤ 14) ∧ (∀ j, F j < 256) ∧ Below w.heap.size w w' ∧ w.heap.size ≤ c ∧ w.heap.size ≤ kb := by
  rcases h with rfl | rfl
  · refine (new4_new p cap xs w hp hx hl hcap).mono ?_
    rintro e w' ⟨c, kb, he, hC, hb, h1, h2⟩
    exact ⟨c, kb, 10, _, he, hC, ⟨rfl, rfl⟩, ⟨by decide, by decide⟩, wordB_lt (nats_lt hx), hb, h1, h2⟩
  · refine (new8_new p cap xs w hp hx hl hcap).mono ?_
    rintro e w' ⟨c, kb, he, hC, hb, h1, h2⟩
    exact ⟨c, kb, 14, _, he, hC, ⟨rfl, rfl⟩, ⟨by decide, by decide⟩, wordB_lt (nats_lt hx), hb, h1, h2⟩
theorem new_any (p : Option Addr) (cap n : Nat) (xs : List Int) (w : World) (hp : Bin w p xs) (hx : Oct xs) (hl : xs.length = n) (hcap : n ≤ cap) (h : n = 16 ∨ n = 32) :
    Calls Try.prog 21 #[.slice p n cap] w fun e w' => ∃ c kb r F, e = .returned (.tuple #[.pointer (some ⟨c, 0, none⟩), .int .i64 0]) ∧
      Cip w' c kb r F ∧ Hid (r = n / 4 + 6 ∧ F = wordB (n / 4) (nats xs)) ∧ (1 ≤ r ∧ r ≤ 14) ∧ (∀ j, F j < 256) ∧ Below w.heap.size w w' := by
  refine (new_new p cap n xs w hp hx hl hcap h).mono ?_
  rintro e w' ⟨c, kb, r, F, he, hC, hr, h1, oF, hb, _, _⟩
  exact ⟨c, kb, r, F, he, hC, hr, h1, oF, hb⟩

/-- What a row of blocks holds, and a cipher beside it. -/
def Bks (w0 : World) (c k r : Nat) (F : Nat → Nat) (bs : List (Nat × (Nat → Nat))) (w : World) : Prop := Cip w c k r F ∧ (∀ q ∈ bs, Arr w q.1 16 q.2) ∧ Below w0.heap.size w0 w
theorem Bks.grow {w0 w w' : World} {c k r : Nat} {F : Nat → Nat} {bs : List (Nat × (Nat → Nat))} (h : Bks w0 c k r F bs w) (hb : Below w.heap.size w w') : Bks w0 c k r F bs w' :=
  ⟨h.1.below hb, fun q hq => (h.2.1 q hq).below hb, h.2.2.trans (hb.mono h.2.2.size)⟩
theorem Cip.beside {w : World} {c k r g : Nat} {F : Nat → Nat} (h : Cip w c k r F) (hc : g ≠ c) (hk : g ≠ k) (vs : List Value) (o : Nat := 0) : Cip (w.setCells g o vs) c k r F := by
  obtain ⟨h0, h1, h2, h3⟩ := h
  have e : ∀ j, (w.setCells g o vs).cell? ⟨c, j, none⟩ = w.cell? ⟨c, j, none⟩ := fun j => World.cell?_setCells_out g vs o w ⟨c, j, none⟩ (fun hh _ => absurd hh.symm hc)
  exact ⟨by rw [e]; exact h0, fun x hx => by rw [e]; exact h1 x hx, fun x hx => by rw [e]; exact h2 x hx, fun j hj => by
    rw [World.frozen?_setCells, World.cell?_setCells_out g vs o w ⟨k, j, none⟩ (fun hh _ => absurd hh.symm hk)]; exact h3 j hj⟩
/-- A new block with x, behind a callee. -/
theorem Bks.new {w0 w : World} {c k r : Nat} {F : Nat → Nat} {bs : List (Nat × (Nat → Nat))} (h : Bks w0 c k r F bs w) (x : Nat → Nat) (t : TypeId) :
    Bks w0 c k r F ((w.heap.size, x) :: bs) ((w.alloc (.cells (vals 16 fun _ => 0).toArray t)).setCells w.heap.size 0 (vals 16 x)) ∧ Arr (w.alloc (.cells (vals 16 fun _ => 0).toArray t)) w.heap.size 16 (fun _ => 0) := by
  have hl := h.1.lt
  have hn := arr_new w 16 (fun _ => 0) t
  have hg := h.grow ((Below.refl w.heap.size w).alloc (Nat.le_refl _) (.cells (vals 16 fun _ => 0).toArray t))
  refine ⟨⟨hg.1.beside (by omega) (by omega) _, fun q hq => ?_, below_setCells _ 0 hg.2.2 h.2.2.size⟩, hn⟩
  rcases List.mem_cons.1 hq with rfl | hq
  · exact hn.put x
  · have := (h.2.1 q hq).lt (by decide)
    exact (hg.2.1 q hq).besidePut (by omega) 0 _
theorem Bks.at {w0 w : World} {c k r : Nat} {F : Nat → Nat} {bs : List (Nat × (Nat → Nat))} (h : Bks w0 c k r F bs w) {g : Nat} {x : Nat → Nat} (hm : (g, x) ∈ bs) : Arr w g 16 x := h.2.1 _ hm


end Go.Proofs.Ytadpnkecdjleiaa
