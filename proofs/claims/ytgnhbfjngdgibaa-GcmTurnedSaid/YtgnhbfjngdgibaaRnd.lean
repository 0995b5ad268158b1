/-
  A region of a round over a function, walked as anywhere; what a step keeps that turns one block. Stands on no function of the program.
-/
import Derived.Test.YtgnhbfjngdgibaaCn
import Derived.RangeFuncNested
import Derived.RangeFuncBound
import Derived.RangeFuncCalls
import Derived.RangeFuncLeaves
import Derived.RangeFuncBox
import Derived.Shelf.Abstract
import Derived.Shelf.RegionOpen
import Derived.WalkKit
import Derived.OwnWalkIn
import Derived.TacticsInMore
import Derived.LoopNIn
import Derived.LoopIn
namespace Go.Proofs.Ytgnhbfjngdgibaa
open Go.RowKit Go.Shelf
set_option linter.unusedVariables false
set_option linter.unusedSimpArgs false

theorem rowsIn_wide {n : Nat} {P : Program} {row : String} {args : Array Value} {w : World} {R : Value → World → Prop} {F : Fence} (hF : Machine.fenced P F = Machine.fenced P Fence.wide) (h : Rows P row args w R) : RowsIn F n P row args w R :=
  fun c cs _ => let ⟨v, w', r, s⟩ := h c cs; ⟨v, w', r, by rw [hF]; exact stepsIn_wide.2 s⟩

/-- A region walked as anywhere serves in a round. -/
theorem wpListIn_of {F : Fence} (l : Nat) {n : Nat} {P : Program} {ops : Array Oper} {Q : Exit → Act → World → Prop} (hQ : ¬ LetsOut Q) (hF : F = Fence.wide ∨ F = Fence.wide.inRound l) : ∀ (os : List Oper), (∀ o ∈ os, ∀ c, o.op ≠ .defer c) → ∀ (a : Act) (w : World), wpList P ops Q os a w → wpListIn F n P ops Q os a w
  | [], _, _, _, h => h
  | o :: os, hd, a, w, h => by
    have hfn : ∀ f, F.fn f := by rcases hF with rfl | rfl <;> exact fun _ => trivial
    have hdp : F.depth = none := by rcases hF with rfl | rfl <;> rfl
    have hfe : Machine.fenced P F = Machine.fenced P Fence.wide := by rcases hF with rfl | rfl <;> rfl
    have hcall : ∀ {f : FuncId} {args : Array Value} {w : World} {R : Ending → World → Prop}, Calls P f args w R → CallsIn F (n - 1) P f args w R := fun hc => by
      rcases hF with rfl | rfl
      · exact callsIn_wide.2 hc
      · exact CallsIn.inRound l (callsIn_wide.2 hc)
    have hsem : o.semAt F.round a.eval = execOp a.eval o := Oper.semAt_plain F a.eval o (hd o (by simp))
    have ih := wpListIn_of l (n := n) (P := P) (ops := ops) hQ hF os (fun x hx => hd x (by simp [hx]))
    unfold wpList at h
    unfold wpListIn
    by_cases hw : Region.wanted o (yielded ops a.tmps) = true
    · rw [if_pos hw] at h ⊢
      rcases h with h | h
      · refine ⟨fun f _ => hfn f, ?_⟩
        rw [hsem]
        unfold Oper.wp at h
        revert h
        generalize (execOp a.eval o).run P w = r
        intro h
        match r, h with
        | .ok (.value v) w', h => exact ih _ _ h
        | .ok .skip w', h => exact ih _ _ h
        | .ok (.defer d) w', h => exact ih _ _ h
        | .ok (.enter f args) w', h =>
          refine ⟨fun hs => (by rw [hdp] at hs; cases hs), (hcall (show Calls P f args w' _ from h)).mono ?_⟩
          intro e w'' he
          cases e with
          | returned v => exact ih _ _ he
          | panicked chain => exact he
          | outgrown => exact he
        | .ok (.row row args) w', h =>
          refine ⟨fun hs => (by rw [hdp] at hs; cases hs), rowsIn_wide hfe (Rows.mono (show Rows P row args w' _ from h) ?_)⟩
          intro v w'' he
          exact ih _ _ he
        | .halt (.panic v) w', h => exact h
      · exact absurd h.2 hQ
    · rw [if_neg hw] at h ⊢
      exact ⟨fun f _ => hfn f, ih _ _ h⟩

theorem wpIn_region_of {F : Fence} (l : Nat) {id n : Nat} {P : Program} {ops : Array Oper} {Q : Exit → Act → World → Prop} {a : Act} {w : World} (hF : F = Fence.wide ∨ F = Fence.wide.inRound l) (hQ : ¬ LetsOut Q) (hd : ∀ o ∈ ops.toList, ∀ c, o.op ≠ .defer c)
    (h : wpList P ops Q ops.toList a w) : (Code.region id ops false).wpIn F n P Q a w :=
  wpIn_region_list (wpListIn_of l hQ hF _ hd a w h)
theorem letsOut_then {K : Act → World → Prop} {Q : Exit → Act → World → Prop} (h : ¬ LetsOut Q) : ¬ LetsOut (Exit.then K Q) := fun ⟨a, w, hq⟩ => h ⟨a, w, hq⟩
theorem letsOut_own {α : Type} {B : Nat} {Kp : World → World → Prop} {I : List α → World → Prop} {Ix : Code → List α → World → Prop} {xs : List α} {W : World} : ¬ LetsOut (ownPostG B Kp I Ix xs W) := fun ⟨_, _, h⟩ => h
theorem letsOut_block {id : Nat} {Q : Exit → Act → World → Prop} (h : ¬ LetsOut Q) : ¬ LetsOut (Exit.inBlock id Q) := fun ⟨a, w, hq⟩ => h ⟨a, w, hq⟩
theorem letsOut_ownK {α : Type} {Kp : World → World → Prop} {I : List α → World → Prop} {Ix : Code → List α → World → Prop} {xs : List α} {W : World} : ¬ LetsOut (ownPostK Kp I Ix xs W) := fun ⟨_, _, h⟩ => h
end Go.Proofs.Ytgnhbfjngdgibaa
