/-
  The walk of PackBack, as its row hands the items on.
-/
import Derived.Test.YtphmdjhmgmjmgaaPbk
namespace Go.Proofs.Ytphmdjhmgmjmgaa
open Go.RowKit
set_option linter.unusedVariables false

theorem pback_law (a : Option Addr) (len cl : Nat) (F0 : Nat → Int) (F1 : Nat → Bool) (F2 : Nat → Option Addr × Nat × List Int) (cut : Int) (w : World) (hlm : len ≤ maxLen) (hlc : len ≤ cl)
    (hr : Rws w a len [fun i => .int .u64 (F0 i), fun i => .bool (F1 i), fun i => .slice (F2 i).1 (F2 i).2.2.length (F2 i).2.1]) (hf0 : ∀ i, i < len → (Lit.int .u64 (F0 i)).wf = true)
    (hf2 : ∀ i, i < len → Bin w (F2 i).1 (F2 i).2.2 ∧ Oct (F2 i).2.2 ∧ (F2 i).2.2.length ≤ (F2 i).2.1) (hcut : (Lit.int .i64 cut).wf = true) :
    Calls Try.prog 7 #[.slice a len cl, .int .i64 cut] w fun e w' => e = .returned (.bool true) ∧ Below w.heap.size w w' := by
  refine pback_in a len cl (fun i => (F0 i).toNat) F1 (fun i => (F2 i).1) (fun i => (F2 i).2.1) (fun i => (F2 i).2.2) cut w hlc (fun hl => ?_) (fun i hi => ?_) hf2 hcut hlm
  · obtain ⟨b, o, e, hc⟩ := hr hl
    refine ⟨b, o, e, fun i hi j c hj => ?_⟩
    rcases j with _ | _ | _ | j
    · cases hj
      have h := hc i hi 0 _ rfl
      have hb := u64_of_wf (hf0 i hi)
      exact h.trans (congrArg (fun z => some (Value.int .u64 z)) (show F0 i = (((F0 i).toNat : Nat) : Int) from by omega))
    · cases hj; exact hc i hi 1 _ rfl
    · cases hj; exact hc i hi 2 _ rfl
    · cases hj
  · have hb := u64_of_wf (hf0 i hi)
    show (F0 i).toNat < 2 ^ 64
    omega
end Go.Proofs.Ytphmdjhmgmjmgaa
