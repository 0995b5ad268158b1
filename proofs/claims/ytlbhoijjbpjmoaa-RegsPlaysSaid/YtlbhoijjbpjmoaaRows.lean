/-
  No cell of these rows narrows 'for every input' (looked for: loops, veiled, ifaces, maps, wideKeys, modest, calm, conditions, laid).
  DERIVED. THE GIVEN ROWS OF THIS SEAT. 4 by the template 'for every input the law returns true; each argument reads behind the call as it read before'; 0 by the template 'total and deterministic' (their statements: YtlbhoijjbpjmoaaTotals.lean).
  GIVEN WITH THE SEED: the statements are not yours to turn. If you find one false, say at which input.
  Laid BY PROGRAM, IN A SANDBOX (cutbox-rows.mjs): the forced cells as the released guide's own fill.sh prints them over the translation 730364e113bd4965… (all of the seat's roots in one cut). By AI agents, Wed Nov 11 2026. No macro, syntax, notation, axiom, sorry.
-/
import Derived.Test.YtlbhoijjbpjmoaaChecked
import GoSem.Claim
import GoSem.ClaimJoined
import GoSem.ClaimMapViews
import Derived.JoinedTies
import Derived.KernelRfl
namespace Go.Proofs.Ytlbhoijjbpjmoaa
/- THE CELL 'sum', in the pinned program and in every row, IS THE sha256 OF THE DUMP (.gsa) THAT YtlbhoijjbpjmoaaProg.lean LOADS. Nothing in Lean hashes anything: it is a label: what it is worth is what the hold of that sum in a sandbox is worth. -/
noncomputable def Try.pinned : Pinned := { name := "ytlbhoijjbpjmoaa", sum := "730364e113bd496526c234bb757162d54c8e155183a4aa1c672cad0bc8735992", checked := Try.checked }
namespace Rows
def none {H : Type} : Left H := { results := [], args := [] }

/-- 'donjonlaw09.RegsPlays': WHATEVER THE INPUT: true; the input reads as it did. -/
def regsPlaysSpec : ChangeSpec := { name := "regsPlays", fn := fun _ => fun
  | [d1, d2, d3] => { results := [.lit (.bool true)], args := [d1, d2, d3] }
  | _ => none }
def regsPlaysRow : OpenClaim := { program := "ytlbhoijjbpjmoaa", sum := "730364e113bd496526c234bb757162d54c8e155183a4aa1c672cad0bc8735992", func := "donjon/donjonlaw09.RegsPlays", spec := "regsPlays", apart := false }
def RegsPlaysSaid : Prop := regsPlaysRow.holds Try.pinned (OpenSpec.ofChange regsPlaysSpec)

/-- ITS FALSE NEIGHBOUR: 'it returns false'. Refute it at one input. -/
def regsPlaysWrong : ChangeSpec := { name := "regsPlays", fn := fun _ => fun
  | [d1, d2, d3] => { results := [.lit (.bool false)], args := [d1, d2, d3] }
  | _ => none }
def RegsPlaysWrongFalsely : Prop := regsPlaysRow.holds Try.pinned (OpenSpec.ofChange regsPlaysWrong)

/-- 'donjonlaw09.RegsNone': WHATEVER THE INPUT: true; the input reads as it did. -/
def regsNoneSpec : ChangeSpec := { name := "regsNone", fn := fun _ => fun
  | [d1, d2] => { results := [.lit (.bool true)], args := [d1, d2] }
  | _ => none }
def regsNoneRow : OpenClaim := { program := "ytlbhoijjbpjmoaa", sum := "730364e113bd496526c234bb757162d54c8e155183a4aa1c672cad0bc8735992", func := "donjon/donjonlaw09.RegsNone", spec := "regsNone", apart := false }
def RegsNoneSaid : Prop := regsNoneRow.holds Try.pinned (OpenSpec.ofChange regsNoneSpec)

/-- ITS FALSE NEIGHBOUR: 'it returns false'. Refute it at one input. -/
def regsNoneWrong : ChangeSpec := { name := "regsNone", fn := fun _ => fun
  | [d1, d2] => { results := [.lit (.bool false)], args := [d1, d2] }
  | _ => none }
def RegsNoneWrongFalsely : Prop := regsNoneRow.holds Try.pinned (OpenSpec.ofChange regsNoneWrong)

/-- 'donjonlaw09.RegsRise': WHATEVER THE INPUT: true; the input reads as it did. -/
def regsRiseSpec : ChangeSpec := { name := "regsRise", fn := fun _ => fun
  | [d1, d2] => { results := [.lit (.bool true)], args := [d1, d2] }
  | _ => none }
def regsRiseRow : OpenClaim := { program := "ytlbhoijjbpjmoaa", sum := "730364e113bd496526c234bb757162d54c8e155183a4aa1c672cad0bc8735992", func := "donjon/donjonlaw09.RegsRise", spec := "regsRise", apart := false }
def RegsRiseSaid : Prop := regsRiseRow.holds Try.pinned (OpenSpec.ofChange regsRiseSpec)

/-- ITS FALSE NEIGHBOUR: 'it returns false'. Refute it at one input. -/
def regsRiseWrong : ChangeSpec := { name := "regsRise", fn := fun _ => fun
  | [d1, d2] => { results := [.lit (.bool false)], args := [d1, d2] }
  | _ => none }
def RegsRiseWrongFalsely : Prop := regsRiseRow.holds Try.pinned (OpenSpec.ofChange regsRiseWrong)

/-- 'donjonlaw09.RegsDraws': WHATEVER THE INPUT: true; the input reads as it did. -/
def regsDrawsSpec : ChangeSpec := { name := "regsDraws", fn := fun _ => fun
  | [d1, d2] => { results := [.lit (.bool true)], args := [d1, d2] }
  | _ => none }
def regsDrawsRow : OpenClaim := { program := "ytlbhoijjbpjmoaa", sum := "730364e113bd496526c234bb757162d54c8e155183a4aa1c672cad0bc8735992", func := "donjon/donjonlaw09.RegsDraws", spec := "regsDraws", apart := false }
def RegsDrawsSaid : Prop := regsDrawsRow.holds Try.pinned (OpenSpec.ofChange regsDrawsSpec)

/-- ITS FALSE NEIGHBOUR: 'it returns false'. Refute it at one input. -/
def regsDrawsWrong : ChangeSpec := { name := "regsDraws", fn := fun _ => fun
  | [d1, d2] => { results := [.lit (.bool false)], args := [d1, d2] }
  | _ => none }
def RegsDrawsWrongFalsely : Prop := regsDrawsRow.holds Try.pinned (OpenSpec.ofChange regsDrawsWrong)

/- THE SECOND FORM. 'bulk': how many values and letters a reading holds, each counted each time it is reached (what is shared counts as often as it is met; a slice's spare places count too). A statement '..UptoSaid' is the law's where the arguments, and the package variables that the reading takes, are together of bulk at most 1048576: NARROWER than '..Said'. Prove '..Said' where nothing that the law and all that it calls make is longer than what came in: it says more and counts as full. Else prove '..UptoSaid'. A law counts once. -/
mutual
def uptoBulk {H : Type} : DataW H → Nat
  | .lit (.string bytes) => bytes.length + 1
  | .lit _ => 1
  | .nil => 1
  | .ptr d => uptoBulk d + 1
  | .slice elems spare => uptoBulkAll elems + uptoBulkAll spare + 1
  | .agg parts => uptoBulkAll parts + 1
  | .iface _ d => uptoBulk d + 1
  | .map entries => uptoBulkEntries entries + 1
  | .held _ => 1
def uptoBulkAll {H : Type} : List (DataW H) → Nat
  | [] => 0
  | d :: r => uptoBulk d + uptoBulkAll r
def uptoBulkEntries {H : Type} : List (Lit × DataW H) → Nat
  | [] => 0
  | x :: r => uptoBulkEntry x + uptoBulkEntries r
def uptoBulkEntry {H : Type} : Lit × DataW H → Nat
  | (.string bytes, d) => bytes.length + uptoBulk d + 1
  | (_, d) => uptoBulk d + 1
 end
def uptoSmall : (H : Type) → List (DataW H) → Bool := fun _ ds => decide (uptoBulkAll ds ≤ 1048576)
def OpenSpec.upto (s : _root_.Go.ChangeSpec) : _root_.Go.OpenSpec := { _root_.Go.OpenSpec.ofChange s with cond := some uptoSmall }

/-- 'donjonlaw09.RegsPlays', WHERE WHAT IT READS IS OF BULK AT MOST 1048576: true; the input reads as it did. -/
def regsPlaysUptoRow : OpenClaim := { program := "ytlbhoijjbpjmoaa", sum := "730364e113bd496526c234bb757162d54c8e155183a4aa1c672cad0bc8735992", func := "donjon/donjonlaw09.RegsPlays", spec := "regsPlays", apart := false, narrowed := true }
def RegsPlaysUptoSaid : Prop := regsPlaysUptoRow.holds Try.pinned (OpenSpec.upto regsPlaysSpec)

/-- 'donjonlaw09.RegsNone', WHERE WHAT IT READS IS OF BULK AT MOST 1048576: true; the input reads as it did. -/
def regsNoneUptoRow : OpenClaim := { program := "ytlbhoijjbpjmoaa", sum := "730364e113bd496526c234bb757162d54c8e155183a4aa1c672cad0bc8735992", func := "donjon/donjonlaw09.RegsNone", spec := "regsNone", apart := false, narrowed := true }
def RegsNoneUptoSaid : Prop := regsNoneUptoRow.holds Try.pinned (OpenSpec.upto regsNoneSpec)

/-- 'donjonlaw09.RegsRise', WHERE WHAT IT READS IS OF BULK AT MOST 1048576: true; the input reads as it did. -/
def regsRiseUptoRow : OpenClaim := { program := "ytlbhoijjbpjmoaa", sum := "730364e113bd496526c234bb757162d54c8e155183a4aa1c672cad0bc8735992", func := "donjon/donjonlaw09.RegsRise", spec := "regsRise", apart := false, narrowed := true }
def RegsRiseUptoSaid : Prop := regsRiseUptoRow.holds Try.pinned (OpenSpec.upto regsRiseSpec)

/-- 'donjonlaw09.RegsDraws', WHERE WHAT IT READS IS OF BULK AT MOST 1048576: true; the input reads as it did. -/
def regsDrawsUptoRow : OpenClaim := { program := "ytlbhoijjbpjmoaa", sum := "730364e113bd496526c234bb757162d54c8e155183a4aa1c672cad0bc8735992", func := "donjon/donjonlaw09.RegsDraws", spec := "regsDraws", apart := false, narrowed := true }
def RegsDrawsUptoSaid : Prop := regsDrawsUptoRow.holds Try.pinned (OpenSpec.upto regsDrawsSpec)

end Rows
end Go.Proofs.Ytlbhoijjbpjmoaa
