/-
  No cell of these rows narrows 'for every input' (looked for: loops, veiled, ifaces, maps, wideKeys, modest, calm, conditions, laid).
  DERIVED. THE GIVEN ROWS OF THIS SEAT. 7 by the template 'for every input the law returns true; each argument reads behind the call as it read before'; 0 by the template 'total and deterministic' (their statements: YtgnhbfjngdgibaaTotals.lean).
  GIVEN WITH THE SEED: the statements are not yours to turn. If you find one false, say at which input.
  Laid BY PROGRAM, IN A SANDBOX (cutbox-rows.mjs): the forced cells as the released guide's own fill.sh prints them over the translation dde8a6f902dd8174… (all of the seat's roots in one cut). By AI agents, Wed Nov 11 2026. No macro, syntax, notation, axiom, sorry.
-/
import Derived.Test.YtgnhbfjngdgibaaChecked
import GoSem.Claim
import GoSem.ClaimJoined
import GoSem.ClaimMapViews
import Derived.JoinedTies
import Derived.KernelRfl
namespace Go.Proofs.Ytgnhbfjngdgibaa
/- THE CELL 'sum', in the pinned program and in every row, IS THE sha256 OF THE DUMP (.gsa) THAT YtgnhbfjngdgibaaProg.lean LOADS. Nothing in Lean hashes anything: it is a label: what it is worth is what the hold of that sum in a sandbox is worth. -/
noncomputable def Try.pinned : Pinned := { name := "ytgnhbfjngdgibaa", sum := "dde8a6f902dd817454c9710e060b360dbb0d338ea128ff217bebc53aca1942e0", checked := Try.checked }
namespace Rows
def none {H : Type} : Left H := { results := [], args := [] }

/-- 'donjonlaw01.OctetXors': WHATEVER THE INPUT: true; the input reads as it did. -/
def octetXorsSpec : ChangeSpec := { name := "octetXors", fn := fun _ => fun
  | [d1, d2] => { results := [.lit (.bool true)], args := [d1, d2] }
  | _ => none }
def octetXorsRow : OpenClaim := { program := "ytgnhbfjngdgibaa", sum := "dde8a6f902dd817454c9710e060b360dbb0d338ea128ff217bebc53aca1942e0", func := "donjon/donjonlaw01.OctetXors", spec := "octetXors", apart := false }
def OctetXorsSaid : Prop := octetXorsRow.holds Try.pinned (OpenSpec.ofChange octetXorsSpec)

/-- ITS FALSE NEIGHBOUR: 'it returns false'. Refute it at one input. -/
def octetXorsWrong : ChangeSpec := { name := "octetXors", fn := fun _ => fun
  | [d1, d2] => { results := [.lit (.bool false)], args := [d1, d2] }
  | _ => none }
def OctetXorsWrongFalsely : Prop := octetXorsRow.holds Try.pinned (OpenSpec.ofChange octetXorsWrong)

/-- 'donjonlaw01.OctetRing': WHATEVER THE INPUT: true; the input reads as it did. -/
def octetRingSpec : ChangeSpec := { name := "octetRing", fn := fun _ => fun
  | [d1, d2, d3] => { results := [.lit (.bool true)], args := [d1, d2, d3] }
  | _ => none }
def octetRingRow : OpenClaim := { program := "ytgnhbfjngdgibaa", sum := "dde8a6f902dd817454c9710e060b360dbb0d338ea128ff217bebc53aca1942e0", func := "donjon/donjonlaw01.OctetRing", spec := "octetRing", apart := false }
def OctetRingSaid : Prop := octetRingRow.holds Try.pinned (OpenSpec.ofChange octetRingSpec)

/-- ITS FALSE NEIGHBOUR: 'it returns false'. Refute it at one input. -/
def octetRingWrong : ChangeSpec := { name := "octetRing", fn := fun _ => fun
  | [d1, d2, d3] => { results := [.lit (.bool false)], args := [d1, d2, d3] }
  | _ => none }
def OctetRingWrongFalsely : Prop := octetRingRow.holds Try.pinned (OpenSpec.ofChange octetRingWrong)

/-- 'donjonlaw06.GcmSeals': WHATEVER THE INPUT: true; the input reads as it did. -/
def gcmSealsSpec : ChangeSpec := { name := "gcmSeals", fn := fun _ => fun
  | [d1, d2, d3, d4] => { results := [.lit (.bool true)], args := [d1, d2, d3, d4] }
  | _ => none }
def gcmSealsRow : OpenClaim := { program := "ytgnhbfjngdgibaa", sum := "dde8a6f902dd817454c9710e060b360dbb0d338ea128ff217bebc53aca1942e0", func := "donjon/donjonlaw06.GcmSeals", spec := "gcmSeals", unfollowed := true, recurses := true, apart := false }
def GcmSealsSaid : Prop := gcmSealsRow.holds Try.pinned (OpenSpec.ofChange gcmSealsSpec)

/-- ITS FALSE NEIGHBOUR: 'it returns false'. Refute it at one input. -/
def gcmSealsWrong : ChangeSpec := { name := "gcmSeals", fn := fun _ => fun
  | [d1, d2, d3, d4] => { results := [.lit (.bool false)], args := [d1, d2, d3, d4] }
  | _ => none }
def GcmSealsWrongFalsely : Prop := gcmSealsRow.holds Try.pinned (OpenSpec.ofChange gcmSealsWrong)

/-- 'donjonlaw06.GcmOpens': WHATEVER THE INPUT: true; the input reads as it did. -/
def gcmOpensSpec : ChangeSpec := { name := "gcmOpens", fn := fun _ => fun
  | [d1, d2, d3, d4] => { results := [.lit (.bool true)], args := [d1, d2, d3, d4] }
  | _ => none }
def gcmOpensRow : OpenClaim := { program := "ytgnhbfjngdgibaa", sum := "dde8a6f902dd817454c9710e060b360dbb0d338ea128ff217bebc53aca1942e0", func := "donjon/donjonlaw06.GcmOpens", spec := "gcmOpens", unfollowed := true, recurses := true, apart := false }
def GcmOpensSaid : Prop := gcmOpensRow.holds Try.pinned (OpenSpec.ofChange gcmOpensSpec)

/-- ITS FALSE NEIGHBOUR: 'it returns false'. Refute it at one input. -/
def gcmOpensWrong : ChangeSpec := { name := "gcmOpens", fn := fun _ => fun
  | [d1, d2, d3, d4] => { results := [.lit (.bool false)], args := [d1, d2, d3, d4] }
  | _ => none }
def GcmOpensWrongFalsely : Prop := gcmOpensRow.holds Try.pinned (OpenSpec.ofChange gcmOpensWrong)

/-- 'donjonlaw06.GcmTurned': WHATEVER THE INPUT: true; the input reads as it did. -/
def gcmTurnedSpec : ChangeSpec := { name := "gcmTurned", fn := fun _ => fun
  | [d] => { results := [.lit (.bool true)], args := [d] }
  | _ => none }
def gcmTurnedRow : OpenClaim := { program := "ytgnhbfjngdgibaa", sum := "dde8a6f902dd817454c9710e060b360dbb0d338ea128ff217bebc53aca1942e0", func := "donjon/donjonlaw06.GcmTurned", spec := "gcmTurned", unfollowed := true, recurses := true, apart := false }
def GcmTurnedSaid : Prop := gcmTurnedRow.holds Try.pinned (OpenSpec.ofChange gcmTurnedSpec)

/-- ITS FALSE NEIGHBOUR: 'it returns false'. Refute it at one input. -/
def gcmTurnedWrong : ChangeSpec := { name := "gcmTurned", fn := fun _ => fun
  | [d] => { results := [.lit (.bool false)], args := [d] }
  | _ => none }
def GcmTurnedWrongFalsely : Prop := gcmTurnedRow.holds Try.pinned (OpenSpec.ofChange gcmTurnedWrong)

/-- 'donjonlaw06.GcmApart': WHATEVER THE INPUT: true; the input reads as it did. -/
def gcmApartSpec : ChangeSpec := { name := "gcmApart", fn := fun _ => fun
  | [d1, d2, d3, d4, d5] => { results := [.lit (.bool true)], args := [d1, d2, d3, d4, d5] }
  | _ => none }
def gcmApartRow : OpenClaim := { program := "ytgnhbfjngdgibaa", sum := "dde8a6f902dd817454c9710e060b360dbb0d338ea128ff217bebc53aca1942e0", func := "donjon/donjonlaw06.GcmApart", spec := "gcmApart", unfollowed := true, recurses := true, apart := false }
def GcmApartSaid : Prop := gcmApartRow.holds Try.pinned (OpenSpec.ofChange gcmApartSpec)

/-- ITS FALSE NEIGHBOUR: 'it returns false'. Refute it at one input. -/
def gcmApartWrong : ChangeSpec := { name := "gcmApart", fn := fun _ => fun
  | [d1, d2, d3, d4, d5] => { results := [.lit (.bool false)], args := [d1, d2, d3, d4, d5] }
  | _ => none }
def GcmApartWrongFalsely : Prop := gcmApartRow.holds Try.pinned (OpenSpec.ofChange gcmApartWrong)

/-- 'donjonlaw06.GcmStandard': WHATEVER THE INPUT: true; the input reads as it did. -/
def gcmStandardSpec : ChangeSpec := { name := "gcmStandard", fn := fun _ => fun
  | [] => { results := [.lit (.bool true)], args := [] }
  | _ => none }
def gcmStandardRow : OpenClaim := { program := "ytgnhbfjngdgibaa", sum := "dde8a6f902dd817454c9710e060b360dbb0d338ea128ff217bebc53aca1942e0", func := "donjon/donjonlaw06.GcmStandard", spec := "gcmStandard", unfollowed := true, recurses := true, apart := false }
def GcmStandardSaid : Prop := gcmStandardRow.holds Try.pinned (OpenSpec.ofChange gcmStandardSpec)

/-- ITS FALSE NEIGHBOUR: 'it returns false'. Refute it at one input. -/
def gcmStandardWrong : ChangeSpec := { name := "gcmStandard", fn := fun _ => fun
  | [] => { results := [.lit (.bool false)], args := [] }
  | _ => none }
def GcmStandardWrongFalsely : Prop := gcmStandardRow.holds Try.pinned (OpenSpec.ofChange gcmStandardWrong)

/- THE SECOND FORM. 'bulk': how many values and letters a reading holds, each counted each time it is reached (what is shared counts as often as it is met; a slice's spare places count too). A statement '..UptoSaid' is the law's where the arguments, and the package variables that the reading takes, are together of bulk at most 1048576: NARROWER than '..Said'. Prove '..Said' where nothing that the law and all that it calls make is longer than what came in: it says more and counts as full. Else prove '..UptoSaid'. A law counts once. -/
mutual
def uptoBulk {H : Type} : DataW H → Nat
  | .lit (.string bytes) => bytes.length + 1
  | .lit _ => 1
  | .nil => 1
  | .ptr d => uptoBulk d + 1
  | .slice elems spare => uptoBulkAll elems + uptoBulkAll spare + 1
  | .agg parts => uptoBulkAll parts + 1
  | .iface _ d => uptoBulk d + 1
  | .map entries => uptoBulkEntries entries + 1
  | .held _ => 1
def uptoBulkAll {H : Type} : List (DataW H) → Nat
  | [] => 0
  | d :: r => uptoBulk d + uptoBulkAll r
def uptoBulkEntries {H : Type} : List (Lit × DataW H) → Nat
  | [] => 0
  | x :: r => uptoBulkEntry x + uptoBulkEntries r
def uptoBulkEntry {H : Type} : Lit × DataW H → Nat
  | (.string bytes, d) => bytes.length + uptoBulk d + 1
  | (_, d) => uptoBulk d + 1
 end
def uptoSmall : (H : Type) → List (DataW H) → Bool := fun _ ds => decide (uptoBulkAll ds ≤ 1048576)
def OpenSpec.upto (s : _root_.Go.ChangeSpec) : _root_.Go.OpenSpec := { _root_.Go.OpenSpec.ofChange s with cond := some uptoSmall }

/-- 'donjonlaw01.OctetXors', WHERE WHAT IT READS IS OF BULK AT MOST 1048576: true; the input reads as it did. -/
def octetXorsUptoRow : OpenClaim := { program := "ytgnhbfjngdgibaa", sum := "dde8a6f902dd817454c9710e060b360dbb0d338ea128ff217bebc53aca1942e0", func := "donjon/donjonlaw01.OctetXors", spec := "octetXors", apart := false, narrowed := true }
def OctetXorsUptoSaid : Prop := octetXorsUptoRow.holds Try.pinned (OpenSpec.upto octetXorsSpec)

/-- 'donjonlaw01.OctetRing', WHERE WHAT IT READS IS OF BULK AT MOST 1048576: true; the input reads as it did. -/
def octetRingUptoRow : OpenClaim := { program := "ytgnhbfjngdgibaa", sum := "dde8a6f902dd817454c9710e060b360dbb0d338ea128ff217bebc53aca1942e0", func := "donjon/donjonlaw01.OctetRing", spec := "octetRing", apart := false, narrowed := true }
def OctetRingUptoSaid : Prop := octetRingUptoRow.holds Try.pinned (OpenSpec.upto octetRingSpec)

/-- 'donjonlaw06.GcmSeals', WHERE WHAT IT READS IS OF BULK AT MOST 1048576: true; the input reads as it did. -/
def gcmSealsUptoRow : OpenClaim := { program := "ytgnhbfjngdgibaa", sum := "dde8a6f902dd817454c9710e060b360dbb0d338ea128ff217bebc53aca1942e0", func := "donjon/donjonlaw06.GcmSeals", spec := "gcmSeals", unfollowed := true, recurses := true, apart := false, narrowed := true }
def GcmSealsUptoSaid : Prop := gcmSealsUptoRow.holds Try.pinned (OpenSpec.upto gcmSealsSpec)

/-- 'donjonlaw06.GcmOpens', WHERE WHAT IT READS IS OF BULK AT MOST 1048576: true; the input reads as it did. -/
def gcmOpensUptoRow : OpenClaim := { program := "ytgnhbfjngdgibaa", sum := "dde8a6f902dd817454c9710e060b360dbb0d338ea128ff217bebc53aca1942e0", func := "donjon/donjonlaw06.GcmOpens", spec := "gcmOpens", unfollowed := true, recurses := true, apart := false, narrowed := true }
def GcmOpensUptoSaid : Prop := gcmOpensUptoRow.holds Try.pinned (OpenSpec.upto gcmOpensSpec)

/-- 'donjonlaw06.GcmTurned', WHERE WHAT IT READS IS OF BULK AT MOST 1048576: true; the input reads as it did. -/
def gcmTurnedUptoRow : OpenClaim := { program := "ytgnhbfjngdgibaa", sum := "dde8a6f902dd817454c9710e060b360dbb0d338ea128ff217bebc53aca1942e0", func := "donjon/donjonlaw06.GcmTurned", spec := "gcmTurned", unfollowed := true, recurses := true, apart := false, narrowed := true }
def GcmTurnedUptoSaid : Prop := gcmTurnedUptoRow.holds Try.pinned (OpenSpec.upto gcmTurnedSpec)

/-- 'donjonlaw06.GcmApart', WHERE WHAT IT READS IS OF BULK AT MOST 1048576: true; the input reads as it did. -/
def gcmApartUptoRow : OpenClaim := { program := "ytgnhbfjngdgibaa", sum := "dde8a6f902dd817454c9710e060b360dbb0d338ea128ff217bebc53aca1942e0", func := "donjon/donjonlaw06.GcmApart", spec := "gcmApart", unfollowed := true, recurses := true, apart := false, narrowed := true }
def GcmApartUptoSaid : Prop := gcmApartUptoRow.holds Try.pinned (OpenSpec.upto gcmApartSpec)

/-- 'donjonlaw06.GcmStandard', WHERE WHAT IT READS IS OF BULK AT MOST 1048576: true; the input reads as it did. -/
def gcmStandardUptoRow : OpenClaim := { program := "ytgnhbfjngdgibaa", sum := "dde8a6f902dd817454c9710e060b360dbb0d338ea128ff217bebc53aca1942e0", func := "donjon/donjonlaw06.GcmStandard", spec := "gcmStandard", unfollowed := true, recurses := true, apart := false, narrowed := true }
def GcmStandardUptoSaid : Prop := gcmStandardUptoRow.holds Try.pinned (OpenSpec.upto gcmStandardSpec)

end Rows
end Go.Proofs.Ytgnhbfjngdgibaa
