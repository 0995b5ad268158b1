/-
  No cell of these rows narrows 'for every input' (looked for: loops, veiled, ifaces, maps, wideKeys, modest, calm, conditions, laid).
  DERIVED. THE GIVEN ROWS OF THIS SEAT. 8 by the template 'for every input the law returns true; each argument reads behind the call as it read before'; 0 by the template 'total and deterministic' (their statements: YtojbnobpdoigaaaTotals.lean).
  GIVEN WITH THE SEED: the statements are not yours to turn. If you find one false, say at which input.
  Laid BY PROGRAM, IN A SANDBOX (cutbox-rows.mjs): the forced cells as the released guide's own fill.sh prints them over the translation cbb0e3674d726d67… (all of the seat's roots in one cut). By AI agents, Wed Nov 11 2026. No macro, syntax, notation, axiom, sorry.
-/
import Derived.Test.YtojbnobpdoigaaaChecked
import GoSem.Claim
import GoSem.ClaimJoined
import GoSem.ClaimMapViews
import Derived.JoinedTies
import Derived.KernelRfl
namespace Go.Proofs.Ytojbnobpdoigaaa
/- THE CELL 'sum', in the pinned program and in every row, IS THE sha256 OF THE DUMP (.gsa) THAT YtojbnobpdoigaaaProg.lean LOADS. Nothing in Lean hashes anything: it is a label: what it is worth is what the hold of that sum in a sandbox is worth. -/
noncomputable def Try.pinned : Pinned := { name := "ytojbnobpdoigaaa", sum := "cbb0e3674d726d67d95ce13cf1681c0b15bc766d51cd4eba145357f76e580093", checked := Try.checked }
namespace Rows
def none {H : Type} : Left H := { results := [], args := [] }

/-- 'donjonlaw01.OctetNumbers': WHATEVER THE INPUT: true; the input reads as it did. -/
def octetNumbersSpec : ChangeSpec := { name := "octetNumbers", fn := fun _ => fun
  | [d1, d2] => { results := [.lit (.bool true)], args := [d1, d2] }
  | _ => none }
def octetNumbersRow : OpenClaim := { program := "ytojbnobpdoigaaa", sum := "cbb0e3674d726d67d95ce13cf1681c0b15bc766d51cd4eba145357f76e580093", func := "donjon/donjonlaw01.OctetNumbers", spec := "octetNumbers", apart := false }
def OctetNumbersSaid : Prop := octetNumbersRow.holds Try.pinned (OpenSpec.ofChange octetNumbersSpec)

/-- ITS FALSE NEIGHBOUR: 'it returns false'. Refute it at one input. -/
def octetNumbersWrong : ChangeSpec := { name := "octetNumbers", fn := fun _ => fun
  | [d1, d2] => { results := [.lit (.bool false)], args := [d1, d2] }
  | _ => none }
def OctetNumbersWrongFalsely : Prop := octetNumbersRow.holds Try.pinned (OpenSpec.ofChange octetNumbersWrong)

/-- 'donjonlaw01.OctetReads': WHATEVER THE INPUT: true; the input reads as it did. -/
def octetReadsSpec : ChangeSpec := { name := "octetReads", fn := fun _ => fun
  | [d] => { results := [.lit (.bool true)], args := [d] }
  | _ => none }
def octetReadsRow : OpenClaim := { program := "ytojbnobpdoigaaa", sum := "cbb0e3674d726d67d95ce13cf1681c0b15bc766d51cd4eba145357f76e580093", func := "donjon/donjonlaw01.OctetReads", spec := "octetReads", apart := false }
def OctetReadsSaid : Prop := octetReadsRow.holds Try.pinned (OpenSpec.ofChange octetReadsSpec)

/-- ITS FALSE NEIGHBOUR: 'it returns false'. Refute it at one input. -/
def octetReadsWrong : ChangeSpec := { name := "octetReads", fn := fun _ => fun
  | [d] => { results := [.lit (.bool false)], args := [d] }
  | _ => none }
def OctetReadsWrongFalsely : Prop := octetReadsRow.holds Try.pinned (OpenSpec.ofChange octetReadsWrong)

/-- 'donjonlaw01.OctetXors': WHATEVER THE INPUT: true; the input reads as it did. -/
def octetXorsSpec : ChangeSpec := { name := "octetXors", fn := fun _ => fun
  | [d1, d2] => { results := [.lit (.bool true)], args := [d1, d2] }
  | _ => none }
def octetXorsRow : OpenClaim := { program := "ytojbnobpdoigaaa", sum := "cbb0e3674d726d67d95ce13cf1681c0b15bc766d51cd4eba145357f76e580093", func := "donjon/donjonlaw01.OctetXors", spec := "octetXors", apart := false }
def OctetXorsSaid : Prop := octetXorsRow.holds Try.pinned (OpenSpec.ofChange octetXorsSpec)

/-- ITS FALSE NEIGHBOUR: 'it returns false'. Refute it at one input. -/
def octetXorsWrong : ChangeSpec := { name := "octetXors", fn := fun _ => fun
  | [d1, d2] => { results := [.lit (.bool false)], args := [d1, d2] }
  | _ => none }
def OctetXorsWrongFalsely : Prop := octetXorsRow.holds Try.pinned (OpenSpec.ofChange octetXorsWrong)

/-- 'donjonlaw01.OctetHex': WHATEVER THE INPUT: true; the input reads as it did. -/
def octetHexSpec : ChangeSpec := { name := "octetHex", fn := fun _ => fun
  | [d] => { results := [.lit (.bool true)], args := [d] }
  | _ => none }
def octetHexRow : OpenClaim := { program := "ytojbnobpdoigaaa", sum := "cbb0e3674d726d67d95ce13cf1681c0b15bc766d51cd4eba145357f76e580093", func := "donjon/donjonlaw01.OctetHex", spec := "octetHex", apart := false }
def OctetHexSaid : Prop := octetHexRow.holds Try.pinned (OpenSpec.ofChange octetHexSpec)

/-- ITS FALSE NEIGHBOUR: 'it returns false'. Refute it at one input. -/
def octetHexWrong : ChangeSpec := { name := "octetHex", fn := fun _ => fun
  | [d] => { results := [.lit (.bool false)], args := [d] }
  | _ => none }
def OctetHexWrongFalsely : Prop := octetHexRow.holds Try.pinned (OpenSpec.ofChange octetHexWrong)

/-- 'donjonlaw01.OctetUnhex': WHATEVER THE INPUT: true; the input reads as it did. -/
def octetUnhexSpec : ChangeSpec := { name := "octetUnhex", fn := fun _ => fun
  | [d] => { results := [.lit (.bool true)], args := [d] }
  | _ => none }
def octetUnhexRow : OpenClaim := { program := "ytojbnobpdoigaaa", sum := "cbb0e3674d726d67d95ce13cf1681c0b15bc766d51cd4eba145357f76e580093", func := "donjon/donjonlaw01.OctetUnhex", spec := "octetUnhex", inPlace := ["internal/bytealg.IndexByteString"], apart := false }
def OctetUnhexSaid : Prop := octetUnhexRow.holds Try.pinned (OpenSpec.ofChange octetUnhexSpec)

/-- ITS FALSE NEIGHBOUR: 'it returns false'. Refute it at one input. -/
def octetUnhexWrong : ChangeSpec := { name := "octetUnhex", fn := fun _ => fun
  | [d] => { results := [.lit (.bool false)], args := [d] }
  | _ => none }
def OctetUnhexWrongFalsely : Prop := octetUnhexRow.holds Try.pinned (OpenSpec.ofChange octetUnhexWrong)

/-- 'donjonlaw01.OctetBack': WHATEVER THE INPUT: true; the input reads as it did. -/
def octetBackSpec : ChangeSpec := { name := "octetBack", fn := fun _ => fun
  | [d1, d2, d3] => { results := [.lit (.bool true)], args := [d1, d2, d3] }
  | _ => none }
def octetBackRow : OpenClaim := { program := "ytojbnobpdoigaaa", sum := "cbb0e3674d726d67d95ce13cf1681c0b15bc766d51cd4eba145357f76e580093", func := "donjon/donjonlaw01.OctetBack", spec := "octetBack", apart := false }
def OctetBackSaid : Prop := octetBackRow.holds Try.pinned (OpenSpec.ofChange octetBackSpec)

/-- ITS FALSE NEIGHBOUR: 'it returns false'. Refute it at one input. -/
def octetBackWrong : ChangeSpec := { name := "octetBack", fn := fun _ => fun
  | [d1, d2, d3] => { results := [.lit (.bool false)], args := [d1, d2, d3] }
  | _ => none }
def OctetBackWrongFalsely : Prop := octetBackRow.holds Try.pinned (OpenSpec.ofChange octetBackWrong)

/-- 'donjonlaw01.OctetRing': WHATEVER THE INPUT: true; the input reads as it did. -/
def octetRingSpec : ChangeSpec := { name := "octetRing", fn := fun _ => fun
  | [d1, d2, d3] => { results := [.lit (.bool true)], args := [d1, d2, d3] }
  | _ => none }
def octetRingRow : OpenClaim := { program := "ytojbnobpdoigaaa", sum := "cbb0e3674d726d67d95ce13cf1681c0b15bc766d51cd4eba145357f76e580093", func := "donjon/donjonlaw01.OctetRing", spec := "octetRing", apart := false }
def OctetRingSaid : Prop := octetRingRow.holds Try.pinned (OpenSpec.ofChange octetRingSpec)

/-- ITS FALSE NEIGHBOUR: 'it returns false'. Refute it at one input. -/
def octetRingWrong : ChangeSpec := { name := "octetRing", fn := fun _ => fun
  | [d1, d2, d3] => { results := [.lit (.bool false)], args := [d1, d2, d3] }
  | _ => none }
def OctetRingWrongFalsely : Prop := octetRingRow.holds Try.pinned (OpenSpec.ofChange octetRingWrong)

/-- 'donjonlaw01.OctetThere': WHATEVER THE INPUT: true; the input reads as it did. -/
def octetThereSpec : ChangeSpec := { name := "octetThere", fn := fun _ => fun
  | [d1, d2] => { results := [.lit (.bool true)], args := [d1, d2] }
  | _ => none }
def octetThereRow : OpenClaim := { program := "ytojbnobpdoigaaa", sum := "cbb0e3674d726d67d95ce13cf1681c0b15bc766d51cd4eba145357f76e580093", func := "donjon/donjonlaw01.OctetThere", spec := "octetThere", inPlace := ["internal/bytealg.IndexByteString"], apart := false }
def OctetThereSaid : Prop := octetThereRow.holds Try.pinned (OpenSpec.ofChange octetThereSpec)

/-- ITS FALSE NEIGHBOUR: 'it returns false'. Refute it at one input. -/
def octetThereWrong : ChangeSpec := { name := "octetThere", fn := fun _ => fun
  | [d1, d2] => { results := [.lit (.bool false)], args := [d1, d2] }
  | _ => none }
def OctetThereWrongFalsely : Prop := octetThereRow.holds Try.pinned (OpenSpec.ofChange octetThereWrong)

/- THE SECOND FORM. 'bulk': how many values and letters a reading holds, each counted each time it is reached (what is shared counts as often as it is met; a slice's spare places count too). A statement '..UptoSaid' is the law's where the arguments, and the package variables that the reading takes, are together of bulk at most 1048576: NARROWER than '..Said'. Prove '..Said' where nothing that the law and all that it calls make is longer than what came in: it says more and counts as full. Else prove '..UptoSaid'. A law counts once. -/
mutual
def uptoBulk {H : Type} : DataW H → Nat
  | .lit (.string bytes) => bytes.length + 1
  | .lit _ => 1
  | .nil => 1
  | .ptr d => uptoBulk d + 1
  | .slice elems spare => uptoBulkAll elems + uptoBulkAll spare + 1
  | .agg parts => uptoBulkAll parts + 1
  | .iface _ d => uptoBulk d + 1
  | .map entries => uptoBulkEntries entries + 1
  | .held _ => 1
def uptoBulkAll {H : Type} : List (DataW H) → Nat
  | [] => 0
  | d :: r => uptoBulk d + uptoBulkAll r
def uptoBulkEntries {H : Type} : List (Lit × DataW H) → Nat
  | [] => 0
  | x :: r => uptoBulkEntry x + uptoBulkEntries r
def uptoBulkEntry {H : Type} : Lit × DataW H → Nat
  | (.string bytes, d) => bytes.length + uptoBulk d + 1
  | (_, d) => uptoBulk d + 1
 end
def uptoSmall : (H : Type) → List (DataW H) → Bool := fun _ ds => decide (uptoBulkAll ds ≤ 1048576)
def OpenSpec.upto (s : _root_.Go.ChangeSpec) : _root_.Go.OpenSpec := { _root_.Go.OpenSpec.ofChange s with cond := some uptoSmall }

/-- 'donjonlaw01.OctetNumbers', WHERE WHAT IT READS IS OF BULK AT MOST 1048576: true; the input reads as it did. -/
def octetNumbersUptoRow : OpenClaim := { program := "ytojbnobpdoigaaa", sum := "cbb0e3674d726d67d95ce13cf1681c0b15bc766d51cd4eba145357f76e580093", func := "donjon/donjonlaw01.OctetNumbers", spec := "octetNumbers", apart := false, narrowed := true }
def OctetNumbersUptoSaid : Prop := octetNumbersUptoRow.holds Try.pinned (OpenSpec.upto octetNumbersSpec)

/-- 'donjonlaw01.OctetReads', WHERE WHAT IT READS IS OF BULK AT MOST 1048576: true; the input reads as it did. -/
def octetReadsUptoRow : OpenClaim := { program := "ytojbnobpdoigaaa", sum := "cbb0e3674d726d67d95ce13cf1681c0b15bc766d51cd4eba145357f76e580093", func := "donjon/donjonlaw01.OctetReads", spec := "octetReads", apart := false, narrowed := true }
def OctetReadsUptoSaid : Prop := octetReadsUptoRow.holds Try.pinned (OpenSpec.upto octetReadsSpec)

/-- 'donjonlaw01.OctetXors', WHERE WHAT IT READS IS OF BULK AT MOST 1048576: true; the input reads as it did. -/
def octetXorsUptoRow : OpenClaim := { program := "ytojbnobpdoigaaa", sum := "cbb0e3674d726d67d95ce13cf1681c0b15bc766d51cd4eba145357f76e580093", func := "donjon/donjonlaw01.OctetXors", spec := "octetXors", apart := false, narrowed := true }
def OctetXorsUptoSaid : Prop := octetXorsUptoRow.holds Try.pinned (OpenSpec.upto octetXorsSpec)

/-- 'donjonlaw01.OctetHex', WHERE WHAT IT READS IS OF BULK AT MOST 1048576: true; the input reads as it did. -/
def octetHexUptoRow : OpenClaim := { program := "ytojbnobpdoigaaa", sum := "cbb0e3674d726d67d95ce13cf1681c0b15bc766d51cd4eba145357f76e580093", func := "donjon/donjonlaw01.OctetHex", spec := "octetHex", apart := false, narrowed := true }
def OctetHexUptoSaid : Prop := octetHexUptoRow.holds Try.pinned (OpenSpec.upto octetHexSpec)

/-- 'donjonlaw01.OctetUnhex', WHERE WHAT IT READS IS OF BULK AT MOST 1048576: true; the input reads as it did. -/
def octetUnhexUptoRow : OpenClaim := { program := "ytojbnobpdoigaaa", sum := "cbb0e3674d726d67d95ce13cf1681c0b15bc766d51cd4eba145357f76e580093", func := "donjon/donjonlaw01.OctetUnhex", spec := "octetUnhex", inPlace := ["internal/bytealg.IndexByteString"], apart := false, narrowed := true }
def OctetUnhexUptoSaid : Prop := octetUnhexUptoRow.holds Try.pinned (OpenSpec.upto octetUnhexSpec)

/-- 'donjonlaw01.OctetBack', WHERE WHAT IT READS IS OF BULK AT MOST 1048576: true; the input reads as it did. -/
def octetBackUptoRow : OpenClaim := { program := "ytojbnobpdoigaaa", sum := "cbb0e3674d726d67d95ce13cf1681c0b15bc766d51cd4eba145357f76e580093", func := "donjon/donjonlaw01.OctetBack", spec := "octetBack", apart := false, narrowed := true }
def OctetBackUptoSaid : Prop := octetBackUptoRow.holds Try.pinned (OpenSpec.upto octetBackSpec)

/-- 'donjonlaw01.OctetRing', WHERE WHAT IT READS IS OF BULK AT MOST 1048576: true; the input reads as it did. -/
def octetRingUptoRow : OpenClaim := { program := "ytojbnobpdoigaaa", sum := "cbb0e3674d726d67d95ce13cf1681c0b15bc766d51cd4eba145357f76e580093", func := "donjon/donjonlaw01.OctetRing", spec := "octetRing", apart := false, narrowed := true }
def OctetRingUptoSaid : Prop := octetRingUptoRow.holds Try.pinned (OpenSpec.upto octetRingSpec)

/-- 'donjonlaw01.OctetThere', WHERE WHAT IT READS IS OF BULK AT MOST 1048576: true; the input reads as it did. -/
def octetThereUptoRow : OpenClaim := { program := "ytojbnobpdoigaaa", sum := "cbb0e3674d726d67d95ce13cf1681c0b15bc766d51cd4eba145357f76e580093", func := "donjon/donjonlaw01.OctetThere", spec := "octetThere", inPlace := ["internal/bytealg.IndexByteString"], apart := false, narrowed := true }
def OctetThereUptoSaid : Prop := octetThereUptoRow.holds Try.pinned (OpenSpec.upto octetThereSpec)

end Rows
end Go.Proofs.Ytojbnobpdoigaaa
