/-
  No cell of these rows narrows 'for every input' (looked for: loops, veiled, ifaces, maps, wideKeys, modest, calm, conditions, laid).
  DERIVED. THE GIVEN ROWS OF THIS SEAT. 8 by the template 'for every input the law returns true; each argument reads behind the call as it read before'; 0 by the template 'total and deterministic' (their statements: YtdifilcgammniaaTotals.lean).
  GIVEN WITH THE SEED: the statements are not yours to turn. If you find one false, say at which input.
  Laid BY PROGRAM, IN A SANDBOX (cutbox-rows.mjs): the forced cells as the released guide's own fill.sh prints them over the translation 597f2d90d21485ea… (all of the seat's roots in one cut). By AI agents, Wed Nov 11 2026. No macro, syntax, notation, axiom, sorry.
-/
import Derived.Test.YtdifilcgammniaaChecked
import GoSem.Claim
import GoSem.ClaimJoined
import GoSem.ClaimMapViews
import Derived.JoinedTies
import Derived.KernelRfl
namespace Go.Proofs.Ytdifilcgammniaa
/- THE CELL 'sum', in the pinned program and in every row, IS THE sha256 OF THE DUMP (.gsa) THAT YtdifilcgammniaaProg.lean LOADS. Nothing in Lean hashes anything: it is a label: what it is worth is what the hold of that sum in a sandbox is worth. -/
noncomputable def Try.pinned : Pinned := { name := "ytdifilcgammniaa", sum := "597f2d90d21485ea60a4630c491de885e1e61ce5adfbfd448e4ff91848d4d85d", checked := Try.checked }
namespace Rows
def none {H : Type} : Left H := { results := [], args := [] }

/-- 'donjonlaw03.AesWords': WHATEVER THE INPUT: true; the input reads as it did. -/
def aesWordsSpec : ChangeSpec := { name := "aesWords", fn := fun _ => fun
  | [d] => { results := [.lit (.bool true)], args := [d] }
  | _ => none }
def aesWordsRow : OpenClaim := { program := "ytdifilcgammniaa", sum := "597f2d90d21485ea60a4630c491de885e1e61ce5adfbfd448e4ff91848d4d85d", func := "donjon/donjonlaw03.AesWords", spec := "aesWords", apart := false }
def AesWordsSaid : Prop := aesWordsRow.holds Try.pinned (OpenSpec.ofChange aesWordsSpec)

/-- ITS FALSE NEIGHBOUR: 'it returns false'. Refute it at one input. -/
def aesWordsWrong : ChangeSpec := { name := "aesWords", fn := fun _ => fun
  | [d] => { results := [.lit (.bool false)], args := [d] }
  | _ => none }
def AesWordsWrongFalsely : Prop := aesWordsRow.holds Try.pinned (OpenSpec.ofChange aesWordsWrong)

/-- 'donjonlaw03.AesEncrypts': WHATEVER THE INPUT: true; the input reads as it did. -/
def aesEncryptsSpec : ChangeSpec := { name := "aesEncrypts", fn := fun _ => fun
  | [d1, d2] => { results := [.lit (.bool true)], args := [d1, d2] }
  | _ => none }
def aesEncryptsRow : OpenClaim := { program := "ytdifilcgammniaa", sum := "597f2d90d21485ea60a4630c491de885e1e61ce5adfbfd448e4ff91848d4d85d", func := "donjon/donjonlaw03.AesEncrypts", spec := "aesEncrypts", apart := false }
def AesEncryptsSaid : Prop := aesEncryptsRow.holds Try.pinned (OpenSpec.ofChange aesEncryptsSpec)

/-- ITS FALSE NEIGHBOUR: 'it returns false'. Refute it at one input. -/
def aesEncryptsWrong : ChangeSpec := { name := "aesEncrypts", fn := fun _ => fun
  | [d1, d2] => { results := [.lit (.bool false)], args := [d1, d2] }
  | _ => none }
def AesEncryptsWrongFalsely : Prop := aesEncryptsRow.holds Try.pinned (OpenSpec.ofChange aesEncryptsWrong)

/-- 'donjonlaw03.AesDecrypts': WHATEVER THE INPUT: true; the input reads as it did. -/
def aesDecryptsSpec : ChangeSpec := { name := "aesDecrypts", fn := fun _ => fun
  | [d1, d2] => { results := [.lit (.bool true)], args := [d1, d2] }
  | _ => none }
def aesDecryptsRow : OpenClaim := { program := "ytdifilcgammniaa", sum := "597f2d90d21485ea60a4630c491de885e1e61ce5adfbfd448e4ff91848d4d85d", func := "donjon/donjonlaw03.AesDecrypts", spec := "aesDecrypts", apart := false }
def AesDecryptsSaid : Prop := aesDecryptsRow.holds Try.pinned (OpenSpec.ofChange aesDecryptsSpec)

/-- ITS FALSE NEIGHBOUR: 'it returns false'. Refute it at one input. -/
def aesDecryptsWrong : ChangeSpec := { name := "aesDecrypts", fn := fun _ => fun
  | [d1, d2] => { results := [.lit (.bool false)], args := [d1, d2] }
  | _ => none }
def AesDecryptsWrongFalsely : Prop := aesDecryptsRow.holds Try.pinned (OpenSpec.ofChange aesDecryptsWrong)

/-- 'donjonlaw04.GhashMul': WHATEVER THE INPUT: true; the input reads as it did. -/
def ghashMulSpec : ChangeSpec := { name := "ghashMul", fn := fun _ => fun
  | [d1, d2] => { results := [.lit (.bool true)], args := [d1, d2] }
  | _ => none }
def ghashMulRow : OpenClaim := { program := "ytdifilcgammniaa", sum := "597f2d90d21485ea60a4630c491de885e1e61ce5adfbfd448e4ff91848d4d85d", func := "donjon/donjonlaw04.GhashMul", spec := "ghashMul", apart := false }
def GhashMulSaid : Prop := ghashMulRow.holds Try.pinned (OpenSpec.ofChange ghashMulSpec)

/-- ITS FALSE NEIGHBOUR: 'it returns false'. Refute it at one input. -/
def ghashMulWrong : ChangeSpec := { name := "ghashMul", fn := fun _ => fun
  | [d1, d2] => { results := [.lit (.bool false)], args := [d1, d2] }
  | _ => none }
def GhashMulWrongFalsely : Prop := ghashMulRow.holds Try.pinned (OpenSpec.ofChange ghashMulWrong)

/-- 'donjonlaw04.GhashSums': WHATEVER THE INPUT: true; the input reads as it did. -/
def ghashSumsSpec : ChangeSpec := { name := "ghashSums", fn := fun _ => fun
  | [d1, d2, d3] => { results := [.lit (.bool true)], args := [d1, d2, d3] }
  | _ => none }
def ghashSumsRow : OpenClaim := { program := "ytdifilcgammniaa", sum := "597f2d90d21485ea60a4630c491de885e1e61ce5adfbfd448e4ff91848d4d85d", func := "donjon/donjonlaw04.GhashSums", spec := "ghashSums", apart := false }
def GhashSumsSaid : Prop := ghashSumsRow.holds Try.pinned (OpenSpec.ofChange ghashSumsSpec)

/-- ITS FALSE NEIGHBOUR: 'it returns false'. Refute it at one input. -/
def ghashSumsWrong : ChangeSpec := { name := "ghashSums", fn := fun _ => fun
  | [d1, d2, d3] => { results := [.lit (.bool false)], args := [d1, d2, d3] }
  | _ => none }
def GhashSumsWrongFalsely : Prop := ghashSumsRow.holds Try.pinned (OpenSpec.ofChange ghashSumsWrong)

/-- 'donjonlaw04.GhashField': WHATEVER THE INPUT: true; the input reads as it did. -/
def ghashFieldSpec : ChangeSpec := { name := "ghashField", fn := fun _ => fun
  | [d1, d2, d3] => { results := [.lit (.bool true)], args := [d1, d2, d3] }
  | _ => none }
def ghashFieldRow : OpenClaim := { program := "ytdifilcgammniaa", sum := "597f2d90d21485ea60a4630c491de885e1e61ce5adfbfd448e4ff91848d4d85d", func := "donjon/donjonlaw04.GhashField", spec := "ghashField", apart := false }
def GhashFieldSaid : Prop := ghashFieldRow.holds Try.pinned (OpenSpec.ofChange ghashFieldSpec)

/-- ITS FALSE NEIGHBOUR: 'it returns false'. Refute it at one input. -/
def ghashFieldWrong : ChangeSpec := { name := "ghashField", fn := fun _ => fun
  | [d1, d2, d3] => { results := [.lit (.bool false)], args := [d1, d2, d3] }
  | _ => none }
def GhashFieldWrongFalsely : Prop := ghashFieldRow.holds Try.pinned (OpenSpec.ofChange ghashFieldWrong)

/-- 'donjonlaw04.GhashAdds': WHATEVER THE INPUT: true; the input reads as it did. -/
def ghashAddsSpec : ChangeSpec := { name := "ghashAdds", fn := fun _ => fun
  | [d1, d2, d3] => { results := [.lit (.bool true)], args := [d1, d2, d3] }
  | _ => none }
def ghashAddsRow : OpenClaim := { program := "ytdifilcgammniaa", sum := "597f2d90d21485ea60a4630c491de885e1e61ce5adfbfd448e4ff91848d4d85d", func := "donjon/donjonlaw04.GhashAdds", spec := "ghashAdds", apart := false }
def GhashAddsSaid : Prop := ghashAddsRow.holds Try.pinned (OpenSpec.ofChange ghashAddsSpec)

/-- ITS FALSE NEIGHBOUR: 'it returns false'. Refute it at one input. -/
def ghashAddsWrong : ChangeSpec := { name := "ghashAdds", fn := fun _ => fun
  | [d1, d2, d3] => { results := [.lit (.bool false)], args := [d1, d2, d3] }
  | _ => none }
def GhashAddsWrongFalsely : Prop := ghashAddsRow.holds Try.pinned (OpenSpec.ofChange ghashAddsWrong)

/-- 'donjonlaw04.GhashLengths': WHATEVER THE INPUT: true; the input reads as it did. -/
def ghashLengthsSpec : ChangeSpec := { name := "ghashLengths", fn := fun _ => fun
  | [d1, d2] => { results := [.lit (.bool true)], args := [d1, d2] }
  | _ => none }
def ghashLengthsRow : OpenClaim := { program := "ytdifilcgammniaa", sum := "597f2d90d21485ea60a4630c491de885e1e61ce5adfbfd448e4ff91848d4d85d", func := "donjon/donjonlaw04.GhashLengths", spec := "ghashLengths", apart := false }
def GhashLengthsSaid : Prop := ghashLengthsRow.holds Try.pinned (OpenSpec.ofChange ghashLengthsSpec)

/-- ITS FALSE NEIGHBOUR: 'it returns false'. Refute it at one input. -/
def ghashLengthsWrong : ChangeSpec := { name := "ghashLengths", fn := fun _ => fun
  | [d1, d2] => { results := [.lit (.bool false)], args := [d1, d2] }
  | _ => none }
def GhashLengthsWrongFalsely : Prop := ghashLengthsRow.holds Try.pinned (OpenSpec.ofChange ghashLengthsWrong)

/- THE SECOND FORM. 'bulk': how many values and letters a reading holds, each counted each time it is reached (what is shared counts as often as it is met; a slice's spare places count too). A statement '..UptoSaid' is the law's where the arguments, and the package variables that the reading takes, are together of bulk at most 1048576: NARROWER than '..Said'. Prove '..Said' where nothing that the law and all that it calls make is longer than what came in: it says more and counts as full. Else prove '..UptoSaid'. A law counts once. -/
mutual
def uptoBulk {H : Type} : DataW H → Nat
  | .lit (.string bytes) => bytes.length + 1
  | .lit _ => 1
  | .nil => 1
  | .ptr d => uptoBulk d + 1
  | .slice elems spare => uptoBulkAll elems + uptoBulkAll spare + 1
  | .agg parts => uptoBulkAll parts + 1
  | .iface _ d => uptoBulk d + 1
  | .map entries => uptoBulkEntries entries + 1
  | .held _ => 1
def uptoBulkAll {H : Type} : List (DataW H) → Nat
  | [] => 0
  | d :: r => uptoBulk d + uptoBulkAll r
def uptoBulkEntries {H : Type} : List (Lit × DataW H) → Nat
  | [] => 0
  | x :: r => uptoBulkEntry x + uptoBulkEntries r
def uptoBulkEntry {H : Type} : Lit × DataW H → Nat
  | (.string bytes, d) => bytes.length + uptoBulk d + 1
  | (_, d) => uptoBulk d + 1
 end
def uptoSmall : (H : Type) → List (DataW H) → Bool := fun _ ds => decide (uptoBulkAll ds ≤ 1048576)
def OpenSpec.upto (s : _root_.Go.ChangeSpec) : _root_.Go.OpenSpec := { _root_.Go.OpenSpec.ofChange s with cond := some uptoSmall }

/-- 'donjonlaw03.AesWords', WHERE WHAT IT READS IS OF BULK AT MOST 1048576: true; the input reads as it did. -/
def aesWordsUptoRow : OpenClaim := { program := "ytdifilcgammniaa", sum := "597f2d90d21485ea60a4630c491de885e1e61ce5adfbfd448e4ff91848d4d85d", func := "donjon/donjonlaw03.AesWords", spec := "aesWords", apart := false, narrowed := true }
def AesWordsUptoSaid : Prop := aesWordsUptoRow.holds Try.pinned (OpenSpec.upto aesWordsSpec)

/-- 'donjonlaw03.AesEncrypts', WHERE WHAT IT READS IS OF BULK AT MOST 1048576: true; the input reads as it did. -/
def aesEncryptsUptoRow : OpenClaim := { program := "ytdifilcgammniaa", sum := "597f2d90d21485ea60a4630c491de885e1e61ce5adfbfd448e4ff91848d4d85d", func := "donjon/donjonlaw03.AesEncrypts", spec := "aesEncrypts", apart := false, narrowed := true }
def AesEncryptsUptoSaid : Prop := aesEncryptsUptoRow.holds Try.pinned (OpenSpec.upto aesEncryptsSpec)

/-- 'donjonlaw03.AesDecrypts', WHERE WHAT IT READS IS OF BULK AT MOST 1048576: true; the input reads as it did. -/
def aesDecryptsUptoRow : OpenClaim := { program := "ytdifilcgammniaa", sum := "597f2d90d21485ea60a4630c491de885e1e61ce5adfbfd448e4ff91848d4d85d", func := "donjon/donjonlaw03.AesDecrypts", spec := "aesDecrypts", apart := false, narrowed := true }
def AesDecryptsUptoSaid : Prop := aesDecryptsUptoRow.holds Try.pinned (OpenSpec.upto aesDecryptsSpec)

/-- 'donjonlaw04.GhashMul', WHERE WHAT IT READS IS OF BULK AT MOST 1048576: true; the input reads as it did. -/
def ghashMulUptoRow : OpenClaim := { program := "ytdifilcgammniaa", sum := "597f2d90d21485ea60a4630c491de885e1e61ce5adfbfd448e4ff91848d4d85d", func := "donjon/donjonlaw04.GhashMul", spec := "ghashMul", apart := false, narrowed := true }
def GhashMulUptoSaid : Prop := ghashMulUptoRow.holds Try.pinned (OpenSpec.upto ghashMulSpec)

/-- 'donjonlaw04.GhashSums', WHERE WHAT IT READS IS OF BULK AT MOST 1048576: true; the input reads as it did. -/
def ghashSumsUptoRow : OpenClaim := { program := "ytdifilcgammniaa", sum := "597f2d90d21485ea60a4630c491de885e1e61ce5adfbfd448e4ff91848d4d85d", func := "donjon/donjonlaw04.GhashSums", spec := "ghashSums", apart := false, narrowed := true }
def GhashSumsUptoSaid : Prop := ghashSumsUptoRow.holds Try.pinned (OpenSpec.upto ghashSumsSpec)

/-- 'donjonlaw04.GhashField', WHERE WHAT IT READS IS OF BULK AT MOST 1048576: true; the input reads as it did. -/
def ghashFieldUptoRow : OpenClaim := { program := "ytdifilcgammniaa", sum := "597f2d90d21485ea60a4630c491de885e1e61ce5adfbfd448e4ff91848d4d85d", func := "donjon/donjonlaw04.GhashField", spec := "ghashField", apart := false, narrowed := true }
def GhashFieldUptoSaid : Prop := ghashFieldUptoRow.holds Try.pinned (OpenSpec.upto ghashFieldSpec)

/-- 'donjonlaw04.GhashAdds', WHERE WHAT IT READS IS OF BULK AT MOST 1048576: true; the input reads as it did. -/
def ghashAddsUptoRow : OpenClaim := { program := "ytdifilcgammniaa", sum := "597f2d90d21485ea60a4630c491de885e1e61ce5adfbfd448e4ff91848d4d85d", func := "donjon/donjonlaw04.GhashAdds", spec := "ghashAdds", apart := false, narrowed := true }
def GhashAddsUptoSaid : Prop := ghashAddsUptoRow.holds Try.pinned (OpenSpec.upto ghashAddsSpec)

/-- 'donjonlaw04.GhashLengths', WHERE WHAT IT READS IS OF BULK AT MOST 1048576: true; the input reads as it did. -/
def ghashLengthsUptoRow : OpenClaim := { program := "ytdifilcgammniaa", sum := "597f2d90d21485ea60a4630c491de885e1e61ce5adfbfd448e4ff91848d4d85d", func := "donjon/donjonlaw04.GhashLengths", spec := "ghashLengths", apart := false, narrowed := true }
def GhashLengthsUptoSaid : Prop := ghashLengthsUptoRow.holds Try.pinned (OpenSpec.upto ghashLengthsSpec)

end Rows
end Go.Proofs.Ytdifilcgammniaa
