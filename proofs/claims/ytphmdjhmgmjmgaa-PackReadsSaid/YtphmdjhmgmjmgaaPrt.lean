/-
  The document's reader: Num where no byte is left, Text.
-/
import Derived.Test.YtphmdjhmgmjmgaaPrn
namespace Go.Proofs.Ytphmdjhmgmjmgaa
open Go.RowKit
set_option linter.unusedVariables false
set_option linter.unusedSimpArgs false

/-- The fault of a text whose length is read as T out of m bytes. -/
def txtE (T : Nat × Nat × Int) (most : Int) (m : Nat) : Int :=
  if T.2.2 ≠ 0 then T.2.2 else if (if most ≤ 0 then 0 < T.1 else most < (T.1 : Int)) then 3 else if m - T.2.1 < T.1 then 4 else 0
/-- What Text does. -/
def rdText (xs : List Int) (most : Int) (at0 : Nat) (f : Int) : List Int × Nat × Int :=
  if f ≠ 0 then ([], at0, f) else
  if txtE (tkn (xs.drop at0) 0 0) most (xs.length - at0) ≠ 0 then ([], at0, txtE (tkn (xs.drop at0) 0 0) most (xs.length - at0)) else
  ((xs.drop (at0 + (tkn (xs.drop at0) 0 0).2.1)).take (tkn (xs.drop at0) 0 0).1, at0 + (tkn (xs.drop at0) 0 0).2.1 + (tkn (xs.drop at0) 0 0).1, 0)

end Go.Proofs.Ytphmdjhmgmjmgaa
