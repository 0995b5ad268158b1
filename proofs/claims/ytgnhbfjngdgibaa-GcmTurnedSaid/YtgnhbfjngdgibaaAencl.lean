/-
  The walk of AesEncrypts.
-/
import Derived.Test.YtgnhbfjngdgibaaKg
import Derived.Test.YtgnhbfjngdgibaaAsay
namespace Go.Proofs.Ytgnhbfjngdgibaa
open Go.RowKit
set_option linter.unusedVariables false
set_option linter.unusedSimpArgs false

/-- The document's Encrypt, of the cipher's words. -/
theorem refEnc_of (n r : Nat) (F : Nat → Nat) (xs : List Int) (p : Option Addr) (cap : Nat) (b : Nat → Nat) (w : World) (h : n = 16 ∨ n = 32) (hr : r = n / 4 + 6 ∧ F = wordB (n / 4) (nats xs)) (hp : Bin w p xs) (hx : Oct xs) (hl : xs.length = n) (ob : ∀ j, b j < 256) :
    Calls Try.prog 43 #[.slice p n cap, .agg (vals 16 b).toArray] w fun e w' => e = .returned (.agg (vals 16 (enc F r b)).toArray) ∧ Below w.heap.size w w' := by
  rw [hr.2]
  exact refEncrypt_any words_say (n / 4) n r (16 * (r + 1)) xs p cap b w (by omega) hp hx hl ob

end Go.Proofs.Ytgnhbfjngdgibaa
