/-
  The document's Words, of both lengths of a key.
-/
import Derived.Test.YtgnhbfjngdgibaaArw
import Derived.Test.YtgnhbfjngdgibaaArenc
namespace Go.Proofs.Ytgnhbfjngdgibaa
open Go.RowKit

theorem words_say : WordsSay := by
  rintro k n N xs p cap w (⟨rfl, rfl, rfl⟩ | ⟨rfl, rfl, rfl⟩) hp hx hl
  · exact refWords4_any p cap xs w hp hx hl
  · exact refWords8_any p cap xs w hp hx hl
end Go.Proofs.Ytgnhbfjngdgibaa
