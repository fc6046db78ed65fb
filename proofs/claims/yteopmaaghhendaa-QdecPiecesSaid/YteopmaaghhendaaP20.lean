/-
  Texts put together: OwT.
-/
import Derived.Test.YteopmaaghhendaaP15
import Derived.Test.YteopmaaghhendaaP14

/-
  Contract of the document's PutStr, over a row of bytes of its own: what is no row of bytes stands.
-/
namespace Go.Proofs.Yteopmaaghhendaa
open Go.RowKit
set_option linter.unusedVariables false

end Go.Proofs.Yteopmaaghhendaa
