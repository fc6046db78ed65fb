/-
  Texts put together: StA.
-/
import Derived.Test.YteopmaaghhendaaP10

/-
  Contract of static.rows2.
-/
namespace Go.Proofs.Yteopmaaghhendaa
open Go.RowKit
set_option linter.unusedVariables false

end Go.Proofs.Yteopmaaghhendaa
