/-
  Texts put together: HgS.
-/
import Derived.Test.YteopmaaghhendaaM01

/-
  Contract of the document's H3s: where its fields lie.
-/
namespace Go.Proofs.Yteopmaaghhendaa
open Go.RowKit
set_option linter.unusedVariables false

end Go.Proofs.Yteopmaaghhendaa
