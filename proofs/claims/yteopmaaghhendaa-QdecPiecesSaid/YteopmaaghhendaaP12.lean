/-
  Texts put together: StG, StK.
-/
import Derived.Test.YteopmaaghhendaaP07
import Derived.Test.YteopmaaghhendaaP01
import Derived.Test.YteopmaaghhendaaP06
import Derived.WalkKit
import Derived.WalkSpells
import Derived.WalkLawsBesides
import Derived.Handy
import Derived.Lib.MinMax
import Derived.Lib.Hide
import Derived.IntWalk
import Derived.BigRegion
import Derived.RegionTactic
import Derived.Deep.LoopGhost
import Derived.Lib.Strings
import Derived.Deep.QuietTactic
import Derived.BigQuiet

/-
  Contracts of find's closure, of slices.IndexFunc with it.
-/
namespace Go.Proofs.Yteopmaaghhendaa
open Go.RowKit
set_option linter.unusedVariables false

end Go.Proofs.Yteopmaaghhendaa

/-
  Contract of the document's FindIn.
-/
namespace Go.Proofs.Yteopmaaghhendaa
open Go.RowKit
set_option linter.unusedVariables false

end Go.Proofs.Yteopmaaghhendaa
