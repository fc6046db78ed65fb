/-
  Texts put together: NumE, NumF.
-/
import Derived.Test.YteopmaaghhendaaP06

/-
  Contracts of num.Var and of the document's Var, Vars.
-/
namespace Go.Proofs.Yteopmaaghhendaa
open Go.RowKit
set_option linter.unusedVariables false

def small (x : UInt64) : Prop := x.toNat < 4611686018427387904
instance (x : UInt64) : Decidable (small x) := inferInstanceAs (Decidable (_ < _))
end Go.Proofs.Yteopmaaghhendaa

/-
  Contracts of the document's Var, Vars.
-/
namespace Go.Proofs.Yteopmaaghhendaa
open Go.RowKit
set_option linter.unusedVariables false

end Go.Proofs.Yteopmaaghhendaa
