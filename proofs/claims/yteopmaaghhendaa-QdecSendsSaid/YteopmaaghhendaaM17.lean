/-
  Texts put together: QpG.
-/
import Derived.Test.YteopmaaghhendaaM14

/-
  Contract of the encoder's release.
-/
namespace Go.Proofs.Yteopmaaghhendaa
open Go.RowKit Go.Maps
set_option linter.unusedVariables false

section
variable {q p bs bq bu bb : Nat} {X Y : Qc} {Z Z' : World → Prop} {vR : Value} {S1 S2 S : Nat → Prop} {w w' : World} {c : Nat → Nat} {f : Nat → Option Nat}
end
end Go.Proofs.Yteopmaaghhendaa
