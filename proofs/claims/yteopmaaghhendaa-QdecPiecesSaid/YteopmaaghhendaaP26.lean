/-
  Texts put together: QnN, QnO.
-/
import Derived.Test.YteopmaaghhendaaP22
import Derived.Test.YteopmaaghhendaaP01

/-
  The document's Encode of QPACK, in pieces: one round of its second loop; a section that is kept.
-/
namespace Go.Proofs.Yteopmaaghhendaa
open Go.RowKit Go.Maps
set_option linter.unusedVariables false

section
variable {q t s : Nat} {w w1 wx : World} {k c : Nat} {iV uV aV lv : Value} {all : List Ql} {ls : List UInt8}
end

/-! ### a section that is kept -/
end Go.Proofs.Yteopmaaghhendaa

/-
  The document's Encode of QPACK, in pieces: its end.
-/
namespace Go.Proofs.Yteopmaaghhendaa
open Go.RowKit Go.Maps
set_option linter.unusedVariables false
set_option linter.unusedSimpArgs false

section
variable {q t s : Nat} {E : Qe} {S : Nat → Prop} {w wx : World} {k c : Nat} {iV uV aV lv : Value} {all : List Ql} {ins ls : List UInt8} {us : List Nat} {fx : List (Nat × Array Value)}
end
end Go.Proofs.Yteopmaaghhendaa
