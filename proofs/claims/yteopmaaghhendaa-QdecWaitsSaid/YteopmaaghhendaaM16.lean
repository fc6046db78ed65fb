/-
  Texts put together: QpB, QpC, QpS, QpT, QpD.
-/
import Derived.Test.YteopmaaghhendaaM14
import Derived.Test.YteopmaaghhendaaM07
import Derived.Test.YteopmaaghhendaaM13
import Derived.Deep.RegionHeld

/-
  Contracts of slices.Index, slices.Contains, slices.Max at numbers of 64 bits, and of the program's count.
-/
namespace Go.Proofs.Yteopmaaghhendaa
open Go.RowKit Go.Maps
set_option linter.unusedVariables false

section
variable {w : World} {v : Value} {ns : List Nat}
end
end Go.Proofs.Yteopmaaghhendaa

/-
  Contracts of the program's number, setCapacity, secret, text, insertion, literal.
-/
namespace Go.Proofs.Yteopmaaghhendaa
open Go.RowKit
set_option linter.unusedVariables false

end Go.Proofs.Yteopmaaghhendaa

/-
  Contracts of the encoder's hasRoom and mayInsert.
-/
namespace Go.Proofs.Yteopmaaghhendaa
open Go.RowKit Go.Maps
set_option linter.unusedVariables false

theorem i64_keep {x : Int} (h1 : -4611686018427387904 ≤ x) (h2 : x ≤ 4611686018427387904) : wrap64 x = x ∧ IntKind.i64.wrap x = x := by
  refine ⟨?_, ?_⟩
  · unfold wrap64; omega
  · rw [IntKind.wrap_i64]; omega
section
variable {q p : Nat} {X : Qc} {Z : World → Prop} {w w' : World} {S : Nat → Prop} {c : Nat → Nat}
end
end Go.Proofs.Yteopmaaghhendaa

/-
  Contract of the encoder's mayInsert.
-/
namespace Go.Proofs.Yteopmaaghhendaa
open Go.RowKit Go.Maps
set_option linter.unusedVariables false

section
variable {q p : Nat} {X : Qc} {Z : World → Prop} {w w' : World} {S : Nat → Prop} {c : Nat → Nat}
end
end Go.Proofs.Yteopmaaghhendaa

/-
  Contracts of the program's insertion and literal.
-/
namespace Go.Proofs.Yteopmaaghhendaa
open Go.RowKit
set_option linter.unusedVariables false

end Go.Proofs.Yteopmaaghhendaa
