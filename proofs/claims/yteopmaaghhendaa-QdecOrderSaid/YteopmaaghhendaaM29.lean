/-
  Texts put together: QbA.
-/
import Derived.Test.YteopmaaghhendaaM25
import Derived.Test.YteopmaaghhendaaM24
import Derived.Test.YteopmaaghhendaaM12

/-
  The document's decoder: what Decode and Send store; its making.
-/
namespace Go.Proofs.Yteopmaaghhendaa
open Go.RowKit Go.Maps
set_option linter.unusedVariables false
set_option linter.unusedSimpArgs false

section
variable {q t : Nat} {T : Tab} {mx B told : Nat} {rest out out' : List UInt8} {w w6 : World} {S S3 : Nat → Prop} {v' vO' : Value}
theorem Owb.none_ (w : World) : Owb (.slice none 0 0) [] w (fun _ => False) := ⟨OwB.nil w 0, fun k => ⟨fun h => h.elim, fun h => by simp [Value.ownBlock] at h⟩⟩
end
/-- What Send tells. -/
def sendW (out : List UInt8) (told tot : Nat) : List UInt8 := out ++ (if told < tot then pre 0 6 (tot - told) else [])
end Go.Proofs.Yteopmaaghhendaa
