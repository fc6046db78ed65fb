/-
  Texts put together: QdA, QdB, QdC, QdD, QdE, QdF, QdG, QdH, QdI.
-/
import Derived.Test.YteopmaaghhendaaP21
import Derived.Test.YteopmaaghhendaaP19
import Derived.Test.YteopmaaghhendaaP10
import Derived.Test.YteopmaaghhendaaP14
import Derived.Test.YteopmaaghhendaaP07
import Derived.Test.YteopmaaghhendaaP09
import Derived.Deep.RegionHeld
import Derived.Handy
import Derived.Deep.QuietTactic
import Derived.BigQuiet
import Derived.Deep.CutBlock
import Derived.Test.YteopmaaghhendaaP15
import Derived.Test.YteopmaaghhendaaP06
import Derived.Test.YteopmaaghhendaaP01

/-
  The document's one instruction of the encoder stream, in pieces: its code, its frame; a value behind its name.
-/
namespace Go.Proofs.Yteopmaaghhendaa
open Go.RowKit Go.Maps
set_option linter.unusedVariables false

section
variable {q t mx : Nat} {T : Tab} {S1 : Nat → Prop} {w wx : World} {bV : Value} {b : List UInt8} {G k : Nat} {f1 : ByteArray}
end
end Go.Proofs.Yteopmaaghhendaa

/-
  The document's one instruction of the encoder stream, in pieces: a name's place; a name; the capacity; an entry again.
-/
namespace Go.Proofs.Yteopmaaghhendaa
open Go.RowKit Go.Maps
set_option linter.unusedVariables false

section
variable {q t mx : Nat} {T : Tab} {S1 : Nat → Prop} {w wx : World} {bV : Value} {b : List UInt8} {G : Nat}
end
end Go.Proofs.Yteopmaaghhendaa

/-
  The document's one instruction of the encoder stream: an entry again; the whole.
-/
namespace Go.Proofs.Yteopmaaghhendaa
open Go.RowKit Go.Maps
set_option linter.unusedVariables false

section
variable {q t mx : Nat} {T : Tab} {S1 : Nat → Prop} {w wx : World} {bV : Value} {b : List UInt8} {G : Nat}
end
end Go.Proofs.Yteopmaaghhendaa

/-
  Contract of the document's one instruction of the encoder stream.
-/
namespace Go.Proofs.Yteopmaaghhendaa
open Go.RowKit Go.Maps
set_option linter.unusedVariables false

section
variable {q t mx : Nat} {T : Tab} {S1 : Nat → Prop} {w wx : World} {bV : Value} {b : List UInt8} {G : Nat}
end
end Go.Proofs.Yteopmaaghhendaa

/-
  Bytes that are appended to a slice cut tight; the document's decoder as a word; its making.
-/
namespace Go.Proofs.Yteopmaaghhendaa
open Go.RowKit Go.Maps
set_option linter.unusedVariables false

/-! ### the decoder -/
/-- A row of bytes of its own, by its block. -/
def Owb (v : Value) (l : List UInt8) : Wx := fun w S => OwB w 0 v l ∧ ∀ k, S k ↔ v.ownBlock = some k
theorem Wd.owb (v : Value) (l : List UInt8) : Wd (Owb v l) := by
  constructor
  · rintro w S ⟨h1, h2⟩ k hk
    exact h1.lt ((h2 k).1 hk)
  · rintro w w' S ⟨h1, h2⟩ hs hb
    exact ⟨h1.kept fun k hk => hb k ((h2 k).2 hk), h2⟩
section
variable {q t : Nat} {T T' : Tab} {mx B told : Nat} {rest out : List UInt8} {w w' : World} {S : Nat → Prop}
end
end Go.Proofs.Yteopmaaghhendaa

/-
  Whole instructions, one behind another; contract of the document's Feed (of the decoder) for these.
-/
namespace Go.Proofs.Yteopmaaghhendaa
open Go.RowKit Go.Maps
set_option linter.unusedVariables false
set_option linter.unusedSimpArgs false

section
variable {q t : Nat} {T T' : Tab} {mx B told : Nat} {rest rest' out : List UInt8} {w w' : World} {S : Nat → Prop} {v' : Value}
end
end Go.Proofs.Yteopmaaghhendaa

/-
  Contract of the document's Feed (of the decoder), of whole instructions.
-/
namespace Go.Proofs.Yteopmaaghhendaa
open Go.RowKit Go.Maps
set_option linter.unusedVariables false
set_option linter.unusedSimpArgs false

section
variable {q t : Nat} {T T' : Tab} {mx B told : Nat} {rest rest' out : List UInt8} {w w' : World} {S : Nat → Prop} {v' : Value}
end
end Go.Proofs.Yteopmaaghhendaa

/-
  The document's ReadPrefix of a section, where its base is its count; entry.
-/
namespace Go.Proofs.Yteopmaaghhendaa
open Go.RowKit Go.Maps
set_option linter.unusedVariables false

end Go.Proofs.Yteopmaaghhendaa

/-
  The document's entry, waits, forget (no stream waits), of the decoder.
-/
namespace Go.Proofs.Yteopmaaghhendaa
open Go.RowKit Go.Maps
set_option linter.unusedVariables false

end Go.Proofs.Yteopmaaghhendaa
