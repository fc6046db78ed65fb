/-
  Texts put together: QnI, QnJ, QnK, QnL, QnM, QnN.
-/
import Derived.Test.YteopmaaghhendaaM14
import Derived.Deep.RegionHeld
import Derived.Deep.CutBlock
import Derived.BigRegion
import Derived.Handy

/-
  The document's Encode of QPACK, in pieces: an entry that is inserted.
-/
namespace Go.Proofs.Yteopmaaghhendaa
open Go.RowKit Go.Maps
set_option linter.unusedVariables false

section
variable {q t s : Nat} {E : Qe} {S : Nat → Prop} {w wx : World} {lV : Value} {fb : Bool} {g0 k G : Nat} {a : Qa} {f1 f2 : ByteArray} {iV uV aV : Value} {fx : List (Nat × Array Value)} {ins : List UInt8} {us : List Nat} {all : List Ql}
end
end Go.Proofs.Yteopmaaghhendaa

/-
  The document's Encode of QPACK, in pieces: a field that is in no table whole; one that may be.
-/
namespace Go.Proofs.Yteopmaaghhendaa
open Go.RowKit Go.Maps
set_option linter.unusedVariables false

section
variable {q t s : Nat} {E : Qe} {S : Nat → Prop} {w wx : World} {lV : Value} {fb : Bool} {g0 k G : Nat} {a : Qa} {f1 f2 : ByteArray} {iV uV aV : Value} {fx : List (Nat × Array Value)} {ins : List UInt8} {us : List Nat} {all : List Ql}

end
end Go.Proofs.Yteopmaaghhendaa

/-
  The document's Encode of QPACK, in pieces: a field that isn't in the static table whole; one round.
-/
namespace Go.Proofs.Yteopmaaghhendaa
open Go.RowKit Go.Maps
set_option linter.unusedVariables false

section
variable {q t s : Nat} {E : Qe} {S : Nat → Prop} {w wx : World} {lV : Value} {fb : Bool} {g0 k G : Nat} {a : Qa} {f1 f2 : ByteArray} {iV uV aV : Value} {fx : List (Nat × Array Value)} {ins : List UInt8} {us : List Nat} {all : List Ql}

end
end Go.Proofs.Yteopmaaghhendaa

/-
  The document's Encode of QPACK, in pieces: one round of its first loop.
-/
namespace Go.Proofs.Yteopmaaghhendaa
open Go.RowKit Go.Maps
set_option linter.unusedVariables false

section
variable {q t s : Nat} {E : Qe} {S : Nat → Prop} {w wx : World} {lV : Value} {fb : Bool} {g0 k G : Nat} {a : Qa} {f1 f2 : ByteArray} {iV uV aV : Value} {l : List Fd}

end
end Go.Proofs.Yteopmaaghhendaa

/-
  The document's Encode of QPACK, in pieces: a line that is written.
-/
namespace Go.Proofs.Yteopmaaghhendaa
open Go.RowKit Go.Maps
set_option linter.unusedVariables false

section
variable {w : World} {B : Nat} {v : Value} {all : List Ql}
end

section
variable {q t s : Nat} {w w1 wx : World} {k c : Nat} {iV uV aV lv : Value} {all : List Ql} {ls : List UInt8}
end
end Go.Proofs.Yteopmaaghhendaa

/-
  The document's Encode of QPACK, in pieces: one round of its second loop; a section that is kept.
-/
namespace Go.Proofs.Yteopmaaghhendaa
open Go.RowKit Go.Maps
set_option linter.unusedVariables false

section
variable {q t s : Nat} {w w1 wx : World} {k c : Nat} {iV uV aV lv : Value} {all : List Ql} {ls : List UInt8}
end

/-! ### a section that is kept -/
end Go.Proofs.Yteopmaaghhendaa
