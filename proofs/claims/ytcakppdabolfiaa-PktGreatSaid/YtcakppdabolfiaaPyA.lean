/-
  Codes of broken rules: the document's.
-/
import Derived.Test.YtcakppdabolfiaaRcW
import Derived.Test.YtcakppdabolfiaaStep
import Derived.Handy
namespace Go.Proofs.Ytcakppdabolfiaa
open Go.RowKit
set_option linter.unusedVariables false
set_option linter.unusedSimpArgs false

def codeT (r a b c d e f g h i j k : Int) : Int := if r = 0 then a else if r = 1 then b else if r = 2 then c else if r = 3 then d else if r = 4 then e else if r = 5 then f else if r = 6 then g else if r = 7 then h else if r = 8 then i else if r = 9 then j else k
/-- The code of a rule, on a stack. -/
def codeN (r s : Int) : Int := if s = 2 then codeT r 0 6 1 3 1 5 1 9 1 1 2 else if s = 3 then codeT r 256 262 259 257 265 260 261 512 270 261 258 else 0
end Go.Proofs.Ytcakppdabolfiaa
