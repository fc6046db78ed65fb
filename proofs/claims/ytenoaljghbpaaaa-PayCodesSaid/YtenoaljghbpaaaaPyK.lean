/-
  What layer 12's laws want of the program.
-/
import Derived.Test.YtenoaljghbpaaaaPyA
import Derived.Test.YtenoaljghbpaaaaPyJ
namespace Go.Proofs.Ytenoaljghbpaaaa
end Go.Proofs.Ytenoaljghbpaaaa
