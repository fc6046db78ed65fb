/-
  Texts put together: OwH.
-/
import Derived.Test.YteopmaaghhendaaM09
import Derived.Test.YteopmaaghhendaaM06

/-
  Contract of the document's Huffman, over a row of bytes of its own.
-/
namespace Go.Proofs.Yteopmaaghhendaa
open Go.RowKit
set_option linter.unusedVariables false

end Go.Proofs.Yteopmaaghhendaa
