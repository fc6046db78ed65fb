/-
  Texts put together: HuffI, HuffH, HuffJ, OwH, OwR.
-/
import Derived.Test.YteopmaaghhendaaM10
import Derived.Test.YteopmaaghhendaaM02
import Derived.Test.YteopmaaghhendaaM01

/-
  The document's codes as cells.
-/
namespace Go.Proofs.Yteopmaaghhendaa
open Go.RowKit
set_option linter.unusedVariables false

end Go.Proofs.Yteopmaaghhendaa

/-
  The contract of the document's Codes.
-/
namespace Go.Proofs.Yteopmaaghhendaa
open Go.RowKit
set_option linter.unusedVariables false

end Go.Proofs.Yteopmaaghhendaa

/-
  Contracts of the document's HuffLen and Huffman.
-/
namespace Go.Proofs.Yteopmaaghhendaa
open Go.RowKit
set_option linter.unusedVariables false

end Go.Proofs.Yteopmaaghhendaa

/-
  Contract of the document's Huffman, over a row of bytes of its own.
-/
namespace Go.Proofs.Yteopmaaghhendaa
open Go.RowKit
set_option linter.unusedVariables false

end Go.Proofs.Yteopmaaghhendaa

/-
  Contract of the document's Huffman, over a row of bytes of its own.
-/
namespace Go.Proofs.Yteopmaaghhendaa
open Go.RowKit
set_option linter.unusedVariables false

end Go.Proofs.Yteopmaaghhendaa
