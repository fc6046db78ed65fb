/-
  Texts put together: OwR, OwQ, OwF, StB.
-/
import Derived.Test.YteopmaaghhendaaP10
import Derived.Test.YteopmaaghhendaaP07
import Derived.Maps.AppendAt

/-
  Contract of the document's Huffman, over a row of bytes of its own.
-/
namespace Go.Proofs.Yteopmaaghhendaa
open Go.RowKit
set_option linter.unusedVariables false

end Go.Proofs.Yteopmaaghhendaa

/-
  Contract of the document's Prefix, over a row of bytes of its own.
-/
namespace Go.Proofs.Yteopmaaghhendaa
open Go.RowKit
set_option linter.unusedVariables false

end Go.Proofs.Yteopmaaghhendaa

/-
  Contract of the document's Prefix, over a row of bytes of its own: that row's block, and new ones, alone have turned.
-/
namespace Go.Proofs.Yteopmaaghhendaa
open Go.RowKit
set_option linter.unusedVariables false

section
variable {P : Program} (w : World)
end

end Go.Proofs.Yteopmaaghhendaa

/-
  Contract of static.rows3.
-/
namespace Go.Proofs.Yteopmaaghhendaa
open Go.RowKit
set_option linter.unusedVariables false

set_option maxRecDepth 100000 in
set_option maxHeartbeats 1000000 in
theorem rows3_any (w : World) :
    Calls Try.prog 91 #[] w fun e w' => ∃ v, e = .returned v ∧ Fs w' v T3 ∧ Below w.heap.size w w' := by
  go_enter Try.func91, Try.ntmps91
  go_wp2_with (first | (with_reducible refine wpList_buildSlice (v := .slice (some ⟨w.heap.size, 0, none⟩) 99 99) (w' := w.alloc (.cells C3 153)) (by kernel_rfl) ?_))
  go_ret
  exact ⟨_, rfl, Fs.lit w _ T3 99 t3_len (by simp [maxLen]) C3 (by simp [C3]), (Below.refl _ _).alloc (Nat.le_refl _) _⟩

end Go.Proofs.Yteopmaaghhendaa
