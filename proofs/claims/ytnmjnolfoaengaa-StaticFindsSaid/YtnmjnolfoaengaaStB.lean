/-
  Contract of static.rows3.
-/
import Derived.Test.YtnmjnolfoaengaaStC0
namespace Go.Proofs.Ytnmjnolfoaengaa
open Go.RowKit
set_option linter.unusedVariables false

set_option maxRecDepth 100000 in
set_option maxHeartbeats 1000000 in
theorem rows3_any (w : World) :
    Calls Try.prog 17 #[] w fun e w' => ∃ v, e = .returned v ∧ Fs w' v T3 ∧ Below w.heap.size w w' := by
  go_enter Try.func17, Try.ntmps17
  go_wp2_with (first | (with_reducible refine wpList_buildSlice (v := .slice (some ⟨w.heap.size, 0, none⟩) 99 99) (w' := w.alloc (.cells C3 43)) (by kernel_rfl) ?_))
  go_ret
  exact ⟨_, rfl, Fs.lit w _ T3 99 t3_len (by simp [maxLen]) C3 (by simp [C3]), (Below.refl _ _).alloc (Nat.le_refl _) _⟩

end Go.Proofs.Ytnmjnolfoaengaa
