/-
  Texts put together: StB.
-/
import Derived.Test.YtebakjdeighdnaaGreatM01

/-
  Contract of static.rows3.
-/
namespace Go.Proofs.YtebakjdeighdnaaGreat
open Go.RowKit
set_option linter.unusedVariables false

set_option maxRecDepth 100000 in
set_option maxHeartbeats 1000000 in
theorem rows3_any (w : World) :
    Calls Tryz.prog 84 #[] w fun e w' => ∃ v, e = .returned v ∧ Fs w' v T3 ∧ Below w.heap.size w w' := by
  go_enter Tryz.func84, Tryz.ntmps84
  go_wp2_with (first | (with_reducible refine wpList_buildSlice (v := .slice (some ⟨w.heap.size, 0, none⟩) 99 99) (w' := w.alloc (.cells C3 148)) (by kernel_rfl) ?_))
  go_ret
  exact ⟨_, rfl, Fs.lit w _ T3 99 t3_len (by simp [maxLen]) C3 (by simp [C3]), (Below.refl _ _).alloc (Nat.le_refl _) _⟩

end Go.Proofs.YtebakjdeighdnaaGreat
