/-
  Texts put together: HgS.
-/
import Derived.Test.YtebakjdeighdnaaGreatM01

/-
  Contract of the document's H3s: where its fields lie.
-/
namespace Go.Proofs.YtebakjdeighdnaaGreat
open Go.RowKit
set_option linter.unusedVariables false

set_option maxRecDepth 100000 in
set_option maxHeartbeats 4000000 in
theorem h3s_row (w : World) :
    Calls Tryz.prog 39 #[] w fun e w' => e = .returned (.slice (some ⟨w.heap.size, 0, none⟩) 99 99) ∧ w' = w.alloc (.cells C3 53) := by
  go_enter Tryz.func39, Tryz.ntmps39
  go_wp2_with (first | (with_reducible refine wpList_buildSlice (v := .slice (some ⟨w.heap.size, 0, none⟩) 99 99) (w' := w.alloc (.cells C3 53)) (by kernel_rfl) ?_))
  go_ret
  exact ⟨rfl, rfl⟩

theorem c3_list : C3.toList = T3.flatMap fvl := by simp [C3]

end Go.Proofs.YtebakjdeighdnaaGreat
