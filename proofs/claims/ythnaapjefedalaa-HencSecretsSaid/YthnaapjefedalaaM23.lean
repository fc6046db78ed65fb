/-
  Texts put together: StC.
-/
import Derived.Test.YthnaapjefedalaaM17

/-
  Contract of the document's H2s.
-/
namespace Go.Proofs.Ythnaapjefedalaa
open Go.RowKit
set_option linter.unusedVariables false

set_option maxRecDepth 100000 in
set_option maxHeartbeats 1000000 in
theorem h2s_any (w : World) :
    Calls Try.prog 34 #[] w fun e w' => ∃ v, e = .returned v ∧ Fs w' v T2 ∧ Below w.heap.size w w' := by
  go_enter Try.func34, Try.ntmps34
  go_wp2_with (first | (with_reducible refine wpList_buildSlice (v := .slice (some ⟨w.heap.size, 0, none⟩) 61 61) (w' := w.alloc (.cells C2 58)) (by kernel_rfl) ?_))
  go_ret
  exact ⟨_, rfl, Fs.lit w _ T2 61 t2_len (by simp [maxLen]) C2 (by simp [C2]), (Below.refl _ _).alloc (Nat.le_refl _) _⟩

end Go.Proofs.Ythnaapjefedalaa
