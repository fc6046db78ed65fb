/-
  Texts put together: StA, StB.
-/
import Derived.Test.YthnaapjefedalaaM17

/-
  Contract of static.rows2.
-/
namespace Go.Proofs.Ythnaapjefedalaa
open Go.RowKit
set_option linter.unusedVariables false

set_option maxRecDepth 100000 in
set_option maxHeartbeats 1000000 in
theorem rows2_any (w : World) :
    Calls Try.prog 78 #[] w fun e w' => ∃ v, e = .returned v ∧ Fs w' v T2 ∧ Below w.heap.size w w' := by
  go_enter Try.func78, Try.ntmps78
  go_wp2_with (first | (with_reducible refine wpList_buildSlice (v := .slice (some ⟨w.heap.size, 0, none⟩) 61 61) (w' := w.alloc (.cells C2 121)) (by kernel_rfl) ?_))
  go_ret
  exact ⟨_, rfl, Fs.lit w _ T2 61 t2_len (by simp [maxLen]) C2 (by simp [C2]), (Below.refl _ _).alloc (Nat.le_refl _) _⟩

end Go.Proofs.Ythnaapjefedalaa

/-
  Contract of static.rows3.
-/
namespace Go.Proofs.Ythnaapjefedalaa
open Go.RowKit
set_option linter.unusedVariables false

end Go.Proofs.Ythnaapjefedalaa
