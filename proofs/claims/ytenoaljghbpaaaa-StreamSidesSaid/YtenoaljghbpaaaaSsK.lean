/-
  bifoldlaw15's known answers true.
-/
import Derived.Test.YtenoaljghbpaaaaSsQ
namespace Go.Proofs.Ytenoaljghbpaaaa
open Go.RowKit
set_option linter.unusedVariables false
set_option linter.unusedSimpArgs false

theorem name4_any (w : World) : Calls Try.prog 97 #[.int .i64 4] w fun e w' => e = .returned (.string ⟨#[99, 108, 111, 115, 101, 100]⟩) ∧ w' = w := by
  go_enter Try.func97, Try.ntmps97
  go_wp2
  go_ret
  exact ⟨rfl, rfl⟩
theorem name9_any (w : World) : Calls Try.prog 97 #[.int .i64 9] w fun e w' => e = .returned (.string ⟨#[]⟩) ∧ w' = w := by
  go_enter Try.func97, Try.ntmps97
  go_wp2
  go_ret
  exact ⟨rfl, rfl⟩
set_option maxRecDepth 100000 in
set_option maxHeartbeats 4000000 in
theorem known15_any (w : World) : Calls Try.prog 61 #[] w fun e w' => e = .returned (.bool true) ∧ Below w.heap.size w w' := by
  have C0 := Bx.mk (fun st v W => ss_send 0 1 1 st v (by decide) (by decide) (by rfl) W 1 1 rfl rfl)
  rw [show hSend 0 1 1 = (2, 0) from rfl] at C0
  have C1 := Bx.mk (fun st v W => ss_recv 3 0 0 st v (by decide) (by decide) (by rfl) W 0 0 rfl rfl)
  rw [show hRecv 3 0 0 = (3, 5) from rfl] at C1
  go_enter Try.func61, Try.ntmps61
  go_wp2_with (first
    | (go_at_call 62; refine (C0.out _ _ _).mono ?_; rintro e w1 ⟨rfl, b1⟩; have HB := Bx.mk b1; clear b1)
    | (go_at_call 63; refine (C1.out _ _ _).mono ?_; rintro e w2 ⟨rfl, b2⟩; replace HB := Bx.mk (HB.out.trans (b2.mono HB.out.size)); clear b2)
    | (go_at_call 97; have hz := M4; clear hz; refine (name9_any _).mono ?_; rintro e w3 ⟨rfl, rfl⟩)
    | (go_at_call 97; refine (name4_any _).mono ?_; rintro e w3 ⟨rfl, rfl⟩; have M4 := HB))
  go_ret
  exact ⟨rfl, HB.out⟩
end Go.Proofs.Ytenoaljghbpaaaa
