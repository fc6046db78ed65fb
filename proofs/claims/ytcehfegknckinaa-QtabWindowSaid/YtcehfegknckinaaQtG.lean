/-
  bifoldlaw8.known answers true.
-/
import Derived.Test.YtcehfegknckinaaQtF
namespace Go.Proofs.Ytcehfegknckinaa
open Go.RowKit
set_option linter.unusedVariables false

theorem kdec (w : World) : Calls Try.prog 7 #[.int .u64 4, .int .u64 10, .int .i64 100] w fun e w' => e = .returned (.tuple #[.int .u64 9, .int .i64 0]) ∧ w = w' := by
  have h := decodeCount_any 4 10 100 (by omega) (by omega) (by omega) w
  rw [show dcN 4 10 (mostN 100) = some 9 from by decide +kernel, Dec_some] at h
  exact h
theorem kpre (w : World) : Calls Try.prog 15 #[.slice none 0 0, .int .u64 9, .int .u64 6, .int .i64 100] w fun e w' => ∃ v', e = .returned v' ∧ Bs w' v' [4, 130] ∧ Below w.heap.size w w' := by
  refine (qPrefix_any (.slice none 0 0) [] 9 6 100 w (Rd.nil _) (by simp) (by omega) (by omega) (by omega)).mono ?_
  rintro e w' ⟨v', rfl, h, b⟩
  rw [show ([] : List UInt8) ++ qpre 9 6 (mostN 100) = [4, 130] from by decide +kernel] at h
  exact ⟨_, rfl, h.bs, b⟩
theorem kread (v : Value) (w : World) (h : Bs w v [4, 130]) : Calls Try.prog 16 #[v, .int .u64 10, .int .i64 100] w fun e w' => e = .returned (.tuple #[.int .u64 9, .int .u64 6, .int .i64 2, .int .i64 0]) ∧ w = w' := by
  have h := qReadPrefix_any v [4, 130] 10 100 w h (by simp) (by omega) (by omega)
  rw [show qrd [4, 130] 10 (mostN 100) = (9, 6, 2, 0) from by decide +kernel] at h
  exact h
theorem krel (w : World) : Calls Try.prog 11 #[.int .u64 5, .int .u64 1] w fun e w' => e = .returned (.tuple #[.int .u64 3, .bool true]) ∧ w = w' :=
  relative_any 5 1 (by omega) w
theorem kpost (w : World) : Calls Try.prog 13 #[.int .u64 5, .int .u64 1] w fun e w' => e = .returned (.tuple #[.int .u64 6, .bool true]) ∧ w = w' := by
  have h := post_any 5 1 (by omega) (by omega) w
  rw [show sumN 5 1 4611686018427387903 = some 6 from by decide +kernel, Opt_some] at h
  exact h
theorem kenc (w : World) : Calls Try.prog 9 #[.int .u64 9, .int .i64 100] w fun e w' => e = .returned (.int .u64 4) ∧ w = w' := by
  have h := encodeCount_any 9 100 (by omega) (by omega) w
  rw [show ecN 9 (mostN 100) = 4 from by decide +kernel] at h
  exact h

set_option maxRecDepth 100000 in
set_option maxHeartbeats 1000000 in
theorem known_any (w : World) :
    Calls Try.prog 6 #[] w fun e w' => e = .returned (.bool true) ∧ Below w.heap.size w w' := by
  go_enter Try.func6, Try.ntmps6
  go_wp2_with fail
  refine (kdec _).mono ?_
  rintro e w1 ⟨rfl, rfl⟩
  go_wp2_with fail
  refine (kpre _).mono ?_
  rintro e w1 ⟨v1, rfl, h1, b1⟩
  go_wp2_with fail
  refine (kread _ _ h1).mono ?_
  rintro e w1 ⟨rfl, rfl⟩
  go_wp2_with fail
  refine (krel _).mono ?_
  rintro e w1 ⟨rfl, rfl⟩
  go_wp2_with fail
  refine (kpost _).mono ?_
  rintro e w1 ⟨rfl, rfl⟩
  go_wp2_with fail
  refine (kenc _).mono ?_
  rintro e w1 ⟨rfl, rfl⟩
  go_wp2_with fail
  go_ret
  exact ⟨rfl, b1⟩

end Go.Proofs.Ytcehfegknckinaa
