/-
  Packets' numbers: bifoldlaw17's known answers.
-/
import Derived.Test.YtcakppdabolfiaaPnP
namespace Go.Proofs.Ytcakppdabolfiaa
open Go.RowKit
set_option linter.unusedVariables false
set_option linter.unusedSimpArgs false

set_option maxHeartbeats 4000000 in
theorem known17_any (w : World) : Calls Try.prog 17 #[] w fun e w' => e = .returned (.bool true) ∧ Below w.heap.size w w' := by
  have e1 : fullN 39730 (winN (bytesN 2)) (wantN 2821665002) = 2821692210 := by decide +kernel
  have e2 : lenN 11295746 11266227 = 2 := by decide +kernel
  have e3 : lenN 11331838 11266227 = 3 := by decide +kernel
  have e4 : 74565 % winN (bytesN 2) = 9029 := by decide +kernel
  have H1 := Bx.mk (fun W => pnFull_any 39730 2 2821665002 (by omega) (by omega) (by omega) W)
  have H2 := Bx.mk (fun W => pnLen_any 11295746 11266227 (by omega) (by omega) (by omega) W)
  have H3 := Bx.mk (fun W => pnLen_any 11331838 11266227 (by omega) (by omega) (by omega) W)
  have H4 := Bx.mk (fun W => pnCut_any 74565 2 (by omega) W)
  rw [e1] at H1
  rw [e2] at H2
  rw [e3] at H3
  rw [e4] at H4
  have G1 : Bx (∀ W, Calls Try.prog 22 #[.int .u64 39730, .int .i64 2, .int .i64 2821665002] W fun e w' => e = .returned (.int .u64 2821692210) ∧ Below W.heap.size W w') := ⟨H1.out⟩
  have G2 : Bx (∀ W, Calls Try.prog 18 #[.int .u64 11295746, .int .i64 11266227] W fun e w' => e = .returned (.int .i64 2) ∧ Below W.heap.size W w') := ⟨H2.out⟩
  have G3 : Bx (∀ W, Calls Try.prog 18 #[.int .u64 11331838, .int .i64 11266227] W fun e w' => e = .returned (.int .i64 3) ∧ Below W.heap.size W w') := ⟨H3.out⟩
  have G4 : Bx (∀ W, Calls Try.prog 20 #[.int .u64 74565, .int .i64 2] W fun e w' => e = .returned (.int .u64 9029) ∧ Below W.heap.size W w') := ⟨H4.out⟩
  clear e1 e2 e3 e4 H1 H2 H3 H4
  go_enter Try.func17, Try.ntmps17
  go_wp2_with (first
    | (go_at_call 22; refine (G1.out _).mono ?_; rintro e w1 ⟨rfl, b1⟩; have HB1 := Bx.mk b1; clear b1)
    | (go_at_call 20; refine (G4.out _).mono ?_; rintro e w4 ⟨rfl, b4⟩; have HB4 := Bx.mk (HB3.out.trans (b4.mono HB3.out.size)); clear b4)
    | (go_at_call 18; have hz := HB2; clear hz; refine (G3.out _).mono ?_; rintro e w3 ⟨rfl, b3⟩; have HB3 := Bx.mk (HB2.out.trans (b3.mono HB2.out.size)); clear b3)
    | (go_at_call 18; refine (G2.out _).mono ?_; rintro e w2 ⟨rfl, b2⟩; have HB2 := Bx.mk (HB1.out.trans (b2.mono HB1.out.size)); clear b2))
  go_ret
  exact ⟨rfl, HB4.out⟩
end Go.Proofs.Ytcakppdabolfiaa
