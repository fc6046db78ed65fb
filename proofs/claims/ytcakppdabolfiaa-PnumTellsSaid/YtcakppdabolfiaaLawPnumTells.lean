/-
  bifoldlaw17.PnumTells answers true, whatever its arguments: the walk.
-/
import Derived.Test.YtcakppdabolfiaaPnK
namespace Go.Proofs.Ytcakppdabolfiaa
open Go.RowKit
set_option linter.unusedVariables false
set_option linter.unusedSimpArgs false

theorem i64_wf {t : Int} (h : (Lit.int .i64 t).wf = true) : -9223372036854775808 ≤ t ∧ t ≤ 9223372036854775807 := by
  have h0 : IntKind.i64.min ≤ t ∧ t ≤ IntKind.i64.max := by simpa [Lit.wf] using h
  have h1 : IntKind.i64.min = -9223372036854775808 := rfl
  have h2 : IntKind.i64.max = 9223372036854775807 := rfl
  omega
theorem u64_wf {t : Int} (h : (Lit.int .u64 t).wf = true) : 0 ≤ t ∧ t < 18446744073709551616 := by
  have h0 : IntKind.u64.min ≤ t ∧ t ≤ IntKind.u64.max := by simpa [Lit.wf] using h
  have h1 : IntKind.u64.min = 0 := rfl
  have h2 : IntKind.u64.max = 18446744073709551615 := rfl
  omega
set_option maxHeartbeats 4000000 in
theorem pnumTells_walk (X N Lg : Int) (hX : (Lit.int .u64 X).wf = true) (hN : (Lit.int .i64 N).wf = true) (hL : (Lit.int .i64 Lg).wf = true) (w : World) :
    Calls Try.prog 3 #[.int .u64 X, .int .i64 N, .int .i64 Lg] w fun e w' => e = .returned (.bool true) ∧ Below w.heap.size w w' := by
  obtain ⟨x, rfl⟩ := Int.eq_ofNat_of_zero_le (u64_wf hX).1
  have hx := (u64_wf hX).2
  have hl := i64_wf hL
  have HK := Bx.mk (known17_any w)
  have P1 := Bx.mk (fun W => pnLen_any x Lg (by omega) hl.1 hl.2 W)
  have P2 := Bx.mk (fun W => pnCut_any x N (by omega) W)
  have P3 := Bx.mk (fun W => pnFull_any x N Lg (by omega) hl.1 hl.2 W)
  have R1 := Bx.mk (fun W => refLen_any x Lg (by omega) hl.1 hl.2 W)
  have R2 := Bx.mk (fun W => refCut_any x N (by omega) W)
  have R3 := Bx.mk (fun W => refFull_any x N Lg (by omega) hl.1 hl.2 W)
  obtain ⟨V1, h1⟩ : ∃ V : Int, (lenN x Lg : Int) = V := ⟨_, rfl⟩
  obtain ⟨V2, h2⟩ : ∃ V : Int, ((x % winN (bytesN N) : Nat) : Int) = V := ⟨_, rfl⟩
  obtain ⟨V3, h3⟩ : ∃ V : Int, (fullN x (winN (bytesN N)) (wantN Lg) : Int) = V := ⟨_, rfl⟩
  rw [h1] at P1 R1
  rw [h2] at P2 R2
  rw [h3] at P3 R3
  clear h1 h2 h3 hx hl hX hN hL
  obtain ⟨XI, hXI⟩ : ∃ V : Int, (x : Int) = V := ⟨_, rfl⟩
  rw [hXI] at P1 P2 P3 R1 R2 R3 ⊢
  clear hXI
  go_enter Try.func3, Try.ntmps3
  go_wp2_with (first
    | (go_at_call 17; refine HK.out.mono ?_; rintro e w1 ⟨rfl, b1⟩; have HB1 := Bx.mk b1; clear b1)
    | (go_at_call 18; refine (P1.out _).mono ?_; rintro e w2 ⟨rfl, b2⟩; have HB2 := Bx.mk (HB1.out.trans (b2.mono HB1.out.size)); clear b2)
    | (go_at_call 19; refine (R1.out _).mono ?_; rintro e w5 ⟨rfl, hw⟩; subst hw)
    | (go_at_call 20; refine (P2.out _).mono ?_; rintro e w3 ⟨rfl, b3⟩; have HB3 := Bx.mk (HB2.out.trans (b3.mono HB2.out.size)); clear b3)
    | (go_at_call 21; refine (R2.out _).mono ?_; rintro e w6 ⟨rfl, hw⟩; subst hw)
    | (go_at_call 22; refine (P3.out _).mono ?_; rintro e w4 ⟨rfl, b4⟩; have HB4 := Bx.mk (HB3.out.trans (b4.mono HB3.out.size)); clear b4)
    | (go_at_call 23; refine (R3.out _).mono ?_; rintro e w7 ⟨rfl, hw⟩; subst hw))
  go_ret
  exact ⟨rfl, HB4.out⟩
end Go.Proofs.Ytcakppdabolfiaa
