/-
  Packets' numbers: the document's bytes, Cut, Full, Len (written by mkpn.py).
-/
import Derived.Test.YtcakppdabolfiaaPnMath
import Derived.Test.YtcakppdabolfiaaStep
import Derived.Test.YtcakppdabolfiaaNumC
import Derived.Lib.MinMax
import Derived.Handy
namespace Go.Proofs.Ytcakppdabolfiaa
open Go.RowKit
set_option linter.unusedVariables false
set_option linter.unusedSimpArgs false

theorem refBytes_any (n : Int) (w : World) : Calls Try.prog 53 #[.int .i64 n] w fun e w' => e = .returned (.int .i64 (bytesN n : Int)) ∧ w' = w := by
  have h : min (max n 1) 4 = (bytesN n : Int) := by
    unfold bytesN
    split
    · omega
    · split <;> omega
  go_enter Try.func53, Try.ntmps53
  go_wp2
  go_ret
  exact ⟨rfl, rfl⟩
theorem pn_and (x k : Nat) (m : Nat) (hx : x < 18446744073709551616) (hm : m = 256 ∧ k = 8 ∨ m = 65536 ∧ k = 16 ∨ m = 16777216 ∧ k = 24 ∨ m = 4294967296 ∧ k = 32) : bits .and .u64 (x : Int) ((m : Int) - 1) = ((x % m : Nat) : Int) := by
  rcases hm with ⟨rfl, rfl⟩ | ⟨rfl, rfl⟩ | ⟨rfl, rfl⟩ | ⟨rfl, rfl⟩
  · rw [show (((256 : Nat) : Int) - 1) = ((2 ^ 8 - 1 : Nat) : Int) from rfl, u64_and_nat _ _ hx (by omega), Nat.and_two_pow_sub_one_eq_mod]
  · rw [show (((65536 : Nat) : Int) - 1) = ((2 ^ 16 - 1 : Nat) : Int) from rfl, u64_and_nat _ _ hx (by omega), Nat.and_two_pow_sub_one_eq_mod]
  · rw [show (((16777216 : Nat) : Int) - 1) = ((2 ^ 24 - 1 : Nat) : Int) from rfl, u64_and_nat _ _ hx (by omega), Nat.and_two_pow_sub_one_eq_mod]
  · rw [show (((4294967296 : Nat) : Int) - 1) = ((2 ^ 32 - 1 : Nat) : Int) from rfl, u64_and_nat _ _ hx (by omega), Nat.and_two_pow_sub_one_eq_mod]
theorem refCut_1 (x : Nat) (n : Int) (hx : x < 18446744073709551616) (hn : bytesN n = 1) (w : World) : Calls Try.prog 21 #[.int .u64 (x : Int), .int .i64 n] w fun e w' => e = .returned (.int .u64 ((x % winN (bytesN n) : Nat) : Int)) ∧ w' = w := by
  have HB := Bx.mk (refBytes_any n)
  have ha := pn_and x 8 256 hx (by omega)
  rw [hn] at HB ⊢
  rw [show winN 1 = 256 from rfl]
  rw [show ((256 : Nat) : Int) - 1 = 255 from rfl] at ha
  obtain ⟨X, hX⟩ : ∃ X : Int, (x : Int) = X := ⟨_, rfl⟩
  obtain ⟨R, hR⟩ : ∃ R : Int, ((x % 256 : Nat) : Int) = R := ⟨_, rfl⟩
  rw [hX, hR] at ha
  rw [hX, hR]
  clear hX hR hn hx
  go_enter Try.func21, Try.ntmps21
  go_wp2_with (go_at_call 53; refine (HB.out _).mono ?_; rintro e w1 ⟨rfl, hw⟩; subst hw)
  go_ret
  exact ⟨rfl, rfl⟩
theorem refCut_2 (x : Nat) (n : Int) (hx : x < 18446744073709551616) (hn : bytesN n = 2) (w : World) : Calls Try.prog 21 #[.int .u64 (x : Int), .int .i64 n] w fun e w' => e = .returned (.int .u64 ((x % winN (bytesN n) : Nat) : Int)) ∧ w' = w := by
  have HB := Bx.mk (refBytes_any n)
  have ha := pn_and x 16 65536 hx (by omega)
  rw [hn] at HB ⊢
  rw [show winN 2 = 65536 from rfl]
  rw [show ((65536 : Nat) : Int) - 1 = 65535 from rfl] at ha
  obtain ⟨X, hX⟩ : ∃ X : Int, (x : Int) = X := ⟨_, rfl⟩
  obtain ⟨R, hR⟩ : ∃ R : Int, ((x % 65536 : Nat) : Int) = R := ⟨_, rfl⟩
  rw [hX, hR] at ha
  rw [hX, hR]
  clear hX hR hn hx
  go_enter Try.func21, Try.ntmps21
  go_wp2_with (go_at_call 53; refine (HB.out _).mono ?_; rintro e w1 ⟨rfl, hw⟩; subst hw)
  go_ret
  exact ⟨rfl, rfl⟩
theorem refCut_3 (x : Nat) (n : Int) (hx : x < 18446744073709551616) (hn : bytesN n = 3) (w : World) : Calls Try.prog 21 #[.int .u64 (x : Int), .int .i64 n] w fun e w' => e = .returned (.int .u64 ((x % winN (bytesN n) : Nat) : Int)) ∧ w' = w := by
  have HB := Bx.mk (refBytes_any n)
  have ha := pn_and x 24 16777216 hx (by omega)
  rw [hn] at HB ⊢
  rw [show winN 3 = 16777216 from rfl]
  rw [show ((16777216 : Nat) : Int) - 1 = 16777215 from rfl] at ha
  obtain ⟨X, hX⟩ : ∃ X : Int, (x : Int) = X := ⟨_, rfl⟩
  obtain ⟨R, hR⟩ : ∃ R : Int, ((x % 16777216 : Nat) : Int) = R := ⟨_, rfl⟩
  rw [hX, hR] at ha
  rw [hX, hR]
  clear hX hR hn hx
  go_enter Try.func21, Try.ntmps21
  go_wp2_with (go_at_call 53; refine (HB.out _).mono ?_; rintro e w1 ⟨rfl, hw⟩; subst hw)
  go_ret
  exact ⟨rfl, rfl⟩
theorem refCut_4 (x : Nat) (n : Int) (hx : x < 18446744073709551616) (hn : bytesN n = 4) (w : World) : Calls Try.prog 21 #[.int .u64 (x : Int), .int .i64 n] w fun e w' => e = .returned (.int .u64 ((x % winN (bytesN n) : Nat) : Int)) ∧ w' = w := by
  have HB := Bx.mk (refBytes_any n)
  have ha := pn_and x 32 4294967296 hx (by omega)
  rw [hn] at HB ⊢
  rw [show winN 4 = 4294967296 from rfl]
  rw [show ((4294967296 : Nat) : Int) - 1 = 4294967295 from rfl] at ha
  obtain ⟨X, hX⟩ : ∃ X : Int, (x : Int) = X := ⟨_, rfl⟩
  obtain ⟨R, hR⟩ : ∃ R : Int, ((x % 4294967296 : Nat) : Int) = R := ⟨_, rfl⟩
  rw [hX, hR] at ha
  rw [hX, hR]
  clear hX hR hn hx
  go_enter Try.func21, Try.ntmps21
  go_wp2_with (go_at_call 53; refine (HB.out _).mono ?_; rintro e w1 ⟨rfl, hw⟩; subst hw)
  go_ret
  exact ⟨rfl, rfl⟩
theorem refCut_any (x : Nat) (n : Int) (hx : x < 18446744073709551616) (w : World) : Calls Try.prog 21 #[.int .u64 (x : Int), .int .i64 n] w fun e w' => e = .returned (.int .u64 ((x % winN (bytesN n) : Nat) : Int)) ∧ w' = w := by
  rcases bytesN_cases n with h | h | h | h
  · exact refCut_1 x n hx h w
  · exact refCut_2 x n hx h w
  · exact refCut_3 x n hx h w
  · exact refCut_4 x n hx h w
end Go.Proofs.Ytcakppdabolfiaa
