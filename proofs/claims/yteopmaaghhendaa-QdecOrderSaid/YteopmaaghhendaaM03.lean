/-
  Texts put together: NumA.
-/
import Derived.Test.YteopmaaghhendaaRows
import Derived.WalkKit
import Derived.WalkSpells
import Derived.WalkLawsBesides
import Derived.Lib.MinMax
import Derived.Lib.Hide
import Derived.Handy

/-
  Contracts of the small functions of package num: clamp, fullPrefix, varClass, VarLen; and of bifoldref1.VarLen.
-/
namespace Go.Proofs.Yteopmaaghhendaa
open Go.RowKit
set_option linter.unusedVariables false

theorem clamp_any (n lo hi : Int) (w : World) :
    Calls Try.prog 92 #[.int .i64 n, .int .i64 lo, .int .i64 hi] w fun e w' => e = .returned (.int .i64 (min (max n lo) hi)) ∧ w = w' := by
  go_enter Try.func92, Try.ntmps92
  go_wp2
  go_ret
  exact ⟨rfl, rfl⟩


def full (k : Int) : Int := 2 ^ k.toNat - 1

theorem full_wrap (k : Int) (h0 : 1 ≤ k) (h1 : k ≤ 8) : IntKind.u64.wrap (IntKind.u64.wrap (2 ^ k.toNat) - 1) = full k := by
  obtain ⟨n, rfl⟩ := Int.eq_ofNat_of_zero_le (by omega : 0 ≤ k)
  have : n = 1 ∨ n = 2 ∨ n = 3 ∨ n = 4 ∨ n = 5 ∨ n = 6 ∨ n = 7 ∨ n = 8 := by omega
  rcases this with rfl | rfl | rfl | rfl | rfl | rfl | rfl | rfl <;> rfl

theorem ret_int {k : IntKind} {a b : Int} (h : a = b) : Ending.returned (.int k a) = .returned (.int k b) := by rw [h]

theorem fullPrefix_any (n : Int) (w : World) :
    Calls Try.prog 75 #[.int .i64 n] w fun e w' => e = .returned (.int .u64 (full (min (max n 1) 8))) ∧ w = w' := by
  have h0 : 0 ≤ min (max n 1) 8 := by omega
  have h1 : min (max n 1) 8 ≤ 8 := by omega
  go_enter Try.func75, Try.ntmps75
  go_wp2_with (go_at_call 92; refine (clamp_any _ _ _ _).mono ?_; rintro e w' ⟨rfl, rfl⟩)
  go_ret
  exact ⟨ret_int (full_wrap _ (by omega) (by omega)), rfl⟩


end Go.Proofs.Yteopmaaghhendaa
