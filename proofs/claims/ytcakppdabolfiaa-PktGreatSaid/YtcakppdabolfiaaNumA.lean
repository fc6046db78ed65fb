/-
  Contracts of the small functions of package num: clamp, fullPrefix, varClass, VarLen; and of bifoldref1.VarLen.
-/
import Derived.Test.YtcakppdabolfiaaRows
import Derived.WalkKit
import Derived.WalkSpells
import Derived.WalkLawsBesides
import Derived.Lib.MinMax
import Derived.Lib.Hide
import Derived.Handy
namespace Go.Proofs.Ytcakppdabolfiaa
open Go.RowKit
set_option linter.unusedVariables false

theorem clamp_any (n lo hi : Int) (w : World) :
    Calls Try.prog 86 #[.int .i64 n, .int .i64 lo, .int .i64 hi] w fun e w' => e = .returned (.int .i64 (min (max n lo) hi)) ∧ w = w' := by
  go_enter Try.func86, Try.ntmps86
  go_wp2
  go_ret
  exact ⟨rfl, rfl⟩


def full (k : Int) : Int := 2 ^ k.toNat - 1

theorem full_wrap (k : Int) (h0 : 1 ≤ k) (h1 : k ≤ 8) : IntKind.u64.wrap (IntKind.u64.wrap (2 ^ k.toNat) - 1) = full k := by
  obtain ⟨n, rfl⟩ := Int.eq_ofNat_of_zero_le (by omega : 0 ≤ k)
  have : n = 1 ∨ n = 2 ∨ n = 3 ∨ n = 4 ∨ n = 5 ∨ n = 6 ∨ n = 7 ∨ n = 8 := by omega
  rcases this with rfl | rfl | rfl | rfl | rfl | rfl | rfl | rfl <;> rfl

theorem ret_int {k : IntKind} {a b : Int} (h : a = b) : Ending.returned (.int k a) = .returned (.int k b) := by rw [h]

theorem varClass_0 (v : Int) (h0 : 0 ≤ v) (h1 : v < 64) (w : World) :
    Calls Try.prog 98 #[.int .u64 v] w fun e w' => e = .returned (.tuple #[.int .i64 0, .bool true]) ∧ w = w' := by
  go_enter Try.func98, Try.ntmps98
  go_wp2
  go_rounds 5
  go_ret2
  exact ⟨rfl, rfl⟩

theorem varClass_1 (v : Int) (h0 : 64 ≤ v) (h1 : v < 16384) (w : World) :
    Calls Try.prog 98 #[.int .u64 v] w fun e w' => e = .returned (.tuple #[.int .i64 1, .bool true]) ∧ w = w' := by
  go_enter Try.func98, Try.ntmps98
  go_wp2
  go_rounds 5
  go_ret2
  exact ⟨rfl, rfl⟩

theorem varClass_2 (v : Int) (h0 : 16384 ≤ v) (h1 : v < 1073741824) (w : World) :
    Calls Try.prog 98 #[.int .u64 v] w fun e w' => e = .returned (.tuple #[.int .i64 2, .bool true]) ∧ w = w' := by
  go_enter Try.func98, Try.ntmps98
  go_wp2
  go_rounds 5
  go_ret2
  exact ⟨rfl, rfl⟩

theorem varClass_3 (v : Int) (h0 : 1073741824 ≤ v) (h1 : v < 4611686018427387904) (w : World) :
    Calls Try.prog 98 #[.int .u64 v] w fun e w' => e = .returned (.tuple #[.int .i64 3, .bool true]) ∧ w = w' := by
  go_enter Try.func98, Try.ntmps98
  go_wp2
  go_rounds 5
  go_ret2
  exact ⟨rfl, rfl⟩

theorem varClass_4 (v : Int) (h0 : 4611686018427387904 ≤ v) (h1 : v < 18446744073709551616) (w : World) :
    Calls Try.prog 98 #[.int .u64 v] w fun e w' => e = .returned (.tuple #[.int .i64 0, .bool false]) ∧ w = w' := by
  go_enter Try.func98, Try.ntmps98
  go_wp2
  go_rounds 5
  go_ret2
  exact ⟨rfl, rfl⟩

def cls (v : Int) : Int := if v < 64 then 0 else if v < 16384 then 1 else if v < 1073741824 then 2 else if v < 4611686018427387904 then 3 else 0
def clsLen (v : Int) : Int := if v < 64 then 1 else if v < 16384 then 2 else if v < 1073741824 then 4 else if v < 4611686018427387904 then 8 else 0

theorem varClass_ok (v : Int) (h0 : 0 ≤ v) (h1 : v < 4611686018427387904) (w : World) :
    Calls Try.prog 98 #[.int .u64 v] w fun e w' => e = .returned (.tuple #[.int .i64 (cls v), .bool true]) ∧ w = w' := by
  unfold cls
  split
  · exact varClass_0 v h0 (by assumption) w
  split
  · exact varClass_1 v (by omega) (by assumption) w
  split
  · exact varClass_2 v (by omega) (by assumption) w
  · exact varClass_3 v (by omega) (by assumption) w

theorem varLen_any (v : Int) (h0 : 0 ≤ v) (h1 : v < 18446744073709551616) (w : World) :
    Calls Try.prog 66 #[.int .u64 v] w fun e w' => e = .returned (.int .i64 (clsLen v)) ∧ w = w' := by
  unfold clsLen
  split
  · go_enter Try.func66, Try.ntmps66
    go_wp2_with (go_at_call 98; refine (varClass_0 _ (by omega) (by omega) _).mono ?_; rintro e w' ⟨rfl, rfl⟩)
    go_ret
    exact ⟨rfl, rfl⟩
  split
  · go_enter Try.func66, Try.ntmps66
    go_wp2_with (go_at_call 98; refine (varClass_1 _ (by omega) (by omega) _).mono ?_; rintro e w' ⟨rfl, rfl⟩)
    go_ret
    exact ⟨rfl, rfl⟩
  split
  · go_enter Try.func66, Try.ntmps66
    go_wp2_with (go_at_call 98; refine (varClass_2 _ (by omega) (by omega) _).mono ?_; rintro e w' ⟨rfl, rfl⟩)
    go_ret
    exact ⟨rfl, rfl⟩
  split
  · go_enter Try.func66, Try.ntmps66
    go_wp2_with (go_at_call 98; refine (varClass_3 _ (by omega) (by omega) _).mono ?_; rintro e w' ⟨rfl, rfl⟩)
    go_ret
    exact ⟨rfl, rfl⟩
  · go_enter Try.func66, Try.ntmps66
    go_wp2_with (go_at_call 98; refine (varClass_4 _ (by omega) (by omega) _).mono ?_; rintro e w' ⟨rfl, rfl⟩)
    go_ret
    exact ⟨rfl, rfl⟩

theorem refVarLen_any (v : Int) (h0 : 0 ≤ v) (h1 : v < 18446744073709551616) (w : World) :
    Calls Try.prog 70 #[.int .u64 v] w fun e w' => e = .returned (.int .i64 (clsLen v)) ∧ w = w' := by
  unfold clsLen
  split <;> (try split) <;> (try split) <;> (try split) <;>
   (go_enter Try.func70, Try.ntmps70
    go_wp2
    go_ret
    exact ⟨rfl, rfl⟩)

end Go.Proofs.Ytcakppdabolfiaa
