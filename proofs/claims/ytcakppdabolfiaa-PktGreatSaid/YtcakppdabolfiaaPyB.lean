/-
  Payloads, the program's small functions: codes, flags, what stands ahead, clone.
-/
import Derived.Test.YtcakppdabolfiaaPyA
import Derived.Test.YtcakppdabolfiaaFrA
import Derived.Laws.BitsAllLaws
namespace Go.Proofs.Ytcakppdabolfiaa
open Go.RowKit
set_option linter.unusedVariables false
set_option linter.unusedSimpArgs false

/-- A flag is set. -/
def hasN (fl m : Nat) : Bool := (fl &&& m) != 0
theorem hasN_val (fl m : Nat) (h1 : fl < 256) (h2 : m < 256) : (bits .and .u8 (fl : Int) (m : Int) != 0) = hasN fl m := by
  rw [u8_and_nat _ _ h1 h2]
  unfold hasN
  rw [Bool.eq_iff_iff, bne_iff_ne, bne_iff_ne]
  omega
/-- How much stands ahead of the data. -/
def aheadN (ty fl : Nat) : Nat := (if hasN fl 8 then 1 else 0) + (if ty = 1 ∧ hasN fl 32 = true then 5 else 0) + (if ty = 5 then 4 else 0)
end Go.Proofs.Ytcakppdabolfiaa
