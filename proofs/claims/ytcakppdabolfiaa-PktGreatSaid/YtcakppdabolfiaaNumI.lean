/-
  The contract of the document's ReadPrefix.
-/
import Derived.Test.YtcakppdabolfiaaNumH
namespace Go.Proofs.Ytcakppdabolfiaa
open Go.RowKit
set_option linter.unusedVariables false

theorem and128 (z : Nat) (hz : z < 256) : (bits .and .u8 (z : Int) 128 == 0) = decide (z < 128) := by
  have key : ∀ z, z < 256 → (((z &&& 128 : Nat) : Int) == 0) = decide (z < 128) := by decide +kernel
  rw [show (128 : Int) = ((128 : Nat) : Int) from rfl, u8_and_nat _ _ hz (by omega), key z hz]

def RefRel (R : Int × Int × Int) (t : List UInt8) (T : Nat) (vv iv : Value) : Prop :=
  ∃ (i : Nat) (v : Int), iv = .int .i64 ((i : Int) + 1) ∧ vv = .int .u64 v ∧ 0 ≤ v ∧ v ≤ 4611686018427387903 ∧ i ≤ T ∧ ((i ≤ 9 ∧ rpGo (t.drop i) i v.toNat = R) ∨ (i = 10 ∧ R = (0, 0, 21)))

end Go.Proofs.Ytcakppdabolfiaa
