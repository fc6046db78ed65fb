/-
  Contract of the document's Prefix, over a row of bytes of its own.
-/
import Derived.Test.YtcehfegknckinaaNumG
import Derived.Test.YtcehfegknckinaaOwB
namespace Go.Proofs.Ytcehfegknckinaa
open Go.RowKit
set_option linter.unusedVariables false

/-- The loop's relation: what is still to write. -/
def PrefRelO (G : List UInt8) (bl : List UInt8) (B : Nat) (w : World) (ov xv : Value) (wr : World) : Prop :=
  ∃ (m x : Nat) (l1 : List UInt8), xv = .int .u64 x ∧ x < 18446744073709551616 ∧ x < 128 ^ (m + 1) ∧ m ≤ 9 ∧ l1 ++ cont (m + 1) x = G ∧ l1.length + m ≤ bl.length + 10 ∧ OwB wr B ov l1 ∧ Below B w wr

end Go.Proofs.Ytcehfegknckinaa
