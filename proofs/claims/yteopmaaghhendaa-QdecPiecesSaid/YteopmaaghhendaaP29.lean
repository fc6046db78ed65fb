/-
  Texts put together: QdM, QbMath.
-/
import Derived.Test.YteopmaaghhendaaP27
import Derived.Test.YteopmaaghhendaaP26
import Derived.Test.YteopmaaghhendaaP22
import Derived.Test.YteopmaaghhendaaP14

/-
  Contract of the document's lines of a section, for lines as they are written: the whole.
-/
namespace Go.Proofs.Yteopmaaghhendaa
open Go.RowKit Go.Maps
set_option linter.unusedVariables false

section
variable {q t c g0 G k : Nat} {T : Tab} {S1 : Nat → Prop} {w w2 wx : World} {b b' : List UInt8} {out l : List Fd} {bw ov : Value} {f : Fd}
end
end Go.Proofs.Yteopmaaghhendaa

/-
  QPACK read back, as plain mathematics: what the encoder writes, the decoder reads: strings, insertions, lines, a section's beginning.
-/
namespace Go.Proofs.Yteopmaaghhendaa
open Go.RowKit
set_option linter.unusedVariables false
set_option linter.unusedSimpArgs false

theorem preFirst_nat (f : UInt8) {k : Nat} (h1 : 1 ≤ k) (h8 : k ≤ 8) (v : Nat) : (preFirst f k v).toNat = f.toNat / 2 ^ k * 2 ^ k + min v (2 ^ k - 1) := by
  have h := preFirst_val f h1 h8 v
  unfold hiOf at h
  omega
theorem preFirst_div (f : UInt8) {k : Nat} (h1 : 1 ≤ k) (h8 : k ≤ 8) (v : Nat) : (preFirst f k v).toNat / 2 ^ k = f.toNat / 2 ^ k := by
  have h := preFirst_nat f h1 h8 v
  have hp := Nat.two_pow_pos k
  have hm : min v (2 ^ k - 1) < 2 ^ k := Nat.lt_of_le_of_lt (Nat.min_le_right _ _) (by omega)
  rw [h, Nat.mul_comm, Nat.mul_add_div hp, Nat.div_eq_of_lt hm, Nat.add_zero]
theorem pre_headD (f : UInt8) (k v : Nat) (r : List UInt8) : (pre f k v ++ r).headD 0 = preFirst f k v := by
  obtain ⟨t, ht⟩ := pre_ne f k v
  rw [ht]
  rfl
/-! ### lines -/
/-! ### a section's beginning -/
end Go.Proofs.Yteopmaaghhendaa
