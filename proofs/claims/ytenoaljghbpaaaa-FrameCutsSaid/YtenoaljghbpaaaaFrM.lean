/-
  Frames, FrameCuts as mathematics: a frame that is cut off goes on.
-/
import Derived.Test.YtenoaljghbpaaaaFrC
namespace Go.Proofs.Ytenoaljghbpaaaa
open Go.RowKit
set_option linter.unusedVariables false

theorem rdF_cut (b : List UInt8) (t f : UInt8) (hb : b.length ≤ 300) (k : Nat) (hk : k < 9 + b.length) :
    rdF (([0, UInt8.ofNat (b.length / 256), UInt8.ofNat b.length, t, f, 0, 0, 0, 1] ++ b).take k) 0 = ((0, 0, 0, []), 0, 20) := by
  unfold rdF
  have hlen : (([0, UInt8.ofNat (b.length / 256), UInt8.ofNat b.length, t, f, 0, 0, 0, 1] ++ b).take k).length = k := by
    rw [List.length_take]
    simp
    omega
  rw [hlen]
  by_cases h9 : k < 9
  · rw [if_pos h9]
  · rw [if_neg h9]
    have ht : (([0, UInt8.ofNat (b.length / 256), UInt8.ofNat b.length, t, f, 0, 0, 0, 1] ++ b).take k).take 3 = [0, UInt8.ofNat (b.length / 256), UInt8.ofNat b.length] := by
      rw [List.take_take, Nat.min_eq_left (by omega)]
      rfl
    have hrb : rb [0, UInt8.ofNat (b.length / 256), UInt8.ofNat b.length] = b.length := by
      show ((0 * 256 + (0 : UInt8).toNat) * 256 + (UInt8.ofNat (b.length / 256)).toNat) * 256 + (UInt8.ofNat b.length).toNat = b.length
      rw [UInt8.toNat_ofNat', UInt8.toNat_ofNat']
      simp
      omega
    rw [ht, hrb, if_neg (by show ¬ (min (max (0 : Int) 16384) 16777215 < (b.length : Int)); omega), if_pos (by omega)]
end Go.Proofs.Ytenoaljghbpaaaa
