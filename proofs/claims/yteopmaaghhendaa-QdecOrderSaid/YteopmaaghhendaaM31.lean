/-
  Texts put together: QbFeed.
-/
import Derived.Test.YteopmaaghhendaaM29
import Derived.Test.YteopmaaghhendaaM27

/-
  What the decoder sends is taken by the encoder: acknowledgments in order, and what was inserted beyond; the invariant of both.
-/
namespace Go.Proofs.Yteopmaaghhendaa
open Go.RowKit
set_option linter.unusedVariables false
set_option linter.unusedSimpArgs false

def acksW (op : List Qs) : List UInt8 := op.flatMap fun x => pre 128 7 x.s
def opMax (K : Nat) (op : List Qs) : Nat := op.foldl (fun m x => max m x.c) K
theorem opMax_snoc (K : Nat) (op : List Qs) (x : Qs) : opMax K (op ++ [x]) = max (opMax K op) x.c := by
  unfold opMax
  rw [List.foldl_append]
  rfl
theorem acksW_len : ∀ (op : List Qs), (acksW op).length ≤ 11 * op.length
  | [] => Nat.le_refl _
  | x :: op => by
    have h1 := (pre_len 128 7 x.s).2
    have h2 := acksW_len op
    show ((pre 128 7 x.s) ++ acksW op).length ≤ _
    rw [List.length_append, List.length_cons]
    omega
end Go.Proofs.Yteopmaaghhendaa
