/-
  bifoldlaw3.known answers true.
-/
import Derived.Test.YtnkbnanjbandeaaDoorFdF
import Derived.Test.YtnkbnanjbandeaaDoorFdG
namespace Go.Proofs.YtnkbnanjbandeaaDoor
open Go.RowKit
set_option linter.unusedVariables false

theorem n1 : nameB (⟨#[97, 99, 99, 101, 112, 116, 45, 120]⟩ : ByteArray).data.toList = true := by decide +kernel
theorem n2 : nameB (⟨#[65, 99, 99, 101, 112, 116]⟩ : ByteArray).data.toList = false := by decide +kernel
theorem n3 : nameB (⟨#[]⟩ : ByteArray).data.toList = false := by decide +kernel
theorem v1 : valueB (⟨#[97, 32, 98]⟩ : ByteArray).data.toList = true := by decide +kernel
theorem v2 : valueB (⟨#[32, 97]⟩ : ByteArray).data.toList = false := by decide +kernel
theorem p1 : pseudoB (⟨#[58, 112, 97, 116, 104]⟩ : ByteArray).data.toList = true := by decide +kernel
theorem p2 : pseudoB (⟨#[112, 97, 116, 104]⟩ : ByteArray).data.toList = false := by decide +kernel
theorem s1 : sizeF [((⟨#[97]⟩ : ByteArray), (⟨#[98, 99]⟩ : ByteArray))] = 35 := rfl
theorem litF (w : World) (f : Fd) : Fs (w.alloc (.cells #[.string f.1, .string f.2] 31)) (.slice (some ⟨w.heap.size, 0, none⟩) 1 1) [f] :=
  An.rd (An.lit (k := 2) w 31 #[.string f.1, .string f.2] 1 rfl (by simp [maxLen]))

set_option maxRecDepth 100000 in
set_option maxHeartbeats 1000000 in
theorem known_any (w : World) :
    Calls Tryd.prog 7 #[] w fun e w' => e = .returned (.bool true) ∧ Below w.heap.size w w' := by
  go_enter Tryd.func7, Tryd.ntmps7
  go_wp2_with fail
  refine (name_any _ w (by decide)).mono ?_
  rintro e w' ⟨rfl, hw⟩
  rw [hw, n1]
  clear hw w'
  go_wp2_with fail
  refine (name_any _ w (by decide)).mono ?_
  rintro e w' ⟨rfl, hw⟩
  rw [hw, n2]
  clear hw w'
  go_wp2_with fail
  refine (name_any _ w (by decide)).mono ?_
  rintro e w' ⟨rfl, hw⟩
  rw [hw, n3]
  clear hw w'
  go_wp2_with fail
  refine (value_any _ w (by decide)).mono ?_
  rintro e w1 ⟨rfl, b1⟩
  rw [v1]
  go_wp2_with fail
  refine (value_any _ w1 (by decide)).mono ?_
  rintro e w2 ⟨rfl, b2⟩
  rw [v2]
  have h2 : Below w.heap.size w w2 := b1.trans (b2.mono b1.size)
  clear b1 b2
  go_wp2_with fail
  refine (pseudo_any _ w2).mono ?_
  rintro e w' ⟨rfl, hw⟩
  rw [hw, p1]
  clear hw w'
  go_wp2_with fail
  refine (pseudo_any _ w2).mono ?_
  rintro e w' ⟨rfl, hw⟩
  rw [hw, p2]
  clear hw w'
  go_wp2_with fail
  refine (size_any _ [((⟨#[97]⟩ : ByteArray), (⟨#[98, 99]⟩ : ByteArray))] _ (litF w2 _) (by rw [s1]; decide)).mono ?_
  rintro e w3 ⟨rfl, b3⟩
  rw [s1]
  go_wp2
  go_ret
  exact ⟨rfl, (h2.alloc h2.size _).trans (b3.mono (by have := h2.size; simp; omega))⟩

end Go.Proofs.YtnkbnanjbandeaaDoor
