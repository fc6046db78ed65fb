/-
  Texts put together: HuffG.
-/
import Derived.Test.YtejkbibahbcofaaM04
import Derived.BigQuiet

/-
  Contracts of the document's lengths and Codes.
-/
namespace Go.Proofs.Ytejkbibahbcofaa
open Go.RowKit
set_option linter.unusedVariables false

/-- The document's lengths, as a slice's cells. -/
def IA : Array Value := (LL.map fun (n : Nat) => Value.int .i64 (n : Int)).toArray
def intF (i : Nat) : Value := .int .i64 (ll i : Int)
theorem ia_row (w : World) : (w.alloc (.cells IA 3)).rowIs w.heap.size 3 257 intF := by
  have h : IA.size = 257 := by decide +kernel
  have := World.rowIs_alloc w IA 3 intF (fun i hi => by
    rw [h] at hi
    unfold IA
    rw [List.getElem?_toArray, List.getElem?_map, ll_get i hi]
    rfl)
  rwa [h] at this

set_option maxRecDepth 100000 in
set_option maxHeartbeats 1000000 in
theorem refLengths_any (w : World) :
    Calls Try.prog 61 #[] w fun e w' => ∃ g, e = .returned (.slice (some ⟨g, 0, none⟩) 257 257) ∧ w'.rowIs g 3 257 intF ∧ Below w.heap.size w w' := by
  have hr := ia_row w
  go_enter Try.func61, Try.ntmps61
  go_wp2_with (with_reducible refine wpList_buildSlice (v := .slice (some ⟨w.heap.size, 0, none⟩) 257 257) (w' := w.alloc (.cells IA 3)) (by kernel_rfl) ?_)
  go_ret
  exact ⟨w.heap.size, rfl, hr, (Below.refl _ _).alloc (Nat.le_refl _) _⟩

end Go.Proofs.Ytejkbibahbcofaa
