/-
  What is no row of bytes stands, whatever is appended to a row of bytes.
-/
import Derived.Test.YtcakppdabolfiaaOwB
namespace Go.Proofs.Ytcakppdabolfiaa
open Go.RowKit
set_option linter.unusedVariables false

/-- Blocks that are no rows of bytes stand. -/
def NonB (w w' : World) : Prop := ∀ (k : Nat) (o : Obj), w.heap[k]? = some o → (∀ (c : Array Value) (z : Nat × Nat), o ≠ Obj.cells c 5 z) → w'.heap[k]? = some o
theorem NonB.refl (w : World) : NonB w w := fun _ _ h _ => h
theorem NonB.trans {a b c : World} (h : NonB a b) (k : NonB b c) : NonB a c := fun i o hi ho => k i o (h i o hi ho) ho
theorem NonB.of_below {w w' : World} (h : Below w.heap.size w w') : NonB w w' := fun k o hk _ => by rw [h.block k (Array.getElem?_eq_some_iff.1 hk).1]; exact hk
theorem NonB.alloc (w : World) (o : Obj) : NonB w (w.alloc o) := NonB.of_below ((Below.refl _ _).alloc (Nat.le_refl _) o)
theorem NonB.drew (w : World) : NonB w w.drew := NonB.of_below (Below.refl _ _).drew
theorem OwB.nonB {w w' : World} {B : Nat} {v : Value} {l : List UInt8} (h : OwB w B v l) (hg : w.grownBy w' v.ownBlock) : NonB w w' := fun k o hk ho => by
  rw [hg.block k (Array.getElem?_eq_some_iff.1 hk).1 (fun e => ?_)]
  · exact hk
  · rcases h.2 with ⟨rfl, _⟩ | ⟨g, cap, cur, rfl, _, hh, _⟩
    · simp [Value.ownBlock] at e
    · simp only [Value.ownBlock, Option.some.injEq] at e
      subst e
      rw [hk] at hh
      injection hh with hh
      exact ho _ _ hh
theorem NonB.fb {w w' : World} (h : NonB w w') {g : Nat} {cs : Array Value} {t : TypeId} {z : Nat × Nat} (hf : w.heap[g]? = some (.cells cs t z)) (ht : t ≠ 5) : w'.heap[g]? = some (.cells cs t z) :=
  h g _ hf fun c z e => by injection e with _ e2 _; exact ht e2

end Go.Proofs.Ytcakppdabolfiaa
