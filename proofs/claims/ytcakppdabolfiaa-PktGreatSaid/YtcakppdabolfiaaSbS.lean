/-
  A store of a whole struct or array, as a step of a region that draws its order.
-/
import Derived.Test.YtcakppdabolfiaaSbW
namespace Go.Proofs.Ytcakppdabolfiaa
open Go.RowKit
set_option linter.unusedVariables false

section
variable {P : Program} {ops : Array Oper} {o : Oper} {a : Act} {w : World} {K : Act → World → Prop} {Q : Exit → Act → World → Prop} {E : Prop}
/-- A store of the whole, as a step of a region that draws its order. -/
theorem step_storeS (hgd : o.guard = none) (ty : TypeId) (x y : Operand) (ho : o.op = .store ty x y) (t : TypeId) (g : Nat) (old cs : Array Value)
    (hx : a.eval x = .pointer (some ⟨g, 0, none⟩)) (hy : a.eval y = .agg cs) (hs : Sb t w g old) (hi : (P.info? ty).map (·.size) = some cs.size) (hos : old.size = cs.size) (h1 : cs.all (·.oneCell') = true)
    (h : ∀ w2, Sb t w2 g cs → w.grownBy w2 (some g) → K (a.put o.dst undef) w2) : if Region.wanted o (yielded ops a.tmps) = true then Oper.wp P o a w K Q else E := by
  rw [if_pos (by simp [Region.wanted, hgd])]
  have hr := run_storeVar_row (P := P) w g t ty old cs hs hi hos h1
  unfold Oper.wp execOp
  simp only [ho, hx, hy, Instr.storeAt, Instr.sureAddr, Sem.run_bind, Sem.run_pure, Result.andThen_ok]
  rw [hr]
  exact h _ (setRow_heap w g _ _ t (0, 0) hs) (grownS_setRow w g _)
end
end Go.Proofs.Ytcakppdabolfiaa
