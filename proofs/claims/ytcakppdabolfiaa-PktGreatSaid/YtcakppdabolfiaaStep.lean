/-
  One operation whose run is known, as a step of the walk. No program is named here.
-/
import Derived.WalkKit
import Derived.WalkSpells
namespace Go.Proofs.Ytcakppdabolfiaa
open Go.RowKit
set_option linter.unusedVariables false

/-- A fact that the walk does not use by itself. -/
structure Bx (p : Prop) : Prop where
  out : p

variable {P : Program} {ops : Array Oper} {Q : Exit → Act → World → Prop} {a : Act} {w : World} {rest : List Oper} {o : Oper}

theorem wpList_gives (hg : o.guard = none) {v : Value} {w' : World} (hrun : (execOp a.eval o).run P w = .ok (.value v) w') (h : wpList P ops Q rest (a.put o.dst v) w') : wpList P ops Q (o :: rest) a w :=
  wpList_plain hg fun K hK => by
    unfold Oper.wp
    rw [hrun]
    exact hK _ _ h
theorem wpList_does (hg : o.guard = none) {w' : World} (hrun : (execOp a.eval o).run P w = .ok .skip w') (h : wpList P ops Q rest (a.put o.dst undef) w') : wpList P ops Q (o :: rest) a w :=
  wpList_plain hg fun K hK => by
    unfold Oper.wp
    rw [hrun]
    exact hK _ _ h

/-- A struct or an array out of its parts, whose value is known. -/
theorem wpList_build {d : Option Tmp} {t ty : TypeId} {parts : Array (Nat × Operand)} {pos : String} {af : Array Edge} {v : Value}
    (hrun : (Instr.build t (parts.map fun (i, x) => (i, a.eval x))).run P w = .ok v w) (h : wpList P ops Q rest (a.put d v) w) : wpList P ops Q (⟨d, .build t parts, ty, pos, af, none⟩ :: rest) a w :=
  wpList_gives rfl (by simp only [execOp, Sem.run_bind]; rw [hrun]; rfl) h
theorem wpList_buildSlice {d : Option Tmp} {t ty : TypeId} {n : Nat} {parts : Array (Nat × Operand)} {pos : String} {af : Array Edge} {v : Value} {w' : World}
    (hrun : (Instr.buildSlice t n (parts.map fun (i, x) => (i, a.eval x))).run P w = .ok v w') (h : wpList P ops Q rest (a.put d v) w') : wpList P ops Q (⟨d, .buildSlice t n parts, ty, pos, af, none⟩ :: rest) a w :=
  wpList_gives rfl (by simp only [execOp, Sem.run_bind]; rw [hrun]; rfl) h
theorem wpList_load {d : Option Tmp} {t ty : TypeId} {x : Operand} {pos : String} {af : Array Edge} {v : Value}
    (hrun : (Instr.loadAt t (a.eval x)).run P w = .ok v w) (h : wpList P ops Q rest (a.put d v) w) : wpList P ops Q (⟨d, .load t x, ty, pos, af, none⟩ :: rest) a w :=
  wpList_gives rfl (by simp only [execOp, Sem.run_bind]; rw [hrun]; rfl) h
/-- A struct or an array boxed: its block and the world are new names. -/
theorem wpList_boxAgg {d : Option Tmp} {t ty : TypeId} {x : Operand} {pos : String} {af : Array Edge} {cs : Array Value}
    (hx : a.eval x = .agg cs) (h : ∀ w2 g, w2 = w.alloc (.cells cs t) → g = w.heap.size → wpList P ops Q rest (a.put d (.pointer (some ⟨g, 0, none⟩))) w2) : wpList P ops Q (⟨d, .box t x, ty, pos, af, none⟩ :: rest) a w :=
  wpList_gives rfl (v := .pointer (some ⟨w.heap.size, 0, none⟩)) (w' := w.alloc (.cells cs t)) (by simp only [execOp]; rw [hx]; simp [Instr.box, newVar, newRow, Value.cells, go_sem]) (h _ _ rfl rfl)
/-- A new variable whose type's zero value is known. -/
theorem wpList_allocAgg {d : Option Tmp} {t ty : TypeId} {pos : String} {af : Array Edge} {cs : Array Value}
    (hz : (zeroValue t).run P w = .ok (.agg cs) w) (h : ∀ w2 g, w2 = w.alloc (.cells cs t) → g = w.heap.size → wpList P ops Q rest (a.put d (.pointer (some ⟨g, 0, none⟩))) w2) : wpList P ops Q (⟨d, .alloc t, ty, pos, af, none⟩ :: rest) a w :=
  wpList_gives rfl (v := .pointer (some ⟨w.heap.size, 0, none⟩)) (w' := w.alloc (.cells cs t)) (by simp [execOp, Instr.alloc, hz, newVar, newRow, Value.cells, go_sem]) (h _ _ rfl rfl)
theorem parts1 {a : Act} {i : Nat} {x : Operand} {v : Value} (hx : a.eval x = v) : (#[(i, x)] : Array (Nat × Operand)).map (fun (i, x) => (i, a.eval x)) = #[(i, v)] := by subst hx; simp
theorem wpList_indexAddr {d : Option Tmp} {t ty : TypeId} {x ix : Operand} {pos : String} {af : Array Edge} {v : Value}
    (hrun : (Instr.indexAt t (a.eval x) (a.eval ix)).run P w = .ok v w) (h : wpList P ops Q rest (a.put d v) w) : wpList P ops Q (⟨d, .indexAddr t x ix, ty, pos, af, none⟩ :: rest) a w :=
  wpList_gives rfl (by simp only [execOp, Sem.run_bind]; rw [hrun]; rfl) h
theorem wpList_makeRun {d : Option Tmp} {t ty : TypeId} {l c : Operand} {pos : String} {af : Array Edge} {v : Value} {w' : World}
    (hrun : (Instr.makeSlice t (a.eval l) (a.eval c)).run P w = .ok v w') (h : wpList P ops Q rest (a.put d v) w') : wpList P ops Q (⟨d, .makeSlice t l c, ty, pos, af, none⟩ :: rest) a w :=
  wpList_gives rfl (by simp only [execOp, Sem.run_bind]; rw [hrun]; rfl) h
end Go.Proofs.Ytcakppdabolfiaa
