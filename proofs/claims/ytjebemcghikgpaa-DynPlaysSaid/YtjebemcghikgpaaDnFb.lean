/-
  A block that holds one field: made, read, stored into; what a call hands back out of one.
-/
import Derived.Test.YtjebemcghikgpaaDnFds
import Derived.Laws.Tables
import Derived.Laws.Rows
import Derived.Laws.ResultCell
import Derived.Deep.WholeRow
namespace Go.Proofs.Ytjebemcghikgpaa
open Go.RowKit
set_option linter.unusedVariables false

def emp : Fd := (⟨#[]⟩, ⟨#[]⟩)
def aggF (f : Fd) : Value := .agg #[.string f.1, .string f.2]
/-- Block g holds the field f. -/
def Fb (t : TypeId) (w : World) (g : Nat) (f : Fd) : Prop := w.heap[g]? = some (.cells #[.string f.1, .string f.2] t (0, 0))

theorem Fb.new (t : TypeId) (w : World) (f : Fd) : Fb t (w.alloc (.cells #[.string f.1, .string f.2] t)) w.heap.size f := heap_alloc_last w _
theorem Fb.newg (t : TypeId) (w : World) (g : Nat) (hg : w.heap.size = g) (f : Fd) : Fb t (w.alloc (.cells #[.string f.1, .string f.2] t)) g f := by subst hg; exact Fb.new t w f
theorem Fb.lt {t : TypeId} {w : World} {g : Nat} {f : Fd} (h : Fb t w g f) : g < w.heap.size := (Array.getElem?_eq_some_iff.1 h).1
theorem Fb.below {t : TypeId} {w w' : World} {g B : Nat} {f : Fd} (h : Fb t w g f) (hb : Below B w w') (hg : g < B) : Fb t w' g f := by
  unfold Fb; rw [hb.block g hg]; exact h
theorem Fb.keep {t : TypeId} {w w' : World} {g : Nat} {f : Fd} (h : Fb t w g f) (hb : Below w.heap.size w w') : Fb t w' g f := h.below hb h.lt
theorem Fb.alloc {t : TypeId} {w : World} {g : Nat} {f : Fd} (h : Fb t w g f) (o : Obj) : Fb t (w.alloc o) g f := h.keep ((Below.refl _ _).alloc (Nat.le_refl _) o)
theorem Fb.grown {t : TypeId} {w w' : World} {g : Nat} {f : Fd} {row : Option Nat} (h : Fb t w g f) (hb : w.grownBy w' row) (hg : some g ≠ row) : Fb t w' g f := by
  unfold Fb; rw [hb.block g h.lt hg]; exact h
theorem Fb.cells {t : TypeId} {w : World} {g : Nat} {f : Fd} (h : Fb t w g f) : w.cell? ⟨g, 0, none⟩ = some (.string f.1) ∧ w.cell? ⟨g, 1, none⟩ = some (.string f.2) := by
  unfold Fb at h
  constructor
  · simp [World.cell?, h]
  · simp [World.cell?, h]
theorem Fb.free {t : TypeId} {w : World} {g : Nat} {f : Fd} (h : Fb t w g f) : w.frozen? ⟨g, 0, none⟩ = false ∧ w.frozen? ⟨g, 1, none⟩ = false := by
  unfold Fb at h
  constructor
  · simp [World.frozen?, h]
  · simp [World.frozen?, h]

theorem fieldSize : (Try.prog.info? 24).map (·.size) = some 2 := by kernel_rfl

theorem grown_setRow (w : World) (g : Nat) (cs : Array Value) : w.grownBy (w.setRow g cs) (some g) :=
  ⟨rfl, rfl, rfl, by simp, fun k _ hne => setRow_other w g k cs (fun e => hne (by rw [e]))⟩

section
variable {ops : Array Oper} {Q : Exit → Act → World → Prop} {a : Act} {w : World} {rest : List Oper}

/-- A store of a whole field into its block. -/
theorem wpList_storeF {x y : Operand} {ty : TypeId} {pos : String} {af : Array Edge} (t : TypeId) (g : Nat) (old f : Fd)
    (hx : a.eval x = .pointer (some ⟨g, 0, none⟩)) (hy : a.eval y = .agg #[.string f.1, .string f.2]) (hfb : Fb t w g old)
    (h : ∀ w2, Fb t w2 g f → w.grownBy w2 (some g) → wpList Try.prog ops Q rest (a.put none undef) w2) :
    wpList Try.prog ops Q (⟨none, .store 24 x y, ty, pos, af, none⟩ :: rest) a w :=
  wpList_store_row rfl 24 x y rfl g #[.string f.1, .string f.2] hx hy t _ hfb fieldSize rfl (by simp [Value.oneCell']) (h _ (setRow_heap w g _ _ t (0, 0) hfb) (grown_setRow w g _))

/-- A load of a whole field. -/
theorem wpList_loadF {x : Operand} {d : Option Tmp} {ty : TypeId} {pos : String} {af : Array Edge} (t : TypeId) (g : Nat) (f : Fd)
    (hx : a.eval x = .pointer (some ⟨g, 0, none⟩)) (hfb : Fb t w g f)
    (h : wpList Try.prog ops Q rest (a.put d (.agg #[.string f.1, .string f.2])) w) :
    wpList Try.prog ops Q (⟨d, .load 24 x, ty, pos, af, none⟩ :: rest) a w :=
  wpList_load_row rfl 24 x rfl g hx t _ (0, 0) _ hfb Try.underlying24 rfl fieldSize h
end

theorem results_row_tmp {P : Program} {fn : Func} {p u : Tmp} {ty : TypeId} (h : fn.results = #[.cell p ty, .tmp u]) (tmps : Array Value) (w : World) (g : Nat) (t : TypeId) (cs : Array Value) (fr : Nat × Nat) (d : TypeDesc)
    (hp : tmps.getD p undef = .pointer (some ⟨g, 0, none⟩)) (hg : w.heap[g]? = some (.cells cs t fr))
    (hu : P.underlying ty = some d) (hd : (match d with | .struct _ | .array _ _ => true | _ => false) = true) (hi : (P.info? ty).map (·.size) = some cs.size) :
    (results fn tmps).run P w = .ok (.tuple #[.agg cs, tmps.getD u undef]) w := by
  rw [results_cell_tmp h, hp]
  simp [asAddr, run_loadVar_row w g t ty cs fr d hg hu hd hi]

/-- What a call hands back that ends with a field in a cell of its own, and a bool. -/
theorem ret_field {fn : Func} {p u : Tmp} (h : fn.results = #[.cell p 24, .tmp u]) (tmps : Array Value) (w : World) (g : Nat) (f : Fd) (b : Bool)
    (hp : tmps.getD p undef = .pointer (some ⟨g, 0, none⟩)) (hu : tmps.getD u undef = .bool b) (h0 : Fb 24 w g f) :
    (results fn tmps).run Try.prog w = .ok (.tuple #[aggF f, .bool b]) w := by
  rw [results_row_tmp h tmps _ g 24 #[.string f.1, .string f.2] (0, 0) _ hp h0 Try.underlying24 rfl fieldSize, hu]
  rfl

end Go.Proofs.Ytjebemcghikgpaa
