/-
  A block that holds one struct or array, whatever its type: made, read, stored into, whole or a cell; what a call hands back out of one. No type is named here.
-/
import Derived.Test.YtcakppdabolfiaaFpB
import Derived.Test.YtcakppdabolfiaaStep
import Derived.Laws.Tables
import Derived.Laws.Rows
import Derived.Laws.ResultCell
import Derived.Deep.WholeRow
namespace Go.Proofs.Ytcakppdabolfiaa
open Go.RowKit
set_option linter.unusedVariables false

/-- Block g holds these cells. -/
def Sb (t : TypeId) (w : World) (g : Nat) (cs : Array Value) : Prop := w.heap[g]? = some (.cells cs t (0, 0))
section
variable {t : TypeId} {w w' : World} {g : Nat} {cs : Array Value}
theorem Sb.new (t : TypeId) (w : World) (cs : Array Value) : Sb t (w.alloc (.cells cs t)) w.heap.size cs := heap_alloc_last w _
theorem Sb.newg (t : TypeId) (w : World) (g : Nat) (hg : w.heap.size = g) (cs : Array Value) : Sb t (w.alloc (.cells cs t)) g cs := by subst hg; exact Sb.new t w cs
theorem Sb.lt (h : Sb t w g cs) : g < w.heap.size := (Array.getElem?_eq_some_iff.1 h).1
theorem Sb.keep (h : Sb t w g cs) (hb : Below w.heap.size w w') : Sb t w' g cs := by unfold Sb; rw [hb.block g h.lt]; exact h
theorem Sb.alloc (h : Sb t w g cs) (o : Obj) : Sb t (w.alloc o) g cs := h.keep ((Below.refl _ _).alloc (Nat.le_refl _) o)
theorem Sb.below {B : Nat} (h : Sb t w g cs) (hb : Below B w w') (hg : g < B) : Sb t w' g cs := by unfold Sb; rw [hb.block g hg]; exact h
theorem Sb.grown {row : Option Nat} (h : Sb t w g cs) (hb : w.grownBy w' row) (hg : some g ≠ row) : Sb t w' g cs := by unfold Sb; rw [hb.block g h.lt hg]; exact h
theorem Sb.fp {S : Nat → Prop} (h : Sb t w g cs) (hf : Fp S w w') (hg : ¬ S g) : Sb t w' g cs := by unfold Sb; rw [hf.block g h.lt hg]; exact h
theorem Sb.cell (h : Sb t w g cs) (i : Nat) : w.cell? ⟨g, i, none⟩ = cs[i]? := by unfold Sb at h; simp [World.cell?, h]
theorem Sb.free (h : Sb t w g cs) (i : Nat) : w.frozen? ⟨g, i, none⟩ = false := by unfold Sb at h; simp [World.frozen?, h]
theorem Sb.set (h : Sb t w g cs) (i : Nat) (v : Value) (hi : i < cs.size) : Sb t (w.setCell ⟨g, i, none⟩ v) g (cs.set i v hi) := by
  unfold Sb at *
  have hm : ((w.heap.modify g fun x => match x with | Obj.cells c elem frozen => Obj.cells (c.setIfInBounds i v) elem frozen | o => o))[g]? = some (.cells (cs.set i v hi) t (0, 0)) := by
    rw [Array.getElem?_modify, if_pos rfl, h]
    simp [Array.setIfInBounds, hi]
  exact hm
theorem Sb.fpset (i : Nat) (v : Value) (S : Nat → Prop) (hS : S g) : Fp S w (w.setCell ⟨g, i, none⟩ v) := Fp.set S w ⟨g, i, none⟩ v hS
end
theorem grownS_setRow (w : World) (g : Nat) (cs : Array Value) : w.grownBy (w.setRow g cs) (some g) :=
  ⟨rfl, rfl, rfl, by simp, fun k _ hne => setRow_other w g k cs (fun e => hne (by rw [e]))⟩
section
variable {P : Program} {ops : Array Oper} {Q : Exit → Act → World → Prop} {a : Act} {w : World} {rest : List Oper}
/-- A store of the whole. -/
theorem wpList_storeS {x y : Operand} {ty tr : TypeId} {pos : String} {af : Array Edge} (t : TypeId) (g : Nat) (old cs : Array Value)
    (hx : a.eval x = .pointer (some ⟨g, 0, none⟩)) (hy : a.eval y = .agg cs) (hs : Sb t w g old) (hi : (P.info? ty).map (·.size) = some cs.size) (ho : old.size = cs.size) (h1 : cs.all (·.oneCell') = true)
    (h : ∀ w2, Sb t w2 g cs → w.grownBy w2 (some g) → wpList P ops Q rest (a.put none undef) w2) :
    wpList P ops Q (⟨none, .store ty x y, tr, pos, af, none⟩ :: rest) a w :=
  wpList_store_row rfl ty x y rfl g cs hx hy t _ hs hi ho h1 (h _ (setRow_heap w g _ _ t (0, 0) hs) (grownS_setRow w g _))
/-- A load of the whole. -/
theorem wpList_loadS {x : Operand} {d : Option Tmp} {ty tr : TypeId} {pos : String} {af : Array Edge} (t : TypeId) (g : Nat) (cs : Array Value) (D : TypeDesc)
    (hx : a.eval x = .pointer (some ⟨g, 0, none⟩)) (hs : Sb t w g cs) (hu : P.underlying ty = some D) (hd : (match D with | .struct _ | .array _ _ => true | _ => false) = true) (hi : (P.info? ty).map (·.size) = some cs.size)
    (h : wpList P ops Q rest (a.put d (.agg cs)) w) : wpList P ops Q (⟨d, .load ty x, tr, pos, af, none⟩ :: rest) a w :=
  wpList_load_row rfl ty x rfl g hx t _ (0, 0) _ hs hu hd hi h
end
section
variable {P : Program} {fn : Func} {p u u2 : Tmp} {ty : TypeId}
/-- What a call hands back that ends with a struct in a cell of its own, and one value more. -/
theorem ret_S (h : fn.results = #[.cell p ty, .tmp u]) (tmps : Array Value) (w : World) (g : Nat) (t : TypeId) (cs : Array Value) (v : Value) (d : TypeDesc)
    (hp : tmps.getD p undef = .pointer (some ⟨g, 0, none⟩)) (hv : tmps.getD u undef = v) (hg : Sb t w g cs)
    (hu : P.underlying ty = some d) (hd : (match d with | .struct _ | .array _ _ => true | _ => false) = true) (hi : (P.info? ty).map (·.size) = some cs.size) :
    (results fn tmps).run P w = .ok (.tuple #[.agg cs, v]) w := by
  rw [results_cell_tmp h, hp, hv]
  simp [asAddr, run_loadVar_row w g t ty cs (0, 0) d hg hu hd hi]
theorem ret_S1 (h : fn.results = #[.cell p ty]) (tmps : Array Value) (w : World) (g : Nat) (t : TypeId) (cs : Array Value) (d : TypeDesc)
    (hp : tmps.getD p undef = .pointer (some ⟨g, 0, none⟩)) (hg : Sb t w g cs)
    (hu : P.underlying ty = some d) (hd : (match d with | .struct _ | .array _ _ => true | _ => false) = true) (hi : (P.info? ty).map (·.size) = some cs.size) :
    (results fn tmps).run P w = .ok (.agg cs) w := results_cell_row h tmps w g t cs (0, 0) d hp hg hu hd hi
theorem ret_S3 (h : fn.results = #[.cell p ty, .tmp u, .tmp u2]) (tmps : Array Value) (w : World) (g : Nat) (t : TypeId) (cs : Array Value) (v v2 : Value) (d : TypeDesc)
    (hp : tmps.getD p undef = .pointer (some ⟨g, 0, none⟩)) (hv : tmps.getD u undef = v) (hv2 : tmps.getD u2 undef = v2) (hg : Sb t w g cs)
    (hu : P.underlying ty = some d) (hd : (match d with | .struct _ | .array _ _ => true | _ => false) = true) (hi : (P.info? ty).map (·.size) = some cs.size) :
    (results fn tmps).run P w = .ok (.tuple #[.agg cs, v, v2]) w := by
  subst hv hv2
  have hp' : tmps[p]?.getD undef = .pointer (some ⟨g, 0, none⟩) := by simpa using hp
  simp [results, h, hp', asAddr, run_loadVar_row w g t ty cs (0, 0) d hg hu hd hi]
end
end Go.Proofs.Ytcakppdabolfiaa
