/-
  An object whose fields are one cell each, behind a pointer, as a word.
-/
import Derived.Test.YtcakppdabolfiaaWb
namespace Go.Proofs.Ytcakppdabolfiaa
open Go.RowKit
set_option linter.unusedVariables false

/-- A block q of n cells. -/
def Rec (q : Nat) (ty : TypeId) (n : Nat) (F : Nat → Value) : Wx := fun w S => w.rowIs q ty n F ∧ ∀ k, S k ↔ k = q
section
variable {q n : Nat} {ty : TypeId} {F F' : Nat → Value} {w w' : World} {S : Nat → Prop}
theorem Wd.rc (q : Nat) (ty : TypeId) (n : Nat) (F : Nat → Value) : Wd (Rec q ty n F) := by
  constructor
  · rintro w S ⟨h1, h2⟩ k hk
    rw [(h2 k).1 hk]
    exact h1.lt
  · rintro w w' S ⟨h1, h2⟩ hs hb
    exact ⟨h1.of_block (hb q ((h2 q).2 rfl)), h2⟩
theorem Rec.cell (h : Rec q ty n F w S) (i : Nat) (hi : i < n) : w.cell? ⟨q, i, none⟩ = some (F i) := h.1.cell hi
theorem Rec.frozen (h : Rec q ty n F w S) (i : Nat) : w.frozen? ⟨q, i, none⟩ = false := h.1.frozen i
/-- A store into one of its cells. -/
theorem Rec.set (h : Rec q ty n F w S) (i : Nat) (v : Value) (F' : Nat → Value) (hF : ∀ j, j < n → (if j = i then v else F j) = F' j) : Rec q ty n F' (w.setCell ⟨q, i, none⟩ v) S := ⟨(h.1.set i v).congr hF, h.2⟩
theorem Rec.fp (h : Rec q ty n F w S) (i : Nat) (v : Value) : Fp S w (w.setCell ⟨q, i, none⟩ v) := Fp.set _ _ _ _ ((h.2 q).2 rfl)
theorem Rec.same (h : Rec q ty n F w S) (hF : ∀ j, j < n → F j = F' j) : Rec q ty n F' w S := ⟨h.1.congr hF, h.2⟩
theorem Rec.put (h : Rec q ty n F w S) (i : Nat) (v : Value) (F' : Nat → Value) (hF : ∀ j, j < n → (if j = i then v else F j) = F' j) : Turn (Rec q ty n F') S w (w.setCell ⟨q, i, none⟩ v) := ⟨S, h.set i v F' hF, fun k hk => .inl hk, h.fp i v⟩
theorem Rec.stay (h : Rec q ty n F w S) (hb : Below w.heap.size w w') : Turn (Rec q ty n F) S w w' := (Wd.rc q ty n F).turned h hb
theorem Rec.new (w : World) (c : Array Value) (ty : TypeId) (F : Nat → Value) (hc : ∀ i, i < c.size → c[i]? = some (F i)) : Rec w.heap.size ty c.size F (w.alloc (.cells c ty)) (fun k => k = w.heap.size) :=
  ⟨World.rowIs_alloc w c ty F hc, fun k => Iff.rfl⟩
theorem Rec.made (w : World) (c : Array Value) (ty : TypeId) (F : Nat → Value) (hc : ∀ i, i < c.size → c[i]? = some (F i)) : Up w.heap.size (Rec w.heap.size ty c.size F) (w.alloc (.cells c ty)) :=
  ⟨_, Rec.new w c ty F hc, fun k hk => Nat.le_of_eq hk.symm⟩
end
end Go.Proofs.Ytcakppdabolfiaa
