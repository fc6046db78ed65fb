/-
  HTTP/2's frames.
-/
import Derived.Test.YtcakppdabolfiaaRowO
import Derived.Test.YtcakppdabolfiaaProg
import Derived.Test.YtcakppdabolfiaaOpenB
namespace Go.Proofs.Ytcakppdabolfiaa
open Go.RowKit Go.ChangeShapes Go.WideShapes Go.Deep
set_option linter.unusedVariables false

structure Frm where
  ty : Nat
  fl : Nat
  st : Nat
  raw : Value
  rawb : List UInt8
instance : Inhabited Frm := ⟨⟨0, 0, 0, .slice none 0 0, []⟩⟩
def frvl (a : Frm) : List Value := [.int .u8 (a.ty : Int), .int .u8 (a.fl : Int), .int .u32 (a.st : Int), a.raw]
theorem frvl_len : ∀ a, (frvl a).length = 4 := fun _ => rfl
/-- Its numbers fit. -/
def frOk (a : Frm) : Prop := a.ty < 256 ∧ a.fl < 256 ∧ a.st < 4294967296
/-- Its bytes. -/
def frBs (w : World) (a : Frm) : Prop := Bs w a.raw a.rawb
section
variable {H : Type} {enc : TypeId × Value → H} {w : World} {base : Nat} {held : Bool}
theorem frCells_bytes : Try.prog.cellsOf 36 = 1 := by kernel_rfl
theorem frCells_u32 : Try.prog.cellsOf 28 = 1 := by kernel_rfl
theorem frCells_u8 : Try.prog.cellsOf 5 = 1 := by kernel_rfl
theorem frRaw {fuel : Nat} {c : Value} {x : DataW H × List MemPlace} (h : DataW.trod enc Try.prog w base (fun _ => true) held fuel 36 [c] = some x) : ∃ l : List UInt8, Bs w c l := by
  rcases open_ints Try.underlying36 Try.underlying5 (by kernel_rfl) h with ⟨hcs, _⟩ | ⟨x, l, c2, zs, hcs, _, hl, hm, hz, _, hcell, hwz⟩
  · injection hcs with hcs
    subst hcs
    exact ⟨[], Rd.nil w⟩
  · injection hcs with hcs
    subst hcs
    obtain ⟨l, h1, _⟩ := IsRow.bytes (w := w) (a := some x) (len := l) (cap := c2) (zs := zs) (.inr ⟨_, rfl, hl, hm, by simpa using hz, hcell, hwz⟩)
    exact ⟨l, h1⟩
end
end Go.Proofs.Ytcakppdabolfiaa
