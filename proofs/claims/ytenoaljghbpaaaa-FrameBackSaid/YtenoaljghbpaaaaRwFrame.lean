/-
  HTTP/2's frames.
-/
import Derived.Test.YtenoaljghbpaaaaRowO
import Derived.Test.YtenoaljghbpaaaaProg
import Derived.Test.YtenoaljghbpaaaaOpenB
namespace Go.Proofs.Ytenoaljghbpaaaa
open Go.RowKit Go.ChangeShapes Go.WideShapes Go.Deep
set_option linter.unusedVariables false

structure Frm where
  ty : Nat
  fl : Nat
  st : Nat
  raw : Value
  rawb : List UInt8
instance : Inhabited Frm := ⟨⟨0, 0, 0, .slice none 0 0, []⟩⟩
def frvl (a : Frm) : List Value := [.int .u8 (a.ty : Int), .int .u8 (a.fl : Int), .int .u32 (a.st : Int), a.raw]
theorem frvl_len : ∀ a, (frvl a).length = 4 := fun _ => rfl
/-- Its numbers fit. -/
def frOk (a : Frm) : Prop := a.ty < 256 ∧ a.fl < 256 ∧ a.st < 4294967296
/-- Its bytes. -/
def frBs (w : World) (a : Frm) : Prop := Bs w a.raw a.rawb
section
variable {H : Type} {enc : TypeId × Value → H} {w : World} {base : Nat} {held : Bool}
theorem frCells : Try.prog.cellsOf 28 = 4 := by kernel_rfl
theorem frCells_bytes : Try.prog.cellsOf 22 = 1 := by kernel_rfl
theorem frCells_u32 : Try.prog.cellsOf 26 = 1 := by kernel_rfl
theorem frCells_u8 : Try.prog.cellsOf 5 = 1 := by kernel_rfl
theorem frRaw {fuel : Nat} {c : Value} {x : DataW H × List MemPlace} (h : DataW.trod enc Try.prog w base (fun _ => true) held fuel 22 [c] = some x) : ∃ l : List UInt8, Bs w c l := by
  rcases open_ints Try.underlying22 Try.underlying5 (by kernel_rfl) h with ⟨hcs, _⟩ | ⟨x, l, c2, zs, hcs, _, hl, hm, hz, _, hcell, hwz⟩
  · injection hcs with hcs
    subst hcs
    exact ⟨[], Rd.nil w⟩
  · injection hcs with hcs
    subst hcs
    obtain ⟨l, h1, _⟩ := IsRow.bytes (w := w) (a := some x) (len := l) (cap := c2) (zs := zs) (.inr ⟨_, rfl, hl, hm, by simpa using hz, hcell, hwz⟩)
    exact ⟨l, h1⟩
set_option maxRecDepth 100000 in
theorem fr_one : Comes Try.prog w base (fun _ => true) held enc 28 frvl (H := H) (fun W a _ => frOk a ∧ frBs W a) := by
  intro fuel cs x h
  obtain ⟨xs, n, _, hx, hl, hlen, hf⟩ := DataW.trod_struct Try.underlying28 h
  rw [frCells] at hl
  match cs, hl with
  | [c0, c1, c2, c3], _ =>
    have e0 := hf 0 _ rfl
    have e1 := hf 1 _ rfl
    have e2 := hf 2 _ rfl
    have e3 := hf 3 _ rfl
    change DataW.trod enc Try.prog w base (fun _ => true) held n 5 (([c0, c1, c2, c3].drop 0).take (Try.prog.cellsOf 5)) = xs[0]? at e0
    change DataW.trod enc Try.prog w base (fun _ => true) held n 5 (([c0, c1, c2, c3].drop 1).take (Try.prog.cellsOf 5)) = xs[1]? at e1
    change DataW.trod enc Try.prog w base (fun _ => true) held n 26 (([c0, c1, c2, c3].drop 2).take (Try.prog.cellsOf 26)) = xs[2]? at e2
    change DataW.trod enc Try.prog w base (fun _ => true) held n 22 (([c0, c1, c2, c3].drop 3).take (Try.prog.cellsOf 22)) = xs[3]? at e3
    rw [frCells_u8] at e0
    rw [frCells_u8] at e1
    rw [frCells_u32] at e2
    rw [frCells_bytes] at e3
    match xs, hlen with
    | [y0, y1, y2, y3], _ =>
      obtain ⟨n0, h0, d0, w0⟩ := DataW.trod_int Try.underlying5 e0
      obtain ⟨k0, rfl, g0⟩ := u8W w0
      obtain ⟨n1, h1, d1, w1⟩ := DataW.trod_int Try.underlying5 e1
      obtain ⟨k1, rfl, g1⟩ := u8W w1
      obtain ⟨n2, h2, d2, w2⟩ := DataW.trod_int Try.underlying26 e2
      obtain ⟨k2, rfl, g2⟩ := u32W w2
      obtain ⟨l3, g3⟩ := frRaw e3
      simp at h0 h1 h2
      subst h0 h1 h2
      exact ⟨⟨k0, k1, k2, c3, l3⟩, rfl, ⟨⟨g0, g1, g2⟩, g3⟩⟩
/-- A slice of these that came in. -/
theorem frs_came {fuel : Nat} {cs : List Value} {x : DataW H × List MemPlace} (h : DataW.trod enc Try.prog w base (fun _ => true) held fuel 23 cs = some x) :
    ∃ (v : Value) (l : List Frm), cs = [v] ∧ Rows 4 frvl w v l ∧ ∀ a ∈ l, frOk a ∧ frBs w a := by
  obtain ⟨v, l, hv, hl, hg⟩ := rows_came Try.underlying23 frCells (by decide) frvl_len fr_one h
  exact ⟨v, l, hv, hl, fun a ha => by obtain ⟨d, h, _⟩ := hg a ha; exact h⟩
/-- One that came in by value. -/
theorem fr_val {cs : Array Value} {d : DataW H} {q : List MemPlace} (h : DataW.Trod enc Try.prog w base (fun _ => true) held 28 (.agg cs) d q) : ∃ a : Frm, cs = (frvl a).toArray ∧ frOk a ∧ frBs w a := by
  exact val_came fr_one h
end
theorem frs_size : ∀ W : World, (sizeOf 28).run Try.prog W = .ok 4 W := fun W => by kernel_rfl
theorem frs_len {w : World} {v : Value} {l : List Frm} (h : Rows 4 frvl w v l) (tr : TypeId) (W : World) : (Builtin.len_ #[23] tr #[v]).run Try.prog W = .ok (.int .i64 (l.length : Int)) W := h.len_ Try.underlying23 tr W
/-- An element, by an index of the kind q. -/
theorem frs_at {w : World} {v : Value} {l : List Frm} (h : Rows 4 frvl w v l) (i : Nat) (hi : i < l.length) :
    ∃ b o : Nat, (∀ (q : IntKind) (W : World), (Instr.indexAt 23 v (.int q (i : Int))).run Try.prog W = .ok (.pointer (some ⟨b, o, none⟩)) W) ∧
      ∀ W : World, Rows 4 frvl W v l → W.cell? ⟨b, o, none⟩ = some (.int .u8 (l[i].ty : Int)) ∧ W.cell? ⟨b, o + 1, none⟩ = some (.int .u8 (l[i].fl : Int)) ∧ W.cell? ⟨b, o + 2, none⟩ = some (.int .u32 (l[i].st : Int)) ∧ W.cell? ⟨b, o + 3, none⟩ = some (l[i].raw) := by
  obtain ⟨b, o, h1, h2⟩ := Rows.at_ Try.underlying23 frs_size (by decide) frvl_len h i hi
  exact ⟨b, o, h1, fun W hW => ⟨h2 W hW 0 _ rfl, h2 W hW 1 _ rfl, h2 W hW 2 _ rfl, h2 W hW 3 _ rfl⟩⟩
end Go.Proofs.Ytenoaljghbpaaaa
