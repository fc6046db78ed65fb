/-
  Settings, by number.
-/
import Derived.Test.YtenoaljghbpaaaaRowO
import Derived.Test.YtenoaljghbpaaaaProg
namespace Go.Proofs.Ytenoaljghbpaaaa
open Go.RowKit Go.ChangeShapes Go.WideShapes Go.Deep
set_option linter.unusedVariables false

structure Stg where
  id : Nat
  val : Nat
instance : Inhabited Stg := ⟨⟨0, 0⟩⟩
def sgvl (a : Stg) : List Value := [.int .u64 (a.id : Int), .int .u64 (a.val : Int)]
theorem sgvl_len : ∀ a, (sgvl a).length = 2 := fun _ => rfl
/-- Its numbers fit. -/
def sgOk (a : Stg) : Prop := a.id < 18446744073709551616 ∧ a.val < 18446744073709551616
section
variable {H : Type} {enc : TypeId × Value → H} {w : World} {base : Nat} {held : Bool}
theorem sgCells : Try.prog.cellsOf 63 = 2 := by kernel_rfl
theorem sgCells_u64 : Try.prog.cellsOf 45 = 1 := by kernel_rfl
set_option maxRecDepth 100000 in
theorem sg_one : Comes Try.prog w base (fun _ => true) held enc 63 sgvl (H := H) (fun _ a _ => sgOk a) := by
  intro fuel cs x h
  obtain ⟨xs, n, _, hx, hl, hlen, hf⟩ := DataW.trod_struct Try.underlying63 h
  rw [sgCells] at hl
  match cs, hl with
  | [c0, c1], _ =>
    have e0 := hf 0 _ rfl
    have e1 := hf 1 _ rfl
    change DataW.trod enc Try.prog w base (fun _ => true) held n 45 (([c0, c1].drop 0).take (Try.prog.cellsOf 45)) = xs[0]? at e0
    change DataW.trod enc Try.prog w base (fun _ => true) held n 45 (([c0, c1].drop 1).take (Try.prog.cellsOf 45)) = xs[1]? at e1
    rw [sgCells_u64] at e0
    rw [sgCells_u64] at e1
    match xs, hlen with
    | [y0, y1], _ =>
      obtain ⟨n0, h0, d0, w0⟩ := DataW.trod_int Try.underlying45 e0
      obtain ⟨k0, rfl, g0⟩ := u64W w0
      obtain ⟨n1, h1, d1, w1⟩ := DataW.trod_int Try.underlying45 e1
      obtain ⟨k1, rfl, g1⟩ := u64W w1
      simp at h0 h1
      subst h0 h1
      exact ⟨⟨k0, k1⟩, rfl, ⟨g0, g1⟩⟩
/-- A slice of these that came in. -/
theorem sgs_came {fuel : Nat} {cs : List Value} {x : DataW H × List MemPlace} (h : DataW.trod enc Try.prog w base (fun _ => true) held fuel 48 cs = some x) :
    ∃ (v : Value) (l : List Stg), cs = [v] ∧ Rows 2 sgvl w v l ∧ ∀ a ∈ l, sgOk a := by
  obtain ⟨v, l, hv, hl, hg⟩ := rows_came Try.underlying48 sgCells (by decide) sgvl_len sg_one h
  exact ⟨v, l, hv, hl, fun a ha => by obtain ⟨d, h, _⟩ := hg a ha; exact h⟩
/-- One that came in by value. -/
theorem sg_val {cs : Array Value} {d : DataW H} {q : List MemPlace} (h : DataW.Trod enc Try.prog w base (fun _ => true) held 63 (.agg cs) d q) : ∃ a : Stg, cs = (sgvl a).toArray ∧ sgOk a := by
  exact val_came sg_one h
end
theorem sgs_size : ∀ W : World, (sizeOf 63).run Try.prog W = .ok 2 W := fun W => by kernel_rfl
theorem sgs_len {w : World} {v : Value} {l : List Stg} (h : Rows 2 sgvl w v l) (tr : TypeId) (W : World) : (Builtin.len_ #[48] tr #[v]).run Try.prog W = .ok (.int .i64 (l.length : Int)) W := h.len_ Try.underlying48 tr W
/-- An element, by an index of the kind q. -/
theorem sgs_at {w : World} {v : Value} {l : List Stg} (h : Rows 2 sgvl w v l) (i : Nat) (hi : i < l.length) :
    ∃ b o : Nat, (∀ (q : IntKind) (W : World), (Instr.indexAt 48 v (.int q (i : Int))).run Try.prog W = .ok (.pointer (some ⟨b, o, none⟩)) W) ∧
      ∀ W : World, Rows 2 sgvl W v l → W.cell? ⟨b, o, none⟩ = some (.int .u64 (l[i].id : Int)) ∧ W.cell? ⟨b, o + 1, none⟩ = some (.int .u64 (l[i].val : Int)) := by
  obtain ⟨b, o, h1, h2⟩ := Rows.at_ Try.underlying48 sgs_size (by decide) sgvl_len h i hi
  exact ⟨b, o, h1, fun W hW => ⟨h2 W hW 0 _ rfl, h2 W hW 1 _ rfl⟩⟩
end Go.Proofs.Ytenoaljghbpaaaa
