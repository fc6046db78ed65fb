/-
  Steps of layer 14's scripts.
-/
import Derived.Test.YtenoaljghbpaaaaRowO
import Derived.Test.YtenoaljghbpaaaaProg
namespace Go.Proofs.Ytenoaljghbpaaaa
open Go.RowKit Go.ChangeShapes Go.WideShapes Go.Deep
set_option linter.unusedVariables false

structure WAct where
  wh : Nat
  n : Int
instance : Inhabited WAct := ⟨⟨0, 0⟩⟩
def wavl (a : WAct) : List Value := [.int .u8 (a.wh : Int), .int .i64 a.n]
theorem wavl_len : ∀ a, (wavl a).length = 2 := fun _ => rfl
/-- Its numbers fit. -/
def waOk (a : WAct) : Prop := a.wh < 256 ∧ (-9223372036854775808 ≤ a.n ∧ a.n ≤ 9223372036854775807)
section
variable {H : Type} {enc : TypeId × Value → H} {w : World} {base : Nat} {held : Bool}
theorem waCells : Try.prog.cellsOf 81 = 2 := by kernel_rfl
theorem waCells_i64 : Try.prog.cellsOf 2 = 1 := by kernel_rfl
theorem waCells_u8 : Try.prog.cellsOf 5 = 1 := by kernel_rfl
set_option maxRecDepth 100000 in
theorem wa_one : Comes Try.prog w base (fun _ => true) held enc 81 wavl (H := H) (fun _ a _ => waOk a) := by
  intro fuel cs x h
  obtain ⟨xs, n, _, hx, hl, hlen, hf⟩ := DataW.trod_struct Try.underlying81 h
  rw [waCells] at hl
  match cs, hl with
  | [c0, c1], _ =>
    have e0 := hf 0 _ rfl
    have e1 := hf 1 _ rfl
    change DataW.trod enc Try.prog w base (fun _ => true) held n 5 (([c0, c1].drop 0).take (Try.prog.cellsOf 5)) = xs[0]? at e0
    change DataW.trod enc Try.prog w base (fun _ => true) held n 2 (([c0, c1].drop 1).take (Try.prog.cellsOf 2)) = xs[1]? at e1
    rw [waCells_u8] at e0
    rw [waCells_i64] at e1
    match xs, hlen with
    | [y0, y1], _ =>
      obtain ⟨n0, h0, d0, w0⟩ := DataW.trod_int Try.underlying5 e0
      obtain ⟨k0, rfl, g0⟩ := u8W w0
      obtain ⟨n1, h1, d1, w1⟩ := DataW.trod_int Try.underlying2 e1
      obtain ⟨k1, rfl, g1⟩ := i64W w1
      simp at h0 h1
      subst h0 h1
      exact ⟨⟨k0, n1⟩, rfl, ⟨g0, g1⟩⟩
/-- A slice of these that came in. -/
theorem was_came {fuel : Nat} {cs : List Value} {x : DataW H × List MemPlace} (h : DataW.trod enc Try.prog w base (fun _ => true) held fuel 75 cs = some x) :
    ∃ (v : Value) (l : List WAct), cs = [v] ∧ Rows 2 wavl w v l ∧ ∀ a ∈ l, waOk a := by
  obtain ⟨v, l, hv, hl, hg⟩ := rows_came Try.underlying75 waCells (by decide) wavl_len wa_one h
  exact ⟨v, l, hv, hl, fun a ha => by obtain ⟨d, h, _⟩ := hg a ha; exact h⟩
/-- One that came in by value. -/
theorem wa_val {cs : Array Value} {d : DataW H} {q : List MemPlace} (h : DataW.Trod enc Try.prog w base (fun _ => true) held 81 (.agg cs) d q) : ∃ a : WAct, cs = (wavl a).toArray ∧ waOk a := by
  exact val_came wa_one h
end
theorem was_size : ∀ W : World, (sizeOf 81).run Try.prog W = .ok 2 W := fun W => by kernel_rfl
theorem was_len {w : World} {v : Value} {l : List WAct} (h : Rows 2 wavl w v l) (tr : TypeId) (W : World) : (Builtin.len_ #[75] tr #[v]).run Try.prog W = .ok (.int .i64 (l.length : Int)) W := h.len_ Try.underlying75 tr W
/-- An element, by an index of the kind q. -/
theorem was_at {w : World} {v : Value} {l : List WAct} (h : Rows 2 wavl w v l) (i : Nat) (hi : i < l.length) :
    ∃ b o : Nat, (∀ (q : IntKind) (W : World), (Instr.indexAt 75 v (.int q (i : Int))).run Try.prog W = .ok (.pointer (some ⟨b, o, none⟩)) W) ∧
      ∀ W : World, Rows 2 wavl W v l → W.cell? ⟨b, o, none⟩ = some (.int .u8 (l[i].wh : Int)) ∧ W.cell? ⟨b, o + 1, none⟩ = some (.int .i64 l[i].n) := by
  obtain ⟨b, o, h1, h2⟩ := Rows.at_ Try.underlying75 was_size (by decide) wavl_len h i hi
  exact ⟨b, o, h1, fun W hW => ⟨h2 W hW 0 _ rfl, h2 W hW 1 _ rfl⟩⟩
end Go.Proofs.Ytenoaljghbpaaaa
