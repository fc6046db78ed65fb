/-
  HTTP/2's settings, by value.
-/
import Derived.Test.YtenoaljghbpaaaaRowO
import Derived.Test.YtenoaljghbpaaaaProg
namespace Go.Proofs.Ytenoaljghbpaaaa
open Go.RowKit Go.ChangeShapes Go.WideShapes Go.Deep
set_option linter.unusedVariables false

structure HSet where
  table : Nat
  push : Nat
  streams : Nat
  window : Nat
  frame : Nat
  list : Nat
instance : Inhabited HSet := ⟨⟨0, 0, 0, 0, 0, 0⟩⟩
def hsvl (a : HSet) : List Value := [.int .u64 (a.table : Int), .int .u64 (a.push : Int), .int .u64 (a.streams : Int), .int .u64 (a.window : Int), .int .u64 (a.frame : Int), .int .u64 (a.list : Int)]
theorem hsvl_len : ∀ a, (hsvl a).length = 6 := fun _ => rfl
/-- Its numbers fit. -/
def hsOk (a : HSet) : Prop := a.table < 18446744073709551616 ∧ a.push < 18446744073709551616 ∧ a.streams < 18446744073709551616 ∧ a.window < 18446744073709551616 ∧ a.frame < 18446744073709551616 ∧ a.list < 18446744073709551616
section
variable {H : Type} {enc : TypeId × Value → H} {w : World} {base : Nat} {held : Bool}
theorem hsCells : Try.prog.cellsOf 57 = 6 := by kernel_rfl
theorem hsCells_u64 : Try.prog.cellsOf 45 = 1 := by kernel_rfl
set_option maxRecDepth 100000 in
theorem hs_one : Comes Try.prog w base (fun _ => true) held enc 57 hsvl (H := H) (fun _ a _ => hsOk a) := by
  intro fuel cs x h
  obtain ⟨xs, n, _, hx, hl, hlen, hf⟩ := DataW.trod_struct Try.underlying57 h
  rw [hsCells] at hl
  match cs, hl with
  | [c0, c1, c2, c3, c4, c5], _ =>
    have e0 := hf 0 _ rfl
    have e1 := hf 1 _ rfl
    have e2 := hf 2 _ rfl
    have e3 := hf 3 _ rfl
    have e4 := hf 4 _ rfl
    have e5 := hf 5 _ rfl
    change DataW.trod enc Try.prog w base (fun _ => true) held n 45 (([c0, c1, c2, c3, c4, c5].drop 0).take (Try.prog.cellsOf 45)) = xs[0]? at e0
    change DataW.trod enc Try.prog w base (fun _ => true) held n 45 (([c0, c1, c2, c3, c4, c5].drop 1).take (Try.prog.cellsOf 45)) = xs[1]? at e1
    change DataW.trod enc Try.prog w base (fun _ => true) held n 45 (([c0, c1, c2, c3, c4, c5].drop 2).take (Try.prog.cellsOf 45)) = xs[2]? at e2
    change DataW.trod enc Try.prog w base (fun _ => true) held n 45 (([c0, c1, c2, c3, c4, c5].drop 3).take (Try.prog.cellsOf 45)) = xs[3]? at e3
    change DataW.trod enc Try.prog w base (fun _ => true) held n 45 (([c0, c1, c2, c3, c4, c5].drop 4).take (Try.prog.cellsOf 45)) = xs[4]? at e4
    change DataW.trod enc Try.prog w base (fun _ => true) held n 45 (([c0, c1, c2, c3, c4, c5].drop 5).take (Try.prog.cellsOf 45)) = xs[5]? at e5
    rw [hsCells_u64] at e0
    rw [hsCells_u64] at e1
    rw [hsCells_u64] at e2
    rw [hsCells_u64] at e3
    rw [hsCells_u64] at e4
    rw [hsCells_u64] at e5
    match xs, hlen with
    | [y0, y1, y2, y3, y4, y5], _ =>
      obtain ⟨n0, h0, d0, w0⟩ := DataW.trod_int Try.underlying45 e0
      obtain ⟨k0, rfl, g0⟩ := u64W w0
      obtain ⟨n1, h1, d1, w1⟩ := DataW.trod_int Try.underlying45 e1
      obtain ⟨k1, rfl, g1⟩ := u64W w1
      obtain ⟨n2, h2, d2, w2⟩ := DataW.trod_int Try.underlying45 e2
      obtain ⟨k2, rfl, g2⟩ := u64W w2
      obtain ⟨n3, h3, d3, w3⟩ := DataW.trod_int Try.underlying45 e3
      obtain ⟨k3, rfl, g3⟩ := u64W w3
      obtain ⟨n4, h4, d4, w4⟩ := DataW.trod_int Try.underlying45 e4
      obtain ⟨k4, rfl, g4⟩ := u64W w4
      obtain ⟨n5, h5, d5, w5⟩ := DataW.trod_int Try.underlying45 e5
      obtain ⟨k5, rfl, g5⟩ := u64W w5
      simp at h0 h1 h2 h3 h4 h5
      subst h0 h1 h2 h3 h4 h5
      exact ⟨⟨k0, k1, k2, k3, k4, k5⟩, rfl, ⟨g0, g1, g2, g3, g4, g5⟩⟩
/-- One that came in by value. -/
theorem hs_val {cs : Array Value} {d : DataW H} {q : List MemPlace} (h : DataW.Trod enc Try.prog w base (fun _ => true) held 57 (.agg cs) d q) : ∃ a : HSet, cs = (hsvl a).toArray ∧ hsOk a := by
  exact val_came hs_one h
end
theorem hss_size : ∀ W : World, (sizeOf 57).run Try.prog W = .ok 6 W := fun W => by kernel_rfl
end Go.Proofs.Ytenoaljghbpaaaa
