/-
  Packets' heads.
-/
import Derived.Test.YtcakppdabolfiaaRowO
import Derived.Test.YtcakppdabolfiaaProg
import Derived.Test.YtcakppdabolfiaaOpenB
namespace Go.Proofs.Ytcakppdabolfiaa
open Go.RowKit Go.ChangeShapes Go.WideShapes Go.Deep
set_option linter.unusedVariables false

structure Hdr where
  long : Bool
  ty : Int
  ver : Nat
  dst : Value
  dstb : List UInt8
  src : Value
  srcb : List UInt8
  pn : Nat
  pl : Int
instance : Inhabited Hdr := ⟨⟨false, 0, 0, .slice none 0 0, [], .slice none 0 0, [], 0, 0⟩⟩
def hdvl (a : Hdr) : List Value := [.bool a.long, .int .i64 a.ty, .int .u32 (a.ver : Int), a.dst, a.src, .int .u64 (a.pn : Int), .int .i64 a.pl]
theorem hdvl_len : ∀ a, (hdvl a).length = 7 := fun _ => rfl
/-- Its numbers fit. -/
def hdOk (a : Hdr) : Prop := (-9223372036854775808 ≤ a.ty ∧ a.ty ≤ 9223372036854775807) ∧ a.ver < 4294967296 ∧ a.pn < 18446744073709551616 ∧ (-9223372036854775808 ≤ a.pl ∧ a.pl ≤ 9223372036854775807)
/-- Its bytes. -/
def hdBs (w : World) (a : Hdr) : Prop := Bs w a.dst a.dstb ∧ Bs w a.src a.srcb
section
variable {H : Type} {enc : TypeId × Value → H} {w : World} {base : Nat} {held : Bool}
theorem hdCells : Try.prog.cellsOf 38 = 7 := by kernel_rfl
theorem hdCells_bool : Try.prog.cellsOf 4 = 1 := by kernel_rfl
theorem hdCells_bytes : Try.prog.cellsOf 36 = 1 := by kernel_rfl
theorem hdCells_int : Try.prog.cellsOf 3 = 1 := by kernel_rfl
theorem hdCells_u32 : Try.prog.cellsOf 28 = 1 := by kernel_rfl
theorem hdCells_u64 : Try.prog.cellsOf 22 = 1 := by kernel_rfl
theorem hdRaw {fuel : Nat} {c : Value} {x : DataW H × List MemPlace} (h : DataW.trod enc Try.prog w base (fun _ => true) held fuel 36 [c] = some x) : ∃ l : List UInt8, Bs w c l := by
  rcases open_ints Try.underlying36 Try.underlying5 (by kernel_rfl) h with ⟨hcs, _⟩ | ⟨x, l, c2, zs, hcs, _, hl, hm, hz, _, hcell, hwz⟩
  · injection hcs with hcs
    subst hcs
    exact ⟨[], Rd.nil w⟩
  · injection hcs with hcs
    subst hcs
    obtain ⟨l, h1, _⟩ := IsRow.bytes (w := w) (a := some x) (len := l) (cap := c2) (zs := zs) (.inr ⟨_, rfl, hl, hm, by simpa using hz, hcell, hwz⟩)
    exact ⟨l, h1⟩
set_option maxRecDepth 100000 in
theorem hd_one : Comes Try.prog w base (fun _ => true) held enc 38 hdvl (H := H) (fun W a _ => hdOk a ∧ hdBs W a) := by
  intro fuel cs x h
  obtain ⟨xs, n, _, hx, hl, hlen, hf⟩ := DataW.trod_struct Try.underlying38 h
  rw [hdCells] at hl
  match cs, hl with
  | [c0, c1, c2, c3, c4, c5, c6], _ =>
    have e0 := hf 0 _ rfl
    have e1 := hf 1 _ rfl
    have e2 := hf 2 _ rfl
    have e3 := hf 3 _ rfl
    have e4 := hf 4 _ rfl
    have e5 := hf 5 _ rfl
    have e6 := hf 6 _ rfl
    change DataW.trod enc Try.prog w base (fun _ => true) held n 4 (([c0, c1, c2, c3, c4, c5, c6].drop 0).take (Try.prog.cellsOf 4)) = xs[0]? at e0
    change DataW.trod enc Try.prog w base (fun _ => true) held n 3 (([c0, c1, c2, c3, c4, c5, c6].drop 1).take (Try.prog.cellsOf 3)) = xs[1]? at e1
    change DataW.trod enc Try.prog w base (fun _ => true) held n 28 (([c0, c1, c2, c3, c4, c5, c6].drop 2).take (Try.prog.cellsOf 28)) = xs[2]? at e2
    change DataW.trod enc Try.prog w base (fun _ => true) held n 36 (([c0, c1, c2, c3, c4, c5, c6].drop 3).take (Try.prog.cellsOf 36)) = xs[3]? at e3
    change DataW.trod enc Try.prog w base (fun _ => true) held n 36 (([c0, c1, c2, c3, c4, c5, c6].drop 4).take (Try.prog.cellsOf 36)) = xs[4]? at e4
    change DataW.trod enc Try.prog w base (fun _ => true) held n 22 (([c0, c1, c2, c3, c4, c5, c6].drop 5).take (Try.prog.cellsOf 22)) = xs[5]? at e5
    change DataW.trod enc Try.prog w base (fun _ => true) held n 3 (([c0, c1, c2, c3, c4, c5, c6].drop 6).take (Try.prog.cellsOf 3)) = xs[6]? at e6
    rw [hdCells_bool] at e0
    rw [hdCells_int] at e1
    rw [hdCells_u32] at e2
    rw [hdCells_bytes] at e3
    rw [hdCells_bytes] at e4
    rw [hdCells_u64] at e5
    rw [hdCells_int] at e6
    match xs, hlen with
    | [y0, y1, y2, y3, y4, y5, y6], _ =>
      obtain ⟨b0, h0, d0⟩ := DataW.trod_bool Try.underlying4 e0
      obtain ⟨n1, h1, d1, w1⟩ := DataW.trod_int Try.underlying3 e1
      obtain ⟨k1, rfl, g1⟩ := i64W w1
      obtain ⟨n2, h2, d2, w2⟩ := DataW.trod_int Try.underlying28 e2
      obtain ⟨k2, rfl, g2⟩ := u32W w2
      obtain ⟨l3, g3⟩ := hdRaw e3
      obtain ⟨l4, g4⟩ := hdRaw e4
      obtain ⟨n5, h5, d5, w5⟩ := DataW.trod_int Try.underlying22 e5
      obtain ⟨k5, rfl, g5⟩ := u64W w5
      obtain ⟨n6, h6, d6, w6⟩ := DataW.trod_int Try.underlying3 e6
      obtain ⟨k6, rfl, g6⟩ := i64W w6
      simp at h0 h1 h2 h5 h6
      subst h0 h1 h2 h5 h6
      exact ⟨⟨b0, n1, k2, c3, l3, c4, l4, k5, n6⟩, rfl, ⟨⟨g1, g2, g5, g6⟩, ⟨g3, g4⟩⟩⟩
/-- A slice of these that came in. -/
theorem hds_came {fuel : Nat} {cs : List Value} {x : DataW H × List MemPlace} (h : DataW.trod enc Try.prog w base (fun _ => true) held fuel 34 cs = some x) :
    ∃ (v : Value) (l : List Hdr), cs = [v] ∧ Rows 7 hdvl w v l ∧ ∀ a ∈ l, hdOk a ∧ hdBs w a := by
  obtain ⟨v, l, hv, hl, hg⟩ := rows_came Try.underlying34 hdCells (by decide) hdvl_len hd_one h
  exact ⟨v, l, hv, hl, fun a ha => by obtain ⟨d, h, _⟩ := hg a ha; exact h⟩
/-- One that came in by value. -/
theorem hd_val {cs : Array Value} {d : DataW H} {q : List MemPlace} (h : DataW.Trod enc Try.prog w base (fun _ => true) held 38 (.agg cs) d q) : ∃ a : Hdr, cs = (hdvl a).toArray ∧ hdOk a ∧ hdBs w a := by
  exact val_came hd_one h
end
theorem hds_size : ∀ W : World, (sizeOf 38).run Try.prog W = .ok 7 W := fun W => by kernel_rfl
theorem hds_len {w : World} {v : Value} {l : List Hdr} (h : Rows 7 hdvl w v l) (tr : TypeId) (W : World) : (Builtin.len_ #[34] tr #[v]).run Try.prog W = .ok (.int .i64 (l.length : Int)) W := h.len_ Try.underlying34 tr W
/-- An element, by an index of the kind q. -/
theorem hds_at {w : World} {v : Value} {l : List Hdr} (h : Rows 7 hdvl w v l) (i : Nat) (hi : i < l.length) :
    ∃ b o : Nat, (∀ (q : IntKind) (W : World), (Instr.indexAt 34 v (.int q (i : Int))).run Try.prog W = .ok (.pointer (some ⟨b, o, none⟩)) W) ∧
      ∀ W : World, Rows 7 hdvl W v l → W.cell? ⟨b, o, none⟩ = some (.bool l[i].long) ∧ W.cell? ⟨b, o + 1, none⟩ = some (.int .i64 l[i].ty) ∧ W.cell? ⟨b, o + 2, none⟩ = some (.int .u32 (l[i].ver : Int)) ∧ W.cell? ⟨b, o + 3, none⟩ = some (l[i].dst) ∧ W.cell? ⟨b, o + 4, none⟩ = some (l[i].src) ∧ W.cell? ⟨b, o + 5, none⟩ = some (.int .u64 (l[i].pn : Int)) ∧ W.cell? ⟨b, o + 6, none⟩ = some (.int .i64 l[i].pl) := by
  obtain ⟨b, o, h1, h2⟩ := Rows.at_ Try.underlying34 hds_size (by decide) hdvl_len h i hi
  exact ⟨b, o, h1, fun W hW => ⟨h2 W hW 0 _ rfl, h2 W hW 1 _ rfl, h2 W hW 2 _ rfl, h2 W hW 3 _ rfl, h2 W hW 4 _ rfl, h2 W hW 5 _ rfl, h2 W hW 6 _ rfl⟩⟩
end Go.Proofs.Ytcakppdabolfiaa
