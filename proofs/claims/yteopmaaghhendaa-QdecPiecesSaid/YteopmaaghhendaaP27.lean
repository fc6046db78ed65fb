/-
  Texts put together: QdJ, QdK, QdL.
-/
import Derived.Test.YteopmaaghhendaaP23
import Derived.Test.YteopmaaghhendaaP22
import Derived.Deep.CutBlock

/-
  The document's lines of a section, in pieces: its code, its frame; what a line is read as; behind the switch.
-/
namespace Go.Proofs.Yteopmaaghhendaa
open Go.RowKit Go.Maps
set_option linter.unusedVariables false

def OwF (w : World) (B : Nat) (v : Value) (l : List Fd) : Prop := w.ownsRow B 56 2 v l.length (l.flatMap fvl)
theorem OwF.fs {w : World} {B : Nat} {v : Value} {l : List Fd} (h : OwF w B v l) : Fs w v l := Rn.of_own h
theorem OwF.run_len {w : World} {B : Nat} {v : Value} {l : List Fd} (h : OwF w B v l) (ty : TypeId) (W : World) : (Builtin.len_ #[38] ty #[v]).run Try.prog W = .ok (.int .i64 (l.length : Int)) W := h.fs.run_len ty W
section
variable {q c g0 G k : Nat} {w2 wx : World} {b : List UInt8} {out : List Fd} {bw ov : Value} {f : Fd}
/-- A field more. -/
theorem wpList_pushF {ops : Array Oper} {rest : List Oper} {o : Oper} {a : Act} {Q : Exit → Act → World → Prop} {B : Nat} {f1 f2 : ByteArray} (hgd : o.guard = none) (so xo : Operand)
    (ho : o.op = .call { callee := .builtin .append, args := #[so, xo], argTypes := #[38, 38] })
    (h : OwF wx B ov out) (hB : B ≤ wx.heap.size) (hl : out.length ≤ 1000) (hs : a.eval so = ov) (hx : a.eval xo = .slice (some ⟨wx.heap.size, 0, none⟩) 1 1)
    (hK : ∀ v' w', OwF w' B v' (out ++ [(f1, f2)]) → Below B (wx.alloc (.cells #[.string f1, .string f2] 56)) w' → wpList Try.prog ops Q rest (a.put o.dst v') w') :
    wpList Try.prog ops Q (o :: rest) a (wx.alloc (.cells #[.string f1, .string f2] 56)) := by
  obtain ⟨i, h1, h2, h3, h4⟩ := infoF_get
  have hb := (Below.refl wx.heap.size wx).alloc (Nat.le_refl _) (.cells #[.string f1, .string f2] 56)
  refine wpList_append_ok _ 2 (by omega) hgd so xo 38 ho B 56 i _ 32 Try.underlying38 h1 h2 h3 h4 rfl _ _ out.length 1 (out.flatMap fvl) (fvl (f1, f2)) hs hx (ownN_keep h hb) (Rn.lit1 wx _ _ rfl) ?_ (by omega) (by unfold maxLen; omega) (Nat.le_trans hB hb.size) ?_
  · intro x hx
    simp only [fvl, List.mem_cons, List.not_mem_nil, or_false] at hx
    rcases hx with rfl | rfl <;> rfl
  · intro v' w' hap hb2 _
    refine hK v' w' ?_ hb2
    unfold OwF
    rw [List.length_append, List.flatMap_append]
    simpa using hap
end
end Go.Proofs.Yteopmaaghhendaa

/-
  The document's lines of a section, in pieces: the switch.
-/
namespace Go.Proofs.Yteopmaaghhendaa
open Go.RowKit Go.Maps
set_option linter.unusedVariables false

section
variable {q t c g0 G k : Nat} {T : Tab} {S1 : Nat → Prop} {w2 wx : World} {b b' : List UInt8} {out : List Fd} {bw ov : Value} {f : Fd}
end
end Go.Proofs.Yteopmaaghhendaa

/-
  Contract of the document's lines of a section, for lines as they are written.
-/
namespace Go.Proofs.Yteopmaaghhendaa
open Go.RowKit Go.Maps
set_option linter.unusedVariables false

section
variable {q t c g0 G k : Nat} {T : Tab} {S1 : Nat → Prop} {w w2 wx : World} {b b' : List UInt8} {out : List Fd} {bw ov : Value} {f : Fd}
end
end Go.Proofs.Yteopmaaghhendaa
