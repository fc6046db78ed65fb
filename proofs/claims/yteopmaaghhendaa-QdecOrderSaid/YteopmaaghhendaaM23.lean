/-
  Texts put together: QdJ, QdK, QdL.
-/
import Derived.Test.YteopmaaghhendaaM20
import Derived.Test.YteopmaaghhendaaM18
import Derived.Deep.CutBlock

/-
  The document's lines of a section, in pieces: its code, its frame; what a line is read as; behind the switch.
-/
namespace Go.Proofs.Yteopmaaghhendaa
open Go.RowKit Go.Maps
set_option linter.unusedVariables false

/-- What a line is read as: its field, what is left. -/
def RdL (T : Tab) (c : Nat) (b : List UInt8) (f : Fd) (b' : List UInt8) : Prop :=
  (192 ≤ headN b ∧ ∃ i m : Nat, rp 6 b = ((i : Int), (m : Int), 0) ∧ i < 1000000 ∧ T3[i]? = some f ∧ m ≤ b.length ∧ b' = b.drop m) ∨
  (128 ≤ headN b ∧ headN b < 192 ∧ ∃ i m : Nat, rp 6 b = ((i : Int), (m : Int), 0) ∧ i < c ∧ T.has (c - 1 - i) f ∧ m ≤ b.length ∧ b' = b.drop m) ∨
  (64 ≤ headN b ∧ headN b < 128 ∧ headN b &&& 16 ≠ 0 ∧ ∃ (i m m2 : Nat) (g : Fd) (sv : List UInt8), rp 4 b = ((i : Int), (m : Int), 0) ∧ i < 1000000 ∧ T3[i]? = some g ∧ g.1 = f.1 ∧ m ≤ b.length ∧ sb 7 (b.drop m) = (sv, (m2 : Int), 0) ∧ f.2 = bstr sv ∧ m2 ≤ (b.drop m).length ∧ b' = (b.drop m).drop m2) ∨
  (32 ≤ headN b ∧ headN b < 64 ∧ ∃ (m m2 : Nat) (sn sv : List UInt8), sb 3 b = (sn, (m : Int), 0) ∧ f.1 = bstr sn ∧ m ≤ b.length ∧ sb 7 (b.drop m) = (sv, (m2 : Int), 0) ∧ f.2 = bstr sv ∧ m2 ≤ (b.drop m).length ∧ b' = (b.drop m).drop m2)

def OwF (w : World) (B : Nat) (v : Value) (l : List Fd) : Prop := w.ownsRow B 56 2 v l.length (l.flatMap fvl)
theorem OwF.fs {w : World} {B : Nat} {v : Value} {l : List Fd} (h : OwF w B v l) : Fs w v l := Rn.of_own h
theorem OwF.run_len {w : World} {B : Nat} {v : Value} {l : List Fd} (h : OwF w B v l) (ty : TypeId) (W : World) : (Builtin.len_ #[38] ty #[v]).run Try.prog W = .ok (.int .i64 (l.length : Int)) W := h.fs.run_len ty W
section
variable {q c g0 G k : Nat} {w2 wx : World} {b : List UInt8} {out : List Fd} {bw ov : Value} {f : Fd}
/-- A field more. -/
theorem wpList_pushF {ops : Array Oper} {rest : List Oper} {o : Oper} {a : Act} {Q : Exit → Act → World → Prop} {B : Nat} {f1 f2 : ByteArray} (hgd : o.guard = none) (so xo : Operand)
    (ho : o.op = .call { callee := .builtin .append, args := #[so, xo], argTypes := #[38, 38] })
    (h : OwF wx B ov out) (hB : B ≤ wx.heap.size) (hl : out.length ≤ 1000) (hs : a.eval so = ov) (hx : a.eval xo = .slice (some ⟨wx.heap.size, 0, none⟩) 1 1)
    (hK : ∀ v' w', OwF w' B v' (out ++ [(f1, f2)]) → Below B (wx.alloc (.cells #[.string f1, .string f2] 56)) w' → wpList Try.prog ops Q rest (a.put o.dst v') w') :
    wpList Try.prog ops Q (o :: rest) a (wx.alloc (.cells #[.string f1, .string f2] 56)) := by
  obtain ⟨i, h1, h2, h3, h4⟩ := infoF_get
  have hb := (Below.refl wx.heap.size wx).alloc (Nat.le_refl _) (.cells #[.string f1, .string f2] 56)
  refine wpList_append_ok _ 2 (by omega) hgd so xo 38 ho B 56 i _ 32 Try.underlying38 h1 h2 h3 h4 rfl _ _ out.length 1 (out.flatMap fvl) (fvl (f1, f2)) hs hx (ownN_keep h hb) (Rn.lit1 wx _ _ rfl) ?_ (by omega) (by unfold maxLen; omega) (Nat.le_trans hB hb.size) ?_
  · intro x hx
    simp only [fvl, List.mem_cons, List.not_mem_nil, or_false] at hx
    rcases hx with rfl | rfl <;> rfl
  · intro v' w' hap hb2 _
    refine hK v' w' ?_ hb2
    unfold OwF
    rw [List.length_append, List.flatMap_append]
    simpa using hap
end
end Go.Proofs.Yteopmaaghhendaa

/-
  The document's lines of a section, in pieces: the switch.
-/
namespace Go.Proofs.Yteopmaaghhendaa
open Go.RowKit Go.Maps
set_option linter.unusedVariables false

section
variable {q t c g0 G k : Nat} {T : Tab} {S1 : Nat → Prop} {w2 wx : World} {b b' : List UInt8} {out : List Fd} {bw ov : Value} {f : Fd}
end
end Go.Proofs.Yteopmaaghhendaa

/-
  Contract of the document's lines of a section, for lines as they are written.
-/
namespace Go.Proofs.Yteopmaaghhendaa
open Go.RowKit Go.Maps
set_option linter.unusedVariables false

section
variable {q t c g0 G k : Nat} {T : Tab} {S1 : Nat → Prop} {w w2 wx : World} {b b' : List UInt8} {out : List Fd} {bw ov : Value} {f : Fd}
/-- Lines, one behind another. -/
def RdLs (T : Tab) (c : Nat) : List UInt8 → List Fd → Prop
  | b, [] => b = []
  | b, f :: l => b ≠ [] ∧ ∃ b', RdL T c b f b' ∧ b'.length ≤ b.length ∧ RdLs T c b' l
end
end Go.Proofs.Yteopmaaghhendaa
