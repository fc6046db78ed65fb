/-
  Slices of fields: what they read as. No type of slices of strings is named.
-/
import Derived.Test.YtjebemcghikgpaaSn
import Derived.Test.YtjebemcghikgpaaFdMath
import Derived.Test.YtjebemcghikgpaaStep
import Derived.Test.YtjebemcghikgpaaRows
namespace Go.Proofs.Ytjebemcghikgpaa
open Go.RowKit
set_option linter.unusedVariables false

def fvl (f : Fd) : List Value := [.string f.1, .string f.2]
/-- The value reads as these fields. -/
def Fs (w : World) (v : Value) (l : List Fd) : Prop := Rn 2 w v l.length (l.flatMap fvl)
/-- The value reads as these strings. -/
def Ss (w : World) (v : Value) (l : List ByteArray) : Prop := Rd w v (l.map Value.string)

theorem fvl_length (l : List Fd) : (l.flatMap fvl).length = l.length * 2 := by
  induction l with
  | nil => rfl
  | cons a l ih => rw [List.flatMap_cons, List.length_append, ih]; simp [fvl]; omega
theorem fvl_at (l : List Fd) (i : Nat) (h : i < l.length) : (l.flatMap fvl)[i * 2]? = some (.string l[i].1) ∧ (l.flatMap fvl)[i * 2 + 1]? = some (.string l[i].2) := by
  induction l generalizing i with
  | nil => simp at h
  | cons a l ih =>
    rw [List.flatMap_cons]
    cases i with
    | zero => exact ⟨rfl, rfl⟩
    | succ i =>
      have := ih i (by simpa using h)
      have e1 : (i + 1) * 2 = (fvl a).length + i * 2 := by simp [fvl]; omega
      have e2 : (i + 1) * 2 + 1 = (fvl a).length + (i * 2 + 1) := by simp [fvl]; omega
      rw [e2, e1, List.getElem?_append_right (by omega), List.getElem?_append_right (by omega)]
      simpa using this
theorem one_fvl {l : List Fd} : ∀ x ∈ l.flatMap fvl, x.oneCell' = true := by
  intro x hx
  obtain ⟨f, _, hf⟩ := List.mem_flatMap.1 hx
  rcases List.mem_cons.1 hf with rfl | hf
  · rfl
  · rcases List.mem_cons.1 hf with rfl | hf
    · rfl
    · cases hf
theorem one_str {l : List ByteArray} : ∀ x ∈ l.map Value.string, x.oneCell' = true := by
  intro x hx
  obtain ⟨b, _, rfl⟩ := List.mem_map.1 hx
  rfl

theorem Fs.len {w : World} {v : Value} {l : List Fd} (h : Fs w v l) : l.length ≤ maxLen := Rn.len h
theorem Ss.len {w : World} {v : Value} {l : List ByteArray} (h : Ss w v l) : l.length ≤ maxLen := by have := Rd.len h; simpa using this
theorem Fs.keep {w w' : World} {v : Value} {l : List Fd} (h : Fs w v l) (hb : Below w.heap.size w w') : Fs w' v l := Rn.keep h hb
theorem Ss.keep {w w' : World} {v : Value} {l : List ByteArray} (h : Ss w v l) (hb : Below w.heap.size w w') : Ss w' v l := Rd.keep h hb

theorem Fs.run_len {w : World} {v : Value} {l : List Fd} (h : Fs w v l) (ty : TypeId) (W : World) : (Builtin.len_ #[40] ty #[v]).run Try.prog W = .ok (.int .i64 (l.length : Int)) W := by
  obtain ⟨A, c, rfl, h1, h2, h3⟩ := h
  simp [Builtin.len_, run_underlying Try.underlying40, goInt]
/-- The place of v[i], and what lies there. -/
theorem Fs.at_ {w : World} {v : Value} {l : List Fd} (h : Fs w v l) (i : Nat) (hi : i < l.length) :
    ∃ b o : Nat, (∀ (q : IntKind) (W : World), (Instr.indexAt 40 v (.int q (i : Int))).run Try.prog W = .ok (.pointer (some ⟨b, o, none⟩)) W) ∧
      ∀ W : World, Fs W v l → W.cell? ⟨b, o, none⟩ = some (.string l[i].1) ∧ W.cell? ⟨b, o + 1, none⟩ = some (.string l[i].2) := by
  obtain ⟨b, o, c, rfl, h1, h2, h3, hc⟩ := Rn.at_ h (by omega) (by omega)
  have hsz : ∀ W : World, (sizeOf (Try.prog.elem 40)).run Try.prog W = .ok 2 W := fun W => by kernel_rfl
  refine ⟨b, o + i * 2, fun q W => ?_, fun W hW => ?_⟩
  · simp [Instr.indexAt, asIntOf, run_underlying Try.underlying40, Sem.run_bind, hi, Result.andThen]
    simp [Addr.add]
  · obtain ⟨b', o', c', e, _, _, _, hc'⟩ := Rn.at_ hW (by omega) (by omega)
    injection e with e1 e2 e3
    injection e1 with e1
    injection e1 with e1 e4
    subst e1; subst e4
    have := fvl_at l i hi
    exact ⟨hc' _ _ this.1, hc' _ _ this.2⟩

end Go.Proofs.Ytjebemcghikgpaa
