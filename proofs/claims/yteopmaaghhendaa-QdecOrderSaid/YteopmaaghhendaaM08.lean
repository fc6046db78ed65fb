/-
  Texts put together: Ff.
-/
import Derived.Test.YteopmaaghhendaaM01

/-
  Slices of slices of fields: what they read as.
-/
namespace Go.Proofs.Yteopmaaghhendaa
open Go.RowKit
set_option linter.unusedVariables false

/-! ### slices of slices of fields -/
/-- The value reads as these slices; each of them reads as its fields. -/
def Fss (w : World) (v : Value) (vs : List Value) (ll : List (List Fd)) : Prop := Rd w v vs ∧ vs.length = ll.length ∧ ∀ i (h : i < vs.length) (h' : i < ll.length), Fs w vs[i] ll[i]
theorem Fss.keep {w w' : World} {v : Value} {vs : List Value} {ll : List (List Fd)} (h : Fss w v vs ll) (hb : Below w.heap.size w w') : Fss w' v vs ll := ⟨Rd.keep h.1 hb, h.2.1, fun i a b => (h.2.2 i a b).keep hb⟩
theorem Fss.run_len {w : World} {v : Value} {vs : List Value} {ll : List (List Fd)} (h : Fss w v vs ll) (ty : TypeId) (W : World) : (Builtin.len_ #[43] ty #[v]).run Try.prog W = .ok (.int .i64 (ll.length : Int)) W := by
  obtain ⟨⟨A, c, rfl, h1, h2, h3⟩, h4, _⟩ := h
  rw [← h4]
  simp [Builtin.len_, run_underlying Try.underlying43, goInt]
theorem Fss.at_ {w : World} {v : Value} {vs : List Value} {ll : List (List Fd)} (h : Fss w v vs ll) (i : Nat) (hi : i < ll.length) :
    ∃ (b o : Nat) (u : Value), (∀ (W : World), (Instr.indexAt 43 v (.int .i64 (i : Int))).run Try.prog W = .ok (.pointer (some ⟨b, o, none⟩)) W) ∧ (∃ a n c, u = .slice a n c) ∧ Fs w u ll[i] ∧
      ∀ W : World, Fss W v vs ll → W.cell? ⟨b, o, none⟩ = some u ∧ Fs W u ll[i] := by
  have hiv : i < vs.length := by have := h.2.1; omega
  obtain ⟨b, o, c, rfl, h1, h2, h3, hc⟩ := Rd.at_ h.1 (by omega)
  refine ⟨b, o + i, vs[i], fun W => ?_, ?_, h.2.2 i hiv hi, fun W hW => ⟨?_, hW.2.2 i hiv hi⟩⟩
  · simp [Instr.indexAt, asIntOf, run_underlying Try.underlying43, Sem.run_bind, hiv, Result.andThen]
    simp [Addr.add]
  · obtain ⟨A, c', e, _⟩ := h.2.2 i hiv hi
    exact ⟨_, _, _, e⟩
  · obtain ⟨b', o', c', e, _, _, _, hc'⟩ := Rd.at_ hW.1 (by omega)
    injection e with e1 e2 e3
    injection e1 with e1
    injection e1 with e1 e4
    subst e1; subst e4
    exact hc' i _ (List.getElem?_eq_getElem hiv)

end Go.Proofs.Yteopmaaghhendaa
