/-
  Slices of structs of any type, as lists: k cells an element, by a function that tells an element's cells. No program is named here.
-/
import Derived.Test.YtcakppdabolfiaaSn
namespace Go.Proofs.Ytcakppdabolfiaa
open Go.RowKit
set_option linter.unusedVariables false

section
variable {α : Type} {f : α → List Value} {k : Nat}
theorem flat_len (hf : ∀ a, (f a).length = k) (l : List α) : (l.flatMap f).length = l.length * k := by
  induction l with
  | nil => simp
  | cons a l ih => rw [List.flatMap_cons, List.length_append, ih, hf, List.length_cons, Nat.succ_mul]; omega
theorem flat_at (hf : ∀ a, (f a).length = k) (l : List α) (i j : Nat) (h : i < l.length) (hj : j < k) : (l.flatMap f)[i * k + j]? = (f l[i])[j]? := by
  induction l generalizing i with
  | nil => simp at h
  | cons a l ih =>
    rw [List.flatMap_cons]
    cases i with
    | zero => rw [Nat.zero_mul, Nat.zero_add, List.getElem?_append_left (by rw [hf]; exact hj)]; rfl
    | succ i =>
      have := ih i (by simpa using h)
      have e1 : (i + 1) * k + j = (f a).length + (i * k + j) := by rw [hf, Nat.succ_mul]; omega
      rw [e1, List.getElem?_append_right (by omega), Nat.add_sub_cancel_left]
      simpa using this
/-- The value reads as this list. -/
def Rows (k : Nat) (f : α → List Value) (w : World) (v : Value) (l : List α) : Prop := Rn k w v l.length (l.flatMap f)
theorem Rows.nil (k : Nat) (f : α → List Value) (w : World) : Rows k f w (.slice none 0 0) [] := Rn.nil k w
theorem Rows.keep {w w' : World} {v : Value} {l : List α} (h : Rows k f w v l) (hb : Below w.heap.size w w') : Rows k f w' v l := Rn.keep h hb
theorem Rows.max {w : World} {v : Value} {l : List α} (h : Rows k f w v l) : l.length ≤ maxLen := Rn.len h
theorem Rows.shape {w : World} {v : Value} {l : List α} (h : Rows k f w v l) : ∃ A c, v = .slice A l.length c := by
  obtain ⟨A, c, e, _⟩ := h
  exact ⟨A, c, e⟩
theorem Rows.len_ {P : Program} {ty e : TypeId} (hu : P.underlying ty = some (.slice e)) {w : World} {v : Value} {l : List α} (h : Rows k f w v l) (tr : TypeId) (W : World) : (Builtin.len_ #[ty] tr #[v]).run P W = .ok (.int .i64 (l.length : Int)) W := by
  obtain ⟨A, c, rfl, h1, h2, h3⟩ := h
  simp [Builtin.len_, run_underlying hu, goInt]
/-- An element: where it lies, and its cells. -/
theorem Rows.at_ {P : Program} {ty e : TypeId} (hu : P.underlying ty = some (.slice e)) (hsz : ∀ W : World, (sizeOf e).run P W = .ok k W) (hk : 0 < k) (hf : ∀ a, (f a).length = k) {w : World} {v : Value} {l : List α} (h : Rows k f w v l) (i : Nat) (hi : i < l.length) :
    ∃ b o : Nat, (∀ (q : IntKind) (W : World), (Instr.indexAt ty v (.int q (i : Int))).run P W = .ok (.pointer (some ⟨b, o, none⟩)) W) ∧
      ∀ W : World, Rows k f W v l → ∀ (j : Nat) (u : Value), (f l[i])[j]? = some u → W.cell? ⟨b, o + j, none⟩ = some u := by
  obtain ⟨b, o, c, rfl, h1, h2, h3, hc⟩ := Rn.at_ h (by omega) hk
  refine ⟨b, o + i * k, fun q W => ?_, fun W hW => ?_⟩
  · simp [Instr.indexAt, asIntOf, run_underlying hu, Sem.run_bind, hi, Result.andThen, hsz]
    simp [Addr.add]
  · obtain ⟨b', o', c', e, _, _, _, hc'⟩ := Rn.at_ hW (by omega) hk
    injection e with e1 e2 e3
    injection e1 with e1
    injection e1 with e1 e4
    subst e1; subst e4
    intro j u hu
    have hj : j < k := by
      rcases Nat.lt_or_ge j k with h | h
      · exact h
      · rw [List.getElem?_eq_none (by rw [hf]; exact h)] at hu; cases hu
    have := hc' (i * k + j) u (by rw [flat_at hf l i j hi hj]; exact hu)
    rwa [← Nat.add_assoc] at this
/-- A row that the call writes out. -/
theorem Rows.lit (w : World) (e : TypeId) (l : List α) (cs : Array Value) (n : Nat) (hl : l.length = n) (hc : cs.toList = l.flatMap f) (hn : cs.size = n * k) (hm : n ≤ maxLen) : Rows k f (w.alloc (.cells cs e)) (.slice (some ⟨w.heap.size, 0, none⟩) n n) l := by
  subst hl
  have h := (An.lit (k := k) w e cs l.length hn hm).rd
  rw [hc] at h
  exact h
end
/-- Numbers of 64 bits, with a sign. -/
def i64v (n : Int) : List Value := [.int .i64 n]
theorem i64v_len : ∀ a, (i64v a).length = 1 := fun _ => rfl
end Go.Proofs.Ytcakppdabolfiaa
