/-
  Texts put together: FfO.
-/
import Derived.Test.YtebakjdeighdnaaGreatM10
import Derived.Test.YtebakjdeighdnaaGreatM29

/-
  A slice of slices of fields that came in.
-/
namespace Go.Proofs.YtebakjdeighdnaaGreat
open Go.RowKit Go.ChangeShapes Go.WideShapes Go.Deep
set_option linter.unusedVariables false

section
variable {H : Type} {enc : TypeId × Value → H} {w : World} {base : Nat} {spare : Nat → Bool} {held : Bool}
theorem fieldsCells : Tryz.prog.cellsOf 30 = 1 := by kernel_rfl
theorem fieldsv_open {fuel : Nat} {cs : List Value} {x : DataW H × List MemPlace} (h : DataW.trod enc Tryz.prog w base spare held fuel 30 cs = some x) :
    ∃ (v : Value) (l : List Fd), cs = [v] ∧ Fs w v l ∧ ((∀ n ∈ x.1.weights Tryz.prog 30, n ≤ reachBytes) → Small l) := by
  rcases open_slice Tryz.underlying30 h with ⟨hcs, _⟩ | ⟨p, len, cap, m, n, D, Pl, hcs, _⟩
  · subst hcs
    obtain ⟨l, h1, h2⟩ := fields_open h
    exact ⟨_, l, rfl, h1, h2⟩
  · subst hcs
    obtain ⟨l, h1, h2⟩ := fields_open h
    exact ⟨_, l, rfl, h1, h2⟩

set_option maxRecDepth 100000 in
theorem fieldss_open {fuel : Nat} {cs : List Value} {x : DataW H × List MemPlace} (h : DataW.trod enc Tryz.prog w base spare held fuel 22 cs = some x) :
    ∃ (v : Value) (vs : List Value) (ll : List (List Fd)), cs = [v] ∧ Fss w v vs ll ∧ ((∀ n ∈ x.1.weights Tryz.prog 22, n ≤ reachBytes) → ∀ l ∈ ll, Small l) := by
  rcases open_slice1 Tryz.underlying22 fieldsCells h with ⟨hcs, _⟩ | ⟨p, len, cap, m, n, V, D, Pl, hcs, hb, hlc, hcm, hm, hx, hi⟩
  · exact ⟨_, [], [], hcs, ⟨Rd.nil w, rfl, fun i h => by simp at h⟩, fun _ f hf => by cases hf⟩
  · have hlm : len ≤ m := by rw [hm]; split <;> omega
    obtain ⟨F, hF⟩ := choose_lt (α := List Fd) (n := len) (p := fun i l => w.cell? (p.add i) = some (V i) ∧ Fs w (V i) l ∧ ((∀ n ∈ (D i).weights Tryz.prog 30, n ≤ reachBytes) → Small l)) (fun i hil => by
      obtain ⟨h1, h2⟩ := hi i (by omega)
      obtain ⟨v, l, hv, hl, hs⟩ := fieldsv_open h2
      injection hv with hv
      exact ⟨l, h1, hv ▸ hl, hs⟩)
    refine ⟨_, (List.range len).map V, (List.range len).map F, hcs, ⟨⟨some p, cap, by simp, by simpa using hlc, hcm, .inr ⟨p, rfl, fun j u hu => ?_⟩⟩, by simp, fun i h1 h2 => ?_⟩, fun hw l hl => ?_⟩
    · obtain ⟨hj, hu⟩ := List.getElem?_eq_some_iff.1 hu
      simp only [List.length_map, List.length_range] at hj
      simp at hu
      rw [← hu]
      exact (hF j hj).1
    · simp only [List.length_map, List.length_range] at h1
      have := (hF i h1).2.1
      simpa using this
    · obtain ⟨i, hir, rfl⟩ := List.mem_map.1 hl
      have hil : i < len := List.mem_range.1 hir
      exact (hF i hil).2.2 fun n hn => hw n (by
        rw [hx]
        simp only [DataW.weights, Tryz.underlying22, List.mem_cons, List.mem_append]
        exact .inr (.inl (weights_mem_all (List.mem_map.2 ⟨i, hir, rfl⟩) n hn)))
end

end Go.Proofs.YtebakjdeighdnaaGreat
