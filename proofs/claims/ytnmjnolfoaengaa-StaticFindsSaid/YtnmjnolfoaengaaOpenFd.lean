/-
  A field that came in by value: from the row's reading to its two strings, with their sizes.
-/
import Derived.Test.YtnmjnolfoaengaaStFds
import Derived.Deep.Slices
import Derived.SizedLaws
namespace Go.Proofs.Ytnmjnolfoaengaa
open Go.RowKit Go.ChangeShapes Go.WideShapes Go.Deep
set_option linter.unusedVariables false

section
variable {H : Type} {enc : TypeId × Value → H} {w : World} {base : Nat} {spare : Nat → Bool} {held : Bool}

theorem fdCells : Try.prog.cellsOf 26 = 2 := by kernel_rfl
theorem strCells : Try.prog.cellsOf 9 = 1 := by kernel_rfl

/-- One field's reading. -/
theorem field_open {fuel : Nat} {cs : List Value} {x : DataW H × List MemPlace} (h : DataW.trod enc Try.prog w base spare held fuel 26 cs = some x) :
    ∃ f : Fd, cs = fvl f ∧ x.1 = .agg [.lit (.string f.1.data.toList), .lit (.string f.2.data.toList)] := by
  obtain ⟨xs, n, _, hx, hl, hlen, hf⟩ := DataW.trod_struct Try.underlying26 h
  rw [fdCells] at hl
  match cs, hl with
  | [c0, c1], _ =>
    have e0 := hf 0 _ rfl
    have e1 := hf 1 _ rfl
    change DataW.trod enc Try.prog w base spare held n 9 (([c0, c1].drop 0).take (Try.prog.cellsOf 9)) = xs[0]? at e0
    change DataW.trod enc Try.prog w base spare held n 9 (([c0, c1].drop 1).take (Try.prog.cellsOf 9)) = xs[1]? at e1
    rw [strCells] at e0 e1
    match xs, hlen with
    | [y0, y1], _ =>
      obtain ⟨s0, h0, d0, _⟩ := DataW.trod_string Try.underlying9 e0
      obtain ⟨s1, h1, d1, _⟩ := DataW.trod_string Try.underlying9 e1
      simp at h0 h1
      subst h0 h1
      exact ⟨(s0, s1), rfl, by rw [hx, d0, d1]; rfl⟩

theorem field_arg {cs : Array Value} {d : DataW H} {p : List MemPlace} (h : DataW.Trod enc Try.prog w base spare held 26 (.agg cs) d p) :
    ∃ f : Fd, cs = #[.string f.1, .string f.2] ∧ ((∀ n ∈ d.weights Try.prog 26, n ≤ reachBytes) → f.1.size ≤ 140737488351232 ∧ f.2.size ≤ 140737488351232) := by
  obtain ⟨fuel, hf⟩ := h
  obtain ⟨f, hcs, hd⟩ := field_open hf
  refine ⟨f, ?_, fun hw => ?_⟩
  · apply Array.toList_inj.1
    exact hcs
  · simp only at hd
    subst hd
    have h1 := hw f.1.data.toList.length (by simp only [DataW.weights, Try.underlying26]; simp [DataW.weightsEach, DataW.weights])
    have h2 := hw f.2.data.toList.length (by simp only [DataW.weights, Try.underlying26]; simp [DataW.weightsEach, DataW.weights])
    have hr : reachBytes ≤ 140737488351232 := by decide
    have e1 : f.1.data.toList.length = f.1.size := by simp
    have e2 : f.2.data.toList.length = f.2.size := by simp
    omega
end

end Go.Proofs.Ytnmjnolfoaengaa
