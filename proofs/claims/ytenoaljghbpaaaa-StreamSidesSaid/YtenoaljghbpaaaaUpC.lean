/-
  A call that turns, or reads, one of two words that stand side by side.
-/
import Derived.Test.YtenoaljghbpaaaaWb
namespace Go.Proofs.Ytenoaljghbpaaaa
open Go.RowKit
set_option linter.unusedVariables false

section
variable {X Y X' Y' : Wx} {P : Program} {f : FuncId} {args : Array Value} {w : World} {B : Nat} {R : Ending → Prop} {Q : Ending → World → Prop}
theorem Up.doL (hY : Wd Y) (h : Up B (Both X Y) w) (hB : B ≤ w.heap.size) (hc : ∀ S, X w S → Calls P f args w fun e w' => R e ∧ Turn X' S w w') : Calls P f args w fun e w' => R e ∧ Up B (Both X' Y) w' ∧ Below B w w' := by
  obtain ⟨S, ⟨S1, S2, h1, h2, h3, h4⟩, h5⟩ := h
  refine (hc S1 h1).mono ?_
  rintro e w' ⟨hr, ht⟩
  obtain ⟨hu, hb⟩ := Up.turn h5 hB (Both.left hY h2 h3 h4 ht)
  exact ⟨hr, hu, hb⟩
theorem Up.doR (hX : Wd X) (h : Up B (Both X Y) w) (hB : B ≤ w.heap.size) (hc : ∀ S, Y w S → Calls P f args w fun e w' => R e ∧ Turn Y' S w w') : Calls P f args w fun e w' => R e ∧ Up B (Both X Y') w' ∧ Below B w w' := by
  obtain ⟨S, ⟨S1, S2, h1, h2, h3, h4⟩, h5⟩ := h
  refine (hc S2 h2).mono ?_
  rintro e w' ⟨hr, ht⟩
  obtain ⟨hu, hb⟩ := Up.turn h5 hB (Both.right hX h1 h3 h4 ht)
  exact ⟨hr, hu, hb⟩
theorem Up.doU (h : Up B X w) (hB : B ≤ w.heap.size) (hc : ∀ S, X w S → Calls P f args w fun e w' => R e ∧ Turn X' S w w') : Calls P f args w fun e w' => R e ∧ Up B X' w' ∧ Below B w w' := by
  obtain ⟨S, h1, h5⟩ := h
  refine (hc S h1).mono ?_
  rintro e w' ⟨hr, ht⟩
  obtain ⟨hu, hb⟩ := Up.turn h5 hB ht
  exact ⟨hr, hu, hb⟩
theorem Up.readL (h : Up B (Both X Y) w) (hc : ∀ S, X w S → Calls P f args w Q) : Calls P f args w Q := by
  obtain ⟨S, ⟨S1, S2, h1, _⟩, _⟩ := h
  exact hc S1 h1
theorem Up.readR (h : Up B (Both X Y) w) (hc : ∀ S, Y w S → Calls P f args w Q) : Calls P f args w Q := by
  obtain ⟨S, ⟨S1, S2, _, h2, _⟩, _⟩ := h
  exact hc S2 h2
theorem Up.readU (h : Up B X w) (hc : ∀ S, X w S → Calls P f args w Q) : Calls P f args w Q := by
  obtain ⟨S, h1, _⟩ := h
  exact hc S h1
end
end Go.Proofs.Ytenoaljghbpaaaa
