/-
  Texts put together: Piece.
-/
import Derived.Test.YteopmaaghhendaaM01
import Derived.Deep.LoopGhost

/-
  A great function, walked in pieces: the code from a region on, the two ways of an if, a loop's body; a frame out of its slots. No program is named here.
-/
namespace Go.Proofs.Yteopmaaghhendaa
open Go.RowKit
set_option linter.unusedVariables false

/-- The code that stands from region n on. -/
def fromR (n : Nat) : Code → Option Code
  | .region m ops d => if m = n then some (.region m ops d) else none
  | .seq (.region m ops d) y => if m = n then some (.seq (.region m ops d) y) else fromR n y
  | .seq x y => match fromR n x with
    | some c => some c
    | none => fromR n y
  | .block _ c => fromR n c
  | .loop c => fromR n c
  | .scope c => fromR n c
  | .cond _ x y => match fromR n x with
    | some c => some c
    | none => fromR n y
  | _ => none
def firstR : Code → Option Nat
  | .region m _ _ => some m
  | .seq x _ => firstR x
  | .block _ c => firstR c
  | .loop c => firstR c
  | .scope c => firstR c
  | _ => none
/-- The code that stands from the statement on that begins with region n. -/
def fromS (n : Nat) : Code → Option Code
  | .seq x y => if firstR x = some n then some (.seq x y) else match fromS n x with
    | some c => some c
    | none => fromS n y
  | .block _ c => fromS n c
  | .loop c => fromS n c
  | .scope c => fromS n c
  | .cond _ x y => match fromS n x with
    | some c => some c
    | none => fromS n y
  | _ => none
/-- The body of loop n, counted from 0 in the text's order, inner ones behind their outer one. -/
def loopAt : Nat → Code → Option Code × Nat
  | n, .loop c => if n = 0 then (some c, 0) else loopAt (n - 1) c
  | n, .seq x y => match loopAt n x with
    | (some c, m) => (some c, m)
    | (none, m) => loopAt m y
  | n, .block _ c => loopAt n c
  | n, .scope c => loopAt n c
  | n, .cond _ x y => match loopAt n x with
    | (some c, m) => (some c, m)
    | (none, m) => loopAt m y
  | n, _ => (none, n)

theorem list_eta (n : Nat) (l : List Value) (h : l.length = n) : l = (List.range n).map fun i => l.getD i undef := by
  subst h
  apply List.ext_getElem
  · simp
  · intro i h1 h2
    simp [List.getElem?_eq_getElem h1]
theorem frame_eta (n : Nat) (a : Act) (hs : a.tmps.size = n) (hd : a.defers = []) : a = ⟨((List.range n).map fun i => a.tmps.getD i undef).toArray, []⟩ := by
  obtain ⟨⟨l⟩, d⟩ := a
  simp only at hd
  subst hd
  have := list_eta n l (by simpa using hs)
  congr 1
  conv => lhs; rw [this]
  congr 1
  apply List.map_congr_left
  intro i _
  simp [Array.getD, List.getD_eq_getElem?_getD]
  split
  · rename_i h; simp [List.getElem?_eq_getElem h]
  · rename_i h; simp [List.getElem?_eq_none (Nat.le_of_not_lt h)]

/-- What a piece comes to: at its end, at a return, at an exit; it never panics. -/
def Kx (N R : Act → World → Prop) (E : Nat → Act → World → Prop) : Exit → Act → World → Prop
  | .normal, a, w => N a w
  | .ret, a, w => R a w
  | .exit i, a, w => E i a w
  | _, _, _ => False
section
variable {N R : Act → World → Prop} {E : Nat → Act → World → Prop} {a : Act} {w : World}
theorem Kx.norm (h : N a w) : Kx N R E .normal a w := h
theorem Kx.ret (h : R a w) : Kx N R E .ret a w := h
theorem Kx.exit {i : Nat} (h : E i a w) : Kx N R E (.exit i) a w := h
end
theorem Kx.use {P : Program} {c : Code} {a : Act} {w : World} {N R : Act → World → Prop} {E : Nat → Act → World → Prop} {K : Exit → Act → World → Prop} (h : c.wp P (Kx N R E) a w)
    (hn : ∀ a' w', N a' w' → K .normal a' w') (hr : ∀ a' w', R a' w' → K .ret a' w') (he : ∀ i a' w', E i a' w' → K (.exit i) a' w') : c.wp P K a w := by
  refine wp_mono h ?_
  intro e a' w' hk
  cases e with
  | normal => exact hn a' w' hk
  | ret => exact hr a' w' hk
  | exit i => exact he i a' w' hk
  | goto l => exact hk.elim
  | panic ch => exact hk.elim
  | outgrown => exact hk.elim

end Go.Proofs.Yteopmaaghhendaa
