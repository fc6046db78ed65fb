/-
  Windows as plain mathematics: what may be sent (one number), what may come (four).
-/
import Derived.WalkKit
namespace Go.Proofs.Ytenoaljghbpaaaa
set_option linter.unusedVariables false

/-! ### what may be sent -/
def oUse (n x : Int) : Bool × Int := if 0 ≤ x ∧ x ≤ max n 0 then (true, n - x) else (false, n)
def oGrow (n x : Int) : Bool × Int := if 1 ≤ x ∧ x ≤ 2147483647 - n then (true, n + x) else (false, n)
def oShift (n x : Int) : Bool × Int := if -2147483647 ≤ n + x ∧ n + x ≤ 2147483647 then (true, n + x) else (false, n)
def oNew (n : Int) : Int := min (max n (-2147483647)) 2147483647
/-- A window, and a number of 64 bits. -/
def oOk (n : Int) : Prop := -2147483647 ≤ n ∧ n ≤ 2147483647
def i64R (x : Int) : Prop := -9223372036854775808 ≤ x ∧ x ≤ 9223372036854775807
theorem oOk.new (n : Int) : oOk (oNew n) := by unfold oOk oNew; omega
theorem oOk.use {n : Int} (h : oOk n) (x : Int) : oOk (oUse n x).2 := by
  unfold oOk at *; unfold oUse; split <;> simp only <;> omega
theorem oOk.grow {n : Int} (h : oOk n) (x : Int) : oOk (oGrow n x).2 := by
  unfold oOk at *; unfold oGrow; split <;> simp only <;> omega
theorem oOk.shift {n : Int} (h : oOk n) (x : Int) : oOk (oShift n x).2 := by
  unfold oOk at *; unfold oShift; split <;> simp only <;> omega

/-! ### what may come -/
/-- Size, left, came and not used, used and not given back. -/
structure Ws where
  s : Int
  l : Int
  c : Int
  u : Int
def wNew (n : Int) : Ws := ⟨min (max n 1) 2147483647, min (max n 1) 2147483647, 0, 0⟩
def wTake (W : Ws) (x : Int) : Bool × Ws := if 0 ≤ x ∧ x ≤ W.l then (true, ⟨W.s, W.l - x, W.c + x, W.u⟩) else (false, W)
def wAm (W : Ws) (x : Int) : Int := min (max x 0) W.c
def wDone (W : Ws) (x : Int) : Int × Ws :=
  if W.u + wAm W x < max (W.s / 2) 1 then (0, ⟨W.s, W.l, W.c - wAm W x, W.u + wAm W x⟩) else (W.u + wAm W x, ⟨W.s, W.l + (W.u + wAm W x), W.c - wAm W x, 0⟩)
structure Ws.ok (W : Ws) : Prop where
  s1 : 1 ≤ W.s
  s2 : W.s ≤ 2147483647
  l : 0 ≤ W.l
  c : 0 ≤ W.c
  u : 0 ≤ W.u
  sum : W.l + W.c + W.u = W.s
  half : W.u < max (W.s / 2) 1
theorem Ws.ok.new (n : Int) : (wNew n).ok := by
  refine ⟨?_, ?_, ?_, ?_, ?_, ?_, ?_⟩ <;> simp only [wNew] <;> omega
theorem Ws.ok.take {W : Ws} (h : W.ok) (x : Int) : (wTake W x).2.ok := by
  obtain ⟨h1, h2, h3, h4, h5, h6, h7⟩ := h
  unfold wTake
  split
  · refine ⟨h1, h2, ?_, ?_, h5, ?_, h7⟩ <;> simp only <;> omega
  · exact ⟨h1, h2, h3, h4, h5, h6, h7⟩
theorem Ws.ok.done {W : Ws} (h : W.ok) (x : Int) : (wDone W x).2.ok := by
  obtain ⟨h1, h2, h3, h4, h5, h6, h7⟩ := h
  unfold wDone wAm
  split
  · refine ⟨h1, h2, h3, ?_, ?_, ?_, ?_⟩ <;> simp only <;> omega
  · refine ⟨h1, h2, ?_, ?_, ?_, ?_, ?_⟩ <;> simp only <;> omega
end Go.Proofs.Ytenoaljghbpaaaa
