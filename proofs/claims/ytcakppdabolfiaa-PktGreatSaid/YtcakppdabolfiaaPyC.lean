/-
  Payloads, the program's: where a frame may not be, which sizes it may not have, copies, numbers.
-/
import Derived.Test.YtcakppdabolfiaaPyB
namespace Go.Proofs.Ytcakppdabolfiaa
open Go.RowKit
set_option linter.unusedVariables false
set_option linter.unusedSimpArgs false

/-- On stream 0, or on another one, where it may not be. -/
def misN (ty st : Nat) : Bool :=
  if ty = 0 ∨ ty = 1 ∨ ty = 2 ∨ ty = 3 ∨ ty = 5 ∨ ty = 9 then st % 2147483648 == 0 else if ty = 4 ∨ ty = 6 ∨ ty = 7 then !(st % 2147483648 == 0) else false
/-- Sizes that may not be. -/
def sizN (ty fl n : Nat) : Bool :=
  if ty = 0 ∨ ty = 1 ∨ ty = 5 then decide (n < aheadN ty fl) else if ty = 2 then n != 5 else if ty = 3 then n != 4 else if ty = 4 then (n % 6 != 0 || (hasN fl 1 && decide (0 < n)))
  else if ty = 6 then n != 8 else if ty = 7 then decide (n < 8) else if ty = 8 then n != 4 else false
section
variable {w : World} {ops : Array Oper} {o : Oper} {a : Act} {Q : Exit → Act → World → Prop}
/-- Bytes behind bytes. -/
theorem wpList_append_bs {rest : List Oper} (hgd : o.guard = none) (s x : Operand)
    (ho : o.op = .call { callee := .builtin .append, args := #[s, x], argTypes := #[36, 36] })
    (B : Nat) (v u : Value) (l m : List UInt8) (hs : a.eval s = v) (hx : a.eval x = u) (hv : ApB w B v l) (hu : Bs w u m) (hl : l.length + m.length ≤ 100000000) (hB : B ≤ w.heap.size)
    (h : ∀ v' w', ApB w' B v' (l ++ m) → Below B w w' → wpList Try.prog ops Q rest (a.put o.dst v') w') : wpList Try.prog ops Q (o :: rest) a w := by
  obtain ⟨i0, hi, hz, hz1, hz2⟩ := info_parts infoU8a
  refine wpList_append_ap w hgd s x _ ho B 5 i0 (.int .u8 0) 1 Try.underlying36 hi hz hz1 hz2 rfl v u (l.map bv) (m.map bv) hs hx hv hu one_bv (by simp; omega) (by simp [maxLen]; omega) hB ?_
  intro v' w' h1 h2
  exact h v' w' (by unfold ApB; rw [List.map_append]; exact h1) h2
end
section
variable {w : World} {ops : Array Oper} {o : Oper} {a : Act} {Q : Exit → Act → World → Prop}
/-- Bytes behind bytes of a row of its own. -/
theorem wpList_append_ob {rest : List Oper} (hgd : o.guard = none) (s x : Operand)
    (ho : o.op = .call { callee := .builtin .append, args := #[s, x], argTypes := #[36, 36] })
    (B : Nat) (v u : Value) (l m : List UInt8) (hs : a.eval s = v) (hx : a.eval x = u) (hv : OwB w B v l) (hu : Bs w u m) (hl : l.length + m.length ≤ 100000000) (hB : B ≤ w.heap.size)
    (h : ∀ v' w', OwB w' B v' (l ++ m) → Below B w w' → wpList Try.prog ops Q rest (a.put o.dst v') w') : wpList Try.prog ops Q (o :: rest) a w := by
  obtain ⟨i0, hi, hz, hz1, hz2⟩ := info_parts infoU8a
  refine wpList_append_oo hgd s x _ ho B 5 i0 (.int .u8 0) 1 Try.underlying36 hi hz hz1 hz2 rfl v u (l.map bv) (m.map bv) hs hx hv hu one_bv (by simp; omega) (by simp [maxLen]; omega) hB ?_
  intro v' w' h1 h2
  exact h v' w' (by unfold OwB; rw [List.map_append]; exact h1) h2
end
theorem OwB.grownO {w w' : World} {B g : Nat} {v : Value} {l : List UInt8} (h : OwB w B v l) (hg : w.grownBy w' (some g)) (hlt : g < B) : OwB w' B v l :=
  h.kept fun k hk => hg.block k (h.lt hk) (fun e => by injection e with e; have := h.ge hk; omega)
theorem OwB.shape {w : World} {B : Nat} {v : Value} {l : List UInt8} (h : OwB w B v l) : ∃ A n c, v = .slice A n c := by
  obtain ⟨A, L, c, hv, _⟩ := h.bs.open_
  exact ⟨A, L, c, hv⟩
/-- The first four bytes, as a number. -/
def be4 (l : List UInt8) : Nat := rb (l.take 4)
theorem be4_lt (l : List UInt8) : be4 l < 4294967296 := by
  have := rb_lt_n (l.take 4) 4 (by rw [List.length_take]; omega)
  unfold be4
  simpa using this
/-- A payload, read. -/
abbrev payA (d s : Value) (c st i : Int) : Array Value := #[d, s, .int .u32 c, .int .u32 st, .int .u32 i]
abbrev nilV : Value := .slice none 0 0
end Go.Proofs.Ytcakppdabolfiaa
