/-
  A stream's states in HTTP/2, as plain mathematics.
-/
import Derived.WalkKit
namespace Go.Proofs.Ytenoaljghbpaaaa
set_option linter.unusedVariables false

/-- What is sent: the state behind it, and the error. -/
def hSend (s : Int) (ty fl : Nat) : Int × Int :=
  if s < 0 ∨ 4 < s then (s, 32)
  else if ty = 2 then (s, 0)
  else if ty = 0 ∨ ty = 1 ∨ ty = 9 then
    if s = 0 ∧ ty = 1 then (if fl % 2 = 1 then (2, 0) else (1, 0))
    else if s ≠ 1 ∧ s ≠ 3 then (s, 32)
    else if fl % 2 = 1 ∧ ty ≠ 9 then (if s = 1 then (2, 0) else (4, 0))
    else (s, 0)
  else if ty = 3 then (if s ≠ 0 then (4, 0) else (s, 32))
  else if ty = 8 then (if s ≠ 0 ∧ s ≠ 4 then (s, 0) else (s, 32))
  else (s, 32)
/-- What comes: the state behind it, and the rule. -/
def hRecv (s : Int) (ty fl : Nat) : Int × Int :=
  if s < 0 ∨ 4 < s then (s, 9)
  else if ty = 2 then (s, 0)
  else if ty = 0 ∨ ty = 1 ∨ ty = 9 then
    if s = 0 ∧ ty ≠ 1 then (s, 6)
    else if s ≠ 0 ∧ s ≠ 1 ∧ s ≠ 2 then (s, 5)
    else if fl % 2 = 1 ∧ ty ≠ 9 then (if s = 2 then (4, 0) else (3, 0))
    else (if s = 0 then (1, 0) else (s, 0))
  else if ty = 3 then (if s = 0 then (s, 6) else (4, 0))
  else if ty = 8 then (if s = 0 then (s, 6) else (s, 0))
  else if 9 < ty then (s, 0)
  else (s, 9)
theorem hs_closed (T : Nat) (hT : T < 10) : (T = 2 ∧ hSend 4 T 0 = (4, 0) ∧ hRecv 4 T 0 = (4, 0)) ∨ (T = 3 ∧ hSend 4 T 0 = (4, 0) ∧ hRecv 4 T 0 = (4, 0)) ∨ (T = 8 ∧ hSend 4 T 0 = (4, 32) ∧ hRecv 4 T 0 = (4, 0)) ∨
    (T ≠ 2 ∧ T ≠ 3 ∧ T ≠ 8 ∧ hSend 4 T 0 = (4, 32) ∧ ∃ x, hRecv 4 T 0 = (4, x) ∧ x ≠ 0) := by
  match T, hT with
  | 0, _ => exact .inr (.inr (.inr ⟨by decide, by decide, by decide, rfl, 5, rfl, by decide⟩))
  | 1, _ => exact .inr (.inr (.inr ⟨by decide, by decide, by decide, rfl, 5, rfl, by decide⟩))
  | 2, _ => exact .inl ⟨rfl, rfl, rfl⟩
  | 3, _ => exact .inr (.inl ⟨rfl, rfl, rfl⟩)
  | 4, _ => exact .inr (.inr (.inr ⟨by decide, by decide, by decide, rfl, 9, rfl, by decide⟩))
  | 5, _ => exact .inr (.inr (.inr ⟨by decide, by decide, by decide, rfl, 9, rfl, by decide⟩))
  | 6, _ => exact .inr (.inr (.inr ⟨by decide, by decide, by decide, rfl, 9, rfl, by decide⟩))
  | 7, _ => exact .inr (.inr (.inr ⟨by decide, by decide, by decide, rfl, 9, rfl, by decide⟩))
  | 8, _ => exact .inr (.inr (.inl ⟨rfl, rfl, rfl⟩))
  | 9, _ => exact .inr (.inr (.inr ⟨by decide, by decide, by decide, rfl, 5, rfl, by decide⟩))
/-- Both sides' states, as far as they come. -/
def ssInv (a b : Int) : Bool := (a == 0 && b == 0) || (a == 1 && b == 1) || (a == 2 && b == 3) || (a == 3 && b == 2) || (a == 4 && b == 4)
def ssTy : List Nat := [1, 0, 1, 0, 3, 8, 2, 9]
theorem ssInv_cases {a b : Int} (h : ssInv a b = true) : (a = 0 ∧ b = 0) ∨ (a = 1 ∧ b = 1) ∨ (a = 2 ∧ b = 3) ∨ (a = 3 ∧ b = 2) ∨ (a = 4 ∧ b = 4) := by
  unfold ssInv at h
  simpa [or_assoc] using h
/-- The first side sends. -/
def ssL (a b : Int) (ty fl : Nat) : Bool := (hSend a ty fl).2 != 0 || (((hRecv b ty fl).2 == 0 || b == 4) && ssInv (hSend a ty fl).1 (hRecv b ty fl).1)
/-- The second one. -/
def ssR (a b : Int) (ty fl : Nat) : Bool := (hSend b ty fl).2 != 0 || (ty == 1 && b == 0) || (((hRecv a ty fl).2 == 0 || a == 4) && ssInv (hRecv a ty fl).1 (hSend b ty fl).1)
theorem ss_step (a b : Int) (h : ssInv a b = true) (q : Fin 8) (fl : Fin 2) : ssL a b (ssTy[q.val]'(q.isLt)) fl.val = true ∧ ssR a b (ssTy[q.val]'(q.isLt)) fl.val = true := by
  have key0 : ∀ (q : Fin 8) (fl : Fin 2), ssL 0 0 (ssTy[q.val]'(q.isLt)) fl.val = true ∧ ssR 0 0 (ssTy[q.val]'(q.isLt)) fl.val = true := by decide +kernel
  have key1 : ∀ (q : Fin 8) (fl : Fin 2), ssL 1 1 (ssTy[q.val]'(q.isLt)) fl.val = true ∧ ssR 1 1 (ssTy[q.val]'(q.isLt)) fl.val = true := by decide +kernel
  have key2 : ∀ (q : Fin 8) (fl : Fin 2), ssL 2 3 (ssTy[q.val]'(q.isLt)) fl.val = true ∧ ssR 2 3 (ssTy[q.val]'(q.isLt)) fl.val = true := by decide +kernel
  have key3 : ∀ (q : Fin 8) (fl : Fin 2), ssL 3 2 (ssTy[q.val]'(q.isLt)) fl.val = true ∧ ssR 3 2 (ssTy[q.val]'(q.isLt)) fl.val = true := by decide +kernel
  have key4 : ∀ (q : Fin 8) (fl : Fin 2), ssL 4 4 (ssTy[q.val]'(q.isLt)) fl.val = true ∧ ssR 4 4 (ssTy[q.val]'(q.isLt)) fl.val = true := by decide +kernel
  rcases ssInv_cases h with ⟨rfl, rfl⟩ | ⟨rfl, rfl⟩ | ⟨rfl, rfl⟩ | ⟨rfl, rfl⟩ | ⟨rfl, rfl⟩
  · exact key0 q fl
  · exact key1 q fl
  · exact key2 q fl
  · exact key3 q fl
  · exact key4 q fl
end Go.Proofs.Ytenoaljghbpaaaa
