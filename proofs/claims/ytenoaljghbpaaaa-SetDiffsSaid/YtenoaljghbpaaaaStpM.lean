/-
  Differences of settings, as mathematics.
-/
import Derived.Test.YtenoaljghbpaaaaStpL
import Derived.Test.YtenoaljghbpaaaaRwSet2
namespace Go.Proofs.Ytenoaljghbpaaaa
open Go.RowKit
set_option linter.unusedVariables false

theorem apS_cons (S : Nat → Nat) (a : Stg) (l : List Stg) : apS S (a :: l) = if setE a.id a.val = 0 then apS (setP S a.id a.val) l else (noS, setE a.id a.val) := rfl
theorem apS_append (S : Nat → Nat) (l m : List Stg) : apS S (l ++ m) = if (apS S l).2 = 0 then apS (apS S l).1 m else (noS, (apS S l).2) := by
  induction l generalizing S with
  | nil => simp [apS]
  | cons a l ih =>
    rw [List.cons_append, apS_cons, apS_cons]
    by_cases h : setE a.id a.val = 0
    · rw [if_pos h, if_pos h]
      exact ih _
    · rw [if_neg h, if_neg h]
      simp [h]
/-- The difference makes the second one of the first, where it may be. -/
theorem apS_dTo (A B : Nat → Nat) (k : Nat) (hk : k ≤ 6) (h : (apS A (dTo A B k)).2 = 0) : ∀ i, (apS A (dTo A B k)).1 i = if 1 ≤ i ∧ i ≤ k then B i else A i := by
  induction k with
  | zero =>
    intro i
    rw [if_neg (by omega)]
    rfl
  | succ k ih =>
    intro i
    by_cases he : B (k + 1) = A (k + 1)
    · rw [dTo_same he] at h ⊢
      rw [ih (by omega) h i]
      by_cases hi : i = k + 1
      · subst hi
        rw [if_neg (by omega), if_pos (by omega), he]
      · by_cases h1 : 1 ≤ i ∧ i ≤ k
        · rw [if_pos h1, if_pos (by omega)]
        · rw [if_neg h1, if_neg (by omega)]
    · rw [dTo_diff he, apS_append] at h ⊢
      by_cases h0 : (apS A (dTo A B k)).2 = 0
      · rw [if_pos h0] at h ⊢
        unfold apS at h ⊢
        simp only at h ⊢
        by_cases h1 : setE (k + 1) (B (k + 1)) = 0
        · rw [if_pos h1] at h ⊢
          show setP (apS A (dTo A B k)).1 (k + 1) (B (k + 1)) i = _
          unfold setP
          by_cases hi : i = k + 1
          · subst hi
            rw [if_pos (by omega), if_pos (by omega)]
          · rw [if_neg (by omega), ih (by omega) h0 i]
            by_cases h2 : 1 ≤ i ∧ i ≤ k
            · rw [if_pos h2, if_pos (by omega)]
            · rw [if_neg h2, if_neg (by omega)]
        · rw [if_neg h1] at h
          exact absurd h h1
      · rw [if_neg h0] at h
        exact absurd h h0
/-- Settings of a law, by their numbers. -/
def hS (a : HSet) (i : Nat) : Nat := if i = 1 then a.table else if i = 2 then a.push else if i = 3 then a.streams else if i = 4 then a.window else if i = 5 then a.frame else if i = 6 then a.list else 0
end Go.Proofs.Ytenoaljghbpaaaa
