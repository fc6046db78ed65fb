/-
  Texts put together: QtMath.
-/

/-
  Counts told as rests (P8.1, P8.4), in plain numbers.
-/
namespace Go.Proofs.Yteopmaaghhendaa
set_option linter.unusedVariables false

/-- A count told, of m entries at most. -/
def ecN (c m : Nat) : Nat := if c = 0 ∨ m = 0 then 0 else c % (2 * m) + 1
/-- A rest read, at a total: the count, or none. -/
def dcN (e total m : Nat) : Option Nat :=
  if e = 0 then some 0 else if m = 0 ∨ 2 * m < e then none else
    if total + m < (total + m) / (2 * m) * (2 * m) + e - 1 then
      (if (total + m) / (2 * m) * (2 * m) + e - 1 ≤ 2 * m then none else some ((total + m) / (2 * m) * (2 * m) + e - 1 - 2 * m))
    else if (total + m) / (2 * m) * (2 * m) + e - 1 = 0 then none else some ((total + m) / (2 * m) * (2 * m) + e - 1)

theorem dcN_ecN {c total m : Nat} (hm : m ≠ 0) (hc : c ≠ 0) (h1 : c ≤ total + m) (h2 : total + m < c + 2 * m) : dcN (ecN c m) total m = some c := by
  have hp : 0 < 2 * m := by omega
  have e1 := Nat.div_add_mod c (2 * m)
  have m1 := Nat.mod_lt c hp
  have e2 := Nat.div_add_mod (total + m) (2 * m)
  have m2 := Nat.mod_lt (total + m) hp
  have l1 : c / (2 * m) ≤ (total + m) / (2 * m) := Nat.div_le_div_right h1
  have l2 : (total + m) / (2 * m) ≤ c / (2 * m) + 1 := by
    have := Nat.div_le_div_right (c := 2 * m) (Nat.le_of_lt h2)
    rwa [Nat.add_div_right _ hp] at this
  have he : ecN c m = c % (2 * m) + 1 := by unfold ecN; rw [if_neg (by simp [hc, hm])]
  rw [he]
  unfold dcN
  generalize hd : c % (2 * m) = d at *
  generalize ha : c / (2 * m) = a at *
  generalize ht : (total + m) / (2 * m) = t at *
  rw [Nat.mul_comm t (2 * m)] at *
  rw [if_neg (by omega), if_neg (by omega)]
  rcases (by omega : t = a ∨ t = a + 1) with h | h
  · subst h
    rw [if_neg (by omega), if_neg (by omega)]
    exact congrArg some (by omega)
  · subst h
    simp only [Nat.mul_succ] at *
    rw [if_pos (by omega), if_neg (by omega)]
    exact congrArg some (by omega)

theorem dcN_far {e total m : Nat} (h : 2 * m < e) : dcN e total m = none := by
  unfold dcN
  rw [if_neg (by omega), if_pos (.inr h)]

/-- What is read is never 0 but for the rest 0, and never beyond the total and the entries. -/
theorem dcN_le {e total m c : Nat} (h : dcN e total m = some c) : c ≤ total + m ∧ (c = 0 → e = 0) := by
  unfold dcN at h
  split at h
  · simp at h; subst h; omega
  split at h
  · cases h
  rename_i he hm
  have hp : 0 < 2 * m := by omega
  have e2 := Nat.div_add_mod (total + m) (2 * m)
  have m2 := Nat.mod_lt (total + m) hp
  generalize (total + m) / (2 * m) = t at *
  rw [Nat.mul_comm t (2 * m)] at *
  split at h
  · split at h
    · cases h
    · simp at h; omega
  · split at h
    · cases h
    · simp at h; omega

end Go.Proofs.Yteopmaaghhendaa
