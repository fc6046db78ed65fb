/-
  Texts put together: HuffMath3.
-/
import Derived.Test.YthnaapjefedalaaM05

/-
  The codes in their order: where each sign stands in it. No program is named here.
-/
namespace Go.Proofs.Ythnaapjefedalaa
set_option linter.unusedVariables false

/-- The place of sign s in the order of the codes. -/
def pos (s : Nat) : Nat := pl (ll s) + (cw s - fi (ll s))
/-- The code and the length of the sign at place q - 1. -/
def cs (q : Nat) : Nat := if q = 0 then 0 else cw (orr (q - 1))
def hs (q : Nat) : Nat := if q = 0 then 0 else ll (orr (q - 1))
/-- How many signs have fewer than n bits. -/
def pq (n : Nat) : Nat := pl (n - 1) + co (n - 1)

theorem pos_orr {s : Nat} (h : s < 257) : orr (pos s) = s := (sign_facts s h).2.2.2.2.2
theorem pos_lt {s : Nat} (h : s < 257) : pos s < 257 := by
  have h1 := sign_facts s h
  have h2 := (place_facts (ll s) (by omega)).2.1
  unfold pos
  omega
theorem pos_inj {s k : Nat} (hs : s < 257) (hk : k < 257) (h : pos s = pos k) : s = k := by
  have h1 := pos_orr hs
  rw [h, pos_orr hk] at h1
  exact h1.symm
theorem step_facts : ∀ s, s < 257 → (pos s = 0 → cw s = 0) ∧ (0 < pos s → 5 ≤ hs (pos s) ∧ hs (pos s) ≤ ll s ∧ (cs (pos s) + 1) * 2 ^ (ll s - hs (pos s)) = cw s ∧ cs (pos s) < 1073741824) := by decide +kernel
theorem after_facts : ∀ s, s < 257 → cs (pos s + 1) = cw s ∧ hs (pos s + 1) = ll s := by decide +kernel
set_option maxRecDepth 100000 in
theorem here_facts : ∀ s, s < 257 → pq (ll s) + (LL.take s).count (ll s) = pos s := by decide +kernel
set_option maxRecDepth 100000 in
theorem row_facts : ∀ n, n < 31 → 5 ≤ n → pq n + (LL.take 257).count n = pq (n + 1) := by decide +kernel
theorem ends_facts : pq 5 = 0 ∧ pq 31 = 257 ∧ cs 0 = 0 ∧ hs 0 = 0 := by decide +kernel
theorem hs_small : ∀ q, q < 258 → hs q ≤ 30 ∧ cs q < 1073741824 := by decide +kernel
end Go.Proofs.Ythnaapjefedalaa
