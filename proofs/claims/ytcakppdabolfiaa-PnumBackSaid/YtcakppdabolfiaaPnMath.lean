/-
  Packets' numbers, cut short, as mathematics: how many bytes are enough, a number filled up. No program is named here.
-/
import Derived.Handy
namespace Go.Proofs.Ytcakppdabolfiaa
set_option linter.unusedVariables false

/-- How far a number is beyond the acknowledged one (-1: none), at least 1. -/
def pnD (pn : Nat) (acked : Int) : Nat := if acked < 0 then pn + 1 else if acked.toNat < pn then pn - acked.toNat else 1
/-- How many bytes are enough. -/
def lenN (pn : Nat) (acked : Int) : Nat := if pnD pn acked < 128 then 1 else if pnD pn acked < 32768 then 2 else if pnD pn acked < 8388608 then 3 else 4
/-- Bytes as they count: 1 to 4. -/
def bytesN (n : Int) : Nat := if n < 1 then 1 else if 4 < n then 4 else n.toNat
/-- The window of that many bytes. -/
def winN (k : Nat) : Nat := if k = 1 then 256 else if k = 2 then 65536 else if k = 3 then 16777216 else 4294967296
/-- What comes next. -/
def wantN (largest : Int) : Nat := if largest < 0 then 0 else min largest.toNat 4611686018427387903 + 1
/-- A cut number filled up. -/
def fullN (cut win want : Nat) : Nat :=
  if win / 2 ≤ want ∧ want - want % win + cut % win ≤ want - win / 2 ∧ want - want % win + cut % win < 4611686018427387904 - win then want - want % win + cut % win + win
  else if want + win / 2 < want - want % win + cut % win ∧ win ≤ want - want % win + cut % win then want - want % win + cut % win - win
  else want - want % win + cut % win
theorem bytesN_cases (n : Int) : bytesN n = 1 ∨ bytesN n = 2 ∨ bytesN n = 3 ∨ bytesN n = 4 := by
  unfold bytesN
  split
  · omega
  · split <;> omega
theorem winN_cases (k : Nat) : winN k = 256 ∨ winN k = 65536 ∨ winN k = 16777216 ∨ winN k = 4294967296 := by
  unfold winN
  split
  · omega
  · split
    · omega
    · split <;> omega
/-- Filled up by anyone who is near enough. -/
theorem fullN_back (pn win want : Nat) (hw : win = 256 ∨ win = 65536 ∨ win = 16777216 ∨ win = 4294967296) (h1 : want ≤ pn) (h2 : pn < want + win / 2) (h3 : pn < 2305843009213693952) : fullN (pn % win) win want = pn := by
  unfold fullN
  rcases hw with h | h | h | h <;> subst h
  all_goals
    rw [Nat.mod_mod]
    split
    · omega
    · split <;> omega
/-- The one nearest to what is awaited. -/
theorem fullN_near (cut win want : Nat) (hw : win = 256 ∨ win = 65536 ∨ win = 16777216 ∨ win = 4294967296) (h3 : want ≤ 4294967296) :
    fullN cut win want % win = cut % win ∧ (max (fullN cut win want) want - min (fullN cut win want) want ≤ win / 2 ∨ want < win / 2 ∧ fullN cut win want < win) := by
  unfold fullN
  rcases hw with h | h | h | h <;> subst h
  all_goals
    split
    · omega
    · split <;> omega
/-- What is enough is enough: half a window at least. -/
theorem lenN_enough (pn : Nat) (acked : Int) (h1 : -1 ≤ acked) (h2 : acked < pn) (h3 : (pn : Int) - acked < 2147483648) : (pn : Int) - acked < ((winN (lenN pn acked) / 2 : Nat) : Int) := by
  have hd : (pnD pn acked : Int) = (pn : Int) - acked := by
    unfold pnD
    split
    · omega
    · split <;> omega
  rw [← hd]
  rw [← hd] at h3
  unfold lenN
  split
  · show _ < ((winN 1 / 2 : Nat) : Int)
    show _ < (128 : Int)
    omega
  · split
    · show _ < (32768 : Int)
      omega
    · split
      · show _ < (8388608 : Int)
        omega
      · show _ < (2147483648 : Int)
        omega
theorem lenN_cases (pn : Nat) (acked : Int) : lenN pn acked = 1 ∨ lenN pn acked = 2 ∨ lenN pn acked = 3 ∨ lenN pn acked = 4 := by
  unfold lenN
  split
  · omega
  · split
    · omega
    · split <;> omega
/-- A number that is cut to as many bytes as are enough comes back. -/
theorem pn_back (pn : Nat) (acked largest : Int) (h1 : -1 ≤ acked) (h2 : acked ≤ largest) (h3 : largest < pn) (h4 : (pn : Int) - acked < 2147483648) (h5 : pn < 2305843009213693952) :
    fullN (pn % winN (lenN pn acked)) (winN (lenN pn acked)) (wantN largest) = pn := by
  have he := lenN_enough pn acked h1 (by omega) h4
  have hw := winN_cases (lenN pn acked)
  refine fullN_back pn _ _ hw ?_ ?_ h5
  · unfold wantN
    split <;> omega
  · unfold wantN
    split <;> omega
end Go.Proofs.Ytcakppdabolfiaa
