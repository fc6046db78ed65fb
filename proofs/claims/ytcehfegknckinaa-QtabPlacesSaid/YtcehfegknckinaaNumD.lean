/-
  Contracts of num.ReadVar and of the document's ReadVar.
-/
import Derived.Test.YtcehfegknckinaaNumC
namespace Go.Proofs.Ytcehfegknckinaa
open Go.RowKit
set_option linter.unusedVariables false

def rvLen (c : UInt8) : Nat := 2 ^ (c.toNat / 64)
/-- What ReadVar answers: the number, how many bytes, the error's number. -/
def rv : List UInt8 → Int × Int × Int
  | [] => (0, 0, 20)
  | c :: t => if (c :: t).length < rvLen c then (0, 0, 20) else ((rb ((c :: t).take (rvLen c)) : Int) % 2 ^ (8 * rvLen c - 2), (rvLen c : Int), 0)

def Ans3 (x : Int × Int × Int) : Ending := .returned (.tuple #[.int .u64 x.1, .int .i64 x.2.1, .int .i64 x.2.2])

theorem ans3 {a b c : Int} {x : Int × Int × Int} (h : x = (a, b, c)) : Ending.returned (.tuple #[.int .u64 a, .int .i64 b, .int .i64 c]) = Ans3 x := by subst h; rfl

theorem rv_more (c : UInt8) (t : List UInt8) (h : (c :: t).length < rvLen c) : rv (c :: t) = (0, 0, 20) := by simp only [rv, if_pos h]
theorem rv_ok (c : UInt8) (t : List UInt8) (h : ¬ (c :: t).length < rvLen c) : rv (c :: t) = ((rb ((c :: t).take (rvLen c)) : Int) % 2 ^ (8 * rvLen c - 2), (rvLen c : Int), 0) := by simp only [rv, if_neg h]

theorem fin_mask (n i r : Nat) (m N : Int) (hm : m = ((2 ^ i - 1 : Nat) : Int)) (hi : i ≤ 64) (hr : r < 18446744073709551616) (hN : N = (n : Int)) : ((r : Int) % 2 ^ i, (n : Int), (0 : Int)) = (bits .and .u64 (r : Int) m, N, 0) := by
  rw [u64_mask r i m hm hi hr, hN]
  simp

theorem Bs.cell0 {w : World} {bV : Value} {x : UInt8} {t : List UInt8} (h : Bs w bV (x :: t)) : ∃ b o L c, bV = .slice (some ⟨b, o, none⟩) L c ∧ Hid (L = t.length + 1) ∧ 1 ≤ L ∧ L ≤ c ∧ c ≤ maxLen ∧ w.cell? ⟨b, o, none⟩ = some (.int .u8 (x.toNat : Int)) := by
  obtain ⟨b, o, c, hv, h1, h2, -, h3⟩ := Rd.at_ h (by simp)
  have := h3 0 (bv x) (by simp)
  exact ⟨b, o, _, c, hv, by simp [Hid], by simp, h1, h2, by simpa [bv] using this⟩

end Go.Proofs.Ytcehfegknckinaa
