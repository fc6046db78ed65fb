/-
  Contracts of num.ReadBig and of the document's ReadBig.
-/
import Derived.Test.YtcehfegknckinaaNumB
namespace Go.Proofs.Ytcehfegknckinaa
open Go.RowKit
set_option linter.unusedVariables false

/-- The number of some bytes, the highest first. -/
def rb : List UInt8 → Nat := fun l => l.foldl (fun v c => v * 256 + c.toNat) 0

theorem rb_snoc (l : List UInt8) (c : UInt8) : rb (l ++ [c]) = rb l * 256 + c.toNat := by simp [rb]
theorem rb_lt_from (l : List UInt8) : ∀ v : Nat, l.foldl (fun v c => v * 256 + c.toNat) v < (v + 1) * 256 ^ l.length := by
  induction l with
  | nil => intro v; simp
  | cons c l ih =>
    intro v
    rw [List.foldl_cons, List.length_cons, Nat.pow_succ]
    have h := ih (v * 256 + c.toNat)
    have := c.toNat_lt
    refine Nat.lt_of_lt_of_le h ?_
    rw [Nat.mul_comm (256 ^ l.length) 256, ← Nat.mul_assoc]
    exact Nat.mul_le_mul_right _ (by omega)
theorem rb_lt (l : List UInt8) : rb l < 256 ^ l.length := by have := rb_lt_from l 0; simpa [rb] using this

theorem rb_lt_n (l : List UInt8) (n : Nat) (h : l.length ≤ n) : rb l < 256 ^ n := Nat.lt_of_lt_of_le (rb_lt l) (Nat.pow_le_pow_right (by omega) h)

theorem or_add (a b i : Nat) (h : b < 2 ^ i) : a * 2 ^ i ||| b = a * 2 ^ i + b := by
  rw [← Nat.shiftLeft_eq, Nat.shiftLeft_add_eq_or_of_lt h]

theorem u64_or_add (a b i : Nat) (h : b < 2 ^ i) (h64 : a * 2 ^ i + b < 18446744073709551616) : bits .or .u64 ((a * 2 ^ i : Nat) : Int) (b : Int) = ((a * 2 ^ i + b : Nat) : Int) := by
  rw [u64_or_nat _ _ (by omega) (by omega), or_add a b i h]

theorem u64_mask (x i : Nat) (m : Int) (hm : m = ((2 ^ i - 1 : Nat) : Int)) (hi : i ≤ 64) (hx : x < 18446744073709551616) : bits .and .u64 (x : Int) m = ((x % 2 ^ i : Nat) : Int) := by
  subst hm
  have h2 : 2 ^ i ≤ 2 ^ 64 := Nat.pow_le_pow_right (by omega) hi
  have h3 : 2 ^ i - 1 < 18446744073709551616 := by have := Nat.two_pow_pos i; omega
  rw [u64_and_nat _ _ hx h3, Nat.and_two_pow_sub_one_eq_mod]

theorem u64_next (a : Nat) (c : UInt8) (h : a < 256 ^ 7) : bits .or .u64 ((a : Int) * 256) (IntKind.u64.wrap (c.toNat : Int)) = ((a * 256 + c.toNat : Nat) : Int) := by
  have hc := c.toNat_lt
  rw [IntKind.wrap_u64, show ((c.toNat : Int) % 18446744073709551616) = (c.toNat : Int) from by omega]
  exact u64_or_add a c.toNat 8 hc (by omega)

theorem take_snoc (l : List UInt8) (k : Nat) (h : k < l.length) : l.take (k + 1) = l.take k ++ [l[k]] := by
  rw [List.take_succ_eq_append_getElem h]

/-- Byte k of a slice that came in. -/
theorem Bs.cell {w : World} {b o c L : Nat} {l : List UInt8} (h : Bs w (.slice (some ⟨b, o, none⟩) L c) l) (k : Nat) (hk : k < l.length) : w.cell? ⟨b, o + k, none⟩ = some (.int .u8 (l[k].toNat : Int)) := by
  obtain ⟨b', o', c', e, _, _, _, hc⟩ := Rd.at_ h (by simp; omega)
  injection e with e1 e2 e3
  injection e1 with e1
  injection e1 with e1 e4
  subst e1; subst e4
  exact hc k _ (by simp [hk, bv])

end Go.Proofs.Ytcehfegknckinaa
