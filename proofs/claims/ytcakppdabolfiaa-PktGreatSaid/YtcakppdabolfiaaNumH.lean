/-
  Contracts of num.ReadPrefix and of the document's ReadPrefix.
-/
import Derived.Test.YtcakppdabolfiaaNumD
import Derived.Test.YtcakppdabolfiaaNumG
import Derived.Test.YtcakppdabolfiaaStep
namespace Go.Proofs.Ytcakppdabolfiaa
open Go.RowKit
set_option linter.unusedVariables false

def maxVar : Nat := 4611686018427387903
def rpGo : List UInt8 → Nat → Nat → Int × Int × Int
  | [], _, _ => (0, 0, 20)
  | c :: t, i, v =>
    if (maxVar - v) / 2 ^ (7 * i) < c.toNat % 128 then (0, 0, 21)
    else if c.toNat < 128 then (((v + c.toNat % 128 * 2 ^ (7 * i) : Nat) : Int), ((i + 2 : Nat) : Int), 0)
    else if i + 1 = 10 then (0, 0, 21)
    else rpGo t (i + 1) (v + c.toNat % 128 * 2 ^ (7 * i))
/-- What ReadPrefix answers at k bits. -/
def rp (k : Nat) : List UInt8 → Int × Int × Int
  | [] => (0, 0, 20)
  | c :: t => if c.toNat % 2 ^ k < 2 ^ k - 1 then (((c.toNat % 2 ^ k : Nat) : Int), 1, 0) else rpGo t 0 (c.toNat % 2 ^ k)

theorem rpGo_big (c : UInt8) (t : List UInt8) (i v : Nat) (h : (maxVar - v) / 2 ^ (7 * i) < c.toNat % 128) : rpGo (c :: t) i v = (0, 0, 21) := by simp only [rpGo, if_pos h]
theorem rpGo_last (c : UInt8) (t : List UInt8) (i v : Nat) (h : ¬ (maxVar - v) / 2 ^ (7 * i) < c.toNat % 128) (hc : c.toNat < 128) : rpGo (c :: t) i v = (((v + c.toNat % 128 * 2 ^ (7 * i) : Nat) : Int), ((i + 2 : Nat) : Int), 0) := by simp only [rpGo, if_neg h, if_pos hc]
theorem rpGo_ten (c : UInt8) (t : List UInt8) (i v : Nat) (h : ¬ (maxVar - v) / 2 ^ (7 * i) < c.toNat % 128) (hc : ¬ c.toNat < 128) (hi : i + 1 = 10) : rpGo (c :: t) i v = (0, 0, 21) := by simp only [rpGo, if_neg h, if_neg hc, if_pos hi]
theorem rpGo_on (c : UInt8) (t : List UInt8) (i v : Nat) (h : ¬ (maxVar - v) / 2 ^ (7 * i) < c.toNat % 128) (hc : ¬ c.toNat < 128) (hi : ¬ i + 1 = 10) : rpGo (c :: t) i v = rpGo t (i + 1) (v + c.toNat % 128 * 2 ^ (7 * i)) := by simp only [rpGo, if_neg h, if_neg hc, if_neg hi]

/-- What a byte comes to: p are its seven low bits. -/
def rpAns (c : Nat) (t : List UInt8) (i v p : Nat) : Int × Int × Int :=
  if (maxVar - v) / 2 ^ (7 * i) < p then (0, 0, 21)
  else if c < 128 then (((v + p * 2 ^ (7 * i) : Nat) : Int), ((i + 2 : Nat) : Int), 0)
  else if i + 1 = 10 then (0, 0, 21)
  else rpGo t (i + 1) (v + p * 2 ^ (7 * i))
theorem rpGo_ans (c : UInt8) (t : List UInt8) (i v : Nat) : rpGo (c :: t) i v = rpAns c.toNat t i v (c.toNat % 128) := rfl
theorem rpAns_big (c : Nat) (t : List UInt8) (i v p : Nat) (h : (maxVar - v) / 2 ^ (7 * i) < p) : rpAns c t i v p = (0, 0, 21) := by simp only [rpAns, if_pos h]
theorem rpAns_last (c : Nat) (t : List UInt8) (i v p : Nat) (r : Int) (h : ¬ (maxVar - v) / 2 ^ (7 * i) < p) (hc : c < 128) (hr : ((v + p * 2 ^ (7 * i) : Nat) : Int) = r) : rpAns c t i v p = (r, ((i + 2 : Nat) : Int), 0) := by simp only [rpAns, if_neg h, if_pos hc, hr]
theorem rpAns_ten (c : Nat) (t : List UInt8) (v p : Nat) (h : ¬ (maxVar - v) / 2 ^ (7 * 9) < p) (hc : ¬ c < 128) : rpAns c t 9 v p = (0, 0, 21) := by simp only [rpAns, if_neg h, if_neg hc]; rfl
theorem rpAns_on (c : Nat) (t : List UInt8) (i v p r : Nat) (h : ¬ (maxVar - v) / 2 ^ (7 * i) < p) (hc : ¬ c < 128) (hi : ¬ i + 1 = 10) (hr : v + p * 2 ^ (7 * i) = r) : rpAns c t i v p = rpGo t (i + 1) r := by simp only [rpAns, if_neg h, if_neg hc, if_neg hi, hr]

theorem pfits (p v i : Nat) (hv : v ≤ maxVar) (h : ¬ (maxVar - v) / 2 ^ (7 * i) < p) : v + p * 2 ^ (7 * i) ≤ maxVar := by
  have h1 : p * 2 ^ (7 * i) ≤ maxVar - v := by
    have := Nat.mul_le_mul_right (2 ^ (7 * i)) (Nat.not_lt.1 h)
    exact Nat.le_trans this (Nat.div_mul_le_self _ _)
  omega

theorem and127 (y : UInt8) : bits .and .u8 (y.toNat : Int) 127 = ((y.toNat % 128 : Nat) : Int) := by
  have hy := y.toNat_lt
  have key : ∀ z, z < 256 → z &&& 127 = z % 128 := by decide +kernel
  rw [show (127 : Int) = ((127 : Nat) : Int) from rfl, u8_and_nat _ _ hy (by omega), key _ hy]
theorem shl_fit (p v i : Nat) (S : Int) (h : v + p * 2 ^ (7 * i) ≤ maxVar) (hS : IntKind.u64.wrap ((p : Int) * 2 ^ (7 * i)) = S) : S = ((p * 2 ^ (7 * i) : Nat) : Int) := by
  have e : (p : Int) * 2 ^ (7 * i) = ((p * 2 ^ (7 * i) : Nat) : Int) := by push_cast; rfl
  rw [← hS, IntKind.wrap_u64, e]
  unfold maxVar at h
  omega
theorem shl7 (i : Nat) (h : i ≤ 9) (x : Int) : Op.shift .shl .u64 x .i64 (7 * (i : Int)) = pure (.int .u64 (IntKind.u64.wrap (x * 2 ^ (7 * i)))) := by
  rw [shift_shl_u64 _ _ _ (by omega) (by omega)]
  rw [show (7 * (i : Int)).toNat = 7 * i from by omega]
theorem shr7 (i : Nat) (h : i ≤ 9) (x : Int) : Op.shift .shr .u64 x .i64 (7 * (i : Int)) = pure (.int .u64 (x / 2 ^ (7 * i))) := by
  rw [shift_shr_u64 _ _ _ (by omega) (by omega)]
  rw [show (7 * (i : Int)).toNat = 7 * i from by omega]
theorem div_small (v D Q : Int) (i p : Nat) (h : D = 4611686018427387903 - v) (h0 : 0 ≤ v) (h1 : v ≤ 4611686018427387903) (hQ : D / 2 ^ (7 * i) = Q) (hb : Q < (p : Int)) : ((maxVar - v.toNat) / 2 ^ (7 * i) : Nat) < p := by
  have : (((maxVar - v.toNat) / 2 ^ (7 * i) : Nat) : Int) = Q := by
    rw [← hQ, h]
    push_cast
    congr 1
    unfold maxVar
    omega
  omega
theorem div_fits (v D Q : Int) (i p : Nat) (h : D = 4611686018427387903 - v) (h0 : 0 ≤ v) (h1 : v ≤ 4611686018427387903) (hQ : D / 2 ^ (7 * i) = Q) (hb : ¬ Q < (p : Int)) : ¬ ((maxVar - v.toNat) / 2 ^ (7 * i) : Nat) < p := by
  have : (((maxVar - v.toNat) / 2 ^ (7 * i) : Nat) : Int) = Q := by
    rw [← hQ, h]
    push_cast
    congr 1
    unfold maxVar
    omega
  omega

def RpRel (R : Int × Int × Int) (t : List UInt8) (T : Nat) (vv iv : Value) : Prop :=
  ∃ (i : Nat) (v : Int), iv = .int .i64 i ∧ vv = .int .u64 v ∧ 0 ≤ v ∧ v ≤ 4611686018427387903 ∧ i ≤ T ∧ i ≤ 9 ∧ rpGo (t.drop i) i v.toNat = R

end Go.Proofs.Ytcakppdabolfiaa
