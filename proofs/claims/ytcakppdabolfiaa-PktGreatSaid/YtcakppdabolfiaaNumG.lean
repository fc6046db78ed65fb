/-
  Contracts of num.Prefix and of the document's Prefix.
-/
import Derived.Test.YtcakppdabolfiaaNumC
namespace Go.Proofs.Ytcakppdabolfiaa
open Go.RowKit
set_option linter.unusedVariables false

/-- The bits of f above its lowest k. -/
def hiOf (f : UInt8) (k : Nat) : Nat := f.toNat / 2 ^ k * 2 ^ k
def preFirst (f : UInt8) (k v : Nat) : UInt8 := UInt8.ofNat (hiOf f k + min v (2 ^ k - 1))
def cont : Nat → Nat → List UInt8
  | 0, _ => []
  | n + 1, v => if v < 128 then [UInt8.ofNat v] else UInt8.ofNat (v % 128 + 128) :: cont n (v / 128)
/-- A number in a prefix of k bits. -/
def pre (f : UInt8) (k v : Nat) : List UInt8 := if v < 2 ^ k - 1 then [preFirst f k v] else preFirst f k v :: cont 10 (v - (2 ^ k - 1))
/-- The prefix's bits that count. -/
def bitsOf (n : Int) : Nat := (min (max n 1) 8).toNat

theorem bitsOf_range (n : Int) : 1 ≤ bitsOf n ∧ bitsOf n ≤ 8 ∧ min (max n 1) 8 = (bitsOf n : Int) := by unfold bitsOf; omega

theorem k8 {k : Nat} (h1 : 1 ≤ k) (h8 : k ≤ 8) : k = 1 ∨ k = 2 ∨ k = 3 ∨ k = 4 ∨ k = 5 ∨ k = 6 ∨ k = 7 ∨ k = 8 := by omega

theorem full_nat (k : Nat) : full (k : Int) = ((2 ^ k - 1 : Nat) : Int) := by
  unfold full
  have := Nat.two_pow_pos k
  rw [Int.toNat_natCast, Int.ofNat_sub this]
  simp
theorem full_range {k : Nat} (h1 : 1 ≤ k) (h8 : k ≤ 8) : 1 ≤ 2 ^ k - 1 ∧ 2 ^ k - 1 ≤ 255 := by
  rcases k8 h1 h8 with rfl | rfl | rfl | rfl | rfl | rfl | rfl | rfl <;> decide

theorem hi_andNot (f : UInt8) {k : Nat} (h1 : 1 ≤ k) (h8 : k ≤ 8) : bits .andNot .u8 (f.toNat : Int) ((2 ^ k - 1 : Nat) : Int) = (hiOf f k : Int) := by
  have hf := f.toNat_lt
  have hr := full_range h1 h8
  rw [u8_andNot_nat _ _ hf (by omega)]
  unfold hiOf
  have key : ∀ k, k < 9 → ∀ x, x < 256 → x &&& (255 - (2 ^ k - 1)) = x / 2 ^ k * 2 ^ k := by decide +kernel
  rw [key k (by omega) f.toNat hf]

theorem hi_lt (f : UInt8) {k : Nat} (h1 : 1 ≤ k) (h8 : k ≤ 8) : hiOf f k + (2 ^ k - 1) < 256 := by
  have hf : f.toNat < 256 := f.toNat_lt
  unfold hiOf
  have key : ∀ k, k < 9 → ∀ x, x < 256 → x / 2 ^ k * 2 ^ k + (2 ^ k - 1) < 256 := by decide +kernel
  exact key k (by omega) _ hf

theorem hi_or (f : UInt8) {k : Nat} (h1 : 1 ≤ k) (h8 : k ≤ 8) (v : Nat) (hv : v ≤ 2 ^ k - 1) : bits .or .u8 (hiOf f k : Int) (v : Int) = ((hiOf f k + v : Nat) : Int) := by
  have := hi_lt f h1 h8
  have hr := Nat.two_pow_pos k
  rw [u8_or_nat _ _ (by omega) (by omega)]
  unfold hiOf
  rw [or_add _ _ _ (by omega)]

theorem preFirst_val (f : UInt8) {k : Nat} (h1 : 1 ≤ k) (h8 : k ≤ 8) (v : Nat) : ((preFirst f k v).toNat : Int) = ((hiOf f k + min v (2 ^ k - 1) : Nat) : Int) := by
  have := hi_lt f h1 h8
  unfold preFirst
  rw [UInt8.toNat_ofNat', Nat.mod_eq_of_lt]
  have : (2:Nat) ^ 8 = 256 := rfl
  omega

theorem psnoc_any {w : World} {B : Nat} {x : Value} {l : List UInt8} {n : Int} (h : Ap w B 5 x (l.map bv ++ #[Value.int .u8 n].toList)) (b : UInt8) (hb : n = (b.toNat : Int)) : ApB w B x (l ++ [b]) := by
  unfold ApB
  rw [List.map_append, List.map_cons, List.map_nil]
  subst hb
  exact h

theorem or128 (x : Nat) : bits .or .u8 ((x : Int) % 256) 128 = ((x % 128 + 128 : Nat) : Int) := by
  have key : ∀ y, y < 256 → y ||| 128 = y % 128 + 128 := by decide +kernel
  rw [show ((x : Int) % 256) = ((x % 256 : Nat) : Int) from by omega, show (128 : Int) = ((128 : Nat) : Int) from rfl, u8_or_nat _ _ (by omega) (by omega), key _ (by omega)]
  omega

theorem cont_more (n v : Nat) (h : 128 ≤ v) : cont (n + 1) v = UInt8.ofNat (v % 128 + 128) :: cont n (v / 128) := by
  rw [cont, if_neg (by omega)]
theorem cont_last (n v : Nat) (h : v < 128) : cont (n + 1) v = [UInt8.ofNat v] := by
  rw [cont, if_pos h]
theorem cont_length (n v : Nat) : (cont n v).length ≤ n := by
  induction n generalizing v with
  | zero => simp [cont]
  | succ n ih =>
    rw [cont]
    split
    · simp
    · simp; exact ih _
/-- The loop's relation: what is still to write. -/
def PrefRel (G : List UInt8) (bl : List UInt8) (B : Nat) (w : World) (ov xv : Value) (wr : World) : Prop :=
  ∃ (m x : Nat) (l1 : List UInt8), xv = .int .u64 x ∧ x < 18446744073709551616 ∧ x < 128 ^ (m + 1) ∧ m ≤ 9 ∧ l1 ++ cont (m + 1) x = G ∧ l1.length + m ≤ bl.length + 10 ∧ ApB wr B ov l1 ∧ Below B w wr

theorem pow128 (x m : Nat) (h : x < 128 ^ (m + 1)) (hx : 128 ≤ x) : ∃ q, m = q + 1 ∧ x / 128 < 128 ^ (q + 1) := by
  cases m with
  | zero => simp at h; omega
  | succ q => exact ⟨q, rfl, by rw [Nat.pow_succ] at h; omega⟩

end Go.Proofs.Ytcakppdabolfiaa
