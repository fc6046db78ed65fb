/-
  The writer's word of 64 bits against the document's bits. No program is named here.
-/
import Derived.Test.YtofoknnflnafaaaHuffMath
namespace Go.Proofs.Ytofoknnflnafaaa
set_option linter.unusedVariables false

theorem div_mod_low (w n m : Nat) (h : 8 ≤ n) (hm : n ≤ m) : (w % 2 ^ m) / 2 ^ (n - 8) % 256 = w / 2 ^ (n - 8) % 256 := by
  have e : m = (n - 8) + (m - (n - 8)) := by omega
  have e2 : m - (n - 8) = 8 + (m - n) := by omega
  rw [e, Nat.pow_add, Nat.mod_mul_right_div_self, e2, Nat.pow_add, Nat.mod_mul_right_mod]

theorem emit_mod (k w m : Nat) : ∀ n, n ≤ m → n / 8 = k → emit k (w % 2 ^ m) n = emit k w n := by
  induction k with
  | zero => intro n _ _; rfl
  | succ k ih =>
    intro n hn hk
    rw [emit, emit, div_mod_low w n m (by omega) hn, ih (n - 8) (by omega) (by omega)]

/-- The next word: l bits more, in 64. -/
def nw (w l c : Nat) : Nat := w * 2 ^ l % 18446744073709551616 + c

theorem p64 : (18446744073709551616 : Nat) = 2 ^ 64 := by decide
theorem nw_split (w l : Nat) (hl : l ≤ 30) : w * 2 ^ l % 18446744073709551616 = w % 2 ^ (64 - l) * 2 ^ l := by
  rw [p64, show (2:Nat) ^ 64 = 2 ^ (64 - l) * 2 ^ l from by rw [← Nat.pow_add]; congr 1; omega, Nat.mul_mod_mul_right]
theorem nw_lt (w l c : Nat) (hl : l ≤ 30) (hc : c < 2 ^ l) : nw w l c < 18446744073709551616 := by
  unfold nw
  rw [nw_split w l hl, p64, show (2:Nat) ^ 64 = 2 ^ (64 - l) * 2 ^ l from by rw [← Nat.pow_add]; congr 1; omega]
  have h1 : w % 2 ^ (64 - l) < 2 ^ (64 - l) := Nat.mod_lt _ (Nat.two_pow_pos _)
  have h2 : (w % 2 ^ (64 - l) + 1) * 2 ^ l ≤ 2 ^ (64 - l) * 2 ^ l := Nat.mul_le_mul_right _ h1
  rw [Nat.add_mul, Nat.one_mul] at h2
  omega
theorem nw_or (w l c : Nat) (hl : l ≤ 30) (hc : c < 2 ^ l) : w * 2 ^ l % 18446744073709551616 ||| c = nw w l c := by
  unfold nw
  rw [nw_split w l hl, ← Nat.shiftLeft_eq, Nat.shiftLeft_add_eq_or_of_lt hc]
theorem nw_mod (w n l c : Nat) (hn : n < 8) (hl : l ≤ 30) (hc : c < 2 ^ l) : nw w l c % 2 ^ (n + l) = w % 2 ^ n * 2 ^ l + c := by
  have h1 : w % 2 ^ n < 2 ^ n := Nat.mod_lt _ (Nat.two_pow_pos _)
  have h2 : (w % 2 ^ n + 1) * 2 ^ l ≤ 2 ^ n * 2 ^ l := Nat.mul_le_mul_right _ h1
  rw [Nat.add_mul, Nat.one_mul] at h2
  have h3 : w % 2 ^ n * 2 ^ l + c < 2 ^ (n + l) := by rw [Nat.pow_add]; omega
  unfold nw
  rw [p64, Nat.add_mod, Nat.mod_mod_of_dvd _ (Nat.pow_dvd_pow 2 (by omega : n + l ≤ 64)), Nat.pow_add, Nat.mul_mod_mul_right, ← Nat.pow_add]
  have h4 : c % 2 ^ (n + l) = c := Nat.mod_eq_of_lt (by omega)
  rw [h4, Nat.mod_eq_of_lt h3]

/-- One sign more is written. -/
theorem enc_step (c : UInt8) (cs : List UInt8) (w n : Nat) (hn : n < 8) :
    enc (c :: cs) (w % 2 ^ n) n = emit ((n + ll c.toNat) / 8) (nw w (ll c.toNat) (cw c.toNat)) (n + ll c.toNat) ++ enc cs (nw w (ll c.toNat) (cw c.toNat) % 2 ^ ((n + ll c.toNat) % 8)) ((n + ll c.toNat) % 8) := by
  have hl := ll_byte c
  rw [enc, ← nw_mod w n _ _ hn hl.2.1 hl.2.2, emit_mod _ _ _ _ (Nat.le_refl _) rfl, Nat.mod_mod_of_dvd _ (Nat.pow_dvd_pow 2 (Nat.mod_le _ _))]

/-- The byte that fills up. -/
theorem last_or (w n : Nat) (h0 : 0 < n) (hn : n < 8) : (w * 2 ^ (8 - n)) % 256 ||| (2 ^ (8 - n) - 1) = w % 2 ^ n * 2 ^ (8 - n) + (2 ^ (8 - n) - 1) := by
  have e : w * 2 ^ (8 - n) % 256 = w % 2 ^ n * 2 ^ (8 - n) := by
    rw [show (256 : Nat) = 2 ^ n * 2 ^ (8 - n) from by rw [← Nat.pow_add, show n + (8 - n) = 8 from by omega], Nat.mul_mod_mul_right]
  have hp := Nat.two_pow_pos (8 - n)
  rw [e, ← Nat.shiftLeft_eq, Nat.shiftLeft_add_eq_or_of_lt (by omega)]
theorem last_lt (w n : Nat) (h0 : 0 < n) (hn : n < 8) : w % 2 ^ n * 2 ^ (8 - n) + (2 ^ (8 - n) - 1) < 256 := by
  have h1 : w % 2 ^ n < 2 ^ n := Nat.mod_lt _ (Nat.two_pow_pos _)
  have h2 : (w % 2 ^ n + 1) * 2 ^ (8 - n) ≤ 2 ^ n * 2 ^ (8 - n) := Nat.mul_le_mul_right _ h1
  rw [Nat.add_mul, Nat.one_mul, ← Nat.pow_add, show n + (8 - n) = 8 from by omega] at h2
  have hp := Nat.two_pow_pos (8 - n)
  omega

theorem emit_next (w t : Nat) (h : 8 ≤ t) : emit (t / 8) w t = UInt8.ofNat (w / 2 ^ (t - 8) % 256) :: emit ((t - 8) / 8) w (t - 8) := by
  rw [show t / 8 = (t - 8) / 8 + 1 from by omega, emit]
theorem emit_done (w t : Nat) (h : t < 8) : emit (t / 8) w t = [] := by
  rw [Nat.div_eq_of_lt h]; rfl

end Go.Proofs.Ytofoknnflnafaaa
