/-
  Plain facts on the numbers' bytes: what is written is read back.
-/
import Derived.Test.YtcakppdabolfiaaNumF
import Derived.Test.YtcakppdabolfiaaNumI
namespace Go.Proofs.Ytcakppdabolfiaa
open Go.RowKit
set_option linter.unusedVariables false

theorem rb_cons_from (l : List UInt8) : ∀ a : Nat, l.foldl (fun v c => v * 256 + c.toNat) a = a * 256 ^ l.length + rb l := by
  induction l with
  | nil => intro a; show a = a * 1 + 0; omega
  | cons c l ih =>
    intro a
    have h0 := ih (0 * 256 + c.toNat)
    show l.foldl (fun v c => v * 256 + c.toNat) (a * 256 + c.toNat) = a * 256 ^ (l.length + 1) + l.foldl (fun v c => v * 256 + c.toNat) (0 * 256 + c.toNat)
    rw [ih, h0, Nat.pow_succ, Nat.zero_mul, Nat.zero_add, Nat.add_mul, Nat.mul_assoc a, Nat.mul_comm 256, Nat.add_assoc]
theorem rb_cons (c : UInt8) (l : List UInt8) : rb (c :: l) = c.toNat * 256 ^ l.length + rb l := by
  have := rb_cons_from l (0 * 256 + c.toNat)
  rw [Nat.zero_mul, Nat.zero_add] at this
  rw [← this]
  show l.foldl (fun v c => v * 256 + c.toNat) (0 * 256 + c.toNat) = _
  rw [Nat.zero_mul, Nat.zero_add]

theorem pow256 (i : Nat) : (2 : Nat) ^ (8 * i) = 256 ^ i := by rw [Nat.pow_mul]
theorem byteAt_nat (v i : Nat) : (byteAt (v : Int) i).toNat = v / 256 ^ i % 256 := by
  have h := byteAt_val (v : Int) i
  unfold bv at h
  injection h with _ h
  rw [← Int.natCast_inj, h, ← pow256, Int.natCast_emod, Int.natCast_ediv, Int.natCast_pow]
  rfl

theorem bes_len (v : Int) (n : Nat) : (bes v n).length = n := bes_length v n

theorem rb_bes (v n : Nat) : rb (bes (v : Int) n) = v % 256 ^ n := by
  induction n with
  | zero => show rb [] = v % 1; rw [Nat.mod_one]; rfl
  | succ n ih =>
    rw [bes, rb_cons, ih, bes_len, byteAt_nat, Nat.pow_succ, Nat.mod_mul]
    rw [Nat.mul_comm, Nat.add_comm]

theorem bes_cons (v : Int) (n : Nat) : bes v (n + 1) = byteAt v n :: bes v n := rfl

/-- A marked number of n bytes is read as it is, whatever stands behind. -/
theorem rv_bes (q n V : Nat) (hq : q < 4) (hn : n = 2 ^ q) (hV : V < 2 ^ (8 * n - 2)) (rest : List UInt8) :
    rv (bes ((V + q * 2 ^ (8 * n - 2) : Nat) : Int) n ++ rest) = ((V : Int), (n : Int), 0) := by
  have hn4 : n = 1 ∧ q = 0 ∨ n = 2 ∧ q = 1 ∨ n = 4 ∧ q = 2 ∨ n = 8 ∧ q = 3 := by
    have : q = 0 ∨ q = 1 ∨ q = 2 ∨ q = 3 := by omega
    rcases this with rfl | rfl | rfl | rfl <;> simp_all
  obtain ⟨m, rfl⟩ : ∃ m, n = m + 1 := ⟨n - 1, by omega⟩
  generalize hW : V + q * 2 ^ (8 * (m + 1) - 2) = W
  have hc : (byteAt (W : Int) m).toNat / 64 = q := by
    rw [byteAt_nat]
    rcases hn4 with ⟨h, rfl⟩ | ⟨h, rfl⟩ | ⟨h, rfl⟩ | ⟨h, rfl⟩ <;> (obtain rfl := Nat.succ.inj h) <;> simp at hV hW ⊢ <;> omega
  have hlen : rvLen (byteAt (W : Int) m) = m + 1 := by unfold rvLen; rw [hc, ← hn]
  rw [bes_cons, List.cons_append, rv_ok _ _ (by rw [hlen]; simp [bes_len]), hlen]
  have htake : (byteAt (W : Int) m :: (bes (W : Int) m ++ rest)).take (m + 1) = bes (W : Int) (m + 1) := by
    rw [List.take_succ_cons, bes_cons, List.take_left' (bes_len _ _)]
  rw [htake, rb_bes]
  refine Prod.ext ?_ rfl
  show ((W % 256 ^ (m + 1) : Nat) : Int) % 2 ^ (8 * (m + 1) - 2) = (V : Int)
  rcases hn4 with ⟨h, rfl⟩ | ⟨h, rfl⟩ | ⟨h, rfl⟩ | ⟨h, rfl⟩ <;> (obtain rfl := Nat.succ.inj h) <;> simp at hV hW ⊢ <;> omega

theorem clsOf (x : Nat) (h : x < 4611686018427387904) : ∃ q n : Nat, q < 4 ∧ n = 2 ^ q ∧ x < 2 ^ (8 * n - 2) ∧ varB (x : Int) = bes ((x + q * 2 ^ (8 * n - 2) : Nat) : Int) n ∧ clsLen (x : Int) = (n : Int) := by
  have hl := clsLen_at (x : Int)
  rcases cls_cases (x : Int) (by omega) (by omega) with ⟨h1, he⟩ | ⟨h0, h1, he⟩ | ⟨h0, h1, he⟩ | ⟨h0, he⟩
  · exact ⟨0, 1, by omega, rfl, by simp; omega, by rw [he]; simp, hl.1 h1⟩
  · exact ⟨1, 2, by omega, rfl, by simp; omega, by rw [he]; simp, hl.2.1 h0 h1⟩
  · exact ⟨2, 4, by omega, rfl, by simp; omega, by rw [he]; simp, hl.2.2.1 h0 h1⟩
  · exact ⟨3, 8, by omega, rfl, by simp; omega, by rw [he]; simp, hl.2.2.2.1 h0 (by omega)⟩

/-- What Var writes is read back, whatever stands behind. -/
theorem rv_varB (x : Nat) (h : x < 4611686018427387904) (rest : List UInt8) : rv (varB (x : Int) ++ rest) = ((x : Int), clsLen (x : Int), 0) ∧ ((varB (x : Int)).length : Int) = clsLen (x : Int) := by
  obtain ⟨q, n, hq, hn, hx, he, hl⟩ := clsOf x h
  rw [he, hl, rv_bes q n x hq hn hx rest, bes_len]
  exact ⟨rfl, rfl⟩

end Go.Proofs.Ytcakppdabolfiaa
