/-
  Contract of qtab.Prefix; of the document's Prefix.
-/
import Derived.Test.YtcehfegknckinaaQtD
import Derived.Test.YtcehfegknckinaaHfA
namespace Go.Proofs.Ytcehfegknckinaa
open Go.RowKit
set_option linter.unusedVariables false

/-- A section's prefix, of a count and a base, of m entries at most. -/
def qpre (c b m : Nat) : List UInt8 := pre 0 8 (ecN c m) ++ (if c ≤ b then pre 0 7 (b - c) else pre 128 7 (c - b - 1))

theorem ecN_lt {c m : Nat} (hm : m < 288230376151711744) : ecN c m < 18446744073709551616 := by
  unfold ecN
  split
  · omega
  · have := Nat.mod_lt c (show 0 < 2 * m by omega)
    omega

theorem pre_len (f : UInt8) (k v : Nat) : (pre f k v).length ≤ 11 := by
  unfold pre
  split
  · simp
  · have := cont_length 10 (v - (2 ^ k - 1))
    simp; omega

theorem prefix_at (bV : Value) (bl : List UInt8) (f : UInt8) (F : Int) (hF : (f.toNat : Int) = F) (n : Int) (k : Nat) (hk : bitsOf n = k) (v : Nat) (V : Int) (hV : (v : Int) = V) (w : World) (hb : Bs w bV bl) (hbl : bl.length ≤ 200000) (hv : v < 18446744073709551616) :
    Calls Try.prog 21 #[bV, .int .u8 F, .int .i64 n, .int .u64 V] w fun e w' => ∃ v', e = .returned v' ∧ OwB w' w.heap.size v' (bl ++ pre f k v) ∧ Below w.heap.size w w' := by
  subst hF hk hV
  exact prefix_own bV bl f n v w hb hbl hv

set_option maxHeartbeats 1000000 in
theorem qPrefix_any (bV : Value) (bl : List UInt8) (c b : Nat) (cap : Int) (w : World) (hb : Bs w bV bl) (hbl : bl.length ≤ 199000) (hc : c < 18446744073709551616) (hb8 : b < 18446744073709551616) (hcap : cap < 9223372036854775808) :
    Calls Try.prog 15 #[bV, .int .u64 c, .int .u64 b, .int .i64 cap] w fun e w' => ∃ v', e = .returned v' ∧ OwB w' w.heap.size v' (bl ++ qpre c b (mostN cap)) ∧ Below w.heap.size w w' := by
  have hm := mostN_lt hcap
  have HE := Bx.mk (encodeCount_any c cap hc hcap)
  obtain ⟨EC, hEC⟩ := letter (ecN c (mostN cap))
  have hP1 := fun W (h : Bs W bV bl) => prefix_at bV bl 0 0 rfl 8 8 rfl _ EC hEC W h (by omega) (ecN_lt hm)
  have HP1 := Bx.mk hP1
  have Hpl := Bx.mk (pre_len 0 8 (ecN c (mostN cap)))
  have Hbl := Bx.mk hbl
  have Hb := Bx.mk hb
  obtain ⟨C, hC⟩ := letter c
  obtain ⟨D, hD⟩ := letter b
  simp only [hC, hEC] at HE
  simp only [hC, hD]
  clear hP1 hEC
  unfold qpre
  by_cases h : c ≤ b
  · rw [if_pos h]
    have h1 : decide (C ≤ D) = true := by rw [decide_eq_true_iff]; omega
    obtain ⟨S, hS⟩ := letter (b - c)
    have hsub : IntKind.u64.wrap (D - C) = S := by rw [show D - C = S from by omega]; exact u64_keep (by omega) (by omega)
    have HP2 := Bx.mk fun W v l (h : Bs W v l) (hl : l.length ≤ 200000) => prefix_at v l 0 0 rfl 7 7 rfl (b - c) S hS W h hl (by omega)
    clear hS hC hD h hm hb hbl hc hb8 hcap
    go_enter Try.func15, Try.ntmps15
    go_wp2_with fail
    refine (HE.out _).mono ?_
    rintro e w' ⟨rfl, rfl⟩
    go_wp2_with fail
    refine (HP1.out _ Hb.out).mono ?_
    rintro e w1 ⟨v1, rfl, h1, b1⟩
    go_wp2_with fail
    refine (HP2.out _ _ _ h1.bs (by have := Hbl.out; have := Hpl.out; simp; omega)).mono ?_
    rintro e w2 ⟨v2, rfl, h2, b2⟩
    go_wp2_with fail
    go_ret
    exact ⟨_, rfl, by rw [← List.append_assoc]; exact h2.mono b1.size, b1.trans (b2.mono b1.size)⟩
  · rw [if_neg h]
    have h1 : decide (C ≤ D) = false := by rw [decide_eq_false_iff_not]; omega
    obtain ⟨S, hS⟩ := letter (c - b)
    obtain ⟨S', hS'⟩ := letter (c - b - 1)
    have hsub : IntKind.u64.wrap (C - D) = S := by rw [show C - D = S from by omega]; exact u64_keep (by omega) (by omega)
    have hsub2 : IntKind.u64.wrap (S - 1) = S' := by rw [show S - 1 = S' from by omega]; exact u64_keep (by omega) (by omega)
    have HP2 := Bx.mk fun W v l (h : Bs W v l) (hl : l.length ≤ 200000) => prefix_at v l 128 128 rfl 7 7 rfl (c - b - 1) S' hS' W h hl (by omega)
    clear hS hS' hC hD h hm hb hbl hc hb8 hcap
    go_enter Try.func15, Try.ntmps15
    go_wp2_with fail
    refine (HE.out _).mono ?_
    rintro e w' ⟨rfl, rfl⟩
    go_wp2_with fail
    refine (HP1.out _ Hb.out).mono ?_
    rintro e w1 ⟨v1, rfl, h1, b1⟩
    go_wp2_with fail
    refine (HP2.out _ _ _ h1.bs (by have := Hbl.out; have := Hpl.out; simp; omega)).mono ?_
    rintro e w2 ⟨v2, rfl, h2, b2⟩
    go_wp2_with fail
    go_ret
    exact ⟨_, rfl, by rw [← List.append_assoc]; exact h2.mono b1.size, b1.trans (b2.mono b1.size)⟩

end Go.Proofs.Ytcehfegknckinaa
