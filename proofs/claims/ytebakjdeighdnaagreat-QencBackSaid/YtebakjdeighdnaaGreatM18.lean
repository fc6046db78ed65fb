/-
  Texts put together: QtD, QtE.
-/
import Derived.Test.YtebakjdeighdnaaGreatM11
import Derived.Test.YtebakjdeighdnaaGreatM13

/-
  Contract of the document's DecodeCount.
-/
namespace Go.Proofs.YtebakjdeighdnaaGreat
open Go.RowKit
set_option linter.unusedVariables false

/-- The number that a rest comes to at first. -/
def toN (e t m : Nat) : Nat := (t + m) / (2 * m) * (2 * m) + e - 1
theorem dc_ref {e t m : Nat} (h0 : 0 < e) (h1 : e ≤ 2 * m) :
    dcN e t m = if t + m < toN e t m then (if toN e t m ≤ 2 * m then none else some (toN e t m - 2 * m)) else if toN e t m = 0 then none else some (toN e t m) := by
  unfold dcN toN
  rw [if_neg (by omega), if_neg (by omega)]

theorem refDecodeCount_any (e t : Nat) (cap : Int) (he : e < 18446744073709551616) (ht : t < 4611686018427387904) (hc : cap < 9223372036854775808) (w : World) :
    Calls Tryz.prog 67 #[.int .u64 e, .int .u64 t, .int .i64 cap] w fun e' w' => e' = Dec (dcN e t (mostN cap)) ∧ w = w' := by
  have HC := Bx.mk (refMost_any cap hc)
  have hm := mostN_lt hc
  generalize mostN cap = m at *
  rcases Nat.eq_zero_or_pos e with rfl | h
  · rw [dc_zero, Dec_some]
    obtain ⟨T, hT⟩ := letter t
    rw [hT]
    clear hT hm ht hc HC
    go_enter Tryz.func67, Tryz.ntmps67
    go_wp2
    go_ret2
    exact ⟨rfl, rfl⟩
  obtain ⟨E, hE⟩ := letter e
  obtain ⟨T, hT⟩ := letter t
  have h1 : (E == 0) = false := by rw [beq_eq_false_iff_ne]; omega
  simp only [hE, hT]
  rcases Nat.eq_zero_or_pos m with rfl | h0
  · rw [dc_out t (by omega), Dec_none]
    clear hE hT hm ht he hc h
    go_enter Tryz.func67, Tryz.ntmps67
    go_wp2_with (go_at_call 98; refine (HC.out _).mono ?_; rintro e w' ⟨rfl, rfl⟩)
    go_ret2
    exact ⟨rfl, rfl⟩
  obtain ⟨M, hM⟩ := letter m
  obtain ⟨W, hW⟩ := letter (2 * m)
  have hmul : IntKind.u64.wrap (2 * M) = W := by rw [show 2 * M = W from by omega]; exact u64_keep (by omega) (by omega)
  have h3 : (M == 0) = false := by rw [beq_eq_false_iff_ne]; omega
  simp only [hM] at HC
  rcases Nat.lt_or_ge (2 * m) e with h' | h'
  · rw [dc_out t h', Dec_none]
    have h2 : decide (W < E) = true := by rw [decide_eq_true_iff]; omega
    clear hE hT hM hW hm ht he hc h h' h0
    go_enter Tryz.func67, Tryz.ntmps67
    go_wp2_with (go_at_call 98; refine (HC.out _).mono ?_; rintro e w' ⟨rfl, rfl⟩)
    go_ret2
    exact ⟨rfl, rfl⟩
  have h2 : decide (W < E) = false := by rw [decide_eq_false_iff_not]; omega
  have h4 : ¬ W = 0 := by omega
  rw [dc_ref h h']
  have hto : toN e t m = (t + m) / (2 * m) * (2 * m) + e - 1 := rfl
  have hdm := Nat.div_mul_le_self (t + m) (2 * m)
  have hdl := Nat.div_le_self (t + m) (2 * m)
  have htd := Int.ofNat_tdiv (t + m) (2 * m)
  generalize (t + m) / (2 * m) = q at hto hdm hdl htd
  have hqp : ((q * (2 * m) : Nat) : Int) = (q : Int) * ((2 * m : Nat) : Int) := Int.natCast_mul _ _
  generalize q * (2 * m) = p at hto hdm hqp
  generalize toN e t m = c at *
  obtain ⟨O, hO⟩ := letter (t + m)
  obtain ⟨U, hU⟩ := letter q
  obtain ⟨V, hV⟩ := letter p
  obtain ⟨C1, hC1⟩ := letter (p + e)
  obtain ⟨C, hC⟩ := letter c
  have ho : IntKind.u64.wrap (T + M) = O := by rw [show T + M = O from by omega]; exact u64_keep (by omega) (by omega)
  have hdiv : O.tdiv W = U := by rw [← hO, ← hW, ← hU]; exact htd.symm
  have hwu : IntKind.u64.wrap U = U := u64_keep (by omega) (by omega)
  have hv : IntKind.u64.wrap (U * W) = V := by rw [show U * W = V from by rw [← hU, ← hW, ← hV]; exact hqp.symm]; exact u64_keep (by omega) (by omega)
  have hc1 : IntKind.u64.wrap (V + E) = C1 := by rw [show V + E = C1 from by omega]; exact u64_keep (by omega) (by omega)
  have hc2 : IntKind.u64.wrap (C1 - 1) = C := by rw [show C1 - 1 = C from by omega]; exact u64_keep (by omega) (by omega)
  rcases Nat.lt_or_ge (t + m) (c) with h5 | h5
  · have h6 : decide (O < C) = true := by rw [decide_eq_true_iff]; omega
    rw [if_pos h5]
    by_cases h7 : c ≤ 2 * m
    · have h8 : decide (C ≤ W) = true := by rw [decide_eq_true_iff]; omega
      rw [if_pos h7, Dec_none]
      clear htd hqp hE hT hM hW hm ht he hc h h' h0 hdm hdl hO hU hV hC1 hC hto h5 h7
      go_enter Tryz.func67, Tryz.ntmps67
      go_wp2_with (go_at_call 98; refine (HC.out _).mono ?_; rintro e w' ⟨rfl, rfl⟩)
      go_ret2
      exact ⟨rfl, rfl⟩
    · have h8 : decide (C ≤ W) = false := by rw [decide_eq_false_iff_not]; omega
      obtain ⟨D, hD⟩ := letter (c - 2 * m)
      have hd : IntKind.u64.wrap (C - W) = D := by rw [show C - W = D from by omega]; exact u64_keep (by omega) (by omega)
      have h9 : (D == 0) = false := by rw [beq_eq_false_iff_ne]; omega
      rw [if_neg h7, Dec_some, hD]
      clear htd hqp hE hT hM hW hm ht he hc h h' h0 hdm hdl hO hU hV hC1 hC hto h5 h7 hD
      go_enter Tryz.func67, Tryz.ntmps67
      go_wp2_with (go_at_call 98; refine (HC.out _).mono ?_; rintro e w' ⟨rfl, rfl⟩)
      go_ret2
      exact ⟨rfl, rfl⟩
  · have h6 : decide (O < C) = false := by rw [decide_eq_false_iff_not]; omega
    rw [if_neg (by omega)]
    by_cases h7 : c = 0
    · rw [if_pos h7, Dec_none]
      obtain rfl : C = 0 := by omega
      clear htd hqp hE hT hM hW hm ht he hc h h' h0 hdm hdl hO hU hV hC1 hC hto h5 h7
      go_enter Tryz.func67, Tryz.ntmps67
      go_wp2_with (go_at_call 98; refine (HC.out _).mono ?_; rintro e w' ⟨rfl, rfl⟩)
      go_ret2
      exact ⟨rfl, rfl⟩
    · rw [if_neg h7, Dec_some, hC]
      have h8 : (C == 0) = false := by rw [beq_eq_false_iff_ne]; omega
      clear htd hqp hE hT hM hW hm ht he hc h h' h0 hdm hdl hO hU hV hC1 hC hto h5 h7
      go_enter Tryz.func67, Tryz.ntmps67
      go_wp2_with (go_at_call 98; refine (HC.out _).mono ?_; rintro e w' ⟨rfl, rfl⟩)
      go_ret2
      exact ⟨rfl, rfl⟩


end Go.Proofs.YtebakjdeighdnaaGreat

/-
  Contract of qtab.Prefix; of the document's Prefix.
-/
namespace Go.Proofs.YtebakjdeighdnaaGreat
open Go.RowKit
set_option linter.unusedVariables false

/-- A section's prefix, of a count and a base, of m entries at most. -/
def qpre (c b m : Nat) : List UInt8 := pre 0 8 (ecN c m) ++ (if c ≤ b then pre 0 7 (b - c) else pre 128 7 (c - b - 1))

theorem ecN_lt {c m : Nat} (hm : m < 288230376151711744) : ecN c m < 18446744073709551616 := by
  unfold ecN
  split
  · omega
  · have := Nat.mod_lt c (show 0 < 2 * m by omega)
    omega

theorem pre_len11 (f : UInt8) (k v : Nat) : (pre f k v).length ≤ 11 := by
  unfold pre
  split
  · simp
  · have := cont_length 10 (v - (2 ^ k - 1))
    simp; omega

theorem prefix_at (bV : Value) (bl : List UInt8) (f : UInt8) (F : Int) (hF : (f.toNat : Int) = F) (n : Int) (k : Nat) (hk : bitsOf n = k) (v : Nat) (V : Int) (hV : (v : Int) = V) (w : World) (hb : Bs w bV bl) (hbl : bl.length ≤ 200000) (hv : v < 18446744073709551616) :
    Calls Tryz.prog 85 #[bV, .int .u8 F, .int .i64 n, .int .u64 V] w fun e w' => ∃ v', e = .returned v' ∧ OwB w' w.heap.size v' (bl ++ pre f k v) ∧ Below w.heap.size w w' := by
  subst hF hk hV
  exact prefix_own bV bl f n v w hb hbl hv

set_option maxHeartbeats 1000000 in
theorem qPrefix_any (bV : Value) (bl : List UInt8) (c b : Nat) (cap : Int) (w : World) (hb : Bs w bV bl) (hbl : bl.length ≤ 199000) (hc : c < 18446744073709551616) (hb8 : b < 18446744073709551616) (hcap : cap < 9223372036854775808) :
    Calls Tryz.prog 61 #[bV, .int .u64 c, .int .u64 b, .int .i64 cap] w fun e w' => ∃ v', e = .returned v' ∧ OwB w' w.heap.size v' (bl ++ qpre c b (mostN cap)) ∧ Below w.heap.size w w' := by
  have hm := mostN_lt hcap
  have HE := Bx.mk (encodeCount_any c cap hc hcap)
  obtain ⟨EC, hEC⟩ := letter (ecN c (mostN cap))
  have hP1 := fun W (h : Bs W bV bl) => prefix_at bV bl 0 0 rfl 8 8 rfl _ EC hEC W h (by omega) (ecN_lt hm)
  have HP1 := Bx.mk hP1
  have Hpl := Bx.mk (pre_len11 0 8 (ecN c (mostN cap)))
  have Hbl := Bx.mk hbl
  have Hb := Bx.mk hb
  obtain ⟨C, hC⟩ := letter c
  obtain ⟨D, hD⟩ := letter b
  simp only [hC, hEC] at HE
  simp only [hC, hD]
  clear hP1 hEC
  unfold qpre
  by_cases h : c ≤ b
  · rw [if_pos h]
    have h1 : decide (C ≤ D) = true := by rw [decide_eq_true_iff]; omega
    obtain ⟨S, hS⟩ := letter (b - c)
    have hsub : IntKind.u64.wrap (D - C) = S := by rw [show D - C = S from by omega]; exact u64_keep (by omega) (by omega)
    have HP2 := Bx.mk fun W v l (h : Bs W v l) (hl : l.length ≤ 200000) => prefix_at v l 0 0 rfl 7 7 rfl (b - c) S hS W h hl (by omega)
    clear hS hC hD h hm hb hbl hc hb8 hcap
    go_enter Tryz.func61, Tryz.ntmps61
    go_wp2_with fail
    refine (HE.out _).mono ?_
    rintro e w' ⟨rfl, rfl⟩
    go_wp2_with fail
    refine (HP1.out _ Hb.out).mono ?_
    rintro e w1 ⟨v1, rfl, h1, b1⟩
    go_wp2_with fail
    refine (HP2.out _ _ _ h1.bs (by have := Hbl.out; have := Hpl.out; simp; omega)).mono ?_
    rintro e w2 ⟨v2, rfl, h2, b2⟩
    go_wp2_with fail
    go_ret
    exact ⟨_, rfl, by rw [← List.append_assoc]; exact h2.mono b1.size, b1.trans (b2.mono b1.size)⟩
  · rw [if_neg h]
    have h1 : decide (C ≤ D) = false := by rw [decide_eq_false_iff_not]; omega
    obtain ⟨S, hS⟩ := letter (c - b)
    obtain ⟨S', hS'⟩ := letter (c - b - 1)
    have hsub : IntKind.u64.wrap (C - D) = S := by rw [show C - D = S from by omega]; exact u64_keep (by omega) (by omega)
    have hsub2 : IntKind.u64.wrap (S - 1) = S' := by rw [show S - 1 = S' from by omega]; exact u64_keep (by omega) (by omega)
    have HP2 := Bx.mk fun W v l (h : Bs W v l) (hl : l.length ≤ 200000) => prefix_at v l 128 128 rfl 7 7 rfl (c - b - 1) S' hS' W h hl (by omega)
    clear hS hS' hC hD h hm hb hbl hc hb8 hcap
    go_enter Tryz.func61, Tryz.ntmps61
    go_wp2_with fail
    refine (HE.out _).mono ?_
    rintro e w' ⟨rfl, rfl⟩
    go_wp2_with fail
    refine (HP1.out _ Hb.out).mono ?_
    rintro e w1 ⟨v1, rfl, h1, b1⟩
    go_wp2_with fail
    refine (HP2.out _ _ _ h1.bs (by have := Hbl.out; have := Hpl.out; simp; omega)).mono ?_
    rintro e w2 ⟨v2, rfl, h2, b2⟩
    go_wp2_with fail
    go_ret
    exact ⟨_, rfl, by rw [← List.append_assoc]; exact h2.mono b1.size, b1.trans (b2.mono b1.size)⟩

end Go.Proofs.YtebakjdeighdnaaGreat
