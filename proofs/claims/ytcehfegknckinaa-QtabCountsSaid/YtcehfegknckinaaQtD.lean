/-
  Contract of the document's DecodeCount.
-/
import Derived.Test.YtcehfegknckinaaQtC
namespace Go.Proofs.Ytcehfegknckinaa
open Go.RowKit
set_option linter.unusedVariables false

/-- The number that a rest comes to at first. -/
def toN (e t m : Nat) : Nat := (t + m) / (2 * m) * (2 * m) + e - 1
theorem dc_ref {e t m : Nat} (h0 : 0 < e) (h1 : e ≤ 2 * m) :
    dcN e t m = if t + m < toN e t m then (if toN e t m ≤ 2 * m then none else some (toN e t m - 2 * m)) else if toN e t m = 0 then none else some (toN e t m) := by
  unfold dcN toN
  rw [if_neg (by omega), if_neg (by omega)]

theorem refDecodeCount_any (e t : Nat) (cap : Int) (he : e < 18446744073709551616) (ht : t < 4611686018427387904) (hc : cap < 9223372036854775808) (w : World) :
    Calls Try.prog 8 #[.int .u64 e, .int .u64 t, .int .i64 cap] w fun e' w' => e' = Dec (dcN e t (mostN cap)) ∧ w = w' := by
  have HC := Bx.mk (refMost_any cap hc)
  have hm := mostN_lt hc
  generalize mostN cap = m at *
  rcases Nat.eq_zero_or_pos e with rfl | h
  · rw [dc_zero, Dec_some]
    obtain ⟨T, hT⟩ := letter t
    rw [hT]
    clear hT hm ht hc HC
    go_enter Try.func8, Try.ntmps8
    go_wp2
    go_ret2
    exact ⟨rfl, rfl⟩
  obtain ⟨E, hE⟩ := letter e
  obtain ⟨T, hT⟩ := letter t
  have h1 : (E == 0) = false := by rw [beq_eq_false_iff_ne]; omega
  simp only [hE, hT]
  rcases Nat.eq_zero_or_pos m with rfl | h0
  · rw [dc_out t (by omega), Dec_none]
    clear hE hT hm ht he hc h
    go_enter Try.func8, Try.ntmps8
    go_wp2_with (go_at_call 20; refine (HC.out _).mono ?_; rintro e w' ⟨rfl, rfl⟩)
    go_ret2
    exact ⟨rfl, rfl⟩
  obtain ⟨M, hM⟩ := letter m
  obtain ⟨W, hW⟩ := letter (2 * m)
  have hmul : IntKind.u64.wrap (2 * M) = W := by rw [show 2 * M = W from by omega]; exact u64_keep (by omega) (by omega)
  have h3 : (M == 0) = false := by rw [beq_eq_false_iff_ne]; omega
  simp only [hM] at HC
  rcases Nat.lt_or_ge (2 * m) e with h' | h'
  · rw [dc_out t h', Dec_none]
    have h2 : decide (W < E) = true := by rw [decide_eq_true_iff]; omega
    clear hE hT hM hW hm ht he hc h h' h0
    go_enter Try.func8, Try.ntmps8
    go_wp2_with (go_at_call 20; refine (HC.out _).mono ?_; rintro e w' ⟨rfl, rfl⟩)
    go_ret2
    exact ⟨rfl, rfl⟩
  have h2 : decide (W < E) = false := by rw [decide_eq_false_iff_not]; omega
  have h4 : ¬ W = 0 := by omega
  rw [dc_ref h h']
  have hto : toN e t m = (t + m) / (2 * m) * (2 * m) + e - 1 := rfl
  have hdm := Nat.div_mul_le_self (t + m) (2 * m)
  have hdl := Nat.div_le_self (t + m) (2 * m)
  have htd := Int.ofNat_tdiv (t + m) (2 * m)
  generalize (t + m) / (2 * m) = q at hto hdm hdl htd
  have hqp : ((q * (2 * m) : Nat) : Int) = (q : Int) * ((2 * m : Nat) : Int) := Int.natCast_mul _ _
  generalize q * (2 * m) = p at hto hdm hqp
  generalize toN e t m = c at *
  obtain ⟨O, hO⟩ := letter (t + m)
  obtain ⟨U, hU⟩ := letter q
  obtain ⟨V, hV⟩ := letter p
  obtain ⟨C1, hC1⟩ := letter (p + e)
  obtain ⟨C, hC⟩ := letter c
  have ho : IntKind.u64.wrap (T + M) = O := by rw [show T + M = O from by omega]; exact u64_keep (by omega) (by omega)
  have hdiv : O.tdiv W = U := by rw [← hO, ← hW, ← hU]; exact htd.symm
  have hwu : IntKind.u64.wrap U = U := u64_keep (by omega) (by omega)
  have hv : IntKind.u64.wrap (U * W) = V := by rw [show U * W = V from by rw [← hU, ← hW, ← hV]; exact hqp.symm]; exact u64_keep (by omega) (by omega)
  have hc1 : IntKind.u64.wrap (V + E) = C1 := by rw [show V + E = C1 from by omega]; exact u64_keep (by omega) (by omega)
  have hc2 : IntKind.u64.wrap (C1 - 1) = C := by rw [show C1 - 1 = C from by omega]; exact u64_keep (by omega) (by omega)
  rcases Nat.lt_or_ge (t + m) (c) with h5 | h5
  · have h6 : decide (O < C) = true := by rw [decide_eq_true_iff]; omega
    rw [if_pos h5]
    by_cases h7 : c ≤ 2 * m
    · have h8 : decide (C ≤ W) = true := by rw [decide_eq_true_iff]; omega
      rw [if_pos h7, Dec_none]
      clear htd hqp hE hT hM hW hm ht he hc h h' h0 hdm hdl hO hU hV hC1 hC hto h5 h7
      go_enter Try.func8, Try.ntmps8
      go_wp2_with (go_at_call 20; refine (HC.out _).mono ?_; rintro e w' ⟨rfl, rfl⟩)
      go_ret2
      exact ⟨rfl, rfl⟩
    · have h8 : decide (C ≤ W) = false := by rw [decide_eq_false_iff_not]; omega
      obtain ⟨D, hD⟩ := letter (c - 2 * m)
      have hd : IntKind.u64.wrap (C - W) = D := by rw [show C - W = D from by omega]; exact u64_keep (by omega) (by omega)
      have h9 : (D == 0) = false := by rw [beq_eq_false_iff_ne]; omega
      rw [if_neg h7, Dec_some, hD]
      clear htd hqp hE hT hM hW hm ht he hc h h' h0 hdm hdl hO hU hV hC1 hC hto h5 h7 hD
      go_enter Try.func8, Try.ntmps8
      go_wp2_with (go_at_call 20; refine (HC.out _).mono ?_; rintro e w' ⟨rfl, rfl⟩)
      go_ret2
      exact ⟨rfl, rfl⟩
  · have h6 : decide (O < C) = false := by rw [decide_eq_false_iff_not]; omega
    rw [if_neg (by omega)]
    by_cases h7 : c = 0
    · rw [if_pos h7, Dec_none]
      obtain rfl : C = 0 := by omega
      clear htd hqp hE hT hM hW hm ht he hc h h' h0 hdm hdl hO hU hV hC1 hC hto h5 h7
      go_enter Try.func8, Try.ntmps8
      go_wp2_with (go_at_call 20; refine (HC.out _).mono ?_; rintro e w' ⟨rfl, rfl⟩)
      go_ret2
      exact ⟨rfl, rfl⟩
    · rw [if_neg h7, Dec_some, hC]
      have h8 : (C == 0) = false := by rw [beq_eq_false_iff_ne]; omega
      clear htd hqp hE hT hM hW hm ht he hc h h' h0 hdm hdl hO hU hV hC1 hC hto h5 h7
      go_enter Try.func8, Try.ntmps8
      go_wp2_with (go_at_call 20; refine (HC.out _).mono ?_; rintro e w' ⟨rfl, rfl⟩)
      go_ret2
      exact ⟨rfl, rfl⟩


end Go.Proofs.Ytcehfegknckinaa
