/-
  Contracts of qtab.DecodeCount and of the document's DecodeCount.
-/
import Derived.Test.YtcehfegknckinaaQtB
namespace Go.Proofs.Ytcehfegknckinaa
open Go.RowKit
set_option linter.unusedVariables false

/-- How far a rest's number is ahead of a total. -/
def ahN (e t m : Nat) : Nat := (2 * m + e - 1 - t % (2 * m)) % (2 * m)

theorem dc_zero (t m : Nat) : dcN 0 t m = some 0 := by unfold dcN; rw [if_pos rfl]
theorem dc_out {e m : Nat} (t : Nat) (h : 2 * m < e) : dcN e t m = none := dcN_far h
theorem dc_in {e t m : Nat} (h0 : 0 < e) (h1 : e ≤ 2 * m) :
    ahN e t m < 2 * m ∧ dcN e t m = if m < ahN e t m then (if t + ahN e t m ≤ 2 * m then none else some (t + ahN e t m - 2 * m)) else (if t + ahN e t m = 0 then none else some (t + ahN e t m)) := by
  have hp : 0 < 2 * m := by omega
  have e1 := Nat.div_add_mod t (2 * m)
  have m1 := Nat.mod_lt t hp
  have e2 := Nat.div_add_mod (t + m) (2 * m)
  have m2 := Nat.mod_lt (t + m) hp
  have l1 : t / (2 * m) ≤ (t + m) / (2 * m) := Nat.div_le_div_right (by omega)
  have l2 : (t + m) / (2 * m) ≤ t / (2 * m) + 1 := by
    have := Nat.div_le_div_right (c := 2 * m) (show t + m ≤ t + 2 * m by omega)
    rwa [Nat.add_div_right _ hp] at this
  refine ⟨Nat.mod_lt _ hp, ?_⟩
  have hah : ahN e t m = if t % (2 * m) ≤ e - 1 then e - 1 - t % (2 * m) else 2 * m + e - 1 - t % (2 * m) := by
    unfold ahN
    generalize t % (2 * m) = u at *
    by_cases h : u ≤ e - 1
    · rw [if_pos h, show 2 * m + e - 1 - u = (e - 1 - u) + 2 * m by omega, Nat.add_mod_right, Nat.mod_eq_of_lt (by omega)]
    · rw [if_neg h, Nat.mod_eq_of_lt (by omega)]
  rw [hah]
  unfold dcN
  rw [if_neg (by omega), if_neg (by omega)]
  clear hah
  generalize t % (2 * m) = u at *
  generalize (t + m) % (2 * m) = u2 at *
  generalize t / (2 * m) = q at *
  generalize (t + m) / (2 * m) = q2 at *
  rcases (by omega : q2 = q ∨ q2 = q + 1) with rfl | rfl
  · rw [Nat.mul_comm q2 (2 * m)] at *
    generalize 2 * m * q2 = p at *
    (repeat' split) <;> first | rfl | (exact congrArg some (by omega)) | (exfalso; omega)
  · rw [Nat.mul_comm (q + 1) (2 * m)] at *
    rw [Nat.mul_succ] at *
    generalize 2 * m * q = p at *
    (repeat' split) <;> first | rfl | (exact congrArg some (by omega)) | (exfalso; omega)

/-- A count, or the error of a place. -/
def Dec : Option Nat → Ending
  | some n => .returned (.tuple #[.int .u64 (n : Int), .int .i64 0])
  | none => .returned (.tuple #[.int .u64 0, .int .i64 24])
theorem Dec_some (n : Nat) : Dec (some n) = .returned (.tuple #[.int .u64 (n : Int), .int .i64 0]) := rfl
theorem Dec_none : Dec none = .returned (.tuple #[.int .u64 0, .int .i64 24]) := rfl

theorem decodeCount_any (e t : Nat) (cap : Int) (he : e < 18446744073709551616) (ht : t < 4611686018427387904) (hc : cap < 9223372036854775808) (w : World) :
    Calls Try.prog 7 #[.int .u64 e, .int .u64 t, .int .i64 cap] w fun e' w' => e' = Dec (dcN e t (mostN cap)) ∧ w = w' := by
  have HC := Bx.mk (most_any cap hc)
  have hm := mostN_lt hc
  generalize mostN cap = m at *
  rcases Nat.eq_zero_or_pos e with rfl | h
  · rw [dc_zero, Dec_some]
    obtain ⟨T, hT⟩ := letter t
    rw [hT]
    clear hT hm ht hc HC
    go_enter Try.func7, Try.ntmps7
    go_wp2
    go_ret2
    exact ⟨rfl, rfl⟩
  rcases Nat.lt_or_ge (2 * m) e with h' | h'
  · rw [dc_out t h', Dec_none]
    obtain ⟨E, hE⟩ := letter e
    obtain ⟨T, hT⟩ := letter t
    obtain ⟨M, hM⟩ := letter m
    obtain ⟨W, hW⟩ := letter (2 * m)
    simp only [hM] at HC
    simp only [hE, hT]
    have h1 : (E == 0) = false := by rw [beq_eq_false_iff_ne]; omega
    have h2 : decide (W < E) = true := by rw [decide_eq_true_iff]; omega
    have hmul : IntKind.u64.wrap (2 * M) = W := by rw [show 2 * M = W from by omega]; exact u64_keep (by omega) (by omega)
    clear hE hT hM hW hm ht he hc h h'
    go_enter Try.func7, Try.ntmps7
    go_wp2_with (go_at_call 17; refine (HC.out _).mono ?_; rintro e w' ⟨rfl, rfl⟩)
    go_ret2
    exact ⟨rfl, rfl⟩
  rw [(dc_in (t := t) h h').2]
  rcases Nat.lt_or_ge m (ahN e t m) with h3 | h3
  · rw [if_pos h3]
    have hah := (dc_in (t := t) h h').1
    obtain ⟨E, hE⟩ := letter e
    obtain ⟨T, hT⟩ := letter t
    obtain ⟨M, hM⟩ := letter m
    obtain ⟨W, hW⟩ := letter (2 * m)
    obtain ⟨U, hU⟩ := letter (t % (2 * m))
    obtain ⟨X1, hX1⟩ := letter (2 * m + e)
    obtain ⟨X2, hX2⟩ := letter (2 * m + e - 1)
    obtain ⟨X3, hX3⟩ := letter (2 * m + e - 1 - t % (2 * m))
    obtain ⟨AH, hAH⟩ := letter (ahN e t m)
    have hlt := Nat.mod_lt t (show 0 < 2 * m by omega)
    have h1 : (E == 0) = false := by rw [beq_eq_false_iff_ne]; omega
    have h2 : decide (W < E) = false := by rw [decide_eq_false_iff_not]; omega
    have h4 : ¬ W = 0 := by omega
    have hmul : IntKind.u64.wrap (2 * M) = W := by rw [show 2 * M = W from by omega]; exact u64_keep (by omega) (by omega)
    have hx1 : IntKind.u64.wrap (W + E) = X1 := by rw [show W + E = X1 from by omega]; exact u64_keep (by omega) (by omega)
    have hx2 : IntKind.u64.wrap (X1 - 1) = X2 := by rw [show X1 - 1 = X2 from by omega]; exact u64_keep (by omega) (by omega)
    have hrem : T.tmod W = U := by rw [← hT, ← hW, ← hU]; exact Int.ofNat_tmod t (2 * m)
    have hwu : IntKind.u64.wrap U = U := u64_keep (by omega) (by omega)
    have hx3 : IntKind.u64.wrap (X2 - U) = X3 := by rw [show X2 - U = X3 from by omega]; exact u64_keep (by omega) (by omega)
    have hrem2 : X3.tmod W = AH := by rw [← hX3, ← hW, ← hAH]; exact Int.ofNat_tmod _ (2 * m)
    have hwa : IntKind.u64.wrap AH = AH := u64_keep (by omega) (by omega)
    have hs := sum_any t (ahN e t m) 18446744073709551615 (by omega) (by omega) (by omega)
    obtain ⟨Q, hQ⟩ := letter 18446744073709551615
    rw [show sumN t (ahN e t m) 18446744073709551615 = some (t + ahN e t m) from by unfold sumN; rw [if_pos (by omega)], Opt_some] at hs
    obtain ⟨S, hS⟩ := letter (t + ahN e t m)
    simp only [hM] at HC
    simp only [hT, hAH, hQ, hS] at hs
    obtain rfl : Q = 18446744073709551615 := by omega
    have HS := Bx.mk hs
    simp only [hE, hT]
    have h5 : decide (M < AH) = true := by rw [decide_eq_true_iff]; omega
    obtain ⟨Y, hY⟩ := letter (2 * m - ahN e t m)
    have hy : IntKind.u64.wrap (W - AH) = Y := by rw [show W - AH = Y from by omega]; exact u64_keep (by omega) (by omega)
    have hl := less_any t (2 * m - ahN e t m) (by omega)
    by_cases h6 : t < 2 * m - ahN e t m
    · rw [if_pos (by omega), Dec_none]
      rw [show lessN t (2 * m - ahN e t m) = none from by unfold lessN; rw [if_neg (by omega)], Opt_none] at hl
      simp only [hT, hY] at hl
      have HL := Bx.mk hl
      clear hs hE hT hM hW hU hX1 hX2 hX3 hAH hlt hah ht he hc hm h h' hS hQ h3 h6 hl hY
      go_enter Try.func7, Try.ntmps7
      go_wp2_with (first | (go_at_call 17; refine (HC.out _).mono ?_; rintro e w' ⟨rfl, rfl⟩) | (go_at_call 18; refine (HS.out _).mono ?_; rintro e w' ⟨rfl, rfl⟩) | (go_at_call 19; refine (HL.out _).mono ?_; rintro e w' ⟨rfl, rfl⟩))
      go_ret2
      exact ⟨rfl, rfl⟩
    · obtain ⟨D, hD⟩ := letter (t + ahN e t m - 2 * m)
      rw [show lessN t (2 * m - ahN e t m) = some (t + ahN e t m - 2 * m) from by unfold lessN; rw [if_pos (by omega)]; exact congrArg some (by omega), Opt_some] at hl
      simp only [hT, hY, hD] at hl
      have HL := Bx.mk hl
      by_cases h7 : t + ahN e t m ≤ 2 * m
      · rw [if_pos h7, Dec_none]
        obtain rfl : D = 0 := by omega
        clear hs hE hT hM hW hU hX1 hX2 hX3 hAH hlt hah ht he hc hm h h' hS hQ h3 h6 h7 hl hY hD
        go_enter Try.func7, Try.ntmps7
        go_wp2_with (first | (go_at_call 17; refine (HC.out _).mono ?_; rintro e w' ⟨rfl, rfl⟩) | (go_at_call 18; refine (HS.out _).mono ?_; rintro e w' ⟨rfl, rfl⟩) | (go_at_call 19; refine (HL.out _).mono ?_; rintro e w' ⟨rfl, rfl⟩))
        go_ret2
        exact ⟨rfl, rfl⟩
      · rw [if_neg h7, Dec_some, hD]
        have h8 : (D == 0) = false := by rw [beq_eq_false_iff_ne]; omega
        clear hs hE hT hM hW hU hX1 hX2 hX3 hAH hlt hah ht he hc hm h h' hS hQ h3 h6 h7 hl hY hD
        go_enter Try.func7, Try.ntmps7
        go_wp2_with (first | (go_at_call 17; refine (HC.out _).mono ?_; rintro e w' ⟨rfl, rfl⟩) | (go_at_call 18; refine (HS.out _).mono ?_; rintro e w' ⟨rfl, rfl⟩) | (go_at_call 19; refine (HL.out _).mono ?_; rintro e w' ⟨rfl, rfl⟩))
        go_ret2
        exact ⟨rfl, rfl⟩
  · rw [if_neg (by omega)]
    have hah := (dc_in (t := t) h h').1
    obtain ⟨E, hE⟩ := letter e
    obtain ⟨T, hT⟩ := letter t
    obtain ⟨M, hM⟩ := letter m
    obtain ⟨W, hW⟩ := letter (2 * m)
    obtain ⟨U, hU⟩ := letter (t % (2 * m))
    obtain ⟨X1, hX1⟩ := letter (2 * m + e)
    obtain ⟨X2, hX2⟩ := letter (2 * m + e - 1)
    obtain ⟨X3, hX3⟩ := letter (2 * m + e - 1 - t % (2 * m))
    obtain ⟨AH, hAH⟩ := letter (ahN e t m)
    have hlt := Nat.mod_lt t (show 0 < 2 * m by omega)
    have h1 : (E == 0) = false := by rw [beq_eq_false_iff_ne]; omega
    have h2 : decide (W < E) = false := by rw [decide_eq_false_iff_not]; omega
    have h4 : ¬ W = 0 := by omega
    have hmul : IntKind.u64.wrap (2 * M) = W := by rw [show 2 * M = W from by omega]; exact u64_keep (by omega) (by omega)
    have hx1 : IntKind.u64.wrap (W + E) = X1 := by rw [show W + E = X1 from by omega]; exact u64_keep (by omega) (by omega)
    have hx2 : IntKind.u64.wrap (X1 - 1) = X2 := by rw [show X1 - 1 = X2 from by omega]; exact u64_keep (by omega) (by omega)
    have hrem : T.tmod W = U := by rw [← hT, ← hW, ← hU]; exact Int.ofNat_tmod t (2 * m)
    have hwu : IntKind.u64.wrap U = U := u64_keep (by omega) (by omega)
    have hx3 : IntKind.u64.wrap (X2 - U) = X3 := by rw [show X2 - U = X3 from by omega]; exact u64_keep (by omega) (by omega)
    have hrem2 : X3.tmod W = AH := by rw [← hX3, ← hW, ← hAH]; exact Int.ofNat_tmod _ (2 * m)
    have hwa : IntKind.u64.wrap AH = AH := u64_keep (by omega) (by omega)
    have hs := sum_any t (ahN e t m) 18446744073709551615 (by omega) (by omega) (by omega)
    obtain ⟨Q, hQ⟩ := letter 18446744073709551615
    rw [show sumN t (ahN e t m) 18446744073709551615 = some (t + ahN e t m) from by unfold sumN; rw [if_pos (by omega)], Opt_some] at hs
    obtain ⟨S, hS⟩ := letter (t + ahN e t m)
    simp only [hM] at HC
    simp only [hT, hAH, hQ, hS] at hs
    obtain rfl : Q = 18446744073709551615 := by omega
    have HS := Bx.mk hs
    simp only [hE, hT]
    have h5 : decide (M < AH) = false := by rw [decide_eq_false_iff_not]; omega
    by_cases h7 : t + ahN e t m = 0
    · rw [if_pos h7, Dec_none]
      obtain rfl : S = 0 := by omega
      clear hs hE hT hM hW hU hX1 hX2 hX3 hAH hlt hah ht he hc hm h h' hS hQ h3 h7
      go_enter Try.func7, Try.ntmps7
      go_wp2_with (first | (go_at_call 17; refine (HC.out _).mono ?_; rintro e w' ⟨rfl, rfl⟩) | (go_at_call 18; refine (HS.out _).mono ?_; rintro e w' ⟨rfl, rfl⟩) | (go_at_call 19; refine (HL.out _).mono ?_; rintro e w' ⟨rfl, rfl⟩))
      go_ret2
      exact ⟨rfl, rfl⟩
    · rw [if_neg h7, Dec_some, hS]
      have h8 : (S == 0) = false := by rw [beq_eq_false_iff_ne]; omega
      clear hs hE hT hM hW hU hX1 hX2 hX3 hAH hlt hah ht he hc hm h h' hS hQ h3 h7
      go_enter Try.func7, Try.ntmps7
      go_wp2_with (first | (go_at_call 17; refine (HC.out _).mono ?_; rintro e w' ⟨rfl, rfl⟩) | (go_at_call 18; refine (HS.out _).mono ?_; rintro e w' ⟨rfl, rfl⟩) | (go_at_call 19; refine (HL.out _).mono ?_; rintro e w' ⟨rfl, rfl⟩))
      go_ret2
      exact ⟨rfl, rfl⟩


end Go.Proofs.Ytcehfegknckinaa
