/-
  Contracts of qtab.EncodeCount, and of the document's EncodeCount, Relative, Post.
-/
import Derived.Test.YtcehfegknckinaaQtA
namespace Go.Proofs.Ytcehfegknckinaa
open Go.RowKit
set_option linter.unusedVariables false

theorem encodeCount_any (a : Nat) (cap : Int) (ha : a < 18446744073709551616) (hc : cap < 9223372036854775808) (w : World) :
    Calls Try.prog 9 #[.int .u64 a, .int .i64 cap] w fun e w' => e = .returned (.int .u64 (ecN a (mostN cap))) ∧ w = w' := by
  have HC := Bx.mk (most_any cap hc)
  have hm := mostN_lt hc
  generalize mostN cap = m at *
  rcases Nat.eq_zero_or_pos a with rfl | h
  · have hs : ecN 0 m = 0 := by unfold ecN; rw [if_pos (.inl rfl)]
    rw [hs]
    obtain ⟨M, hM⟩ := letter m
    obtain ⟨W, hW⟩ := letter (2 * m)
    simp only [hM] at HC
    have hmul : IntKind.u64.wrap (2 * M) = W := by rw [show 2 * M = W from by omega]; exact u64_keep (by omega) (by omega)
    clear hs hM hW hm ha hc
    go_enter Try.func9, Try.ntmps9
    go_wp2_with (go_at_call 17; refine (HC.out _).mono ?_; rintro e w' ⟨rfl, rfl⟩)
    go_ret
    exact ⟨rfl, rfl⟩
  rcases Nat.eq_zero_or_pos m with rfl | h'
  · have hs : ecN a 0 = 0 := by unfold ecN; rw [if_pos (.inr rfl)]
    rw [hs]
    obtain ⟨A, hA⟩ := letter a
    simp only [hA]
    have h1 : (A == 0) = false := by rw [beq_eq_false_iff_ne]; omega
    clear hs hA hm ha hc h
    go_enter Try.func9, Try.ntmps9
    go_wp2_with (go_at_call 17; refine (HC.out _).mono ?_; rintro e w' ⟨rfl, rfl⟩)
    go_ret
    exact ⟨rfl, rfl⟩
  · have hs : ecN a m = a % (2 * m) + 1 := by unfold ecN; rw [if_neg (by omega)]
    rw [hs]
    obtain ⟨A, hA⟩ := letter a
    obtain ⟨M, hM⟩ := letter m
    obtain ⟨W, hW⟩ := letter (2 * m)
    obtain ⟨R, hR⟩ := letter (a % (2 * m))
    obtain ⟨E, hE⟩ := letter (a % (2 * m) + 1)
    simp only [hA, hE, hM] at HC ⊢
    have hlt := Nat.mod_lt a (show 0 < 2 * m by omega)
    have hW2 : ((2:Nat):Int) * M = W := by rw [← hM, ← hW]; exact (Int.natCast_mul 2 m).symm
    have hmul : IntKind.u64.wrap (2 * M) = W := by rw [show 2 * M = W from by omega]; exact u64_keep (by omega) (by omega)
    have h1 : (A == 0) = false := by rw [beq_eq_false_iff_ne]; omega
    have h2 : (W == 0) = false := by rw [beq_eq_false_iff_ne]; omega
    have h3 : (M == 0) = false := by rw [beq_eq_false_iff_ne]; omega
    have h4 : ¬ W = 0 := by omega
    have hrem : A.tmod W = R := by rw [← hA, ← hW, ← hR]; exact Int.ofNat_tmod a (2 * m)
    have hwr : IntKind.u64.wrap R = R := u64_keep (by omega) (by omega)
    have hadd : IntKind.u64.wrap (R + 1) = E := by rw [show R + 1 = E from by omega]; exact u64_keep (by omega) (by omega)
    clear hs hA hM hW hR hE hlt hW2 hm ha hc h h'
    go_enter Try.func9, Try.ntmps9
    go_wp2_with (go_at_call 17; refine (HC.out _).mono ?_; rintro e w' ⟨rfl, rfl⟩)
    go_ret
    exact ⟨rfl, rfl⟩

theorem refEncodeCount_any (a : Nat) (cap : Int) (ha : a < 18446744073709551616) (hc : cap < 9223372036854775808) (w : World) :
    Calls Try.prog 10 #[.int .u64 a, .int .i64 cap] w fun e w' => e = .returned (.int .u64 (ecN a (mostN cap))) ∧ w = w' := by
  have HC := Bx.mk (refMost_any cap hc)
  have hm := mostN_lt hc
  generalize mostN cap = m at *
  rcases Nat.eq_zero_or_pos a with rfl | h
  · have hs : ecN 0 m = 0 := by unfold ecN; rw [if_pos (.inl rfl)]
    rw [hs]
    obtain ⟨M, hM⟩ := letter m
    obtain ⟨W, hW⟩ := letter (2 * m)
    simp only [hM] at HC
    have hmul : IntKind.u64.wrap (2 * M) = W := by rw [show 2 * M = W from by omega]; exact u64_keep (by omega) (by omega)
    clear hs hM hW hm ha hc
    go_enter Try.func10, Try.ntmps10
    go_wp2_with (go_at_call 20; refine (HC.out _).mono ?_; rintro e w' ⟨rfl, rfl⟩)
    go_ret
    exact ⟨rfl, rfl⟩
  rcases Nat.eq_zero_or_pos m with rfl | h'
  · have hs : ecN a 0 = 0 := by unfold ecN; rw [if_pos (.inr rfl)]
    rw [hs]
    obtain ⟨A, hA⟩ := letter a
    simp only [hA]
    have h1 : (A == 0) = false := by rw [beq_eq_false_iff_ne]; omega
    clear hs hA hm ha hc h
    go_enter Try.func10, Try.ntmps10
    go_wp2_with (go_at_call 20; refine (HC.out _).mono ?_; rintro e w' ⟨rfl, rfl⟩)
    go_ret
    exact ⟨rfl, rfl⟩
  · have hs : ecN a m = a % (2 * m) + 1 := by unfold ecN; rw [if_neg (by omega)]
    rw [hs]
    obtain ⟨A, hA⟩ := letter a
    obtain ⟨M, hM⟩ := letter m
    obtain ⟨W, hW⟩ := letter (2 * m)
    obtain ⟨R, hR⟩ := letter (a % (2 * m))
    obtain ⟨E, hE⟩ := letter (a % (2 * m) + 1)
    simp only [hA, hE, hM] at HC ⊢
    have hlt := Nat.mod_lt a (show 0 < 2 * m by omega)
    have hW2 : ((2:Nat):Int) * M = W := by rw [← hM, ← hW]; exact (Int.natCast_mul 2 m).symm
    have hmul : IntKind.u64.wrap (2 * M) = W := by rw [show 2 * M = W from by omega]; exact u64_keep (by omega) (by omega)
    have h1 : (A == 0) = false := by rw [beq_eq_false_iff_ne]; omega
    have h2 : (W == 0) = false := by rw [beq_eq_false_iff_ne]; omega
    have h3 : (M == 0) = false := by rw [beq_eq_false_iff_ne]; omega
    have h4 : ¬ W = 0 := by omega
    have hrem : A.tmod W = R := by rw [← hA, ← hW, ← hR]; exact Int.ofNat_tmod a (2 * m)
    have hwr : IntKind.u64.wrap R = R := u64_keep (by omega) (by omega)
    have hadd : IntKind.u64.wrap (R + 1) = E := by rw [show R + 1 = E from by omega]; exact u64_keep (by omega) (by omega)
    clear hs hA hM hW hR hE hlt hW2 hm ha hc h h'
    go_enter Try.func10, Try.ntmps10
    go_wp2_with (go_at_call 20; refine (HC.out _).mono ?_; rintro e w' ⟨rfl, rfl⟩)
    go_ret
    exact ⟨rfl, rfl⟩

theorem refRelative_any (a b : Nat) (ha : a < 18446744073709551616) (w : World) :
    Calls Try.prog 12 #[.int .u64 a, .int .u64 b] w fun e w' => e = Opt (relN a b) ∧ w = w' := by
  have HA := Bx.mk ha
  clear ha
  rcases Nat.lt_or_ge b a with h | h
  · have hs : relN a b = some (a - 1 - b) := by unfold relN; rw [if_pos (by omega)]
    rw [hs]
    rw [Opt_some]
    obtain ⟨A, hA⟩ := letter a
    obtain ⟨B, hB⟩ := letter b
    obtain ⟨C, hC⟩ := letter (a - 1)
    obtain ⟨D, hD⟩ := letter (a - 1 - b)
    rw [hA, hB, hD]
    have h1 : decide (A ≤ B) = false := by rw [decide_eq_false_iff_not]; omega
    have hpre : IntKind.u64.wrap (A - 1) = C := by rw [show A - 1 = C from by omega]; exact u64_keep (by omega) (by have := HA.out; omega)
    have hsub : IntKind.u64.wrap (C - B) = D := by rw [show C - B = D from by omega]; exact u64_keep (by omega) (by have := HA.out; omega)
    clear h hs hA hB hC hD HA
    go_enter Try.func12, Try.ntmps12
    go_wp2
    go_ret2
    exact ⟨rfl, rfl⟩
  · have hs : relN a b = none := by unfold relN; rw [if_neg (by omega)]
    rw [hs]
    rw [Opt_none]
    obtain ⟨A, hA⟩ := letter a
    obtain ⟨B, hB⟩ := letter b
    rw [hA, hB]
    have h1 : decide (A ≤ B) = true := by rw [decide_eq_true_iff]; omega
    clear h hs hA hB HA
    go_enter Try.func12, Try.ntmps12
    go_wp2
    go_ret2
    exact ⟨rfl, rfl⟩


theorem refPost_any (a b : Nat) (ha : a < 18446744073709551616) (hb : b < 18446744073709551616) (w : World) :
    Calls Try.prog 14 #[.int .u64 a, .int .u64 b] w fun e w' => e = Opt (sumN a b 4611686018427387903) ∧ w = w' := by
  rcases Nat.lt_or_ge 4611686018427387903 a with h | h
  · have hs : sumN a b 4611686018427387903 = none := by unfold sumN; rw [if_neg (by omega)]
    rw [hs, Opt_none]
    obtain ⟨A, hA⟩ := letter a
    obtain ⟨B, hB⟩ := letter b
    rw [hA, hB]
    have h1 : decide (4611686018427387903 < A) = true := by rw [decide_eq_true_iff]; omega
    clear h hs hA hB ha hb
    go_enter Try.func14, Try.ntmps14
    go_wp2
    go_ret2
    exact ⟨rfl, rfl⟩
  · rcases Nat.lt_or_ge (4611686018427387903 - a) b with h' | h'
    · have hs : sumN a b 4611686018427387903 = none := by unfold sumN; rw [if_neg (by omega)]
      rw [hs, Opt_none]
      obtain ⟨A, hA⟩ := letter a
      obtain ⟨B, hB⟩ := letter b
      obtain ⟨D, hD⟩ := letter (4611686018427387903 - a)
      rw [hA, hB]
      have h1 : decide (4611686018427387903 < A) = false := by rw [decide_eq_false_iff_not]; omega
      have hsub : IntKind.u64.wrap (4611686018427387903 - A) = D := by rw [show 4611686018427387903 - A = D from by omega]; exact u64_keep (by omega) (by omega)
      have h2 : decide (D < B) = true := by rw [decide_eq_true_iff]; omega
      clear h h' hs hA hB hD ha hb
      go_enter Try.func14, Try.ntmps14
      go_wp2
      go_ret2
      exact ⟨rfl, rfl⟩
    · have hs : sumN a b 4611686018427387903 = some (a + b) := by unfold sumN; rw [if_pos (by omega)]
      rw [hs, Opt_some]
      obtain ⟨A, hA⟩ := letter a
      obtain ⟨B, hB⟩ := letter b
      obtain ⟨D, hD⟩ := letter (4611686018427387903 - a)
      obtain ⟨S, hS⟩ := letter (a + b)
      rw [hA, hB, hS]
      have h1 : decide (4611686018427387903 < A) = false := by rw [decide_eq_false_iff_not]; omega
      have hsub : IntKind.u64.wrap (4611686018427387903 - A) = D := by rw [show 4611686018427387903 - A = D from by omega]; exact u64_keep (by omega) (by omega)
      have h2 : decide (D < B) = false := by rw [decide_eq_false_iff_not]; omega
      have hadd : IntKind.u64.wrap (A + B) = S := by rw [show A + B = S from by omega]; exact u64_keep (by omega) (by omega)
      clear h h' hs hA hB hD hS ha hb
      go_enter Try.func14, Try.ntmps14
      go_wp2
      go_ret2
      exact ⟨rfl, rfl⟩


end Go.Proofs.Ytcehfegknckinaa
