/-
  Contracts of the small functions of package qtab (most, sum, less, Relative, Post, EncodeCount, baseAt), and of the document's most, Relative, Post, EncodeCount.
-/
import Derived.Test.YtcehfegknckinaaStep
import Derived.Test.YtcehfegknckinaaQtMath
import Derived.Test.YtcehfegknckinaaRows
import Derived.WalkKit
import Derived.WalkSpells
import Derived.WalkLawsBesides
import Derived.Lib.MinMax
import Derived.Lib.Hide
import Derived.Handy
namespace Go.Proofs.Ytcehfegknckinaa
open Go.RowKit
set_option linter.unusedVariables false

/-- How many entries a table of a capacity has at most. -/
def mostN (cap : Int) : Nat := (max cap 0).toNat / 32

theorem mostN_lt {cap : Int} (h : cap < 9223372036854775808) : mostN cap < 288230376151711744 := by unfold mostN; omega
theorem quc_wf {a : Int} (h : (Lit.int .i64 a).wf = true) : -9223372036854775808 ≤ a ∧ a < 9223372036854775808 := by
  simp [Lit.wf, IntKind.min, IntKind.max, IntKind.signed, IntKind.bits] at h
  omega

theorem retI {k : IntKind} {a b : Int} (h : a = b) : Ending.returned (.int k a) = .returned (.int k b) := by rw [h]
theorem u64_keep {a : Int} (h0 : 0 ≤ a) (h1 : a < 18446744073709551616) : IntKind.u64.wrap a = a := by rw [IntKind.wrap_u64]; omega

theorem most_any (cap : Int) (h : cap < 9223372036854775808) (w : World) :
    Calls Try.prog 17 #[.int .i64 cap] w fun e w' => e = .returned (.int .u64 (mostN cap)) ∧ w = w' := by
  obtain ⟨x, hx⟩ : ∃ x : Nat, max cap 0 = (x : Int) := ⟨(max cap 0).toNat, by omega⟩
  have hm : mostN cap = x / 32 := by unfold mostN; rw [hx]; rfl
  rw [hm]
  have hxl : x < 9223372036854775808 := by omega
  have H := Bx.mk hxl
  clear h hxl hm
  go_enter Try.func17, Try.ntmps17
  go_wp2
  go_ret
  have h := H.out
  exact ⟨retI (by rw [u64_keep (a := (x:Int)) (by omega) (by omega), Int.tdiv_eq_ediv_of_nonneg (by omega), u64_keep (by omega) (by omega)]; omega), rfl⟩

theorem refMost_any (cap : Int) (h : cap < 9223372036854775808) (w : World) :
    Calls Try.prog 20 #[.int .i64 cap] w fun e w' => e = .returned (.int .u64 (mostN cap)) ∧ w = w' := by
  obtain ⟨x, hx⟩ : ∃ x : Nat, max cap 0 = (x : Int) := ⟨(max cap 0).toNat, by omega⟩
  have hm : mostN cap = x / 32 := by unfold mostN; rw [hx]; rfl
  rw [hm]
  have hxl : x < 9223372036854775808 := by omega
  have H := Bx.mk hxl
  clear h hxl hm
  go_enter Try.func20, Try.ntmps20
  go_wp2
  go_ret
  have h := H.out
  exact ⟨retI (by rw [u64_keep (a := (x:Int)) (by omega) (by omega), Int.tdiv_eq_ediv_of_nonneg (by omega), u64_keep (by omega) (by omega)]; omega), rfl⟩

/-- A number, or none. -/
def Opt : Option Nat → Ending
  | some n => .returned (.tuple #[.int .u64 (n : Int), .bool true])
  | none => .returned (.tuple #[.int .u64 0, .bool false])
theorem Opt_some (n : Nat) : Opt (some n) = .returned (.tuple #[.int .u64 (n : Int), .bool true]) := rfl
theorem Opt_none : Opt none = .returned (.tuple #[.int .u64 0, .bool false]) := rfl
def sumN (a b m : Nat) : Option Nat := if a + b ≤ m then some (a + b) else none
def lessN (a b : Nat) : Option Nat := if b ≤ a then some (a - b) else none
def relN (base i : Nat) : Option Nat := if i < base then some (base - 1 - i) else none

/-- A number under a letter. -/
theorem letter (a : Nat) : ∃ A : Int, (a : Int) = A := ⟨_, rfl⟩

theorem sum_any (a b m : Nat) (ha : a < 18446744073709551616) (hb : b < 18446744073709551616) (hm : m < 18446744073709551616) (w : World) :
    Calls Try.prog 18 #[.int .u64 a, .int .u64 b, .int .u64 m] w fun e w' => e = Opt (sumN a b m) ∧ w = w' := by
  have HA := Bx.mk ha
  have HB := Bx.mk hb
  have HM := Bx.mk hm
  clear ha hb hm
  rcases Nat.lt_or_ge m a with h | h
  · have hs : sumN a b m = none := by unfold sumN; rw [if_neg (by omega)]
    rw [hs]
    rw [Opt_none]
    obtain ⟨A, hA⟩ := letter a
    obtain ⟨B, hB⟩ := letter b
    obtain ⟨M, hM⟩ := letter m
    rw [hA, hB, hM]
    have h1 : decide (M < A) = true := by rw [decide_eq_true_iff]; omega
    clear h hs hA hB hM HA HB HM
    go_enter Try.func18, Try.ntmps18
    go_wp2
    go_ret2
    exact ⟨rfl, rfl⟩
  · rcases Nat.lt_or_ge (m - a) b with h' | h'
    · have hs : sumN a b m = none := by unfold sumN; rw [if_neg (by omega)]
      rw [hs]
      rw [Opt_none]
      obtain ⟨A, hA⟩ := letter a
      obtain ⟨B, hB⟩ := letter b
      obtain ⟨M, hM⟩ := letter m
      obtain ⟨D, hD⟩ := letter (m - a)
      rw [hA, hB, hM]
      have h1 : decide (M < A) = false := by rw [decide_eq_false_iff_not]; omega
      have hsub : IntKind.u64.wrap (M - A) = D := by rw [show M - A = D from by omega]; exact u64_keep (by omega) (by have := HM.out; omega)
      have h2 : decide (D < B) = true := by rw [decide_eq_true_iff]; omega
      clear h h' hs hA hB hM hD HA HB HM
      go_enter Try.func18, Try.ntmps18
      go_wp2
      go_ret2
      exact ⟨rfl, rfl⟩
    · have hs : sumN a b m = some (a + b) := by unfold sumN; rw [if_pos (by omega)]
      rw [hs]
      rw [Opt_some]
      obtain ⟨A, hA⟩ := letter a
      obtain ⟨B, hB⟩ := letter b
      obtain ⟨M, hM⟩ := letter m
      obtain ⟨D, hD⟩ := letter (m - a)
      obtain ⟨S, hS⟩ := letter (a + b)
      rw [hA, hB, hM, hS]
      have h1 : decide (M < A) = false := by rw [decide_eq_false_iff_not]; omega
      have hsub : IntKind.u64.wrap (M - A) = D := by rw [show M - A = D from by omega]; exact u64_keep (by omega) (by have := HM.out; omega)
      have h2 : decide (D < B) = false := by rw [decide_eq_false_iff_not]; omega
      have hadd : IntKind.u64.wrap (A + B) = S := by rw [show A + B = S from by omega]; exact u64_keep (by omega) (by have := HM.out; omega)
      clear h h' hs hA hB hM hD hS HA HB HM
      go_enter Try.func18, Try.ntmps18
      go_wp2
      go_ret2
      exact ⟨rfl, rfl⟩

theorem less_any (a b : Nat) (ha : a < 18446744073709551616) (w : World) :
    Calls Try.prog 19 #[.int .u64 a, .int .u64 b] w fun e w' => e = Opt (lessN a b) ∧ w = w' := by
  have HA := Bx.mk ha
  clear ha
  rcases Nat.lt_or_ge a b with h | h
  · have hs : lessN a b = none := by unfold lessN; rw [if_neg (by omega)]
    rw [hs]
    rw [Opt_none]
    obtain ⟨A, hA⟩ := letter a
    obtain ⟨B, hB⟩ := letter b
    rw [hA, hB]
    have h1 : decide (A < B) = true := by rw [decide_eq_true_iff]; omega
    clear h hs hA hB HA
    go_enter Try.func19, Try.ntmps19
    go_wp2
    go_ret2
    exact ⟨rfl, rfl⟩
  · have hs : lessN a b = some (a - b) := by unfold lessN; rw [if_pos (by omega)]
    rw [hs]
    rw [Opt_some]
    obtain ⟨A, hA⟩ := letter a
    obtain ⟨B, hB⟩ := letter b
    obtain ⟨D, hD⟩ := letter (a - b)
    rw [hA, hB, hD]
    have h1 : decide (A < B) = false := by rw [decide_eq_false_iff_not]; omega
    have hsub : IntKind.u64.wrap (A - B) = D := by rw [show A - B = D from by omega]; exact u64_keep (by omega) (by have := HA.out; omega)
    clear h hs hA hB hD HA
    go_enter Try.func19, Try.ntmps19
    go_wp2
    go_ret2
    exact ⟨rfl, rfl⟩

theorem relative_any (a b : Nat) (ha : a < 18446744073709551616) (w : World) :
    Calls Try.prog 11 #[.int .u64 a, .int .u64 b] w fun e w' => e = Opt (relN a b) ∧ w = w' := by
  have HA := Bx.mk ha
  clear ha
  rcases Nat.lt_or_ge b a with h | h
  · have hs : relN a b = some (a - 1 - b) := by unfold relN; rw [if_pos (by omega)]
    rw [hs]
    rw [Opt_some]
    obtain ⟨A, hA⟩ := letter a
    obtain ⟨B, hB⟩ := letter b
    obtain ⟨C, hC⟩ := letter (a - 1)
    obtain ⟨D, hD⟩ := letter (a - 1 - b)
    rw [hA, hB, hD]
    have h1 : decide (A ≤ B) = false := by rw [decide_eq_false_iff_not]; omega
    have hpre : IntKind.u64.wrap (A - 1) = C := by rw [show A - 1 = C from by omega]; exact u64_keep (by omega) (by have := HA.out; omega)
    have hsub : IntKind.u64.wrap (C - B) = D := by rw [show C - B = D from by omega]; exact u64_keep (by omega) (by have := HA.out; omega)
    clear h hs hA hB hC hD HA
    go_enter Try.func11, Try.ntmps11
    go_wp2
    go_ret2
    exact ⟨rfl, rfl⟩
  · have hs : relN a b = none := by unfold relN; rw [if_neg (by omega)]
    rw [hs]
    rw [Opt_none]
    obtain ⟨A, hA⟩ := letter a
    obtain ⟨B, hB⟩ := letter b
    rw [hA, hB]
    have h1 : decide (A ≤ B) = true := by rw [decide_eq_true_iff]; omega
    clear h hs hA hB HA
    go_enter Try.func11, Try.ntmps11
    go_wp2
    go_ret2
    exact ⟨rfl, rfl⟩

theorem sum_62 (a b : Nat) (ha : a < 18446744073709551616) (hb : b < 18446744073709551616) (w : World) :
    Calls Try.prog 18 #[.int .u64 a, .int .u64 b, .int .u64 4611686018427387903] w fun e w' => e = Opt (sumN a b 4611686018427387903) ∧ w = w' := by
  have hc := sum_any a b 4611686018427387903 ha hb (by omega) w
  obtain ⟨M, hM⟩ := letter 4611686018427387903
  rw [hM] at hc
  obtain rfl : M = 4611686018427387903 := by omega
  exact hc

theorem post_any (a b : Nat) (ha : a < 18446744073709551616) (hb : b < 18446744073709551616) (w : World) :
    Calls Try.prog 13 #[.int .u64 a, .int .u64 b] w fun e w' => e = Opt (sumN a b 4611686018427387903) ∧ w = w' := by
  have hc := sum_62 a b ha hb
  generalize sumN a b 4611686018427387903 = o at hc ⊢
  obtain ⟨A, hA⟩ := letter a
  obtain ⟨B, hB⟩ := letter b
  simp only [hA, hB] at hc ⊢
  have HC := Bx.mk hc
  clear hc hA hB ha hb
  cases o with
  | none =>
    rw [Opt_none] at HC ⊢
    go_enter Try.func13, Try.ntmps13
    go_wp2_with (go_at_call 18; refine (HC.out _).mono ?_; rintro e w' ⟨rfl, rfl⟩)
    go_ret2
    exact ⟨rfl, rfl⟩
  | some n =>
    obtain ⟨N, hN⟩ := letter n
    rw [Opt_some] at HC ⊢
    rw [hN] at HC ⊢
    clear hN
    go_enter Try.func13, Try.ntmps13
    go_wp2_with (go_at_call 18; refine (HC.out _).mono ?_; rintro e w' ⟨rfl, rfl⟩)
    go_ret2
    exact ⟨rfl, rfl⟩

end Go.Proofs.Ytcehfegknckinaa
