/-
  bifoldlaw8.QtabPlaces answers true, whatever its arguments: the walk.
-/
import Derived.Test.YtcehfegknckinaaQtG
namespace Go.Proofs.Ytcehfegknckinaa
open Go.RowKit
set_option linter.unusedVariables false

theorem quu_wf {a : Int} (h : (Lit.int .u64 a).wf = true) : ∃ n : Nat, a = (n : Int) ∧ n < 18446744073709551616 := by
  simp [Lit.wf, IntKind.min, IntKind.max, IntKind.signed, IntKind.bits] at h
  exact ⟨a.toNat, by omega, by omega⟩

set_option maxRecDepth 100000 in
set_option maxHeartbeats 2000000 in
theorem qtabPlaces_walk (a0 : Int) (a1 : Int) (w0 : (Lit.int .u64 a0).wf = true) (w1 : (Lit.int .u64 a1).wf = true) (w : World) :
    Calls Try.prog 4 #[.int .u64 a0, .int .u64 a1] w fun e w' => e = .returned (.bool true) ∧ Below w.heap.size w w' := by
  obtain ⟨a, rfl, ha⟩ := quu_wf w0
  obtain ⟨b, rfl, hb⟩ := quu_wf w1
  clear w0 w1
  have HR := Bx.mk (relative_any a b ha)
  have HR' := Bx.mk (refRelative_any a b ha)
  have HP := Bx.mk (post_any a b ha hb)
  have HP' := Bx.mk (refPost_any a b ha hb)
  obtain ⟨A, hA⟩ := letter a
  obtain ⟨B, hB⟩ := letter b
  have hrel : ∀ x, relN a b = some x → x < a := by intro x h; unfold relN at h; split at h <;> simp at h; omega
  have hsum : ∀ x, sumN a b 4611686018427387903 = some x → a ≤ x := by intro x h; unfold sumN at h; split at h <;> simp at h; omega
  simp only [hA, hB] at HR HR' HP HP' ⊢
  generalize relN a b = r at hrel HR HR'
  generalize sumN a b 4611686018427387903 = s at hsum HP HP'
  cases r with
  | none =>
    rw [Opt_none] at HR HR'
    cases s with
    | none =>
      rw [Opt_none] at HP HP'
      clear hA hB hrel hsum ha hb
      go_enter Try.func4, Try.ntmps4
      go_wp2_with (first
        | (go_at_call 6; refine (known_any _).mono ?_; rintro e w1 ⟨rfl, b1⟩)
        | (go_at_call 11; refine (HR.out _).mono ?_; rintro e w2 ⟨rfl, rfl⟩)
        | (go_at_call 12; refine (HR'.out _).mono ?_; rintro e w2 ⟨rfl, rfl⟩)
        | (go_at_call 13; refine (HP.out _).mono ?_; rintro e w2 ⟨rfl, rfl⟩)
        | (go_at_call 14; refine (HP'.out _).mono ?_; rintro e w2 ⟨rfl, rfl⟩))
      go_ret
      exact ⟨rfl, b1⟩
    | some y =>
      obtain ⟨Y, hY⟩ := letter y
      have hy := hsum y rfl
      rw [Opt_some] at HP HP'
      simp only [hY] at HP HP'
      have hd : decide (A ≤ Y) = true := by rw [decide_eq_true_iff]; omega
      clear hA hB hrel hsum ha hb hY hy
      go_enter Try.func4, Try.ntmps4
      go_wp2_with (first
        | (go_at_call 6; refine (known_any _).mono ?_; rintro e w1 ⟨rfl, b1⟩)
        | (go_at_call 11; refine (HR.out _).mono ?_; rintro e w2 ⟨rfl, rfl⟩)
        | (go_at_call 12; refine (HR'.out _).mono ?_; rintro e w2 ⟨rfl, rfl⟩)
        | (go_at_call 13; refine (HP.out _).mono ?_; rintro e w2 ⟨rfl, rfl⟩)
        | (go_at_call 14; refine (HP'.out _).mono ?_; rintro e w2 ⟨rfl, rfl⟩))
      go_ret
      exact ⟨rfl, b1⟩
  | some x =>
    obtain ⟨X, hX⟩ := letter x
    have hx := hrel x rfl
    rw [Opt_some] at HR HR'
    simp only [hX] at HR HR'
    have hd0 : decide (X < A) = true := by rw [decide_eq_true_iff]; omega
    cases s with
    | none =>
      rw [Opt_none] at HP HP'
      clear hA hB hrel hsum ha hb hX hx
      go_enter Try.func4, Try.ntmps4
      go_wp2_with (first
        | (go_at_call 6; refine (known_any _).mono ?_; rintro e w1 ⟨rfl, b1⟩)
        | (go_at_call 11; refine (HR.out _).mono ?_; rintro e w2 ⟨rfl, rfl⟩)
        | (go_at_call 12; refine (HR'.out _).mono ?_; rintro e w2 ⟨rfl, rfl⟩)
        | (go_at_call 13; refine (HP.out _).mono ?_; rintro e w2 ⟨rfl, rfl⟩)
        | (go_at_call 14; refine (HP'.out _).mono ?_; rintro e w2 ⟨rfl, rfl⟩))
      go_ret
      exact ⟨rfl, b1⟩
    | some y =>
      obtain ⟨Y, hY⟩ := letter y
      have hy := hsum y rfl
      rw [Opt_some] at HP HP'
      simp only [hY] at HP HP'
      have hd : decide (A ≤ Y) = true := by rw [decide_eq_true_iff]; omega
      clear hA hB hrel hsum ha hb hY hy hX hx
      go_enter Try.func4, Try.ntmps4
      go_wp2_with (first
        | (go_at_call 6; refine (known_any _).mono ?_; rintro e w1 ⟨rfl, b1⟩)
        | (go_at_call 11; refine (HR.out _).mono ?_; rintro e w2 ⟨rfl, rfl⟩)
        | (go_at_call 12; refine (HR'.out _).mono ?_; rintro e w2 ⟨rfl, rfl⟩)
        | (go_at_call 13; refine (HP.out _).mono ?_; rintro e w2 ⟨rfl, rfl⟩)
        | (go_at_call 14; refine (HP'.out _).mono ?_; rintro e w2 ⟨rfl, rfl⟩))
      go_ret
      exact ⟨rfl, b1⟩

end Go.Proofs.Ytcehfegknckinaa
