/-
  bifoldlaw1.NumReads answers true, whatever its arguments: the walk.
-/
import Derived.Test.YtfhlikfjoldnfaaNumK
import Derived.Test.YtfhlikfjoldnfaaOpen
namespace Go.Proofs.Ytfhlikfjoldnfaa
open Go.RowKit
set_option linter.unusedVariables false

set_option maxRecDepth 100000 in
set_option maxHeartbeats 1000000 in
theorem numReads_walk (a0 : Option Addr) (len0 cap0 : Nat) (z0 : List Int) (a1 : Int) (a2 : Int) (w : World) (w0 : IsRow .u8 w a0 len0 cap0 z0) (w1 : (Lit.int .i64 a1).wf = true) (w2 : (Lit.int .i64 a2).wf = true) :
    Calls Try.prog 4 #[.slice a0 len0 cap0, .int .i64 a1, .int .i64 a2] w fun e w' => e = .returned (.bool true) ∧ Below w.heap.size w w' := by
  obtain ⟨l, hb, hlen⟩ := w0.bytes
  have hcap : len0 ≤ maxLen := by have := Rd.len hb; simpa [hlen] using this
  unfold maxLen at hcap
  have Hb := Lib.hid hb
  clear w0 w1 w2 hb
  by_cases hbig : 100 < len0
  · have hbb : decide (100 < (len0 : Int)) = true := by rw [decide_eq_true_iff]; omega
    clear hbig
    go_enter Try.func4, Try.ntmps4
    go_wp2_with (go_at_call 11; refine (known_any _).mono ?_; rintro e w1 ⟨rfl, b1⟩)
    go_ret
    exact ⟨rfl, b1⟩
  · have hl2 : l.length ≤ 1000000 := by omega
    have hbb : decide (100 < (len0 : Int)) = false := by rw [decide_eq_false_iff_not]; omega
    obtain ⟨⟨v, k, e⟩, hrv⟩ : ∃ x, rv l = x := ⟨_, rfl⟩
    obtain ⟨⟨x, m, g⟩, hrp⟩ : ∃ x, rp (bitsOf a1) l = x := ⟨_, rfl⟩
    have Hlen := Lib.hid hlen
    clear hlen hbig
    by_cases hok : 0 ≤ a2 ∧ a2 ≤ 8 ∧ a2 ≤ l.length
    · go_enter Try.func4, Try.ntmps4
      go_wp2_with (first
    | (go_at_call 11; refine (known_any _).mono ?_; rintro e w1 ⟨rfl, b1⟩)
    | (go_at_call 14; refine (readVar_any _ l _ (Rd.keep Hb.out b1) hl2).mono ?_; rintro e w' ⟨rfl, rfl⟩; unfold Ans3; rw [hrv])
    | (go_at_call 16; refine (refReadVar_any _ l _ (Rd.keep Hb.out b1) hl2).mono ?_; rintro e w' ⟨rfl, rfl⟩; unfold Ans3; rw [hrv])
    | (go_at_call 17; refine (readPrefix_any _ l _ _ (Rd.keep Hb.out b1) hl2).mono ?_; rintro e w' ⟨rfl, rfl⟩; unfold Ans3; rw [hrp])
    | (go_at_call 18; refine (refReadPrefix_any _ l _ _ (Rd.keep Hb.out b1) hl2).mono ?_; rintro e w' ⟨rfl, rfl⟩; unfold Ans3; rw [hrp])
    | (go_at_call 19; refine (readBig_ok _ l _ _ (Rd.keep Hb.out b1) hok.1 hok.2.1 hok.2.2 hl2).mono ?_; rintro e w' ⟨rfl, rfl⟩)
    | (go_at_call 20; refine (refReadBig_ok _ l _ _ (Rd.keep Hb.out b1) hok.1 hok.2.1 hok.2.2 hl2).mono ?_; rintro e w' ⟨rfl, rfl⟩))
      go_ret
      exact ⟨rfl, b1⟩
    · have hno : a2 < 0 ∨ 8 < a2 ∨ (l.length : Int) < a2 := by omega
      have Hno := Lib.hid hno
      clear hok hno
      go_enter Try.func4, Try.ntmps4
      go_wp2_with (first
    | (go_at_call 11; refine (known_any _).mono ?_; rintro e w1 ⟨rfl, b1⟩)
    | (go_at_call 14; refine (readVar_any _ l _ (Rd.keep Hb.out b1) hl2).mono ?_; rintro e w' ⟨rfl, rfl⟩; unfold Ans3; rw [hrv])
    | (go_at_call 16; refine (refReadVar_any _ l _ (Rd.keep Hb.out b1) hl2).mono ?_; rintro e w' ⟨rfl, rfl⟩; unfold Ans3; rw [hrv])
    | (go_at_call 17; refine (readPrefix_any _ l _ _ (Rd.keep Hb.out b1) hl2).mono ?_; rintro e w' ⟨rfl, rfl⟩; unfold Ans3; rw [hrp])
    | (go_at_call 18; refine (refReadPrefix_any _ l _ _ (Rd.keep Hb.out b1) hl2).mono ?_; rintro e w' ⟨rfl, rfl⟩; unfold Ans3; rw [hrp])
    | (go_at_call 19; refine (readBig_no _ l _ _ (Rd.keep Hb.out b1) Hno.out).mono ?_; rintro e w' ⟨rfl, rfl⟩)
    | (go_at_call 20; refine (refReadBig_no _ l _ _ (Rd.keep Hb.out b1) Hno.out).mono ?_; rintro e w' ⟨rfl, rfl⟩))
      go_ret
      exact ⟨rfl, b1⟩

end Go.Proofs.Ytfhlikfjoldnfaa
