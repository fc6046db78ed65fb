/-
  bifoldlaw2.HuffReads answers true, whatever its arguments: the walk.
-/
import Derived.Test.YtofoknnflnafaaaHuffL
import Derived.Test.YtofoknnflnafaaaOpenB
namespace Go.Proofs.Ytofoknnflnafaaa
open Go.RowKit
set_option linter.unusedVariables false

set_option maxRecDepth 100000 in
set_option maxHeartbeats 1000000 in
theorem huffReads_walk (a0 : Option Addr) (len0 cap0 : Nat) (z0 : List Int) (w : World) (w0 : IsRow .u8 w a0 len0 cap0 z0) :
    Calls Try.prog 4 #[.slice a0 len0 cap0] w fun e w' => e = .returned (.bool true) ∧ Below w.heap.size w w' := by
  obtain ⟨l, hb, hlen⟩ := w0.bytes
  have hcap : len0 ≤ maxLen := by have := Rd.len hb; simpa [hlen] using this
  unfold maxLen at hcap
  have Hb := Bx.mk hb
  clear w0 hb
  by_cases hbig : 120 < len0
  · have hbb : decide (120 < (len0 : Int)) = true := by rw [decide_eq_true_iff]; omega
    clear hbig
    go_enter Try.func4, Try.ntmps4
    go_wp2_with (go_at_call 10; refine (known_any _).mono ?_; rintro e w1 ⟨rfl, b1⟩)
    go_ret
    exact ⟨rfl, b1⟩
  · have hl2 : l.length ≤ 100000 := by omega
    have hbb : decide (120 < (len0 : Int)) = false := by rw [decide_eq_false_iff_not]; omega
    obtain ⟨⟨s, e⟩, hd⟩ : ∃ x, dec (allBits l) [] 0 0 = x := ⟨_, rfl⟩
    have HD := Bx.mk hd
    clear hlen hbig hd
    go_enter Try.func4, Try.ntmps4
    go_wp2_with (first
      | (go_at_call 10; refine (known_any _).mono ?_; rintro e w1 ⟨rfl, b1⟩)
      | (go_at_call 15; refine (decode_any _ l _ (Rd.keep Hb.out b1) hl2).mono ?_; rintro e w2 ⟨rfl, b2⟩; rw [HD.out]; unfold Ans)
      | (go_at_call 16; refine (unhuffman_any _ l _ (Rd.keep (Rd.keep Hb.out b1) b2) hl2).mono ?_; rintro e w3 ⟨rfl, b3⟩; rw [HD.out]; unfold Ans))
    go_ret
    exact ⟨rfl, (b1.trans (b2.mono b1.size)).trans (b3.mono (by have := b1.size; have := b2.size; omega))⟩

end Go.Proofs.Ytofoknnflnafaaa
