/-
  Packets' numbers: the document's Len (written by mkpnl.py).
-/
import Derived.Test.YtcakppdabolfiaaPnB
namespace Go.Proofs.Ytcakppdabolfiaa
open Go.RowKit
set_option linter.unusedVariables false
set_option linter.unusedSimpArgs false

set_option maxHeartbeats 4000000 in
theorem refLen_any (x : Nat) (acked : Int) (hx : x < 18446744073709551616) (hl1 : -9223372036854775808 ≤ acked) (hl2 : acked ≤ 9223372036854775807) (w : World) :
    Calls Try.prog 19 #[.int .u64 (x : Int), .int .i64 acked] w fun e w' => e = .returned (.int .i64 (lenN x acked : Int)) ∧ w' = w := by
  obtain ⟨D, hD⟩ : ∃ D, pnD x acked = D := ⟨_, rfl⟩
  have hlen : lenN x acked = if D < 128 then 1 else if D < 32768 then 2 else if D < 8388608 then 3 else 4 := by unfold lenN; rw [hD]
  rw [hlen]
  clear hlen
  unfold pnD at hD
  obtain ⟨XI, hXI⟩ : ∃ y : Int, (x : Int) = y := ⟨_, rfl⟩
  obtain ⟨DI, hDI⟩ : ∃ y : Int, (D : Int) = y := ⟨_, rfl⟩
  rw [hXI]
  have hz : ∀ y : Int, 0 ≤ y → y < 18446744073709551616 → IntKind.u64.wrap y = y := fun y h1 h2 => by rw [IntKind.wrap_u64]; omega
  by_cases hn : acked < 0
  · rw [if_pos hn] at hD
    have m1 : max acked (-1) = -1 := by omega
    have m2 : IntKind.u64.wrap (-1) = 18446744073709551615 := by decide
    by_cases hm : x = 18446744073709551615
    · have hXm : XI = 18446744073709551615 := by omega
      subst hXm
      rw [if_neg (by omega), if_neg (by omega), if_neg (by omega)]
      clear hXI hDI hz hl1 hl2 hn hx hm hD
      go_enter Try.func19, Try.ntmps19
      go_wp2
      all_goals go_ret
      all_goals exact ⟨rfl, rfl⟩
    · have hs : XI + 1 = DI := by omega
      have hsw : IntKind.u64.wrap DI = DI := hz _ (by omega) (by omega)
      have hsw2 : IntKind.u64.wrap (XI - 18446744073709551615) = DI := by rw [IntKind.wrap_u64]; omega
      have hd0 : (DI == 0) = false := by rw [beq_eq_false_iff_ne]; omega
      have hd1 : ¬ DI = 0 := by omega
      by_cases h7 : D < 128
      · rw [if_pos h7]
        have f7 : decide (DI < 128) = true := decide_eq_true (by omega)
        clear hXI hDI hz hl1 hl2 hn hx hm hD h7
        go_enter Try.func19, Try.ntmps19
        go_wp2
        all_goals go_rounds 4
        all_goals go_ret
        all_goals exact ⟨rfl, rfl⟩
      by_cases h15 : D < 32768
      · rw [if_neg h7, if_pos h15]
        have f7 : decide (DI < 128) = false := decide_eq_false (by omega)
        have f15 : decide (DI < 32768) = true := decide_eq_true (by omega)
        clear hXI hDI hz hl1 hl2 hn hx hm hD h7 h15
        go_enter Try.func19, Try.ntmps19
        go_wp2
        all_goals go_rounds 4
        all_goals go_ret
        all_goals exact ⟨rfl, rfl⟩
      by_cases h23 : D < 8388608
      · rw [if_neg h7, if_neg h15, if_pos h23]
        have f7 : decide (DI < 128) = false := decide_eq_false (by omega)
        have f15 : decide (DI < 32768) = false := decide_eq_false (by omega)
        have f23 : decide (DI < 8388608) = true := decide_eq_true (by omega)
        clear hXI hDI hz hl1 hl2 hn hx hm hD h7 h15 h23
        go_enter Try.func19, Try.ntmps19
        go_wp2
        all_goals go_rounds 4
        all_goals go_ret
        all_goals exact ⟨rfl, rfl⟩
      · rw [if_neg h7, if_neg h15, if_neg h23]
        have f7 : decide (DI < 128) = false := decide_eq_false (by omega)
        have f15 : decide (DI < 32768) = false := decide_eq_false (by omega)
        have f23 : decide (DI < 8388608) = false := decide_eq_false (by omega)
        clear hXI hDI hz hl1 hl2 hn hx hm hD h7 h15 h23
        go_enter Try.func19, Try.ntmps19
        go_wp2
        all_goals go_rounds 4
        all_goals go_ret
        all_goals exact ⟨rfl, rfl⟩
  rw [if_neg hn] at hD
  have m1 : max acked (-1) = acked := by omega
  have m2 : IntKind.u64.wrap acked = acked := hz _ (by omega) (by omega)
  have m3 : decide (acked < 0) = false := decide_eq_false hn
  by_cases hp : acked.toNat < x
  · rw [if_pos hp] at hD
    have hs : XI - acked = DI := by omega
    have hsw : IntKind.u64.wrap DI = DI := hz _ (by omega) (by omega)
    have p1 : decide (acked < XI) = true := decide_eq_true (by omega)
    by_cases hb : x < 9223372036854775808
    · have k1 : IntKind.i64.wrap XI = XI := by rw [IntKind.wrap_i64]; omega
      have k2 : decide (XI < 0) = false := decide_eq_false (by omega)
      by_cases h7 : D < 128
      · rw [if_pos h7]
        have f7 : decide (DI < 128) = true := decide_eq_true (by omega)
        clear hXI hDI hz hl1 hl2 hn hx hD hb hp h7
        go_enter Try.func19, Try.ntmps19
        go_wp2
        all_goals go_rounds 4
        all_goals go_ret
        all_goals exact ⟨rfl, rfl⟩
      by_cases h15 : D < 32768
      · rw [if_neg h7, if_pos h15]
        have f7 : decide (DI < 128) = false := decide_eq_false (by omega)
        have f15 : decide (DI < 32768) = true := decide_eq_true (by omega)
        clear hXI hDI hz hl1 hl2 hn hx hD hb hp h7 h15
        go_enter Try.func19, Try.ntmps19
        go_wp2
        all_goals go_rounds 4
        all_goals go_ret
        all_goals exact ⟨rfl, rfl⟩
      by_cases h23 : D < 8388608
      · rw [if_neg h7, if_neg h15, if_pos h23]
        have f7 : decide (DI < 128) = false := decide_eq_false (by omega)
        have f15 : decide (DI < 32768) = false := decide_eq_false (by omega)
        have f23 : decide (DI < 8388608) = true := decide_eq_true (by omega)
        clear hXI hDI hz hl1 hl2 hn hx hD hb hp h7 h15 h23
        go_enter Try.func19, Try.ntmps19
        go_wp2
        all_goals go_rounds 4
        all_goals go_ret
        all_goals exact ⟨rfl, rfl⟩
      · rw [if_neg h7, if_neg h15, if_neg h23]
        have f7 : decide (DI < 128) = false := decide_eq_false (by omega)
        have f15 : decide (DI < 32768) = false := decide_eq_false (by omega)
        have f23 : decide (DI < 8388608) = false := decide_eq_false (by omega)
        clear hXI hDI hz hl1 hl2 hn hx hD hb hp h7 h15 h23
        go_enter Try.func19, Try.ntmps19
        go_wp2
        all_goals go_rounds 4
        all_goals go_ret
        all_goals exact ⟨rfl, rfl⟩
    · obtain ⟨YI, hYI⟩ : ∃ y, IntKind.i64.wrap XI = y := ⟨_, rfl⟩
      have k2 : decide (YI < 0) = true := by apply decide_eq_true; rw [← hYI, IntKind.wrap_i64]; omega
      by_cases h7 : D < 128
      · rw [if_pos h7]
        have f7 : decide (DI < 128) = true := decide_eq_true (by omega)
        clear hXI hDI hz hl1 hl2 hn hx hD hb hp h7
        go_enter Try.func19, Try.ntmps19
        go_wp2
        all_goals go_rounds 4
        all_goals go_ret
        all_goals exact ⟨rfl, rfl⟩
      by_cases h15 : D < 32768
      · rw [if_neg h7, if_pos h15]
        have f7 : decide (DI < 128) = false := decide_eq_false (by omega)
        have f15 : decide (DI < 32768) = true := decide_eq_true (by omega)
        clear hXI hDI hz hl1 hl2 hn hx hD hb hp h7 h15
        go_enter Try.func19, Try.ntmps19
        go_wp2
        all_goals go_rounds 4
        all_goals go_ret
        all_goals exact ⟨rfl, rfl⟩
      by_cases h23 : D < 8388608
      · rw [if_neg h7, if_neg h15, if_pos h23]
        have f7 : decide (DI < 128) = false := decide_eq_false (by omega)
        have f15 : decide (DI < 32768) = false := decide_eq_false (by omega)
        have f23 : decide (DI < 8388608) = true := decide_eq_true (by omega)
        clear hXI hDI hz hl1 hl2 hn hx hD hb hp h7 h15 h23
        go_enter Try.func19, Try.ntmps19
        go_wp2
        all_goals go_rounds 4
        all_goals go_ret
        all_goals exact ⟨rfl, rfl⟩
      · rw [if_neg h7, if_neg h15, if_neg h23]
        have f7 : decide (DI < 128) = false := decide_eq_false (by omega)
        have f15 : decide (DI < 32768) = false := decide_eq_false (by omega)
        have f23 : decide (DI < 8388608) = false := decide_eq_false (by omega)
        clear hXI hDI hz hl1 hl2 hn hx hD hb hp h7 h15 h23
        go_enter Try.func19, Try.ntmps19
        go_wp2
        all_goals go_rounds 4
        all_goals go_ret
        all_goals exact ⟨rfl, rfl⟩
  · rw [if_neg hp] at hD
    have k1 : IntKind.i64.wrap XI = XI := by rw [IntKind.wrap_i64]; omega
    have k2 : decide (XI < 0) = false := decide_eq_false (by omega)
    have p1 : decide (acked < XI) = false := decide_eq_false (by omega)
    rw [if_pos (by omega)]
    clear hXI hDI hz hl1 hl2 hn hx hD hp
    go_enter Try.func19, Try.ntmps19
    go_wp2
    all_goals go_rounds 4
    all_goals go_ret
    all_goals exact ⟨rfl, rfl⟩
end Go.Proofs.Ytcakppdabolfiaa
