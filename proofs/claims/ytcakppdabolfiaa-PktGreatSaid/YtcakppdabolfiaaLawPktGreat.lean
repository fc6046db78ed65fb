/-
  bifoldlaw18.PktGreat answers true, whatever its arguments (written by mkpg.py).
-/
import Derived.Test.YtcakppdabolfiaaPg
namespace Go.Proofs.Ytcakppdabolfiaa
open Go.RowKit
theorem u8_wfG {n : Int} (h : (Lit.int .u8 n).wf = true) : 0 ≤ n ∧ n < 256 := by
  have h0 : IntKind.u8.min ≤ n ∧ n ≤ IntKind.u8.max := by simpa [Lit.wf] using h
  have h1 : IntKind.u8.min = 0 := rfl
  have h2 : IntKind.u8.max = 255 := rfl
  omega
theorem pktGreat_walk (T M : Int) (lo : Bool) (hT : (Lit.int .u8 T).wf = true) (hM : (Lit.int .u8 M).wf = true) (w : World) :
    Calls Try.prog 8 #[.int .u8 T, .int .u8 M, .bool lo] w fun e w' => e = .returned (.bool true) ∧ Below w.heap.size w w' := by
  have hT2 : 0 ≤ T ∧ T < 256 := u8_wfG hT
  have hM2 : 0 ≤ M ∧ M < 256 := u8_wfG hM
  have hq : M.tmod 5 = ((M % 5).toNat : Int) := by rw [Int.tmod_eq_emod_of_nonneg hM2.1]; omega
  have hq5 : (M % 5).toNat < 5 := by omega
  have ht : T.tmod 4 = T % 4 := Int.tmod_eq_emod_of_nonneg hT2.1
  have h4 : T % 4 = 0 ∨ T % 4 = 1 ∨ T % 4 = 2 ∨ T % 4 = 3 := by omega
  rw [← ht] at h4
  by_cases h0 : (M % 5).toNat ≤ 2
  · rcases h4 with h | h | h | h <;> cases lo
    · exact pg_0_false_true T M _ h hq hq5 h0 w
    · exact pg_0_true_true T M _ h hq hq5 h0 w
    · exact pg_1_false_true T M _ h hq hq5 h0 w
    · exact pg_1_true_true T M _ h hq hq5 h0 w
    · exact pg_2_false_true T M _ h hq hq5 h0 w
    · exact pg_2_true_true T M _ h hq hq5 h0 w
    · exact pg_3_false_true T M _ h hq hq5 h0 w
    · exact pg_3_true_true T M _ h hq hq5 h0 w
  · rcases h4 with h | h | h | h <;> cases lo
    · exact pg_0_false_false T M _ h hq hq5 h0 w
    · exact pg_0_true_false T M _ h hq hq5 h0 w
    · exact pg_1_false_false T M _ h hq hq5 h0 w
    · exact pg_1_true_false T M _ h hq hq5 h0 w
    · exact pg_2_false_false T M _ h hq hq5 h0 w
    · exact pg_2_true_false T M _ h hq hq5 h0 w
    · exact pg_3_false_false T M _ h hq hq5 h0 w
    · exact pg_3_true_false T M _ h hq hq5 h0 w
end Go.Proofs.Ytcakppdabolfiaa
