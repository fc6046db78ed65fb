/-
  Payloads, the program's small functions: codes, flags, what stands ahead, clone.
-/
import Derived.Test.YtenoaljghbpaaaaPyA
import Derived.Test.YtenoaljghbpaaaaFrA
import Derived.Laws.BitsAllLaws
namespace Go.Proofs.Ytenoaljghbpaaaa
open Go.RowKit
set_option linter.unusedVariables false
set_option linter.unusedSimpArgs false

set_option maxRecDepth 100000 in
set_option maxHeartbeats 4000000 in
theorem code2_any (r : Int) (w : World) : Calls Try.prog 80 #[.int .i64 r] w fun e w' => e = .returned (.int .u64 (codeT r 0 6 1 3 1 5 1 9 1 1 2)) ∧ w' = w := by
  go_enter Try.func80, Try.ntmps80
  go_wp2
  all_goals go_ret
  all_goals refine ⟨?_, rfl⟩
  all_goals simp_all [codeT, Array.getD]
set_option maxRecDepth 100000 in
set_option maxHeartbeats 4000000 in
theorem code3_any (r : Int) (w : World) : Calls Try.prog 81 #[.int .i64 r] w fun e w' => e = .returned (.int .u64 (codeT r 256 262 259 257 265 260 261 512 270 261 258)) ∧ w' = w := by
  go_enter Try.func81, Try.ntmps81
  go_wp2
  all_goals go_ret
  all_goals refine ⟨?_, rfl⟩
  all_goals simp_all [codeT, Array.getD]
theorem pyCode_any (r s : Int) (w : World) : Calls Try.prog 29 #[.int .i64 r, .int .i64 s] w fun e w' => e = .returned (.int .u64 (codeN r s)) ∧ w' = w := by
  have H2 := Bx.mk (code2_any r w)
  have H3 := Bx.mk (code3_any r w)
  unfold codeN
  by_cases h2 : s = 2
  · have e2 : (s == 2) = true := by rw [beq_iff_eq]; exact h2
    rw [if_pos h2]
    clear h2
    go_enter Try.func29, Try.ntmps29
    go_wp2_with (go_at_call 80; refine H2.out.mono ?_; rintro e w1 ⟨rfl, rfl⟩)
    go_ret
    exact ⟨rfl, rfl⟩
  · have e2 : (s == 2) = false := by rw [beq_eq_false_iff_ne]; exact h2
    rw [if_neg h2]
    by_cases h3 : s = 3
    · have e3 : (s == 3) = true := by rw [beq_iff_eq]; exact h3
      rw [if_pos h3]
      clear h2 h3
      go_enter Try.func29, Try.ntmps29
      go_wp2_with (go_at_call 81; refine H3.out.mono ?_; rintro e w1 ⟨rfl, rfl⟩)
      go_ret
      exact ⟨rfl, rfl⟩
    · have e3 : (s == 3) = false := by rw [beq_eq_false_iff_ne]; exact h3
      rw [if_neg h3]
      clear h2 h3
      go_enter Try.func29, Try.ntmps29
      go_wp2_with fail
      go_ret
      exact ⟨rfl, rfl⟩
/-- A flag is set. -/
def hasN (fl m : Nat) : Bool := (fl &&& m) != 0
theorem hasN_val (fl m : Nat) (h1 : fl < 256) (h2 : m < 256) : (bits .and .u8 (fl : Int) (m : Int) != 0) = hasN fl m := by
  rw [u8_and_nat _ _ h1 h2]
  unfold hasN
  rw [Bool.eq_iff_iff, bne_iff_ne, bne_iff_ne]
  omega
theorem has_any (ty fl st m : Nat) (v : Value) (hfl : fl < 256) (hm : m < 256) (w : World) (T F S M : Int) (hF : (fl : Int) = F) (hM : (m : Int) = M) :
    Calls Try.prog 111 #[.agg #[.int .u8 T, .int .u8 F, .int .u32 S, v], .int .u8 M] w fun e w' => e = .returned (.bool (hasN fl m)) ∧ Below w.heap.size w w' := by
  have h := hasN_val fl m hfl hm
  rw [hF, hM] at h
  obtain ⟨X, hX⟩ : ∃ X, bits .and .u8 F M = X := ⟨_, rfl⟩
  rw [hX] at h
  rw [← h]
  clear h
  go_enter Try.func111, Try.ntmps111
  go_wp2_with fail
  go_ret
  exact ⟨rfl, (Below.refl _ _).alloc (Nat.le_refl _) _⟩
theorem flag_any (b : Bool) (x : Int) (w : World) : Calls Try.prog 109 #[.bool b, .int .u8 x] w fun e w' => e = .returned (.int .u8 (if b then x else 0)) ∧ w' = w := by
  cases b
  all_goals go_enter Try.func109, Try.ntmps109
  all_goals go_wp2_with fail
  all_goals go_ret
  all_goals exact ⟨rfl, rfl⟩
/-- How much stands ahead of the data. -/
def aheadN (ty fl : Nat) : Nat := (if hasN fl 8 then 1 else 0) + (if ty = 1 ∧ hasN fl 32 = true then 5 else 0) + (if ty = 5 then 4 else 0)
set_option maxRecDepth 100000 in
set_option maxHeartbeats 4000000 in
theorem ahead_any (ty fl st : Nat) (v : Value) (hty : ty < 256) (hfl : fl < 256) (w : World) (T F S : Int) (hT : (ty : Int) = T) (hF : (fl : Int) = F) :
    Calls Try.prog 110 #[.agg #[.int .u8 T, .int .u8 F, .int .u32 S, v]] w fun e w' => e = .returned (.int .i64 (aheadN ty fl : Int)) ∧ Below w.heap.size w w' := by
  have H8 := Bx.mk (fun W => has_any ty fl st 8 v hfl (by omega) W T F S 8 hF rfl)
  have H32 := Bx.mk (fun W => has_any ty fl st 32 v hfl (by omega) W T F S 32 hF rfl)
  have hN : (aheadN ty fl : Int) = (if hasN fl 8 then 1 else 0) + (if T = 1 ∧ hasN fl 32 = true then 5 else 0) + (if T = 5 then 4 else 0) := by
    unfold aheadN
    have e1 : (T = 1 ∧ hasN fl 32 = true) ↔ (ty = 1 ∧ hasN fl 32 = true) := by constructor <;> rintro ⟨a, b⟩ <;> exact ⟨by omega, b⟩
    have e5 : T = 5 ↔ ty = 5 := by omega
    simp only [e1, e5]
    split <;> split <;> split <;> rfl
  rw [hN]
  obtain ⟨x, hx⟩ : ∃ x, hasN fl 8 = x := ⟨_, rfl⟩
  obtain ⟨y, hy⟩ : ∃ y, hasN fl 32 = y := ⟨_, rfl⟩
  rw [hx] at H8 ⊢
  rw [hy] at H32 ⊢
  have HB1 := Bx.mk ((Below.refl w.heap.size w).alloc (Nat.le_refl _) (.cells #[.int .u8 T, .int .u8 F, .int .u32 S, v] 28))
  have HA1 : Bx (Sb 28 (w.alloc (.cells #[.int .u8 T, .int .u8 F, .int .u32 S, v] 28)) w.heap.size #[.int .u8 T, .int .u8 F, .int .u32 S, v]) := ⟨Sb.new _ w _⟩
  clear hN hx hy hT hF
  obtain ⟨z1, hz1⟩ : ∃ z, (T == 1) = z := ⟨_, rfl⟩
  obtain ⟨z5, hz5⟩ : ∃ z, (T == 5) = z := ⟨_, rfl⟩
  have hR : ((if x = true then (1 : Int) else 0) + (if T = 1 ∧ y = true then 5 else 0) + (if T = 5 then 4 else 0)) = ((if x = true then (1 : Int) else 0) + (if (z1 && y) = true then 5 else 0) + (if z5 = true then 4 else 0)) := by
    subst hz1 hz5
    simp
  rw [hR]
  clear hR
  have hnn : ¬ (z1 = true ∧ z5 = true) := by
    rintro ⟨a, b⟩
    rw [a, beq_iff_eq] at hz1
    rw [b, beq_iff_eq] at hz5
    omega
  cases x <;> cases z1 <;> cases y <;> cases z5
  all_goals first | (exact absurd ⟨rfl, rfl⟩ hnn) | skip
  all_goals clear hnn
  all_goals go_enter Try.func110, Try.ntmps110
  all_goals go_wp2_with (first
    | (go_at_call 111; have hz := M1; clear hz; refine (H32.out _).mono ?_; rintro e w3 ⟨rfl, b3⟩; have HA3 := (HA2.out.keep b3); have d0 := HA3.cell 0; replace HB2 := Bx.mk (HB2.out.trans (b3.mono HB2.out.size)); simp only [List.getElem?_toArray, List.getElem?_cons_zero, List.getElem?_cons_succ] at d0; clear b3 HA3)
    | (go_at_call 111; refine (H8.out _).mono ?_; rintro e w2 ⟨rfl, b2⟩; have M1 := HB1; have HA2 := Bx.mk (HA1.out.keep b2); have c0 := HA2.out.cell 0; have c1 := HA2.out.cell 1; have c2 := HA2.out.cell 2; have c3 := HA2.out.cell 3; have HB2 := Bx.mk (HB1.out.trans (b2.mono HB1.out.size)); simp only [List.getElem?_toArray, List.getElem?_cons_zero, List.getElem?_cons_succ] at c0 c1 c2 c3; clear b2))
  all_goals go_ret
  all_goals exact ⟨rfl, HB2.out⟩
end Go.Proofs.Ytenoaljghbpaaaa
