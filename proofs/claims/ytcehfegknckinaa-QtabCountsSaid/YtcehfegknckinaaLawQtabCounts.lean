/-
  bifoldlaw8.QtabCounts answers true, whatever its arguments: the walk.
-/
import Derived.Test.YtcehfegknckinaaQtG
namespace Go.Proofs.Ytcehfegknckinaa
open Go.RowKit
set_option linter.unusedVariables false

theorem qcu_wf {a : Int} (h : (Lit.int .u64 a).wf = true) : ∃ n : Nat, a = (n : Int) ∧ n < 18446744073709551616 := by
  simp [Lit.wf, IntKind.min, IntKind.max, IntKind.signed, IntKind.bits] at h
  exact ⟨a.toNat, by omega, by omega⟩
theorem dec_parts (o : Option Nat) : ∃ X Y : Int, Dec o = .returned (.tuple #[.int .u64 X, .int .i64 Y]) := by
  cases o with
  | none => exact ⟨_, _, rfl⟩
  | some n => exact ⟨_, _, rfl⟩

set_option maxRecDepth 100000 in
set_option maxHeartbeats 4000000 in
theorem qtabCounts_walk (a0 : Int) (a1 : Int) (a2 : Int) (a3 : Int) (w0 : (Lit.int .u64 a0).wf = true) (w1 : (Lit.int .u64 a1).wf = true) (w2 : (Lit.int .u64 a2).wf = true) (w3 : (Lit.int .i64 a3).wf = true) (w : World) :
    Calls Try.prog 3 #[.int .u64 a0, .int .u64 a1, .int .u64 a2, .int .i64 a3] w fun e w' => e = .returned (.bool true) ∧ Below w.heap.size w w' := by
  obtain ⟨c, rfl, hc⟩ := qcu_wf w0
  obtain ⟨e, rfl, he⟩ := qcu_wf w1
  obtain ⟨t, rfl, ht⟩ := qcu_wf w2
  obtain ⟨hcap0, hcap⟩ := quc_wf w3
  clear w0 w1 w2 w3
  obtain ⟨x, hx⟩ : ∃ x : Nat, max a3 0 = (x : Int) := ⟨(max a3 0).toNat, by omega⟩
  have hmo := mostN_lt hcap
  have hmx : mostN a3 = x / 32 := by unfold mostN; rw [hx]; rfl
  have hxl : x < 9223372036854775808 := by omega
  have hmask := u64_mask t 62 4611686018427387903 (by rfl) (by omega) ht
  have hul : t % 2 ^ 62 < 4611686018427387904 := by omega
  generalize t % 2 ^ 62 = u at hmask hul
  have hE := encodeCount_any c a3 hc hcap
  have hE' := refEncodeCount_any c a3 hc hcap
  have hD1 := decodeCount_any e u a3 he hul hcap
  have hD1' := refDecodeCount_any e u a3 he hul hcap
  have hD2 := decodeCount_any (e % 200) u a3 (by omega) hul hcap
  have hD2' := refDecodeCount_any (e % 200) u a3 (by omega) hul hcap
  obtain ⟨X1, Y1, h1⟩ := dec_parts (dcN e u (mostN a3))
  obtain ⟨X2, Y2, h2⟩ := dec_parts (dcN (e % 200) u (mostN a3))
  rw [h1] at hD1 hD1'
  rw [h2] at hD2 hD2'
  clear h1 h2
  have hB := fun k (hk : k < 18446744073709551616) => encodeCount_any k a3 hk hcap
  have hBD := fun k => decodeCount_any (ecN k (mostN a3)) u a3 (ecN_lt hmo) hul hcap
  obtain ⟨m, hm⟩ : ∃ m, mostN a3 = m := ⟨_, rfl⟩
  rw [hm] at hmx hmo hE hE' hB hBD
  clear hm
  obtain ⟨C, hC⟩ := letter c
  obtain ⟨E, hEE⟩ := letter e
  obtain ⟨E2, hE2⟩ := letter (e % 200)
  obtain ⟨T, hT⟩ := letter t
  obtain ⟨U, hU⟩ := letter u
  obtain ⟨X, hX⟩ := letter x
  obtain ⟨M, hM⟩ := letter m
  obtain ⟨K, hK⟩ := letter (ecN c m)
  have hwX : IntKind.u64.wrap X = X := u64_keep (by omega) (by omega)
  have hdiv : X.tdiv 32 = M := by rw [Int.tdiv_eq_ediv_of_nonneg (by omega)]; omega
  have hwM : IntKind.u64.wrap M = M := u64_keep (by omega) (by omega)
  have hr2 : E.tmod 200 = E2 := by rw [← hEE, ← hE2]; exact Int.ofNat_tmod e 200
  have hwE2 : IntKind.u64.wrap E2 = E2 := u64_keep (by omega) (by omega)
  rw [hX] at hx
  rw [hT, hU] at hmask
  simp only [hC, hEE, hE2, hT, hU, hK] at hE hE' hD1 hD1' hD2 hD2' ⊢
  obtain ⟨p, hp⟩ : ∃ p, u + m = p := ⟨_, rfl⟩
  obtain ⟨P, hP⟩ := letter p
  have hadd : IntKind.u64.wrap (U + M) = P := by rw [show U + M = P from by omega]; exact u64_keep (by omega) (by omega)
  have HE := Bx.mk hE
  have HE' := Bx.mk hE'
  have HD1 := Bx.mk hD1
  have HD1' := Bx.mk hD1'
  have HD2 := Bx.mk hD2
  have HD2' := Bx.mk hD2'
  clear hE hE' hD1 hD1' hD2 hD2'
  by_cases hm0 : m = 0
  · obtain rfl : M = 0 := by omega
    have hadd2 : IntKind.u64.wrap U = P := by rw [Int.add_zero] at hadd; exact hadd
    clear hBD hB hmx hC hEE hE2 hT hU hX hM hK hxl hmo hul hc he ht hcap0 hcap hp hP hadd hm0
    go_enter Try.func3, Try.ntmps3
    go_wp2_with fail
    refine (known_any _).mono ?_
    rintro e w1 ⟨rfl, b1⟩
    go_wp2_with fail
    refine wp_loop_rounds 3 ?_
    rw [rounds_succ]
    go_wp2_with (first
      | (go_at_call 7; refine (HD1.out _).mono ?_; rintro e w2 ⟨rfl, rfl⟩)
      | (go_at_call 8; refine (HD1'.out _).mono ?_; rintro e w2 ⟨rfl, rfl⟩)
      | (go_at_call 9; refine (HE.out _).mono ?_; rintro e w2 ⟨rfl, rfl⟩)
      | (go_at_call 10; refine (HE'.out _).mono ?_; rintro e w2 ⟨rfl, rfl⟩))
    rw [rounds_succ]
    go_wp2_with (first
      | (go_at_call 7; refine (HD2.out _).mono ?_; rintro e w2 ⟨rfl, rfl⟩)
      | (go_at_call 8; refine (HD2'.out _).mono ?_; rintro e w2 ⟨rfl, rfl⟩)
      | (go_at_call 9; refine (HE.out _).mono ?_; rintro e w2 ⟨rfl, rfl⟩)
      | (go_at_call 10; refine (HE'.out _).mono ?_; rintro e w2 ⟨rfl, rfl⟩))
    rw [rounds_succ]
    go_wp2_with (first
      | (go_at_call 7; refine (HD2.out _).mono ?_; rintro e w2 ⟨rfl, rfl⟩)
      | (go_at_call 8; refine (HD2'.out _).mono ?_; rintro e w2 ⟨rfl, rfl⟩)
      | (go_at_call 9; refine (HE.out _).mono ?_; rintro e w2 ⟨rfl, rfl⟩)
      | (go_at_call 10; refine (HE'.out _).mono ?_; rintro e w2 ⟨rfl, rfl⟩))
    go_ret
    exact ⟨rfl, b1.alloc b1.size _⟩
  have hM1 : max M 1 = M := by omega
  obtain ⟨W, hW⟩ := letter (2 * m)
  have hmul : IntKind.u64.wrap (2 * M) = W := by rw [show 2 * M = W from by omega]; exact u64_keep (by omega) (by omega)
  have hW0 : ¬ W = 0 := by omega
  have hM0 : (M == 0) = false := by rw [beq_eq_false_iff_ne]; omega
  obtain ⟨r, hr⟩ : ∃ r, c % (2 * m) = r := ⟨_, rfl⟩
  have hrl : r < 2 * m := by rw [← hr]; exact Nat.mod_lt _ (by omega)
  obtain ⟨R, hR⟩ := letter r
  have hrem : C.tmod W = R := by rw [← hC, ← hW, ← hR, ← hr]; exact Int.ofNat_tmod c (2 * m)
  have hwR : IntKind.u64.wrap R = R := u64_keep (by omega) (by omega)
  rcases Nat.lt_or_ge p r with hlt | hge
  · obtain ⟨B, hBB⟩ := letter (18446744073709551616 + p - r)
    have hsub : IntKind.u64.wrap (P - R) = B := by rw [IntKind.wrap_u64]; omega
    have hB0 : (B == 0) = false := by rw [beq_eq_false_iff_ne]; omega
    have hBP : decide (P < B) = true := by rw [decide_eq_true_iff]; omega
    clear hBD hB hmx hC hEE hE2 hT hU hX hM hK hxl hmo hul hc he ht hcap0 hcap hp hP hm0 hW hr hrl hR hlt hBB
    go_enter Try.func3, Try.ntmps3
    go_wp2_with fail
    refine (known_any _).mono ?_
    rintro e w1 ⟨rfl, b1⟩
    go_wp2_with fail
    refine wp_loop_rounds 3 ?_
    rw [rounds_succ]
    go_wp2_with (first
      | (go_at_call 7; refine (HD1.out _).mono ?_; rintro e w2 ⟨rfl, rfl⟩)
      | (go_at_call 8; refine (HD1'.out _).mono ?_; rintro e w2 ⟨rfl, rfl⟩)
      | (go_at_call 9; refine (HE.out _).mono ?_; rintro e w2 ⟨rfl, rfl⟩)
      | (go_at_call 10; refine (HE'.out _).mono ?_; rintro e w2 ⟨rfl, rfl⟩))
    rw [rounds_succ]
    go_wp2_with (first
      | (go_at_call 7; refine (HD2.out _).mono ?_; rintro e w2 ⟨rfl, rfl⟩)
      | (go_at_call 8; refine (HD2'.out _).mono ?_; rintro e w2 ⟨rfl, rfl⟩)
      | (go_at_call 9; refine (HE.out _).mono ?_; rintro e w2 ⟨rfl, rfl⟩)
      | (go_at_call 10; refine (HE'.out _).mono ?_; rintro e w2 ⟨rfl, rfl⟩))
    rw [rounds_succ]
    go_wp2_with (first
      | (go_at_call 7; refine (HD2.out _).mono ?_; rintro e w2 ⟨rfl, rfl⟩)
      | (go_at_call 8; refine (HD2'.out _).mono ?_; rintro e w2 ⟨rfl, rfl⟩)
      | (go_at_call 9; refine (HE.out _).mono ?_; rintro e w2 ⟨rfl, rfl⟩)
      | (go_at_call 10; refine (HE'.out _).mono ?_; rintro e w2 ⟨rfl, rfl⟩))
    go_ret
    exact ⟨rfl, b1.alloc b1.size _⟩
  obtain ⟨k, hk⟩ : ∃ k, p - r = k := ⟨_, rfl⟩
  obtain ⟨B, hBB⟩ := letter k
  have hsub : IntKind.u64.wrap (P - R) = B := by rw [show P - R = B from by omega]; exact u64_keep (by omega) (by omega)
  have hBP : decide (P < B) = false := by rw [decide_eq_false_iff_not]; omega
  by_cases hk0 : k = 0
  · obtain rfl : B = 0 := by omega
    clear hBD hB hmx hC hEE hE2 hT hU hX hM hK hxl hmo hul hc he ht hcap0 hcap hp hP hm0 hW hr hrl hR hge hBB hk hk0
    go_enter Try.func3, Try.ntmps3
    go_wp2_with fail
    refine (known_any _).mono ?_
    rintro e w1 ⟨rfl, b1⟩
    go_wp2_with fail
    refine wp_loop_rounds 3 ?_
    rw [rounds_succ]
    go_wp2_with (first
      | (go_at_call 7; refine (HD1.out _).mono ?_; rintro e w2 ⟨rfl, rfl⟩)
      | (go_at_call 8; refine (HD1'.out _).mono ?_; rintro e w2 ⟨rfl, rfl⟩)
      | (go_at_call 9; refine (HE.out _).mono ?_; rintro e w2 ⟨rfl, rfl⟩)
      | (go_at_call 10; refine (HE'.out _).mono ?_; rintro e w2 ⟨rfl, rfl⟩))
    rw [rounds_succ]
    go_wp2_with (first
      | (go_at_call 7; refine (HD2.out _).mono ?_; rintro e w2 ⟨rfl, rfl⟩)
      | (go_at_call 8; refine (HD2'.out _).mono ?_; rintro e w2 ⟨rfl, rfl⟩)
      | (go_at_call 9; refine (HE.out _).mono ?_; rintro e w2 ⟨rfl, rfl⟩)
      | (go_at_call 10; refine (HE'.out _).mono ?_; rintro e w2 ⟨rfl, rfl⟩))
    rw [rounds_succ]
    go_wp2_with (first
      | (go_at_call 7; refine (HD2.out _).mono ?_; rintro e w2 ⟨rfl, rfl⟩)
      | (go_at_call 8; refine (HD2'.out _).mono ?_; rintro e w2 ⟨rfl, rfl⟩)
      | (go_at_call 9; refine (HE.out _).mono ?_; rintro e w2 ⟨rfl, rfl⟩)
      | (go_at_call 10; refine (HE'.out _).mono ?_; rintro e w2 ⟨rfl, rfl⟩))
    go_ret
    exact ⟨rfl, b1.alloc b1.size _⟩
  have hB0 : (B == 0) = false := by rw [beq_eq_false_iff_ne]; omega
  have hEB := hB k (by omega)
  have hDB := hBD k
  rw [dcN_ecN hm0 hk0 (by omega) (by omega), Dec_some] at hDB
  obtain ⟨F, hF⟩ := letter (ecN k m)
  simp only [hBB, hF, hU] at hEB hDB
  have HEB := Bx.mk hEB
  have HDB := Bx.mk hDB
  clear hEB hDB
  clear hBD hB hmx hC hEE hE2 hT hU hX hM hK hxl hmo hul hc he ht hcap0 hcap hp hP hm0 hW hr hrl hR hge hBB hk hk0 hF
  go_enter Try.func3, Try.ntmps3
  go_wp2_with fail
  refine (known_any _).mono ?_
  rintro e w1 ⟨rfl, b1⟩
  go_wp2_with fail
  refine wp_loop_rounds 3 ?_
  rw [rounds_succ]
  go_wp2_with (first
    | (go_at_call 7; refine (HD1.out _).mono ?_; rintro e w2 ⟨rfl, rfl⟩)
    | (go_at_call 8; refine (HD1'.out _).mono ?_; rintro e w2 ⟨rfl, rfl⟩)
    | (go_at_call 9; refine (HE.out _).mono ?_; rintro e w2 ⟨rfl, rfl⟩)
    | (go_at_call 10; refine (HE'.out _).mono ?_; rintro e w2 ⟨rfl, rfl⟩))
  rw [rounds_succ]
  go_wp2_with (first
    | (go_at_call 7; refine (HD2.out _).mono ?_; rintro e w2 ⟨rfl, rfl⟩)
    | (go_at_call 8; refine (HD2'.out _).mono ?_; rintro e w2 ⟨rfl, rfl⟩)
    | (go_at_call 9; refine (HE.out _).mono ?_; rintro e w2 ⟨rfl, rfl⟩)
    | (go_at_call 10; refine (HE'.out _).mono ?_; rintro e w2 ⟨rfl, rfl⟩))
  rw [rounds_succ]
  go_wp2_with fail
  refine (HE.out _).mono ?_
  rintro e w2 ⟨rfl, rfl⟩
  go_wp2_with fail
  refine (HE'.out _).mono ?_
  rintro e w2 ⟨rfl, rfl⟩
  go_wp2_with fail
  refine (HEB.out _).mono ?_
  rintro e w2 ⟨rfl, rfl⟩
  go_wp2_with fail
  refine (HDB.out _).mono ?_
  rintro e w2 ⟨rfl, rfl⟩
  go_wp2_with fail
  go_ret
  exact ⟨rfl, b1.alloc b1.size _⟩

end Go.Proofs.Ytcehfegknckinaa
