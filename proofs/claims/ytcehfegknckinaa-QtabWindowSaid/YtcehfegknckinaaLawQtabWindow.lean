/-
  bifoldlaw8.QtabWindow answers true, whatever its arguments: the walk.
-/
import Derived.Test.YtcehfegknckinaaQtG
namespace Go.Proofs.Ytcehfegknckinaa
open Go.RowKit
set_option linter.unusedVariables false

theorem qw_wf {a : Int} (h : (Lit.int .u16 a).wf = true) : ∃ n : Nat, a = (n : Int) ∧ n < 65536 := by
  simp [Lit.wf, IntKind.min, IntKind.max, IntKind.signed, IntKind.bits] at h
  exact ⟨a.toNat, by omega, by omega⟩

set_option maxRecDepth 100000 in
set_option maxHeartbeats 2000000 in
theorem qtabWindow_walk (a0 : Int) (a1 : Int) (a2 : Int) (w0 : (Lit.int .u16 a0).wf = true) (w1 : (Lit.int .u16 a1).wf = true) (w2 : (Lit.int .u16 a2).wf = true) (w : World) :
    Calls Try.prog 5 #[.int .u16 a0, .int .u16 a1, .int .u16 a2] w fun e w' => e = .returned (.bool true) ∧ Below w.heap.size w w' := by
  obtain ⟨t, rfl, ht⟩ := qw_wf w0
  obtain ⟨c, rfl, hc⟩ := qw_wf w1
  obtain ⟨d, rfl, hd⟩ := qw_wf w2
  clear w0 w1 w2
  obtain ⟨m, hm⟩ : ∃ m, c / 32 = m := ⟨_, rfl⟩
  have hmo : mostN (c : Int) = m := by unfold mostN; omega
  obtain ⟨T, hT⟩ := letter t
  obtain ⟨C, hC⟩ := letter c
  obtain ⟨D, hD⟩ := letter d
  obtain ⟨M, hM⟩ := letter m
  have hq : C.tdiv 32 = M := by rw [Int.tdiv_eq_ediv_of_nonneg (by omega)]; omega
  have hwT : IntKind.u64.wrap T = T := u64_keep (by omega) (by omega)
  have hwC : IntKind.u64.wrap C = C := u64_keep (by omega) (by omega)
  have hwD : IntKind.u64.wrap D = D := u64_keep (by omega) (by omega)
  have hwM : IntKind.u64.wrap M = M := u64_keep (by omega) (by omega)
  have hiC : IntKind.i64.wrap C = C := by rw [IntKind.wrap_i64]; omega
  have hiC' : wrap64 C = C := by unfold wrap64; omega
  by_cases hm0 : m = 0
  · obtain rfl : M = 0 := by omega
    simp only [hT, hC, hD]
    clear hm hmo hT hC hD hM hm0 ht hc hd
    go_enter Try.func5, Try.ntmps5
    go_wp2_with (go_at_call 6; refine (known_any _).mono ?_; rintro e w1 ⟨rfl, b1⟩)
    go_ret
    exact ⟨rfl, b1⟩
  obtain ⟨p, hp⟩ : ∃ p, t + m = p := ⟨_, rfl⟩
  obtain ⟨r, hr⟩ : ∃ r, d % (2 * m) = r := ⟨_, rfl⟩
  have hrl : r < 2 * m := by rw [← hr]; exact Nat.mod_lt _ (by omega)
  obtain ⟨k, hk⟩ : ∃ k, p - min r p = k := ⟨_, rfl⟩
  obtain ⟨P, hP⟩ := letter p
  obtain ⟨R, hR⟩ := letter r
  obtain ⟨K, hK⟩ := letter k
  obtain ⟨W, hW⟩ := letter (2 * m)
  obtain ⟨N, hN⟩ := letter (min r p)
  have hM0 : (M == 0) = false := by rw [beq_eq_false_iff_ne]; omega
  have hadd : IntKind.u64.wrap (T + M) = P := by rw [show T + M = P from by omega]; exact u64_keep (by omega) (by omega)
  have hmul : IntKind.u64.wrap (2 * M) = W := by rw [show 2 * M = W from by omega]; exact u64_keep (by omega) (by omega)
  have hW0 : ¬ W = 0 := by omega
  have hrem : D.tmod W = R := by rw [← hD, ← hW, ← hR, ← hr]; exact Int.ofNat_tmod d (2 * m)
  have hwR : IntKind.u64.wrap R = R := u64_keep (by omega) (by omega)
  have hmin : min R P = N := by omega
  have hsub : IntKind.u64.wrap (P - N) = K := by rw [show P - N = K from by omega]; exact u64_keep (by omega) (by omega)
  by_cases hk0 : k = 0
  · obtain rfl : K = 0 := by omega
    simp only [hT, hC, hD]
    clear hm hmo hT hC hD hM hm0 ht hc hd hp hr hrl hk hP hR hK hW hN hk0
    go_enter Try.func5, Try.ntmps5
    go_wp2_with (go_at_call 6; refine (known_any _).mono ?_; rintro e w1 ⟨rfl, b1⟩)
    go_ret
    exact ⟨rfl, b1⟩
  have hE := encodeCount_any k (c : Int) (by omega) (by omega)
  have hD1 := decodeCount_any (ecN k m) t (c : Int) (ecN_lt (by omega)) (by omega) (by omega)
  have hD2 := decodeCount_any (2 * m + 1 + d) t (c : Int) (by omega) (by omega) (by omega)
  have hD3 := refDecodeCount_any (2 * m + 1 + d) t (c : Int) (by omega) (by omega) (by omega)
  rw [hmo] at hE
  rw [hmo, dcN_ecN hm0 hk0 (by omega) (by omega), Dec_some] at hD1
  rw [hmo, dcN_far (by omega), Dec_none] at hD2 hD3
  obtain ⟨E, hEE⟩ := letter (ecN k m)
  obtain ⟨F, hF⟩ := letter (2 * m + 1)
  obtain ⟨G, hG⟩ := letter (2 * m + 1 + d)
  have hf : IntKind.u64.wrap (W + 1) = F := by rw [show W + 1 = F from by omega]; exact u64_keep (by omega) (by omega)
  have hg : IntKind.u64.wrap (F + D) = G := by rw [show F + D = G from by omega]; exact u64_keep (by omega) (by omega)
  have hK0 : (K == 0) = false := by rw [beq_eq_false_iff_ne]; omega
  simp only [hT, hC, hD, hK, hEE, hG] at hE hD1 hD2 hD3 ⊢
  have HE := Bx.mk hE
  have HD1 := Bx.mk hD1
  have HD2 := Bx.mk hD2
  have HD3 := Bx.mk hD3
  clear hE hD1 hD2 hD3 hm hmo hT hC hD hM hm0 ht hc hd hp hr hrl hk hP hR hK hW hN hk0 hEE hF hG
  go_enter Try.func5, Try.ntmps5
  go_wp2_with fail
  refine (known_any _).mono ?_
  rintro e w1 ⟨rfl, b1⟩
  go_wp2_with fail
  refine (HE.out _).mono ?_
  rintro e w2 ⟨rfl, rfl⟩
  go_wp2_with fail
  refine (HD1.out _).mono ?_
  rintro e w2 ⟨rfl, rfl⟩
  go_wp2_with fail
  refine (HD2.out _).mono ?_
  rintro e w2 ⟨rfl, rfl⟩
  go_wp2_with fail
  refine (HD3.out _).mono ?_
  rintro e w2 ⟨rfl, rfl⟩
  go_wp2_with fail
  go_ret
  exact ⟨rfl, b1⟩

end Go.Proofs.Ytcehfegknckinaa
