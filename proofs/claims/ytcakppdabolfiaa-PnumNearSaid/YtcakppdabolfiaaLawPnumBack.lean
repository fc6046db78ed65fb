/-
  bifoldlaw17.PnumBack answers true, whatever its arguments: the walk.
-/
import Derived.Test.YtcakppdabolfiaaLawPnumTells
namespace Go.Proofs.Ytcakppdabolfiaa
open Go.RowKit
set_option linter.unusedVariables false
set_option linter.unusedSimpArgs false

theorem u32_wf {t : Int} (h : (Lit.int .u32 t).wf = true) : 0 ≤ t ∧ t < 4294967296 := by
  have h0 : IntKind.u32.min ≤ t ∧ t ≤ IntKind.u32.max := by simpa [Lit.wf] using h
  have h1 : IntKind.u32.min = 0 := rfl
  have h2 : IntKind.u32.max = 4294967295 := rfl
  omega
theorem bytesN_len (x : Nat) (a : Int) : bytesN (lenN x a : Int) = lenN x a := by
  rcases lenN_cases x a with h | h | h | h <;> rw [h] <;> rfl
set_option maxHeartbeats 4000000 in
theorem pnumBack_small (x p : Nat) (Be Ah A D : Int) (hx : x < 18446744073709551616) (hp : x % 2305843009213693952 = p) (hBe : 0 ≤ Be ∧ Be < 4294967296) (hAh : 0 ≤ Ah ∧ Ah < 4294967296)
    (hA : max ((p : Int) - Be - 1) (-1) = A) (hD : (p : Int) - A = D) (w : World) :
    Calls Try.prog 4 #[.int .u64 (x : Int), .int .u32 Be, .int .u32 Ah] w fun e w' => e = .returned (.bool true) ∧ Below w.heap.size w w' := by
  have hpb : p < 2305843009213693952 := by rw [← hp]; exact Nat.mod_lt _ (by omega)
  have hm : bits .and .u64 (x : Int) 2305843009213693951 = (p : Int) := by
    rw [show (2305843009213693951 : Int) = ((2 ^ 61 - 1 : Nat) : Int) from rfl, u64_and_nat _ _ hx (by omega), Nat.and_two_pow_sub_one_eq_mod]
    exact congrArg _ hp
  have hA1 : -1 ≤ A ∧ A < p := by omega
  have HK := Bx.mk (known17_any w)
  obtain ⟨PI, hPI⟩ : ∃ V : Int, (p : Int) = V := ⟨_, rfl⟩
  obtain ⟨XI, hXI⟩ : ∃ V : Int, (x : Int) = V := ⟨_, rfl⟩
  have w1 : IntKind.i64.wrap PI = PI := by rw [IntKind.wrap_i64]; omega
  have w2 : IntKind.i64.wrap Be = Be := by rw [IntKind.wrap_i64]; omega
  obtain ⟨S1, hS1⟩ : ∃ V : Int, PI - Be = V := ⟨_, rfl⟩
  obtain ⟨S2, hS2⟩ : ∃ V : Int, S1 - 1 = V := ⟨_, rfl⟩
  have w3 : wrap64 S1 = S1 := by unfold wrap64; omega
  have w4 : wrap64 S2 = S2 := by unfold wrap64; omega
  have w5 : max S2 (-1) = A := by rw [← hS2, ← hS1, ← hPI]; exact hA
  obtain ⟨UA, hUA⟩ : ∃ V : Int, IntKind.u64.wrap A = V := ⟨_, rfl⟩
  have w6 : IntKind.u64.wrap (PI - UA) = D := by rw [← hUA, IntKind.wrap_u64, IntKind.wrap_u64]; omega
  obtain ⟨LN, hLN⟩ : ∃ V : Int, (lenN p A : Int) = V := ⟨_, rfl⟩
  have PL := Bx.mk (fun W => pnLen_any p A (by omega) (by omega) (by omega) W)
  rw [hLN, hPI] at PL
  rw [hXI] at hm ⊢
  rw [hPI] at hm
  have HBK : Bx (∀ lg : Int, A ≤ lg → lg < PI → D < 2147483648 → fullN (p % winN (lenN p A)) (winN (lenN p A)) (wantN lg) = p) := ⟨fun lg h1 h2 h3 => pn_back p A lg hA1.1 h1 (by omega) (by omega) hpb⟩
  obtain ⟨c, hc⟩ : ∃ c, p % winN (lenN p A) = c := ⟨_, rfl⟩
  have hcb : c ≤ p := by rw [← hc]; exact Nat.mod_le _ _
  have PC := Bx.mk (fun W => pnCut_any p (lenN p A : Int) (by omega) W)
  rw [bytesN_len, hc, hLN, hPI] at PC
  have PF := Bx.mk (fun (lg : Int) (h1 : -9223372036854775808 ≤ lg) (h2 : lg ≤ 9223372036854775807) W => pnFull_any c (lenN p A : Int) lg (by omega) h1 h2 W)
  rw [hLN] at PF
  have hbl : bytesN LN = lenN p A := by rw [← hLN, bytesN_len]
  rw [hbl] at PF
  rw [hc] at HBK
  obtain ⟨CI, hCI⟩ : ∃ V : Int, (c : Int) = V := ⟨_, rfl⟩
  rw [hCI] at PC PF
  by_cases hbig : 2147483648 ≤ D
  · have hd : decide (2147483648 ≤ D) = true := decide_eq_true hbig
    clear hbig hcb hpb hA1 hPI hXI hLN hCI hc hbl hx hp hBe hAh hA hD HBK PC PF
    go_enter Try.func4, Try.ntmps4
    go_wp2_with (first
      | (go_at_call 17; refine HK.out.mono ?_; rintro e w1 ⟨rfl, b1⟩; have HB1 := Bx.mk b1; clear b1)
      | (go_at_call 18; refine (PL.out _).mono ?_; rintro e w2 ⟨rfl, b2⟩; have HB2 := Bx.mk (HB1.out.trans (b2.mono HB1.out.size)); clear b2))
    go_ret
    exact ⟨rfl, HB2.out⟩
  · have hd : decide (2147483648 ≤ D) = false := decide_eq_false hbig
    have hDp : 0 < D := by omega
    have w7 : IntKind.i64.wrap Ah = Ah := by rw [IntKind.wrap_i64]; clear w1 w2 w3 w4 w6; omega
    have e1 : PI - A = D := by rw [← hPI]; exact hD
    have w8 : wrap64 D = D := by unfold wrap64; clear w1 w2 w3 w4 w6 w7; omega
    have w9 : IntKind.i64.wrap D = D := by rw [IntKind.wrap_i64]; clear w1 w2 w3 w4 w6 w7 w8; omega
    obtain ⟨R, hR⟩ : ∃ V : Int, Ah.tmod D = V := ⟨_, rfl⟩
    have hR1 : 0 ≤ R ∧ R < D := by
      rw [← hR]
      exact ⟨Int.tmod_nonneg _ hAh.1, Int.tmod_lt_of_pos _ hDp⟩
    obtain ⟨LG, hLG⟩ : ∃ V : Int, A + R = V := ⟨_, rfl⟩
    have hLGb : -1 ≤ LG ∧ LG < 2305843009213693952 := by clear w1 w2 w3 w4 w6 w7 w8 w9; omega
    have w10 : wrap64 LG = LG := by unfold wrap64; clear w1 w2 w3 w4 w6 w7 w8 w9; omega
    have w11 : IntKind.i64.wrap LG = LG := by rw [IntKind.wrap_i64]; clear w1 w2 w3 w4 w6 w7 w8 w9 w10; omega
    have hz1 : (D == 0) = false := by rw [beq_eq_false_iff_ne]; clear w1 w2 w3 w4 w6 w7 w8 w9 w10 w11; omega
    have hz2 : ¬ D = 0 := by clear w1 w2 w3 w4 w6 w7 w8 w9 w10 w11; omega
    have PF2 := Bx.mk (PF.out LG (by clear w1 w2 w3 w4 w6 w7 w8 w9 w10 w11; omega) (by clear w1 w2 w3 w4 w6 w7 w8 w9 w10 w11; omega))
    rw [HBK.out LG (by clear w1 w2 w3 w4 w6 w7 w8 w9 w10 w11; omega) (by clear w1 w2 w3 w4 w6 w7 w8 w9 w10 w11; omega) (by clear w1 w2 w3 w4 w6 w7 w8 w9 w10 w11; omega), hPI] at PF2
    clear hbig hcb hpb hA1 hPI hXI hLN hCI hc hbl hx hp hBe hAh hA hD HBK PF hDp hR1 hLGb
    go_enter Try.func4, Try.ntmps4
    go_wp2_with (first
      | (go_at_call 17; refine HK.out.mono ?_; rintro e w1 ⟨rfl, b1⟩; have HB1 := Bx.mk b1; clear b1)
      | (go_at_call 18; refine (PL.out _).mono ?_; rintro e w2 ⟨rfl, b2⟩; have HB2 := Bx.mk (HB1.out.trans (b2.mono HB1.out.size)); clear b2)
      | (go_at_call 20; refine (PC.out _).mono ?_; rintro e w3 ⟨rfl, b3⟩; have HB3 := Bx.mk (HB2.out.trans (b3.mono HB2.out.size)); clear b3)
      | (go_at_call 22; refine (PF2.out _).mono ?_; rintro e w4 ⟨rfl, b4⟩; have HB4 := Bx.mk (HB3.out.trans (b4.mono HB3.out.size)); clear b4))
    go_ret
    exact ⟨rfl, HB4.out⟩
theorem pnumBack_walk (X Be Ah : Int) (hX : (Lit.int .u64 X).wf = true) (hB : (Lit.int .u32 Be).wf = true) (hA : (Lit.int .u32 Ah).wf = true) (w : World) :
    Calls Try.prog 4 #[.int .u64 X, .int .u32 Be, .int .u32 Ah] w fun e w' => e = .returned (.bool true) ∧ Below w.heap.size w w' := by
  obtain ⟨x, rfl⟩ := Int.eq_ofNat_of_zero_le (u64_wf hX).1
  have hx := (u64_wf hX).2
  exact pnumBack_small x _ Be Ah _ _ (by omega) rfl (u32_wf hB) (u32_wf hA) rfl rfl w
end Go.Proofs.Ytcakppdabolfiaa
