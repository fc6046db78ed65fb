/-
  Packets' numbers: the document's Full (written by mkpnf.py).
-/
import Derived.Test.YtcakppdabolfiaaPnA
namespace Go.Proofs.Ytcakppdabolfiaa
open Go.RowKit
set_option linter.unusedVariables false
set_option linter.unusedSimpArgs false

theorem and_high (a k : Nat) (ha : a < 18446744073709551616) (hk : k ≤ 64) : a &&& (18446744073709551615 - (2 ^ k - 1)) = a / 2 ^ k * 2 ^ k := by
  have hp : 2 ^ k ≤ 2 ^ 64 := Nat.pow_le_pow_right (by omega) hk
  have hp0 : 0 < 2 ^ k := Nat.two_pow_pos k
  apply Nat.eq_of_testBit_eq
  intro i
  have e : 18446744073709551615 - (2 ^ k - 1) = 2 ^ 64 - ((2 ^ k - 1) + 1) := by omega
  rw [Nat.testBit_and, e, Nat.testBit_two_pow_sub_succ (by omega), Nat.testBit_two_pow_sub_one, Nat.testBit_mul_two_pow]
  by_cases h1 : k ≤ i
  · have h2 : ¬ i < k := by omega
    rw [Nat.testBit_div_two_pow, show i - k + k = i from by omega]
    by_cases h3 : i < 64
    · simp [h1, h2, h3]
    · have h4 : a.testBit i = false := Nat.testBit_lt_two_pow (Nat.lt_of_lt_of_le ha (by rw [show 18446744073709551616 = 2 ^ 64 from rfl]; exact Nat.pow_le_pow_right (by omega) (by omega)))
      simp [h4]
  · have h2 : i < k := by omega
    simp [h1, h2]
set_option maxHeartbeats 4000000 in
theorem refFull_1 (x : Nat) (n largest : Int) (hx : x < 18446744073709551616) (hn : bytesN n = 1) (hl1 : -9223372036854775808 ≤ largest) (hl2 : largest ≤ 9223372036854775807) (w : World) :
    Calls Try.prog 23 #[.int .u64 (x : Int), .int .i64 n, .int .i64 largest] w fun e w' => e = .returned (.int .u64 (fullN x (winN (bytesN n)) (wantN largest) : Int)) ∧ w' = w := by
  have HB := Bx.mk (refBytes_any n)
  have ha := pn_and x 8 256 hx (by omega)
  rw [hn] at HB ⊢
  rw [show winN 1 = 256 from rfl]
  rw [show ((256 : Nat) : Int) - 1 = 255 from rfl] at ha
  obtain ⟨W, hW⟩ : ∃ W : Nat, wantN largest = W := ⟨_, rfl⟩
  have hWb : W ≤ 4611686018427387904 := by
    rw [← hW]; unfold wantN
    split <;> omega
  have hq : bits .andNot .u64 (W : Int) 255 = ((W - W % 256 : Nat) : Int) := by
    rw [show (255 : Int) = ((255 : Nat) : Int) from rfl, u64_andNot_nat _ _ (by omega) (by omega), show (255 : Nat) = 2 ^ 8 - 1 from rfl, and_high _ _ (by omega) (by omega)]
    rw [show (2 : Nat) ^ 8 = 256 from rfl]
    congr 1
    omega
  have hor : bits .or .u64 ((W - W % 256 : Nat) : Int) ((x % 256 : Nat) : Int) = ((W - W % 256 + x % 256 : Nat) : Int) := by
    have e : W - W % 256 = W / 256 * 2 ^ 8 := by rw [show (2 : Nat) ^ 8 = 256 from rfl]; omega
    rw [u64_or_nat _ _ (by omega) (by omega), e, or_add _ _ 8 (by rw [show (2 : Nat) ^ 8 = 256 from rfl]; omega)]
  have hres : fullN x 256 (wantN largest) = fullN x 256 W := by rw [hW]
  rw [hres]
  clear hres
  have hfull : fullN x 256 W = (if 128 ≤ W ∧ W - W % 256 + x % 256 ≤ W - 128 ∧ W - W % 256 + x % 256 < 4611686018427387648 then W - W % 256 + x % 256 + 256 else if W + 128 < W - W % 256 + x % 256 ∧ 256 ≤ W - W % 256 + x % 256 then W - W % 256 + x % 256 - 256 else W - W % 256 + x % 256) := rfl
  rw [hfull]
  clear hfull
  obtain ⟨C, hC⟩ : ∃ C : Nat, W - W % 256 + x % 256 = C := ⟨_, rfl⟩
  have hCb : C ≤ W + 256 := by omega
  rw [hC] at hor ⊢
  clear hC
  have HW0 := Bx.mk hW
  obtain ⟨WI, hWI⟩ : ∃ y : Int, (W : Int) = y := ⟨_, rfl⟩
  obtain ⟨CI, hCI⟩ : ∃ y : Int, (C : Int) = y := ⟨_, rfl⟩
  obtain ⟨RI, hRI⟩ : ∃ y : Int, ((x % 256 : Nat) : Int) = y := ⟨_, rfl⟩
  obtain ⟨QI, hQI⟩ : ∃ y : Int, ((W - W % 256 : Nat) : Int) = y := ⟨_, rfl⟩
  obtain ⟨XI, hXI⟩ : ∃ y : Int, (x : Int) = y := ⟨_, rfl⟩
  rw [hXI, hRI] at ha
  rw [hWI, hQI] at hq
  rw [hQI, hRI, hCI] at hor
  rw [hXI]
  have hLN : (largest < 0 ∧ WI = 0) ∨ (0 ≤ largest ∧ WI = min largest 4611686018427387903 + 1) := by
    rw [← hWI, ← hW]
    unfold wantN
    by_cases h : largest < 0
    · rw [if_pos h]; exact .inl ⟨h, rfl⟩
    · rw [if_neg h]; right; refine ⟨by omega, ?_⟩; omega
  clear hRI hQI hXI hW hx hn HW0
  have hz : ∀ y : Int, 0 ≤ y → y < 18446744073709551616 → IntKind.u64.wrap y = y := fun y h1 h2 => by rw [IntKind.wrap_u64]; omega
  by_cases hA : 128 ≤ W
  · by_cases hB : C ≤ W - 128
    · by_cases hG : C < 4611686018427387648
      · rw [if_pos ⟨hA, hB, hG⟩]
        have fA : decide (128 ≤ WI) = true := decide_eq_true (by omega)
        have x1 : IntKind.u64.wrap (WI - 128) = WI - 128 := hz _ (by omega) (by omega)
        have fB : decide (CI ≤ WI - 128) = true := decide_eq_true (by omega)
        have fG : decide (CI < 4611686018427387648) = true := decide_eq_true (by omega)
        have z1 : IntKind.u64.wrap (CI + 256) = CI + 256 := hz _ (by omega) (by omega)
        have HE : Bx (∀ e : Int, e = CI + 256 → Ending.returned (Value.int .u64 e) = .returned (.int .u64 ((C + 256 : Nat) : Int))) := ⟨fun e he => by rw [he]; congr 2; omega⟩
        rcases hLN with ⟨hl, hw⟩ | ⟨hl, hw⟩
        · exfalso
          omega
        · have g1 : decide (0 ≤ largest) = true := decide_eq_true hl
          have g2 : IntKind.u64.wrap largest = largest := hz _ hl (by omega)
          have g3 : IntKind.u64.wrap WI = WI := hz _ (by omega) (by omega)
          have g4 : min largest 4611686018427387903 + 1 = WI := hw.symm
          clear hw
          clear hl hWI hCI hz hA hB hG hCb hWb hl1 hl2
          go_enter Try.func23, Try.ntmps23
          go_wp2_with (go_at_call 53; refine (HB.out _).mono ?_; rintro e w1 ⟨rfl, hw⟩; subst hw)
          go_ret
          exact ⟨HE.out _ rfl, rfl⟩
      · by_cases hD : W + 128 < C
        · by_cases hE : 256 ≤ C
          · rw [if_neg (fun h => hG h.2.2), if_pos ⟨hD, hE⟩]
            have fA : decide (128 ≤ WI) = true := decide_eq_true (by omega)
            have x1 : IntKind.u64.wrap (WI - 128) = WI - 128 := hz _ (by omega) (by omega)
            have fB : decide (CI ≤ WI - 128) = true := decide_eq_true (by omega)
            have fG : decide (CI < 4611686018427387648) = false := decide_eq_false (by omega)
            have y1 : IntKind.u64.wrap (WI + 128) = WI + 128 := hz _ (by omega) (by omega)
            have fD : decide (WI + 128 < CI) = true := decide_eq_true (by omega)
            have fE : decide (256 ≤ CI) = true := decide_eq_true (by omega)
            have v1 : IntKind.u64.wrap (CI - 256) = CI - 256 := hz _ (by omega) (by omega)
            have HE : Bx (∀ e : Int, e = CI - 256 → Ending.returned (Value.int .u64 e) = .returned (.int .u64 ((C - 256 : Nat) : Int))) := ⟨fun e he => by rw [he]; congr 2; omega⟩
            rcases hLN with ⟨hl, hw⟩ | ⟨hl, hw⟩
            · exfalso
              omega
            · have g1 : decide (0 ≤ largest) = true := decide_eq_true hl
              have g2 : IntKind.u64.wrap largest = largest := hz _ hl (by omega)
              have g3 : IntKind.u64.wrap WI = WI := hz _ (by omega) (by omega)
              have g4 : min largest 4611686018427387903 + 1 = WI := hw.symm
              clear hw
              clear hl hWI hCI hz hA hB hG hD hE hCb hWb hl1 hl2
              go_enter Try.func23, Try.ntmps23
              go_wp2_with (go_at_call 53; refine (HB.out _).mono ?_; rintro e w1 ⟨rfl, hw⟩; subst hw)
              go_ret
              exact ⟨HE.out _ rfl, rfl⟩
          · rw [if_neg (fun h => hG h.2.2), if_neg (fun h => hE h.2)]
            have fA : decide (128 ≤ WI) = true := decide_eq_true (by omega)
            have x1 : IntKind.u64.wrap (WI - 128) = WI - 128 := hz _ (by omega) (by omega)
            have fB : decide (CI ≤ WI - 128) = true := decide_eq_true (by omega)
            have fG : decide (CI < 4611686018427387648) = false := decide_eq_false (by omega)
            have y1 : IntKind.u64.wrap (WI + 128) = WI + 128 := hz _ (by omega) (by omega)
            have fD : decide (WI + 128 < CI) = true := decide_eq_true (by omega)
            have fE : decide (256 ≤ CI) = false := decide_eq_false (by omega)
            have HE : Bx (∀ e : Int, e = CI → Ending.returned (Value.int .u64 e) = .returned (.int .u64 ((C : Nat) : Int))) := ⟨fun e he => by rw [he]; congr 2; omega⟩
            rcases hLN with ⟨hl, hw⟩ | ⟨hl, hw⟩
            · exfalso
              omega
            · have g1 : decide (0 ≤ largest) = true := decide_eq_true hl
              have g2 : IntKind.u64.wrap largest = largest := hz _ hl (by omega)
              have g3 : IntKind.u64.wrap WI = WI := hz _ (by omega) (by omega)
              have g4 : min largest 4611686018427387903 + 1 = WI := hw.symm
              clear hw
              clear hl hWI hCI hz hA hB hG hD hE hCb hWb hl1 hl2
              go_enter Try.func23, Try.ntmps23
              go_wp2_with (go_at_call 53; refine (HB.out _).mono ?_; rintro e w1 ⟨rfl, hw⟩; subst hw)
              go_ret
              exact ⟨HE.out _ rfl, rfl⟩
        · rw [if_neg (fun h => hG h.2.2), if_neg (fun h => hD h.1)]
          have fA : decide (128 ≤ WI) = true := decide_eq_true (by omega)
          have x1 : IntKind.u64.wrap (WI - 128) = WI - 128 := hz _ (by omega) (by omega)
          have fB : decide (CI ≤ WI - 128) = true := decide_eq_true (by omega)
          have fG : decide (CI < 4611686018427387648) = false := decide_eq_false (by omega)
          have y1 : IntKind.u64.wrap (WI + 128) = WI + 128 := hz _ (by omega) (by omega)
          have fD : decide (WI + 128 < CI) = false := decide_eq_false (by omega)
          have HE : Bx (∀ e : Int, e = CI → Ending.returned (Value.int .u64 e) = .returned (.int .u64 ((C : Nat) : Int))) := ⟨fun e he => by rw [he]; congr 2; omega⟩
          rcases hLN with ⟨hl, hw⟩ | ⟨hl, hw⟩
          · exfalso
            omega
          · have g1 : decide (0 ≤ largest) = true := decide_eq_true hl
            have g2 : IntKind.u64.wrap largest = largest := hz _ hl (by omega)
            have g3 : IntKind.u64.wrap WI = WI := hz _ (by omega) (by omega)
            have g4 : min largest 4611686018427387903 + 1 = WI := hw.symm
            clear hw
            clear hl hWI hCI hz hA hB hG hD hCb hWb hl1 hl2
            go_enter Try.func23, Try.ntmps23
            go_wp2_with (go_at_call 53; refine (HB.out _).mono ?_; rintro e w1 ⟨rfl, hw⟩; subst hw)
            go_ret
            exact ⟨HE.out _ rfl, rfl⟩
    · by_cases hD : W + 128 < C
      · by_cases hE : 256 ≤ C
        · rw [if_neg (fun h => hB h.2.1), if_pos ⟨hD, hE⟩]
          have fA : decide (128 ≤ WI) = true := decide_eq_true (by omega)
          have x1 : IntKind.u64.wrap (WI - 128) = WI - 128 := hz _ (by omega) (by omega)
          have fB : decide (CI ≤ WI - 128) = false := decide_eq_false (by omega)
          have y1 : IntKind.u64.wrap (WI + 128) = WI + 128 := hz _ (by omega) (by omega)
          have fD : decide (WI + 128 < CI) = true := decide_eq_true (by omega)
          have fE : decide (256 ≤ CI) = true := decide_eq_true (by omega)
          have v1 : IntKind.u64.wrap (CI - 256) = CI - 256 := hz _ (by omega) (by omega)
          have HE : Bx (∀ e : Int, e = CI - 256 → Ending.returned (Value.int .u64 e) = .returned (.int .u64 ((C - 256 : Nat) : Int))) := ⟨fun e he => by rw [he]; congr 2; omega⟩
          rcases hLN with ⟨hl, hw⟩ | ⟨hl, hw⟩
          · exfalso
            omega
          · have g1 : decide (0 ≤ largest) = true := decide_eq_true hl
            have g2 : IntKind.u64.wrap largest = largest := hz _ hl (by omega)
            have g3 : IntKind.u64.wrap WI = WI := hz _ (by omega) (by omega)
            have g4 : min largest 4611686018427387903 + 1 = WI := hw.symm
            clear hw
            clear hl hWI hCI hz hA hB hD hE hCb hWb hl1 hl2
            go_enter Try.func23, Try.ntmps23
            go_wp2_with (go_at_call 53; refine (HB.out _).mono ?_; rintro e w1 ⟨rfl, hw⟩; subst hw)
            go_ret
            exact ⟨HE.out _ rfl, rfl⟩
        · rw [if_neg (fun h => hB h.2.1), if_neg (fun h => hE h.2)]
          have fA : decide (128 ≤ WI) = true := decide_eq_true (by omega)
          have x1 : IntKind.u64.wrap (WI - 128) = WI - 128 := hz _ (by omega) (by omega)
          have fB : decide (CI ≤ WI - 128) = false := decide_eq_false (by omega)
          have y1 : IntKind.u64.wrap (WI + 128) = WI + 128 := hz _ (by omega) (by omega)
          have fD : decide (WI + 128 < CI) = true := decide_eq_true (by omega)
          have fE : decide (256 ≤ CI) = false := decide_eq_false (by omega)
          have HE : Bx (∀ e : Int, e = CI → Ending.returned (Value.int .u64 e) = .returned (.int .u64 ((C : Nat) : Int))) := ⟨fun e he => by rw [he]; congr 2; omega⟩
          rcases hLN with ⟨hl, hw⟩ | ⟨hl, hw⟩
          · exfalso
            omega
          · have g1 : decide (0 ≤ largest) = true := decide_eq_true hl
            have g2 : IntKind.u64.wrap largest = largest := hz _ hl (by omega)
            have g3 : IntKind.u64.wrap WI = WI := hz _ (by omega) (by omega)
            have g4 : min largest 4611686018427387903 + 1 = WI := hw.symm
            clear hw
            clear hl hWI hCI hz hA hB hD hE hCb hWb hl1 hl2
            go_enter Try.func23, Try.ntmps23
            go_wp2_with (go_at_call 53; refine (HB.out _).mono ?_; rintro e w1 ⟨rfl, hw⟩; subst hw)
            go_ret
            exact ⟨HE.out _ rfl, rfl⟩
      · rw [if_neg (fun h => hB h.2.1), if_neg (fun h => hD h.1)]
        have fA : decide (128 ≤ WI) = true := decide_eq_true (by omega)
        have x1 : IntKind.u64.wrap (WI - 128) = WI - 128 := hz _ (by omega) (by omega)
        have fB : decide (CI ≤ WI - 128) = false := decide_eq_false (by omega)
        have y1 : IntKind.u64.wrap (WI + 128) = WI + 128 := hz _ (by omega) (by omega)
        have fD : decide (WI + 128 < CI) = false := decide_eq_false (by omega)
        have HE : Bx (∀ e : Int, e = CI → Ending.returned (Value.int .u64 e) = .returned (.int .u64 ((C : Nat) : Int))) := ⟨fun e he => by rw [he]; congr 2; omega⟩
        rcases hLN with ⟨hl, hw⟩ | ⟨hl, hw⟩
        · exfalso
          omega
        · have g1 : decide (0 ≤ largest) = true := decide_eq_true hl
          have g2 : IntKind.u64.wrap largest = largest := hz _ hl (by omega)
          have g3 : IntKind.u64.wrap WI = WI := hz _ (by omega) (by omega)
          have g4 : min largest 4611686018427387903 + 1 = WI := hw.symm
          clear hw
          clear hl hWI hCI hz hA hB hD hCb hWb hl1 hl2
          go_enter Try.func23, Try.ntmps23
          go_wp2_with (go_at_call 53; refine (HB.out _).mono ?_; rintro e w1 ⟨rfl, hw⟩; subst hw)
          go_ret
          exact ⟨HE.out _ rfl, rfl⟩
  · by_cases hD : W + 128 < C
    · by_cases hE : 256 ≤ C
      · rw [if_neg (fun h => hA h.1), if_pos ⟨hD, hE⟩]
        have fA : decide (128 ≤ WI) = false := decide_eq_false (by omega)
        have y1 : IntKind.u64.wrap (WI + 128) = WI + 128 := hz _ (by omega) (by omega)
        have fD : decide (WI + 128 < CI) = true := decide_eq_true (by omega)
        have fE : decide (256 ≤ CI) = true := decide_eq_true (by omega)
        have v1 : IntKind.u64.wrap (CI - 256) = CI - 256 := hz _ (by omega) (by omega)
        have HE : Bx (∀ e : Int, e = CI - 256 → Ending.returned (Value.int .u64 e) = .returned (.int .u64 ((C - 256 : Nat) : Int))) := ⟨fun e he => by rw [he]; congr 2; omega⟩
        rcases hLN with ⟨hl, hw⟩ | ⟨hl, hw⟩
        · have fD2 : decide (128 < CI) = true := decide_eq_true (by omega)
          have g1 : decide (0 ≤ largest) = false := decide_eq_false (by omega)
          subst hw
          clear hl hWI hCI hz hA hD hE hCb hWb hl1 hl2
          go_enter Try.func23, Try.ntmps23
          go_wp2_with (go_at_call 53; refine (HB.out _).mono ?_; rintro e w1 ⟨rfl, hw⟩; subst hw)
          go_ret
          exact ⟨HE.out _ rfl, rfl⟩
        · have g1 : decide (0 ≤ largest) = true := decide_eq_true hl
          have g2 : IntKind.u64.wrap largest = largest := hz _ hl (by omega)
          have g3 : IntKind.u64.wrap WI = WI := hz _ (by omega) (by omega)
          have g4 : min largest 4611686018427387903 + 1 = WI := hw.symm
          clear hw
          clear hl hWI hCI hz hA hD hE hCb hWb hl1 hl2
          go_enter Try.func23, Try.ntmps23
          go_wp2_with (go_at_call 53; refine (HB.out _).mono ?_; rintro e w1 ⟨rfl, hw⟩; subst hw)
          go_ret
          exact ⟨HE.out _ rfl, rfl⟩
      · rw [if_neg (fun h => hA h.1), if_neg (fun h => hE h.2)]
        have fA : decide (128 ≤ WI) = false := decide_eq_false (by omega)
        have y1 : IntKind.u64.wrap (WI + 128) = WI + 128 := hz _ (by omega) (by omega)
        have fD : decide (WI + 128 < CI) = true := decide_eq_true (by omega)
        have fE : decide (256 ≤ CI) = false := decide_eq_false (by omega)
        have HE : Bx (∀ e : Int, e = CI → Ending.returned (Value.int .u64 e) = .returned (.int .u64 ((C : Nat) : Int))) := ⟨fun e he => by rw [he]; congr 2; omega⟩
        rcases hLN with ⟨hl, hw⟩ | ⟨hl, hw⟩
        · have fD2 : decide (128 < CI) = true := decide_eq_true (by omega)
          have g1 : decide (0 ≤ largest) = false := decide_eq_false (by omega)
          subst hw
          clear hl hWI hCI hz hA hD hE hCb hWb hl1 hl2
          go_enter Try.func23, Try.ntmps23
          go_wp2_with (go_at_call 53; refine (HB.out _).mono ?_; rintro e w1 ⟨rfl, hw⟩; subst hw)
          go_ret
          exact ⟨HE.out _ rfl, rfl⟩
        · have g1 : decide (0 ≤ largest) = true := decide_eq_true hl
          have g2 : IntKind.u64.wrap largest = largest := hz _ hl (by omega)
          have g3 : IntKind.u64.wrap WI = WI := hz _ (by omega) (by omega)
          have g4 : min largest 4611686018427387903 + 1 = WI := hw.symm
          clear hw
          clear hl hWI hCI hz hA hD hE hCb hWb hl1 hl2
          go_enter Try.func23, Try.ntmps23
          go_wp2_with (go_at_call 53; refine (HB.out _).mono ?_; rintro e w1 ⟨rfl, hw⟩; subst hw)
          go_ret
          exact ⟨HE.out _ rfl, rfl⟩
    · rw [if_neg (fun h => hA h.1), if_neg (fun h => hD h.1)]
      have fA : decide (128 ≤ WI) = false := decide_eq_false (by omega)
      have y1 : IntKind.u64.wrap (WI + 128) = WI + 128 := hz _ (by omega) (by omega)
      have fD : decide (WI + 128 < CI) = false := decide_eq_false (by omega)
      have HE : Bx (∀ e : Int, e = CI → Ending.returned (Value.int .u64 e) = .returned (.int .u64 ((C : Nat) : Int))) := ⟨fun e he => by rw [he]; congr 2; omega⟩
      rcases hLN with ⟨hl, hw⟩ | ⟨hl, hw⟩
      · have fD2 : decide (128 < CI) = false := decide_eq_false (by omega)
        have g1 : decide (0 ≤ largest) = false := decide_eq_false (by omega)
        subst hw
        clear hl hWI hCI hz hA hD hCb hWb hl1 hl2
        go_enter Try.func23, Try.ntmps23
        go_wp2_with (go_at_call 53; refine (HB.out _).mono ?_; rintro e w1 ⟨rfl, hw⟩; subst hw)
        go_ret
        exact ⟨HE.out _ rfl, rfl⟩
      · have g1 : decide (0 ≤ largest) = true := decide_eq_true hl
        have g2 : IntKind.u64.wrap largest = largest := hz _ hl (by omega)
        have g3 : IntKind.u64.wrap WI = WI := hz _ (by omega) (by omega)
        have g4 : min largest 4611686018427387903 + 1 = WI := hw.symm
        clear hw
        clear hl hWI hCI hz hA hD hCb hWb hl1 hl2
        go_enter Try.func23, Try.ntmps23
        go_wp2_with (go_at_call 53; refine (HB.out _).mono ?_; rintro e w1 ⟨rfl, hw⟩; subst hw)
        go_ret
        exact ⟨HE.out _ rfl, rfl⟩
set_option maxHeartbeats 4000000 in
theorem refFull_2 (x : Nat) (n largest : Int) (hx : x < 18446744073709551616) (hn : bytesN n = 2) (hl1 : -9223372036854775808 ≤ largest) (hl2 : largest ≤ 9223372036854775807) (w : World) :
    Calls Try.prog 23 #[.int .u64 (x : Int), .int .i64 n, .int .i64 largest] w fun e w' => e = .returned (.int .u64 (fullN x (winN (bytesN n)) (wantN largest) : Int)) ∧ w' = w := by
  have HB := Bx.mk (refBytes_any n)
  have ha := pn_and x 16 65536 hx (by omega)
  rw [hn] at HB ⊢
  rw [show winN 2 = 65536 from rfl]
  rw [show ((65536 : Nat) : Int) - 1 = 65535 from rfl] at ha
  obtain ⟨W, hW⟩ : ∃ W : Nat, wantN largest = W := ⟨_, rfl⟩
  have hWb : W ≤ 4611686018427387904 := by
    rw [← hW]; unfold wantN
    split <;> omega
  have hq : bits .andNot .u64 (W : Int) 65535 = ((W - W % 65536 : Nat) : Int) := by
    rw [show (65535 : Int) = ((65535 : Nat) : Int) from rfl, u64_andNot_nat _ _ (by omega) (by omega), show (65535 : Nat) = 2 ^ 16 - 1 from rfl, and_high _ _ (by omega) (by omega)]
    rw [show (2 : Nat) ^ 16 = 65536 from rfl]
    congr 1
    omega
  have hor : bits .or .u64 ((W - W % 65536 : Nat) : Int) ((x % 65536 : Nat) : Int) = ((W - W % 65536 + x % 65536 : Nat) : Int) := by
    have e : W - W % 65536 = W / 65536 * 2 ^ 16 := by rw [show (2 : Nat) ^ 16 = 65536 from rfl]; omega
    rw [u64_or_nat _ _ (by omega) (by omega), e, or_add _ _ 16 (by rw [show (2 : Nat) ^ 16 = 65536 from rfl]; omega)]
  have hres : fullN x 65536 (wantN largest) = fullN x 65536 W := by rw [hW]
  rw [hres]
  clear hres
  have hfull : fullN x 65536 W = (if 32768 ≤ W ∧ W - W % 65536 + x % 65536 ≤ W - 32768 ∧ W - W % 65536 + x % 65536 < 4611686018427322368 then W - W % 65536 + x % 65536 + 65536 else if W + 32768 < W - W % 65536 + x % 65536 ∧ 65536 ≤ W - W % 65536 + x % 65536 then W - W % 65536 + x % 65536 - 65536 else W - W % 65536 + x % 65536) := rfl
  rw [hfull]
  clear hfull
  obtain ⟨C, hC⟩ : ∃ C : Nat, W - W % 65536 + x % 65536 = C := ⟨_, rfl⟩
  have hCb : C ≤ W + 65536 := by omega
  rw [hC] at hor ⊢
  clear hC
  have HW0 := Bx.mk hW
  obtain ⟨WI, hWI⟩ : ∃ y : Int, (W : Int) = y := ⟨_, rfl⟩
  obtain ⟨CI, hCI⟩ : ∃ y : Int, (C : Int) = y := ⟨_, rfl⟩
  obtain ⟨RI, hRI⟩ : ∃ y : Int, ((x % 65536 : Nat) : Int) = y := ⟨_, rfl⟩
  obtain ⟨QI, hQI⟩ : ∃ y : Int, ((W - W % 65536 : Nat) : Int) = y := ⟨_, rfl⟩
  obtain ⟨XI, hXI⟩ : ∃ y : Int, (x : Int) = y := ⟨_, rfl⟩
  rw [hXI, hRI] at ha
  rw [hWI, hQI] at hq
  rw [hQI, hRI, hCI] at hor
  rw [hXI]
  have hLN : (largest < 0 ∧ WI = 0) ∨ (0 ≤ largest ∧ WI = min largest 4611686018427387903 + 1) := by
    rw [← hWI, ← hW]
    unfold wantN
    by_cases h : largest < 0
    · rw [if_pos h]; exact .inl ⟨h, rfl⟩
    · rw [if_neg h]; right; refine ⟨by omega, ?_⟩; omega
  clear hRI hQI hXI hW hx hn HW0
  have hz : ∀ y : Int, 0 ≤ y → y < 18446744073709551616 → IntKind.u64.wrap y = y := fun y h1 h2 => by rw [IntKind.wrap_u64]; omega
  by_cases hA : 32768 ≤ W
  · by_cases hB : C ≤ W - 32768
    · by_cases hG : C < 4611686018427322368
      · rw [if_pos ⟨hA, hB, hG⟩]
        have fA : decide (32768 ≤ WI) = true := decide_eq_true (by omega)
        have x1 : IntKind.u64.wrap (WI - 32768) = WI - 32768 := hz _ (by omega) (by omega)
        have fB : decide (CI ≤ WI - 32768) = true := decide_eq_true (by omega)
        have fG : decide (CI < 4611686018427322368) = true := decide_eq_true (by omega)
        have z1 : IntKind.u64.wrap (CI + 65536) = CI + 65536 := hz _ (by omega) (by omega)
        have HE : Bx (∀ e : Int, e = CI + 65536 → Ending.returned (Value.int .u64 e) = .returned (.int .u64 ((C + 65536 : Nat) : Int))) := ⟨fun e he => by rw [he]; congr 2; omega⟩
        rcases hLN with ⟨hl, hw⟩ | ⟨hl, hw⟩
        · exfalso
          omega
        · have g1 : decide (0 ≤ largest) = true := decide_eq_true hl
          have g2 : IntKind.u64.wrap largest = largest := hz _ hl (by omega)
          have g3 : IntKind.u64.wrap WI = WI := hz _ (by omega) (by omega)
          have g4 : min largest 4611686018427387903 + 1 = WI := hw.symm
          clear hw
          clear hl hWI hCI hz hA hB hG hCb hWb hl1 hl2
          go_enter Try.func23, Try.ntmps23
          go_wp2_with (go_at_call 53; refine (HB.out _).mono ?_; rintro e w1 ⟨rfl, hw⟩; subst hw)
          go_ret
          exact ⟨HE.out _ rfl, rfl⟩
      · by_cases hD : W + 32768 < C
        · by_cases hE : 65536 ≤ C
          · rw [if_neg (fun h => hG h.2.2), if_pos ⟨hD, hE⟩]
            have fA : decide (32768 ≤ WI) = true := decide_eq_true (by omega)
            have x1 : IntKind.u64.wrap (WI - 32768) = WI - 32768 := hz _ (by omega) (by omega)
            have fB : decide (CI ≤ WI - 32768) = true := decide_eq_true (by omega)
            have fG : decide (CI < 4611686018427322368) = false := decide_eq_false (by omega)
            have y1 : IntKind.u64.wrap (WI + 32768) = WI + 32768 := hz _ (by omega) (by omega)
            have fD : decide (WI + 32768 < CI) = true := decide_eq_true (by omega)
            have fE : decide (65536 ≤ CI) = true := decide_eq_true (by omega)
            have v1 : IntKind.u64.wrap (CI - 65536) = CI - 65536 := hz _ (by omega) (by omega)
            have HE : Bx (∀ e : Int, e = CI - 65536 → Ending.returned (Value.int .u64 e) = .returned (.int .u64 ((C - 65536 : Nat) : Int))) := ⟨fun e he => by rw [he]; congr 2; omega⟩
            rcases hLN with ⟨hl, hw⟩ | ⟨hl, hw⟩
            · exfalso
              omega
            · have g1 : decide (0 ≤ largest) = true := decide_eq_true hl
              have g2 : IntKind.u64.wrap largest = largest := hz _ hl (by omega)
              have g3 : IntKind.u64.wrap WI = WI := hz _ (by omega) (by omega)
              have g4 : min largest 4611686018427387903 + 1 = WI := hw.symm
              clear hw
              clear hl hWI hCI hz hA hB hG hD hE hCb hWb hl1 hl2
              go_enter Try.func23, Try.ntmps23
              go_wp2_with (go_at_call 53; refine (HB.out _).mono ?_; rintro e w1 ⟨rfl, hw⟩; subst hw)
              go_ret
              exact ⟨HE.out _ rfl, rfl⟩
          · rw [if_neg (fun h => hG h.2.2), if_neg (fun h => hE h.2)]
            have fA : decide (32768 ≤ WI) = true := decide_eq_true (by omega)
            have x1 : IntKind.u64.wrap (WI - 32768) = WI - 32768 := hz _ (by omega) (by omega)
            have fB : decide (CI ≤ WI - 32768) = true := decide_eq_true (by omega)
            have fG : decide (CI < 4611686018427322368) = false := decide_eq_false (by omega)
            have y1 : IntKind.u64.wrap (WI + 32768) = WI + 32768 := hz _ (by omega) (by omega)
            have fD : decide (WI + 32768 < CI) = true := decide_eq_true (by omega)
            have fE : decide (65536 ≤ CI) = false := decide_eq_false (by omega)
            have HE : Bx (∀ e : Int, e = CI → Ending.returned (Value.int .u64 e) = .returned (.int .u64 ((C : Nat) : Int))) := ⟨fun e he => by rw [he]; congr 2; omega⟩
            rcases hLN with ⟨hl, hw⟩ | ⟨hl, hw⟩
            · exfalso
              omega
            · have g1 : decide (0 ≤ largest) = true := decide_eq_true hl
              have g2 : IntKind.u64.wrap largest = largest := hz _ hl (by omega)
              have g3 : IntKind.u64.wrap WI = WI := hz _ (by omega) (by omega)
              have g4 : min largest 4611686018427387903 + 1 = WI := hw.symm
              clear hw
              clear hl hWI hCI hz hA hB hG hD hE hCb hWb hl1 hl2
              go_enter Try.func23, Try.ntmps23
              go_wp2_with (go_at_call 53; refine (HB.out _).mono ?_; rintro e w1 ⟨rfl, hw⟩; subst hw)
              go_ret
              exact ⟨HE.out _ rfl, rfl⟩
        · rw [if_neg (fun h => hG h.2.2), if_neg (fun h => hD h.1)]
          have fA : decide (32768 ≤ WI) = true := decide_eq_true (by omega)
          have x1 : IntKind.u64.wrap (WI - 32768) = WI - 32768 := hz _ (by omega) (by omega)
          have fB : decide (CI ≤ WI - 32768) = true := decide_eq_true (by omega)
          have fG : decide (CI < 4611686018427322368) = false := decide_eq_false (by omega)
          have y1 : IntKind.u64.wrap (WI + 32768) = WI + 32768 := hz _ (by omega) (by omega)
          have fD : decide (WI + 32768 < CI) = false := decide_eq_false (by omega)
          have HE : Bx (∀ e : Int, e = CI → Ending.returned (Value.int .u64 e) = .returned (.int .u64 ((C : Nat) : Int))) := ⟨fun e he => by rw [he]; congr 2; omega⟩
          rcases hLN with ⟨hl, hw⟩ | ⟨hl, hw⟩
          · exfalso
            omega
          · have g1 : decide (0 ≤ largest) = true := decide_eq_true hl
            have g2 : IntKind.u64.wrap largest = largest := hz _ hl (by omega)
            have g3 : IntKind.u64.wrap WI = WI := hz _ (by omega) (by omega)
            have g4 : min largest 4611686018427387903 + 1 = WI := hw.symm
            clear hw
            clear hl hWI hCI hz hA hB hG hD hCb hWb hl1 hl2
            go_enter Try.func23, Try.ntmps23
            go_wp2_with (go_at_call 53; refine (HB.out _).mono ?_; rintro e w1 ⟨rfl, hw⟩; subst hw)
            go_ret
            exact ⟨HE.out _ rfl, rfl⟩
    · by_cases hD : W + 32768 < C
      · by_cases hE : 65536 ≤ C
        · rw [if_neg (fun h => hB h.2.1), if_pos ⟨hD, hE⟩]
          have fA : decide (32768 ≤ WI) = true := decide_eq_true (by omega)
          have x1 : IntKind.u64.wrap (WI - 32768) = WI - 32768 := hz _ (by omega) (by omega)
          have fB : decide (CI ≤ WI - 32768) = false := decide_eq_false (by omega)
          have y1 : IntKind.u64.wrap (WI + 32768) = WI + 32768 := hz _ (by omega) (by omega)
          have fD : decide (WI + 32768 < CI) = true := decide_eq_true (by omega)
          have fE : decide (65536 ≤ CI) = true := decide_eq_true (by omega)
          have v1 : IntKind.u64.wrap (CI - 65536) = CI - 65536 := hz _ (by omega) (by omega)
          have HE : Bx (∀ e : Int, e = CI - 65536 → Ending.returned (Value.int .u64 e) = .returned (.int .u64 ((C - 65536 : Nat) : Int))) := ⟨fun e he => by rw [he]; congr 2; omega⟩
          rcases hLN with ⟨hl, hw⟩ | ⟨hl, hw⟩
          · exfalso
            omega
          · have g1 : decide (0 ≤ largest) = true := decide_eq_true hl
            have g2 : IntKind.u64.wrap largest = largest := hz _ hl (by omega)
            have g3 : IntKind.u64.wrap WI = WI := hz _ (by omega) (by omega)
            have g4 : min largest 4611686018427387903 + 1 = WI := hw.symm
            clear hw
            clear hl hWI hCI hz hA hB hD hE hCb hWb hl1 hl2
            go_enter Try.func23, Try.ntmps23
            go_wp2_with (go_at_call 53; refine (HB.out _).mono ?_; rintro e w1 ⟨rfl, hw⟩; subst hw)
            go_ret
            exact ⟨HE.out _ rfl, rfl⟩
        · rw [if_neg (fun h => hB h.2.1), if_neg (fun h => hE h.2)]
          have fA : decide (32768 ≤ WI) = true := decide_eq_true (by omega)
          have x1 : IntKind.u64.wrap (WI - 32768) = WI - 32768 := hz _ (by omega) (by omega)
          have fB : decide (CI ≤ WI - 32768) = false := decide_eq_false (by omega)
          have y1 : IntKind.u64.wrap (WI + 32768) = WI + 32768 := hz _ (by omega) (by omega)
          have fD : decide (WI + 32768 < CI) = true := decide_eq_true (by omega)
          have fE : decide (65536 ≤ CI) = false := decide_eq_false (by omega)
          have HE : Bx (∀ e : Int, e = CI → Ending.returned (Value.int .u64 e) = .returned (.int .u64 ((C : Nat) : Int))) := ⟨fun e he => by rw [he]; congr 2; omega⟩
          rcases hLN with ⟨hl, hw⟩ | ⟨hl, hw⟩
          · exfalso
            omega
          · have g1 : decide (0 ≤ largest) = true := decide_eq_true hl
            have g2 : IntKind.u64.wrap largest = largest := hz _ hl (by omega)
            have g3 : IntKind.u64.wrap WI = WI := hz _ (by omega) (by omega)
            have g4 : min largest 4611686018427387903 + 1 = WI := hw.symm
            clear hw
            clear hl hWI hCI hz hA hB hD hE hCb hWb hl1 hl2
            go_enter Try.func23, Try.ntmps23
            go_wp2_with (go_at_call 53; refine (HB.out _).mono ?_; rintro e w1 ⟨rfl, hw⟩; subst hw)
            go_ret
            exact ⟨HE.out _ rfl, rfl⟩
      · rw [if_neg (fun h => hB h.2.1), if_neg (fun h => hD h.1)]
        have fA : decide (32768 ≤ WI) = true := decide_eq_true (by omega)
        have x1 : IntKind.u64.wrap (WI - 32768) = WI - 32768 := hz _ (by omega) (by omega)
        have fB : decide (CI ≤ WI - 32768) = false := decide_eq_false (by omega)
        have y1 : IntKind.u64.wrap (WI + 32768) = WI + 32768 := hz _ (by omega) (by omega)
        have fD : decide (WI + 32768 < CI) = false := decide_eq_false (by omega)
        have HE : Bx (∀ e : Int, e = CI → Ending.returned (Value.int .u64 e) = .returned (.int .u64 ((C : Nat) : Int))) := ⟨fun e he => by rw [he]; congr 2; omega⟩
        rcases hLN with ⟨hl, hw⟩ | ⟨hl, hw⟩
        · exfalso
          omega
        · have g1 : decide (0 ≤ largest) = true := decide_eq_true hl
          have g2 : IntKind.u64.wrap largest = largest := hz _ hl (by omega)
          have g3 : IntKind.u64.wrap WI = WI := hz _ (by omega) (by omega)
          have g4 : min largest 4611686018427387903 + 1 = WI := hw.symm
          clear hw
          clear hl hWI hCI hz hA hB hD hCb hWb hl1 hl2
          go_enter Try.func23, Try.ntmps23
          go_wp2_with (go_at_call 53; refine (HB.out _).mono ?_; rintro e w1 ⟨rfl, hw⟩; subst hw)
          go_ret
          exact ⟨HE.out _ rfl, rfl⟩
  · by_cases hD : W + 32768 < C
    · by_cases hE : 65536 ≤ C
      · rw [if_neg (fun h => hA h.1), if_pos ⟨hD, hE⟩]
        have fA : decide (32768 ≤ WI) = false := decide_eq_false (by omega)
        have y1 : IntKind.u64.wrap (WI + 32768) = WI + 32768 := hz _ (by omega) (by omega)
        have fD : decide (WI + 32768 < CI) = true := decide_eq_true (by omega)
        have fE : decide (65536 ≤ CI) = true := decide_eq_true (by omega)
        have v1 : IntKind.u64.wrap (CI - 65536) = CI - 65536 := hz _ (by omega) (by omega)
        have HE : Bx (∀ e : Int, e = CI - 65536 → Ending.returned (Value.int .u64 e) = .returned (.int .u64 ((C - 65536 : Nat) : Int))) := ⟨fun e he => by rw [he]; congr 2; omega⟩
        rcases hLN with ⟨hl, hw⟩ | ⟨hl, hw⟩
        · have fD2 : decide (32768 < CI) = true := decide_eq_true (by omega)
          have g1 : decide (0 ≤ largest) = false := decide_eq_false (by omega)
          subst hw
          clear hl hWI hCI hz hA hD hE hCb hWb hl1 hl2
          go_enter Try.func23, Try.ntmps23
          go_wp2_with (go_at_call 53; refine (HB.out _).mono ?_; rintro e w1 ⟨rfl, hw⟩; subst hw)
          go_ret
          exact ⟨HE.out _ rfl, rfl⟩
        · have g1 : decide (0 ≤ largest) = true := decide_eq_true hl
          have g2 : IntKind.u64.wrap largest = largest := hz _ hl (by omega)
          have g3 : IntKind.u64.wrap WI = WI := hz _ (by omega) (by omega)
          have g4 : min largest 4611686018427387903 + 1 = WI := hw.symm
          clear hw
          clear hl hWI hCI hz hA hD hE hCb hWb hl1 hl2
          go_enter Try.func23, Try.ntmps23
          go_wp2_with (go_at_call 53; refine (HB.out _).mono ?_; rintro e w1 ⟨rfl, hw⟩; subst hw)
          go_ret
          exact ⟨HE.out _ rfl, rfl⟩
      · rw [if_neg (fun h => hA h.1), if_neg (fun h => hE h.2)]
        have fA : decide (32768 ≤ WI) = false := decide_eq_false (by omega)
        have y1 : IntKind.u64.wrap (WI + 32768) = WI + 32768 := hz _ (by omega) (by omega)
        have fD : decide (WI + 32768 < CI) = true := decide_eq_true (by omega)
        have fE : decide (65536 ≤ CI) = false := decide_eq_false (by omega)
        have HE : Bx (∀ e : Int, e = CI → Ending.returned (Value.int .u64 e) = .returned (.int .u64 ((C : Nat) : Int))) := ⟨fun e he => by rw [he]; congr 2; omega⟩
        rcases hLN with ⟨hl, hw⟩ | ⟨hl, hw⟩
        · have fD2 : decide (32768 < CI) = true := decide_eq_true (by omega)
          have g1 : decide (0 ≤ largest) = false := decide_eq_false (by omega)
          subst hw
          clear hl hWI hCI hz hA hD hE hCb hWb hl1 hl2
          go_enter Try.func23, Try.ntmps23
          go_wp2_with (go_at_call 53; refine (HB.out _).mono ?_; rintro e w1 ⟨rfl, hw⟩; subst hw)
          go_ret
          exact ⟨HE.out _ rfl, rfl⟩
        · have g1 : decide (0 ≤ largest) = true := decide_eq_true hl
          have g2 : IntKind.u64.wrap largest = largest := hz _ hl (by omega)
          have g3 : IntKind.u64.wrap WI = WI := hz _ (by omega) (by omega)
          have g4 : min largest 4611686018427387903 + 1 = WI := hw.symm
          clear hw
          clear hl hWI hCI hz hA hD hE hCb hWb hl1 hl2
          go_enter Try.func23, Try.ntmps23
          go_wp2_with (go_at_call 53; refine (HB.out _).mono ?_; rintro e w1 ⟨rfl, hw⟩; subst hw)
          go_ret
          exact ⟨HE.out _ rfl, rfl⟩
    · rw [if_neg (fun h => hA h.1), if_neg (fun h => hD h.1)]
      have fA : decide (32768 ≤ WI) = false := decide_eq_false (by omega)
      have y1 : IntKind.u64.wrap (WI + 32768) = WI + 32768 := hz _ (by omega) (by omega)
      have fD : decide (WI + 32768 < CI) = false := decide_eq_false (by omega)
      have HE : Bx (∀ e : Int, e = CI → Ending.returned (Value.int .u64 e) = .returned (.int .u64 ((C : Nat) : Int))) := ⟨fun e he => by rw [he]; congr 2; omega⟩
      rcases hLN with ⟨hl, hw⟩ | ⟨hl, hw⟩
      · have fD2 : decide (32768 < CI) = false := decide_eq_false (by omega)
        have g1 : decide (0 ≤ largest) = false := decide_eq_false (by omega)
        subst hw
        clear hl hWI hCI hz hA hD hCb hWb hl1 hl2
        go_enter Try.func23, Try.ntmps23
        go_wp2_with (go_at_call 53; refine (HB.out _).mono ?_; rintro e w1 ⟨rfl, hw⟩; subst hw)
        go_ret
        exact ⟨HE.out _ rfl, rfl⟩
      · have g1 : decide (0 ≤ largest) = true := decide_eq_true hl
        have g2 : IntKind.u64.wrap largest = largest := hz _ hl (by omega)
        have g3 : IntKind.u64.wrap WI = WI := hz _ (by omega) (by omega)
        have g4 : min largest 4611686018427387903 + 1 = WI := hw.symm
        clear hw
        clear hl hWI hCI hz hA hD hCb hWb hl1 hl2
        go_enter Try.func23, Try.ntmps23
        go_wp2_with (go_at_call 53; refine (HB.out _).mono ?_; rintro e w1 ⟨rfl, hw⟩; subst hw)
        go_ret
        exact ⟨HE.out _ rfl, rfl⟩
set_option maxHeartbeats 4000000 in
theorem refFull_3 (x : Nat) (n largest : Int) (hx : x < 18446744073709551616) (hn : bytesN n = 3) (hl1 : -9223372036854775808 ≤ largest) (hl2 : largest ≤ 9223372036854775807) (w : World) :
    Calls Try.prog 23 #[.int .u64 (x : Int), .int .i64 n, .int .i64 largest] w fun e w' => e = .returned (.int .u64 (fullN x (winN (bytesN n)) (wantN largest) : Int)) ∧ w' = w := by
  have HB := Bx.mk (refBytes_any n)
  have ha := pn_and x 24 16777216 hx (by omega)
  rw [hn] at HB ⊢
  rw [show winN 3 = 16777216 from rfl]
  rw [show ((16777216 : Nat) : Int) - 1 = 16777215 from rfl] at ha
  obtain ⟨W, hW⟩ : ∃ W : Nat, wantN largest = W := ⟨_, rfl⟩
  have hWb : W ≤ 4611686018427387904 := by
    rw [← hW]; unfold wantN
    split <;> omega
  have hq : bits .andNot .u64 (W : Int) 16777215 = ((W - W % 16777216 : Nat) : Int) := by
    rw [show (16777215 : Int) = ((16777215 : Nat) : Int) from rfl, u64_andNot_nat _ _ (by omega) (by omega), show (16777215 : Nat) = 2 ^ 24 - 1 from rfl, and_high _ _ (by omega) (by omega)]
    rw [show (2 : Nat) ^ 24 = 16777216 from rfl]
    congr 1
    omega
  have hor : bits .or .u64 ((W - W % 16777216 : Nat) : Int) ((x % 16777216 : Nat) : Int) = ((W - W % 16777216 + x % 16777216 : Nat) : Int) := by
    have e : W - W % 16777216 = W / 16777216 * 2 ^ 24 := by rw [show (2 : Nat) ^ 24 = 16777216 from rfl]; omega
    rw [u64_or_nat _ _ (by omega) (by omega), e, or_add _ _ 24 (by rw [show (2 : Nat) ^ 24 = 16777216 from rfl]; omega)]
  have hres : fullN x 16777216 (wantN largest) = fullN x 16777216 W := by rw [hW]
  rw [hres]
  clear hres
  have hfull : fullN x 16777216 W = (if 8388608 ≤ W ∧ W - W % 16777216 + x % 16777216 ≤ W - 8388608 ∧ W - W % 16777216 + x % 16777216 < 4611686018410610688 then W - W % 16777216 + x % 16777216 + 16777216 else if W + 8388608 < W - W % 16777216 + x % 16777216 ∧ 16777216 ≤ W - W % 16777216 + x % 16777216 then W - W % 16777216 + x % 16777216 - 16777216 else W - W % 16777216 + x % 16777216) := rfl
  rw [hfull]
  clear hfull
  obtain ⟨C, hC⟩ : ∃ C : Nat, W - W % 16777216 + x % 16777216 = C := ⟨_, rfl⟩
  have hCb : C ≤ W + 16777216 := by omega
  rw [hC] at hor ⊢
  clear hC
  have HW0 := Bx.mk hW
  obtain ⟨WI, hWI⟩ : ∃ y : Int, (W : Int) = y := ⟨_, rfl⟩
  obtain ⟨CI, hCI⟩ : ∃ y : Int, (C : Int) = y := ⟨_, rfl⟩
  obtain ⟨RI, hRI⟩ : ∃ y : Int, ((x % 16777216 : Nat) : Int) = y := ⟨_, rfl⟩
  obtain ⟨QI, hQI⟩ : ∃ y : Int, ((W - W % 16777216 : Nat) : Int) = y := ⟨_, rfl⟩
  obtain ⟨XI, hXI⟩ : ∃ y : Int, (x : Int) = y := ⟨_, rfl⟩
  rw [hXI, hRI] at ha
  rw [hWI, hQI] at hq
  rw [hQI, hRI, hCI] at hor
  rw [hXI]
  have hLN : (largest < 0 ∧ WI = 0) ∨ (0 ≤ largest ∧ WI = min largest 4611686018427387903 + 1) := by
    rw [← hWI, ← hW]
    unfold wantN
    by_cases h : largest < 0
    · rw [if_pos h]; exact .inl ⟨h, rfl⟩
    · rw [if_neg h]; right; refine ⟨by omega, ?_⟩; omega
  clear hRI hQI hXI hW hx hn HW0
  have hz : ∀ y : Int, 0 ≤ y → y < 18446744073709551616 → IntKind.u64.wrap y = y := fun y h1 h2 => by rw [IntKind.wrap_u64]; omega
  by_cases hA : 8388608 ≤ W
  · by_cases hB : C ≤ W - 8388608
    · by_cases hG : C < 4611686018410610688
      · rw [if_pos ⟨hA, hB, hG⟩]
        have fA : decide (8388608 ≤ WI) = true := decide_eq_true (by omega)
        have x1 : IntKind.u64.wrap (WI - 8388608) = WI - 8388608 := hz _ (by omega) (by omega)
        have fB : decide (CI ≤ WI - 8388608) = true := decide_eq_true (by omega)
        have fG : decide (CI < 4611686018410610688) = true := decide_eq_true (by omega)
        have z1 : IntKind.u64.wrap (CI + 16777216) = CI + 16777216 := hz _ (by omega) (by omega)
        have HE : Bx (∀ e : Int, e = CI + 16777216 → Ending.returned (Value.int .u64 e) = .returned (.int .u64 ((C + 16777216 : Nat) : Int))) := ⟨fun e he => by rw [he]; congr 2; omega⟩
        rcases hLN with ⟨hl, hw⟩ | ⟨hl, hw⟩
        · exfalso
          omega
        · have g1 : decide (0 ≤ largest) = true := decide_eq_true hl
          have g2 : IntKind.u64.wrap largest = largest := hz _ hl (by omega)
          have g3 : IntKind.u64.wrap WI = WI := hz _ (by omega) (by omega)
          have g4 : min largest 4611686018427387903 + 1 = WI := hw.symm
          clear hw
          clear hl hWI hCI hz hA hB hG hCb hWb hl1 hl2
          go_enter Try.func23, Try.ntmps23
          go_wp2_with (go_at_call 53; refine (HB.out _).mono ?_; rintro e w1 ⟨rfl, hw⟩; subst hw)
          go_ret
          exact ⟨HE.out _ rfl, rfl⟩
      · by_cases hD : W + 8388608 < C
        · by_cases hE : 16777216 ≤ C
          · rw [if_neg (fun h => hG h.2.2), if_pos ⟨hD, hE⟩]
            have fA : decide (8388608 ≤ WI) = true := decide_eq_true (by omega)
            have x1 : IntKind.u64.wrap (WI - 8388608) = WI - 8388608 := hz _ (by omega) (by omega)
            have fB : decide (CI ≤ WI - 8388608) = true := decide_eq_true (by omega)
            have fG : decide (CI < 4611686018410610688) = false := decide_eq_false (by omega)
            have y1 : IntKind.u64.wrap (WI + 8388608) = WI + 8388608 := hz _ (by omega) (by omega)
            have fD : decide (WI + 8388608 < CI) = true := decide_eq_true (by omega)
            have fE : decide (16777216 ≤ CI) = true := decide_eq_true (by omega)
            have v1 : IntKind.u64.wrap (CI - 16777216) = CI - 16777216 := hz _ (by omega) (by omega)
            have HE : Bx (∀ e : Int, e = CI - 16777216 → Ending.returned (Value.int .u64 e) = .returned (.int .u64 ((C - 16777216 : Nat) : Int))) := ⟨fun e he => by rw [he]; congr 2; omega⟩
            rcases hLN with ⟨hl, hw⟩ | ⟨hl, hw⟩
            · exfalso
              omega
            · have g1 : decide (0 ≤ largest) = true := decide_eq_true hl
              have g2 : IntKind.u64.wrap largest = largest := hz _ hl (by omega)
              have g3 : IntKind.u64.wrap WI = WI := hz _ (by omega) (by omega)
              have g4 : min largest 4611686018427387903 + 1 = WI := hw.symm
              clear hw
              clear hl hWI hCI hz hA hB hG hD hE hCb hWb hl1 hl2
              go_enter Try.func23, Try.ntmps23
              go_wp2_with (go_at_call 53; refine (HB.out _).mono ?_; rintro e w1 ⟨rfl, hw⟩; subst hw)
              go_ret
              exact ⟨HE.out _ rfl, rfl⟩
          · rw [if_neg (fun h => hG h.2.2), if_neg (fun h => hE h.2)]
            have fA : decide (8388608 ≤ WI) = true := decide_eq_true (by omega)
            have x1 : IntKind.u64.wrap (WI - 8388608) = WI - 8388608 := hz _ (by omega) (by omega)
            have fB : decide (CI ≤ WI - 8388608) = true := decide_eq_true (by omega)
            have fG : decide (CI < 4611686018410610688) = false := decide_eq_false (by omega)
            have y1 : IntKind.u64.wrap (WI + 8388608) = WI + 8388608 := hz _ (by omega) (by omega)
            have fD : decide (WI + 8388608 < CI) = true := decide_eq_true (by omega)
            have fE : decide (16777216 ≤ CI) = false := decide_eq_false (by omega)
            have HE : Bx (∀ e : Int, e = CI → Ending.returned (Value.int .u64 e) = .returned (.int .u64 ((C : Nat) : Int))) := ⟨fun e he => by rw [he]; congr 2; omega⟩
            rcases hLN with ⟨hl, hw⟩ | ⟨hl, hw⟩
            · exfalso
              omega
            · have g1 : decide (0 ≤ largest) = true := decide_eq_true hl
              have g2 : IntKind.u64.wrap largest = largest := hz _ hl (by omega)
              have g3 : IntKind.u64.wrap WI = WI := hz _ (by omega) (by omega)
              have g4 : min largest 4611686018427387903 + 1 = WI := hw.symm
              clear hw
              clear hl hWI hCI hz hA hB hG hD hE hCb hWb hl1 hl2
              go_enter Try.func23, Try.ntmps23
              go_wp2_with (go_at_call 53; refine (HB.out _).mono ?_; rintro e w1 ⟨rfl, hw⟩; subst hw)
              go_ret
              exact ⟨HE.out _ rfl, rfl⟩
        · rw [if_neg (fun h => hG h.2.2), if_neg (fun h => hD h.1)]
          have fA : decide (8388608 ≤ WI) = true := decide_eq_true (by omega)
          have x1 : IntKind.u64.wrap (WI - 8388608) = WI - 8388608 := hz _ (by omega) (by omega)
          have fB : decide (CI ≤ WI - 8388608) = true := decide_eq_true (by omega)
          have fG : decide (CI < 4611686018410610688) = false := decide_eq_false (by omega)
          have y1 : IntKind.u64.wrap (WI + 8388608) = WI + 8388608 := hz _ (by omega) (by omega)
          have fD : decide (WI + 8388608 < CI) = false := decide_eq_false (by omega)
          have HE : Bx (∀ e : Int, e = CI → Ending.returned (Value.int .u64 e) = .returned (.int .u64 ((C : Nat) : Int))) := ⟨fun e he => by rw [he]; congr 2; omega⟩
          rcases hLN with ⟨hl, hw⟩ | ⟨hl, hw⟩
          · exfalso
            omega
          · have g1 : decide (0 ≤ largest) = true := decide_eq_true hl
            have g2 : IntKind.u64.wrap largest = largest := hz _ hl (by omega)
            have g3 : IntKind.u64.wrap WI = WI := hz _ (by omega) (by omega)
            have g4 : min largest 4611686018427387903 + 1 = WI := hw.symm
            clear hw
            clear hl hWI hCI hz hA hB hG hD hCb hWb hl1 hl2
            go_enter Try.func23, Try.ntmps23
            go_wp2_with (go_at_call 53; refine (HB.out _).mono ?_; rintro e w1 ⟨rfl, hw⟩; subst hw)
            go_ret
            exact ⟨HE.out _ rfl, rfl⟩
    · by_cases hD : W + 8388608 < C
      · by_cases hE : 16777216 ≤ C
        · rw [if_neg (fun h => hB h.2.1), if_pos ⟨hD, hE⟩]
          have fA : decide (8388608 ≤ WI) = true := decide_eq_true (by omega)
          have x1 : IntKind.u64.wrap (WI - 8388608) = WI - 8388608 := hz _ (by omega) (by omega)
          have fB : decide (CI ≤ WI - 8388608) = false := decide_eq_false (by omega)
          have y1 : IntKind.u64.wrap (WI + 8388608) = WI + 8388608 := hz _ (by omega) (by omega)
          have fD : decide (WI + 8388608 < CI) = true := decide_eq_true (by omega)
          have fE : decide (16777216 ≤ CI) = true := decide_eq_true (by omega)
          have v1 : IntKind.u64.wrap (CI - 16777216) = CI - 16777216 := hz _ (by omega) (by omega)
          have HE : Bx (∀ e : Int, e = CI - 16777216 → Ending.returned (Value.int .u64 e) = .returned (.int .u64 ((C - 16777216 : Nat) : Int))) := ⟨fun e he => by rw [he]; congr 2; omega⟩
          rcases hLN with ⟨hl, hw⟩ | ⟨hl, hw⟩
          · exfalso
            omega
          · have g1 : decide (0 ≤ largest) = true := decide_eq_true hl
            have g2 : IntKind.u64.wrap largest = largest := hz _ hl (by omega)
            have g3 : IntKind.u64.wrap WI = WI := hz _ (by omega) (by omega)
            have g4 : min largest 4611686018427387903 + 1 = WI := hw.symm
            clear hw
            clear hl hWI hCI hz hA hB hD hE hCb hWb hl1 hl2
            go_enter Try.func23, Try.ntmps23
            go_wp2_with (go_at_call 53; refine (HB.out _).mono ?_; rintro e w1 ⟨rfl, hw⟩; subst hw)
            go_ret
            exact ⟨HE.out _ rfl, rfl⟩
        · rw [if_neg (fun h => hB h.2.1), if_neg (fun h => hE h.2)]
          have fA : decide (8388608 ≤ WI) = true := decide_eq_true (by omega)
          have x1 : IntKind.u64.wrap (WI - 8388608) = WI - 8388608 := hz _ (by omega) (by omega)
          have fB : decide (CI ≤ WI - 8388608) = false := decide_eq_false (by omega)
          have y1 : IntKind.u64.wrap (WI + 8388608) = WI + 8388608 := hz _ (by omega) (by omega)
          have fD : decide (WI + 8388608 < CI) = true := decide_eq_true (by omega)
          have fE : decide (16777216 ≤ CI) = false := decide_eq_false (by omega)
          have HE : Bx (∀ e : Int, e = CI → Ending.returned (Value.int .u64 e) = .returned (.int .u64 ((C : Nat) : Int))) := ⟨fun e he => by rw [he]; congr 2; omega⟩
          rcases hLN with ⟨hl, hw⟩ | ⟨hl, hw⟩
          · exfalso
            omega
          · have g1 : decide (0 ≤ largest) = true := decide_eq_true hl
            have g2 : IntKind.u64.wrap largest = largest := hz _ hl (by omega)
            have g3 : IntKind.u64.wrap WI = WI := hz _ (by omega) (by omega)
            have g4 : min largest 4611686018427387903 + 1 = WI := hw.symm
            clear hw
            clear hl hWI hCI hz hA hB hD hE hCb hWb hl1 hl2
            go_enter Try.func23, Try.ntmps23
            go_wp2_with (go_at_call 53; refine (HB.out _).mono ?_; rintro e w1 ⟨rfl, hw⟩; subst hw)
            go_ret
            exact ⟨HE.out _ rfl, rfl⟩
      · rw [if_neg (fun h => hB h.2.1), if_neg (fun h => hD h.1)]
        have fA : decide (8388608 ≤ WI) = true := decide_eq_true (by omega)
        have x1 : IntKind.u64.wrap (WI - 8388608) = WI - 8388608 := hz _ (by omega) (by omega)
        have fB : decide (CI ≤ WI - 8388608) = false := decide_eq_false (by omega)
        have y1 : IntKind.u64.wrap (WI + 8388608) = WI + 8388608 := hz _ (by omega) (by omega)
        have fD : decide (WI + 8388608 < CI) = false := decide_eq_false (by omega)
        have HE : Bx (∀ e : Int, e = CI → Ending.returned (Value.int .u64 e) = .returned (.int .u64 ((C : Nat) : Int))) := ⟨fun e he => by rw [he]; congr 2; omega⟩
        rcases hLN with ⟨hl, hw⟩ | ⟨hl, hw⟩
        · exfalso
          omega
        · have g1 : decide (0 ≤ largest) = true := decide_eq_true hl
          have g2 : IntKind.u64.wrap largest = largest := hz _ hl (by omega)
          have g3 : IntKind.u64.wrap WI = WI := hz _ (by omega) (by omega)
          have g4 : min largest 4611686018427387903 + 1 = WI := hw.symm
          clear hw
          clear hl hWI hCI hz hA hB hD hCb hWb hl1 hl2
          go_enter Try.func23, Try.ntmps23
          go_wp2_with (go_at_call 53; refine (HB.out _).mono ?_; rintro e w1 ⟨rfl, hw⟩; subst hw)
          go_ret
          exact ⟨HE.out _ rfl, rfl⟩
  · by_cases hD : W + 8388608 < C
    · by_cases hE : 16777216 ≤ C
      · rw [if_neg (fun h => hA h.1), if_pos ⟨hD, hE⟩]
        have fA : decide (8388608 ≤ WI) = false := decide_eq_false (by omega)
        have y1 : IntKind.u64.wrap (WI + 8388608) = WI + 8388608 := hz _ (by omega) (by omega)
        have fD : decide (WI + 8388608 < CI) = true := decide_eq_true (by omega)
        have fE : decide (16777216 ≤ CI) = true := decide_eq_true (by omega)
        have v1 : IntKind.u64.wrap (CI - 16777216) = CI - 16777216 := hz _ (by omega) (by omega)
        have HE : Bx (∀ e : Int, e = CI - 16777216 → Ending.returned (Value.int .u64 e) = .returned (.int .u64 ((C - 16777216 : Nat) : Int))) := ⟨fun e he => by rw [he]; congr 2; omega⟩
        rcases hLN with ⟨hl, hw⟩ | ⟨hl, hw⟩
        · have fD2 : decide (8388608 < CI) = true := decide_eq_true (by omega)
          have g1 : decide (0 ≤ largest) = false := decide_eq_false (by omega)
          subst hw
          clear hl hWI hCI hz hA hD hE hCb hWb hl1 hl2
          go_enter Try.func23, Try.ntmps23
          go_wp2_with (go_at_call 53; refine (HB.out _).mono ?_; rintro e w1 ⟨rfl, hw⟩; subst hw)
          go_ret
          exact ⟨HE.out _ rfl, rfl⟩
        · have g1 : decide (0 ≤ largest) = true := decide_eq_true hl
          have g2 : IntKind.u64.wrap largest = largest := hz _ hl (by omega)
          have g3 : IntKind.u64.wrap WI = WI := hz _ (by omega) (by omega)
          have g4 : min largest 4611686018427387903 + 1 = WI := hw.symm
          clear hw
          clear hl hWI hCI hz hA hD hE hCb hWb hl1 hl2
          go_enter Try.func23, Try.ntmps23
          go_wp2_with (go_at_call 53; refine (HB.out _).mono ?_; rintro e w1 ⟨rfl, hw⟩; subst hw)
          go_ret
          exact ⟨HE.out _ rfl, rfl⟩
      · rw [if_neg (fun h => hA h.1), if_neg (fun h => hE h.2)]
        have fA : decide (8388608 ≤ WI) = false := decide_eq_false (by omega)
        have y1 : IntKind.u64.wrap (WI + 8388608) = WI + 8388608 := hz _ (by omega) (by omega)
        have fD : decide (WI + 8388608 < CI) = true := decide_eq_true (by omega)
        have fE : decide (16777216 ≤ CI) = false := decide_eq_false (by omega)
        have HE : Bx (∀ e : Int, e = CI → Ending.returned (Value.int .u64 e) = .returned (.int .u64 ((C : Nat) : Int))) := ⟨fun e he => by rw [he]; congr 2; omega⟩
        rcases hLN with ⟨hl, hw⟩ | ⟨hl, hw⟩
        · have fD2 : decide (8388608 < CI) = true := decide_eq_true (by omega)
          have g1 : decide (0 ≤ largest) = false := decide_eq_false (by omega)
          subst hw
          clear hl hWI hCI hz hA hD hE hCb hWb hl1 hl2
          go_enter Try.func23, Try.ntmps23
          go_wp2_with (go_at_call 53; refine (HB.out _).mono ?_; rintro e w1 ⟨rfl, hw⟩; subst hw)
          go_ret
          exact ⟨HE.out _ rfl, rfl⟩
        · have g1 : decide (0 ≤ largest) = true := decide_eq_true hl
          have g2 : IntKind.u64.wrap largest = largest := hz _ hl (by omega)
          have g3 : IntKind.u64.wrap WI = WI := hz _ (by omega) (by omega)
          have g4 : min largest 4611686018427387903 + 1 = WI := hw.symm
          clear hw
          clear hl hWI hCI hz hA hD hE hCb hWb hl1 hl2
          go_enter Try.func23, Try.ntmps23
          go_wp2_with (go_at_call 53; refine (HB.out _).mono ?_; rintro e w1 ⟨rfl, hw⟩; subst hw)
          go_ret
          exact ⟨HE.out _ rfl, rfl⟩
    · rw [if_neg (fun h => hA h.1), if_neg (fun h => hD h.1)]
      have fA : decide (8388608 ≤ WI) = false := decide_eq_false (by omega)
      have y1 : IntKind.u64.wrap (WI + 8388608) = WI + 8388608 := hz _ (by omega) (by omega)
      have fD : decide (WI + 8388608 < CI) = false := decide_eq_false (by omega)
      have HE : Bx (∀ e : Int, e = CI → Ending.returned (Value.int .u64 e) = .returned (.int .u64 ((C : Nat) : Int))) := ⟨fun e he => by rw [he]; congr 2; omega⟩
      rcases hLN with ⟨hl, hw⟩ | ⟨hl, hw⟩
      · have fD2 : decide (8388608 < CI) = false := decide_eq_false (by omega)
        have g1 : decide (0 ≤ largest) = false := decide_eq_false (by omega)
        subst hw
        clear hl hWI hCI hz hA hD hCb hWb hl1 hl2
        go_enter Try.func23, Try.ntmps23
        go_wp2_with (go_at_call 53; refine (HB.out _).mono ?_; rintro e w1 ⟨rfl, hw⟩; subst hw)
        go_ret
        exact ⟨HE.out _ rfl, rfl⟩
      · have g1 : decide (0 ≤ largest) = true := decide_eq_true hl
        have g2 : IntKind.u64.wrap largest = largest := hz _ hl (by omega)
        have g3 : IntKind.u64.wrap WI = WI := hz _ (by omega) (by omega)
        have g4 : min largest 4611686018427387903 + 1 = WI := hw.symm
        clear hw
        clear hl hWI hCI hz hA hD hCb hWb hl1 hl2
        go_enter Try.func23, Try.ntmps23
        go_wp2_with (go_at_call 53; refine (HB.out _).mono ?_; rintro e w1 ⟨rfl, hw⟩; subst hw)
        go_ret
        exact ⟨HE.out _ rfl, rfl⟩
set_option maxHeartbeats 4000000 in
theorem refFull_4 (x : Nat) (n largest : Int) (hx : x < 18446744073709551616) (hn : bytesN n = 4) (hl1 : -9223372036854775808 ≤ largest) (hl2 : largest ≤ 9223372036854775807) (w : World) :
    Calls Try.prog 23 #[.int .u64 (x : Int), .int .i64 n, .int .i64 largest] w fun e w' => e = .returned (.int .u64 (fullN x (winN (bytesN n)) (wantN largest) : Int)) ∧ w' = w := by
  have HB := Bx.mk (refBytes_any n)
  have ha := pn_and x 32 4294967296 hx (by omega)
  rw [hn] at HB ⊢
  rw [show winN 4 = 4294967296 from rfl]
  rw [show ((4294967296 : Nat) : Int) - 1 = 4294967295 from rfl] at ha
  obtain ⟨W, hW⟩ : ∃ W : Nat, wantN largest = W := ⟨_, rfl⟩
  have hWb : W ≤ 4611686018427387904 := by
    rw [← hW]; unfold wantN
    split <;> omega
  have hq : bits .andNot .u64 (W : Int) 4294967295 = ((W - W % 4294967296 : Nat) : Int) := by
    rw [show (4294967295 : Int) = ((4294967295 : Nat) : Int) from rfl, u64_andNot_nat _ _ (by omega) (by omega), show (4294967295 : Nat) = 2 ^ 32 - 1 from rfl, and_high _ _ (by omega) (by omega)]
    rw [show (2 : Nat) ^ 32 = 4294967296 from rfl]
    congr 1
    omega
  have hor : bits .or .u64 ((W - W % 4294967296 : Nat) : Int) ((x % 4294967296 : Nat) : Int) = ((W - W % 4294967296 + x % 4294967296 : Nat) : Int) := by
    have e : W - W % 4294967296 = W / 4294967296 * 2 ^ 32 := by rw [show (2 : Nat) ^ 32 = 4294967296 from rfl]; omega
    rw [u64_or_nat _ _ (by omega) (by omega), e, or_add _ _ 32 (by rw [show (2 : Nat) ^ 32 = 4294967296 from rfl]; omega)]
  have hres : fullN x 4294967296 (wantN largest) = fullN x 4294967296 W := by rw [hW]
  rw [hres]
  clear hres
  have hfull : fullN x 4294967296 W = (if 2147483648 ≤ W ∧ W - W % 4294967296 + x % 4294967296 ≤ W - 2147483648 ∧ W - W % 4294967296 + x % 4294967296 < 4611686014132420608 then W - W % 4294967296 + x % 4294967296 + 4294967296 else if W + 2147483648 < W - W % 4294967296 + x % 4294967296 ∧ 4294967296 ≤ W - W % 4294967296 + x % 4294967296 then W - W % 4294967296 + x % 4294967296 - 4294967296 else W - W % 4294967296 + x % 4294967296) := rfl
  rw [hfull]
  clear hfull
  obtain ⟨C, hC⟩ : ∃ C : Nat, W - W % 4294967296 + x % 4294967296 = C := ⟨_, rfl⟩
  have hCb : C ≤ W + 4294967296 := by omega
  rw [hC] at hor ⊢
  clear hC
  have HW0 := Bx.mk hW
  obtain ⟨WI, hWI⟩ : ∃ y : Int, (W : Int) = y := ⟨_, rfl⟩
  obtain ⟨CI, hCI⟩ : ∃ y : Int, (C : Int) = y := ⟨_, rfl⟩
  obtain ⟨RI, hRI⟩ : ∃ y : Int, ((x % 4294967296 : Nat) : Int) = y := ⟨_, rfl⟩
  obtain ⟨QI, hQI⟩ : ∃ y : Int, ((W - W % 4294967296 : Nat) : Int) = y := ⟨_, rfl⟩
  obtain ⟨XI, hXI⟩ : ∃ y : Int, (x : Int) = y := ⟨_, rfl⟩
  rw [hXI, hRI] at ha
  rw [hWI, hQI] at hq
  rw [hQI, hRI, hCI] at hor
  rw [hXI]
  have hLN : (largest < 0 ∧ WI = 0) ∨ (0 ≤ largest ∧ WI = min largest 4611686018427387903 + 1) := by
    rw [← hWI, ← hW]
    unfold wantN
    by_cases h : largest < 0
    · rw [if_pos h]; exact .inl ⟨h, rfl⟩
    · rw [if_neg h]; right; refine ⟨by omega, ?_⟩; omega
  clear hRI hQI hXI hW hx hn HW0
  have hz : ∀ y : Int, 0 ≤ y → y < 18446744073709551616 → IntKind.u64.wrap y = y := fun y h1 h2 => by rw [IntKind.wrap_u64]; omega
  by_cases hA : 2147483648 ≤ W
  · by_cases hB : C ≤ W - 2147483648
    · by_cases hG : C < 4611686014132420608
      · rw [if_pos ⟨hA, hB, hG⟩]
        have fA : decide (2147483648 ≤ WI) = true := decide_eq_true (by omega)
        have x1 : IntKind.u64.wrap (WI - 2147483648) = WI - 2147483648 := hz _ (by omega) (by omega)
        have fB : decide (CI ≤ WI - 2147483648) = true := decide_eq_true (by omega)
        have fG : decide (CI < 4611686014132420608) = true := decide_eq_true (by omega)
        have z1 : IntKind.u64.wrap (CI + 4294967296) = CI + 4294967296 := hz _ (by omega) (by omega)
        have HE : Bx (∀ e : Int, e = CI + 4294967296 → Ending.returned (Value.int .u64 e) = .returned (.int .u64 ((C + 4294967296 : Nat) : Int))) := ⟨fun e he => by rw [he]; congr 2; omega⟩
        rcases hLN with ⟨hl, hw⟩ | ⟨hl, hw⟩
        · exfalso
          omega
        · have g1 : decide (0 ≤ largest) = true := decide_eq_true hl
          have g2 : IntKind.u64.wrap largest = largest := hz _ hl (by omega)
          have g3 : IntKind.u64.wrap WI = WI := hz _ (by omega) (by omega)
          have g4 : min largest 4611686018427387903 + 1 = WI := hw.symm
          clear hw
          clear hl hWI hCI hz hA hB hG hCb hWb hl1 hl2
          go_enter Try.func23, Try.ntmps23
          go_wp2_with (go_at_call 53; refine (HB.out _).mono ?_; rintro e w1 ⟨rfl, hw⟩; subst hw)
          go_ret
          exact ⟨HE.out _ rfl, rfl⟩
      · by_cases hD : W + 2147483648 < C
        · by_cases hE : 4294967296 ≤ C
          · rw [if_neg (fun h => hG h.2.2), if_pos ⟨hD, hE⟩]
            have fA : decide (2147483648 ≤ WI) = true := decide_eq_true (by omega)
            have x1 : IntKind.u64.wrap (WI - 2147483648) = WI - 2147483648 := hz _ (by omega) (by omega)
            have fB : decide (CI ≤ WI - 2147483648) = true := decide_eq_true (by omega)
            have fG : decide (CI < 4611686014132420608) = false := decide_eq_false (by omega)
            have y1 : IntKind.u64.wrap (WI + 2147483648) = WI + 2147483648 := hz _ (by omega) (by omega)
            have fD : decide (WI + 2147483648 < CI) = true := decide_eq_true (by omega)
            have fE : decide (4294967296 ≤ CI) = true := decide_eq_true (by omega)
            have v1 : IntKind.u64.wrap (CI - 4294967296) = CI - 4294967296 := hz _ (by omega) (by omega)
            have HE : Bx (∀ e : Int, e = CI - 4294967296 → Ending.returned (Value.int .u64 e) = .returned (.int .u64 ((C - 4294967296 : Nat) : Int))) := ⟨fun e he => by rw [he]; congr 2; omega⟩
            rcases hLN with ⟨hl, hw⟩ | ⟨hl, hw⟩
            · exfalso
              omega
            · have g1 : decide (0 ≤ largest) = true := decide_eq_true hl
              have g2 : IntKind.u64.wrap largest = largest := hz _ hl (by omega)
              have g3 : IntKind.u64.wrap WI = WI := hz _ (by omega) (by omega)
              have g4 : min largest 4611686018427387903 + 1 = WI := hw.symm
              clear hw
              clear hl hWI hCI hz hA hB hG hD hE hCb hWb hl1 hl2
              go_enter Try.func23, Try.ntmps23
              go_wp2_with (go_at_call 53; refine (HB.out _).mono ?_; rintro e w1 ⟨rfl, hw⟩; subst hw)
              go_ret
              exact ⟨HE.out _ rfl, rfl⟩
          · rw [if_neg (fun h => hG h.2.2), if_neg (fun h => hE h.2)]
            have fA : decide (2147483648 ≤ WI) = true := decide_eq_true (by omega)
            have x1 : IntKind.u64.wrap (WI - 2147483648) = WI - 2147483648 := hz _ (by omega) (by omega)
            have fB : decide (CI ≤ WI - 2147483648) = true := decide_eq_true (by omega)
            have fG : decide (CI < 4611686014132420608) = false := decide_eq_false (by omega)
            have y1 : IntKind.u64.wrap (WI + 2147483648) = WI + 2147483648 := hz _ (by omega) (by omega)
            have fD : decide (WI + 2147483648 < CI) = true := decide_eq_true (by omega)
            have fE : decide (4294967296 ≤ CI) = false := decide_eq_false (by omega)
            have HE : Bx (∀ e : Int, e = CI → Ending.returned (Value.int .u64 e) = .returned (.int .u64 ((C : Nat) : Int))) := ⟨fun e he => by rw [he]; congr 2; omega⟩
            rcases hLN with ⟨hl, hw⟩ | ⟨hl, hw⟩
            · exfalso
              omega
            · have g1 : decide (0 ≤ largest) = true := decide_eq_true hl
              have g2 : IntKind.u64.wrap largest = largest := hz _ hl (by omega)
              have g3 : IntKind.u64.wrap WI = WI := hz _ (by omega) (by omega)
              have g4 : min largest 4611686018427387903 + 1 = WI := hw.symm
              clear hw
              clear hl hWI hCI hz hA hB hG hD hE hCb hWb hl1 hl2
              go_enter Try.func23, Try.ntmps23
              go_wp2_with (go_at_call 53; refine (HB.out _).mono ?_; rintro e w1 ⟨rfl, hw⟩; subst hw)
              go_ret
              exact ⟨HE.out _ rfl, rfl⟩
        · rw [if_neg (fun h => hG h.2.2), if_neg (fun h => hD h.1)]
          have fA : decide (2147483648 ≤ WI) = true := decide_eq_true (by omega)
          have x1 : IntKind.u64.wrap (WI - 2147483648) = WI - 2147483648 := hz _ (by omega) (by omega)
          have fB : decide (CI ≤ WI - 2147483648) = true := decide_eq_true (by omega)
          have fG : decide (CI < 4611686014132420608) = false := decide_eq_false (by omega)
          have y1 : IntKind.u64.wrap (WI + 2147483648) = WI + 2147483648 := hz _ (by omega) (by omega)
          have fD : decide (WI + 2147483648 < CI) = false := decide_eq_false (by omega)
          have HE : Bx (∀ e : Int, e = CI → Ending.returned (Value.int .u64 e) = .returned (.int .u64 ((C : Nat) : Int))) := ⟨fun e he => by rw [he]; congr 2; omega⟩
          rcases hLN with ⟨hl, hw⟩ | ⟨hl, hw⟩
          · exfalso
            omega
          · have g1 : decide (0 ≤ largest) = true := decide_eq_true hl
            have g2 : IntKind.u64.wrap largest = largest := hz _ hl (by omega)
            have g3 : IntKind.u64.wrap WI = WI := hz _ (by omega) (by omega)
            have g4 : min largest 4611686018427387903 + 1 = WI := hw.symm
            clear hw
            clear hl hWI hCI hz hA hB hG hD hCb hWb hl1 hl2
            go_enter Try.func23, Try.ntmps23
            go_wp2_with (go_at_call 53; refine (HB.out _).mono ?_; rintro e w1 ⟨rfl, hw⟩; subst hw)
            go_ret
            exact ⟨HE.out _ rfl, rfl⟩
    · by_cases hD : W + 2147483648 < C
      · by_cases hE : 4294967296 ≤ C
        · rw [if_neg (fun h => hB h.2.1), if_pos ⟨hD, hE⟩]
          have fA : decide (2147483648 ≤ WI) = true := decide_eq_true (by omega)
          have x1 : IntKind.u64.wrap (WI - 2147483648) = WI - 2147483648 := hz _ (by omega) (by omega)
          have fB : decide (CI ≤ WI - 2147483648) = false := decide_eq_false (by omega)
          have y1 : IntKind.u64.wrap (WI + 2147483648) = WI + 2147483648 := hz _ (by omega) (by omega)
          have fD : decide (WI + 2147483648 < CI) = true := decide_eq_true (by omega)
          have fE : decide (4294967296 ≤ CI) = true := decide_eq_true (by omega)
          have v1 : IntKind.u64.wrap (CI - 4294967296) = CI - 4294967296 := hz _ (by omega) (by omega)
          have HE : Bx (∀ e : Int, e = CI - 4294967296 → Ending.returned (Value.int .u64 e) = .returned (.int .u64 ((C - 4294967296 : Nat) : Int))) := ⟨fun e he => by rw [he]; congr 2; omega⟩
          rcases hLN with ⟨hl, hw⟩ | ⟨hl, hw⟩
          · exfalso
            omega
          · have g1 : decide (0 ≤ largest) = true := decide_eq_true hl
            have g2 : IntKind.u64.wrap largest = largest := hz _ hl (by omega)
            have g3 : IntKind.u64.wrap WI = WI := hz _ (by omega) (by omega)
            have g4 : min largest 4611686018427387903 + 1 = WI := hw.symm
            clear hw
            clear hl hWI hCI hz hA hB hD hE hCb hWb hl1 hl2
            go_enter Try.func23, Try.ntmps23
            go_wp2_with (go_at_call 53; refine (HB.out _).mono ?_; rintro e w1 ⟨rfl, hw⟩; subst hw)
            go_ret
            exact ⟨HE.out _ rfl, rfl⟩
        · rw [if_neg (fun h => hB h.2.1), if_neg (fun h => hE h.2)]
          have fA : decide (2147483648 ≤ WI) = true := decide_eq_true (by omega)
          have x1 : IntKind.u64.wrap (WI - 2147483648) = WI - 2147483648 := hz _ (by omega) (by omega)
          have fB : decide (CI ≤ WI - 2147483648) = false := decide_eq_false (by omega)
          have y1 : IntKind.u64.wrap (WI + 2147483648) = WI + 2147483648 := hz _ (by omega) (by omega)
          have fD : decide (WI + 2147483648 < CI) = true := decide_eq_true (by omega)
          have fE : decide (4294967296 ≤ CI) = false := decide_eq_false (by omega)
          have HE : Bx (∀ e : Int, e = CI → Ending.returned (Value.int .u64 e) = .returned (.int .u64 ((C : Nat) : Int))) := ⟨fun e he => by rw [he]; congr 2; omega⟩
          rcases hLN with ⟨hl, hw⟩ | ⟨hl, hw⟩
          · exfalso
            omega
          · have g1 : decide (0 ≤ largest) = true := decide_eq_true hl
            have g2 : IntKind.u64.wrap largest = largest := hz _ hl (by omega)
            have g3 : IntKind.u64.wrap WI = WI := hz _ (by omega) (by omega)
            have g4 : min largest 4611686018427387903 + 1 = WI := hw.symm
            clear hw
            clear hl hWI hCI hz hA hB hD hE hCb hWb hl1 hl2
            go_enter Try.func23, Try.ntmps23
            go_wp2_with (go_at_call 53; refine (HB.out _).mono ?_; rintro e w1 ⟨rfl, hw⟩; subst hw)
            go_ret
            exact ⟨HE.out _ rfl, rfl⟩
      · rw [if_neg (fun h => hB h.2.1), if_neg (fun h => hD h.1)]
        have fA : decide (2147483648 ≤ WI) = true := decide_eq_true (by omega)
        have x1 : IntKind.u64.wrap (WI - 2147483648) = WI - 2147483648 := hz _ (by omega) (by omega)
        have fB : decide (CI ≤ WI - 2147483648) = false := decide_eq_false (by omega)
        have y1 : IntKind.u64.wrap (WI + 2147483648) = WI + 2147483648 := hz _ (by omega) (by omega)
        have fD : decide (WI + 2147483648 < CI) = false := decide_eq_false (by omega)
        have HE : Bx (∀ e : Int, e = CI → Ending.returned (Value.int .u64 e) = .returned (.int .u64 ((C : Nat) : Int))) := ⟨fun e he => by rw [he]; congr 2; omega⟩
        rcases hLN with ⟨hl, hw⟩ | ⟨hl, hw⟩
        · exfalso
          omega
        · have g1 : decide (0 ≤ largest) = true := decide_eq_true hl
          have g2 : IntKind.u64.wrap largest = largest := hz _ hl (by omega)
          have g3 : IntKind.u64.wrap WI = WI := hz _ (by omega) (by omega)
          have g4 : min largest 4611686018427387903 + 1 = WI := hw.symm
          clear hw
          clear hl hWI hCI hz hA hB hD hCb hWb hl1 hl2
          go_enter Try.func23, Try.ntmps23
          go_wp2_with (go_at_call 53; refine (HB.out _).mono ?_; rintro e w1 ⟨rfl, hw⟩; subst hw)
          go_ret
          exact ⟨HE.out _ rfl, rfl⟩
  · by_cases hD : W + 2147483648 < C
    · by_cases hE : 4294967296 ≤ C
      · rw [if_neg (fun h => hA h.1), if_pos ⟨hD, hE⟩]
        have fA : decide (2147483648 ≤ WI) = false := decide_eq_false (by omega)
        have y1 : IntKind.u64.wrap (WI + 2147483648) = WI + 2147483648 := hz _ (by omega) (by omega)
        have fD : decide (WI + 2147483648 < CI) = true := decide_eq_true (by omega)
        have fE : decide (4294967296 ≤ CI) = true := decide_eq_true (by omega)
        have v1 : IntKind.u64.wrap (CI - 4294967296) = CI - 4294967296 := hz _ (by omega) (by omega)
        have HE : Bx (∀ e : Int, e = CI - 4294967296 → Ending.returned (Value.int .u64 e) = .returned (.int .u64 ((C - 4294967296 : Nat) : Int))) := ⟨fun e he => by rw [he]; congr 2; omega⟩
        rcases hLN with ⟨hl, hw⟩ | ⟨hl, hw⟩
        · have fD2 : decide (2147483648 < CI) = true := decide_eq_true (by omega)
          have g1 : decide (0 ≤ largest) = false := decide_eq_false (by omega)
          subst hw
          clear hl hWI hCI hz hA hD hE hCb hWb hl1 hl2
          go_enter Try.func23, Try.ntmps23
          go_wp2_with (go_at_call 53; refine (HB.out _).mono ?_; rintro e w1 ⟨rfl, hw⟩; subst hw)
          go_ret
          exact ⟨HE.out _ rfl, rfl⟩
        · have g1 : decide (0 ≤ largest) = true := decide_eq_true hl
          have g2 : IntKind.u64.wrap largest = largest := hz _ hl (by omega)
          have g3 : IntKind.u64.wrap WI = WI := hz _ (by omega) (by omega)
          have g4 : min largest 4611686018427387903 + 1 = WI := hw.symm
          clear hw
          clear hl hWI hCI hz hA hD hE hCb hWb hl1 hl2
          go_enter Try.func23, Try.ntmps23
          go_wp2_with (go_at_call 53; refine (HB.out _).mono ?_; rintro e w1 ⟨rfl, hw⟩; subst hw)
          go_ret
          exact ⟨HE.out _ rfl, rfl⟩
      · rw [if_neg (fun h => hA h.1), if_neg (fun h => hE h.2)]
        have fA : decide (2147483648 ≤ WI) = false := decide_eq_false (by omega)
        have y1 : IntKind.u64.wrap (WI + 2147483648) = WI + 2147483648 := hz _ (by omega) (by omega)
        have fD : decide (WI + 2147483648 < CI) = true := decide_eq_true (by omega)
        have fE : decide (4294967296 ≤ CI) = false := decide_eq_false (by omega)
        have HE : Bx (∀ e : Int, e = CI → Ending.returned (Value.int .u64 e) = .returned (.int .u64 ((C : Nat) : Int))) := ⟨fun e he => by rw [he]; congr 2; omega⟩
        rcases hLN with ⟨hl, hw⟩ | ⟨hl, hw⟩
        · have fD2 : decide (2147483648 < CI) = true := decide_eq_true (by omega)
          have g1 : decide (0 ≤ largest) = false := decide_eq_false (by omega)
          subst hw
          clear hl hWI hCI hz hA hD hE hCb hWb hl1 hl2
          go_enter Try.func23, Try.ntmps23
          go_wp2_with (go_at_call 53; refine (HB.out _).mono ?_; rintro e w1 ⟨rfl, hw⟩; subst hw)
          go_ret
          exact ⟨HE.out _ rfl, rfl⟩
        · have g1 : decide (0 ≤ largest) = true := decide_eq_true hl
          have g2 : IntKind.u64.wrap largest = largest := hz _ hl (by omega)
          have g3 : IntKind.u64.wrap WI = WI := hz _ (by omega) (by omega)
          have g4 : min largest 4611686018427387903 + 1 = WI := hw.symm
          clear hw
          clear hl hWI hCI hz hA hD hE hCb hWb hl1 hl2
          go_enter Try.func23, Try.ntmps23
          go_wp2_with (go_at_call 53; refine (HB.out _).mono ?_; rintro e w1 ⟨rfl, hw⟩; subst hw)
          go_ret
          exact ⟨HE.out _ rfl, rfl⟩
    · rw [if_neg (fun h => hA h.1), if_neg (fun h => hD h.1)]
      have fA : decide (2147483648 ≤ WI) = false := decide_eq_false (by omega)
      have y1 : IntKind.u64.wrap (WI + 2147483648) = WI + 2147483648 := hz _ (by omega) (by omega)
      have fD : decide (WI + 2147483648 < CI) = false := decide_eq_false (by omega)
      have HE : Bx (∀ e : Int, e = CI → Ending.returned (Value.int .u64 e) = .returned (.int .u64 ((C : Nat) : Int))) := ⟨fun e he => by rw [he]; congr 2; omega⟩
      rcases hLN with ⟨hl, hw⟩ | ⟨hl, hw⟩
      · have fD2 : decide (2147483648 < CI) = false := decide_eq_false (by omega)
        have g1 : decide (0 ≤ largest) = false := decide_eq_false (by omega)
        subst hw
        clear hl hWI hCI hz hA hD hCb hWb hl1 hl2
        go_enter Try.func23, Try.ntmps23
        go_wp2_with (go_at_call 53; refine (HB.out _).mono ?_; rintro e w1 ⟨rfl, hw⟩; subst hw)
        go_ret
        exact ⟨HE.out _ rfl, rfl⟩
      · have g1 : decide (0 ≤ largest) = true := decide_eq_true hl
        have g2 : IntKind.u64.wrap largest = largest := hz _ hl (by omega)
        have g3 : IntKind.u64.wrap WI = WI := hz _ (by omega) (by omega)
        have g4 : min largest 4611686018427387903 + 1 = WI := hw.symm
        clear hw
        clear hl hWI hCI hz hA hD hCb hWb hl1 hl2
        go_enter Try.func23, Try.ntmps23
        go_wp2_with (go_at_call 53; refine (HB.out _).mono ?_; rintro e w1 ⟨rfl, hw⟩; subst hw)
        go_ret
        exact ⟨HE.out _ rfl, rfl⟩
theorem refFull_any (x : Nat) (n largest : Int) (hx : x < 18446744073709551616) (hl1 : -9223372036854775808 ≤ largest) (hl2 : largest ≤ 9223372036854775807) (w : World) :
    Calls Try.prog 23 #[.int .u64 (x : Int), .int .i64 n, .int .i64 largest] w fun e w' => e = .returned (.int .u64 (fullN x (winN (bytesN n)) (wantN largest) : Int)) ∧ w' = w := by
  rcases bytesN_cases n with h | h | h | h
  · exact refFull_1 x n largest hx h hl1 hl2 w
  · exact refFull_2 x n largest hx h hl1 hl2 w
  · exact refFull_3 x n largest hx h hl1 hl2 w
  · exact refFull_4 x n largest hx h hl1 hl2 w
end Go.Proofs.Ytcakppdabolfiaa
