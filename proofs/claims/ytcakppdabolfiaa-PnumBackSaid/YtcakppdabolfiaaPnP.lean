/-
  Packets' numbers: the program's bits, Cut, Full, Len (written by mkpnp.py).
-/
import Derived.Test.YtcakppdabolfiaaPnC
namespace Go.Proofs.Ytcakppdabolfiaa
open Go.RowKit
set_option linter.unusedVariables false
set_option linter.unusedSimpArgs false

theorem i64_or_n (a b : Nat) (ha : a < 9223372036854775808) (hb : b < 9223372036854775808) : bits .or .i64 (a : Int) (b : Int) = ((a ||| b : Nat) : Int) := by
  have hx : a ||| b < 2 ^ 63 := Nat.or_lt_two_pow (by omega) (by omega)
  show IntKind.i64.wrap ((BitVec.ofInt 64 (a : Int) ||| BitVec.ofInt 64 (b : Int)).toNat : Int) = _
  rw [BitVec.toNat_or, ofInt_u64 a (by omega), ofInt_u64 b (by omega), IntKind.wrap_i64]
  omega
theorem i64_andNot_n (a b : Nat) (ha : a < 9223372036854775808) (hb : b < 9223372036854775808) : bits .andNot .i64 (a : Int) (b : Int) = ((a &&& (18446744073709551615 - b) : Nat) : Int) := by
  have hx : a &&& (18446744073709551615 - b) ≤ a := Nat.and_le_left
  show IntKind.i64.wrap ((BitVec.ofInt 64 (a : Int) &&& ~~~BitVec.ofInt 64 (b : Int)).toNat : Int) = _
  rw [BitVec.toNat_and, BitVec.toNat_not, ofInt_u64 a (by omega), ofInt_u64 b (by omega), IntKind.wrap_i64]
  have e : 2 ^ 64 - 1 - b = 18446744073709551615 - b := by omega
  rw [e]
  omega
theorem pnBits_1 (n : Int) (hn : bytesN n = 1) (w : World) : Calls Try.prog 52 #[.int .i64 n] w fun e w' => e = .returned (.int .i64 8) ∧ w' = w := by
  have h : min (max n 1) 4 = 1 := by
    unfold bytesN at hn
    split at hn
    · omega
    · split at hn <;> omega
  clear hn
  go_enter Try.func52, Try.ntmps52
  go_wp2
  go_ret
  exact ⟨rfl, rfl⟩
theorem pnCut_1 (x : Nat) (n : Int) (hx : x < 18446744073709551616) (hn : bytesN n = 1) (w : World) : Calls Try.prog 20 #[.int .u64 (x : Int), .int .i64 n] w fun e w' => e = .returned (.int .u64 ((x % 256 : Nat) : Int)) ∧ w' = w := by
  have HB := Bx.mk (pnBits_1 n hn)
  have ha := pn_and x 8 256 hx (by omega)
  rw [show ((256 : Nat) : Int) - 1 = 255 from rfl] at ha
  obtain ⟨X, hX⟩ : ∃ X : Int, (x : Int) = X := ⟨_, rfl⟩
  obtain ⟨R, hR⟩ : ∃ R : Int, ((x % 256 : Nat) : Int) = R := ⟨_, rfl⟩
  rw [hX, hR] at ha
  rw [hX, hR]
  clear hX hR hn hx
  go_enter Try.func20, Try.ntmps20
  go_wp2_with (go_at_call 52; refine (HB.out _).mono ?_; rintro e w1 ⟨rfl, hw⟩; subst hw)
  go_ret
  exact ⟨rfl, rfl⟩
theorem pnBits_2 (n : Int) (hn : bytesN n = 2) (w : World) : Calls Try.prog 52 #[.int .i64 n] w fun e w' => e = .returned (.int .i64 16) ∧ w' = w := by
  have h : min (max n 1) 4 = 2 := by
    unfold bytesN at hn
    split at hn
    · omega
    · split at hn <;> omega
  clear hn
  go_enter Try.func52, Try.ntmps52
  go_wp2
  go_ret
  exact ⟨rfl, rfl⟩
theorem pnCut_2 (x : Nat) (n : Int) (hx : x < 18446744073709551616) (hn : bytesN n = 2) (w : World) : Calls Try.prog 20 #[.int .u64 (x : Int), .int .i64 n] w fun e w' => e = .returned (.int .u64 ((x % 65536 : Nat) : Int)) ∧ w' = w := by
  have HB := Bx.mk (pnBits_2 n hn)
  have ha := pn_and x 16 65536 hx (by omega)
  rw [show ((65536 : Nat) : Int) - 1 = 65535 from rfl] at ha
  obtain ⟨X, hX⟩ : ∃ X : Int, (x : Int) = X := ⟨_, rfl⟩
  obtain ⟨R, hR⟩ : ∃ R : Int, ((x % 65536 : Nat) : Int) = R := ⟨_, rfl⟩
  rw [hX, hR] at ha
  rw [hX, hR]
  clear hX hR hn hx
  go_enter Try.func20, Try.ntmps20
  go_wp2_with (go_at_call 52; refine (HB.out _).mono ?_; rintro e w1 ⟨rfl, hw⟩; subst hw)
  go_ret
  exact ⟨rfl, rfl⟩
theorem pnBits_3 (n : Int) (hn : bytesN n = 3) (w : World) : Calls Try.prog 52 #[.int .i64 n] w fun e w' => e = .returned (.int .i64 24) ∧ w' = w := by
  have h : min (max n 1) 4 = 3 := by
    unfold bytesN at hn
    split at hn
    · omega
    · split at hn <;> omega
  clear hn
  go_enter Try.func52, Try.ntmps52
  go_wp2
  go_ret
  exact ⟨rfl, rfl⟩
theorem pnCut_3 (x : Nat) (n : Int) (hx : x < 18446744073709551616) (hn : bytesN n = 3) (w : World) : Calls Try.prog 20 #[.int .u64 (x : Int), .int .i64 n] w fun e w' => e = .returned (.int .u64 ((x % 16777216 : Nat) : Int)) ∧ w' = w := by
  have HB := Bx.mk (pnBits_3 n hn)
  have ha := pn_and x 24 16777216 hx (by omega)
  rw [show ((16777216 : Nat) : Int) - 1 = 16777215 from rfl] at ha
  obtain ⟨X, hX⟩ : ∃ X : Int, (x : Int) = X := ⟨_, rfl⟩
  obtain ⟨R, hR⟩ : ∃ R : Int, ((x % 16777216 : Nat) : Int) = R := ⟨_, rfl⟩
  rw [hX, hR] at ha
  rw [hX, hR]
  clear hX hR hn hx
  go_enter Try.func20, Try.ntmps20
  go_wp2_with (go_at_call 52; refine (HB.out _).mono ?_; rintro e w1 ⟨rfl, hw⟩; subst hw)
  go_ret
  exact ⟨rfl, rfl⟩
theorem pnBits_4 (n : Int) (hn : bytesN n = 4) (w : World) : Calls Try.prog 52 #[.int .i64 n] w fun e w' => e = .returned (.int .i64 32) ∧ w' = w := by
  have h : min (max n 1) 4 = 4 := by
    unfold bytesN at hn
    split at hn
    · omega
    · split at hn <;> omega
  clear hn
  go_enter Try.func52, Try.ntmps52
  go_wp2
  go_ret
  exact ⟨rfl, rfl⟩
theorem pnCut_4 (x : Nat) (n : Int) (hx : x < 18446744073709551616) (hn : bytesN n = 4) (w : World) : Calls Try.prog 20 #[.int .u64 (x : Int), .int .i64 n] w fun e w' => e = .returned (.int .u64 ((x % 4294967296 : Nat) : Int)) ∧ w' = w := by
  have HB := Bx.mk (pnBits_4 n hn)
  have ha := pn_and x 32 4294967296 hx (by omega)
  rw [show ((4294967296 : Nat) : Int) - 1 = 4294967295 from rfl] at ha
  obtain ⟨X, hX⟩ : ∃ X : Int, (x : Int) = X := ⟨_, rfl⟩
  obtain ⟨R, hR⟩ : ∃ R : Int, ((x % 4294967296 : Nat) : Int) = R := ⟨_, rfl⟩
  rw [hX, hR] at ha
  rw [hX, hR]
  clear hX hR hn hx
  go_enter Try.func20, Try.ntmps20
  go_wp2_with (go_at_call 52; refine (HB.out _).mono ?_; rintro e w1 ⟨rfl, hw⟩; subst hw)
  go_ret
  exact ⟨rfl, rfl⟩
theorem pnCut_any (x : Nat) (n : Int) (hx : x < 18446744073709551616) (w : World) : Calls Try.prog 20 #[.int .u64 (x : Int), .int .i64 n] w fun e w' => e = .returned (.int .u64 ((x % winN (bytesN n) : Nat) : Int)) ∧ Below w.heap.size w w' := by
  rcases bytesN_cases n with h | h | h | h
  · rw [h]
    refine (pnCut_1 x n hx h w).mono ?_
    rintro e w1 ⟨rfl, rfl⟩
    exact ⟨rfl, Below.refl _ _⟩
  · rw [h]
    refine (pnCut_2 x n hx h w).mono ?_
    rintro e w1 ⟨rfl, rfl⟩
    exact ⟨rfl, Below.refl _ _⟩
  · rw [h]
    refine (pnCut_3 x n hx h w).mono ?_
    rintro e w1 ⟨rfl, rfl⟩
    exact ⟨rfl, Below.refl _ _⟩
  · rw [h]
    refine (pnCut_4 x n hx h w).mono ?_
    rintro e w1 ⟨rfl, rfl⟩
    exact ⟨rfl, Below.refl _ _⟩
set_option maxHeartbeats 4000000 in
theorem pnFull_1 (x : Nat) (n largest : Int) (hx : x < 18446744073709551616) (hn : bytesN n = 1) (hl1 : -9223372036854775808 ≤ largest) (hl2 : largest ≤ 9223372036854775807) (w : World) :
    Calls Try.prog 22 #[.int .u64 (x : Int), .int .i64 n, .int .i64 largest] w fun e w' => e = .returned (.int .u64 (fullN x 256 (wantN largest) : Int)) ∧ w' = w := by
  have HB := Bx.mk (pnBits_1 n hn)
  have HC := Bx.mk (pnCut_1 x n hx hn)
  obtain ⟨W, hW⟩ : ∃ W : Nat, wantN largest = W := ⟨_, rfl⟩
  have hWb : W ≤ 4611686018427387904 := by
    rw [← hW]; unfold wantN
    split <;> omega
  have hq : bits .andNot .i64 (W : Int) 255 = ((W - W % 256 : Nat) : Int) := by
    rw [show (255 : Int) = ((255 : Nat) : Int) from rfl, i64_andNot_n _ _ (by omega) (by omega), show (255 : Nat) = 2 ^ 8 - 1 from rfl, and_high _ _ (by omega) (by omega)]
    rw [show (2 : Nat) ^ 8 = 256 from rfl]
    congr 1
    omega
  have hor : bits .or .i64 ((W - W % 256 : Nat) : Int) ((x % 256 : Nat) : Int) = ((W - W % 256 + x % 256 : Nat) : Int) := by
    have e : W - W % 256 = W / 256 * 2 ^ 8 := by rw [show (2 : Nat) ^ 8 = 256 from rfl]; omega
    rw [i64_or_n _ _ (by omega) (by omega), e, or_add _ _ 8 (by rw [show (2 : Nat) ^ 8 = 256 from rfl]; omega)]
  rw [hW]
  have hfull : fullN x 256 W = (if 128 ≤ W ∧ W - W % 256 + x % 256 ≤ W - 128 ∧ W - W % 256 + x % 256 < 4611686018427387648 then W - W % 256 + x % 256 + 256 else if W + 128 < W - W % 256 + x % 256 ∧ 256 ≤ W - W % 256 + x % 256 then W - W % 256 + x % 256 - 256 else W - W % 256 + x % 256) := rfl
  rw [hfull]
  clear hfull
  have hR0 : x % 256 < 256 := Nat.mod_lt _ (by omega)
  obtain ⟨C, hC⟩ : ∃ C : Nat, W - W % 256 + x % 256 = C := ⟨_, rfl⟩
  have hCb : C ≤ W + 256 := by omega
  rw [hC] at hor ⊢
  clear hC
  obtain ⟨WI, hWI⟩ : ∃ y : Int, (W : Int) = y := ⟨_, rfl⟩
  obtain ⟨CI, hCI⟩ : ∃ y : Int, (C : Int) = y := ⟨_, rfl⟩
  obtain ⟨RI, hRI⟩ : ∃ y : Int, ((x % 256 : Nat) : Int) = y := ⟨_, rfl⟩
  obtain ⟨QI, hQI⟩ : ∃ y : Int, ((W - W % 256 : Nat) : Int) = y := ⟨_, rfl⟩
  obtain ⟨XI, hXI⟩ : ∃ y : Int, (x : Int) = y := ⟨_, rfl⟩
  rw [hXI, hRI] at HC
  rw [hWI, hQI] at hq
  rw [hQI, hRI, hCI] at hor
  rw [hXI]
  have g4 : min (max largest (-1)) 4611686018427387903 + 1 = WI := by
    rw [← hWI, ← hW]
    unfold wantN
    by_cases h : largest < 0
    · rw [if_pos h]; omega
    · rw [if_neg h]; omega
  have hz : ∀ y : Int, -9223372036854775808 ≤ y → y < 9223372036854775808 → IntKind.i64.wrap y = y := fun y h1 h2 => by rw [IntKind.wrap_i64]; omega
  have hz2 : ∀ y : Int, -9223372036854775808 ≤ y → y < 9223372036854775808 → wrap64 y = y := fun y h1 h2 => by unfold wrap64; omega
  have hu : ∀ y : Int, 0 ≤ y → y < 18446744073709551616 → IntKind.u64.wrap y = y := fun y h1 h2 => by rw [IntKind.wrap_u64]; omega
  have r1 : IntKind.i64.wrap RI = RI := hz _ (by omega) (by omega)
  have w1 : IntKind.i64.wrap WI = WI := hz _ (by omega) (by omega)
  have w2 : wrap64 WI = WI := hz2 _ (by omega) (by omega)
  have x1 : IntKind.i64.wrap (WI - 128) = WI - 128 := hz _ (by omega) (by omega)
  have x2 : wrap64 (WI - 128) = WI - 128 := hz2 _ (by omega) (by omega)
  have y1 : IntKind.i64.wrap (WI + 128) = WI + 128 := hz _ (by omega) (by omega)
  have y2 : wrap64 (WI + 128) = WI + 128 := hz2 _ (by omega) (by omega)
  have z1 : IntKind.i64.wrap (CI + 256) = CI + 256 := hz _ (by omega) (by omega)
  have z2 : wrap64 (CI + 256) = CI + 256 := hz2 _ (by omega) (by omega)
  have v1 : IntKind.i64.wrap (CI - 256) = CI - 256 := hz _ (by omega) (by omega)
  have v2 : wrap64 (CI - 256) = CI - 256 := hz2 _ (by omega) (by omega)
  clear hRI hQI hXI hW hx hn hR0 hl1 hl2
  by_cases hB : CI ≤ WI - 128
  · have fB : decide (CI ≤ WI - 128) = true := decide_eq_true hB
    by_cases hG : CI ≤ 4611686018427387647
    · have fG : decide (CI ≤ 4611686018427387647) = true := decide_eq_true hG
      rw [if_pos ⟨by omega, by omega, by omega⟩]
      have HE : Bx (∀ e : Int, e = CI + 256 → Ending.returned (Value.int .u64 e) = .returned (.int .u64 ((C + 256 : Nat) : Int))) := ⟨fun e he => by rw [he]; congr 2; omega⟩
      have hfin : IntKind.u64.wrap (CI + 256) = CI + 256 := hu _ (by omega) (by omega)
      clear hz hz2 hu hCb hWb hWI hCI
      go_enter Try.func22, Try.ntmps22
      go_wp2_with (first
        | (go_at_call 52; refine (HB.out _).mono ?_; rintro e w1 ⟨rfl, hw⟩; subst hw)
        | (go_at_call 20; refine (HC.out _).mono ?_; rintro e w1 ⟨rfl, hw⟩; subst hw))
      go_ret
      exact ⟨HE.out _ rfl, rfl⟩
    · have fG : decide (CI ≤ 4611686018427387647) = false := decide_eq_false hG
      by_cases hD : WI + 128 < CI
      · have fD : decide (WI + 128 < CI) = true := decide_eq_true hD
        by_cases hE : 256 ≤ CI
        · have fE : decide (256 ≤ CI) = true := decide_eq_true hE
          rw [if_neg (by omega), if_pos ⟨by omega, by omega⟩]
          have HE : Bx (∀ e : Int, e = CI - 256 → Ending.returned (Value.int .u64 e) = .returned (.int .u64 ((C - 256 : Nat) : Int))) := ⟨fun e he => by rw [he]; congr 2; omega⟩
          have hfin : IntKind.u64.wrap (CI - 256) = CI - 256 := hu _ (by omega) (by omega)
          clear hz hz2 hu hCb hWb hWI hCI
          go_enter Try.func22, Try.ntmps22
          go_wp2_with (first
            | (go_at_call 52; refine (HB.out _).mono ?_; rintro e w1 ⟨rfl, hw⟩; subst hw)
            | (go_at_call 20; refine (HC.out _).mono ?_; rintro e w1 ⟨rfl, hw⟩; subst hw))
          go_ret
          exact ⟨HE.out _ rfl, rfl⟩
        · have fE : decide (256 ≤ CI) = false := decide_eq_false hE
          rw [if_neg (by omega), if_neg (by omega)]
          have HE : Bx (∀ e : Int, e = CI → Ending.returned (Value.int .u64 e) = .returned (.int .u64 ((C : Nat) : Int))) := ⟨fun e he => by rw [he]; congr 2; omega⟩
          have hfin : IntKind.u64.wrap (CI) = CI := hu _ (by omega) (by omega)
          clear hz hz2 hu hCb hWb hWI hCI
          go_enter Try.func22, Try.ntmps22
          go_wp2_with (first
            | (go_at_call 52; refine (HB.out _).mono ?_; rintro e w1 ⟨rfl, hw⟩; subst hw)
            | (go_at_call 20; refine (HC.out _).mono ?_; rintro e w1 ⟨rfl, hw⟩; subst hw))
          go_ret
          exact ⟨HE.out _ rfl, rfl⟩
      · have fD : decide (WI + 128 < CI) = false := decide_eq_false hD
        rw [if_neg (by omega), if_neg (by omega)]
        have HE : Bx (∀ e : Int, e = CI → Ending.returned (Value.int .u64 e) = .returned (.int .u64 ((C : Nat) : Int))) := ⟨fun e he => by rw [he]; congr 2; omega⟩
        have hfin : IntKind.u64.wrap (CI) = CI := hu _ (by omega) (by omega)
        clear hz hz2 hu hCb hWb hWI hCI
        go_enter Try.func22, Try.ntmps22
        go_wp2_with (first
          | (go_at_call 52; refine (HB.out _).mono ?_; rintro e w1 ⟨rfl, hw⟩; subst hw)
          | (go_at_call 20; refine (HC.out _).mono ?_; rintro e w1 ⟨rfl, hw⟩; subst hw))
        go_ret
        exact ⟨HE.out _ rfl, rfl⟩
  · have fB : decide (CI ≤ WI - 128) = false := decide_eq_false hB
    by_cases hD : WI + 128 < CI
    · have fD : decide (WI + 128 < CI) = true := decide_eq_true hD
      by_cases hE : 256 ≤ CI
      · have fE : decide (256 ≤ CI) = true := decide_eq_true hE
        rw [if_neg (by omega), if_pos ⟨by omega, by omega⟩]
        have HE : Bx (∀ e : Int, e = CI - 256 → Ending.returned (Value.int .u64 e) = .returned (.int .u64 ((C - 256 : Nat) : Int))) := ⟨fun e he => by rw [he]; congr 2; omega⟩
        have hfin : IntKind.u64.wrap (CI - 256) = CI - 256 := hu _ (by omega) (by omega)
        clear hz hz2 hu hCb hWb hWI hCI
        go_enter Try.func22, Try.ntmps22
        go_wp2_with (first
          | (go_at_call 52; refine (HB.out _).mono ?_; rintro e w1 ⟨rfl, hw⟩; subst hw)
          | (go_at_call 20; refine (HC.out _).mono ?_; rintro e w1 ⟨rfl, hw⟩; subst hw))
        go_ret
        exact ⟨HE.out _ rfl, rfl⟩
      · have fE : decide (256 ≤ CI) = false := decide_eq_false hE
        rw [if_neg (by omega), if_neg (by omega)]
        have HE : Bx (∀ e : Int, e = CI → Ending.returned (Value.int .u64 e) = .returned (.int .u64 ((C : Nat) : Int))) := ⟨fun e he => by rw [he]; congr 2; omega⟩
        have hfin : IntKind.u64.wrap (CI) = CI := hu _ (by omega) (by omega)
        clear hz hz2 hu hCb hWb hWI hCI
        go_enter Try.func22, Try.ntmps22
        go_wp2_with (first
          | (go_at_call 52; refine (HB.out _).mono ?_; rintro e w1 ⟨rfl, hw⟩; subst hw)
          | (go_at_call 20; refine (HC.out _).mono ?_; rintro e w1 ⟨rfl, hw⟩; subst hw))
        go_ret
        exact ⟨HE.out _ rfl, rfl⟩
    · have fD : decide (WI + 128 < CI) = false := decide_eq_false hD
      rw [if_neg (by omega), if_neg (by omega)]
      have HE : Bx (∀ e : Int, e = CI → Ending.returned (Value.int .u64 e) = .returned (.int .u64 ((C : Nat) : Int))) := ⟨fun e he => by rw [he]; congr 2; omega⟩
      have hfin : IntKind.u64.wrap (CI) = CI := hu _ (by omega) (by omega)
      clear hz hz2 hu hCb hWb hWI hCI
      go_enter Try.func22, Try.ntmps22
      go_wp2_with (first
        | (go_at_call 52; refine (HB.out _).mono ?_; rintro e w1 ⟨rfl, hw⟩; subst hw)
        | (go_at_call 20; refine (HC.out _).mono ?_; rintro e w1 ⟨rfl, hw⟩; subst hw))
      go_ret
      exact ⟨HE.out _ rfl, rfl⟩
set_option maxHeartbeats 4000000 in
theorem pnFull_2 (x : Nat) (n largest : Int) (hx : x < 18446744073709551616) (hn : bytesN n = 2) (hl1 : -9223372036854775808 ≤ largest) (hl2 : largest ≤ 9223372036854775807) (w : World) :
    Calls Try.prog 22 #[.int .u64 (x : Int), .int .i64 n, .int .i64 largest] w fun e w' => e = .returned (.int .u64 (fullN x 65536 (wantN largest) : Int)) ∧ w' = w := by
  have HB := Bx.mk (pnBits_2 n hn)
  have HC := Bx.mk (pnCut_2 x n hx hn)
  obtain ⟨W, hW⟩ : ∃ W : Nat, wantN largest = W := ⟨_, rfl⟩
  have hWb : W ≤ 4611686018427387904 := by
    rw [← hW]; unfold wantN
    split <;> omega
  have hq : bits .andNot .i64 (W : Int) 65535 = ((W - W % 65536 : Nat) : Int) := by
    rw [show (65535 : Int) = ((65535 : Nat) : Int) from rfl, i64_andNot_n _ _ (by omega) (by omega), show (65535 : Nat) = 2 ^ 16 - 1 from rfl, and_high _ _ (by omega) (by omega)]
    rw [show (2 : Nat) ^ 16 = 65536 from rfl]
    congr 1
    omega
  have hor : bits .or .i64 ((W - W % 65536 : Nat) : Int) ((x % 65536 : Nat) : Int) = ((W - W % 65536 + x % 65536 : Nat) : Int) := by
    have e : W - W % 65536 = W / 65536 * 2 ^ 16 := by rw [show (2 : Nat) ^ 16 = 65536 from rfl]; omega
    rw [i64_or_n _ _ (by omega) (by omega), e, or_add _ _ 16 (by rw [show (2 : Nat) ^ 16 = 65536 from rfl]; omega)]
  rw [hW]
  have hfull : fullN x 65536 W = (if 32768 ≤ W ∧ W - W % 65536 + x % 65536 ≤ W - 32768 ∧ W - W % 65536 + x % 65536 < 4611686018427322368 then W - W % 65536 + x % 65536 + 65536 else if W + 32768 < W - W % 65536 + x % 65536 ∧ 65536 ≤ W - W % 65536 + x % 65536 then W - W % 65536 + x % 65536 - 65536 else W - W % 65536 + x % 65536) := rfl
  rw [hfull]
  clear hfull
  have hR0 : x % 65536 < 65536 := Nat.mod_lt _ (by omega)
  obtain ⟨C, hC⟩ : ∃ C : Nat, W - W % 65536 + x % 65536 = C := ⟨_, rfl⟩
  have hCb : C ≤ W + 65536 := by omega
  rw [hC] at hor ⊢
  clear hC
  obtain ⟨WI, hWI⟩ : ∃ y : Int, (W : Int) = y := ⟨_, rfl⟩
  obtain ⟨CI, hCI⟩ : ∃ y : Int, (C : Int) = y := ⟨_, rfl⟩
  obtain ⟨RI, hRI⟩ : ∃ y : Int, ((x % 65536 : Nat) : Int) = y := ⟨_, rfl⟩
  obtain ⟨QI, hQI⟩ : ∃ y : Int, ((W - W % 65536 : Nat) : Int) = y := ⟨_, rfl⟩
  obtain ⟨XI, hXI⟩ : ∃ y : Int, (x : Int) = y := ⟨_, rfl⟩
  rw [hXI, hRI] at HC
  rw [hWI, hQI] at hq
  rw [hQI, hRI, hCI] at hor
  rw [hXI]
  have g4 : min (max largest (-1)) 4611686018427387903 + 1 = WI := by
    rw [← hWI, ← hW]
    unfold wantN
    by_cases h : largest < 0
    · rw [if_pos h]; omega
    · rw [if_neg h]; omega
  have hz : ∀ y : Int, -9223372036854775808 ≤ y → y < 9223372036854775808 → IntKind.i64.wrap y = y := fun y h1 h2 => by rw [IntKind.wrap_i64]; omega
  have hz2 : ∀ y : Int, -9223372036854775808 ≤ y → y < 9223372036854775808 → wrap64 y = y := fun y h1 h2 => by unfold wrap64; omega
  have hu : ∀ y : Int, 0 ≤ y → y < 18446744073709551616 → IntKind.u64.wrap y = y := fun y h1 h2 => by rw [IntKind.wrap_u64]; omega
  have r1 : IntKind.i64.wrap RI = RI := hz _ (by omega) (by omega)
  have w1 : IntKind.i64.wrap WI = WI := hz _ (by omega) (by omega)
  have w2 : wrap64 WI = WI := hz2 _ (by omega) (by omega)
  have x1 : IntKind.i64.wrap (WI - 32768) = WI - 32768 := hz _ (by omega) (by omega)
  have x2 : wrap64 (WI - 32768) = WI - 32768 := hz2 _ (by omega) (by omega)
  have y1 : IntKind.i64.wrap (WI + 32768) = WI + 32768 := hz _ (by omega) (by omega)
  have y2 : wrap64 (WI + 32768) = WI + 32768 := hz2 _ (by omega) (by omega)
  have z1 : IntKind.i64.wrap (CI + 65536) = CI + 65536 := hz _ (by omega) (by omega)
  have z2 : wrap64 (CI + 65536) = CI + 65536 := hz2 _ (by omega) (by omega)
  have v1 : IntKind.i64.wrap (CI - 65536) = CI - 65536 := hz _ (by omega) (by omega)
  have v2 : wrap64 (CI - 65536) = CI - 65536 := hz2 _ (by omega) (by omega)
  clear hRI hQI hXI hW hx hn hR0 hl1 hl2
  by_cases hB : CI ≤ WI - 32768
  · have fB : decide (CI ≤ WI - 32768) = true := decide_eq_true hB
    by_cases hG : CI ≤ 4611686018427322367
    · have fG : decide (CI ≤ 4611686018427322367) = true := decide_eq_true hG
      rw [if_pos ⟨by omega, by omega, by omega⟩]
      have HE : Bx (∀ e : Int, e = CI + 65536 → Ending.returned (Value.int .u64 e) = .returned (.int .u64 ((C + 65536 : Nat) : Int))) := ⟨fun e he => by rw [he]; congr 2; omega⟩
      have hfin : IntKind.u64.wrap (CI + 65536) = CI + 65536 := hu _ (by omega) (by omega)
      clear hz hz2 hu hCb hWb hWI hCI
      go_enter Try.func22, Try.ntmps22
      go_wp2_with (first
        | (go_at_call 52; refine (HB.out _).mono ?_; rintro e w1 ⟨rfl, hw⟩; subst hw)
        | (go_at_call 20; refine (HC.out _).mono ?_; rintro e w1 ⟨rfl, hw⟩; subst hw))
      go_ret
      exact ⟨HE.out _ rfl, rfl⟩
    · have fG : decide (CI ≤ 4611686018427322367) = false := decide_eq_false hG
      by_cases hD : WI + 32768 < CI
      · have fD : decide (WI + 32768 < CI) = true := decide_eq_true hD
        by_cases hE : 65536 ≤ CI
        · have fE : decide (65536 ≤ CI) = true := decide_eq_true hE
          rw [if_neg (by omega), if_pos ⟨by omega, by omega⟩]
          have HE : Bx (∀ e : Int, e = CI - 65536 → Ending.returned (Value.int .u64 e) = .returned (.int .u64 ((C - 65536 : Nat) : Int))) := ⟨fun e he => by rw [he]; congr 2; omega⟩
          have hfin : IntKind.u64.wrap (CI - 65536) = CI - 65536 := hu _ (by omega) (by omega)
          clear hz hz2 hu hCb hWb hWI hCI
          go_enter Try.func22, Try.ntmps22
          go_wp2_with (first
            | (go_at_call 52; refine (HB.out _).mono ?_; rintro e w1 ⟨rfl, hw⟩; subst hw)
            | (go_at_call 20; refine (HC.out _).mono ?_; rintro e w1 ⟨rfl, hw⟩; subst hw))
          go_ret
          exact ⟨HE.out _ rfl, rfl⟩
        · have fE : decide (65536 ≤ CI) = false := decide_eq_false hE
          rw [if_neg (by omega), if_neg (by omega)]
          have HE : Bx (∀ e : Int, e = CI → Ending.returned (Value.int .u64 e) = .returned (.int .u64 ((C : Nat) : Int))) := ⟨fun e he => by rw [he]; congr 2; omega⟩
          have hfin : IntKind.u64.wrap (CI) = CI := hu _ (by omega) (by omega)
          clear hz hz2 hu hCb hWb hWI hCI
          go_enter Try.func22, Try.ntmps22
          go_wp2_with (first
            | (go_at_call 52; refine (HB.out _).mono ?_; rintro e w1 ⟨rfl, hw⟩; subst hw)
            | (go_at_call 20; refine (HC.out _).mono ?_; rintro e w1 ⟨rfl, hw⟩; subst hw))
          go_ret
          exact ⟨HE.out _ rfl, rfl⟩
      · have fD : decide (WI + 32768 < CI) = false := decide_eq_false hD
        rw [if_neg (by omega), if_neg (by omega)]
        have HE : Bx (∀ e : Int, e = CI → Ending.returned (Value.int .u64 e) = .returned (.int .u64 ((C : Nat) : Int))) := ⟨fun e he => by rw [he]; congr 2; omega⟩
        have hfin : IntKind.u64.wrap (CI) = CI := hu _ (by omega) (by omega)
        clear hz hz2 hu hCb hWb hWI hCI
        go_enter Try.func22, Try.ntmps22
        go_wp2_with (first
          | (go_at_call 52; refine (HB.out _).mono ?_; rintro e w1 ⟨rfl, hw⟩; subst hw)
          | (go_at_call 20; refine (HC.out _).mono ?_; rintro e w1 ⟨rfl, hw⟩; subst hw))
        go_ret
        exact ⟨HE.out _ rfl, rfl⟩
  · have fB : decide (CI ≤ WI - 32768) = false := decide_eq_false hB
    by_cases hD : WI + 32768 < CI
    · have fD : decide (WI + 32768 < CI) = true := decide_eq_true hD
      by_cases hE : 65536 ≤ CI
      · have fE : decide (65536 ≤ CI) = true := decide_eq_true hE
        rw [if_neg (by omega), if_pos ⟨by omega, by omega⟩]
        have HE : Bx (∀ e : Int, e = CI - 65536 → Ending.returned (Value.int .u64 e) = .returned (.int .u64 ((C - 65536 : Nat) : Int))) := ⟨fun e he => by rw [he]; congr 2; omega⟩
        have hfin : IntKind.u64.wrap (CI - 65536) = CI - 65536 := hu _ (by omega) (by omega)
        clear hz hz2 hu hCb hWb hWI hCI
        go_enter Try.func22, Try.ntmps22
        go_wp2_with (first
          | (go_at_call 52; refine (HB.out _).mono ?_; rintro e w1 ⟨rfl, hw⟩; subst hw)
          | (go_at_call 20; refine (HC.out _).mono ?_; rintro e w1 ⟨rfl, hw⟩; subst hw))
        go_ret
        exact ⟨HE.out _ rfl, rfl⟩
      · have fE : decide (65536 ≤ CI) = false := decide_eq_false hE
        rw [if_neg (by omega), if_neg (by omega)]
        have HE : Bx (∀ e : Int, e = CI → Ending.returned (Value.int .u64 e) = .returned (.int .u64 ((C : Nat) : Int))) := ⟨fun e he => by rw [he]; congr 2; omega⟩
        have hfin : IntKind.u64.wrap (CI) = CI := hu _ (by omega) (by omega)
        clear hz hz2 hu hCb hWb hWI hCI
        go_enter Try.func22, Try.ntmps22
        go_wp2_with (first
          | (go_at_call 52; refine (HB.out _).mono ?_; rintro e w1 ⟨rfl, hw⟩; subst hw)
          | (go_at_call 20; refine (HC.out _).mono ?_; rintro e w1 ⟨rfl, hw⟩; subst hw))
        go_ret
        exact ⟨HE.out _ rfl, rfl⟩
    · have fD : decide (WI + 32768 < CI) = false := decide_eq_false hD
      rw [if_neg (by omega), if_neg (by omega)]
      have HE : Bx (∀ e : Int, e = CI → Ending.returned (Value.int .u64 e) = .returned (.int .u64 ((C : Nat) : Int))) := ⟨fun e he => by rw [he]; congr 2; omega⟩
      have hfin : IntKind.u64.wrap (CI) = CI := hu _ (by omega) (by omega)
      clear hz hz2 hu hCb hWb hWI hCI
      go_enter Try.func22, Try.ntmps22
      go_wp2_with (first
        | (go_at_call 52; refine (HB.out _).mono ?_; rintro e w1 ⟨rfl, hw⟩; subst hw)
        | (go_at_call 20; refine (HC.out _).mono ?_; rintro e w1 ⟨rfl, hw⟩; subst hw))
      go_ret
      exact ⟨HE.out _ rfl, rfl⟩
set_option maxHeartbeats 4000000 in
theorem pnFull_3 (x : Nat) (n largest : Int) (hx : x < 18446744073709551616) (hn : bytesN n = 3) (hl1 : -9223372036854775808 ≤ largest) (hl2 : largest ≤ 9223372036854775807) (w : World) :
    Calls Try.prog 22 #[.int .u64 (x : Int), .int .i64 n, .int .i64 largest] w fun e w' => e = .returned (.int .u64 (fullN x 16777216 (wantN largest) : Int)) ∧ w' = w := by
  have HB := Bx.mk (pnBits_3 n hn)
  have HC := Bx.mk (pnCut_3 x n hx hn)
  obtain ⟨W, hW⟩ : ∃ W : Nat, wantN largest = W := ⟨_, rfl⟩
  have hWb : W ≤ 4611686018427387904 := by
    rw [← hW]; unfold wantN
    split <;> omega
  have hq : bits .andNot .i64 (W : Int) 16777215 = ((W - W % 16777216 : Nat) : Int) := by
    rw [show (16777215 : Int) = ((16777215 : Nat) : Int) from rfl, i64_andNot_n _ _ (by omega) (by omega), show (16777215 : Nat) = 2 ^ 24 - 1 from rfl, and_high _ _ (by omega) (by omega)]
    rw [show (2 : Nat) ^ 24 = 16777216 from rfl]
    congr 1
    omega
  have hor : bits .or .i64 ((W - W % 16777216 : Nat) : Int) ((x % 16777216 : Nat) : Int) = ((W - W % 16777216 + x % 16777216 : Nat) : Int) := by
    have e : W - W % 16777216 = W / 16777216 * 2 ^ 24 := by rw [show (2 : Nat) ^ 24 = 16777216 from rfl]; omega
    rw [i64_or_n _ _ (by omega) (by omega), e, or_add _ _ 24 (by rw [show (2 : Nat) ^ 24 = 16777216 from rfl]; omega)]
  rw [hW]
  have hfull : fullN x 16777216 W = (if 8388608 ≤ W ∧ W - W % 16777216 + x % 16777216 ≤ W - 8388608 ∧ W - W % 16777216 + x % 16777216 < 4611686018410610688 then W - W % 16777216 + x % 16777216 + 16777216 else if W + 8388608 < W - W % 16777216 + x % 16777216 ∧ 16777216 ≤ W - W % 16777216 + x % 16777216 then W - W % 16777216 + x % 16777216 - 16777216 else W - W % 16777216 + x % 16777216) := rfl
  rw [hfull]
  clear hfull
  have hR0 : x % 16777216 < 16777216 := Nat.mod_lt _ (by omega)
  obtain ⟨C, hC⟩ : ∃ C : Nat, W - W % 16777216 + x % 16777216 = C := ⟨_, rfl⟩
  have hCb : C ≤ W + 16777216 := by omega
  rw [hC] at hor ⊢
  clear hC
  obtain ⟨WI, hWI⟩ : ∃ y : Int, (W : Int) = y := ⟨_, rfl⟩
  obtain ⟨CI, hCI⟩ : ∃ y : Int, (C : Int) = y := ⟨_, rfl⟩
  obtain ⟨RI, hRI⟩ : ∃ y : Int, ((x % 16777216 : Nat) : Int) = y := ⟨_, rfl⟩
  obtain ⟨QI, hQI⟩ : ∃ y : Int, ((W - W % 16777216 : Nat) : Int) = y := ⟨_, rfl⟩
  obtain ⟨XI, hXI⟩ : ∃ y : Int, (x : Int) = y := ⟨_, rfl⟩
  rw [hXI, hRI] at HC
  rw [hWI, hQI] at hq
  rw [hQI, hRI, hCI] at hor
  rw [hXI]
  have g4 : min (max largest (-1)) 4611686018427387903 + 1 = WI := by
    rw [← hWI, ← hW]
    unfold wantN
    by_cases h : largest < 0
    · rw [if_pos h]; omega
    · rw [if_neg h]; omega
  have hz : ∀ y : Int, -9223372036854775808 ≤ y → y < 9223372036854775808 → IntKind.i64.wrap y = y := fun y h1 h2 => by rw [IntKind.wrap_i64]; omega
  have hz2 : ∀ y : Int, -9223372036854775808 ≤ y → y < 9223372036854775808 → wrap64 y = y := fun y h1 h2 => by unfold wrap64; omega
  have hu : ∀ y : Int, 0 ≤ y → y < 18446744073709551616 → IntKind.u64.wrap y = y := fun y h1 h2 => by rw [IntKind.wrap_u64]; omega
  have r1 : IntKind.i64.wrap RI = RI := hz _ (by omega) (by omega)
  have w1 : IntKind.i64.wrap WI = WI := hz _ (by omega) (by omega)
  have w2 : wrap64 WI = WI := hz2 _ (by omega) (by omega)
  have x1 : IntKind.i64.wrap (WI - 8388608) = WI - 8388608 := hz _ (by omega) (by omega)
  have x2 : wrap64 (WI - 8388608) = WI - 8388608 := hz2 _ (by omega) (by omega)
  have y1 : IntKind.i64.wrap (WI + 8388608) = WI + 8388608 := hz _ (by omega) (by omega)
  have y2 : wrap64 (WI + 8388608) = WI + 8388608 := hz2 _ (by omega) (by omega)
  have z1 : IntKind.i64.wrap (CI + 16777216) = CI + 16777216 := hz _ (by omega) (by omega)
  have z2 : wrap64 (CI + 16777216) = CI + 16777216 := hz2 _ (by omega) (by omega)
  have v1 : IntKind.i64.wrap (CI - 16777216) = CI - 16777216 := hz _ (by omega) (by omega)
  have v2 : wrap64 (CI - 16777216) = CI - 16777216 := hz2 _ (by omega) (by omega)
  clear hRI hQI hXI hW hx hn hR0 hl1 hl2
  by_cases hB : CI ≤ WI - 8388608
  · have fB : decide (CI ≤ WI - 8388608) = true := decide_eq_true hB
    by_cases hG : CI ≤ 4611686018410610687
    · have fG : decide (CI ≤ 4611686018410610687) = true := decide_eq_true hG
      rw [if_pos ⟨by omega, by omega, by omega⟩]
      have HE : Bx (∀ e : Int, e = CI + 16777216 → Ending.returned (Value.int .u64 e) = .returned (.int .u64 ((C + 16777216 : Nat) : Int))) := ⟨fun e he => by rw [he]; congr 2; omega⟩
      have hfin : IntKind.u64.wrap (CI + 16777216) = CI + 16777216 := hu _ (by omega) (by omega)
      clear hz hz2 hu hCb hWb hWI hCI
      go_enter Try.func22, Try.ntmps22
      go_wp2_with (first
        | (go_at_call 52; refine (HB.out _).mono ?_; rintro e w1 ⟨rfl, hw⟩; subst hw)
        | (go_at_call 20; refine (HC.out _).mono ?_; rintro e w1 ⟨rfl, hw⟩; subst hw))
      go_ret
      exact ⟨HE.out _ rfl, rfl⟩
    · have fG : decide (CI ≤ 4611686018410610687) = false := decide_eq_false hG
      by_cases hD : WI + 8388608 < CI
      · have fD : decide (WI + 8388608 < CI) = true := decide_eq_true hD
        by_cases hE : 16777216 ≤ CI
        · have fE : decide (16777216 ≤ CI) = true := decide_eq_true hE
          rw [if_neg (by omega), if_pos ⟨by omega, by omega⟩]
          have HE : Bx (∀ e : Int, e = CI - 16777216 → Ending.returned (Value.int .u64 e) = .returned (.int .u64 ((C - 16777216 : Nat) : Int))) := ⟨fun e he => by rw [he]; congr 2; omega⟩
          have hfin : IntKind.u64.wrap (CI - 16777216) = CI - 16777216 := hu _ (by omega) (by omega)
          clear hz hz2 hu hCb hWb hWI hCI
          go_enter Try.func22, Try.ntmps22
          go_wp2_with (first
            | (go_at_call 52; refine (HB.out _).mono ?_; rintro e w1 ⟨rfl, hw⟩; subst hw)
            | (go_at_call 20; refine (HC.out _).mono ?_; rintro e w1 ⟨rfl, hw⟩; subst hw))
          go_ret
          exact ⟨HE.out _ rfl, rfl⟩
        · have fE : decide (16777216 ≤ CI) = false := decide_eq_false hE
          rw [if_neg (by omega), if_neg (by omega)]
          have HE : Bx (∀ e : Int, e = CI → Ending.returned (Value.int .u64 e) = .returned (.int .u64 ((C : Nat) : Int))) := ⟨fun e he => by rw [he]; congr 2; omega⟩
          have hfin : IntKind.u64.wrap (CI) = CI := hu _ (by omega) (by omega)
          clear hz hz2 hu hCb hWb hWI hCI
          go_enter Try.func22, Try.ntmps22
          go_wp2_with (first
            | (go_at_call 52; refine (HB.out _).mono ?_; rintro e w1 ⟨rfl, hw⟩; subst hw)
            | (go_at_call 20; refine (HC.out _).mono ?_; rintro e w1 ⟨rfl, hw⟩; subst hw))
          go_ret
          exact ⟨HE.out _ rfl, rfl⟩
      · have fD : decide (WI + 8388608 < CI) = false := decide_eq_false hD
        rw [if_neg (by omega), if_neg (by omega)]
        have HE : Bx (∀ e : Int, e = CI → Ending.returned (Value.int .u64 e) = .returned (.int .u64 ((C : Nat) : Int))) := ⟨fun e he => by rw [he]; congr 2; omega⟩
        have hfin : IntKind.u64.wrap (CI) = CI := hu _ (by omega) (by omega)
        clear hz hz2 hu hCb hWb hWI hCI
        go_enter Try.func22, Try.ntmps22
        go_wp2_with (first
          | (go_at_call 52; refine (HB.out _).mono ?_; rintro e w1 ⟨rfl, hw⟩; subst hw)
          | (go_at_call 20; refine (HC.out _).mono ?_; rintro e w1 ⟨rfl, hw⟩; subst hw))
        go_ret
        exact ⟨HE.out _ rfl, rfl⟩
  · have fB : decide (CI ≤ WI - 8388608) = false := decide_eq_false hB
    by_cases hD : WI + 8388608 < CI
    · have fD : decide (WI + 8388608 < CI) = true := decide_eq_true hD
      by_cases hE : 16777216 ≤ CI
      · have fE : decide (16777216 ≤ CI) = true := decide_eq_true hE
        rw [if_neg (by omega), if_pos ⟨by omega, by omega⟩]
        have HE : Bx (∀ e : Int, e = CI - 16777216 → Ending.returned (Value.int .u64 e) = .returned (.int .u64 ((C - 16777216 : Nat) : Int))) := ⟨fun e he => by rw [he]; congr 2; omega⟩
        have hfin : IntKind.u64.wrap (CI - 16777216) = CI - 16777216 := hu _ (by omega) (by omega)
        clear hz hz2 hu hCb hWb hWI hCI
        go_enter Try.func22, Try.ntmps22
        go_wp2_with (first
          | (go_at_call 52; refine (HB.out _).mono ?_; rintro e w1 ⟨rfl, hw⟩; subst hw)
          | (go_at_call 20; refine (HC.out _).mono ?_; rintro e w1 ⟨rfl, hw⟩; subst hw))
        go_ret
        exact ⟨HE.out _ rfl, rfl⟩
      · have fE : decide (16777216 ≤ CI) = false := decide_eq_false hE
        rw [if_neg (by omega), if_neg (by omega)]
        have HE : Bx (∀ e : Int, e = CI → Ending.returned (Value.int .u64 e) = .returned (.int .u64 ((C : Nat) : Int))) := ⟨fun e he => by rw [he]; congr 2; omega⟩
        have hfin : IntKind.u64.wrap (CI) = CI := hu _ (by omega) (by omega)
        clear hz hz2 hu hCb hWb hWI hCI
        go_enter Try.func22, Try.ntmps22
        go_wp2_with (first
          | (go_at_call 52; refine (HB.out _).mono ?_; rintro e w1 ⟨rfl, hw⟩; subst hw)
          | (go_at_call 20; refine (HC.out _).mono ?_; rintro e w1 ⟨rfl, hw⟩; subst hw))
        go_ret
        exact ⟨HE.out _ rfl, rfl⟩
    · have fD : decide (WI + 8388608 < CI) = false := decide_eq_false hD
      rw [if_neg (by omega), if_neg (by omega)]
      have HE : Bx (∀ e : Int, e = CI → Ending.returned (Value.int .u64 e) = .returned (.int .u64 ((C : Nat) : Int))) := ⟨fun e he => by rw [he]; congr 2; omega⟩
      have hfin : IntKind.u64.wrap (CI) = CI := hu _ (by omega) (by omega)
      clear hz hz2 hu hCb hWb hWI hCI
      go_enter Try.func22, Try.ntmps22
      go_wp2_with (first
        | (go_at_call 52; refine (HB.out _).mono ?_; rintro e w1 ⟨rfl, hw⟩; subst hw)
        | (go_at_call 20; refine (HC.out _).mono ?_; rintro e w1 ⟨rfl, hw⟩; subst hw))
      go_ret
      exact ⟨HE.out _ rfl, rfl⟩
set_option maxHeartbeats 4000000 in
theorem pnFull_4 (x : Nat) (n largest : Int) (hx : x < 18446744073709551616) (hn : bytesN n = 4) (hl1 : -9223372036854775808 ≤ largest) (hl2 : largest ≤ 9223372036854775807) (w : World) :
    Calls Try.prog 22 #[.int .u64 (x : Int), .int .i64 n, .int .i64 largest] w fun e w' => e = .returned (.int .u64 (fullN x 4294967296 (wantN largest) : Int)) ∧ w' = w := by
  have HB := Bx.mk (pnBits_4 n hn)
  have HC := Bx.mk (pnCut_4 x n hx hn)
  obtain ⟨W, hW⟩ : ∃ W : Nat, wantN largest = W := ⟨_, rfl⟩
  have hWb : W ≤ 4611686018427387904 := by
    rw [← hW]; unfold wantN
    split <;> omega
  have hq : bits .andNot .i64 (W : Int) 4294967295 = ((W - W % 4294967296 : Nat) : Int) := by
    rw [show (4294967295 : Int) = ((4294967295 : Nat) : Int) from rfl, i64_andNot_n _ _ (by omega) (by omega), show (4294967295 : Nat) = 2 ^ 32 - 1 from rfl, and_high _ _ (by omega) (by omega)]
    rw [show (2 : Nat) ^ 32 = 4294967296 from rfl]
    congr 1
    omega
  have hor : bits .or .i64 ((W - W % 4294967296 : Nat) : Int) ((x % 4294967296 : Nat) : Int) = ((W - W % 4294967296 + x % 4294967296 : Nat) : Int) := by
    have e : W - W % 4294967296 = W / 4294967296 * 2 ^ 32 := by rw [show (2 : Nat) ^ 32 = 4294967296 from rfl]; omega
    rw [i64_or_n _ _ (by omega) (by omega), e, or_add _ _ 32 (by rw [show (2 : Nat) ^ 32 = 4294967296 from rfl]; omega)]
  rw [hW]
  have hfull : fullN x 4294967296 W = (if 2147483648 ≤ W ∧ W - W % 4294967296 + x % 4294967296 ≤ W - 2147483648 ∧ W - W % 4294967296 + x % 4294967296 < 4611686014132420608 then W - W % 4294967296 + x % 4294967296 + 4294967296 else if W + 2147483648 < W - W % 4294967296 + x % 4294967296 ∧ 4294967296 ≤ W - W % 4294967296 + x % 4294967296 then W - W % 4294967296 + x % 4294967296 - 4294967296 else W - W % 4294967296 + x % 4294967296) := rfl
  rw [hfull]
  clear hfull
  have hR0 : x % 4294967296 < 4294967296 := Nat.mod_lt _ (by omega)
  obtain ⟨C, hC⟩ : ∃ C : Nat, W - W % 4294967296 + x % 4294967296 = C := ⟨_, rfl⟩
  have hCb : C ≤ W + 4294967296 := by omega
  rw [hC] at hor ⊢
  clear hC
  obtain ⟨WI, hWI⟩ : ∃ y : Int, (W : Int) = y := ⟨_, rfl⟩
  obtain ⟨CI, hCI⟩ : ∃ y : Int, (C : Int) = y := ⟨_, rfl⟩
  obtain ⟨RI, hRI⟩ : ∃ y : Int, ((x % 4294967296 : Nat) : Int) = y := ⟨_, rfl⟩
  obtain ⟨QI, hQI⟩ : ∃ y : Int, ((W - W % 4294967296 : Nat) : Int) = y := ⟨_, rfl⟩
  obtain ⟨XI, hXI⟩ : ∃ y : Int, (x : Int) = y := ⟨_, rfl⟩
  rw [hXI, hRI] at HC
  rw [hWI, hQI] at hq
  rw [hQI, hRI, hCI] at hor
  rw [hXI]
  have g4 : min (max largest (-1)) 4611686018427387903 + 1 = WI := by
    rw [← hWI, ← hW]
    unfold wantN
    by_cases h : largest < 0
    · rw [if_pos h]; omega
    · rw [if_neg h]; omega
  have hz : ∀ y : Int, -9223372036854775808 ≤ y → y < 9223372036854775808 → IntKind.i64.wrap y = y := fun y h1 h2 => by rw [IntKind.wrap_i64]; omega
  have hz2 : ∀ y : Int, -9223372036854775808 ≤ y → y < 9223372036854775808 → wrap64 y = y := fun y h1 h2 => by unfold wrap64; omega
  have hu : ∀ y : Int, 0 ≤ y → y < 18446744073709551616 → IntKind.u64.wrap y = y := fun y h1 h2 => by rw [IntKind.wrap_u64]; omega
  have r1 : IntKind.i64.wrap RI = RI := hz _ (by omega) (by omega)
  have w1 : IntKind.i64.wrap WI = WI := hz _ (by omega) (by omega)
  have w2 : wrap64 WI = WI := hz2 _ (by omega) (by omega)
  have x1 : IntKind.i64.wrap (WI - 2147483648) = WI - 2147483648 := hz _ (by omega) (by omega)
  have x2 : wrap64 (WI - 2147483648) = WI - 2147483648 := hz2 _ (by omega) (by omega)
  have y1 : IntKind.i64.wrap (WI + 2147483648) = WI + 2147483648 := hz _ (by omega) (by omega)
  have y2 : wrap64 (WI + 2147483648) = WI + 2147483648 := hz2 _ (by omega) (by omega)
  have z1 : IntKind.i64.wrap (CI + 4294967296) = CI + 4294967296 := hz _ (by omega) (by omega)
  have z2 : wrap64 (CI + 4294967296) = CI + 4294967296 := hz2 _ (by omega) (by omega)
  have v1 : IntKind.i64.wrap (CI - 4294967296) = CI - 4294967296 := hz _ (by omega) (by omega)
  have v2 : wrap64 (CI - 4294967296) = CI - 4294967296 := hz2 _ (by omega) (by omega)
  clear hRI hQI hXI hW hx hn hR0 hl1 hl2
  by_cases hB : CI ≤ WI - 2147483648
  · have fB : decide (CI ≤ WI - 2147483648) = true := decide_eq_true hB
    by_cases hG : CI ≤ 4611686014132420607
    · have fG : decide (CI ≤ 4611686014132420607) = true := decide_eq_true hG
      rw [if_pos ⟨by omega, by omega, by omega⟩]
      have HE : Bx (∀ e : Int, e = CI + 4294967296 → Ending.returned (Value.int .u64 e) = .returned (.int .u64 ((C + 4294967296 : Nat) : Int))) := ⟨fun e he => by rw [he]; congr 2; omega⟩
      have hfin : IntKind.u64.wrap (CI + 4294967296) = CI + 4294967296 := hu _ (by omega) (by omega)
      clear hz hz2 hu hCb hWb hWI hCI
      go_enter Try.func22, Try.ntmps22
      go_wp2_with (first
        | (go_at_call 52; refine (HB.out _).mono ?_; rintro e w1 ⟨rfl, hw⟩; subst hw)
        | (go_at_call 20; refine (HC.out _).mono ?_; rintro e w1 ⟨rfl, hw⟩; subst hw))
      go_ret
      exact ⟨HE.out _ rfl, rfl⟩
    · have fG : decide (CI ≤ 4611686014132420607) = false := decide_eq_false hG
      by_cases hD : WI + 2147483648 < CI
      · have fD : decide (WI + 2147483648 < CI) = true := decide_eq_true hD
        by_cases hE : 4294967296 ≤ CI
        · have fE : decide (4294967296 ≤ CI) = true := decide_eq_true hE
          rw [if_neg (by omega), if_pos ⟨by omega, by omega⟩]
          have HE : Bx (∀ e : Int, e = CI - 4294967296 → Ending.returned (Value.int .u64 e) = .returned (.int .u64 ((C - 4294967296 : Nat) : Int))) := ⟨fun e he => by rw [he]; congr 2; omega⟩
          have hfin : IntKind.u64.wrap (CI - 4294967296) = CI - 4294967296 := hu _ (by omega) (by omega)
          clear hz hz2 hu hCb hWb hWI hCI
          go_enter Try.func22, Try.ntmps22
          go_wp2_with (first
            | (go_at_call 52; refine (HB.out _).mono ?_; rintro e w1 ⟨rfl, hw⟩; subst hw)
            | (go_at_call 20; refine (HC.out _).mono ?_; rintro e w1 ⟨rfl, hw⟩; subst hw))
          go_ret
          exact ⟨HE.out _ rfl, rfl⟩
        · have fE : decide (4294967296 ≤ CI) = false := decide_eq_false hE
          rw [if_neg (by omega), if_neg (by omega)]
          have HE : Bx (∀ e : Int, e = CI → Ending.returned (Value.int .u64 e) = .returned (.int .u64 ((C : Nat) : Int))) := ⟨fun e he => by rw [he]; congr 2; omega⟩
          have hfin : IntKind.u64.wrap (CI) = CI := hu _ (by omega) (by omega)
          clear hz hz2 hu hCb hWb hWI hCI
          go_enter Try.func22, Try.ntmps22
          go_wp2_with (first
            | (go_at_call 52; refine (HB.out _).mono ?_; rintro e w1 ⟨rfl, hw⟩; subst hw)
            | (go_at_call 20; refine (HC.out _).mono ?_; rintro e w1 ⟨rfl, hw⟩; subst hw))
          go_ret
          exact ⟨HE.out _ rfl, rfl⟩
      · have fD : decide (WI + 2147483648 < CI) = false := decide_eq_false hD
        rw [if_neg (by omega), if_neg (by omega)]
        have HE : Bx (∀ e : Int, e = CI → Ending.returned (Value.int .u64 e) = .returned (.int .u64 ((C : Nat) : Int))) := ⟨fun e he => by rw [he]; congr 2; omega⟩
        have hfin : IntKind.u64.wrap (CI) = CI := hu _ (by omega) (by omega)
        clear hz hz2 hu hCb hWb hWI hCI
        go_enter Try.func22, Try.ntmps22
        go_wp2_with (first
          | (go_at_call 52; refine (HB.out _).mono ?_; rintro e w1 ⟨rfl, hw⟩; subst hw)
          | (go_at_call 20; refine (HC.out _).mono ?_; rintro e w1 ⟨rfl, hw⟩; subst hw))
        go_ret
        exact ⟨HE.out _ rfl, rfl⟩
  · have fB : decide (CI ≤ WI - 2147483648) = false := decide_eq_false hB
    by_cases hD : WI + 2147483648 < CI
    · have fD : decide (WI + 2147483648 < CI) = true := decide_eq_true hD
      by_cases hE : 4294967296 ≤ CI
      · have fE : decide (4294967296 ≤ CI) = true := decide_eq_true hE
        rw [if_neg (by omega), if_pos ⟨by omega, by omega⟩]
        have HE : Bx (∀ e : Int, e = CI - 4294967296 → Ending.returned (Value.int .u64 e) = .returned (.int .u64 ((C - 4294967296 : Nat) : Int))) := ⟨fun e he => by rw [he]; congr 2; omega⟩
        have hfin : IntKind.u64.wrap (CI - 4294967296) = CI - 4294967296 := hu _ (by omega) (by omega)
        clear hz hz2 hu hCb hWb hWI hCI
        go_enter Try.func22, Try.ntmps22
        go_wp2_with (first
          | (go_at_call 52; refine (HB.out _).mono ?_; rintro e w1 ⟨rfl, hw⟩; subst hw)
          | (go_at_call 20; refine (HC.out _).mono ?_; rintro e w1 ⟨rfl, hw⟩; subst hw))
        go_ret
        exact ⟨HE.out _ rfl, rfl⟩
      · have fE : decide (4294967296 ≤ CI) = false := decide_eq_false hE
        rw [if_neg (by omega), if_neg (by omega)]
        have HE : Bx (∀ e : Int, e = CI → Ending.returned (Value.int .u64 e) = .returned (.int .u64 ((C : Nat) : Int))) := ⟨fun e he => by rw [he]; congr 2; omega⟩
        have hfin : IntKind.u64.wrap (CI) = CI := hu _ (by omega) (by omega)
        clear hz hz2 hu hCb hWb hWI hCI
        go_enter Try.func22, Try.ntmps22
        go_wp2_with (first
          | (go_at_call 52; refine (HB.out _).mono ?_; rintro e w1 ⟨rfl, hw⟩; subst hw)
          | (go_at_call 20; refine (HC.out _).mono ?_; rintro e w1 ⟨rfl, hw⟩; subst hw))
        go_ret
        exact ⟨HE.out _ rfl, rfl⟩
    · have fD : decide (WI + 2147483648 < CI) = false := decide_eq_false hD
      rw [if_neg (by omega), if_neg (by omega)]
      have HE : Bx (∀ e : Int, e = CI → Ending.returned (Value.int .u64 e) = .returned (.int .u64 ((C : Nat) : Int))) := ⟨fun e he => by rw [he]; congr 2; omega⟩
      have hfin : IntKind.u64.wrap (CI) = CI := hu _ (by omega) (by omega)
      clear hz hz2 hu hCb hWb hWI hCI
      go_enter Try.func22, Try.ntmps22
      go_wp2_with (first
        | (go_at_call 52; refine (HB.out _).mono ?_; rintro e w1 ⟨rfl, hw⟩; subst hw)
        | (go_at_call 20; refine (HC.out _).mono ?_; rintro e w1 ⟨rfl, hw⟩; subst hw))
      go_ret
      exact ⟨HE.out _ rfl, rfl⟩
theorem pnFull_any (x : Nat) (n largest : Int) (hx : x < 18446744073709551616) (hl1 : -9223372036854775808 ≤ largest) (hl2 : largest ≤ 9223372036854775807) (w : World) : Calls Try.prog 22 #[.int .u64 (x : Int), .int .i64 n, .int .i64 largest] w fun e w' => e = .returned (.int .u64 (fullN x (winN (bytesN n)) (wantN largest) : Int)) ∧ Below w.heap.size w w' := by
  rcases bytesN_cases n with h | h | h | h
  · rw [h]
    refine (pnFull_1 x n largest hx h hl1 hl2 w).mono ?_
    rintro e w1 ⟨rfl, rfl⟩
    exact ⟨rfl, Below.refl _ _⟩
  · rw [h]
    refine (pnFull_2 x n largest hx h hl1 hl2 w).mono ?_
    rintro e w1 ⟨rfl, rfl⟩
    exact ⟨rfl, Below.refl _ _⟩
  · rw [h]
    refine (pnFull_3 x n largest hx h hl1 hl2 w).mono ?_
    rintro e w1 ⟨rfl, rfl⟩
    exact ⟨rfl, Below.refl _ _⟩
  · rw [h]
    refine (pnFull_4 x n largest hx h hl1 hl2 w).mono ?_
    rintro e w1 ⟨rfl, rfl⟩
    exact ⟨rfl, Below.refl _ _⟩
set_option maxHeartbeats 4000000 in
theorem pnLen_any (x : Nat) (acked : Int) (hx : x < 18446744073709551616) (hl1 : -9223372036854775808 ≤ acked) (hl2 : acked ≤ 9223372036854775807) (w : World) : Calls Try.prog 18 #[.int .u64 (x : Int), .int .i64 acked] w fun e w' => e = .returned (.int .i64 (lenN x acked : Int)) ∧ Below w.heap.size w w' := by
  obtain ⟨D, hD⟩ : ∃ D, pnD x acked = D := ⟨_, rfl⟩
  have hlen : lenN x acked = if D < 128 then 1 else if D < 32768 then 2 else if D < 8388608 then 3 else 4 := by unfold lenN; rw [hD]
  rw [hlen]
  clear hlen
  unfold pnD at hD
  obtain ⟨XI, hXI⟩ : ∃ y : Int, (x : Int) = y := ⟨_, rfl⟩
  rw [hXI]
  have hz : ∀ y : Int, 0 ≤ y → y < 18446744073709551616 → IntKind.u64.wrap y = y := fun y h1 h2 => by rw [IntKind.wrap_u64]; omega
  have hX1 : IntKind.u64.wrap XI = XI := hz _ (by omega) (by omega)
  by_cases hn : acked < 0
  · rw [if_pos hn] at hD
    have m1 : decide (0 ≤ acked) = false := decide_eq_false (by omega)
    have m2 : min XI 0 = 0 := by omega
    by_cases h7 : XI < 127
    · rw [if_pos (by omega)]
      have f7 : decide (XI < 127) = true := decide_eq_true h7
      clear hXI hz hl1 hl2 hx hD hn
      go_enter Try.func18, Try.ntmps18
      go_wp2
      all_goals go_rounds 4
      all_goals go_ret
      all_goals exact ⟨rfl, Below.refl _ _⟩
    by_cases h15 : XI < 32767
    · rw [if_neg (by omega), if_pos (by omega)]
      have f7 : decide (XI < 127) = false := decide_eq_false h7
      have f15 : decide (XI < 32767) = true := decide_eq_true h15
      clear hXI hz hl1 hl2 hx hD hn
      go_enter Try.func18, Try.ntmps18
      go_wp2
      all_goals go_rounds 4
      all_goals go_ret
      all_goals exact ⟨rfl, Below.refl _ _⟩
    by_cases h23 : XI < 8388607
    · rw [if_neg (by omega), if_neg (by omega), if_pos (by omega)]
      have f7 : decide (XI < 127) = false := decide_eq_false h7
      have f15 : decide (XI < 32767) = false := decide_eq_false h15
      have f23 : decide (XI < 8388607) = true := decide_eq_true h23
      clear hXI hz hl1 hl2 hx hD hn
      go_enter Try.func18, Try.ntmps18
      go_wp2
      all_goals go_rounds 4
      all_goals go_ret
      all_goals exact ⟨rfl, Below.refl _ _⟩
    · rw [if_neg (by omega), if_neg (by omega), if_neg (by omega)]
      have f7 : decide (XI < 127) = false := decide_eq_false h7
      have f15 : decide (XI < 32767) = false := decide_eq_false h15
      have f23 : decide (XI < 8388607) = false := decide_eq_false h23
      clear hXI hz hl1 hl2 hx hD hn
      go_enter Try.func18, Try.ntmps18
      go_wp2
      all_goals go_rounds 4
      all_goals go_ret
      all_goals exact ⟨rfl, Below.refl _ _⟩
  rw [if_neg hn] at hD
  have m1 : decide (0 ≤ acked) = true := decide_eq_true (by omega)
  have m2 : IntKind.u64.wrap acked = acked := hz _ (by omega) (by omega)
  obtain ⟨NI, hNI⟩ : ∃ y : Int, acked + 1 = y := ⟨_, rfl⟩
  have m3 : IntKind.u64.wrap NI = NI := hz _ (by omega) (by omega)
  obtain ⟨MI, hMI⟩ : ∃ y : Int, min XI NI = y := ⟨_, rfl⟩
  obtain ⟨AI, hAI⟩ : ∃ y : Int, XI - MI = y := ⟨_, rfl⟩
  have hA0 : (D : Int) = AI + 1 := by
    by_cases hp : acked.toNat < x
    · rw [if_pos hp] at hD; omega
    · rw [if_neg hp] at hD; omega
  have m4 : IntKind.u64.wrap AI = AI := hz _ (by omega) (by omega)
  by_cases h7 : AI < 127
  · rw [if_pos (by omega)]
    have f7 : decide (AI < 127) = true := decide_eq_true h7
    clear hXI hz hl1 hl2 hx hD hn hA0
    go_enter Try.func18, Try.ntmps18
    go_wp2
    all_goals go_rounds 4
    all_goals go_ret
    all_goals exact ⟨rfl, Below.refl _ _⟩
  by_cases h15 : AI < 32767
  · rw [if_neg (by omega), if_pos (by omega)]
    have f7 : decide (AI < 127) = false := decide_eq_false h7
    have f15 : decide (AI < 32767) = true := decide_eq_true h15
    clear hXI hz hl1 hl2 hx hD hn hA0
    go_enter Try.func18, Try.ntmps18
    go_wp2
    all_goals go_rounds 4
    all_goals go_ret
    all_goals exact ⟨rfl, Below.refl _ _⟩
  by_cases h23 : AI < 8388607
  · rw [if_neg (by omega), if_neg (by omega), if_pos (by omega)]
    have f7 : decide (AI < 127) = false := decide_eq_false h7
    have f15 : decide (AI < 32767) = false := decide_eq_false h15
    have f23 : decide (AI < 8388607) = true := decide_eq_true h23
    clear hXI hz hl1 hl2 hx hD hn hA0
    go_enter Try.func18, Try.ntmps18
    go_wp2
    all_goals go_rounds 4
    all_goals go_ret
    all_goals exact ⟨rfl, Below.refl _ _⟩
  · rw [if_neg (by omega), if_neg (by omega), if_neg (by omega)]
    have f7 : decide (AI < 127) = false := decide_eq_false h7
    have f15 : decide (AI < 32767) = false := decide_eq_false h15
    have f23 : decide (AI < 8388607) = false := decide_eq_false h23
    clear hXI hz hl1 hl2 hx hD hn hA0
    go_enter Try.func18, Try.ntmps18
    go_wp2
    all_goals go_rounds 4
    all_goals go_ret
    all_goals exact ⟨rfl, Below.refl _ _⟩
end Go.Proofs.Ytcakppdabolfiaa
