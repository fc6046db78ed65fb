/-
  bifoldlaw17.PnumLens answers true, whatever its arguments: the walk, a length and a step at a time (written by mkpnn.py).
-/
import Derived.Test.YtcakppdabolfiaaLawPnumNear
namespace Go.Proofs.Ytcakppdabolfiaa
open Go.RowKit
set_option linter.unusedVariables false
set_option linter.unusedSimpArgs false

set_option maxHeartbeats 4000000 in
theorem pnumLens_0_0 (a : Nat) (K Ls : Int) (ha : a < 4294967296) (hK : K.tmod 3 = 0) (hL : Ls.tmod 2 = -1) (w : World) :
    Calls Try.prog 6 #[.int .u8 K, .int .u32 (a : Int), .int .i8 Ls] w fun e w' => e = .returned (.bool true) ∧ Below w.heap.size w w' := by
  have HK := Bx.mk (known17_any w)
  have e1 : lenN (a + 127) (a : Int) = 1 := by
    have h : pnD (a + 127) (a : Int) = 127 := by unfold pnD; rw [if_neg (by omega), if_pos (by omega)]; omega
    unfold lenN; rw [h]; rfl
  have e2 : lenN 126 (-1) = 1 := by decide
  have e3 : lenN a (a : Int) = 1 := by
    have h : pnD a (a : Int) = 1 := by unfold pnD; rw [if_neg (by omega), if_neg (by omega)]
    unfold lenN; rw [h]; rfl
  have P1 := Bx.mk (fun W => pnLen_any (a + 127) (a : Int) (by omega) (by omega) (by omega) W)
  have P2 := Bx.mk (fun W => pnLen_any 126 (-1) (by omega) (by omega) (by omega) W)
  have P3 := Bx.mk (fun W => pnLen_any a (a : Int) (by omega) (by omega) (by omega) W)
  rw [e1] at P1
  rw [e2] at P2
  rw [e3] at P3
  obtain ⟨AI, hAI⟩ : ∃ V : Int, (a : Int) = V := ⟨_, rfl⟩
  obtain ⟨SI, hSI⟩ : ∃ V : Int, AI + 127 = V := ⟨_, rfl⟩
  have hs : ((a + 127 : Nat) : Int) = SI := by omega
  rw [hs, hAI] at P1
  rw [hAI] at P3 ⊢
  have G1 : Bx (∀ W, Calls Try.prog 18 #[.int .u64 SI, .int .i64 AI] W fun e w' => e = .returned (.int .i64 1) ∧ Below W.heap.size W w') := ⟨P1.out⟩
  have G2 : Bx (∀ W, Calls Try.prog 18 #[.int .u64 126, .int .i64 (-1)] W fun e w' => e = .returned (.int .i64 1) ∧ Below W.heap.size W w') := ⟨P2.out⟩
  have G3 : Bx (∀ W, Calls Try.prog 18 #[.int .u64 AI, .int .i64 AI] W fun e w' => e = .returned (.int .i64 1) ∧ Below W.heap.size W w') := ⟨P3.out⟩
  have w1 : IntKind.u64.wrap AI = AI := by rw [IntKind.wrap_u64]; omega
  have w2 : IntKind.u64.wrap SI = SI := by rw [IntKind.wrap_u64]; clear w1; omega
  have w3 : IntKind.i64.wrap AI = AI := by rw [IntKind.wrap_i64]; clear w1 w2; omega
  have w4 : IntKind.u64.wrap (-1) = 18446744073709551615 := by decide
  have w5 : IntKind.u64.wrap (128 + 18446744073709551615) = 127 := by decide
  have w6 : IntKind.u64.wrap 18446744073709551743 = 127 := by decide
  clear P1 P2 P3 e1 e2 e3 hs hAI ha
  go_enter Try.func6, Try.ntmps6
  go_wp2_with (first
    | (go_at_call 17; refine HK.out.mono ?_; rintro e w1 ⟨rfl, b1⟩; have HB1 := Bx.mk b1; clear b1)
    | (go_at_call 18; have hz := HB4; clear hz; refine (G3.out _).mono ?_; rintro e w5 ⟨rfl, b5⟩; have HB5 := Bx.mk (HB4.out.trans (b5.mono HB4.out.size)); clear b5)
    | (go_at_call 18; have hz := HB3; clear hz; refine (G2.out _).mono ?_; rintro e w4 ⟨rfl, b4⟩; have HB4 := Bx.mk (HB3.out.trans (b4.mono HB3.out.size)); clear b4)
    | (go_at_call 18; refine (G1.out _).mono ?_; rintro e w3 ⟨rfl, b3⟩; have HB3 : Bx (Below w.heap.size w w3) := ⟨HB1.out.trans (Below.mono (Below.trans ((Below.refl _ _).alloc (Nat.le_refl _) _) (b3.mono (by simp))) HB1.out.size)⟩; clear b3))
  go_ret
  exact ⟨rfl, HB5.out⟩
set_option maxHeartbeats 4000000 in
theorem pnumLens_0_1 (a : Nat) (K Ls : Int) (ha : a < 4294967296) (hK : K.tmod 3 = 0) (hL : Ls.tmod 2 = 0) (w : World) :
    Calls Try.prog 6 #[.int .u8 K, .int .u32 (a : Int), .int .i8 Ls] w fun e w' => e = .returned (.bool true) ∧ Below w.heap.size w w' := by
  have HK := Bx.mk (known17_any w)
  have e1 : lenN (a + 128) (a : Int) = 2 := by
    have h : pnD (a + 128) (a : Int) = 128 := by unfold pnD; rw [if_neg (by omega), if_pos (by omega)]; omega
    unfold lenN; rw [h]; rfl
  have e2 : lenN 127 (-1) = 2 := by decide
  have e3 : lenN a (a : Int) = 1 := by
    have h : pnD a (a : Int) = 1 := by unfold pnD; rw [if_neg (by omega), if_neg (by omega)]
    unfold lenN; rw [h]; rfl
  have P1 := Bx.mk (fun W => pnLen_any (a + 128) (a : Int) (by omega) (by omega) (by omega) W)
  have P2 := Bx.mk (fun W => pnLen_any 127 (-1) (by omega) (by omega) (by omega) W)
  have P3 := Bx.mk (fun W => pnLen_any a (a : Int) (by omega) (by omega) (by omega) W)
  rw [e1] at P1
  rw [e2] at P2
  rw [e3] at P3
  obtain ⟨AI, hAI⟩ : ∃ V : Int, (a : Int) = V := ⟨_, rfl⟩
  obtain ⟨SI, hSI⟩ : ∃ V : Int, AI + 128 = V := ⟨_, rfl⟩
  have hs : ((a + 128 : Nat) : Int) = SI := by omega
  rw [hs, hAI] at P1
  rw [hAI] at P3 ⊢
  have G1 : Bx (∀ W, Calls Try.prog 18 #[.int .u64 SI, .int .i64 AI] W fun e w' => e = .returned (.int .i64 2) ∧ Below W.heap.size W w') := ⟨P1.out⟩
  have G2 : Bx (∀ W, Calls Try.prog 18 #[.int .u64 127, .int .i64 (-1)] W fun e w' => e = .returned (.int .i64 2) ∧ Below W.heap.size W w') := ⟨P2.out⟩
  have G3 : Bx (∀ W, Calls Try.prog 18 #[.int .u64 AI, .int .i64 AI] W fun e w' => e = .returned (.int .i64 1) ∧ Below W.heap.size W w') := ⟨P3.out⟩
  have w1 : IntKind.u64.wrap AI = AI := by rw [IntKind.wrap_u64]; omega
  have w2 : IntKind.u64.wrap SI = SI := by rw [IntKind.wrap_u64]; clear w1; omega
  have w3 : IntKind.i64.wrap AI = AI := by rw [IntKind.wrap_i64]; clear w1 w2; omega
  have w4 : IntKind.u64.wrap (-1) = 18446744073709551615 := by decide
  have w5 : IntKind.u64.wrap (128 + 18446744073709551615) = 127 := by decide
  have w6 : IntKind.u64.wrap 18446744073709551743 = 127 := by decide
  clear P1 P2 P3 e1 e2 e3 hs hAI ha
  go_enter Try.func6, Try.ntmps6
  go_wp2_with (first
    | (go_at_call 17; refine HK.out.mono ?_; rintro e w1 ⟨rfl, b1⟩; have HB1 := Bx.mk b1; clear b1)
    | (go_at_call 18; have hz := HB4; clear hz; refine (G3.out _).mono ?_; rintro e w5 ⟨rfl, b5⟩; have HB5 := Bx.mk (HB4.out.trans (b5.mono HB4.out.size)); clear b5)
    | (go_at_call 18; have hz := HB3; clear hz; refine (G2.out _).mono ?_; rintro e w4 ⟨rfl, b4⟩; have HB4 := Bx.mk (HB3.out.trans (b4.mono HB3.out.size)); clear b4)
    | (go_at_call 18; refine (G1.out _).mono ?_; rintro e w3 ⟨rfl, b3⟩; have HB3 : Bx (Below w.heap.size w w3) := ⟨HB1.out.trans (Below.mono (Below.trans ((Below.refl _ _).alloc (Nat.le_refl _) _) (b3.mono (by simp))) HB1.out.size)⟩; clear b3))
  go_ret
  exact ⟨rfl, HB5.out⟩
set_option maxHeartbeats 4000000 in
theorem pnumLens_0_2 (a : Nat) (K Ls : Int) (ha : a < 4294967296) (hK : K.tmod 3 = 0) (hL : Ls.tmod 2 = 1) (w : World) :
    Calls Try.prog 6 #[.int .u8 K, .int .u32 (a : Int), .int .i8 Ls] w fun e w' => e = .returned (.bool true) ∧ Below w.heap.size w w' := by
  have HK := Bx.mk (known17_any w)
  have e1 : lenN (a + 129) (a : Int) = 2 := by
    have h : pnD (a + 129) (a : Int) = 129 := by unfold pnD; rw [if_neg (by omega), if_pos (by omega)]; omega
    unfold lenN; rw [h]; rfl
  have e2 : lenN 128 (-1) = 2 := by decide
  have e3 : lenN a (a : Int) = 1 := by
    have h : pnD a (a : Int) = 1 := by unfold pnD; rw [if_neg (by omega), if_neg (by omega)]
    unfold lenN; rw [h]; rfl
  have P1 := Bx.mk (fun W => pnLen_any (a + 129) (a : Int) (by omega) (by omega) (by omega) W)
  have P2 := Bx.mk (fun W => pnLen_any 128 (-1) (by omega) (by omega) (by omega) W)
  have P3 := Bx.mk (fun W => pnLen_any a (a : Int) (by omega) (by omega) (by omega) W)
  rw [e1] at P1
  rw [e2] at P2
  rw [e3] at P3
  obtain ⟨AI, hAI⟩ : ∃ V : Int, (a : Int) = V := ⟨_, rfl⟩
  obtain ⟨SI, hSI⟩ : ∃ V : Int, AI + 129 = V := ⟨_, rfl⟩
  have hs : ((a + 129 : Nat) : Int) = SI := by omega
  rw [hs, hAI] at P1
  rw [hAI] at P3 ⊢
  have G1 : Bx (∀ W, Calls Try.prog 18 #[.int .u64 SI, .int .i64 AI] W fun e w' => e = .returned (.int .i64 2) ∧ Below W.heap.size W w') := ⟨P1.out⟩
  have G2 : Bx (∀ W, Calls Try.prog 18 #[.int .u64 128, .int .i64 (-1)] W fun e w' => e = .returned (.int .i64 2) ∧ Below W.heap.size W w') := ⟨P2.out⟩
  have G3 : Bx (∀ W, Calls Try.prog 18 #[.int .u64 AI, .int .i64 AI] W fun e w' => e = .returned (.int .i64 1) ∧ Below W.heap.size W w') := ⟨P3.out⟩
  have w1 : IntKind.u64.wrap AI = AI := by rw [IntKind.wrap_u64]; omega
  have w2 : IntKind.u64.wrap SI = SI := by rw [IntKind.wrap_u64]; clear w1; omega
  have w3 : IntKind.i64.wrap AI = AI := by rw [IntKind.wrap_i64]; clear w1 w2; omega
  have w4 : IntKind.u64.wrap (-1) = 18446744073709551615 := by decide
  have w5 : IntKind.u64.wrap (128 + 18446744073709551615) = 127 := by decide
  have w6 : IntKind.u64.wrap 18446744073709551743 = 127 := by decide
  clear P1 P2 P3 e1 e2 e3 hs hAI ha
  go_enter Try.func6, Try.ntmps6
  go_wp2_with (first
    | (go_at_call 17; refine HK.out.mono ?_; rintro e w1 ⟨rfl, b1⟩; have HB1 := Bx.mk b1; clear b1)
    | (go_at_call 18; have hz := HB4; clear hz; refine (G3.out _).mono ?_; rintro e w5 ⟨rfl, b5⟩; have HB5 := Bx.mk (HB4.out.trans (b5.mono HB4.out.size)); clear b5)
    | (go_at_call 18; have hz := HB3; clear hz; refine (G2.out _).mono ?_; rintro e w4 ⟨rfl, b4⟩; have HB4 := Bx.mk (HB3.out.trans (b4.mono HB3.out.size)); clear b4)
    | (go_at_call 18; refine (G1.out _).mono ?_; rintro e w3 ⟨rfl, b3⟩; have HB3 : Bx (Below w.heap.size w w3) := ⟨HB1.out.trans (Below.mono (Below.trans ((Below.refl _ _).alloc (Nat.le_refl _) _) (b3.mono (by simp))) HB1.out.size)⟩; clear b3))
  go_ret
  exact ⟨rfl, HB5.out⟩
set_option maxHeartbeats 4000000 in
theorem pnumLens_1_0 (a : Nat) (K Ls : Int) (ha : a < 4294967296) (hK : K.tmod 3 = 1) (hL : Ls.tmod 2 = -1) (w : World) :
    Calls Try.prog 6 #[.int .u8 K, .int .u32 (a : Int), .int .i8 Ls] w fun e w' => e = .returned (.bool true) ∧ Below w.heap.size w w' := by
  have HK := Bx.mk (known17_any w)
  have e1 : lenN (a + 32767) (a : Int) = 2 := by
    have h : pnD (a + 32767) (a : Int) = 32767 := by unfold pnD; rw [if_neg (by omega), if_pos (by omega)]; omega
    unfold lenN; rw [h]; rfl
  have e2 : lenN 32766 (-1) = 2 := by decide
  have e3 : lenN a (a : Int) = 1 := by
    have h : pnD a (a : Int) = 1 := by unfold pnD; rw [if_neg (by omega), if_neg (by omega)]
    unfold lenN; rw [h]; rfl
  have P1 := Bx.mk (fun W => pnLen_any (a + 32767) (a : Int) (by omega) (by omega) (by omega) W)
  have P2 := Bx.mk (fun W => pnLen_any 32766 (-1) (by omega) (by omega) (by omega) W)
  have P3 := Bx.mk (fun W => pnLen_any a (a : Int) (by omega) (by omega) (by omega) W)
  rw [e1] at P1
  rw [e2] at P2
  rw [e3] at P3
  obtain ⟨AI, hAI⟩ : ∃ V : Int, (a : Int) = V := ⟨_, rfl⟩
  obtain ⟨SI, hSI⟩ : ∃ V : Int, AI + 32767 = V := ⟨_, rfl⟩
  have hs : ((a + 32767 : Nat) : Int) = SI := by omega
  rw [hs, hAI] at P1
  rw [hAI] at P3 ⊢
  have G1 : Bx (∀ W, Calls Try.prog 18 #[.int .u64 SI, .int .i64 AI] W fun e w' => e = .returned (.int .i64 2) ∧ Below W.heap.size W w') := ⟨P1.out⟩
  have G2 : Bx (∀ W, Calls Try.prog 18 #[.int .u64 32766, .int .i64 (-1)] W fun e w' => e = .returned (.int .i64 2) ∧ Below W.heap.size W w') := ⟨P2.out⟩
  have G3 : Bx (∀ W, Calls Try.prog 18 #[.int .u64 AI, .int .i64 AI] W fun e w' => e = .returned (.int .i64 1) ∧ Below W.heap.size W w') := ⟨P3.out⟩
  have w1 : IntKind.u64.wrap AI = AI := by rw [IntKind.wrap_u64]; omega
  have w2 : IntKind.u64.wrap SI = SI := by rw [IntKind.wrap_u64]; clear w1; omega
  have w3 : IntKind.i64.wrap AI = AI := by rw [IntKind.wrap_i64]; clear w1 w2; omega
  have w4 : IntKind.u64.wrap (-1) = 18446744073709551615 := by decide
  have w5 : IntKind.u64.wrap (32768 + 18446744073709551615) = 32767 := by decide
  have w6 : IntKind.u64.wrap 18446744073709584383 = 32767 := by decide
  clear P1 P2 P3 e1 e2 e3 hs hAI ha
  go_enter Try.func6, Try.ntmps6
  go_wp2_with (first
    | (go_at_call 17; refine HK.out.mono ?_; rintro e w1 ⟨rfl, b1⟩; have HB1 := Bx.mk b1; clear b1)
    | (go_at_call 18; have hz := HB4; clear hz; refine (G3.out _).mono ?_; rintro e w5 ⟨rfl, b5⟩; have HB5 := Bx.mk (HB4.out.trans (b5.mono HB4.out.size)); clear b5)
    | (go_at_call 18; have hz := HB3; clear hz; refine (G2.out _).mono ?_; rintro e w4 ⟨rfl, b4⟩; have HB4 := Bx.mk (HB3.out.trans (b4.mono HB3.out.size)); clear b4)
    | (go_at_call 18; refine (G1.out _).mono ?_; rintro e w3 ⟨rfl, b3⟩; have HB3 : Bx (Below w.heap.size w w3) := ⟨HB1.out.trans (Below.mono (Below.trans ((Below.refl _ _).alloc (Nat.le_refl _) _) (b3.mono (by simp))) HB1.out.size)⟩; clear b3))
  go_ret
  exact ⟨rfl, HB5.out⟩
set_option maxHeartbeats 4000000 in
theorem pnumLens_1_1 (a : Nat) (K Ls : Int) (ha : a < 4294967296) (hK : K.tmod 3 = 1) (hL : Ls.tmod 2 = 0) (w : World) :
    Calls Try.prog 6 #[.int .u8 K, .int .u32 (a : Int), .int .i8 Ls] w fun e w' => e = .returned (.bool true) ∧ Below w.heap.size w w' := by
  have HK := Bx.mk (known17_any w)
  have e1 : lenN (a + 32768) (a : Int) = 3 := by
    have h : pnD (a + 32768) (a : Int) = 32768 := by unfold pnD; rw [if_neg (by omega), if_pos (by omega)]; omega
    unfold lenN; rw [h]; rfl
  have e2 : lenN 32767 (-1) = 3 := by decide
  have e3 : lenN a (a : Int) = 1 := by
    have h : pnD a (a : Int) = 1 := by unfold pnD; rw [if_neg (by omega), if_neg (by omega)]
    unfold lenN; rw [h]; rfl
  have P1 := Bx.mk (fun W => pnLen_any (a + 32768) (a : Int) (by omega) (by omega) (by omega) W)
  have P2 := Bx.mk (fun W => pnLen_any 32767 (-1) (by omega) (by omega) (by omega) W)
  have P3 := Bx.mk (fun W => pnLen_any a (a : Int) (by omega) (by omega) (by omega) W)
  rw [e1] at P1
  rw [e2] at P2
  rw [e3] at P3
  obtain ⟨AI, hAI⟩ : ∃ V : Int, (a : Int) = V := ⟨_, rfl⟩
  obtain ⟨SI, hSI⟩ : ∃ V : Int, AI + 32768 = V := ⟨_, rfl⟩
  have hs : ((a + 32768 : Nat) : Int) = SI := by omega
  rw [hs, hAI] at P1
  rw [hAI] at P3 ⊢
  have G1 : Bx (∀ W, Calls Try.prog 18 #[.int .u64 SI, .int .i64 AI] W fun e w' => e = .returned (.int .i64 3) ∧ Below W.heap.size W w') := ⟨P1.out⟩
  have G2 : Bx (∀ W, Calls Try.prog 18 #[.int .u64 32767, .int .i64 (-1)] W fun e w' => e = .returned (.int .i64 3) ∧ Below W.heap.size W w') := ⟨P2.out⟩
  have G3 : Bx (∀ W, Calls Try.prog 18 #[.int .u64 AI, .int .i64 AI] W fun e w' => e = .returned (.int .i64 1) ∧ Below W.heap.size W w') := ⟨P3.out⟩
  have w1 : IntKind.u64.wrap AI = AI := by rw [IntKind.wrap_u64]; omega
  have w2 : IntKind.u64.wrap SI = SI := by rw [IntKind.wrap_u64]; clear w1; omega
  have w3 : IntKind.i64.wrap AI = AI := by rw [IntKind.wrap_i64]; clear w1 w2; omega
  have w4 : IntKind.u64.wrap (-1) = 18446744073709551615 := by decide
  have w5 : IntKind.u64.wrap (32768 + 18446744073709551615) = 32767 := by decide
  have w6 : IntKind.u64.wrap 18446744073709584383 = 32767 := by decide
  clear P1 P2 P3 e1 e2 e3 hs hAI ha
  go_enter Try.func6, Try.ntmps6
  go_wp2_with (first
    | (go_at_call 17; refine HK.out.mono ?_; rintro e w1 ⟨rfl, b1⟩; have HB1 := Bx.mk b1; clear b1)
    | (go_at_call 18; have hz := HB4; clear hz; refine (G3.out _).mono ?_; rintro e w5 ⟨rfl, b5⟩; have HB5 := Bx.mk (HB4.out.trans (b5.mono HB4.out.size)); clear b5)
    | (go_at_call 18; have hz := HB3; clear hz; refine (G2.out _).mono ?_; rintro e w4 ⟨rfl, b4⟩; have HB4 := Bx.mk (HB3.out.trans (b4.mono HB3.out.size)); clear b4)
    | (go_at_call 18; refine (G1.out _).mono ?_; rintro e w3 ⟨rfl, b3⟩; have HB3 : Bx (Below w.heap.size w w3) := ⟨HB1.out.trans (Below.mono (Below.trans ((Below.refl _ _).alloc (Nat.le_refl _) _) (b3.mono (by simp))) HB1.out.size)⟩; clear b3))
  go_ret
  exact ⟨rfl, HB5.out⟩
set_option maxHeartbeats 4000000 in
theorem pnumLens_1_2 (a : Nat) (K Ls : Int) (ha : a < 4294967296) (hK : K.tmod 3 = 1) (hL : Ls.tmod 2 = 1) (w : World) :
    Calls Try.prog 6 #[.int .u8 K, .int .u32 (a : Int), .int .i8 Ls] w fun e w' => e = .returned (.bool true) ∧ Below w.heap.size w w' := by
  have HK := Bx.mk (known17_any w)
  have e1 : lenN (a + 32769) (a : Int) = 3 := by
    have h : pnD (a + 32769) (a : Int) = 32769 := by unfold pnD; rw [if_neg (by omega), if_pos (by omega)]; omega
    unfold lenN; rw [h]; rfl
  have e2 : lenN 32768 (-1) = 3 := by decide
  have e3 : lenN a (a : Int) = 1 := by
    have h : pnD a (a : Int) = 1 := by unfold pnD; rw [if_neg (by omega), if_neg (by omega)]
    unfold lenN; rw [h]; rfl
  have P1 := Bx.mk (fun W => pnLen_any (a + 32769) (a : Int) (by omega) (by omega) (by omega) W)
  have P2 := Bx.mk (fun W => pnLen_any 32768 (-1) (by omega) (by omega) (by omega) W)
  have P3 := Bx.mk (fun W => pnLen_any a (a : Int) (by omega) (by omega) (by omega) W)
  rw [e1] at P1
  rw [e2] at P2
  rw [e3] at P3
  obtain ⟨AI, hAI⟩ : ∃ V : Int, (a : Int) = V := ⟨_, rfl⟩
  obtain ⟨SI, hSI⟩ : ∃ V : Int, AI + 32769 = V := ⟨_, rfl⟩
  have hs : ((a + 32769 : Nat) : Int) = SI := by omega
  rw [hs, hAI] at P1
  rw [hAI] at P3 ⊢
  have G1 : Bx (∀ W, Calls Try.prog 18 #[.int .u64 SI, .int .i64 AI] W fun e w' => e = .returned (.int .i64 3) ∧ Below W.heap.size W w') := ⟨P1.out⟩
  have G2 : Bx (∀ W, Calls Try.prog 18 #[.int .u64 32768, .int .i64 (-1)] W fun e w' => e = .returned (.int .i64 3) ∧ Below W.heap.size W w') := ⟨P2.out⟩
  have G3 : Bx (∀ W, Calls Try.prog 18 #[.int .u64 AI, .int .i64 AI] W fun e w' => e = .returned (.int .i64 1) ∧ Below W.heap.size W w') := ⟨P3.out⟩
  have w1 : IntKind.u64.wrap AI = AI := by rw [IntKind.wrap_u64]; omega
  have w2 : IntKind.u64.wrap SI = SI := by rw [IntKind.wrap_u64]; clear w1; omega
  have w3 : IntKind.i64.wrap AI = AI := by rw [IntKind.wrap_i64]; clear w1 w2; omega
  have w4 : IntKind.u64.wrap (-1) = 18446744073709551615 := by decide
  have w5 : IntKind.u64.wrap (32768 + 18446744073709551615) = 32767 := by decide
  have w6 : IntKind.u64.wrap 18446744073709584383 = 32767 := by decide
  clear P1 P2 P3 e1 e2 e3 hs hAI ha
  go_enter Try.func6, Try.ntmps6
  go_wp2_with (first
    | (go_at_call 17; refine HK.out.mono ?_; rintro e w1 ⟨rfl, b1⟩; have HB1 := Bx.mk b1; clear b1)
    | (go_at_call 18; have hz := HB4; clear hz; refine (G3.out _).mono ?_; rintro e w5 ⟨rfl, b5⟩; have HB5 := Bx.mk (HB4.out.trans (b5.mono HB4.out.size)); clear b5)
    | (go_at_call 18; have hz := HB3; clear hz; refine (G2.out _).mono ?_; rintro e w4 ⟨rfl, b4⟩; have HB4 := Bx.mk (HB3.out.trans (b4.mono HB3.out.size)); clear b4)
    | (go_at_call 18; refine (G1.out _).mono ?_; rintro e w3 ⟨rfl, b3⟩; have HB3 : Bx (Below w.heap.size w w3) := ⟨HB1.out.trans (Below.mono (Below.trans ((Below.refl _ _).alloc (Nat.le_refl _) _) (b3.mono (by simp))) HB1.out.size)⟩; clear b3))
  go_ret
  exact ⟨rfl, HB5.out⟩
set_option maxHeartbeats 4000000 in
theorem pnumLens_2_0 (a : Nat) (K Ls : Int) (ha : a < 4294967296) (hK : K.tmod 3 = 2) (hL : Ls.tmod 2 = -1) (w : World) :
    Calls Try.prog 6 #[.int .u8 K, .int .u32 (a : Int), .int .i8 Ls] w fun e w' => e = .returned (.bool true) ∧ Below w.heap.size w w' := by
  have HK := Bx.mk (known17_any w)
  have e1 : lenN (a + 8388607) (a : Int) = 3 := by
    have h : pnD (a + 8388607) (a : Int) = 8388607 := by unfold pnD; rw [if_neg (by omega), if_pos (by omega)]; omega
    unfold lenN; rw [h]; rfl
  have e2 : lenN 8388606 (-1) = 3 := by decide
  have e3 : lenN a (a : Int) = 1 := by
    have h : pnD a (a : Int) = 1 := by unfold pnD; rw [if_neg (by omega), if_neg (by omega)]
    unfold lenN; rw [h]; rfl
  have P1 := Bx.mk (fun W => pnLen_any (a + 8388607) (a : Int) (by omega) (by omega) (by omega) W)
  have P2 := Bx.mk (fun W => pnLen_any 8388606 (-1) (by omega) (by omega) (by omega) W)
  have P3 := Bx.mk (fun W => pnLen_any a (a : Int) (by omega) (by omega) (by omega) W)
  rw [e1] at P1
  rw [e2] at P2
  rw [e3] at P3
  obtain ⟨AI, hAI⟩ : ∃ V : Int, (a : Int) = V := ⟨_, rfl⟩
  obtain ⟨SI, hSI⟩ : ∃ V : Int, AI + 8388607 = V := ⟨_, rfl⟩
  have hs : ((a + 8388607 : Nat) : Int) = SI := by omega
  rw [hs, hAI] at P1
  rw [hAI] at P3 ⊢
  have G1 : Bx (∀ W, Calls Try.prog 18 #[.int .u64 SI, .int .i64 AI] W fun e w' => e = .returned (.int .i64 3) ∧ Below W.heap.size W w') := ⟨P1.out⟩
  have G2 : Bx (∀ W, Calls Try.prog 18 #[.int .u64 8388606, .int .i64 (-1)] W fun e w' => e = .returned (.int .i64 3) ∧ Below W.heap.size W w') := ⟨P2.out⟩
  have G3 : Bx (∀ W, Calls Try.prog 18 #[.int .u64 AI, .int .i64 AI] W fun e w' => e = .returned (.int .i64 1) ∧ Below W.heap.size W w') := ⟨P3.out⟩
  have w1 : IntKind.u64.wrap AI = AI := by rw [IntKind.wrap_u64]; omega
  have w2 : IntKind.u64.wrap SI = SI := by rw [IntKind.wrap_u64]; clear w1; omega
  have w3 : IntKind.i64.wrap AI = AI := by rw [IntKind.wrap_i64]; clear w1 w2; omega
  have w4 : IntKind.u64.wrap (-1) = 18446744073709551615 := by decide
  have w5 : IntKind.u64.wrap (8388608 + 18446744073709551615) = 8388607 := by decide
  have w6 : IntKind.u64.wrap 18446744073717940223 = 8388607 := by decide
  clear P1 P2 P3 e1 e2 e3 hs hAI ha
  go_enter Try.func6, Try.ntmps6
  go_wp2_with (first
    | (go_at_call 17; refine HK.out.mono ?_; rintro e w1 ⟨rfl, b1⟩; have HB1 := Bx.mk b1; clear b1)
    | (go_at_call 18; have hz := HB4; clear hz; refine (G3.out _).mono ?_; rintro e w5 ⟨rfl, b5⟩; have HB5 := Bx.mk (HB4.out.trans (b5.mono HB4.out.size)); clear b5)
    | (go_at_call 18; have hz := HB3; clear hz; refine (G2.out _).mono ?_; rintro e w4 ⟨rfl, b4⟩; have HB4 := Bx.mk (HB3.out.trans (b4.mono HB3.out.size)); clear b4)
    | (go_at_call 18; refine (G1.out _).mono ?_; rintro e w3 ⟨rfl, b3⟩; have HB3 : Bx (Below w.heap.size w w3) := ⟨HB1.out.trans (Below.mono (Below.trans ((Below.refl _ _).alloc (Nat.le_refl _) _) (b3.mono (by simp))) HB1.out.size)⟩; clear b3))
  go_ret
  exact ⟨rfl, HB5.out⟩
set_option maxHeartbeats 4000000 in
theorem pnumLens_2_1 (a : Nat) (K Ls : Int) (ha : a < 4294967296) (hK : K.tmod 3 = 2) (hL : Ls.tmod 2 = 0) (w : World) :
    Calls Try.prog 6 #[.int .u8 K, .int .u32 (a : Int), .int .i8 Ls] w fun e w' => e = .returned (.bool true) ∧ Below w.heap.size w w' := by
  have HK := Bx.mk (known17_any w)
  have e1 : lenN (a + 8388608) (a : Int) = 4 := by
    have h : pnD (a + 8388608) (a : Int) = 8388608 := by unfold pnD; rw [if_neg (by omega), if_pos (by omega)]; omega
    unfold lenN; rw [h]; rfl
  have e2 : lenN 8388607 (-1) = 4 := by decide
  have e3 : lenN a (a : Int) = 1 := by
    have h : pnD a (a : Int) = 1 := by unfold pnD; rw [if_neg (by omega), if_neg (by omega)]
    unfold lenN; rw [h]; rfl
  have P1 := Bx.mk (fun W => pnLen_any (a + 8388608) (a : Int) (by omega) (by omega) (by omega) W)
  have P2 := Bx.mk (fun W => pnLen_any 8388607 (-1) (by omega) (by omega) (by omega) W)
  have P3 := Bx.mk (fun W => pnLen_any a (a : Int) (by omega) (by omega) (by omega) W)
  rw [e1] at P1
  rw [e2] at P2
  rw [e3] at P3
  obtain ⟨AI, hAI⟩ : ∃ V : Int, (a : Int) = V := ⟨_, rfl⟩
  obtain ⟨SI, hSI⟩ : ∃ V : Int, AI + 8388608 = V := ⟨_, rfl⟩
  have hs : ((a + 8388608 : Nat) : Int) = SI := by omega
  rw [hs, hAI] at P1
  rw [hAI] at P3 ⊢
  have G1 : Bx (∀ W, Calls Try.prog 18 #[.int .u64 SI, .int .i64 AI] W fun e w' => e = .returned (.int .i64 4) ∧ Below W.heap.size W w') := ⟨P1.out⟩
  have G2 : Bx (∀ W, Calls Try.prog 18 #[.int .u64 8388607, .int .i64 (-1)] W fun e w' => e = .returned (.int .i64 4) ∧ Below W.heap.size W w') := ⟨P2.out⟩
  have G3 : Bx (∀ W, Calls Try.prog 18 #[.int .u64 AI, .int .i64 AI] W fun e w' => e = .returned (.int .i64 1) ∧ Below W.heap.size W w') := ⟨P3.out⟩
  have w1 : IntKind.u64.wrap AI = AI := by rw [IntKind.wrap_u64]; omega
  have w2 : IntKind.u64.wrap SI = SI := by rw [IntKind.wrap_u64]; clear w1; omega
  have w3 : IntKind.i64.wrap AI = AI := by rw [IntKind.wrap_i64]; clear w1 w2; omega
  have w4 : IntKind.u64.wrap (-1) = 18446744073709551615 := by decide
  have w5 : IntKind.u64.wrap (8388608 + 18446744073709551615) = 8388607 := by decide
  have w6 : IntKind.u64.wrap 18446744073717940223 = 8388607 := by decide
  clear P1 P2 P3 e1 e2 e3 hs hAI ha
  go_enter Try.func6, Try.ntmps6
  go_wp2_with (first
    | (go_at_call 17; refine HK.out.mono ?_; rintro e w1 ⟨rfl, b1⟩; have HB1 := Bx.mk b1; clear b1)
    | (go_at_call 18; have hz := HB4; clear hz; refine (G3.out _).mono ?_; rintro e w5 ⟨rfl, b5⟩; have HB5 := Bx.mk (HB4.out.trans (b5.mono HB4.out.size)); clear b5)
    | (go_at_call 18; have hz := HB3; clear hz; refine (G2.out _).mono ?_; rintro e w4 ⟨rfl, b4⟩; have HB4 := Bx.mk (HB3.out.trans (b4.mono HB3.out.size)); clear b4)
    | (go_at_call 18; refine (G1.out _).mono ?_; rintro e w3 ⟨rfl, b3⟩; have HB3 : Bx (Below w.heap.size w w3) := ⟨HB1.out.trans (Below.mono (Below.trans ((Below.refl _ _).alloc (Nat.le_refl _) _) (b3.mono (by simp))) HB1.out.size)⟩; clear b3))
  go_ret
  exact ⟨rfl, HB5.out⟩
set_option maxHeartbeats 4000000 in
theorem pnumLens_2_2 (a : Nat) (K Ls : Int) (ha : a < 4294967296) (hK : K.tmod 3 = 2) (hL : Ls.tmod 2 = 1) (w : World) :
    Calls Try.prog 6 #[.int .u8 K, .int .u32 (a : Int), .int .i8 Ls] w fun e w' => e = .returned (.bool true) ∧ Below w.heap.size w w' := by
  have HK := Bx.mk (known17_any w)
  have e1 : lenN (a + 8388609) (a : Int) = 4 := by
    have h : pnD (a + 8388609) (a : Int) = 8388609 := by unfold pnD; rw [if_neg (by omega), if_pos (by omega)]; omega
    unfold lenN; rw [h]; rfl
  have e2 : lenN 8388608 (-1) = 4 := by decide
  have e3 : lenN a (a : Int) = 1 := by
    have h : pnD a (a : Int) = 1 := by unfold pnD; rw [if_neg (by omega), if_neg (by omega)]
    unfold lenN; rw [h]; rfl
  have P1 := Bx.mk (fun W => pnLen_any (a + 8388609) (a : Int) (by omega) (by omega) (by omega) W)
  have P2 := Bx.mk (fun W => pnLen_any 8388608 (-1) (by omega) (by omega) (by omega) W)
  have P3 := Bx.mk (fun W => pnLen_any a (a : Int) (by omega) (by omega) (by omega) W)
  rw [e1] at P1
  rw [e2] at P2
  rw [e3] at P3
  obtain ⟨AI, hAI⟩ : ∃ V : Int, (a : Int) = V := ⟨_, rfl⟩
  obtain ⟨SI, hSI⟩ : ∃ V : Int, AI + 8388609 = V := ⟨_, rfl⟩
  have hs : ((a + 8388609 : Nat) : Int) = SI := by omega
  rw [hs, hAI] at P1
  rw [hAI] at P3 ⊢
  have G1 : Bx (∀ W, Calls Try.prog 18 #[.int .u64 SI, .int .i64 AI] W fun e w' => e = .returned (.int .i64 4) ∧ Below W.heap.size W w') := ⟨P1.out⟩
  have G2 : Bx (∀ W, Calls Try.prog 18 #[.int .u64 8388608, .int .i64 (-1)] W fun e w' => e = .returned (.int .i64 4) ∧ Below W.heap.size W w') := ⟨P2.out⟩
  have G3 : Bx (∀ W, Calls Try.prog 18 #[.int .u64 AI, .int .i64 AI] W fun e w' => e = .returned (.int .i64 1) ∧ Below W.heap.size W w') := ⟨P3.out⟩
  have w1 : IntKind.u64.wrap AI = AI := by rw [IntKind.wrap_u64]; omega
  have w2 : IntKind.u64.wrap SI = SI := by rw [IntKind.wrap_u64]; clear w1; omega
  have w3 : IntKind.i64.wrap AI = AI := by rw [IntKind.wrap_i64]; clear w1 w2; omega
  have w4 : IntKind.u64.wrap (-1) = 18446744073709551615 := by decide
  have w5 : IntKind.u64.wrap (8388608 + 18446744073709551615) = 8388607 := by decide
  have w6 : IntKind.u64.wrap 18446744073717940223 = 8388607 := by decide
  clear P1 P2 P3 e1 e2 e3 hs hAI ha
  go_enter Try.func6, Try.ntmps6
  go_wp2_with (first
    | (go_at_call 17; refine HK.out.mono ?_; rintro e w1 ⟨rfl, b1⟩; have HB1 := Bx.mk b1; clear b1)
    | (go_at_call 18; have hz := HB4; clear hz; refine (G3.out _).mono ?_; rintro e w5 ⟨rfl, b5⟩; have HB5 := Bx.mk (HB4.out.trans (b5.mono HB4.out.size)); clear b5)
    | (go_at_call 18; have hz := HB3; clear hz; refine (G2.out _).mono ?_; rintro e w4 ⟨rfl, b4⟩; have HB4 := Bx.mk (HB3.out.trans (b4.mono HB3.out.size)); clear b4)
    | (go_at_call 18; refine (G1.out _).mono ?_; rintro e w3 ⟨rfl, b3⟩; have HB3 : Bx (Below w.heap.size w w3) := ⟨HB1.out.trans (Below.mono (Below.trans ((Below.refl _ _).alloc (Nat.le_refl _) _) (b3.mono (by simp))) HB1.out.size)⟩; clear b3))
  go_ret
  exact ⟨rfl, HB5.out⟩
theorem pnumLens_walk (K A Ls : Int) (hK : (Lit.int .u8 K).wf = true) (hA : (Lit.int .u32 A).wf = true) (hL : (Lit.int .i8 Ls).wf = true) (w : World) :
    Calls Try.prog 6 #[.int .u8 K, .int .u32 A, .int .i8 Ls] w fun e w' => e = .returned (.bool true) ∧ Below w.heap.size w w' := by
  obtain ⟨n, rfl⟩ := Int.eq_ofNat_of_zero_le (u8_wfN hK).1
  obtain ⟨a, rfl⟩ := Int.eq_ofNat_of_zero_le (u32_wf hA).1
  have ha := (u32_wf hA).2
  have e : ((n : Int)).tmod 3 = ((n % 3 : Nat) : Int) := (Int.ofNat_tmod n 3).symm
  have h3 : n % 3 = 0 ∨ n % 3 = 1 ∨ n % 3 = 2 := by omega
  have h2 : Ls.tmod 2 = -1 ∨ Ls.tmod 2 = 0 ∨ Ls.tmod 2 = 1 := by
    have := Int.tmod_lt_of_pos Ls (show (0 : Int) < 2 by decide)
    have := Int.lt_tmod_of_pos Ls (show (0 : Int) < 2 by decide)
    omega
  rcases h3 with h | h | h <;> rcases h2 with g | g | g
  · exact pnumLens_0_0 a n Ls (by omega) (by rw [e, h]; rfl) g w
  · exact pnumLens_0_1 a n Ls (by omega) (by rw [e, h]; rfl) g w
  · exact pnumLens_0_2 a n Ls (by omega) (by rw [e, h]; rfl) g w
  · exact pnumLens_1_0 a n Ls (by omega) (by rw [e, h]; rfl) g w
  · exact pnumLens_1_1 a n Ls (by omega) (by rw [e, h]; rfl) g w
  · exact pnumLens_1_2 a n Ls (by omega) (by rw [e, h]; rfl) g w
  · exact pnumLens_2_0 a n Ls (by omega) (by rw [e, h]; rfl) g w
  · exact pnumLens_2_1 a n Ls (by omega) (by rw [e, h]; rfl) g w
  · exact pnumLens_2_2 a n Ls (by omega) (by rw [e, h]; rfl) g w
end Go.Proofs.Ytcakppdabolfiaa
