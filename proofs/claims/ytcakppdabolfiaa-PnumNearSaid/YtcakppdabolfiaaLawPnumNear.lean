/-
  bifoldlaw17.PnumNear answers true, whatever its arguments: the walk, a number of bytes at a time (written by mkpnn.py).
-/
import Derived.Test.YtcakppdabolfiaaLawPnumBack
namespace Go.Proofs.Ytcakppdabolfiaa
open Go.RowKit
set_option linter.unusedVariables false
set_option linter.unusedSimpArgs false

set_option maxHeartbeats 4000000 in
theorem pnumNear_1 (x l : Nat) (N : Int) (hx : x < 18446744073709551616) (hN : N.tmod 4 = 0) (hl : l < 4294967296) (w : World) :
    Calls Try.prog 5 #[.int .u64 (x : Int), .int .u8 N, .int .u32 (l : Int)] w fun e w' => e = .returned (.bool true) ∧ Below w.heap.size w w' := by
  have HK := Bx.mk (known17_any w)
  have hwant : wantN (l : Int) = l + 1 := by unfold wantN; rw [if_neg (by omega)]; omega
  have hnear := fullN_near x 256 (l + 1) (by omega) (by omega)
  have PF := Bx.mk (fun W => pnFull_any x 1 (l : Int) hx (by omega) (by omega) W)
  rw [show winN (bytesN 1) = 256 from rfl, hwant] at PF
  obtain ⟨f, hf⟩ : ∃ f, fullN x 256 (l + 1) = f := ⟨_, rfl⟩
  rw [hf] at PF hnear
  have hfb : f < 18446744073709551616 := by
    rcases hnear.2 with h | h <;> omega
  have PC1 := Bx.mk (fun W => pnCut_any f 1 hfb W)
  have PC2 := Bx.mk (fun W => pnCut_any x 1 hx W)
  rw [show winN (bytesN 1) = 256 from rfl, hnear.1] at PC1
  rw [show winN (bytesN 1) = 256 from rfl] at PC2
  have ha1 := pn_and f 8 256 hfb (by omega)
  have ha2 := pn_and x 8 256 hx (by omega)
  rw [hnear.1] at ha1
  rw [show ((256 : Nat) : Int) - 1 = 255 from rfl] at ha1 ha2
  obtain ⟨FI, hFI⟩ : ∃ V : Int, (f : Int) = V := ⟨_, rfl⟩
  obtain ⟨XI, hXI⟩ : ∃ V : Int, (x : Int) = V := ⟨_, rfl⟩
  obtain ⟨RI, hRI⟩ : ∃ V : Int, ((x % 256 : Nat) : Int) = V := ⟨_, rfl⟩
  obtain ⟨LI, hLI⟩ : ∃ V : Int, (l : Int) = V := ⟨_, rfl⟩
  rw [hFI] at PF ha1
  rw [hFI, hRI] at PC1
  rw [hXI, hRI] at PC2 ha2
  rw [hRI] at ha1
  rw [hXI, hLI] at PF ⊢
  obtain ⟨WI, hWI⟩ : ∃ V : Int, LI + 1 = V := ⟨_, rfl⟩
  have w1 : IntKind.u64.wrap LI = LI := by rw [IntKind.wrap_u64]; omega
  have w2 : IntKind.u64.wrap WI = WI := by rw [IntKind.wrap_u64]; clear w1; omega
  have w3 : IntKind.i64.wrap LI = LI := by rw [IntKind.wrap_i64]; clear w1 w2; omega
  have w4 : IntKind.i64.wrap 0 = 0 := by decide
  obtain ⟨MX, hMX⟩ : ∃ V : Int, max FI WI = V := ⟨_, rfl⟩
  obtain ⟨MN, hMN⟩ : ∃ V : Int, min FI WI = V := ⟨_, rfl⟩
  obtain ⟨DD, hDD⟩ : ∃ V : Int, MX - MN = V := ⟨_, rfl⟩
  have w5 : IntKind.u64.wrap DD = DD := by rw [IntKind.wrap_u64]; clear w1 w2 w3 w4; omega
  have hno : DD ≤ 128 ∨ ¬ DD ≤ 128 ∧ WI < 128 ∧ FI < 256 := by
    clear w1 w2 w3 w4 w5
    by_cases h : DD ≤ 128
    · exact .inl h
    · right
      refine ⟨h, ?_⟩
      rcases hnear.2 with h2 | h2
      · exfalso; omega
      · omega
  clear hnear hfb hFI hXI hRI hLI hf hwant hx hl
  rcases hno with h | ⟨h, h2, h3⟩
  · have d1 : decide (DD ≤ 128) = true := decide_eq_true h
    clear h
    go_enter Try.func5, Try.ntmps5
    go_wp2_with (first
      | (go_at_call 17; refine HK.out.mono ?_; rintro e w1 ⟨rfl, b1⟩; have HB1 := Bx.mk b1; clear b1)
      | (go_at_call 22; refine (PF.out _).mono ?_; rintro e w2 ⟨rfl, b2⟩; have HB2 := Bx.mk (HB1.out.trans (b2.mono HB1.out.size)); clear b2)
      | (go_at_call 20; have hz := HB3; clear hz; refine (PC2.out _).mono ?_; rintro e w4 ⟨rfl, b4⟩; have HB4 := Bx.mk (HB3.out.trans (b4.mono HB3.out.size)); clear b4)
      | (go_at_call 20; refine (PC1.out _).mono ?_; rintro e w3 ⟨rfl, b3⟩; have HB3 := Bx.mk (HB2.out.trans (b3.mono HB2.out.size)); clear b3))
    go_ret
    exact ⟨rfl, HB4.out⟩
  · have d1 : decide (DD ≤ 128) = false := decide_eq_false h
    have d2 : decide (WI < 128) = true := decide_eq_true h2
    have d3 : decide (FI < 256) = true := decide_eq_true h3
    clear h h2 h3
    go_enter Try.func5, Try.ntmps5
    go_wp2_with (first
      | (go_at_call 17; refine HK.out.mono ?_; rintro e w1 ⟨rfl, b1⟩; have HB1 := Bx.mk b1; clear b1)
      | (go_at_call 22; refine (PF.out _).mono ?_; rintro e w2 ⟨rfl, b2⟩; have HB2 := Bx.mk (HB1.out.trans (b2.mono HB1.out.size)); clear b2)
      | (go_at_call 20; have hz := HB3; clear hz; refine (PC2.out _).mono ?_; rintro e w4 ⟨rfl, b4⟩; have HB4 := Bx.mk (HB3.out.trans (b4.mono HB3.out.size)); clear b4)
      | (go_at_call 20; refine (PC1.out _).mono ?_; rintro e w3 ⟨rfl, b3⟩; have HB3 := Bx.mk (HB2.out.trans (b3.mono HB2.out.size)); clear b3))
    go_ret
    exact ⟨rfl, HB4.out⟩
set_option maxHeartbeats 4000000 in
theorem pnumNear_2 (x l : Nat) (N : Int) (hx : x < 18446744073709551616) (hN : N.tmod 4 = 1) (hl : l < 4294967296) (w : World) :
    Calls Try.prog 5 #[.int .u64 (x : Int), .int .u8 N, .int .u32 (l : Int)] w fun e w' => e = .returned (.bool true) ∧ Below w.heap.size w w' := by
  have HK := Bx.mk (known17_any w)
  have hwant : wantN (l : Int) = l + 1 := by unfold wantN; rw [if_neg (by omega)]; omega
  have hnear := fullN_near x 65536 (l + 1) (by omega) (by omega)
  have PF := Bx.mk (fun W => pnFull_any x 2 (l : Int) hx (by omega) (by omega) W)
  rw [show winN (bytesN 2) = 65536 from rfl, hwant] at PF
  obtain ⟨f, hf⟩ : ∃ f, fullN x 65536 (l + 1) = f := ⟨_, rfl⟩
  rw [hf] at PF hnear
  have hfb : f < 18446744073709551616 := by
    rcases hnear.2 with h | h <;> omega
  have PC1 := Bx.mk (fun W => pnCut_any f 2 hfb W)
  have PC2 := Bx.mk (fun W => pnCut_any x 2 hx W)
  rw [show winN (bytesN 2) = 65536 from rfl, hnear.1] at PC1
  rw [show winN (bytesN 2) = 65536 from rfl] at PC2
  have ha1 := pn_and f 16 65536 hfb (by omega)
  have ha2 := pn_and x 16 65536 hx (by omega)
  rw [hnear.1] at ha1
  rw [show ((65536 : Nat) : Int) - 1 = 65535 from rfl] at ha1 ha2
  obtain ⟨FI, hFI⟩ : ∃ V : Int, (f : Int) = V := ⟨_, rfl⟩
  obtain ⟨XI, hXI⟩ : ∃ V : Int, (x : Int) = V := ⟨_, rfl⟩
  obtain ⟨RI, hRI⟩ : ∃ V : Int, ((x % 65536 : Nat) : Int) = V := ⟨_, rfl⟩
  obtain ⟨LI, hLI⟩ : ∃ V : Int, (l : Int) = V := ⟨_, rfl⟩
  rw [hFI] at PF ha1
  rw [hFI, hRI] at PC1
  rw [hXI, hRI] at PC2 ha2
  rw [hRI] at ha1
  rw [hXI, hLI] at PF ⊢
  obtain ⟨WI, hWI⟩ : ∃ V : Int, LI + 1 = V := ⟨_, rfl⟩
  have w1 : IntKind.u64.wrap LI = LI := by rw [IntKind.wrap_u64]; omega
  have w2 : IntKind.u64.wrap WI = WI := by rw [IntKind.wrap_u64]; clear w1; omega
  have w3 : IntKind.i64.wrap LI = LI := by rw [IntKind.wrap_i64]; clear w1 w2; omega
  have w4 : IntKind.i64.wrap 1 = 1 := by decide
  obtain ⟨MX, hMX⟩ : ∃ V : Int, max FI WI = V := ⟨_, rfl⟩
  obtain ⟨MN, hMN⟩ : ∃ V : Int, min FI WI = V := ⟨_, rfl⟩
  obtain ⟨DD, hDD⟩ : ∃ V : Int, MX - MN = V := ⟨_, rfl⟩
  have w5 : IntKind.u64.wrap DD = DD := by rw [IntKind.wrap_u64]; clear w1 w2 w3 w4; omega
  have hno : DD ≤ 32768 ∨ ¬ DD ≤ 32768 ∧ WI < 32768 ∧ FI < 65536 := by
    clear w1 w2 w3 w4 w5
    by_cases h : DD ≤ 32768
    · exact .inl h
    · right
      refine ⟨h, ?_⟩
      rcases hnear.2 with h2 | h2
      · exfalso; omega
      · omega
  clear hnear hfb hFI hXI hRI hLI hf hwant hx hl
  rcases hno with h | ⟨h, h2, h3⟩
  · have d1 : decide (DD ≤ 32768) = true := decide_eq_true h
    clear h
    go_enter Try.func5, Try.ntmps5
    go_wp2_with (first
      | (go_at_call 17; refine HK.out.mono ?_; rintro e w1 ⟨rfl, b1⟩; have HB1 := Bx.mk b1; clear b1)
      | (go_at_call 22; refine (PF.out _).mono ?_; rintro e w2 ⟨rfl, b2⟩; have HB2 := Bx.mk (HB1.out.trans (b2.mono HB1.out.size)); clear b2)
      | (go_at_call 20; have hz := HB3; clear hz; refine (PC2.out _).mono ?_; rintro e w4 ⟨rfl, b4⟩; have HB4 := Bx.mk (HB3.out.trans (b4.mono HB3.out.size)); clear b4)
      | (go_at_call 20; refine (PC1.out _).mono ?_; rintro e w3 ⟨rfl, b3⟩; have HB3 := Bx.mk (HB2.out.trans (b3.mono HB2.out.size)); clear b3))
    go_ret
    exact ⟨rfl, HB4.out⟩
  · have d1 : decide (DD ≤ 32768) = false := decide_eq_false h
    have d2 : decide (WI < 32768) = true := decide_eq_true h2
    have d3 : decide (FI < 65536) = true := decide_eq_true h3
    clear h h2 h3
    go_enter Try.func5, Try.ntmps5
    go_wp2_with (first
      | (go_at_call 17; refine HK.out.mono ?_; rintro e w1 ⟨rfl, b1⟩; have HB1 := Bx.mk b1; clear b1)
      | (go_at_call 22; refine (PF.out _).mono ?_; rintro e w2 ⟨rfl, b2⟩; have HB2 := Bx.mk (HB1.out.trans (b2.mono HB1.out.size)); clear b2)
      | (go_at_call 20; have hz := HB3; clear hz; refine (PC2.out _).mono ?_; rintro e w4 ⟨rfl, b4⟩; have HB4 := Bx.mk (HB3.out.trans (b4.mono HB3.out.size)); clear b4)
      | (go_at_call 20; refine (PC1.out _).mono ?_; rintro e w3 ⟨rfl, b3⟩; have HB3 := Bx.mk (HB2.out.trans (b3.mono HB2.out.size)); clear b3))
    go_ret
    exact ⟨rfl, HB4.out⟩
set_option maxHeartbeats 4000000 in
theorem pnumNear_3 (x l : Nat) (N : Int) (hx : x < 18446744073709551616) (hN : N.tmod 4 = 2) (hl : l < 4294967296) (w : World) :
    Calls Try.prog 5 #[.int .u64 (x : Int), .int .u8 N, .int .u32 (l : Int)] w fun e w' => e = .returned (.bool true) ∧ Below w.heap.size w w' := by
  have HK := Bx.mk (known17_any w)
  have hwant : wantN (l : Int) = l + 1 := by unfold wantN; rw [if_neg (by omega)]; omega
  have hnear := fullN_near x 16777216 (l + 1) (by omega) (by omega)
  have PF := Bx.mk (fun W => pnFull_any x 3 (l : Int) hx (by omega) (by omega) W)
  rw [show winN (bytesN 3) = 16777216 from rfl, hwant] at PF
  obtain ⟨f, hf⟩ : ∃ f, fullN x 16777216 (l + 1) = f := ⟨_, rfl⟩
  rw [hf] at PF hnear
  have hfb : f < 18446744073709551616 := by
    rcases hnear.2 with h | h <;> omega
  have PC1 := Bx.mk (fun W => pnCut_any f 3 hfb W)
  have PC2 := Bx.mk (fun W => pnCut_any x 3 hx W)
  rw [show winN (bytesN 3) = 16777216 from rfl, hnear.1] at PC1
  rw [show winN (bytesN 3) = 16777216 from rfl] at PC2
  have ha1 := pn_and f 24 16777216 hfb (by omega)
  have ha2 := pn_and x 24 16777216 hx (by omega)
  rw [hnear.1] at ha1
  rw [show ((16777216 : Nat) : Int) - 1 = 16777215 from rfl] at ha1 ha2
  obtain ⟨FI, hFI⟩ : ∃ V : Int, (f : Int) = V := ⟨_, rfl⟩
  obtain ⟨XI, hXI⟩ : ∃ V : Int, (x : Int) = V := ⟨_, rfl⟩
  obtain ⟨RI, hRI⟩ : ∃ V : Int, ((x % 16777216 : Nat) : Int) = V := ⟨_, rfl⟩
  obtain ⟨LI, hLI⟩ : ∃ V : Int, (l : Int) = V := ⟨_, rfl⟩
  rw [hFI] at PF ha1
  rw [hFI, hRI] at PC1
  rw [hXI, hRI] at PC2 ha2
  rw [hRI] at ha1
  rw [hXI, hLI] at PF ⊢
  obtain ⟨WI, hWI⟩ : ∃ V : Int, LI + 1 = V := ⟨_, rfl⟩
  have w1 : IntKind.u64.wrap LI = LI := by rw [IntKind.wrap_u64]; omega
  have w2 : IntKind.u64.wrap WI = WI := by rw [IntKind.wrap_u64]; clear w1; omega
  have w3 : IntKind.i64.wrap LI = LI := by rw [IntKind.wrap_i64]; clear w1 w2; omega
  have w4 : IntKind.i64.wrap 2 = 2 := by decide
  obtain ⟨MX, hMX⟩ : ∃ V : Int, max FI WI = V := ⟨_, rfl⟩
  obtain ⟨MN, hMN⟩ : ∃ V : Int, min FI WI = V := ⟨_, rfl⟩
  obtain ⟨DD, hDD⟩ : ∃ V : Int, MX - MN = V := ⟨_, rfl⟩
  have w5 : IntKind.u64.wrap DD = DD := by rw [IntKind.wrap_u64]; clear w1 w2 w3 w4; omega
  have hno : DD ≤ 8388608 ∨ ¬ DD ≤ 8388608 ∧ WI < 8388608 ∧ FI < 16777216 := by
    clear w1 w2 w3 w4 w5
    by_cases h : DD ≤ 8388608
    · exact .inl h
    · right
      refine ⟨h, ?_⟩
      rcases hnear.2 with h2 | h2
      · exfalso; omega
      · omega
  clear hnear hfb hFI hXI hRI hLI hf hwant hx hl
  rcases hno with h | ⟨h, h2, h3⟩
  · have d1 : decide (DD ≤ 8388608) = true := decide_eq_true h
    clear h
    go_enter Try.func5, Try.ntmps5
    go_wp2_with (first
      | (go_at_call 17; refine HK.out.mono ?_; rintro e w1 ⟨rfl, b1⟩; have HB1 := Bx.mk b1; clear b1)
      | (go_at_call 22; refine (PF.out _).mono ?_; rintro e w2 ⟨rfl, b2⟩; have HB2 := Bx.mk (HB1.out.trans (b2.mono HB1.out.size)); clear b2)
      | (go_at_call 20; have hz := HB3; clear hz; refine (PC2.out _).mono ?_; rintro e w4 ⟨rfl, b4⟩; have HB4 := Bx.mk (HB3.out.trans (b4.mono HB3.out.size)); clear b4)
      | (go_at_call 20; refine (PC1.out _).mono ?_; rintro e w3 ⟨rfl, b3⟩; have HB3 := Bx.mk (HB2.out.trans (b3.mono HB2.out.size)); clear b3))
    go_ret
    exact ⟨rfl, HB4.out⟩
  · have d1 : decide (DD ≤ 8388608) = false := decide_eq_false h
    have d2 : decide (WI < 8388608) = true := decide_eq_true h2
    have d3 : decide (FI < 16777216) = true := decide_eq_true h3
    clear h h2 h3
    go_enter Try.func5, Try.ntmps5
    go_wp2_with (first
      | (go_at_call 17; refine HK.out.mono ?_; rintro e w1 ⟨rfl, b1⟩; have HB1 := Bx.mk b1; clear b1)
      | (go_at_call 22; refine (PF.out _).mono ?_; rintro e w2 ⟨rfl, b2⟩; have HB2 := Bx.mk (HB1.out.trans (b2.mono HB1.out.size)); clear b2)
      | (go_at_call 20; have hz := HB3; clear hz; refine (PC2.out _).mono ?_; rintro e w4 ⟨rfl, b4⟩; have HB4 := Bx.mk (HB3.out.trans (b4.mono HB3.out.size)); clear b4)
      | (go_at_call 20; refine (PC1.out _).mono ?_; rintro e w3 ⟨rfl, b3⟩; have HB3 := Bx.mk (HB2.out.trans (b3.mono HB2.out.size)); clear b3))
    go_ret
    exact ⟨rfl, HB4.out⟩
set_option maxHeartbeats 4000000 in
theorem pnumNear_4 (x l : Nat) (N : Int) (hx : x < 18446744073709551616) (hN : N.tmod 4 = 3) (hl : l < 4294967296) (w : World) :
    Calls Try.prog 5 #[.int .u64 (x : Int), .int .u8 N, .int .u32 (l : Int)] w fun e w' => e = .returned (.bool true) ∧ Below w.heap.size w w' := by
  have HK := Bx.mk (known17_any w)
  have hwant : wantN (l : Int) = l + 1 := by unfold wantN; rw [if_neg (by omega)]; omega
  have hnear := fullN_near x 4294967296 (l + 1) (by omega) (by omega)
  have PF := Bx.mk (fun W => pnFull_any x 4 (l : Int) hx (by omega) (by omega) W)
  rw [show winN (bytesN 4) = 4294967296 from rfl, hwant] at PF
  obtain ⟨f, hf⟩ : ∃ f, fullN x 4294967296 (l + 1) = f := ⟨_, rfl⟩
  rw [hf] at PF hnear
  have hfb : f < 18446744073709551616 := by
    rcases hnear.2 with h | h <;> omega
  have PC1 := Bx.mk (fun W => pnCut_any f 4 hfb W)
  have PC2 := Bx.mk (fun W => pnCut_any x 4 hx W)
  rw [show winN (bytesN 4) = 4294967296 from rfl, hnear.1] at PC1
  rw [show winN (bytesN 4) = 4294967296 from rfl] at PC2
  have ha1 := pn_and f 32 4294967296 hfb (by omega)
  have ha2 := pn_and x 32 4294967296 hx (by omega)
  rw [hnear.1] at ha1
  rw [show ((4294967296 : Nat) : Int) - 1 = 4294967295 from rfl] at ha1 ha2
  obtain ⟨FI, hFI⟩ : ∃ V : Int, (f : Int) = V := ⟨_, rfl⟩
  obtain ⟨XI, hXI⟩ : ∃ V : Int, (x : Int) = V := ⟨_, rfl⟩
  obtain ⟨RI, hRI⟩ : ∃ V : Int, ((x % 4294967296 : Nat) : Int) = V := ⟨_, rfl⟩
  obtain ⟨LI, hLI⟩ : ∃ V : Int, (l : Int) = V := ⟨_, rfl⟩
  rw [hFI] at PF ha1
  rw [hFI, hRI] at PC1
  rw [hXI, hRI] at PC2 ha2
  rw [hRI] at ha1
  rw [hXI, hLI] at PF ⊢
  obtain ⟨WI, hWI⟩ : ∃ V : Int, LI + 1 = V := ⟨_, rfl⟩
  have w1 : IntKind.u64.wrap LI = LI := by rw [IntKind.wrap_u64]; omega
  have w2 : IntKind.u64.wrap WI = WI := by rw [IntKind.wrap_u64]; clear w1; omega
  have w3 : IntKind.i64.wrap LI = LI := by rw [IntKind.wrap_i64]; clear w1 w2; omega
  have w4 : IntKind.i64.wrap 3 = 3 := by decide
  obtain ⟨MX, hMX⟩ : ∃ V : Int, max FI WI = V := ⟨_, rfl⟩
  obtain ⟨MN, hMN⟩ : ∃ V : Int, min FI WI = V := ⟨_, rfl⟩
  obtain ⟨DD, hDD⟩ : ∃ V : Int, MX - MN = V := ⟨_, rfl⟩
  have w5 : IntKind.u64.wrap DD = DD := by rw [IntKind.wrap_u64]; clear w1 w2 w3 w4; omega
  have hno : DD ≤ 2147483648 ∨ ¬ DD ≤ 2147483648 ∧ WI < 2147483648 ∧ FI < 4294967296 := by
    clear w1 w2 w3 w4 w5
    by_cases h : DD ≤ 2147483648
    · exact .inl h
    · right
      refine ⟨h, ?_⟩
      rcases hnear.2 with h2 | h2
      · exfalso; omega
      · omega
  clear hnear hfb hFI hXI hRI hLI hf hwant hx hl
  rcases hno with h | ⟨h, h2, h3⟩
  · have d1 : decide (DD ≤ 2147483648) = true := decide_eq_true h
    clear h
    go_enter Try.func5, Try.ntmps5
    go_wp2_with (first
      | (go_at_call 17; refine HK.out.mono ?_; rintro e w1 ⟨rfl, b1⟩; have HB1 := Bx.mk b1; clear b1)
      | (go_at_call 22; refine (PF.out _).mono ?_; rintro e w2 ⟨rfl, b2⟩; have HB2 := Bx.mk (HB1.out.trans (b2.mono HB1.out.size)); clear b2)
      | (go_at_call 20; have hz := HB3; clear hz; refine (PC2.out _).mono ?_; rintro e w4 ⟨rfl, b4⟩; have HB4 := Bx.mk (HB3.out.trans (b4.mono HB3.out.size)); clear b4)
      | (go_at_call 20; refine (PC1.out _).mono ?_; rintro e w3 ⟨rfl, b3⟩; have HB3 := Bx.mk (HB2.out.trans (b3.mono HB2.out.size)); clear b3))
    go_ret
    exact ⟨rfl, HB4.out⟩
  · have d1 : decide (DD ≤ 2147483648) = false := decide_eq_false h
    have d2 : decide (WI < 2147483648) = true := decide_eq_true h2
    have d3 : decide (FI < 4294967296) = true := decide_eq_true h3
    clear h h2 h3
    go_enter Try.func5, Try.ntmps5
    go_wp2_with (first
      | (go_at_call 17; refine HK.out.mono ?_; rintro e w1 ⟨rfl, b1⟩; have HB1 := Bx.mk b1; clear b1)
      | (go_at_call 22; refine (PF.out _).mono ?_; rintro e w2 ⟨rfl, b2⟩; have HB2 := Bx.mk (HB1.out.trans (b2.mono HB1.out.size)); clear b2)
      | (go_at_call 20; have hz := HB3; clear hz; refine (PC2.out _).mono ?_; rintro e w4 ⟨rfl, b4⟩; have HB4 := Bx.mk (HB3.out.trans (b4.mono HB3.out.size)); clear b4)
      | (go_at_call 20; refine (PC1.out _).mono ?_; rintro e w3 ⟨rfl, b3⟩; have HB3 := Bx.mk (HB2.out.trans (b3.mono HB2.out.size)); clear b3))
    go_ret
    exact ⟨rfl, HB4.out⟩
theorem u8_wfN {t : Int} (h : (Lit.int .u8 t).wf = true) : 0 ≤ t ∧ t < 256 := by
  have h0 : IntKind.u8.min ≤ t ∧ t ≤ IntKind.u8.max := by simpa [Lit.wf] using h
  have h1 : IntKind.u8.min = 0 := rfl
  have h2 : IntKind.u8.max = 255 := rfl
  omega
theorem pnumNear_walk (X N L : Int) (hX : (Lit.int .u64 X).wf = true) (hN : (Lit.int .u8 N).wf = true) (hL : (Lit.int .u32 L).wf = true) (w : World) :
    Calls Try.prog 5 #[.int .u64 X, .int .u8 N, .int .u32 L] w fun e w' => e = .returned (.bool true) ∧ Below w.heap.size w w' := by
  obtain ⟨x, rfl⟩ := Int.eq_ofNat_of_zero_le (u64_wf hX).1
  obtain ⟨n, rfl⟩ := Int.eq_ofNat_of_zero_le (u8_wfN hN).1
  obtain ⟨l, rfl⟩ := Int.eq_ofNat_of_zero_le (u32_wf hL).1
  have hx := (u64_wf hX).2
  have hl := (u32_wf hL).2
  have e : ((n : Int)).tmod 4 = ((n % 4 : Nat) : Int) := (Int.ofNat_tmod n 4).symm
  have h4 : n % 4 = 0 ∨ n % 4 = 1 ∨ n % 4 = 2 ∨ n % 4 = 3 := by omega
  rcases h4 with h | h | h | h
  · exact pnumNear_1 x l n (by omega) (by rw [e, h]; rfl) (by omega) w
  · exact pnumNear_2 x l n (by omega) (by rw [e, h]; rfl) (by omega) w
  · exact pnumNear_3 x l n (by omega) (by rw [e, h]; rfl) (by omega) w
  · exact pnumNear_4 x l n (by omega) (by rw [e, h]; rfl) (by omega) w
end Go.Proofs.Ytcakppdabolfiaa
