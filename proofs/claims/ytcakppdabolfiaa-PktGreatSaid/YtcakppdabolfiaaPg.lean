/-
  bifoldlaw18.PktGreat answers true, whatever its arguments: kind 0 to 3 (written by mkpg.py).
-/
import Derived.Test.YtcakppdabolfiaaQkH
namespace Go.Proofs.Ytcakppdabolfiaa
open Go.RowKit
set_option linter.unusedVariables false
set_option linter.unusedSimpArgs false
theorem varB_len2 (n : Nat) (h1 : 64 ≤ n) (h2 : n < 16384) : (varB (n : Int)).length = 2 := by
  rcases cls_cases (n : Int) (by omega) (by omega) with ⟨h, _⟩ | ⟨_, _, he⟩ | ⟨h, _, _⟩ | ⟨h, _⟩
  · omega
  · rw [he, bes_len]
  · omega
  · omega
theorem Rd.setOtherg {w : World} {b g i n c : Nat} {xs : List Value} (h : Rd w (.slice (some ⟨b, 0, none⟩) n c) xs) (v : Value) (hg : b ≠ g) : Rd (w.setCell ⟨g, i, none⟩ v) (.slice (some ⟨b, 0, none⟩) n c) xs := by
  obtain ⟨A, c', he, h1, h2, h3⟩ := h
  refine ⟨A, c', he, h1, h2, h3.imp id ?_⟩
  rintro ⟨x, rfl, hx⟩
  refine ⟨x, rfl, fun j u hu => ?_⟩
  injection he with e1 e2 e3
  injection e1 with e1
  subst e1
  rw [Addr.add_lit, World.cell?_setCell_far _ _ _ _ (fun h => hg h.symm)]
  have := hx j u hu
  rwa [Addr.add_lit] at this
set_option maxRecDepth 100000 in
set_option maxHeartbeats 8000000 in
theorem pg_0_false_true (t n : Int) (q : Nat) (ht : t.tmod 4 = 0) (hn : n.tmod 5 = (q : Int)) (hq : q < 5) (h0 : q ≤ 2) (w : World) :
    Calls Try.prog 8 #[.int .u8 t, .int .u8 n, .bool false] w fun e w' => e = .returned (.bool true) ∧ Below w.heap.size w w' := by
  have HK := Bx.mk (known18_any w)
  have hmk : ∀ W : World, (Instr.makeSlice 36 (.int .i64 8) (.int .i64 8)).run Try.prog W = .ok (.slice (some ⟨W.heap.size, 0, none⟩) 8 8) (W.alloc (.cells (madeCells #[.int .u8 0] 8) 5)) := fun W => make_u8g 8 (by omega) W
  obtain ⟨D, hD⟩ : ∃ D : Int, (q : Int) - 2 = D := ⟨_, rfl⟩
  have fok : decide (D ≤ 0) = true := decide_eq_true (by omega)
  obtain ⟨N, hN⟩ := Int.eq_ofNat_of_zero_le (show 0 ≤ 1190 + D by omega)
  have hNq : N + 2 = 1190 + q := by omega
  have HNb : Bx (N ≤ 1200) := ⟨by omega⟩
  have N1 : wrap64 (N : Int) = (N : Int) := w64s N (by omega)
  have hmkN := fun W => make_u8g N (by omega) W
  have q8 : IntKind.i64.wrap (q : Int) = (q : Int) := i64s q (by omega)
  have D1 : wrap64 D = D := by unfold wrap64; omega
  have HEx : ∀ g0 : Nat, Bx (∃ X, pkW (phM ⟨false, 0, 0, .slice (some ⟨g0, 0, none⟩) 8 8, List.replicate 8 0, .slice none 0 0, [], 0, 1⟩) (List.replicate N 0) = some X ∧ X.length ≤ 1200) := fun g0 => ⟨pkW_ex ⟨false, 0, 0, .slice (some ⟨g0, 0, none⟩) 8 8, List.replicate 8 0, .slice none 0 0, [], 0, 1⟩ (List.replicate N 0) 1 rfl (by unfold goodB; simp) (by
    simp only [pkHd, Bool.false_eq_true, if_false, List.length_cons, List.length_append, List.length_replicate, bes_len, List.length_nil]
    omega)⟩
  clear hNq
  clear hq h0
  go_enter Try.func8, Try.ntmps8
  go_upto_region 5 with (go_at_call 24; refine HK.out.mono ?_; rintro e w0 ⟨rfl, b1⟩; have HB1 := Bx.mk b1; clear b1)
  have HV0 : Bx (Bs (w0.alloc (.cells (madeCells #[.int .u8 0] 8) 5)) (.slice (some ⟨w0.heap.size, 0, none⟩) 8 8) (List.replicate 8 0)) := ⟨Bs.madeg w0 8 (by omega)⟩
  have HB0 : Bx (Below w.heap.size w (w0.alloc (.cells (madeCells #[.int .u8 0] 8) 5))) := ⟨HB1.out.alloc HB1.out.size _⟩
  have hgs : (w0.alloc (.cells (madeCells #[.int .u8 0] 8) 5)).heap.size = w0.heap.size + 1 := by simp
  have HW0 : Bx (w.heap.size ≤ w0.heap.size) := ⟨HB1.out.size⟩
  generalize w0.alloc (.cells (madeCells #[.int .u8 0] 8) 5) = W1 at HV0 HB0 hgs ⊢
  obtain ⟨g0, hg0⟩ : ∃ g, w0.heap.size = g := ⟨_, rfl⟩
  obtain ⟨g1, hg1⟩ : ∃ g, w0.heap.size + 1 = g := ⟨_, rfl⟩
  rw [hg1] at hgs
  rw [hg0] at HV0 HW0
  have HGG : Bx (w.heap.size ≤ g1) := ⟨by have := HW0.out; omega⟩
  try simp only [hg1]
  try simp only [hg0]
  have HS1 : Bx (Sb 38 (W1.alloc (.cells #[.bool false, .int .i64 0, .int .u32 0, .slice (some ⟨g0, 0, none⟩) 8 8, .slice none 0 0, .int .u64 0, .int .i64 1] 38)) g1 #[.bool false, .int .i64 0, .int .u32 0, .slice (some ⟨g0, 0, none⟩) 8 8, .slice none 0 0, .int .u64 0, .int .i64 1]) := ⟨Sb.newg _ _ _ hgs _⟩
  have HV1 : Bx (Bs (W1.alloc (.cells #[.bool false, .int .i64 0, .int .u32 0, .slice (some ⟨g0, 0, none⟩) 8 8, .slice none 0 0, .int .u64 0, .int .i64 1] 38)) (.slice (some ⟨g0, 0, none⟩) 8 8) (List.replicate 8 0)) := ⟨HV0.out.keep ((Below.refl _ _).alloc (Nat.le_refl _) _)⟩
  have HB2 : Bx (Below w.heap.size w (W1.alloc (.cells #[.bool false, .int .i64 0, .int .u32 0, .slice (some ⟨g0, 0, none⟩) 8 8, .slice none 0 0, .int .u64 0, .int .i64 1] 38))) := ⟨HB0.out.alloc HB0.out.size _⟩
  generalize W1.alloc (.cells #[.bool false, .int .i64 0, .int .u32 0, .slice (some ⟨g0, 0, none⟩) 8 8, .slice none 0 0, .int .u64 0, .int .i64 1] 38) = W2 at HS1 HV1 HB2 ⊢
  have HGL : Bx (g1 < W2.heap.size) := ⟨HS1.out.lt⟩
  clear hgs hmk hg1 hg0
  go_upto_region 19 with fail
  have HP5 : Bx (Bs (W2.alloc (.cells (madeCells #[.int .u8 0] N) 5)) (.slice (some ⟨W2.heap.size, 0, none⟩) N N) (List.replicate N 0)) := ⟨Bs.madeg W2 N (by have := HNb.out; omega)⟩
  have HS5 : Bx (Sb 38 (W2.alloc (.cells (madeCells #[.int .u8 0] N) 5)) g1 #[.bool false, .int .i64 0, .int .u32 ((0 : Nat) : Int), .slice (some ⟨g0, 0, none⟩) 8 8, .slice none 0 0, .int .u64 ((0 : Nat) : Int), .int .i64 1]) := ⟨HS1.out.alloc _⟩
  have HD5 : Bx (Bs (W2.alloc (.cells (madeCells #[.int .u8 0] N) 5)) (.slice (some ⟨g0, 0, none⟩) 8 8) (List.replicate 8 0)) := ⟨HV1.out.keep ((Below.refl _ _).alloc (Nat.le_refl _) _)⟩
  have HB5 : Bx (Below w.heap.size w (W2.alloc (.cells (madeCells #[.int .u8 0] N) 5))) := ⟨HB2.out.alloc HB2.out.size _⟩
  obtain ⟨h5, hh5⟩ : ∃ h, W2.heap.size = h := ⟨_, rfl⟩
  generalize W2.alloc (.cells (madeCells #[.int .u8 0] N) 5) = W5 at HP5 HS5 HD5 HB5 ⊢
  rw [hh5] at HP5
  try simp only [hh5]
  have HEx := HEx g0
  have HOk : Bx (hdOk ⟨false, 0, 0, .slice (some ⟨g0, 0, none⟩) 8 8, List.replicate 8 0, .slice none 0 0, [], 0, 1⟩) := ⟨by unfold hdOk; simp⟩
  have HPL : Bx ((List.replicate N (0 : UInt8)).length ≤ 50000) := ⟨by have := HNb.out; simp; omega⟩
  clear hmkN N1 hN hD hh5
  have HQ := Bx.mk (fun W (h1 : Bs W (.slice (some ⟨g0, 0, none⟩) 8 8) (List.replicate 8 0)) (h2 : Bs W (.slice (some ⟨h5, 0, none⟩) N N) (List.replicate N 0)) => qWrite_any ⟨false, 0, 0, .slice (some ⟨g0, 0, none⟩) 8 8, List.replicate 8 0, .slice none 0 0, [], 0, 1⟩ (.slice (some ⟨h5, 0, none⟩) N N) (List.replicate N 0) W HOk.out h1 (Rd.nil W) h2 HPL.out)
  have HR := Bx.mk (fun W (h1 : Bs W (.slice (some ⟨g0, 0, none⟩) 8 8) (List.replicate 8 0)) (h2 : Bs W (.slice (some ⟨h5, 0, none⟩) N N) (List.replicate N 0)) => refPkW_any ⟨false, 0, 0, .slice (some ⟨g0, 0, none⟩) 8 8, List.replicate 8 0, .slice none 0 0, [], 0, 1⟩ (.slice (some ⟨h5, 0, none⟩) N N) (List.replicate N 0) W HOk.out h1 (Rd.nil W) h2)
  obtain ⟨X, hX, hXl⟩ := HEx.out
  rw [hX] at HQ HR
  obtain ⟨L, hL⟩ : ∃ L, X.length = L := ⟨_, rfl⟩
  have HXL := Bx.mk hL
  have fL : decide ((L : Int) ≤ 1200) = true := decide_eq_true (by omega)
  have fLn : decide (L ≤ 1200) = true := decide_eq_true (by omega)
  clear hX hL hXl
  obtain ⟨x0, x1, x2, x3, x4, x5, x6⟩ := hdcE (ver := 0) HS5.out
  go_wp2_with (first
    | (go_at_call 28
       refine (HQ.out _ HD5.out HP5.out).mono ?_
       rintro e w6 ⟨v6, rfl, h6, b6⟩
       have hl6 := fun tr W => (show Bs w6 v6 X from Ap.rd h6).run_len tr W
       rw [HXL.out] at hl6
       clear h6
       have HB6 := Bx.mk (HB5.out.trans (b6.mono HB5.out.size))
       have HD6 := Bx.mk (HD5.out.keep b6)
       have HP6 := Bx.mk (HP5.out.keep b6)
       obtain ⟨y0, y1, y2, y3, y4, y5, y6⟩ := hdcE (ver := 0) (HS5.out.keep b6)
       clear b6)
    | (go_at_call 25
       refine (HR.out _ HD6.out HP6.out).mono ?_
       rintro e w7 ⟨v7, rfl, h7, b7⟩
       have HB7 := Bx.mk (HB6.out.trans (b7.mono HB6.out.size))
       clear b7 h7))
  go_ret
  exact ⟨rfl, HB7.out⟩
set_option maxRecDepth 100000 in
set_option maxHeartbeats 8000000 in
theorem pg_0_false_false (t n : Int) (q : Nat) (ht : t.tmod 4 = 0) (hn : n.tmod 5 = (q : Int)) (hq : q < 5) (h0 : ¬ q ≤ 2) (w : World) :
    Calls Try.prog 8 #[.int .u8 t, .int .u8 n, .bool false] w fun e w' => e = .returned (.bool true) ∧ Below w.heap.size w w' := by
  have HK := Bx.mk (known18_any w)
  have hmk : ∀ W : World, (Instr.makeSlice 36 (.int .i64 8) (.int .i64 8)).run Try.prog W = .ok (.slice (some ⟨W.heap.size, 0, none⟩) 8 8) (W.alloc (.cells (madeCells #[.int .u8 0] 8) 5)) := fun W => make_u8g 8 (by omega) W
  obtain ⟨D, hD⟩ : ∃ D : Int, (q : Int) - 2 = D := ⟨_, rfl⟩
  have fok : decide (D ≤ 0) = false := decide_eq_false (by omega)
  obtain ⟨N, hN⟩ := Int.eq_ofNat_of_zero_le (show 0 ≤ 1190 + D by omega)
  have hNq : N + 2 = 1190 + q := by omega
  have HNb : Bx (N ≤ 1200) := ⟨by omega⟩
  have N1 : wrap64 (N : Int) = (N : Int) := w64s N (by omega)
  have hmkN := fun W => make_u8g N (by omega) W
  have q8 : IntKind.i64.wrap (q : Int) = (q : Int) := i64s q (by omega)
  have D1 : wrap64 D = D := by unfold wrap64; omega
  have HEx : ∀ g0 : Nat, Bx (pkW (phM ⟨false, 0, 0, .slice (some ⟨g0, 0, none⟩) 8 8, List.replicate 8 0, .slice none 0 0, [], 0, 1⟩) (List.replicate N 0) = none) := fun g0 => ⟨pkW_big ⟨false, 0, 0, .slice (some ⟨g0, 0, none⟩) 8 8, List.replicate 8 0, .slice none 0 0, [], 0, 1⟩ (List.replicate N 0) 1 rfl (by unfold goodB; simp) (by
    simp only [pkHd, Bool.false_eq_true, if_false, List.length_cons, List.length_append, List.length_replicate, bes_len, List.length_nil]
    omega)⟩
  clear hNq
  clear hq h0
  go_enter Try.func8, Try.ntmps8
  go_upto_region 5 with (go_at_call 24; refine HK.out.mono ?_; rintro e w0 ⟨rfl, b1⟩; have HB1 := Bx.mk b1; clear b1)
  have HV0 : Bx (Bs (w0.alloc (.cells (madeCells #[.int .u8 0] 8) 5)) (.slice (some ⟨w0.heap.size, 0, none⟩) 8 8) (List.replicate 8 0)) := ⟨Bs.madeg w0 8 (by omega)⟩
  have HB0 : Bx (Below w.heap.size w (w0.alloc (.cells (madeCells #[.int .u8 0] 8) 5))) := ⟨HB1.out.alloc HB1.out.size _⟩
  have hgs : (w0.alloc (.cells (madeCells #[.int .u8 0] 8) 5)).heap.size = w0.heap.size + 1 := by simp
  have HW0 : Bx (w.heap.size ≤ w0.heap.size) := ⟨HB1.out.size⟩
  generalize w0.alloc (.cells (madeCells #[.int .u8 0] 8) 5) = W1 at HV0 HB0 hgs ⊢
  obtain ⟨g0, hg0⟩ : ∃ g, w0.heap.size = g := ⟨_, rfl⟩
  obtain ⟨g1, hg1⟩ : ∃ g, w0.heap.size + 1 = g := ⟨_, rfl⟩
  rw [hg1] at hgs
  rw [hg0] at HV0 HW0
  have HGG : Bx (w.heap.size ≤ g1) := ⟨by have := HW0.out; omega⟩
  try simp only [hg1]
  try simp only [hg0]
  have HS1 : Bx (Sb 38 (W1.alloc (.cells #[.bool false, .int .i64 0, .int .u32 0, .slice (some ⟨g0, 0, none⟩) 8 8, .slice none 0 0, .int .u64 0, .int .i64 1] 38)) g1 #[.bool false, .int .i64 0, .int .u32 0, .slice (some ⟨g0, 0, none⟩) 8 8, .slice none 0 0, .int .u64 0, .int .i64 1]) := ⟨Sb.newg _ _ _ hgs _⟩
  have HV1 : Bx (Bs (W1.alloc (.cells #[.bool false, .int .i64 0, .int .u32 0, .slice (some ⟨g0, 0, none⟩) 8 8, .slice none 0 0, .int .u64 0, .int .i64 1] 38)) (.slice (some ⟨g0, 0, none⟩) 8 8) (List.replicate 8 0)) := ⟨HV0.out.keep ((Below.refl _ _).alloc (Nat.le_refl _) _)⟩
  have HB2 : Bx (Below w.heap.size w (W1.alloc (.cells #[.bool false, .int .i64 0, .int .u32 0, .slice (some ⟨g0, 0, none⟩) 8 8, .slice none 0 0, .int .u64 0, .int .i64 1] 38))) := ⟨HB0.out.alloc HB0.out.size _⟩
  generalize W1.alloc (.cells #[.bool false, .int .i64 0, .int .u32 0, .slice (some ⟨g0, 0, none⟩) 8 8, .slice none 0 0, .int .u64 0, .int .i64 1] 38) = W2 at HS1 HV1 HB2 ⊢
  have HGL : Bx (g1 < W2.heap.size) := ⟨HS1.out.lt⟩
  clear hgs hmk hg1 hg0
  go_upto_region 19 with fail
  have HP5 : Bx (Bs (W2.alloc (.cells (madeCells #[.int .u8 0] N) 5)) (.slice (some ⟨W2.heap.size, 0, none⟩) N N) (List.replicate N 0)) := ⟨Bs.madeg W2 N (by have := HNb.out; omega)⟩
  have HS5 : Bx (Sb 38 (W2.alloc (.cells (madeCells #[.int .u8 0] N) 5)) g1 #[.bool false, .int .i64 0, .int .u32 ((0 : Nat) : Int), .slice (some ⟨g0, 0, none⟩) 8 8, .slice none 0 0, .int .u64 ((0 : Nat) : Int), .int .i64 1]) := ⟨HS1.out.alloc _⟩
  have HD5 : Bx (Bs (W2.alloc (.cells (madeCells #[.int .u8 0] N) 5)) (.slice (some ⟨g0, 0, none⟩) 8 8) (List.replicate 8 0)) := ⟨HV1.out.keep ((Below.refl _ _).alloc (Nat.le_refl _) _)⟩
  have HB5 : Bx (Below w.heap.size w (W2.alloc (.cells (madeCells #[.int .u8 0] N) 5))) := ⟨HB2.out.alloc HB2.out.size _⟩
  obtain ⟨h5, hh5⟩ : ∃ h, W2.heap.size = h := ⟨_, rfl⟩
  generalize W2.alloc (.cells (madeCells #[.int .u8 0] N) 5) = W5 at HP5 HS5 HD5 HB5 ⊢
  rw [hh5] at HP5
  try simp only [hh5]
  have HEx := HEx g0
  have HOk : Bx (hdOk ⟨false, 0, 0, .slice (some ⟨g0, 0, none⟩) 8 8, List.replicate 8 0, .slice none 0 0, [], 0, 1⟩) := ⟨by unfold hdOk; simp⟩
  have HPL : Bx ((List.replicate N (0 : UInt8)).length ≤ 50000) := ⟨by have := HNb.out; simp; omega⟩
  clear hmkN N1 hN hD hh5
  have HQ := Bx.mk (fun W (h1 : Bs W (.slice (some ⟨g0, 0, none⟩) 8 8) (List.replicate 8 0)) (h2 : Bs W (.slice (some ⟨h5, 0, none⟩) N N) (List.replicate N 0)) => qWrite_any ⟨false, 0, 0, .slice (some ⟨g0, 0, none⟩) 8 8, List.replicate 8 0, .slice none 0 0, [], 0, 1⟩ (.slice (some ⟨h5, 0, none⟩) N N) (List.replicate N 0) W HOk.out h1 (Rd.nil W) h2 HPL.out)
  have HR := Bx.mk (fun W (h1 : Bs W (.slice (some ⟨g0, 0, none⟩) 8 8) (List.replicate 8 0)) (h2 : Bs W (.slice (some ⟨h5, 0, none⟩) N N) (List.replicate N 0)) => refPkW_any ⟨false, 0, 0, .slice (some ⟨g0, 0, none⟩) 8 8, List.replicate 8 0, .slice none 0 0, [], 0, 1⟩ (.slice (some ⟨h5, 0, none⟩) N N) (List.replicate N 0) W HOk.out h1 (Rd.nil W) h2)
  have hX := HEx.out
  rw [hX] at HQ HR
  clear hX
  obtain ⟨x0, x1, x2, x3, x4, x5, x6⟩ := hdcE (ver := 0) HS5.out
  go_wp2_with (first
    | (go_at_call 28
       refine (HQ.out _ HD5.out HP5.out).mono ?_
       rintro e w6 ⟨rfl, b6⟩
       have HB6 := Bx.mk (HB5.out.trans (b6.mono HB5.out.size))
       have HD6 := Bx.mk (HD5.out.keep b6)
       have HP6 := Bx.mk (HP5.out.keep b6)
       obtain ⟨y0, y1, y2, y3, y4, y5, y6⟩ := hdcE (ver := 0) (HS5.out.keep b6)
       clear b6)
    | (go_at_call 25
       refine (HR.out _ HD6.out HP6.out).mono ?_
       rintro e w7 ⟨rfl, b7⟩
       have HB7 := Bx.mk (HB6.out.trans (b7.mono HB6.out.size))
       clear b7))
  go_ret
  exact ⟨rfl, HB7.out⟩
set_option maxRecDepth 100000 in
set_option maxHeartbeats 8000000 in
theorem pg_0_true_true (t n : Int) (q : Nat) (ht : t.tmod 4 = 0) (hn : n.tmod 5 = (q : Int)) (hq : q < 5) (h0 : q ≤ 2) (w : World) :
    Calls Try.prog 8 #[.int .u8 t, .int .u8 n, .bool true] w fun e w' => e = .returned (.bool true) ∧ Below w.heap.size w w' := by
  have HK := Bx.mk (known18_any w)
  have hmk : ∀ W : World, (Instr.makeSlice 36 (.int .i64 8) (.int .i64 8)).run Try.prog W = .ok (.slice (some ⟨W.heap.size, 0, none⟩) 8 8) (W.alloc (.cells (madeCells #[.int .u8 0] 8) 5)) := fun W => make_u8g 8 (by omega) W
  obtain ⟨D, hD⟩ : ∃ D : Int, (q : Int) - 2 = D := ⟨_, rfl⟩
  have fok : decide (D ≤ 0) = true := decide_eq_true (by omega)
  obtain ⟨N, hN⟩ := Int.eq_ofNat_of_zero_le (show 0 ≤ 1182 + D by omega)
  have hNq : N + 2 = 1182 + q := by omega
  have HNb : Bx (N ≤ 1200) := ⟨by omega⟩
  have N1 : wrap64 (N : Int) = (N : Int) := w64s N (by omega)
  have hmkN := fun W => make_u8g N (by omega) W
  have q8 : IntKind.i64.wrap (q : Int) = (q : Int) := i64s q (by omega)
  have D1 : wrap64 D = D := by unfold wrap64; omega
  have HEx : ∀ g0 : Nat, Bx (∃ X, pkW (phM ⟨true, 0, 0, .slice (some ⟨g0, 0, none⟩) 8 8, List.replicate 8 0, .slice none 0 0, [], 0, 1⟩) (List.replicate N 0) = some X ∧ X.length ≤ 1200) := fun g0 => ⟨pkW_ex ⟨true, 0, 0, .slice (some ⟨g0, 0, none⟩) 8 8, List.replicate 8 0, .slice none 0 0, [], 0, 1⟩ (List.replicate N 0) 1 rfl (by unfold goodB; simp) (by
    have hv := varB_len2 (1 + (List.replicate N (0 : UInt8)).length) (by simp; omega) (by simp; omega)
    simp only [List.length_replicate] at hv ⊢
    simp only [pkHd, lhB, if_true, List.length_cons, List.length_append, List.length_replicate, bes_len, List.length_nil, hv]
    omega)⟩
  clear hNq
  clear hq h0
  go_enter Try.func8, Try.ntmps8
  go_upto_region 5 with (go_at_call 24; refine HK.out.mono ?_; rintro e w0 ⟨rfl, b1⟩; have HB1 := Bx.mk b1; clear b1)
  have HV0 : Bx (Bs (w0.alloc (.cells (madeCells #[.int .u8 0] 8) 5)) (.slice (some ⟨w0.heap.size, 0, none⟩) 8 8) (List.replicate 8 0)) := ⟨Bs.madeg w0 8 (by omega)⟩
  have HB0 : Bx (Below w.heap.size w (w0.alloc (.cells (madeCells #[.int .u8 0] 8) 5))) := ⟨HB1.out.alloc HB1.out.size _⟩
  have hgs : (w0.alloc (.cells (madeCells #[.int .u8 0] 8) 5)).heap.size = w0.heap.size + 1 := by simp
  have HW0 : Bx (w.heap.size ≤ w0.heap.size) := ⟨HB1.out.size⟩
  generalize w0.alloc (.cells (madeCells #[.int .u8 0] 8) 5) = W1 at HV0 HB0 hgs ⊢
  obtain ⟨g0, hg0⟩ : ∃ g, w0.heap.size = g := ⟨_, rfl⟩
  obtain ⟨g1, hg1⟩ : ∃ g, w0.heap.size + 1 = g := ⟨_, rfl⟩
  rw [hg1] at hgs
  rw [hg0] at HV0 HW0
  have HGG : Bx (w.heap.size ≤ g1) := ⟨by have := HW0.out; omega⟩
  try simp only [hg1]
  try simp only [hg0]
  have HS1 : Bx (Sb 38 (W1.alloc (.cells #[.bool true, .int .i64 0, .int .u32 0, .slice (some ⟨g0, 0, none⟩) 8 8, .slice none 0 0, .int .u64 0, .int .i64 1] 38)) g1 #[.bool true, .int .i64 0, .int .u32 0, .slice (some ⟨g0, 0, none⟩) 8 8, .slice none 0 0, .int .u64 0, .int .i64 1]) := ⟨Sb.newg _ _ _ hgs _⟩
  have HV1 : Bx (Bs (W1.alloc (.cells #[.bool true, .int .i64 0, .int .u32 0, .slice (some ⟨g0, 0, none⟩) 8 8, .slice none 0 0, .int .u64 0, .int .i64 1] 38)) (.slice (some ⟨g0, 0, none⟩) 8 8) (List.replicate 8 0)) := ⟨HV0.out.keep ((Below.refl _ _).alloc (Nat.le_refl _) _)⟩
  have HB2 : Bx (Below w.heap.size w (W1.alloc (.cells #[.bool true, .int .i64 0, .int .u32 0, .slice (some ⟨g0, 0, none⟩) 8 8, .slice none 0 0, .int .u64 0, .int .i64 1] 38))) := ⟨HB0.out.alloc HB0.out.size _⟩
  generalize W1.alloc (.cells #[.bool true, .int .i64 0, .int .u32 0, .slice (some ⟨g0, 0, none⟩) 8 8, .slice none 0 0, .int .u64 0, .int .i64 1] 38) = W2 at HS1 HV1 HB2 ⊢
  have HGL : Bx (g1 < W2.heap.size) := ⟨HS1.out.lt⟩
  clear hgs hmk hg1 hg0
  go_upto_region 19 with fail
  have HP5 : Bx (Bs (W2.alloc (.cells (madeCells #[.int .u8 0] N) 5)) (.slice (some ⟨W2.heap.size, 0, none⟩) N N) (List.replicate N 0)) := ⟨Bs.madeg W2 N (by have := HNb.out; omega)⟩
  have HS5 : Bx (Sb 38 (W2.alloc (.cells (madeCells #[.int .u8 0] N) 5)) g1 #[.bool true, .int .i64 0, .int .u32 ((0 : Nat) : Int), .slice (some ⟨g0, 0, none⟩) 8 8, .slice none 0 0, .int .u64 ((0 : Nat) : Int), .int .i64 1]) := ⟨HS1.out.alloc _⟩
  have HD5 : Bx (Bs (W2.alloc (.cells (madeCells #[.int .u8 0] N) 5)) (.slice (some ⟨g0, 0, none⟩) 8 8) (List.replicate 8 0)) := ⟨HV1.out.keep ((Below.refl _ _).alloc (Nat.le_refl _) _)⟩
  have HB5 : Bx (Below w.heap.size w (W2.alloc (.cells (madeCells #[.int .u8 0] N) 5))) := ⟨HB2.out.alloc HB2.out.size _⟩
  obtain ⟨h5, hh5⟩ : ∃ h, W2.heap.size = h := ⟨_, rfl⟩
  generalize W2.alloc (.cells (madeCells #[.int .u8 0] N) 5) = W5 at HP5 HS5 HD5 HB5 ⊢
  rw [hh5] at HP5
  try simp only [hh5]
  have HEx := HEx g0
  have HOk : Bx (hdOk ⟨true, 0, 0, .slice (some ⟨g0, 0, none⟩) 8 8, List.replicate 8 0, .slice none 0 0, [], 0, 1⟩) := ⟨by unfold hdOk; simp⟩
  have HPL : Bx ((List.replicate N (0 : UInt8)).length ≤ 50000) := ⟨by have := HNb.out; simp; omega⟩
  clear hmkN N1 hN hD hh5
  have HQ := Bx.mk (fun W (h1 : Bs W (.slice (some ⟨g0, 0, none⟩) 8 8) (List.replicate 8 0)) (h2 : Bs W (.slice (some ⟨h5, 0, none⟩) N N) (List.replicate N 0)) => qWrite_any ⟨true, 0, 0, .slice (some ⟨g0, 0, none⟩) 8 8, List.replicate 8 0, .slice none 0 0, [], 0, 1⟩ (.slice (some ⟨h5, 0, none⟩) N N) (List.replicate N 0) W HOk.out h1 (Rd.nil W) h2 HPL.out)
  have HR := Bx.mk (fun W (h1 : Bs W (.slice (some ⟨g0, 0, none⟩) 8 8) (List.replicate 8 0)) (h2 : Bs W (.slice (some ⟨h5, 0, none⟩) N N) (List.replicate N 0)) => refPkW_any ⟨true, 0, 0, .slice (some ⟨g0, 0, none⟩) 8 8, List.replicate 8 0, .slice none 0 0, [], 0, 1⟩ (.slice (some ⟨h5, 0, none⟩) N N) (List.replicate N 0) W HOk.out h1 (Rd.nil W) h2)
  obtain ⟨X, hX, hXl⟩ := HEx.out
  rw [hX] at HQ HR
  obtain ⟨L, hL⟩ : ∃ L, X.length = L := ⟨_, rfl⟩
  have HXL := Bx.mk hL
  have fL : decide ((L : Int) ≤ 1200) = true := decide_eq_true (by omega)
  have fLn : decide (L ≤ 1200) = true := decide_eq_true (by omega)
  clear hX hL hXl
  obtain ⟨x0, x1, x2, x3, x4, x5, x6⟩ := hdcE (ver := 0) HS5.out
  go_wp2_with (first
    | (go_at_call 28
       refine (HQ.out _ HD5.out HP5.out).mono ?_
       rintro e w6 ⟨v6, rfl, h6, b6⟩
       have hl6 := fun tr W => (show Bs w6 v6 X from Ap.rd h6).run_len tr W
       rw [HXL.out] at hl6
       clear h6
       have HB6 := Bx.mk (HB5.out.trans (b6.mono HB5.out.size))
       have HD6 := Bx.mk (HD5.out.keep b6)
       have HP6 := Bx.mk (HP5.out.keep b6)
       obtain ⟨y0, y1, y2, y3, y4, y5, y6⟩ := hdcE (ver := 0) (HS5.out.keep b6)
       clear b6)
    | (go_at_call 25
       refine (HR.out _ HD6.out HP6.out).mono ?_
       rintro e w7 ⟨v7, rfl, h7, b7⟩
       have HB7 := Bx.mk (HB6.out.trans (b7.mono HB6.out.size))
       clear b7 h7))
  go_ret
  exact ⟨rfl, HB7.out⟩
set_option maxRecDepth 100000 in
set_option maxHeartbeats 8000000 in
theorem pg_0_true_false (t n : Int) (q : Nat) (ht : t.tmod 4 = 0) (hn : n.tmod 5 = (q : Int)) (hq : q < 5) (h0 : ¬ q ≤ 2) (w : World) :
    Calls Try.prog 8 #[.int .u8 t, .int .u8 n, .bool true] w fun e w' => e = .returned (.bool true) ∧ Below w.heap.size w w' := by
  have HK := Bx.mk (known18_any w)
  have hmk : ∀ W : World, (Instr.makeSlice 36 (.int .i64 8) (.int .i64 8)).run Try.prog W = .ok (.slice (some ⟨W.heap.size, 0, none⟩) 8 8) (W.alloc (.cells (madeCells #[.int .u8 0] 8) 5)) := fun W => make_u8g 8 (by omega) W
  obtain ⟨D, hD⟩ : ∃ D : Int, (q : Int) - 2 = D := ⟨_, rfl⟩
  have fok : decide (D ≤ 0) = false := decide_eq_false (by omega)
  obtain ⟨N, hN⟩ := Int.eq_ofNat_of_zero_le (show 0 ≤ 1182 + D by omega)
  have hNq : N + 2 = 1182 + q := by omega
  have HNb : Bx (N ≤ 1200) := ⟨by omega⟩
  have N1 : wrap64 (N : Int) = (N : Int) := w64s N (by omega)
  have hmkN := fun W => make_u8g N (by omega) W
  have q8 : IntKind.i64.wrap (q : Int) = (q : Int) := i64s q (by omega)
  have D1 : wrap64 D = D := by unfold wrap64; omega
  have HEx : ∀ g0 : Nat, Bx (pkW (phM ⟨true, 0, 0, .slice (some ⟨g0, 0, none⟩) 8 8, List.replicate 8 0, .slice none 0 0, [], 0, 1⟩) (List.replicate N 0) = none) := fun g0 => ⟨pkW_big ⟨true, 0, 0, .slice (some ⟨g0, 0, none⟩) 8 8, List.replicate 8 0, .slice none 0 0, [], 0, 1⟩ (List.replicate N 0) 1 rfl (by unfold goodB; simp) (by
    have hv := varB_len2 (1 + (List.replicate N (0 : UInt8)).length) (by simp; omega) (by simp; omega)
    simp only [List.length_replicate] at hv ⊢
    simp only [pkHd, lhB, if_true, List.length_cons, List.length_append, List.length_replicate, bes_len, List.length_nil, hv]
    omega)⟩
  clear hNq
  clear hq h0
  go_enter Try.func8, Try.ntmps8
  go_upto_region 5 with (go_at_call 24; refine HK.out.mono ?_; rintro e w0 ⟨rfl, b1⟩; have HB1 := Bx.mk b1; clear b1)
  have HV0 : Bx (Bs (w0.alloc (.cells (madeCells #[.int .u8 0] 8) 5)) (.slice (some ⟨w0.heap.size, 0, none⟩) 8 8) (List.replicate 8 0)) := ⟨Bs.madeg w0 8 (by omega)⟩
  have HB0 : Bx (Below w.heap.size w (w0.alloc (.cells (madeCells #[.int .u8 0] 8) 5))) := ⟨HB1.out.alloc HB1.out.size _⟩
  have hgs : (w0.alloc (.cells (madeCells #[.int .u8 0] 8) 5)).heap.size = w0.heap.size + 1 := by simp
  have HW0 : Bx (w.heap.size ≤ w0.heap.size) := ⟨HB1.out.size⟩
  generalize w0.alloc (.cells (madeCells #[.int .u8 0] 8) 5) = W1 at HV0 HB0 hgs ⊢
  obtain ⟨g0, hg0⟩ : ∃ g, w0.heap.size = g := ⟨_, rfl⟩
  obtain ⟨g1, hg1⟩ : ∃ g, w0.heap.size + 1 = g := ⟨_, rfl⟩
  rw [hg1] at hgs
  rw [hg0] at HV0 HW0
  have HGG : Bx (w.heap.size ≤ g1) := ⟨by have := HW0.out; omega⟩
  try simp only [hg1]
  try simp only [hg0]
  have HS1 : Bx (Sb 38 (W1.alloc (.cells #[.bool true, .int .i64 0, .int .u32 0, .slice (some ⟨g0, 0, none⟩) 8 8, .slice none 0 0, .int .u64 0, .int .i64 1] 38)) g1 #[.bool true, .int .i64 0, .int .u32 0, .slice (some ⟨g0, 0, none⟩) 8 8, .slice none 0 0, .int .u64 0, .int .i64 1]) := ⟨Sb.newg _ _ _ hgs _⟩
  have HV1 : Bx (Bs (W1.alloc (.cells #[.bool true, .int .i64 0, .int .u32 0, .slice (some ⟨g0, 0, none⟩) 8 8, .slice none 0 0, .int .u64 0, .int .i64 1] 38)) (.slice (some ⟨g0, 0, none⟩) 8 8) (List.replicate 8 0)) := ⟨HV0.out.keep ((Below.refl _ _).alloc (Nat.le_refl _) _)⟩
  have HB2 : Bx (Below w.heap.size w (W1.alloc (.cells #[.bool true, .int .i64 0, .int .u32 0, .slice (some ⟨g0, 0, none⟩) 8 8, .slice none 0 0, .int .u64 0, .int .i64 1] 38))) := ⟨HB0.out.alloc HB0.out.size _⟩
  generalize W1.alloc (.cells #[.bool true, .int .i64 0, .int .u32 0, .slice (some ⟨g0, 0, none⟩) 8 8, .slice none 0 0, .int .u64 0, .int .i64 1] 38) = W2 at HS1 HV1 HB2 ⊢
  have HGL : Bx (g1 < W2.heap.size) := ⟨HS1.out.lt⟩
  clear hgs hmk hg1 hg0
  go_upto_region 19 with fail
  have HP5 : Bx (Bs (W2.alloc (.cells (madeCells #[.int .u8 0] N) 5)) (.slice (some ⟨W2.heap.size, 0, none⟩) N N) (List.replicate N 0)) := ⟨Bs.madeg W2 N (by have := HNb.out; omega)⟩
  have HS5 : Bx (Sb 38 (W2.alloc (.cells (madeCells #[.int .u8 0] N) 5)) g1 #[.bool true, .int .i64 0, .int .u32 ((0 : Nat) : Int), .slice (some ⟨g0, 0, none⟩) 8 8, .slice none 0 0, .int .u64 ((0 : Nat) : Int), .int .i64 1]) := ⟨HS1.out.alloc _⟩
  have HD5 : Bx (Bs (W2.alloc (.cells (madeCells #[.int .u8 0] N) 5)) (.slice (some ⟨g0, 0, none⟩) 8 8) (List.replicate 8 0)) := ⟨HV1.out.keep ((Below.refl _ _).alloc (Nat.le_refl _) _)⟩
  have HB5 : Bx (Below w.heap.size w (W2.alloc (.cells (madeCells #[.int .u8 0] N) 5))) := ⟨HB2.out.alloc HB2.out.size _⟩
  obtain ⟨h5, hh5⟩ : ∃ h, W2.heap.size = h := ⟨_, rfl⟩
  generalize W2.alloc (.cells (madeCells #[.int .u8 0] N) 5) = W5 at HP5 HS5 HD5 HB5 ⊢
  rw [hh5] at HP5
  try simp only [hh5]
  have HEx := HEx g0
  have HOk : Bx (hdOk ⟨true, 0, 0, .slice (some ⟨g0, 0, none⟩) 8 8, List.replicate 8 0, .slice none 0 0, [], 0, 1⟩) := ⟨by unfold hdOk; simp⟩
  have HPL : Bx ((List.replicate N (0 : UInt8)).length ≤ 50000) := ⟨by have := HNb.out; simp; omega⟩
  clear hmkN N1 hN hD hh5
  have HQ := Bx.mk (fun W (h1 : Bs W (.slice (some ⟨g0, 0, none⟩) 8 8) (List.replicate 8 0)) (h2 : Bs W (.slice (some ⟨h5, 0, none⟩) N N) (List.replicate N 0)) => qWrite_any ⟨true, 0, 0, .slice (some ⟨g0, 0, none⟩) 8 8, List.replicate 8 0, .slice none 0 0, [], 0, 1⟩ (.slice (some ⟨h5, 0, none⟩) N N) (List.replicate N 0) W HOk.out h1 (Rd.nil W) h2 HPL.out)
  have HR := Bx.mk (fun W (h1 : Bs W (.slice (some ⟨g0, 0, none⟩) 8 8) (List.replicate 8 0)) (h2 : Bs W (.slice (some ⟨h5, 0, none⟩) N N) (List.replicate N 0)) => refPkW_any ⟨true, 0, 0, .slice (some ⟨g0, 0, none⟩) 8 8, List.replicate 8 0, .slice none 0 0, [], 0, 1⟩ (.slice (some ⟨h5, 0, none⟩) N N) (List.replicate N 0) W HOk.out h1 (Rd.nil W) h2)
  have hX := HEx.out
  rw [hX] at HQ HR
  clear hX
  obtain ⟨x0, x1, x2, x3, x4, x5, x6⟩ := hdcE (ver := 0) HS5.out
  go_wp2_with (first
    | (go_at_call 28
       refine (HQ.out _ HD5.out HP5.out).mono ?_
       rintro e w6 ⟨rfl, b6⟩
       have HB6 := Bx.mk (HB5.out.trans (b6.mono HB5.out.size))
       have HD6 := Bx.mk (HD5.out.keep b6)
       have HP6 := Bx.mk (HP5.out.keep b6)
       obtain ⟨y0, y1, y2, y3, y4, y5, y6⟩ := hdcE (ver := 0) (HS5.out.keep b6)
       clear b6)
    | (go_at_call 25
       refine (HR.out _ HD6.out HP6.out).mono ?_
       rintro e w7 ⟨rfl, b7⟩
       have HB7 := Bx.mk (HB6.out.trans (b7.mono HB6.out.size))
       clear b7))
  go_ret
  exact ⟨rfl, HB7.out⟩
set_option maxRecDepth 100000 in
set_option maxHeartbeats 8000000 in
theorem pg_1_false_true (t n : Int) (q : Nat) (ht : t.tmod 4 = 1) (hn : n.tmod 5 = (q : Int)) (hq : q < 5) (h0 : q ≤ 2) (w : World) :
    Calls Try.prog 8 #[.int .u8 t, .int .u8 n, .bool false] w fun e w' => e = .returned (.bool true) ∧ Below w.heap.size w w' := by
  have HK := Bx.mk (known18_any w)
  have hmk : ∀ W : World, (Instr.makeSlice 36 (.int .i64 8) (.int .i64 8)).run Try.prog W = .ok (.slice (some ⟨W.heap.size, 0, none⟩) 8 8) (W.alloc (.cells (madeCells #[.int .u8 0] 8) 5)) := fun W => make_u8g 8 (by omega) W
  obtain ⟨D, hD⟩ : ∃ D : Int, (q : Int) - 2 = D := ⟨_, rfl⟩
  have fok : decide (D ≤ 0) = true := decide_eq_true (by omega)
  obtain ⟨N, hN⟩ := Int.eq_ofNat_of_zero_le (show 0 ≤ 20 + D by omega)
  have hNq : N + 2 = 20 + q := by omega
  have HNb : Bx (18 ≤ N ∧ N ≤ 22) := ⟨by omega⟩
  have N1 : wrap64 (N : Int) = (N : Int) := w64s N (by omega)
  have hmkN := fun W => make_u8g N (by omega) W
  have q8 : IntKind.i64.wrap (q : Int) = (q : Int) := i64s q (by omega)
  have D1 : wrap64 D = D := by unfold wrap64; omega
  have HEx : ∀ h5 : Nat, Bx (pkW (phM ⟨false, 0, 0, .slice (some ⟨h5, 0, none⟩) N N, List.replicate N 0, .slice none 0 0, [], 0, 1⟩) [] = none) := fun h5 => ⟨pkW_no ⟨false, 0, 0, .slice (some ⟨h5, 0, none⟩) N N, List.replicate N 0, .slice none 0 0, [], 0, 1⟩ [] (by unfold goodB; simp; omega)⟩
  clear hNq
  clear hq h0
  go_enter Try.func8, Try.ntmps8
  go_upto_region 5 with (go_at_call 24; refine HK.out.mono ?_; rintro e w0 ⟨rfl, b1⟩; have HB1 := Bx.mk b1; clear b1)
  have HV0 : Bx (Bs (w0.alloc (.cells (madeCells #[.int .u8 0] 8) 5)) (.slice (some ⟨w0.heap.size, 0, none⟩) 8 8) (List.replicate 8 0)) := ⟨Bs.madeg w0 8 (by omega)⟩
  have HB0 : Bx (Below w.heap.size w (w0.alloc (.cells (madeCells #[.int .u8 0] 8) 5))) := ⟨HB1.out.alloc HB1.out.size _⟩
  have hgs : (w0.alloc (.cells (madeCells #[.int .u8 0] 8) 5)).heap.size = w0.heap.size + 1 := by simp
  have HW0 : Bx (w.heap.size ≤ w0.heap.size) := ⟨HB1.out.size⟩
  generalize w0.alloc (.cells (madeCells #[.int .u8 0] 8) 5) = W1 at HV0 HB0 hgs ⊢
  obtain ⟨g0, hg0⟩ : ∃ g, w0.heap.size = g := ⟨_, rfl⟩
  obtain ⟨g1, hg1⟩ : ∃ g, w0.heap.size + 1 = g := ⟨_, rfl⟩
  rw [hg1] at hgs
  rw [hg0] at HV0 HW0
  have HGG : Bx (w.heap.size ≤ g1) := ⟨by have := HW0.out; omega⟩
  try simp only [hg1]
  try simp only [hg0]
  have HS1 : Bx (Sb 38 (W1.alloc (.cells #[.bool false, .int .i64 0, .int .u32 0, .slice (some ⟨g0, 0, none⟩) 8 8, .slice none 0 0, .int .u64 0, .int .i64 1] 38)) g1 #[.bool false, .int .i64 0, .int .u32 0, .slice (some ⟨g0, 0, none⟩) 8 8, .slice none 0 0, .int .u64 0, .int .i64 1]) := ⟨Sb.newg _ _ _ hgs _⟩
  have HV1 : Bx (Bs (W1.alloc (.cells #[.bool false, .int .i64 0, .int .u32 0, .slice (some ⟨g0, 0, none⟩) 8 8, .slice none 0 0, .int .u64 0, .int .i64 1] 38)) (.slice (some ⟨g0, 0, none⟩) 8 8) (List.replicate 8 0)) := ⟨HV0.out.keep ((Below.refl _ _).alloc (Nat.le_refl _) _)⟩
  have HB2 : Bx (Below w.heap.size w (W1.alloc (.cells #[.bool false, .int .i64 0, .int .u32 0, .slice (some ⟨g0, 0, none⟩) 8 8, .slice none 0 0, .int .u64 0, .int .i64 1] 38))) := ⟨HB0.out.alloc HB0.out.size _⟩
  generalize W1.alloc (.cells #[.bool false, .int .i64 0, .int .u32 0, .slice (some ⟨g0, 0, none⟩) 8 8, .slice none 0 0, .int .u64 0, .int .i64 1] 38) = W2 at HS1 HV1 HB2 ⊢
  have HGL : Bx (g1 < W2.heap.size) := ⟨HS1.out.lt⟩
  clear hgs hmk hg1 hg0
  obtain ⟨c0, c1, c2, c3, c4, c5, c6⟩ := hdcE (ver := 0) (pn := 0) HS1.out
  have z3 : ∀ o, (W2.alloc o).frozen? ⟨g1, 3, none⟩ = false := fun o => (HS1.out.alloc o).free 3
  have c3 : ∀ o, (W2.alloc o).cell? ⟨g1, 3, none⟩ = some (.slice (some ⟨g0, 0, none⟩) 8 8) := fun o => (hdcE (ver := 0) (pn := 0) (HS1.out.alloc o)).2.2.2.1
  go_upto_region 19 with fail
  clear c0 c1 c2 c3 c4 c5 c6 z3
  have HPn : Bx (Bs (W2.alloc (.cells (madeCells #[.int .u8 0] N) 5)) (.slice (some ⟨W2.heap.size, 0, none⟩) N N) (List.replicate N 0)) := ⟨Bs.madeg W2 N (by have := HNb.out; omega)⟩
  have HSn : Bx (Sb 38 (W2.alloc (.cells (madeCells #[.int .u8 0] N) 5)) g1 #[.bool false, .int .i64 0, .int .u32 ((0 : Nat) : Int), .slice (some ⟨g0, 0, none⟩) 8 8, .slice none 0 0, .int .u64 ((0 : Nat) : Int), .int .i64 1]) := ⟨HS1.out.alloc _⟩
  have HBn : Bx (Below w.heap.size w (W2.alloc (.cells (madeCells #[.int .u8 0] N) 5))) := ⟨HB2.out.alloc HB2.out.size _⟩
  obtain ⟨h5, hh5⟩ : ∃ h, W2.heap.size = h := ⟨_, rfl⟩
  generalize W2.alloc (.cells (madeCells #[.int .u8 0] N) 5) = W4 at HPn HSn HBn ⊢
  rw [hh5] at HPn HGL
  try simp only [hh5]
  have HD5 : Bx (Bs (W4.setCell ⟨g1, 3, none⟩ (.slice (some ⟨h5, 0, none⟩) N N)) (.slice (some ⟨h5, 0, none⟩) N N) (List.replicate N 0)) := ⟨Rd.setOtherg HPn.out _ (by have := HGL.out; omega)⟩
  have HS5 : Bx (Sb 38 (W4.setCell ⟨g1, 3, none⟩ (.slice (some ⟨h5, 0, none⟩) N N)) g1 #[.bool false, .int .i64 0, .int .u32 ((0 : Nat) : Int), .slice (some ⟨h5, 0, none⟩) N N, .slice none 0 0, .int .u64 ((0 : Nat) : Int), .int .i64 1]) := ⟨Sb.set HSn.out 3 (.slice (some ⟨h5, 0, none⟩) N N) (by simp)⟩
  have HB5 : Bx (Below w.heap.size w (W4.setCell ⟨g1, 3, none⟩ (.slice (some ⟨h5, 0, none⟩) N N))) := ⟨HBn.out.grown (grown_set W4 g1 3 _) HBn.out.size (fun k hk => by injection hk with hk; have := HGG.out; omega)⟩
  have HP5 : Bx (Bs (W4.setCell ⟨g1, 3, none⟩ (.slice (some ⟨h5, 0, none⟩) N N)) (.slice none 0 0) []) := ⟨Rd.nil _⟩
  generalize W4.setCell ⟨g1, 3, none⟩ (.slice (some ⟨h5, 0, none⟩) N N) = W5 at HP5 HS5 HD5 HB5 ⊢
  have HEx := HEx h5
  have HOk : Bx (hdOk ⟨false, 0, 0, .slice (some ⟨h5, 0, none⟩) N N, List.replicate N 0, .slice none 0 0, [], 0, 1⟩) := ⟨by unfold hdOk; simp⟩
  have HPL : Bx (([] : List UInt8).length ≤ 50000) := ⟨by simp⟩
  clear hmkN N1 hN hD hh5
  have HQ := Bx.mk (fun W (h1 : Bs W (.slice (some ⟨h5, 0, none⟩) N N) (List.replicate N 0)) (h2 : Bs W (.slice none 0 0) []) => qWrite_any ⟨false, 0, 0, .slice (some ⟨h5, 0, none⟩) N N, List.replicate N 0, .slice none 0 0, [], 0, 1⟩ (.slice none 0 0) [] W HOk.out h1 (Rd.nil W) h2 HPL.out)
  have HR := Bx.mk (fun W (h1 : Bs W (.slice (some ⟨h5, 0, none⟩) N N) (List.replicate N 0)) (h2 : Bs W (.slice none 0 0) []) => refPkW_any ⟨false, 0, 0, .slice (some ⟨h5, 0, none⟩) N N, List.replicate N 0, .slice none 0 0, [], 0, 1⟩ (.slice none 0 0) [] W HOk.out h1 (Rd.nil W) h2)
  have hX := HEx.out
  rw [hX] at HQ HR
  clear hX
  obtain ⟨x0, x1, x2, x3, x4, x5, x6⟩ := hdcE (ver := 0) HS5.out
  go_wp2_with (first
    | (go_at_call 28
       refine (HQ.out _ HD5.out HP5.out).mono ?_
       rintro e w6 ⟨rfl, b6⟩
       have HB6 := Bx.mk (HB5.out.trans (b6.mono HB5.out.size))
       have HD6 := Bx.mk (HD5.out.keep b6)
       have HP6 := Bx.mk (HP5.out.keep b6)
       obtain ⟨y0, y1, y2, y3, y4, y5, y6⟩ := hdcE (ver := 0) (HS5.out.keep b6)
       clear b6)
    | (go_at_call 25
       refine (HR.out _ HD6.out HP6.out).mono ?_
       rintro e w7 ⟨rfl, b7⟩
       have HB7 := Bx.mk (HB6.out.trans (b7.mono HB6.out.size))
       clear b7))
  go_ret
  exact ⟨rfl, HB7.out⟩
set_option maxRecDepth 100000 in
set_option maxHeartbeats 8000000 in
theorem pg_1_false_false (t n : Int) (q : Nat) (ht : t.tmod 4 = 1) (hn : n.tmod 5 = (q : Int)) (hq : q < 5) (h0 : ¬ q ≤ 2) (w : World) :
    Calls Try.prog 8 #[.int .u8 t, .int .u8 n, .bool false] w fun e w' => e = .returned (.bool true) ∧ Below w.heap.size w w' := by
  have HK := Bx.mk (known18_any w)
  have hmk : ∀ W : World, (Instr.makeSlice 36 (.int .i64 8) (.int .i64 8)).run Try.prog W = .ok (.slice (some ⟨W.heap.size, 0, none⟩) 8 8) (W.alloc (.cells (madeCells #[.int .u8 0] 8) 5)) := fun W => make_u8g 8 (by omega) W
  obtain ⟨D, hD⟩ : ∃ D : Int, (q : Int) - 2 = D := ⟨_, rfl⟩
  have fok : decide (D ≤ 0) = false := decide_eq_false (by omega)
  obtain ⟨N, hN⟩ := Int.eq_ofNat_of_zero_le (show 0 ≤ 20 + D by omega)
  have hNq : N + 2 = 20 + q := by omega
  have HNb : Bx (18 ≤ N ∧ N ≤ 22) := ⟨by omega⟩
  have N1 : wrap64 (N : Int) = (N : Int) := w64s N (by omega)
  have hmkN := fun W => make_u8g N (by omega) W
  have q8 : IntKind.i64.wrap (q : Int) = (q : Int) := i64s q (by omega)
  have D1 : wrap64 D = D := by unfold wrap64; omega
  have HEx : ∀ h5 : Nat, Bx (pkW (phM ⟨false, 0, 0, .slice (some ⟨h5, 0, none⟩) N N, List.replicate N 0, .slice none 0 0, [], 0, 1⟩) [] = none) := fun h5 => ⟨pkW_no ⟨false, 0, 0, .slice (some ⟨h5, 0, none⟩) N N, List.replicate N 0, .slice none 0 0, [], 0, 1⟩ [] (by unfold goodB; simp; omega)⟩
  clear hNq
  clear hq h0
  go_enter Try.func8, Try.ntmps8
  go_upto_region 5 with (go_at_call 24; refine HK.out.mono ?_; rintro e w0 ⟨rfl, b1⟩; have HB1 := Bx.mk b1; clear b1)
  have HV0 : Bx (Bs (w0.alloc (.cells (madeCells #[.int .u8 0] 8) 5)) (.slice (some ⟨w0.heap.size, 0, none⟩) 8 8) (List.replicate 8 0)) := ⟨Bs.madeg w0 8 (by omega)⟩
  have HB0 : Bx (Below w.heap.size w (w0.alloc (.cells (madeCells #[.int .u8 0] 8) 5))) := ⟨HB1.out.alloc HB1.out.size _⟩
  have hgs : (w0.alloc (.cells (madeCells #[.int .u8 0] 8) 5)).heap.size = w0.heap.size + 1 := by simp
  have HW0 : Bx (w.heap.size ≤ w0.heap.size) := ⟨HB1.out.size⟩
  generalize w0.alloc (.cells (madeCells #[.int .u8 0] 8) 5) = W1 at HV0 HB0 hgs ⊢
  obtain ⟨g0, hg0⟩ : ∃ g, w0.heap.size = g := ⟨_, rfl⟩
  obtain ⟨g1, hg1⟩ : ∃ g, w0.heap.size + 1 = g := ⟨_, rfl⟩
  rw [hg1] at hgs
  rw [hg0] at HV0 HW0
  have HGG : Bx (w.heap.size ≤ g1) := ⟨by have := HW0.out; omega⟩
  try simp only [hg1]
  try simp only [hg0]
  have HS1 : Bx (Sb 38 (W1.alloc (.cells #[.bool false, .int .i64 0, .int .u32 0, .slice (some ⟨g0, 0, none⟩) 8 8, .slice none 0 0, .int .u64 0, .int .i64 1] 38)) g1 #[.bool false, .int .i64 0, .int .u32 0, .slice (some ⟨g0, 0, none⟩) 8 8, .slice none 0 0, .int .u64 0, .int .i64 1]) := ⟨Sb.newg _ _ _ hgs _⟩
  have HV1 : Bx (Bs (W1.alloc (.cells #[.bool false, .int .i64 0, .int .u32 0, .slice (some ⟨g0, 0, none⟩) 8 8, .slice none 0 0, .int .u64 0, .int .i64 1] 38)) (.slice (some ⟨g0, 0, none⟩) 8 8) (List.replicate 8 0)) := ⟨HV0.out.keep ((Below.refl _ _).alloc (Nat.le_refl _) _)⟩
  have HB2 : Bx (Below w.heap.size w (W1.alloc (.cells #[.bool false, .int .i64 0, .int .u32 0, .slice (some ⟨g0, 0, none⟩) 8 8, .slice none 0 0, .int .u64 0, .int .i64 1] 38))) := ⟨HB0.out.alloc HB0.out.size _⟩
  generalize W1.alloc (.cells #[.bool false, .int .i64 0, .int .u32 0, .slice (some ⟨g0, 0, none⟩) 8 8, .slice none 0 0, .int .u64 0, .int .i64 1] 38) = W2 at HS1 HV1 HB2 ⊢
  have HGL : Bx (g1 < W2.heap.size) := ⟨HS1.out.lt⟩
  clear hgs hmk hg1 hg0
  obtain ⟨c0, c1, c2, c3, c4, c5, c6⟩ := hdcE (ver := 0) (pn := 0) HS1.out
  have z3 : ∀ o, (W2.alloc o).frozen? ⟨g1, 3, none⟩ = false := fun o => (HS1.out.alloc o).free 3
  have c3 : ∀ o, (W2.alloc o).cell? ⟨g1, 3, none⟩ = some (.slice (some ⟨g0, 0, none⟩) 8 8) := fun o => (hdcE (ver := 0) (pn := 0) (HS1.out.alloc o)).2.2.2.1
  go_upto_region 19 with fail
  clear c0 c1 c2 c3 c4 c5 c6 z3
  have HPn : Bx (Bs (W2.alloc (.cells (madeCells #[.int .u8 0] N) 5)) (.slice (some ⟨W2.heap.size, 0, none⟩) N N) (List.replicate N 0)) := ⟨Bs.madeg W2 N (by have := HNb.out; omega)⟩
  have HSn : Bx (Sb 38 (W2.alloc (.cells (madeCells #[.int .u8 0] N) 5)) g1 #[.bool false, .int .i64 0, .int .u32 ((0 : Nat) : Int), .slice (some ⟨g0, 0, none⟩) 8 8, .slice none 0 0, .int .u64 ((0 : Nat) : Int), .int .i64 1]) := ⟨HS1.out.alloc _⟩
  have HBn : Bx (Below w.heap.size w (W2.alloc (.cells (madeCells #[.int .u8 0] N) 5))) := ⟨HB2.out.alloc HB2.out.size _⟩
  obtain ⟨h5, hh5⟩ : ∃ h, W2.heap.size = h := ⟨_, rfl⟩
  generalize W2.alloc (.cells (madeCells #[.int .u8 0] N) 5) = W4 at HPn HSn HBn ⊢
  rw [hh5] at HPn HGL
  try simp only [hh5]
  have HD5 : Bx (Bs (W4.setCell ⟨g1, 3, none⟩ (.slice (some ⟨h5, 0, none⟩) N N)) (.slice (some ⟨h5, 0, none⟩) N N) (List.replicate N 0)) := ⟨Rd.setOtherg HPn.out _ (by have := HGL.out; omega)⟩
  have HS5 : Bx (Sb 38 (W4.setCell ⟨g1, 3, none⟩ (.slice (some ⟨h5, 0, none⟩) N N)) g1 #[.bool false, .int .i64 0, .int .u32 ((0 : Nat) : Int), .slice (some ⟨h5, 0, none⟩) N N, .slice none 0 0, .int .u64 ((0 : Nat) : Int), .int .i64 1]) := ⟨Sb.set HSn.out 3 (.slice (some ⟨h5, 0, none⟩) N N) (by simp)⟩
  have HB5 : Bx (Below w.heap.size w (W4.setCell ⟨g1, 3, none⟩ (.slice (some ⟨h5, 0, none⟩) N N))) := ⟨HBn.out.grown (grown_set W4 g1 3 _) HBn.out.size (fun k hk => by injection hk with hk; have := HGG.out; omega)⟩
  have HP5 : Bx (Bs (W4.setCell ⟨g1, 3, none⟩ (.slice (some ⟨h5, 0, none⟩) N N)) (.slice none 0 0) []) := ⟨Rd.nil _⟩
  generalize W4.setCell ⟨g1, 3, none⟩ (.slice (some ⟨h5, 0, none⟩) N N) = W5 at HP5 HS5 HD5 HB5 ⊢
  have HEx := HEx h5
  have HOk : Bx (hdOk ⟨false, 0, 0, .slice (some ⟨h5, 0, none⟩) N N, List.replicate N 0, .slice none 0 0, [], 0, 1⟩) := ⟨by unfold hdOk; simp⟩
  have HPL : Bx (([] : List UInt8).length ≤ 50000) := ⟨by simp⟩
  clear hmkN N1 hN hD hh5
  have HQ := Bx.mk (fun W (h1 : Bs W (.slice (some ⟨h5, 0, none⟩) N N) (List.replicate N 0)) (h2 : Bs W (.slice none 0 0) []) => qWrite_any ⟨false, 0, 0, .slice (some ⟨h5, 0, none⟩) N N, List.replicate N 0, .slice none 0 0, [], 0, 1⟩ (.slice none 0 0) [] W HOk.out h1 (Rd.nil W) h2 HPL.out)
  have HR := Bx.mk (fun W (h1 : Bs W (.slice (some ⟨h5, 0, none⟩) N N) (List.replicate N 0)) (h2 : Bs W (.slice none 0 0) []) => refPkW_any ⟨false, 0, 0, .slice (some ⟨h5, 0, none⟩) N N, List.replicate N 0, .slice none 0 0, [], 0, 1⟩ (.slice none 0 0) [] W HOk.out h1 (Rd.nil W) h2)
  have hX := HEx.out
  rw [hX] at HQ HR
  clear hX
  obtain ⟨x0, x1, x2, x3, x4, x5, x6⟩ := hdcE (ver := 0) HS5.out
  go_wp2_with (first
    | (go_at_call 28
       refine (HQ.out _ HD5.out HP5.out).mono ?_
       rintro e w6 ⟨rfl, b6⟩
       have HB6 := Bx.mk (HB5.out.trans (b6.mono HB5.out.size))
       have HD6 := Bx.mk (HD5.out.keep b6)
       have HP6 := Bx.mk (HP5.out.keep b6)
       obtain ⟨y0, y1, y2, y3, y4, y5, y6⟩ := hdcE (ver := 0) (HS5.out.keep b6)
       clear b6)
    | (go_at_call 25
       refine (HR.out _ HD6.out HP6.out).mono ?_
       rintro e w7 ⟨rfl, b7⟩
       have HB7 := Bx.mk (HB6.out.trans (b7.mono HB6.out.size))
       clear b7))
  go_ret
  exact ⟨rfl, HB7.out⟩
set_option maxRecDepth 100000 in
set_option maxHeartbeats 8000000 in
theorem pg_1_true_true (t n : Int) (q : Nat) (ht : t.tmod 4 = 1) (hn : n.tmod 5 = (q : Int)) (hq : q < 5) (h0 : q ≤ 2) (w : World) :
    Calls Try.prog 8 #[.int .u8 t, .int .u8 n, .bool true] w fun e w' => e = .returned (.bool true) ∧ Below w.heap.size w w' := by
  have HK := Bx.mk (known18_any w)
  have hmk : ∀ W : World, (Instr.makeSlice 36 (.int .i64 8) (.int .i64 8)).run Try.prog W = .ok (.slice (some ⟨W.heap.size, 0, none⟩) 8 8) (W.alloc (.cells (madeCells #[.int .u8 0] 8) 5)) := fun W => make_u8g 8 (by omega) W
  obtain ⟨D, hD⟩ : ∃ D : Int, (q : Int) - 2 = D := ⟨_, rfl⟩
  have fok : decide (D ≤ 0) = true := decide_eq_true (by omega)
  obtain ⟨N, hN⟩ := Int.eq_ofNat_of_zero_le (show 0 ≤ 20 + D by omega)
  have hNq : N + 2 = 20 + q := by omega
  have HNb : Bx (18 ≤ N ∧ N ≤ 22) := ⟨by omega⟩
  have N1 : wrap64 (N : Int) = (N : Int) := w64s N (by omega)
  have hmkN := fun W => make_u8g N (by omega) W
  have q8 : IntKind.i64.wrap (q : Int) = (q : Int) := i64s q (by omega)
  have D1 : wrap64 D = D := by unfold wrap64; omega
  have HEx : ∀ h5 : Nat, Bx (∃ X, pkW (phM ⟨true, 0, 0, .slice (some ⟨h5, 0, none⟩) N N, List.replicate N 0, .slice none 0 0, [], 0, 1⟩) [] = some X ∧ X.length ≤ 1200) := fun h5 => ⟨pkW_ex ⟨true, 0, 0, .slice (some ⟨h5, 0, none⟩) N N, List.replicate N 0, .slice none 0 0, [], 0, 1⟩ [] 1 rfl (by unfold goodB; simp; omega) (by
    have hv := varB_len8 (1 + 0)
    simp only [pkHd, lhB, if_true, List.length_cons, List.length_append, List.length_replicate, bes_len, List.length_nil] at hv ⊢
    omega)⟩
  clear hNq
  clear hq h0
  go_enter Try.func8, Try.ntmps8
  go_upto_region 5 with (go_at_call 24; refine HK.out.mono ?_; rintro e w0 ⟨rfl, b1⟩; have HB1 := Bx.mk b1; clear b1)
  have HV0 : Bx (Bs (w0.alloc (.cells (madeCells #[.int .u8 0] 8) 5)) (.slice (some ⟨w0.heap.size, 0, none⟩) 8 8) (List.replicate 8 0)) := ⟨Bs.madeg w0 8 (by omega)⟩
  have HB0 : Bx (Below w.heap.size w (w0.alloc (.cells (madeCells #[.int .u8 0] 8) 5))) := ⟨HB1.out.alloc HB1.out.size _⟩
  have hgs : (w0.alloc (.cells (madeCells #[.int .u8 0] 8) 5)).heap.size = w0.heap.size + 1 := by simp
  have HW0 : Bx (w.heap.size ≤ w0.heap.size) := ⟨HB1.out.size⟩
  generalize w0.alloc (.cells (madeCells #[.int .u8 0] 8) 5) = W1 at HV0 HB0 hgs ⊢
  obtain ⟨g0, hg0⟩ : ∃ g, w0.heap.size = g := ⟨_, rfl⟩
  obtain ⟨g1, hg1⟩ : ∃ g, w0.heap.size + 1 = g := ⟨_, rfl⟩
  rw [hg1] at hgs
  rw [hg0] at HV0 HW0
  have HGG : Bx (w.heap.size ≤ g1) := ⟨by have := HW0.out; omega⟩
  try simp only [hg1]
  try simp only [hg0]
  have HS1 : Bx (Sb 38 (W1.alloc (.cells #[.bool true, .int .i64 0, .int .u32 0, .slice (some ⟨g0, 0, none⟩) 8 8, .slice none 0 0, .int .u64 0, .int .i64 1] 38)) g1 #[.bool true, .int .i64 0, .int .u32 0, .slice (some ⟨g0, 0, none⟩) 8 8, .slice none 0 0, .int .u64 0, .int .i64 1]) := ⟨Sb.newg _ _ _ hgs _⟩
  have HV1 : Bx (Bs (W1.alloc (.cells #[.bool true, .int .i64 0, .int .u32 0, .slice (some ⟨g0, 0, none⟩) 8 8, .slice none 0 0, .int .u64 0, .int .i64 1] 38)) (.slice (some ⟨g0, 0, none⟩) 8 8) (List.replicate 8 0)) := ⟨HV0.out.keep ((Below.refl _ _).alloc (Nat.le_refl _) _)⟩
  have HB2 : Bx (Below w.heap.size w (W1.alloc (.cells #[.bool true, .int .i64 0, .int .u32 0, .slice (some ⟨g0, 0, none⟩) 8 8, .slice none 0 0, .int .u64 0, .int .i64 1] 38))) := ⟨HB0.out.alloc HB0.out.size _⟩
  generalize W1.alloc (.cells #[.bool true, .int .i64 0, .int .u32 0, .slice (some ⟨g0, 0, none⟩) 8 8, .slice none 0 0, .int .u64 0, .int .i64 1] 38) = W2 at HS1 HV1 HB2 ⊢
  have HGL : Bx (g1 < W2.heap.size) := ⟨HS1.out.lt⟩
  clear hgs hmk hg1 hg0
  obtain ⟨c0, c1, c2, c3, c4, c5, c6⟩ := hdcE (ver := 0) (pn := 0) HS1.out
  have z3 : ∀ o, (W2.alloc o).frozen? ⟨g1, 3, none⟩ = false := fun o => (HS1.out.alloc o).free 3
  have c3 : ∀ o, (W2.alloc o).cell? ⟨g1, 3, none⟩ = some (.slice (some ⟨g0, 0, none⟩) 8 8) := fun o => (hdcE (ver := 0) (pn := 0) (HS1.out.alloc o)).2.2.2.1
  go_upto_region 19 with fail
  clear c0 c1 c2 c3 c4 c5 c6 z3
  have HPn : Bx (Bs (W2.alloc (.cells (madeCells #[.int .u8 0] N) 5)) (.slice (some ⟨W2.heap.size, 0, none⟩) N N) (List.replicate N 0)) := ⟨Bs.madeg W2 N (by have := HNb.out; omega)⟩
  have HSn : Bx (Sb 38 (W2.alloc (.cells (madeCells #[.int .u8 0] N) 5)) g1 #[.bool true, .int .i64 0, .int .u32 ((0 : Nat) : Int), .slice (some ⟨g0, 0, none⟩) 8 8, .slice none 0 0, .int .u64 ((0 : Nat) : Int), .int .i64 1]) := ⟨HS1.out.alloc _⟩
  have HBn : Bx (Below w.heap.size w (W2.alloc (.cells (madeCells #[.int .u8 0] N) 5))) := ⟨HB2.out.alloc HB2.out.size _⟩
  obtain ⟨h5, hh5⟩ : ∃ h, W2.heap.size = h := ⟨_, rfl⟩
  generalize W2.alloc (.cells (madeCells #[.int .u8 0] N) 5) = W4 at HPn HSn HBn ⊢
  rw [hh5] at HPn HGL
  try simp only [hh5]
  have HD5 : Bx (Bs (W4.setCell ⟨g1, 3, none⟩ (.slice (some ⟨h5, 0, none⟩) N N)) (.slice (some ⟨h5, 0, none⟩) N N) (List.replicate N 0)) := ⟨Rd.setOtherg HPn.out _ (by have := HGL.out; omega)⟩
  have HS5 : Bx (Sb 38 (W4.setCell ⟨g1, 3, none⟩ (.slice (some ⟨h5, 0, none⟩) N N)) g1 #[.bool true, .int .i64 0, .int .u32 ((0 : Nat) : Int), .slice (some ⟨h5, 0, none⟩) N N, .slice none 0 0, .int .u64 ((0 : Nat) : Int), .int .i64 1]) := ⟨Sb.set HSn.out 3 (.slice (some ⟨h5, 0, none⟩) N N) (by simp)⟩
  have HB5 : Bx (Below w.heap.size w (W4.setCell ⟨g1, 3, none⟩ (.slice (some ⟨h5, 0, none⟩) N N))) := ⟨HBn.out.grown (grown_set W4 g1 3 _) HBn.out.size (fun k hk => by injection hk with hk; have := HGG.out; omega)⟩
  have HP5 : Bx (Bs (W4.setCell ⟨g1, 3, none⟩ (.slice (some ⟨h5, 0, none⟩) N N)) (.slice none 0 0) []) := ⟨Rd.nil _⟩
  generalize W4.setCell ⟨g1, 3, none⟩ (.slice (some ⟨h5, 0, none⟩) N N) = W5 at HP5 HS5 HD5 HB5 ⊢
  have HEx := HEx h5
  have HOk : Bx (hdOk ⟨true, 0, 0, .slice (some ⟨h5, 0, none⟩) N N, List.replicate N 0, .slice none 0 0, [], 0, 1⟩) := ⟨by unfold hdOk; simp⟩
  have HPL : Bx (([] : List UInt8).length ≤ 50000) := ⟨by simp⟩
  clear hmkN N1 hN hD hh5
  have HQ := Bx.mk (fun W (h1 : Bs W (.slice (some ⟨h5, 0, none⟩) N N) (List.replicate N 0)) (h2 : Bs W (.slice none 0 0) []) => qWrite_any ⟨true, 0, 0, .slice (some ⟨h5, 0, none⟩) N N, List.replicate N 0, .slice none 0 0, [], 0, 1⟩ (.slice none 0 0) [] W HOk.out h1 (Rd.nil W) h2 HPL.out)
  have HR := Bx.mk (fun W (h1 : Bs W (.slice (some ⟨h5, 0, none⟩) N N) (List.replicate N 0)) (h2 : Bs W (.slice none 0 0) []) => refPkW_any ⟨true, 0, 0, .slice (some ⟨h5, 0, none⟩) N N, List.replicate N 0, .slice none 0 0, [], 0, 1⟩ (.slice none 0 0) [] W HOk.out h1 (Rd.nil W) h2)
  obtain ⟨X, hX, hXl⟩ := HEx.out
  rw [hX] at HQ HR
  obtain ⟨L, hL⟩ : ∃ L, X.length = L := ⟨_, rfl⟩
  have HXL := Bx.mk hL
  have fL : decide ((L : Int) ≤ 1200) = true := decide_eq_true (by omega)
  have fLn : decide (L ≤ 1200) = true := decide_eq_true (by omega)
  clear hX hL hXl
  obtain ⟨x0, x1, x2, x3, x4, x5, x6⟩ := hdcE (ver := 0) HS5.out
  go_wp2_with (first
    | (go_at_call 28
       refine (HQ.out _ HD5.out HP5.out).mono ?_
       rintro e w6 ⟨v6, rfl, h6, b6⟩
       have hl6 := fun tr W => (show Bs w6 v6 X from Ap.rd h6).run_len tr W
       rw [HXL.out] at hl6
       clear h6
       have HB6 := Bx.mk (HB5.out.trans (b6.mono HB5.out.size))
       have HD6 := Bx.mk (HD5.out.keep b6)
       have HP6 := Bx.mk (HP5.out.keep b6)
       obtain ⟨y0, y1, y2, y3, y4, y5, y6⟩ := hdcE (ver := 0) (HS5.out.keep b6)
       clear b6)
    | (go_at_call 25
       refine (HR.out _ HD6.out HP6.out).mono ?_
       rintro e w7 ⟨v7, rfl, h7, b7⟩
       have HB7 := Bx.mk (HB6.out.trans (b7.mono HB6.out.size))
       clear b7 h7))
  go_ret
  exact ⟨rfl, HB7.out⟩
set_option maxRecDepth 100000 in
set_option maxHeartbeats 8000000 in
theorem pg_1_true_false (t n : Int) (q : Nat) (ht : t.tmod 4 = 1) (hn : n.tmod 5 = (q : Int)) (hq : q < 5) (h0 : ¬ q ≤ 2) (w : World) :
    Calls Try.prog 8 #[.int .u8 t, .int .u8 n, .bool true] w fun e w' => e = .returned (.bool true) ∧ Below w.heap.size w w' := by
  have HK := Bx.mk (known18_any w)
  have hmk : ∀ W : World, (Instr.makeSlice 36 (.int .i64 8) (.int .i64 8)).run Try.prog W = .ok (.slice (some ⟨W.heap.size, 0, none⟩) 8 8) (W.alloc (.cells (madeCells #[.int .u8 0] 8) 5)) := fun W => make_u8g 8 (by omega) W
  obtain ⟨D, hD⟩ : ∃ D : Int, (q : Int) - 2 = D := ⟨_, rfl⟩
  have fok : decide (D ≤ 0) = false := decide_eq_false (by omega)
  obtain ⟨N, hN⟩ := Int.eq_ofNat_of_zero_le (show 0 ≤ 20 + D by omega)
  have hNq : N + 2 = 20 + q := by omega
  have HNb : Bx (18 ≤ N ∧ N ≤ 22) := ⟨by omega⟩
  have N1 : wrap64 (N : Int) = (N : Int) := w64s N (by omega)
  have hmkN := fun W => make_u8g N (by omega) W
  have q8 : IntKind.i64.wrap (q : Int) = (q : Int) := i64s q (by omega)
  have D1 : wrap64 D = D := by unfold wrap64; omega
  have HEx : ∀ h5 : Nat, Bx (pkW (phM ⟨true, 0, 0, .slice (some ⟨h5, 0, none⟩) N N, List.replicate N 0, .slice none 0 0, [], 0, 1⟩) [] = none) := fun h5 => ⟨pkW_no ⟨true, 0, 0, .slice (some ⟨h5, 0, none⟩) N N, List.replicate N 0, .slice none 0 0, [], 0, 1⟩ [] (by unfold goodB; simp; omega)⟩
  clear hNq
  clear hq h0
  go_enter Try.func8, Try.ntmps8
  go_upto_region 5 with (go_at_call 24; refine HK.out.mono ?_; rintro e w0 ⟨rfl, b1⟩; have HB1 := Bx.mk b1; clear b1)
  have HV0 : Bx (Bs (w0.alloc (.cells (madeCells #[.int .u8 0] 8) 5)) (.slice (some ⟨w0.heap.size, 0, none⟩) 8 8) (List.replicate 8 0)) := ⟨Bs.madeg w0 8 (by omega)⟩
  have HB0 : Bx (Below w.heap.size w (w0.alloc (.cells (madeCells #[.int .u8 0] 8) 5))) := ⟨HB1.out.alloc HB1.out.size _⟩
  have hgs : (w0.alloc (.cells (madeCells #[.int .u8 0] 8) 5)).heap.size = w0.heap.size + 1 := by simp
  have HW0 : Bx (w.heap.size ≤ w0.heap.size) := ⟨HB1.out.size⟩
  generalize w0.alloc (.cells (madeCells #[.int .u8 0] 8) 5) = W1 at HV0 HB0 hgs ⊢
  obtain ⟨g0, hg0⟩ : ∃ g, w0.heap.size = g := ⟨_, rfl⟩
  obtain ⟨g1, hg1⟩ : ∃ g, w0.heap.size + 1 = g := ⟨_, rfl⟩
  rw [hg1] at hgs
  rw [hg0] at HV0 HW0
  have HGG : Bx (w.heap.size ≤ g1) := ⟨by have := HW0.out; omega⟩
  try simp only [hg1]
  try simp only [hg0]
  have HS1 : Bx (Sb 38 (W1.alloc (.cells #[.bool true, .int .i64 0, .int .u32 0, .slice (some ⟨g0, 0, none⟩) 8 8, .slice none 0 0, .int .u64 0, .int .i64 1] 38)) g1 #[.bool true, .int .i64 0, .int .u32 0, .slice (some ⟨g0, 0, none⟩) 8 8, .slice none 0 0, .int .u64 0, .int .i64 1]) := ⟨Sb.newg _ _ _ hgs _⟩
  have HV1 : Bx (Bs (W1.alloc (.cells #[.bool true, .int .i64 0, .int .u32 0, .slice (some ⟨g0, 0, none⟩) 8 8, .slice none 0 0, .int .u64 0, .int .i64 1] 38)) (.slice (some ⟨g0, 0, none⟩) 8 8) (List.replicate 8 0)) := ⟨HV0.out.keep ((Below.refl _ _).alloc (Nat.le_refl _) _)⟩
  have HB2 : Bx (Below w.heap.size w (W1.alloc (.cells #[.bool true, .int .i64 0, .int .u32 0, .slice (some ⟨g0, 0, none⟩) 8 8, .slice none 0 0, .int .u64 0, .int .i64 1] 38))) := ⟨HB0.out.alloc HB0.out.size _⟩
  generalize W1.alloc (.cells #[.bool true, .int .i64 0, .int .u32 0, .slice (some ⟨g0, 0, none⟩) 8 8, .slice none 0 0, .int .u64 0, .int .i64 1] 38) = W2 at HS1 HV1 HB2 ⊢
  have HGL : Bx (g1 < W2.heap.size) := ⟨HS1.out.lt⟩
  clear hgs hmk hg1 hg0
  obtain ⟨c0, c1, c2, c3, c4, c5, c6⟩ := hdcE (ver := 0) (pn := 0) HS1.out
  have z3 : ∀ o, (W2.alloc o).frozen? ⟨g1, 3, none⟩ = false := fun o => (HS1.out.alloc o).free 3
  have c3 : ∀ o, (W2.alloc o).cell? ⟨g1, 3, none⟩ = some (.slice (some ⟨g0, 0, none⟩) 8 8) := fun o => (hdcE (ver := 0) (pn := 0) (HS1.out.alloc o)).2.2.2.1
  go_upto_region 19 with fail
  clear c0 c1 c2 c3 c4 c5 c6 z3
  have HPn : Bx (Bs (W2.alloc (.cells (madeCells #[.int .u8 0] N) 5)) (.slice (some ⟨W2.heap.size, 0, none⟩) N N) (List.replicate N 0)) := ⟨Bs.madeg W2 N (by have := HNb.out; omega)⟩
  have HSn : Bx (Sb 38 (W2.alloc (.cells (madeCells #[.int .u8 0] N) 5)) g1 #[.bool true, .int .i64 0, .int .u32 ((0 : Nat) : Int), .slice (some ⟨g0, 0, none⟩) 8 8, .slice none 0 0, .int .u64 ((0 : Nat) : Int), .int .i64 1]) := ⟨HS1.out.alloc _⟩
  have HBn : Bx (Below w.heap.size w (W2.alloc (.cells (madeCells #[.int .u8 0] N) 5))) := ⟨HB2.out.alloc HB2.out.size _⟩
  obtain ⟨h5, hh5⟩ : ∃ h, W2.heap.size = h := ⟨_, rfl⟩
  generalize W2.alloc (.cells (madeCells #[.int .u8 0] N) 5) = W4 at HPn HSn HBn ⊢
  rw [hh5] at HPn HGL
  try simp only [hh5]
  have HD5 : Bx (Bs (W4.setCell ⟨g1, 3, none⟩ (.slice (some ⟨h5, 0, none⟩) N N)) (.slice (some ⟨h5, 0, none⟩) N N) (List.replicate N 0)) := ⟨Rd.setOtherg HPn.out _ (by have := HGL.out; omega)⟩
  have HS5 : Bx (Sb 38 (W4.setCell ⟨g1, 3, none⟩ (.slice (some ⟨h5, 0, none⟩) N N)) g1 #[.bool true, .int .i64 0, .int .u32 ((0 : Nat) : Int), .slice (some ⟨h5, 0, none⟩) N N, .slice none 0 0, .int .u64 ((0 : Nat) : Int), .int .i64 1]) := ⟨Sb.set HSn.out 3 (.slice (some ⟨h5, 0, none⟩) N N) (by simp)⟩
  have HB5 : Bx (Below w.heap.size w (W4.setCell ⟨g1, 3, none⟩ (.slice (some ⟨h5, 0, none⟩) N N))) := ⟨HBn.out.grown (grown_set W4 g1 3 _) HBn.out.size (fun k hk => by injection hk with hk; have := HGG.out; omega)⟩
  have HP5 : Bx (Bs (W4.setCell ⟨g1, 3, none⟩ (.slice (some ⟨h5, 0, none⟩) N N)) (.slice none 0 0) []) := ⟨Rd.nil _⟩
  generalize W4.setCell ⟨g1, 3, none⟩ (.slice (some ⟨h5, 0, none⟩) N N) = W5 at HP5 HS5 HD5 HB5 ⊢
  have HEx := HEx h5
  have HOk : Bx (hdOk ⟨true, 0, 0, .slice (some ⟨h5, 0, none⟩) N N, List.replicate N 0, .slice none 0 0, [], 0, 1⟩) := ⟨by unfold hdOk; simp⟩
  have HPL : Bx (([] : List UInt8).length ≤ 50000) := ⟨by simp⟩
  clear hmkN N1 hN hD hh5
  have HQ := Bx.mk (fun W (h1 : Bs W (.slice (some ⟨h5, 0, none⟩) N N) (List.replicate N 0)) (h2 : Bs W (.slice none 0 0) []) => qWrite_any ⟨true, 0, 0, .slice (some ⟨h5, 0, none⟩) N N, List.replicate N 0, .slice none 0 0, [], 0, 1⟩ (.slice none 0 0) [] W HOk.out h1 (Rd.nil W) h2 HPL.out)
  have HR := Bx.mk (fun W (h1 : Bs W (.slice (some ⟨h5, 0, none⟩) N N) (List.replicate N 0)) (h2 : Bs W (.slice none 0 0) []) => refPkW_any ⟨true, 0, 0, .slice (some ⟨h5, 0, none⟩) N N, List.replicate N 0, .slice none 0 0, [], 0, 1⟩ (.slice none 0 0) [] W HOk.out h1 (Rd.nil W) h2)
  have hX := HEx.out
  rw [hX] at HQ HR
  clear hX
  obtain ⟨x0, x1, x2, x3, x4, x5, x6⟩ := hdcE (ver := 0) HS5.out
  go_wp2_with (first
    | (go_at_call 28
       refine (HQ.out _ HD5.out HP5.out).mono ?_
       rintro e w6 ⟨rfl, b6⟩
       have HB6 := Bx.mk (HB5.out.trans (b6.mono HB5.out.size))
       have HD6 := Bx.mk (HD5.out.keep b6)
       have HP6 := Bx.mk (HP5.out.keep b6)
       obtain ⟨y0, y1, y2, y3, y4, y5, y6⟩ := hdcE (ver := 0) (HS5.out.keep b6)
       clear b6)
    | (go_at_call 25
       refine (HR.out _ HD6.out HP6.out).mono ?_
       rintro e w7 ⟨rfl, b7⟩
       have HB7 := Bx.mk (HB6.out.trans (b7.mono HB6.out.size))
       clear b7))
  go_ret
  exact ⟨rfl, HB7.out⟩
set_option maxRecDepth 100000 in
set_option maxHeartbeats 8000000 in
theorem pg_2_false_true (t n : Int) (q : Nat) (ht : t.tmod 4 = 2) (hn : n.tmod 5 = (q : Int)) (hq : q < 5) (h0 : q ≤ 2) (w : World) :
    Calls Try.prog 8 #[.int .u8 t, .int .u8 n, .bool false] w fun e w' => e = .returned (.bool true) ∧ Below w.heap.size w w' := by
  have HK := Bx.mk (known18_any w)
  have hmk : ∀ W : World, (Instr.makeSlice 36 (.int .i64 8) (.int .i64 8)).run Try.prog W = .ok (.slice (some ⟨W.heap.size, 0, none⟩) 8 8) (W.alloc (.cells (madeCells #[.int .u8 0] 8) 5)) := fun W => make_u8g 8 (by omega) W
  obtain ⟨D, hD⟩ : ∃ D : Int, (q : Int) - 2 = D := ⟨_, rfl⟩
  have fok : decide (D ≤ 0) = true := decide_eq_true (by omega)
  obtain ⟨N, hN⟩ := Int.eq_ofNat_of_zero_le (show 0 ≤ 4 + D by omega)
  have hNq : N + 2 = 4 + q := by omega
  have HNb : Bx (N ≤ 65537) := ⟨by omega⟩
  have N1 : wrap64 (N : Int) = (N : Int) := w64s N (by omega)
  have N2 : IntKind.u64.wrap (N : Int) = (N : Int) := u64s N (by omega)
  have q8 : IntKind.i64.wrap (q : Int) = (q : Int) := i64s q (by omega)
  have D1 : wrap64 D = D := by unfold wrap64; omega
  have HEx : ∀ g0 : Nat, Bx (∃ X, pkW (phM ⟨false, 0, 0, .slice (some ⟨g0, 0, none⟩) 8 8, List.replicate 8 0, .slice none 0 0, [], 0, (N : Int)⟩) [] = some X ∧ X.length ≤ 1200) := fun g0 => ⟨pkW_ex ⟨false, 0, 0, .slice (some ⟨g0, 0, none⟩) 8 8, List.replicate 8 0, .slice none 0 0, [], 0, (N : Int)⟩ [] N rfl (by unfold goodB; refine decide_eq_true ⟨by show (1 : Int) ≤ (N : Int); omega, by show (N : Int) ≤ 4; omega, by show 0 < 256 ^ ((N : Int)).toNat; exact Nat.pow_pos (by omega), ?_⟩; simp) (by
    have hv := varB_len8 (N + 0)
    simp only [pkHd, lhB, if_true, Bool.false_eq_true, if_false, List.length_cons, List.length_append, List.length_replicate, bes_len, List.length_nil] at hv ⊢
    omega)⟩
  clear hNq
  clear hq h0
  go_enter Try.func8, Try.ntmps8
  go_upto_region 5 with (go_at_call 24; refine HK.out.mono ?_; rintro e w0 ⟨rfl, b1⟩; have HB1 := Bx.mk b1; clear b1)
  have HV0 : Bx (Bs (w0.alloc (.cells (madeCells #[.int .u8 0] 8) 5)) (.slice (some ⟨w0.heap.size, 0, none⟩) 8 8) (List.replicate 8 0)) := ⟨Bs.madeg w0 8 (by omega)⟩
  have HB0 : Bx (Below w.heap.size w (w0.alloc (.cells (madeCells #[.int .u8 0] 8) 5))) := ⟨HB1.out.alloc HB1.out.size _⟩
  have hgs : (w0.alloc (.cells (madeCells #[.int .u8 0] 8) 5)).heap.size = w0.heap.size + 1 := by simp
  have HW0 : Bx (w.heap.size ≤ w0.heap.size) := ⟨HB1.out.size⟩
  generalize w0.alloc (.cells (madeCells #[.int .u8 0] 8) 5) = W1 at HV0 HB0 hgs ⊢
  obtain ⟨g0, hg0⟩ : ∃ g, w0.heap.size = g := ⟨_, rfl⟩
  obtain ⟨g1, hg1⟩ : ∃ g, w0.heap.size + 1 = g := ⟨_, rfl⟩
  rw [hg1] at hgs
  rw [hg0] at HV0 HW0
  have HGG : Bx (w.heap.size ≤ g1) := ⟨by have := HW0.out; omega⟩
  have HNE : Bx (g0 ≠ g1) := ⟨by omega⟩
  try simp only [hg1]
  try simp only [hg0]
  have HS1 : Bx (Sb 38 (W1.alloc (.cells #[.bool false, .int .i64 0, .int .u32 0, .slice (some ⟨g0, 0, none⟩) 8 8, .slice none 0 0, .int .u64 0, .int .i64 1] 38)) g1 #[.bool false, .int .i64 0, .int .u32 0, .slice (some ⟨g0, 0, none⟩) 8 8, .slice none 0 0, .int .u64 0, .int .i64 1]) := ⟨Sb.newg _ _ _ hgs _⟩
  have HV1 : Bx (Bs (W1.alloc (.cells #[.bool false, .int .i64 0, .int .u32 0, .slice (some ⟨g0, 0, none⟩) 8 8, .slice none 0 0, .int .u64 0, .int .i64 1] 38)) (.slice (some ⟨g0, 0, none⟩) 8 8) (List.replicate 8 0)) := ⟨HV0.out.keep ((Below.refl _ _).alloc (Nat.le_refl _) _)⟩
  have HB2 : Bx (Below w.heap.size w (W1.alloc (.cells #[.bool false, .int .i64 0, .int .u32 0, .slice (some ⟨g0, 0, none⟩) 8 8, .slice none 0 0, .int .u64 0, .int .i64 1] 38))) := ⟨HB0.out.alloc HB0.out.size _⟩
  generalize W1.alloc (.cells #[.bool false, .int .i64 0, .int .u32 0, .slice (some ⟨g0, 0, none⟩) 8 8, .slice none 0 0, .int .u64 0, .int .i64 1] 38) = W2 at HS1 HV1 HB2 ⊢
  have HGL : Bx (g1 < W2.heap.size) := ⟨HS1.out.lt⟩
  clear hgs hmk hg1 hg0
  obtain ⟨c0, c1, c2, c3, c4, c5, c6⟩ := hdcE (ver := 0) (pn := 0) HS1.out
  have z6 : W2.frozen? ⟨g1, 6, none⟩ = false := HS1.out.free 6
  go_upto_region 19 with fail
  clear c0 c1 c2 c3 c4 c5 c6 z6
  have HS5 : Bx (Sb 38 (W2.setCell ⟨g1, 6, none⟩ (.int .i64 (N : Int))) g1 #[.bool false, .int .i64 0, .int .u32 ((0 : Nat) : Int), .slice (some ⟨g0, 0, none⟩) 8 8, .slice none 0 0, .int .u64 ((0 : Nat) : Int), .int .i64 (N : Int)]) := ⟨Sb.set HS1.out 6 (.int .i64 (N : Int)) (by simp)⟩
  have HD5 : Bx (Bs (W2.setCell ⟨g1, 6, none⟩ (.int .i64 (N : Int))) (.slice (some ⟨g0, 0, none⟩) 8 8) (List.replicate 8 0)) := ⟨Rd.setOtherg HV1.out _ HNE.out⟩
  have HB5 : Bx (Below w.heap.size w (W2.setCell ⟨g1, 6, none⟩ (.int .i64 (N : Int)))) := ⟨HB2.out.grown (grown_set W2 g1 6 _) HB2.out.size (fun k hk => by injection hk with hk; have := HGG.out; omega)⟩
  have HP5 : Bx (Bs (W2.setCell ⟨g1, 6, none⟩ (.int .i64 (N : Int))) (.slice none 0 0) []) := ⟨Rd.nil _⟩
  generalize W2.setCell ⟨g1, 6, none⟩ (.int .i64 (N : Int)) = W5 at HP5 HS5 HD5 HB5 ⊢
  have HEx := HEx g0
  have HOk : Bx (hdOk ⟨false, 0, 0, .slice (some ⟨g0, 0, none⟩) 8 8, List.replicate 8 0, .slice none 0 0, [], 0, (N : Int)⟩) := ⟨by have := HNb.out; unfold hdOk; simp <;> omega⟩
  have HPL : Bx (([] : List UInt8).length ≤ 50000) := ⟨by simp⟩
  clear N1 N2 hN hD
  have HQ := Bx.mk (fun W (h1 : Bs W (.slice (some ⟨g0, 0, none⟩) 8 8) (List.replicate 8 0)) (h2 : Bs W (.slice none 0 0) []) => qWrite_any ⟨false, 0, 0, .slice (some ⟨g0, 0, none⟩) 8 8, List.replicate 8 0, .slice none 0 0, [], 0, (N : Int)⟩ (.slice none 0 0) [] W HOk.out h1 (Rd.nil W) h2 HPL.out)
  have HR := Bx.mk (fun W (h1 : Bs W (.slice (some ⟨g0, 0, none⟩) 8 8) (List.replicate 8 0)) (h2 : Bs W (.slice none 0 0) []) => refPkW_any ⟨false, 0, 0, .slice (some ⟨g0, 0, none⟩) 8 8, List.replicate 8 0, .slice none 0 0, [], 0, (N : Int)⟩ (.slice none 0 0) [] W HOk.out h1 (Rd.nil W) h2)
  obtain ⟨X, hX, hXl⟩ := HEx.out
  rw [hX] at HQ HR
  obtain ⟨L, hL⟩ : ∃ L, X.length = L := ⟨_, rfl⟩
  have HXL := Bx.mk hL
  have fL : decide ((L : Int) ≤ 1200) = true := decide_eq_true (by omega)
  have fLn : decide (L ≤ 1200) = true := decide_eq_true (by omega)
  clear hX hL hXl
  obtain ⟨x0, x1, x2, x3, x4, x5, x6⟩ := hdcE (ver := 0) HS5.out
  go_wp2_with (first
    | (go_at_call 28
       refine (HQ.out _ HD5.out HP5.out).mono ?_
       rintro e w6 ⟨v6, rfl, h6, b6⟩
       have hl6 := fun tr W => (show Bs w6 v6 X from Ap.rd h6).run_len tr W
       rw [HXL.out] at hl6
       clear h6
       have HB6 := Bx.mk (HB5.out.trans (b6.mono HB5.out.size))
       have HD6 := Bx.mk (HD5.out.keep b6)
       have HP6 := Bx.mk (HP5.out.keep b6)
       obtain ⟨y0, y1, y2, y3, y4, y5, y6⟩ := hdcE (ver := 0) (HS5.out.keep b6)
       clear b6)
    | (go_at_call 25
       refine (HR.out _ HD6.out HP6.out).mono ?_
       rintro e w7 ⟨v7, rfl, h7, b7⟩
       have HB7 := Bx.mk (HB6.out.trans (b7.mono HB6.out.size))
       clear b7 h7))
  go_ret
  exact ⟨rfl, HB7.out⟩
set_option maxRecDepth 100000 in
set_option maxHeartbeats 8000000 in
theorem pg_2_false_false (t n : Int) (q : Nat) (ht : t.tmod 4 = 2) (hn : n.tmod 5 = (q : Int)) (hq : q < 5) (h0 : ¬ q ≤ 2) (w : World) :
    Calls Try.prog 8 #[.int .u8 t, .int .u8 n, .bool false] w fun e w' => e = .returned (.bool true) ∧ Below w.heap.size w w' := by
  have HK := Bx.mk (known18_any w)
  have hmk : ∀ W : World, (Instr.makeSlice 36 (.int .i64 8) (.int .i64 8)).run Try.prog W = .ok (.slice (some ⟨W.heap.size, 0, none⟩) 8 8) (W.alloc (.cells (madeCells #[.int .u8 0] 8) 5)) := fun W => make_u8g 8 (by omega) W
  obtain ⟨D, hD⟩ : ∃ D : Int, (q : Int) - 2 = D := ⟨_, rfl⟩
  have fok : decide (D ≤ 0) = false := decide_eq_false (by omega)
  obtain ⟨N, hN⟩ := Int.eq_ofNat_of_zero_le (show 0 ≤ 4 + D by omega)
  have hNq : N + 2 = 4 + q := by omega
  have HNb : Bx (N ≤ 65537) := ⟨by omega⟩
  have N1 : wrap64 (N : Int) = (N : Int) := w64s N (by omega)
  have N2 : IntKind.u64.wrap (N : Int) = (N : Int) := u64s N (by omega)
  have q8 : IntKind.i64.wrap (q : Int) = (q : Int) := i64s q (by omega)
  have D1 : wrap64 D = D := by unfold wrap64; omega
  have HEx : ∀ g0 : Nat, Bx (pkW (phM ⟨false, 0, 0, .slice (some ⟨g0, 0, none⟩) 8 8, List.replicate 8 0, .slice none 0 0, [], 0, (N : Int)⟩) [] = none) := fun g0 => ⟨pkW_no ⟨false, 0, 0, .slice (some ⟨g0, 0, none⟩) 8 8, List.replicate 8 0, .slice none 0 0, [], 0, (N : Int)⟩ [] (by unfold goodB; simp; omega)⟩
  clear hNq
  clear hq h0
  go_enter Try.func8, Try.ntmps8
  go_upto_region 5 with (go_at_call 24; refine HK.out.mono ?_; rintro e w0 ⟨rfl, b1⟩; have HB1 := Bx.mk b1; clear b1)
  have HV0 : Bx (Bs (w0.alloc (.cells (madeCells #[.int .u8 0] 8) 5)) (.slice (some ⟨w0.heap.size, 0, none⟩) 8 8) (List.replicate 8 0)) := ⟨Bs.madeg w0 8 (by omega)⟩
  have HB0 : Bx (Below w.heap.size w (w0.alloc (.cells (madeCells #[.int .u8 0] 8) 5))) := ⟨HB1.out.alloc HB1.out.size _⟩
  have hgs : (w0.alloc (.cells (madeCells #[.int .u8 0] 8) 5)).heap.size = w0.heap.size + 1 := by simp
  have HW0 : Bx (w.heap.size ≤ w0.heap.size) := ⟨HB1.out.size⟩
  generalize w0.alloc (.cells (madeCells #[.int .u8 0] 8) 5) = W1 at HV0 HB0 hgs ⊢
  obtain ⟨g0, hg0⟩ : ∃ g, w0.heap.size = g := ⟨_, rfl⟩
  obtain ⟨g1, hg1⟩ : ∃ g, w0.heap.size + 1 = g := ⟨_, rfl⟩
  rw [hg1] at hgs
  rw [hg0] at HV0 HW0
  have HGG : Bx (w.heap.size ≤ g1) := ⟨by have := HW0.out; omega⟩
  have HNE : Bx (g0 ≠ g1) := ⟨by omega⟩
  try simp only [hg1]
  try simp only [hg0]
  have HS1 : Bx (Sb 38 (W1.alloc (.cells #[.bool false, .int .i64 0, .int .u32 0, .slice (some ⟨g0, 0, none⟩) 8 8, .slice none 0 0, .int .u64 0, .int .i64 1] 38)) g1 #[.bool false, .int .i64 0, .int .u32 0, .slice (some ⟨g0, 0, none⟩) 8 8, .slice none 0 0, .int .u64 0, .int .i64 1]) := ⟨Sb.newg _ _ _ hgs _⟩
  have HV1 : Bx (Bs (W1.alloc (.cells #[.bool false, .int .i64 0, .int .u32 0, .slice (some ⟨g0, 0, none⟩) 8 8, .slice none 0 0, .int .u64 0, .int .i64 1] 38)) (.slice (some ⟨g0, 0, none⟩) 8 8) (List.replicate 8 0)) := ⟨HV0.out.keep ((Below.refl _ _).alloc (Nat.le_refl _) _)⟩
  have HB2 : Bx (Below w.heap.size w (W1.alloc (.cells #[.bool false, .int .i64 0, .int .u32 0, .slice (some ⟨g0, 0, none⟩) 8 8, .slice none 0 0, .int .u64 0, .int .i64 1] 38))) := ⟨HB0.out.alloc HB0.out.size _⟩
  generalize W1.alloc (.cells #[.bool false, .int .i64 0, .int .u32 0, .slice (some ⟨g0, 0, none⟩) 8 8, .slice none 0 0, .int .u64 0, .int .i64 1] 38) = W2 at HS1 HV1 HB2 ⊢
  have HGL : Bx (g1 < W2.heap.size) := ⟨HS1.out.lt⟩
  clear hgs hmk hg1 hg0
  obtain ⟨c0, c1, c2, c3, c4, c5, c6⟩ := hdcE (ver := 0) (pn := 0) HS1.out
  have z6 : W2.frozen? ⟨g1, 6, none⟩ = false := HS1.out.free 6
  go_upto_region 19 with fail
  clear c0 c1 c2 c3 c4 c5 c6 z6
  have HS5 : Bx (Sb 38 (W2.setCell ⟨g1, 6, none⟩ (.int .i64 (N : Int))) g1 #[.bool false, .int .i64 0, .int .u32 ((0 : Nat) : Int), .slice (some ⟨g0, 0, none⟩) 8 8, .slice none 0 0, .int .u64 ((0 : Nat) : Int), .int .i64 (N : Int)]) := ⟨Sb.set HS1.out 6 (.int .i64 (N : Int)) (by simp)⟩
  have HD5 : Bx (Bs (W2.setCell ⟨g1, 6, none⟩ (.int .i64 (N : Int))) (.slice (some ⟨g0, 0, none⟩) 8 8) (List.replicate 8 0)) := ⟨Rd.setOtherg HV1.out _ HNE.out⟩
  have HB5 : Bx (Below w.heap.size w (W2.setCell ⟨g1, 6, none⟩ (.int .i64 (N : Int)))) := ⟨HB2.out.grown (grown_set W2 g1 6 _) HB2.out.size (fun k hk => by injection hk with hk; have := HGG.out; omega)⟩
  have HP5 : Bx (Bs (W2.setCell ⟨g1, 6, none⟩ (.int .i64 (N : Int))) (.slice none 0 0) []) := ⟨Rd.nil _⟩
  generalize W2.setCell ⟨g1, 6, none⟩ (.int .i64 (N : Int)) = W5 at HP5 HS5 HD5 HB5 ⊢
  have HEx := HEx g0
  have HOk : Bx (hdOk ⟨false, 0, 0, .slice (some ⟨g0, 0, none⟩) 8 8, List.replicate 8 0, .slice none 0 0, [], 0, (N : Int)⟩) := ⟨by have := HNb.out; unfold hdOk; simp <;> omega⟩
  have HPL : Bx (([] : List UInt8).length ≤ 50000) := ⟨by simp⟩
  clear N1 N2 hN hD
  have HQ := Bx.mk (fun W (h1 : Bs W (.slice (some ⟨g0, 0, none⟩) 8 8) (List.replicate 8 0)) (h2 : Bs W (.slice none 0 0) []) => qWrite_any ⟨false, 0, 0, .slice (some ⟨g0, 0, none⟩) 8 8, List.replicate 8 0, .slice none 0 0, [], 0, (N : Int)⟩ (.slice none 0 0) [] W HOk.out h1 (Rd.nil W) h2 HPL.out)
  have HR := Bx.mk (fun W (h1 : Bs W (.slice (some ⟨g0, 0, none⟩) 8 8) (List.replicate 8 0)) (h2 : Bs W (.slice none 0 0) []) => refPkW_any ⟨false, 0, 0, .slice (some ⟨g0, 0, none⟩) 8 8, List.replicate 8 0, .slice none 0 0, [], 0, (N : Int)⟩ (.slice none 0 0) [] W HOk.out h1 (Rd.nil W) h2)
  have hX := HEx.out
  rw [hX] at HQ HR
  clear hX
  obtain ⟨x0, x1, x2, x3, x4, x5, x6⟩ := hdcE (ver := 0) HS5.out
  go_wp2_with (first
    | (go_at_call 28
       refine (HQ.out _ HD5.out HP5.out).mono ?_
       rintro e w6 ⟨rfl, b6⟩
       have HB6 := Bx.mk (HB5.out.trans (b6.mono HB5.out.size))
       have HD6 := Bx.mk (HD5.out.keep b6)
       have HP6 := Bx.mk (HP5.out.keep b6)
       obtain ⟨y0, y1, y2, y3, y4, y5, y6⟩ := hdcE (ver := 0) (HS5.out.keep b6)
       clear b6)
    | (go_at_call 25
       refine (HR.out _ HD6.out HP6.out).mono ?_
       rintro e w7 ⟨rfl, b7⟩
       have HB7 := Bx.mk (HB6.out.trans (b7.mono HB6.out.size))
       clear b7))
  go_ret
  exact ⟨rfl, HB7.out⟩
set_option maxRecDepth 100000 in
set_option maxHeartbeats 8000000 in
theorem pg_2_true_true (t n : Int) (q : Nat) (ht : t.tmod 4 = 2) (hn : n.tmod 5 = (q : Int)) (hq : q < 5) (h0 : q ≤ 2) (w : World) :
    Calls Try.prog 8 #[.int .u8 t, .int .u8 n, .bool true] w fun e w' => e = .returned (.bool true) ∧ Below w.heap.size w w' := by
  have HK := Bx.mk (known18_any w)
  have hmk : ∀ W : World, (Instr.makeSlice 36 (.int .i64 8) (.int .i64 8)).run Try.prog W = .ok (.slice (some ⟨W.heap.size, 0, none⟩) 8 8) (W.alloc (.cells (madeCells #[.int .u8 0] 8) 5)) := fun W => make_u8g 8 (by omega) W
  obtain ⟨D, hD⟩ : ∃ D : Int, (q : Int) - 2 = D := ⟨_, rfl⟩
  have fok : decide (D ≤ 0) = true := decide_eq_true (by omega)
  obtain ⟨N, hN⟩ := Int.eq_ofNat_of_zero_le (show 0 ≤ 4 + D by omega)
  have hNq : N + 2 = 4 + q := by omega
  have HNb : Bx (N ≤ 65537) := ⟨by omega⟩
  have N1 : wrap64 (N : Int) = (N : Int) := w64s N (by omega)
  have N2 : IntKind.u64.wrap (N : Int) = (N : Int) := u64s N (by omega)
  have q8 : IntKind.i64.wrap (q : Int) = (q : Int) := i64s q (by omega)
  have D1 : wrap64 D = D := by unfold wrap64; omega
  have HEx : ∀ g0 : Nat, Bx (∃ X, pkW (phM ⟨true, 0, 0, .slice (some ⟨g0, 0, none⟩) 8 8, List.replicate 8 0, .slice none 0 0, [], 0, (N : Int)⟩) [] = some X ∧ X.length ≤ 1200) := fun g0 => ⟨pkW_ex ⟨true, 0, 0, .slice (some ⟨g0, 0, none⟩) 8 8, List.replicate 8 0, .slice none 0 0, [], 0, (N : Int)⟩ [] N rfl (by unfold goodB; refine decide_eq_true ⟨by show (1 : Int) ≤ (N : Int); omega, by show (N : Int) ≤ 4; omega, by show 0 < 256 ^ ((N : Int)).toNat; exact Nat.pow_pos (by omega), ?_⟩; simp) (by
    have hv := varB_len8 (N + 0)
    simp only [pkHd, lhB, if_true, Bool.false_eq_true, if_false, List.length_cons, List.length_append, List.length_replicate, bes_len, List.length_nil] at hv ⊢
    omega)⟩
  clear hNq
  clear hq h0
  go_enter Try.func8, Try.ntmps8
  go_upto_region 5 with (go_at_call 24; refine HK.out.mono ?_; rintro e w0 ⟨rfl, b1⟩; have HB1 := Bx.mk b1; clear b1)
  have HV0 : Bx (Bs (w0.alloc (.cells (madeCells #[.int .u8 0] 8) 5)) (.slice (some ⟨w0.heap.size, 0, none⟩) 8 8) (List.replicate 8 0)) := ⟨Bs.madeg w0 8 (by omega)⟩
  have HB0 : Bx (Below w.heap.size w (w0.alloc (.cells (madeCells #[.int .u8 0] 8) 5))) := ⟨HB1.out.alloc HB1.out.size _⟩
  have hgs : (w0.alloc (.cells (madeCells #[.int .u8 0] 8) 5)).heap.size = w0.heap.size + 1 := by simp
  have HW0 : Bx (w.heap.size ≤ w0.heap.size) := ⟨HB1.out.size⟩
  generalize w0.alloc (.cells (madeCells #[.int .u8 0] 8) 5) = W1 at HV0 HB0 hgs ⊢
  obtain ⟨g0, hg0⟩ : ∃ g, w0.heap.size = g := ⟨_, rfl⟩
  obtain ⟨g1, hg1⟩ : ∃ g, w0.heap.size + 1 = g := ⟨_, rfl⟩
  rw [hg1] at hgs
  rw [hg0] at HV0 HW0
  have HGG : Bx (w.heap.size ≤ g1) := ⟨by have := HW0.out; omega⟩
  have HNE : Bx (g0 ≠ g1) := ⟨by omega⟩
  try simp only [hg1]
  try simp only [hg0]
  have HS1 : Bx (Sb 38 (W1.alloc (.cells #[.bool true, .int .i64 0, .int .u32 0, .slice (some ⟨g0, 0, none⟩) 8 8, .slice none 0 0, .int .u64 0, .int .i64 1] 38)) g1 #[.bool true, .int .i64 0, .int .u32 0, .slice (some ⟨g0, 0, none⟩) 8 8, .slice none 0 0, .int .u64 0, .int .i64 1]) := ⟨Sb.newg _ _ _ hgs _⟩
  have HV1 : Bx (Bs (W1.alloc (.cells #[.bool true, .int .i64 0, .int .u32 0, .slice (some ⟨g0, 0, none⟩) 8 8, .slice none 0 0, .int .u64 0, .int .i64 1] 38)) (.slice (some ⟨g0, 0, none⟩) 8 8) (List.replicate 8 0)) := ⟨HV0.out.keep ((Below.refl _ _).alloc (Nat.le_refl _) _)⟩
  have HB2 : Bx (Below w.heap.size w (W1.alloc (.cells #[.bool true, .int .i64 0, .int .u32 0, .slice (some ⟨g0, 0, none⟩) 8 8, .slice none 0 0, .int .u64 0, .int .i64 1] 38))) := ⟨HB0.out.alloc HB0.out.size _⟩
  generalize W1.alloc (.cells #[.bool true, .int .i64 0, .int .u32 0, .slice (some ⟨g0, 0, none⟩) 8 8, .slice none 0 0, .int .u64 0, .int .i64 1] 38) = W2 at HS1 HV1 HB2 ⊢
  have HGL : Bx (g1 < W2.heap.size) := ⟨HS1.out.lt⟩
  clear hgs hmk hg1 hg0
  obtain ⟨c0, c1, c2, c3, c4, c5, c6⟩ := hdcE (ver := 0) (pn := 0) HS1.out
  have z6 : W2.frozen? ⟨g1, 6, none⟩ = false := HS1.out.free 6
  go_upto_region 19 with fail
  clear c0 c1 c2 c3 c4 c5 c6 z6
  have HS5 : Bx (Sb 38 (W2.setCell ⟨g1, 6, none⟩ (.int .i64 (N : Int))) g1 #[.bool true, .int .i64 0, .int .u32 ((0 : Nat) : Int), .slice (some ⟨g0, 0, none⟩) 8 8, .slice none 0 0, .int .u64 ((0 : Nat) : Int), .int .i64 (N : Int)]) := ⟨Sb.set HS1.out 6 (.int .i64 (N : Int)) (by simp)⟩
  have HD5 : Bx (Bs (W2.setCell ⟨g1, 6, none⟩ (.int .i64 (N : Int))) (.slice (some ⟨g0, 0, none⟩) 8 8) (List.replicate 8 0)) := ⟨Rd.setOtherg HV1.out _ HNE.out⟩
  have HB5 : Bx (Below w.heap.size w (W2.setCell ⟨g1, 6, none⟩ (.int .i64 (N : Int)))) := ⟨HB2.out.grown (grown_set W2 g1 6 _) HB2.out.size (fun k hk => by injection hk with hk; have := HGG.out; omega)⟩
  have HP5 : Bx (Bs (W2.setCell ⟨g1, 6, none⟩ (.int .i64 (N : Int))) (.slice none 0 0) []) := ⟨Rd.nil _⟩
  generalize W2.setCell ⟨g1, 6, none⟩ (.int .i64 (N : Int)) = W5 at HP5 HS5 HD5 HB5 ⊢
  have HEx := HEx g0
  have HOk : Bx (hdOk ⟨true, 0, 0, .slice (some ⟨g0, 0, none⟩) 8 8, List.replicate 8 0, .slice none 0 0, [], 0, (N : Int)⟩) := ⟨by have := HNb.out; unfold hdOk; simp <;> omega⟩
  have HPL : Bx (([] : List UInt8).length ≤ 50000) := ⟨by simp⟩
  clear N1 N2 hN hD
  have HQ := Bx.mk (fun W (h1 : Bs W (.slice (some ⟨g0, 0, none⟩) 8 8) (List.replicate 8 0)) (h2 : Bs W (.slice none 0 0) []) => qWrite_any ⟨true, 0, 0, .slice (some ⟨g0, 0, none⟩) 8 8, List.replicate 8 0, .slice none 0 0, [], 0, (N : Int)⟩ (.slice none 0 0) [] W HOk.out h1 (Rd.nil W) h2 HPL.out)
  have HR := Bx.mk (fun W (h1 : Bs W (.slice (some ⟨g0, 0, none⟩) 8 8) (List.replicate 8 0)) (h2 : Bs W (.slice none 0 0) []) => refPkW_any ⟨true, 0, 0, .slice (some ⟨g0, 0, none⟩) 8 8, List.replicate 8 0, .slice none 0 0, [], 0, (N : Int)⟩ (.slice none 0 0) [] W HOk.out h1 (Rd.nil W) h2)
  obtain ⟨X, hX, hXl⟩ := HEx.out
  rw [hX] at HQ HR
  obtain ⟨L, hL⟩ : ∃ L, X.length = L := ⟨_, rfl⟩
  have HXL := Bx.mk hL
  have fL : decide ((L : Int) ≤ 1200) = true := decide_eq_true (by omega)
  have fLn : decide (L ≤ 1200) = true := decide_eq_true (by omega)
  clear hX hL hXl
  obtain ⟨x0, x1, x2, x3, x4, x5, x6⟩ := hdcE (ver := 0) HS5.out
  go_wp2_with (first
    | (go_at_call 28
       refine (HQ.out _ HD5.out HP5.out).mono ?_
       rintro e w6 ⟨v6, rfl, h6, b6⟩
       have hl6 := fun tr W => (show Bs w6 v6 X from Ap.rd h6).run_len tr W
       rw [HXL.out] at hl6
       clear h6
       have HB6 := Bx.mk (HB5.out.trans (b6.mono HB5.out.size))
       have HD6 := Bx.mk (HD5.out.keep b6)
       have HP6 := Bx.mk (HP5.out.keep b6)
       obtain ⟨y0, y1, y2, y3, y4, y5, y6⟩ := hdcE (ver := 0) (HS5.out.keep b6)
       clear b6)
    | (go_at_call 25
       refine (HR.out _ HD6.out HP6.out).mono ?_
       rintro e w7 ⟨v7, rfl, h7, b7⟩
       have HB7 := Bx.mk (HB6.out.trans (b7.mono HB6.out.size))
       clear b7 h7))
  go_ret
  exact ⟨rfl, HB7.out⟩
set_option maxRecDepth 100000 in
set_option maxHeartbeats 8000000 in
theorem pg_2_true_false (t n : Int) (q : Nat) (ht : t.tmod 4 = 2) (hn : n.tmod 5 = (q : Int)) (hq : q < 5) (h0 : ¬ q ≤ 2) (w : World) :
    Calls Try.prog 8 #[.int .u8 t, .int .u8 n, .bool true] w fun e w' => e = .returned (.bool true) ∧ Below w.heap.size w w' := by
  have HK := Bx.mk (known18_any w)
  have hmk : ∀ W : World, (Instr.makeSlice 36 (.int .i64 8) (.int .i64 8)).run Try.prog W = .ok (.slice (some ⟨W.heap.size, 0, none⟩) 8 8) (W.alloc (.cells (madeCells #[.int .u8 0] 8) 5)) := fun W => make_u8g 8 (by omega) W
  obtain ⟨D, hD⟩ : ∃ D : Int, (q : Int) - 2 = D := ⟨_, rfl⟩
  have fok : decide (D ≤ 0) = false := decide_eq_false (by omega)
  obtain ⟨N, hN⟩ := Int.eq_ofNat_of_zero_le (show 0 ≤ 4 + D by omega)
  have hNq : N + 2 = 4 + q := by omega
  have HNb : Bx (N ≤ 65537) := ⟨by omega⟩
  have N1 : wrap64 (N : Int) = (N : Int) := w64s N (by omega)
  have N2 : IntKind.u64.wrap (N : Int) = (N : Int) := u64s N (by omega)
  have q8 : IntKind.i64.wrap (q : Int) = (q : Int) := i64s q (by omega)
  have D1 : wrap64 D = D := by unfold wrap64; omega
  have HEx : ∀ g0 : Nat, Bx (pkW (phM ⟨true, 0, 0, .slice (some ⟨g0, 0, none⟩) 8 8, List.replicate 8 0, .slice none 0 0, [], 0, (N : Int)⟩) [] = none) := fun g0 => ⟨pkW_no ⟨true, 0, 0, .slice (some ⟨g0, 0, none⟩) 8 8, List.replicate 8 0, .slice none 0 0, [], 0, (N : Int)⟩ [] (by unfold goodB; simp; omega)⟩
  clear hNq
  clear hq h0
  go_enter Try.func8, Try.ntmps8
  go_upto_region 5 with (go_at_call 24; refine HK.out.mono ?_; rintro e w0 ⟨rfl, b1⟩; have HB1 := Bx.mk b1; clear b1)
  have HV0 : Bx (Bs (w0.alloc (.cells (madeCells #[.int .u8 0] 8) 5)) (.slice (some ⟨w0.heap.size, 0, none⟩) 8 8) (List.replicate 8 0)) := ⟨Bs.madeg w0 8 (by omega)⟩
  have HB0 : Bx (Below w.heap.size w (w0.alloc (.cells (madeCells #[.int .u8 0] 8) 5))) := ⟨HB1.out.alloc HB1.out.size _⟩
  have hgs : (w0.alloc (.cells (madeCells #[.int .u8 0] 8) 5)).heap.size = w0.heap.size + 1 := by simp
  have HW0 : Bx (w.heap.size ≤ w0.heap.size) := ⟨HB1.out.size⟩
  generalize w0.alloc (.cells (madeCells #[.int .u8 0] 8) 5) = W1 at HV0 HB0 hgs ⊢
  obtain ⟨g0, hg0⟩ : ∃ g, w0.heap.size = g := ⟨_, rfl⟩
  obtain ⟨g1, hg1⟩ : ∃ g, w0.heap.size + 1 = g := ⟨_, rfl⟩
  rw [hg1] at hgs
  rw [hg0] at HV0 HW0
  have HGG : Bx (w.heap.size ≤ g1) := ⟨by have := HW0.out; omega⟩
  have HNE : Bx (g0 ≠ g1) := ⟨by omega⟩
  try simp only [hg1]
  try simp only [hg0]
  have HS1 : Bx (Sb 38 (W1.alloc (.cells #[.bool true, .int .i64 0, .int .u32 0, .slice (some ⟨g0, 0, none⟩) 8 8, .slice none 0 0, .int .u64 0, .int .i64 1] 38)) g1 #[.bool true, .int .i64 0, .int .u32 0, .slice (some ⟨g0, 0, none⟩) 8 8, .slice none 0 0, .int .u64 0, .int .i64 1]) := ⟨Sb.newg _ _ _ hgs _⟩
  have HV1 : Bx (Bs (W1.alloc (.cells #[.bool true, .int .i64 0, .int .u32 0, .slice (some ⟨g0, 0, none⟩) 8 8, .slice none 0 0, .int .u64 0, .int .i64 1] 38)) (.slice (some ⟨g0, 0, none⟩) 8 8) (List.replicate 8 0)) := ⟨HV0.out.keep ((Below.refl _ _).alloc (Nat.le_refl _) _)⟩
  have HB2 : Bx (Below w.heap.size w (W1.alloc (.cells #[.bool true, .int .i64 0, .int .u32 0, .slice (some ⟨g0, 0, none⟩) 8 8, .slice none 0 0, .int .u64 0, .int .i64 1] 38))) := ⟨HB0.out.alloc HB0.out.size _⟩
  generalize W1.alloc (.cells #[.bool true, .int .i64 0, .int .u32 0, .slice (some ⟨g0, 0, none⟩) 8 8, .slice none 0 0, .int .u64 0, .int .i64 1] 38) = W2 at HS1 HV1 HB2 ⊢
  have HGL : Bx (g1 < W2.heap.size) := ⟨HS1.out.lt⟩
  clear hgs hmk hg1 hg0
  obtain ⟨c0, c1, c2, c3, c4, c5, c6⟩ := hdcE (ver := 0) (pn := 0) HS1.out
  have z6 : W2.frozen? ⟨g1, 6, none⟩ = false := HS1.out.free 6
  go_upto_region 19 with fail
  clear c0 c1 c2 c3 c4 c5 c6 z6
  have HS5 : Bx (Sb 38 (W2.setCell ⟨g1, 6, none⟩ (.int .i64 (N : Int))) g1 #[.bool true, .int .i64 0, .int .u32 ((0 : Nat) : Int), .slice (some ⟨g0, 0, none⟩) 8 8, .slice none 0 0, .int .u64 ((0 : Nat) : Int), .int .i64 (N : Int)]) := ⟨Sb.set HS1.out 6 (.int .i64 (N : Int)) (by simp)⟩
  have HD5 : Bx (Bs (W2.setCell ⟨g1, 6, none⟩ (.int .i64 (N : Int))) (.slice (some ⟨g0, 0, none⟩) 8 8) (List.replicate 8 0)) := ⟨Rd.setOtherg HV1.out _ HNE.out⟩
  have HB5 : Bx (Below w.heap.size w (W2.setCell ⟨g1, 6, none⟩ (.int .i64 (N : Int)))) := ⟨HB2.out.grown (grown_set W2 g1 6 _) HB2.out.size (fun k hk => by injection hk with hk; have := HGG.out; omega)⟩
  have HP5 : Bx (Bs (W2.setCell ⟨g1, 6, none⟩ (.int .i64 (N : Int))) (.slice none 0 0) []) := ⟨Rd.nil _⟩
  generalize W2.setCell ⟨g1, 6, none⟩ (.int .i64 (N : Int)) = W5 at HP5 HS5 HD5 HB5 ⊢
  have HEx := HEx g0
  have HOk : Bx (hdOk ⟨true, 0, 0, .slice (some ⟨g0, 0, none⟩) 8 8, List.replicate 8 0, .slice none 0 0, [], 0, (N : Int)⟩) := ⟨by have := HNb.out; unfold hdOk; simp <;> omega⟩
  have HPL : Bx (([] : List UInt8).length ≤ 50000) := ⟨by simp⟩
  clear N1 N2 hN hD
  have HQ := Bx.mk (fun W (h1 : Bs W (.slice (some ⟨g0, 0, none⟩) 8 8) (List.replicate 8 0)) (h2 : Bs W (.slice none 0 0) []) => qWrite_any ⟨true, 0, 0, .slice (some ⟨g0, 0, none⟩) 8 8, List.replicate 8 0, .slice none 0 0, [], 0, (N : Int)⟩ (.slice none 0 0) [] W HOk.out h1 (Rd.nil W) h2 HPL.out)
  have HR := Bx.mk (fun W (h1 : Bs W (.slice (some ⟨g0, 0, none⟩) 8 8) (List.replicate 8 0)) (h2 : Bs W (.slice none 0 0) []) => refPkW_any ⟨true, 0, 0, .slice (some ⟨g0, 0, none⟩) 8 8, List.replicate 8 0, .slice none 0 0, [], 0, (N : Int)⟩ (.slice none 0 0) [] W HOk.out h1 (Rd.nil W) h2)
  have hX := HEx.out
  rw [hX] at HQ HR
  clear hX
  obtain ⟨x0, x1, x2, x3, x4, x5, x6⟩ := hdcE (ver := 0) HS5.out
  go_wp2_with (first
    | (go_at_call 28
       refine (HQ.out _ HD5.out HP5.out).mono ?_
       rintro e w6 ⟨rfl, b6⟩
       have HB6 := Bx.mk (HB5.out.trans (b6.mono HB5.out.size))
       have HD6 := Bx.mk (HD5.out.keep b6)
       have HP6 := Bx.mk (HP5.out.keep b6)
       obtain ⟨y0, y1, y2, y3, y4, y5, y6⟩ := hdcE (ver := 0) (HS5.out.keep b6)
       clear b6)
    | (go_at_call 25
       refine (HR.out _ HD6.out HP6.out).mono ?_
       rintro e w7 ⟨rfl, b7⟩
       have HB7 := Bx.mk (HB6.out.trans (b7.mono HB6.out.size))
       clear b7))
  go_ret
  exact ⟨rfl, HB7.out⟩
set_option maxRecDepth 100000 in
set_option maxHeartbeats 8000000 in
theorem pg_3_false_true (t n : Int) (q : Nat) (ht : t.tmod 4 = 3) (hn : n.tmod 5 = (q : Int)) (hq : q < 5) (h0 : q ≤ 2) (w : World) :
    Calls Try.prog 8 #[.int .u8 t, .int .u8 n, .bool false] w fun e w' => e = .returned (.bool true) ∧ Below w.heap.size w w' := by
  have HK := Bx.mk (known18_any w)
  have hmk : ∀ W : World, (Instr.makeSlice 36 (.int .i64 8) (.int .i64 8)).run Try.prog W = .ok (.slice (some ⟨W.heap.size, 0, none⟩) 8 8) (W.alloc (.cells (madeCells #[.int .u8 0] 8) 5)) := fun W => make_u8g 8 (by omega) W
  obtain ⟨D, hD⟩ : ∃ D : Int, (q : Int) - 2 = D := ⟨_, rfl⟩
  have fok : decide (D ≤ 0) = true := decide_eq_true (by omega)
  obtain ⟨N, hN⟩ := Int.eq_ofNat_of_zero_le (show 0 ≤ 65535 + D by omega)
  have hNq : N + 2 = 65535 + q := by omega
  have HNb : Bx (N ≤ 65537) := ⟨by omega⟩
  have N1 : wrap64 (N : Int) = (N : Int) := w64s N (by omega)
  have N2 : IntKind.u64.wrap (N : Int) = (N : Int) := u64s N (by omega)
  have q8 : IntKind.i64.wrap (q : Int) = (q : Int) := i64s q (by omega)
  have D1 : wrap64 D = D := by unfold wrap64; omega
  have HEx : ∀ g0 : Nat, Bx (∃ X, pkW (phM ⟨false, 0, 0, .slice (some ⟨g0, 0, none⟩) 8 8, List.replicate 8 0, .slice none 0 0, [], N, 2⟩) [] = some X ∧ X.length ≤ 1200) := fun g0 => ⟨pkW_ex ⟨false, 0, 0, .slice (some ⟨g0, 0, none⟩) 8 8, List.replicate 8 0, .slice none 0 0, [], N, 2⟩ [] 2 rfl (by unfold goodB; simp; omega) (by
    have hv := varB_len8 (2 + 0)
    simp only [pkHd, lhB, if_true, Bool.false_eq_true, if_false, List.length_cons, List.length_append, List.length_replicate, bes_len, List.length_nil] at hv ⊢
    omega)⟩
  clear hNq
  clear hq h0
  go_enter Try.func8, Try.ntmps8
  go_upto_region 5 with (go_at_call 24; refine HK.out.mono ?_; rintro e w0 ⟨rfl, b1⟩; have HB1 := Bx.mk b1; clear b1)
  have HV0 : Bx (Bs (w0.alloc (.cells (madeCells #[.int .u8 0] 8) 5)) (.slice (some ⟨w0.heap.size, 0, none⟩) 8 8) (List.replicate 8 0)) := ⟨Bs.madeg w0 8 (by omega)⟩
  have HB0 : Bx (Below w.heap.size w (w0.alloc (.cells (madeCells #[.int .u8 0] 8) 5))) := ⟨HB1.out.alloc HB1.out.size _⟩
  have hgs : (w0.alloc (.cells (madeCells #[.int .u8 0] 8) 5)).heap.size = w0.heap.size + 1 := by simp
  have HW0 : Bx (w.heap.size ≤ w0.heap.size) := ⟨HB1.out.size⟩
  generalize w0.alloc (.cells (madeCells #[.int .u8 0] 8) 5) = W1 at HV0 HB0 hgs ⊢
  obtain ⟨g0, hg0⟩ : ∃ g, w0.heap.size = g := ⟨_, rfl⟩
  obtain ⟨g1, hg1⟩ : ∃ g, w0.heap.size + 1 = g := ⟨_, rfl⟩
  rw [hg1] at hgs
  rw [hg0] at HV0 HW0
  have HGG : Bx (w.heap.size ≤ g1) := ⟨by have := HW0.out; omega⟩
  have HNE : Bx (g0 ≠ g1) := ⟨by omega⟩
  try simp only [hg1]
  try simp only [hg0]
  have HS1 : Bx (Sb 38 (W1.alloc (.cells #[.bool false, .int .i64 0, .int .u32 0, .slice (some ⟨g0, 0, none⟩) 8 8, .slice none 0 0, .int .u64 0, .int .i64 1] 38)) g1 #[.bool false, .int .i64 0, .int .u32 0, .slice (some ⟨g0, 0, none⟩) 8 8, .slice none 0 0, .int .u64 0, .int .i64 1]) := ⟨Sb.newg _ _ _ hgs _⟩
  have HV1 : Bx (Bs (W1.alloc (.cells #[.bool false, .int .i64 0, .int .u32 0, .slice (some ⟨g0, 0, none⟩) 8 8, .slice none 0 0, .int .u64 0, .int .i64 1] 38)) (.slice (some ⟨g0, 0, none⟩) 8 8) (List.replicate 8 0)) := ⟨HV0.out.keep ((Below.refl _ _).alloc (Nat.le_refl _) _)⟩
  have HB2 : Bx (Below w.heap.size w (W1.alloc (.cells #[.bool false, .int .i64 0, .int .u32 0, .slice (some ⟨g0, 0, none⟩) 8 8, .slice none 0 0, .int .u64 0, .int .i64 1] 38))) := ⟨HB0.out.alloc HB0.out.size _⟩
  generalize W1.alloc (.cells #[.bool false, .int .i64 0, .int .u32 0, .slice (some ⟨g0, 0, none⟩) 8 8, .slice none 0 0, .int .u64 0, .int .i64 1] 38) = W2 at HS1 HV1 HB2 ⊢
  have HGL : Bx (g1 < W2.heap.size) := ⟨HS1.out.lt⟩
  clear hgs hmk hg1 hg0
  obtain ⟨c0, c1, c2, c3, c4, c5, c6⟩ := hdcE (ver := 0) (pn := 0) HS1.out
  have z6 : W2.frozen? ⟨g1, 6, none⟩ = false := HS1.out.free 6
  have HS6 : Bx (Sb 38 (W2.setCell ⟨g1, 6, none⟩ (.int .i64 2)) g1 #[.bool false, .int .i64 0, .int .u32 0, .slice (some ⟨g0, 0, none⟩) 8 8, .slice none 0 0, .int .u64 0, .int .i64 2]) := ⟨Sb.set HS1.out 6 (.int .i64 2) (by simp)⟩
  have z5 : (W2.setCell ⟨g1, 6, none⟩ (.int .i64 2)).frozen? ⟨g1, 5, none⟩ = false := HS6.out.free 5
  have d5 : (W2.setCell ⟨g1, 6, none⟩ (.int .i64 2)).cell? ⟨g1, 5, none⟩ = some (.int .u64 0) := HS6.out.cell 5
  go_upto_region 19 with fail
  clear c0 c1 c2 c3 c4 c5 c6 z6 z5 d5
  have HS5 : Bx (Sb 38 ((W2.setCell ⟨g1, 6, none⟩ (.int .i64 2)).setCell ⟨g1, 5, none⟩ (.int .u64 (N : Int))) g1 #[.bool false, .int .i64 0, .int .u32 ((0 : Nat) : Int), .slice (some ⟨g0, 0, none⟩) 8 8, .slice none 0 0, .int .u64 (N : Int), .int .i64 2]) := ⟨Sb.set HS6.out 5 (.int .u64 (N : Int)) (by simp)⟩
  have HD5 : Bx (Bs ((W2.setCell ⟨g1, 6, none⟩ (.int .i64 2)).setCell ⟨g1, 5, none⟩ (.int .u64 (N : Int))) (.slice (some ⟨g0, 0, none⟩) 8 8) (List.replicate 8 0)) := ⟨Rd.setOtherg (Rd.setOtherg HV1.out _ HNE.out) _ HNE.out⟩
  have HB5 : Bx (Below w.heap.size w ((W2.setCell ⟨g1, 6, none⟩ (.int .i64 2)).setCell ⟨g1, 5, none⟩ (.int .u64 (N : Int)))) := ⟨(HB2.out.grown (grown_set W2 g1 6 _) HB2.out.size (fun k hk => by injection hk with hk; have := HGG.out; omega)).grown (grown_set _ g1 5 _) (by have := HB2.out.size; simpa [World.setCell] using this) (fun k hk => by injection hk with hk; have := HGG.out; omega)⟩
  have HP5 : Bx (Bs ((W2.setCell ⟨g1, 6, none⟩ (.int .i64 2)).setCell ⟨g1, 5, none⟩ (.int .u64 (N : Int))) (.slice none 0 0) []) := ⟨Rd.nil _⟩
  generalize (W2.setCell ⟨g1, 6, none⟩ (.int .i64 2)).setCell ⟨g1, 5, none⟩ (.int .u64 (N : Int)) = W5 at HP5 HS5 HD5 HB5 ⊢
  have HEx := HEx g0
  have HOk : Bx (hdOk ⟨false, 0, 0, .slice (some ⟨g0, 0, none⟩) 8 8, List.replicate 8 0, .slice none 0 0, [], N, 2⟩) := ⟨by have := HNb.out; unfold hdOk; simp <;> omega⟩
  have HPL : Bx (([] : List UInt8).length ≤ 50000) := ⟨by simp⟩
  clear N1 N2 hN hD
  have HQ := Bx.mk (fun W (h1 : Bs W (.slice (some ⟨g0, 0, none⟩) 8 8) (List.replicate 8 0)) (h2 : Bs W (.slice none 0 0) []) => qWrite_any ⟨false, 0, 0, .slice (some ⟨g0, 0, none⟩) 8 8, List.replicate 8 0, .slice none 0 0, [], N, 2⟩ (.slice none 0 0) [] W HOk.out h1 (Rd.nil W) h2 HPL.out)
  have HR := Bx.mk (fun W (h1 : Bs W (.slice (some ⟨g0, 0, none⟩) 8 8) (List.replicate 8 0)) (h2 : Bs W (.slice none 0 0) []) => refPkW_any ⟨false, 0, 0, .slice (some ⟨g0, 0, none⟩) 8 8, List.replicate 8 0, .slice none 0 0, [], N, 2⟩ (.slice none 0 0) [] W HOk.out h1 (Rd.nil W) h2)
  obtain ⟨X, hX, hXl⟩ := HEx.out
  rw [hX] at HQ HR
  obtain ⟨L, hL⟩ : ∃ L, X.length = L := ⟨_, rfl⟩
  have HXL := Bx.mk hL
  have fL : decide ((L : Int) ≤ 1200) = true := decide_eq_true (by omega)
  have fLn : decide (L ≤ 1200) = true := decide_eq_true (by omega)
  clear hX hL hXl
  obtain ⟨x0, x1, x2, x3, x4, x5, x6⟩ := hdcE (ver := 0) HS5.out
  go_wp2_with (first
    | (go_at_call 28
       refine (HQ.out _ HD5.out HP5.out).mono ?_
       rintro e w6 ⟨v6, rfl, h6, b6⟩
       have hl6 := fun tr W => (show Bs w6 v6 X from Ap.rd h6).run_len tr W
       rw [HXL.out] at hl6
       clear h6
       have HB6 := Bx.mk (HB5.out.trans (b6.mono HB5.out.size))
       have HD6 := Bx.mk (HD5.out.keep b6)
       have HP6 := Bx.mk (HP5.out.keep b6)
       obtain ⟨y0, y1, y2, y3, y4, y5, y6⟩ := hdcE (ver := 0) (HS5.out.keep b6)
       clear b6)
    | (go_at_call 25
       refine (HR.out _ HD6.out HP6.out).mono ?_
       rintro e w7 ⟨v7, rfl, h7, b7⟩
       have HB7 := Bx.mk (HB6.out.trans (b7.mono HB6.out.size))
       clear b7 h7))
  go_ret
  exact ⟨rfl, HB7.out⟩
set_option maxRecDepth 100000 in
set_option maxHeartbeats 8000000 in
theorem pg_3_false_false (t n : Int) (q : Nat) (ht : t.tmod 4 = 3) (hn : n.tmod 5 = (q : Int)) (hq : q < 5) (h0 : ¬ q ≤ 2) (w : World) :
    Calls Try.prog 8 #[.int .u8 t, .int .u8 n, .bool false] w fun e w' => e = .returned (.bool true) ∧ Below w.heap.size w w' := by
  have HK := Bx.mk (known18_any w)
  have hmk : ∀ W : World, (Instr.makeSlice 36 (.int .i64 8) (.int .i64 8)).run Try.prog W = .ok (.slice (some ⟨W.heap.size, 0, none⟩) 8 8) (W.alloc (.cells (madeCells #[.int .u8 0] 8) 5)) := fun W => make_u8g 8 (by omega) W
  obtain ⟨D, hD⟩ : ∃ D : Int, (q : Int) - 2 = D := ⟨_, rfl⟩
  have fok : decide (D ≤ 0) = false := decide_eq_false (by omega)
  obtain ⟨N, hN⟩ := Int.eq_ofNat_of_zero_le (show 0 ≤ 65535 + D by omega)
  have hNq : N + 2 = 65535 + q := by omega
  have HNb : Bx (N ≤ 65537) := ⟨by omega⟩
  have N1 : wrap64 (N : Int) = (N : Int) := w64s N (by omega)
  have N2 : IntKind.u64.wrap (N : Int) = (N : Int) := u64s N (by omega)
  have q8 : IntKind.i64.wrap (q : Int) = (q : Int) := i64s q (by omega)
  have D1 : wrap64 D = D := by unfold wrap64; omega
  have HEx : ∀ g0 : Nat, Bx (pkW (phM ⟨false, 0, 0, .slice (some ⟨g0, 0, none⟩) 8 8, List.replicate 8 0, .slice none 0 0, [], N, 2⟩) [] = none) := fun g0 => ⟨pkW_no ⟨false, 0, 0, .slice (some ⟨g0, 0, none⟩) 8 8, List.replicate 8 0, .slice none 0 0, [], N, 2⟩ [] (by unfold goodB; simp; omega)⟩
  clear hNq
  clear hq h0
  go_enter Try.func8, Try.ntmps8
  go_upto_region 5 with (go_at_call 24; refine HK.out.mono ?_; rintro e w0 ⟨rfl, b1⟩; have HB1 := Bx.mk b1; clear b1)
  have HV0 : Bx (Bs (w0.alloc (.cells (madeCells #[.int .u8 0] 8) 5)) (.slice (some ⟨w0.heap.size, 0, none⟩) 8 8) (List.replicate 8 0)) := ⟨Bs.madeg w0 8 (by omega)⟩
  have HB0 : Bx (Below w.heap.size w (w0.alloc (.cells (madeCells #[.int .u8 0] 8) 5))) := ⟨HB1.out.alloc HB1.out.size _⟩
  have hgs : (w0.alloc (.cells (madeCells #[.int .u8 0] 8) 5)).heap.size = w0.heap.size + 1 := by simp
  have HW0 : Bx (w.heap.size ≤ w0.heap.size) := ⟨HB1.out.size⟩
  generalize w0.alloc (.cells (madeCells #[.int .u8 0] 8) 5) = W1 at HV0 HB0 hgs ⊢
  obtain ⟨g0, hg0⟩ : ∃ g, w0.heap.size = g := ⟨_, rfl⟩
  obtain ⟨g1, hg1⟩ : ∃ g, w0.heap.size + 1 = g := ⟨_, rfl⟩
  rw [hg1] at hgs
  rw [hg0] at HV0 HW0
  have HGG : Bx (w.heap.size ≤ g1) := ⟨by have := HW0.out; omega⟩
  have HNE : Bx (g0 ≠ g1) := ⟨by omega⟩
  try simp only [hg1]
  try simp only [hg0]
  have HS1 : Bx (Sb 38 (W1.alloc (.cells #[.bool false, .int .i64 0, .int .u32 0, .slice (some ⟨g0, 0, none⟩) 8 8, .slice none 0 0, .int .u64 0, .int .i64 1] 38)) g1 #[.bool false, .int .i64 0, .int .u32 0, .slice (some ⟨g0, 0, none⟩) 8 8, .slice none 0 0, .int .u64 0, .int .i64 1]) := ⟨Sb.newg _ _ _ hgs _⟩
  have HV1 : Bx (Bs (W1.alloc (.cells #[.bool false, .int .i64 0, .int .u32 0, .slice (some ⟨g0, 0, none⟩) 8 8, .slice none 0 0, .int .u64 0, .int .i64 1] 38)) (.slice (some ⟨g0, 0, none⟩) 8 8) (List.replicate 8 0)) := ⟨HV0.out.keep ((Below.refl _ _).alloc (Nat.le_refl _) _)⟩
  have HB2 : Bx (Below w.heap.size w (W1.alloc (.cells #[.bool false, .int .i64 0, .int .u32 0, .slice (some ⟨g0, 0, none⟩) 8 8, .slice none 0 0, .int .u64 0, .int .i64 1] 38))) := ⟨HB0.out.alloc HB0.out.size _⟩
  generalize W1.alloc (.cells #[.bool false, .int .i64 0, .int .u32 0, .slice (some ⟨g0, 0, none⟩) 8 8, .slice none 0 0, .int .u64 0, .int .i64 1] 38) = W2 at HS1 HV1 HB2 ⊢
  have HGL : Bx (g1 < W2.heap.size) := ⟨HS1.out.lt⟩
  clear hgs hmk hg1 hg0
  obtain ⟨c0, c1, c2, c3, c4, c5, c6⟩ := hdcE (ver := 0) (pn := 0) HS1.out
  have z6 : W2.frozen? ⟨g1, 6, none⟩ = false := HS1.out.free 6
  have HS6 : Bx (Sb 38 (W2.setCell ⟨g1, 6, none⟩ (.int .i64 2)) g1 #[.bool false, .int .i64 0, .int .u32 0, .slice (some ⟨g0, 0, none⟩) 8 8, .slice none 0 0, .int .u64 0, .int .i64 2]) := ⟨Sb.set HS1.out 6 (.int .i64 2) (by simp)⟩
  have z5 : (W2.setCell ⟨g1, 6, none⟩ (.int .i64 2)).frozen? ⟨g1, 5, none⟩ = false := HS6.out.free 5
  have d5 : (W2.setCell ⟨g1, 6, none⟩ (.int .i64 2)).cell? ⟨g1, 5, none⟩ = some (.int .u64 0) := HS6.out.cell 5
  go_upto_region 19 with fail
  clear c0 c1 c2 c3 c4 c5 c6 z6 z5 d5
  have HS5 : Bx (Sb 38 ((W2.setCell ⟨g1, 6, none⟩ (.int .i64 2)).setCell ⟨g1, 5, none⟩ (.int .u64 (N : Int))) g1 #[.bool false, .int .i64 0, .int .u32 ((0 : Nat) : Int), .slice (some ⟨g0, 0, none⟩) 8 8, .slice none 0 0, .int .u64 (N : Int), .int .i64 2]) := ⟨Sb.set HS6.out 5 (.int .u64 (N : Int)) (by simp)⟩
  have HD5 : Bx (Bs ((W2.setCell ⟨g1, 6, none⟩ (.int .i64 2)).setCell ⟨g1, 5, none⟩ (.int .u64 (N : Int))) (.slice (some ⟨g0, 0, none⟩) 8 8) (List.replicate 8 0)) := ⟨Rd.setOtherg (Rd.setOtherg HV1.out _ HNE.out) _ HNE.out⟩
  have HB5 : Bx (Below w.heap.size w ((W2.setCell ⟨g1, 6, none⟩ (.int .i64 2)).setCell ⟨g1, 5, none⟩ (.int .u64 (N : Int)))) := ⟨(HB2.out.grown (grown_set W2 g1 6 _) HB2.out.size (fun k hk => by injection hk with hk; have := HGG.out; omega)).grown (grown_set _ g1 5 _) (by have := HB2.out.size; simpa [World.setCell] using this) (fun k hk => by injection hk with hk; have := HGG.out; omega)⟩
  have HP5 : Bx (Bs ((W2.setCell ⟨g1, 6, none⟩ (.int .i64 2)).setCell ⟨g1, 5, none⟩ (.int .u64 (N : Int))) (.slice none 0 0) []) := ⟨Rd.nil _⟩
  generalize (W2.setCell ⟨g1, 6, none⟩ (.int .i64 2)).setCell ⟨g1, 5, none⟩ (.int .u64 (N : Int)) = W5 at HP5 HS5 HD5 HB5 ⊢
  have HEx := HEx g0
  have HOk : Bx (hdOk ⟨false, 0, 0, .slice (some ⟨g0, 0, none⟩) 8 8, List.replicate 8 0, .slice none 0 0, [], N, 2⟩) := ⟨by have := HNb.out; unfold hdOk; simp <;> omega⟩
  have HPL : Bx (([] : List UInt8).length ≤ 50000) := ⟨by simp⟩
  clear N1 N2 hN hD
  have HQ := Bx.mk (fun W (h1 : Bs W (.slice (some ⟨g0, 0, none⟩) 8 8) (List.replicate 8 0)) (h2 : Bs W (.slice none 0 0) []) => qWrite_any ⟨false, 0, 0, .slice (some ⟨g0, 0, none⟩) 8 8, List.replicate 8 0, .slice none 0 0, [], N, 2⟩ (.slice none 0 0) [] W HOk.out h1 (Rd.nil W) h2 HPL.out)
  have HR := Bx.mk (fun W (h1 : Bs W (.slice (some ⟨g0, 0, none⟩) 8 8) (List.replicate 8 0)) (h2 : Bs W (.slice none 0 0) []) => refPkW_any ⟨false, 0, 0, .slice (some ⟨g0, 0, none⟩) 8 8, List.replicate 8 0, .slice none 0 0, [], N, 2⟩ (.slice none 0 0) [] W HOk.out h1 (Rd.nil W) h2)
  have hX := HEx.out
  rw [hX] at HQ HR
  clear hX
  obtain ⟨x0, x1, x2, x3, x4, x5, x6⟩ := hdcE (ver := 0) HS5.out
  go_wp2_with (first
    | (go_at_call 28
       refine (HQ.out _ HD5.out HP5.out).mono ?_
       rintro e w6 ⟨rfl, b6⟩
       have HB6 := Bx.mk (HB5.out.trans (b6.mono HB5.out.size))
       have HD6 := Bx.mk (HD5.out.keep b6)
       have HP6 := Bx.mk (HP5.out.keep b6)
       obtain ⟨y0, y1, y2, y3, y4, y5, y6⟩ := hdcE (ver := 0) (HS5.out.keep b6)
       clear b6)
    | (go_at_call 25
       refine (HR.out _ HD6.out HP6.out).mono ?_
       rintro e w7 ⟨rfl, b7⟩
       have HB7 := Bx.mk (HB6.out.trans (b7.mono HB6.out.size))
       clear b7))
  go_ret
  exact ⟨rfl, HB7.out⟩
set_option maxRecDepth 100000 in
set_option maxHeartbeats 8000000 in
theorem pg_3_true_true (t n : Int) (q : Nat) (ht : t.tmod 4 = 3) (hn : n.tmod 5 = (q : Int)) (hq : q < 5) (h0 : q ≤ 2) (w : World) :
    Calls Try.prog 8 #[.int .u8 t, .int .u8 n, .bool true] w fun e w' => e = .returned (.bool true) ∧ Below w.heap.size w w' := by
  have HK := Bx.mk (known18_any w)
  have hmk : ∀ W : World, (Instr.makeSlice 36 (.int .i64 8) (.int .i64 8)).run Try.prog W = .ok (.slice (some ⟨W.heap.size, 0, none⟩) 8 8) (W.alloc (.cells (madeCells #[.int .u8 0] 8) 5)) := fun W => make_u8g 8 (by omega) W
  obtain ⟨D, hD⟩ : ∃ D : Int, (q : Int) - 2 = D := ⟨_, rfl⟩
  have fok : decide (D ≤ 0) = true := decide_eq_true (by omega)
  obtain ⟨N, hN⟩ := Int.eq_ofNat_of_zero_le (show 0 ≤ 65535 + D by omega)
  have hNq : N + 2 = 65535 + q := by omega
  have HNb : Bx (N ≤ 65537) := ⟨by omega⟩
  have N1 : wrap64 (N : Int) = (N : Int) := w64s N (by omega)
  have N2 : IntKind.u64.wrap (N : Int) = (N : Int) := u64s N (by omega)
  have q8 : IntKind.i64.wrap (q : Int) = (q : Int) := i64s q (by omega)
  have D1 : wrap64 D = D := by unfold wrap64; omega
  have HEx : ∀ g0 : Nat, Bx (∃ X, pkW (phM ⟨true, 0, 0, .slice (some ⟨g0, 0, none⟩) 8 8, List.replicate 8 0, .slice none 0 0, [], N, 2⟩) [] = some X ∧ X.length ≤ 1200) := fun g0 => ⟨pkW_ex ⟨true, 0, 0, .slice (some ⟨g0, 0, none⟩) 8 8, List.replicate 8 0, .slice none 0 0, [], N, 2⟩ [] 2 rfl (by unfold goodB; simp; omega) (by
    have hv := varB_len8 (2 + 0)
    simp only [pkHd, lhB, if_true, Bool.false_eq_true, if_false, List.length_cons, List.length_append, List.length_replicate, bes_len, List.length_nil] at hv ⊢
    omega)⟩
  clear hNq
  clear hq h0
  go_enter Try.func8, Try.ntmps8
  go_upto_region 5 with (go_at_call 24; refine HK.out.mono ?_; rintro e w0 ⟨rfl, b1⟩; have HB1 := Bx.mk b1; clear b1)
  have HV0 : Bx (Bs (w0.alloc (.cells (madeCells #[.int .u8 0] 8) 5)) (.slice (some ⟨w0.heap.size, 0, none⟩) 8 8) (List.replicate 8 0)) := ⟨Bs.madeg w0 8 (by omega)⟩
  have HB0 : Bx (Below w.heap.size w (w0.alloc (.cells (madeCells #[.int .u8 0] 8) 5))) := ⟨HB1.out.alloc HB1.out.size _⟩
  have hgs : (w0.alloc (.cells (madeCells #[.int .u8 0] 8) 5)).heap.size = w0.heap.size + 1 := by simp
  have HW0 : Bx (w.heap.size ≤ w0.heap.size) := ⟨HB1.out.size⟩
  generalize w0.alloc (.cells (madeCells #[.int .u8 0] 8) 5) = W1 at HV0 HB0 hgs ⊢
  obtain ⟨g0, hg0⟩ : ∃ g, w0.heap.size = g := ⟨_, rfl⟩
  obtain ⟨g1, hg1⟩ : ∃ g, w0.heap.size + 1 = g := ⟨_, rfl⟩
  rw [hg1] at hgs
  rw [hg0] at HV0 HW0
  have HGG : Bx (w.heap.size ≤ g1) := ⟨by have := HW0.out; omega⟩
  have HNE : Bx (g0 ≠ g1) := ⟨by omega⟩
  try simp only [hg1]
  try simp only [hg0]
  have HS1 : Bx (Sb 38 (W1.alloc (.cells #[.bool true, .int .i64 0, .int .u32 0, .slice (some ⟨g0, 0, none⟩) 8 8, .slice none 0 0, .int .u64 0, .int .i64 1] 38)) g1 #[.bool true, .int .i64 0, .int .u32 0, .slice (some ⟨g0, 0, none⟩) 8 8, .slice none 0 0, .int .u64 0, .int .i64 1]) := ⟨Sb.newg _ _ _ hgs _⟩
  have HV1 : Bx (Bs (W1.alloc (.cells #[.bool true, .int .i64 0, .int .u32 0, .slice (some ⟨g0, 0, none⟩) 8 8, .slice none 0 0, .int .u64 0, .int .i64 1] 38)) (.slice (some ⟨g0, 0, none⟩) 8 8) (List.replicate 8 0)) := ⟨HV0.out.keep ((Below.refl _ _).alloc (Nat.le_refl _) _)⟩
  have HB2 : Bx (Below w.heap.size w (W1.alloc (.cells #[.bool true, .int .i64 0, .int .u32 0, .slice (some ⟨g0, 0, none⟩) 8 8, .slice none 0 0, .int .u64 0, .int .i64 1] 38))) := ⟨HB0.out.alloc HB0.out.size _⟩
  generalize W1.alloc (.cells #[.bool true, .int .i64 0, .int .u32 0, .slice (some ⟨g0, 0, none⟩) 8 8, .slice none 0 0, .int .u64 0, .int .i64 1] 38) = W2 at HS1 HV1 HB2 ⊢
  have HGL : Bx (g1 < W2.heap.size) := ⟨HS1.out.lt⟩
  clear hgs hmk hg1 hg0
  obtain ⟨c0, c1, c2, c3, c4, c5, c6⟩ := hdcE (ver := 0) (pn := 0) HS1.out
  have z6 : W2.frozen? ⟨g1, 6, none⟩ = false := HS1.out.free 6
  have HS6 : Bx (Sb 38 (W2.setCell ⟨g1, 6, none⟩ (.int .i64 2)) g1 #[.bool true, .int .i64 0, .int .u32 0, .slice (some ⟨g0, 0, none⟩) 8 8, .slice none 0 0, .int .u64 0, .int .i64 2]) := ⟨Sb.set HS1.out 6 (.int .i64 2) (by simp)⟩
  have z5 : (W2.setCell ⟨g1, 6, none⟩ (.int .i64 2)).frozen? ⟨g1, 5, none⟩ = false := HS6.out.free 5
  have d5 : (W2.setCell ⟨g1, 6, none⟩ (.int .i64 2)).cell? ⟨g1, 5, none⟩ = some (.int .u64 0) := HS6.out.cell 5
  go_upto_region 19 with fail
  clear c0 c1 c2 c3 c4 c5 c6 z6 z5 d5
  have HS5 : Bx (Sb 38 ((W2.setCell ⟨g1, 6, none⟩ (.int .i64 2)).setCell ⟨g1, 5, none⟩ (.int .u64 (N : Int))) g1 #[.bool true, .int .i64 0, .int .u32 ((0 : Nat) : Int), .slice (some ⟨g0, 0, none⟩) 8 8, .slice none 0 0, .int .u64 (N : Int), .int .i64 2]) := ⟨Sb.set HS6.out 5 (.int .u64 (N : Int)) (by simp)⟩
  have HD5 : Bx (Bs ((W2.setCell ⟨g1, 6, none⟩ (.int .i64 2)).setCell ⟨g1, 5, none⟩ (.int .u64 (N : Int))) (.slice (some ⟨g0, 0, none⟩) 8 8) (List.replicate 8 0)) := ⟨Rd.setOtherg (Rd.setOtherg HV1.out _ HNE.out) _ HNE.out⟩
  have HB5 : Bx (Below w.heap.size w ((W2.setCell ⟨g1, 6, none⟩ (.int .i64 2)).setCell ⟨g1, 5, none⟩ (.int .u64 (N : Int)))) := ⟨(HB2.out.grown (grown_set W2 g1 6 _) HB2.out.size (fun k hk => by injection hk with hk; have := HGG.out; omega)).grown (grown_set _ g1 5 _) (by have := HB2.out.size; simpa [World.setCell] using this) (fun k hk => by injection hk with hk; have := HGG.out; omega)⟩
  have HP5 : Bx (Bs ((W2.setCell ⟨g1, 6, none⟩ (.int .i64 2)).setCell ⟨g1, 5, none⟩ (.int .u64 (N : Int))) (.slice none 0 0) []) := ⟨Rd.nil _⟩
  generalize (W2.setCell ⟨g1, 6, none⟩ (.int .i64 2)).setCell ⟨g1, 5, none⟩ (.int .u64 (N : Int)) = W5 at HP5 HS5 HD5 HB5 ⊢
  have HEx := HEx g0
  have HOk : Bx (hdOk ⟨true, 0, 0, .slice (some ⟨g0, 0, none⟩) 8 8, List.replicate 8 0, .slice none 0 0, [], N, 2⟩) := ⟨by have := HNb.out; unfold hdOk; simp <;> omega⟩
  have HPL : Bx (([] : List UInt8).length ≤ 50000) := ⟨by simp⟩
  clear N1 N2 hN hD
  have HQ := Bx.mk (fun W (h1 : Bs W (.slice (some ⟨g0, 0, none⟩) 8 8) (List.replicate 8 0)) (h2 : Bs W (.slice none 0 0) []) => qWrite_any ⟨true, 0, 0, .slice (some ⟨g0, 0, none⟩) 8 8, List.replicate 8 0, .slice none 0 0, [], N, 2⟩ (.slice none 0 0) [] W HOk.out h1 (Rd.nil W) h2 HPL.out)
  have HR := Bx.mk (fun W (h1 : Bs W (.slice (some ⟨g0, 0, none⟩) 8 8) (List.replicate 8 0)) (h2 : Bs W (.slice none 0 0) []) => refPkW_any ⟨true, 0, 0, .slice (some ⟨g0, 0, none⟩) 8 8, List.replicate 8 0, .slice none 0 0, [], N, 2⟩ (.slice none 0 0) [] W HOk.out h1 (Rd.nil W) h2)
  obtain ⟨X, hX, hXl⟩ := HEx.out
  rw [hX] at HQ HR
  obtain ⟨L, hL⟩ : ∃ L, X.length = L := ⟨_, rfl⟩
  have HXL := Bx.mk hL
  have fL : decide ((L : Int) ≤ 1200) = true := decide_eq_true (by omega)
  have fLn : decide (L ≤ 1200) = true := decide_eq_true (by omega)
  clear hX hL hXl
  obtain ⟨x0, x1, x2, x3, x4, x5, x6⟩ := hdcE (ver := 0) HS5.out
  go_wp2_with (first
    | (go_at_call 28
       refine (HQ.out _ HD5.out HP5.out).mono ?_
       rintro e w6 ⟨v6, rfl, h6, b6⟩
       have hl6 := fun tr W => (show Bs w6 v6 X from Ap.rd h6).run_len tr W
       rw [HXL.out] at hl6
       clear h6
       have HB6 := Bx.mk (HB5.out.trans (b6.mono HB5.out.size))
       have HD6 := Bx.mk (HD5.out.keep b6)
       have HP6 := Bx.mk (HP5.out.keep b6)
       obtain ⟨y0, y1, y2, y3, y4, y5, y6⟩ := hdcE (ver := 0) (HS5.out.keep b6)
       clear b6)
    | (go_at_call 25
       refine (HR.out _ HD6.out HP6.out).mono ?_
       rintro e w7 ⟨v7, rfl, h7, b7⟩
       have HB7 := Bx.mk (HB6.out.trans (b7.mono HB6.out.size))
       clear b7 h7))
  go_ret
  exact ⟨rfl, HB7.out⟩
set_option maxRecDepth 100000 in
set_option maxHeartbeats 8000000 in
theorem pg_3_true_false (t n : Int) (q : Nat) (ht : t.tmod 4 = 3) (hn : n.tmod 5 = (q : Int)) (hq : q < 5) (h0 : ¬ q ≤ 2) (w : World) :
    Calls Try.prog 8 #[.int .u8 t, .int .u8 n, .bool true] w fun e w' => e = .returned (.bool true) ∧ Below w.heap.size w w' := by
  have HK := Bx.mk (known18_any w)
  have hmk : ∀ W : World, (Instr.makeSlice 36 (.int .i64 8) (.int .i64 8)).run Try.prog W = .ok (.slice (some ⟨W.heap.size, 0, none⟩) 8 8) (W.alloc (.cells (madeCells #[.int .u8 0] 8) 5)) := fun W => make_u8g 8 (by omega) W
  obtain ⟨D, hD⟩ : ∃ D : Int, (q : Int) - 2 = D := ⟨_, rfl⟩
  have fok : decide (D ≤ 0) = false := decide_eq_false (by omega)
  obtain ⟨N, hN⟩ := Int.eq_ofNat_of_zero_le (show 0 ≤ 65535 + D by omega)
  have hNq : N + 2 = 65535 + q := by omega
  have HNb : Bx (N ≤ 65537) := ⟨by omega⟩
  have N1 : wrap64 (N : Int) = (N : Int) := w64s N (by omega)
  have N2 : IntKind.u64.wrap (N : Int) = (N : Int) := u64s N (by omega)
  have q8 : IntKind.i64.wrap (q : Int) = (q : Int) := i64s q (by omega)
  have D1 : wrap64 D = D := by unfold wrap64; omega
  have HEx : ∀ g0 : Nat, Bx (pkW (phM ⟨true, 0, 0, .slice (some ⟨g0, 0, none⟩) 8 8, List.replicate 8 0, .slice none 0 0, [], N, 2⟩) [] = none) := fun g0 => ⟨pkW_no ⟨true, 0, 0, .slice (some ⟨g0, 0, none⟩) 8 8, List.replicate 8 0, .slice none 0 0, [], N, 2⟩ [] (by unfold goodB; simp; omega)⟩
  clear hNq
  clear hq h0
  go_enter Try.func8, Try.ntmps8
  go_upto_region 5 with (go_at_call 24; refine HK.out.mono ?_; rintro e w0 ⟨rfl, b1⟩; have HB1 := Bx.mk b1; clear b1)
  have HV0 : Bx (Bs (w0.alloc (.cells (madeCells #[.int .u8 0] 8) 5)) (.slice (some ⟨w0.heap.size, 0, none⟩) 8 8) (List.replicate 8 0)) := ⟨Bs.madeg w0 8 (by omega)⟩
  have HB0 : Bx (Below w.heap.size w (w0.alloc (.cells (madeCells #[.int .u8 0] 8) 5))) := ⟨HB1.out.alloc HB1.out.size _⟩
  have hgs : (w0.alloc (.cells (madeCells #[.int .u8 0] 8) 5)).heap.size = w0.heap.size + 1 := by simp
  have HW0 : Bx (w.heap.size ≤ w0.heap.size) := ⟨HB1.out.size⟩
  generalize w0.alloc (.cells (madeCells #[.int .u8 0] 8) 5) = W1 at HV0 HB0 hgs ⊢
  obtain ⟨g0, hg0⟩ : ∃ g, w0.heap.size = g := ⟨_, rfl⟩
  obtain ⟨g1, hg1⟩ : ∃ g, w0.heap.size + 1 = g := ⟨_, rfl⟩
  rw [hg1] at hgs
  rw [hg0] at HV0 HW0
  have HGG : Bx (w.heap.size ≤ g1) := ⟨by have := HW0.out; omega⟩
  have HNE : Bx (g0 ≠ g1) := ⟨by omega⟩
  try simp only [hg1]
  try simp only [hg0]
  have HS1 : Bx (Sb 38 (W1.alloc (.cells #[.bool true, .int .i64 0, .int .u32 0, .slice (some ⟨g0, 0, none⟩) 8 8, .slice none 0 0, .int .u64 0, .int .i64 1] 38)) g1 #[.bool true, .int .i64 0, .int .u32 0, .slice (some ⟨g0, 0, none⟩) 8 8, .slice none 0 0, .int .u64 0, .int .i64 1]) := ⟨Sb.newg _ _ _ hgs _⟩
  have HV1 : Bx (Bs (W1.alloc (.cells #[.bool true, .int .i64 0, .int .u32 0, .slice (some ⟨g0, 0, none⟩) 8 8, .slice none 0 0, .int .u64 0, .int .i64 1] 38)) (.slice (some ⟨g0, 0, none⟩) 8 8) (List.replicate 8 0)) := ⟨HV0.out.keep ((Below.refl _ _).alloc (Nat.le_refl _) _)⟩
  have HB2 : Bx (Below w.heap.size w (W1.alloc (.cells #[.bool true, .int .i64 0, .int .u32 0, .slice (some ⟨g0, 0, none⟩) 8 8, .slice none 0 0, .int .u64 0, .int .i64 1] 38))) := ⟨HB0.out.alloc HB0.out.size _⟩
  generalize W1.alloc (.cells #[.bool true, .int .i64 0, .int .u32 0, .slice (some ⟨g0, 0, none⟩) 8 8, .slice none 0 0, .int .u64 0, .int .i64 1] 38) = W2 at HS1 HV1 HB2 ⊢
  have HGL : Bx (g1 < W2.heap.size) := ⟨HS1.out.lt⟩
  clear hgs hmk hg1 hg0
  obtain ⟨c0, c1, c2, c3, c4, c5, c6⟩ := hdcE (ver := 0) (pn := 0) HS1.out
  have z6 : W2.frozen? ⟨g1, 6, none⟩ = false := HS1.out.free 6
  have HS6 : Bx (Sb 38 (W2.setCell ⟨g1, 6, none⟩ (.int .i64 2)) g1 #[.bool true, .int .i64 0, .int .u32 0, .slice (some ⟨g0, 0, none⟩) 8 8, .slice none 0 0, .int .u64 0, .int .i64 2]) := ⟨Sb.set HS1.out 6 (.int .i64 2) (by simp)⟩
  have z5 : (W2.setCell ⟨g1, 6, none⟩ (.int .i64 2)).frozen? ⟨g1, 5, none⟩ = false := HS6.out.free 5
  have d5 : (W2.setCell ⟨g1, 6, none⟩ (.int .i64 2)).cell? ⟨g1, 5, none⟩ = some (.int .u64 0) := HS6.out.cell 5
  go_upto_region 19 with fail
  clear c0 c1 c2 c3 c4 c5 c6 z6 z5 d5
  have HS5 : Bx (Sb 38 ((W2.setCell ⟨g1, 6, none⟩ (.int .i64 2)).setCell ⟨g1, 5, none⟩ (.int .u64 (N : Int))) g1 #[.bool true, .int .i64 0, .int .u32 ((0 : Nat) : Int), .slice (some ⟨g0, 0, none⟩) 8 8, .slice none 0 0, .int .u64 (N : Int), .int .i64 2]) := ⟨Sb.set HS6.out 5 (.int .u64 (N : Int)) (by simp)⟩
  have HD5 : Bx (Bs ((W2.setCell ⟨g1, 6, none⟩ (.int .i64 2)).setCell ⟨g1, 5, none⟩ (.int .u64 (N : Int))) (.slice (some ⟨g0, 0, none⟩) 8 8) (List.replicate 8 0)) := ⟨Rd.setOtherg (Rd.setOtherg HV1.out _ HNE.out) _ HNE.out⟩
  have HB5 : Bx (Below w.heap.size w ((W2.setCell ⟨g1, 6, none⟩ (.int .i64 2)).setCell ⟨g1, 5, none⟩ (.int .u64 (N : Int)))) := ⟨(HB2.out.grown (grown_set W2 g1 6 _) HB2.out.size (fun k hk => by injection hk with hk; have := HGG.out; omega)).grown (grown_set _ g1 5 _) (by have := HB2.out.size; simpa [World.setCell] using this) (fun k hk => by injection hk with hk; have := HGG.out; omega)⟩
  have HP5 : Bx (Bs ((W2.setCell ⟨g1, 6, none⟩ (.int .i64 2)).setCell ⟨g1, 5, none⟩ (.int .u64 (N : Int))) (.slice none 0 0) []) := ⟨Rd.nil _⟩
  generalize (W2.setCell ⟨g1, 6, none⟩ (.int .i64 2)).setCell ⟨g1, 5, none⟩ (.int .u64 (N : Int)) = W5 at HP5 HS5 HD5 HB5 ⊢
  have HEx := HEx g0
  have HOk : Bx (hdOk ⟨true, 0, 0, .slice (some ⟨g0, 0, none⟩) 8 8, List.replicate 8 0, .slice none 0 0, [], N, 2⟩) := ⟨by have := HNb.out; unfold hdOk; simp <;> omega⟩
  have HPL : Bx (([] : List UInt8).length ≤ 50000) := ⟨by simp⟩
  clear N1 N2 hN hD
  have HQ := Bx.mk (fun W (h1 : Bs W (.slice (some ⟨g0, 0, none⟩) 8 8) (List.replicate 8 0)) (h2 : Bs W (.slice none 0 0) []) => qWrite_any ⟨true, 0, 0, .slice (some ⟨g0, 0, none⟩) 8 8, List.replicate 8 0, .slice none 0 0, [], N, 2⟩ (.slice none 0 0) [] W HOk.out h1 (Rd.nil W) h2 HPL.out)
  have HR := Bx.mk (fun W (h1 : Bs W (.slice (some ⟨g0, 0, none⟩) 8 8) (List.replicate 8 0)) (h2 : Bs W (.slice none 0 0) []) => refPkW_any ⟨true, 0, 0, .slice (some ⟨g0, 0, none⟩) 8 8, List.replicate 8 0, .slice none 0 0, [], N, 2⟩ (.slice none 0 0) [] W HOk.out h1 (Rd.nil W) h2)
  have hX := HEx.out
  rw [hX] at HQ HR
  clear hX
  obtain ⟨x0, x1, x2, x3, x4, x5, x6⟩ := hdcE (ver := 0) HS5.out
  go_wp2_with (first
    | (go_at_call 28
       refine (HQ.out _ HD5.out HP5.out).mono ?_
       rintro e w6 ⟨rfl, b6⟩
       have HB6 := Bx.mk (HB5.out.trans (b6.mono HB5.out.size))
       have HD6 := Bx.mk (HD5.out.keep b6)
       have HP6 := Bx.mk (HP5.out.keep b6)
       obtain ⟨y0, y1, y2, y3, y4, y5, y6⟩ := hdcE (ver := 0) (HS5.out.keep b6)
       clear b6)
    | (go_at_call 25
       refine (HR.out _ HD6.out HP6.out).mono ?_
       rintro e w7 ⟨rfl, b7⟩
       have HB7 := Bx.mk (HB6.out.trans (b7.mono HB6.out.size))
       clear b7))
  go_ret
  exact ⟨rfl, HB7.out⟩
end Go.Proofs.Ytcakppdabolfiaa
