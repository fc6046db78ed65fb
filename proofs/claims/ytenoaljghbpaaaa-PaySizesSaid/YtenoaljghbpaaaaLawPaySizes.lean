/-
  bifoldlaw12.PaySizes answers true, whatever its arguments: the walk, a type at a time.
-/
import Derived.Test.YtenoaljghbpaaaaPyJ
import Derived.Deep.RegionHeld
namespace Go.Proofs.Ytenoaljghbpaaaa
open Go.RowKit
set_option linter.unusedVariables false
set_option linter.unusedSimpArgs false

theorem ps_flags : ∀ f : Fin 256, bits .andNot .u8 (f.val : Int) 40 = ((f.val &&& 215 : Nat) : Int) ∧ hasN (f.val &&& 215) 8 = false ∧ hasN (f.val &&& 215) 32 = false ∧ hasN (f.val &&& 215) 1 = !(bits .and .u8 (f.val : Int) 1 == 0) := by decide +kernel
theorem made_u8 (n : Nat) : (madeCells #[.int .u8 0] n).toList = (List.replicate n (0 : UInt8)).map bv := by
  unfold madeCells
  apply List.ext_getElem
  · simp
  · intro i h1 h2
    simp [bv, Nat.mod_one]
theorem Bs.made (W : World) (n : Nat) (hn : n ≤ 1000000) : Bs (W.alloc (.cells (madeCells #[.int .u8 0] n) 5)) (.slice (some ⟨W.heap.size, 0, none⟩) n n) (List.replicate n 0) := by
  have h := Rd.lit W 5 (madeCells #[.int .u8 0] n) n (by simp [madeCells]) (by unfold maxLen; omega)
  rw [made_u8] at h
  exact h
theorem make_u8 (n : Nat) (hn : n ≤ 1000000) (W : World) : (Instr.makeSlice 22 (.int .i64 (n : Int)) (.int .i64 (n : Int))).run Try.prog W = .ok (.slice (some ⟨W.heap.size, 0, none⟩) n n) (W.alloc (.cells (madeCells #[.int .u8 0] n) 5)) :=
  run_make_row' 22 5 (.int .u8 0) 1 Try.underlying22 infoU8i rfl .i64 .i64 n (by omega) (by omega) W
theorem Rd.setOther {w : World} {b g i n c : Nat} {xs : List Value} (h : Rd w (.slice (some ⟨b, 0, none⟩) n c) xs) (v : Value) (hg : b ≠ g) : Rd (w.setCell ⟨g, i, none⟩ v) (.slice (some ⟨b, 0, none⟩) n c) xs := by
  obtain ⟨A, c', he, h1, h2, h3⟩ := h
  refine ⟨A, c', he, h1, h2, h3.imp id ?_⟩
  rintro ⟨x, rfl, hx⟩
  refine ⟨x, rfl, fun j u hu => ?_⟩
  injection he with e1 e2 e3
  injection e1 with e1
  subst e1
  rw [Addr.add_lit, World.cell?_setCell_far _ _ _ _ (fun h => hg h.symm)]
  have := hx j u hu
  rwa [Addr.add_lit] at this
theorem be4_zero (n : Nat) : be4 (List.replicate n 0) = 0 := by
  rcases n with _ | _ | _ | _ | n <;> rfl
set_option maxRecDepth 100000 in
set_option maxHeartbeats 8000000 in
theorem ps_0 (t n flags : Int) (fl N : Nat) (ht : t.tmod 12 = 0) (hn : n.tmod 40 = (N : Int)) (hN : N < 40) (hF : bits .andNot .u8 flags 40 = (fl : Int)) (hfl : fl < 256) (h8 : hasN fl 8 = false) (h32 : hasN fl 32 = false) (h1 : hasN fl 1 = !(bits .and .u8 flags 1 == 0)) (w : World) :
    Calls Try.prog 7 #[.int .u8 t, .int .u8 n, .int .u8 flags] w fun e w' => e = .returned (.bool true) ∧ Below w.heap.size w w' := by
  have HK := Bx.mk (known12_any w)
  have hpr : (payR 0 fl 1 (List.replicate N 0) : Int) = 0 := by
    have : payR 0 fl 1 (List.replicate N 0) = 0 := by
      simp [payR, misN, sizN, aheadN, isPad, padN, h8]
    rw [this]
    rfl
  have HPR := Bx.mk hpr
  have HFL := Bx.mk hfl
  have HBS := Bx.mk (fun W => Bs.made W N (by omega))
  have hmk := fun W => make_u8 N (by omega) W
  have hlen : ∀ (tr : TypeId) (W : World) (A : Option Addr) (c : Nat), (Builtin.len_ #[22] tr #[.slice A N c]).run Try.prog W = .ok (.int .i64 N) W := fun tr W A c => rfl
  have hw1 : IntKind.i64.wrap (N : Int) = N := by rw [IntKind.wrap_i64]; omega
  have hw2 : IntKind.u8.wrap (N : Int) = N := by rw [IntKind.wrap_u8]; omega
  have HNN := Bx.mk hN
  clear hpr hfl h8 h32 h1 hN
  go_enter Try.func7, Try.ntmps7
  go_upto_region 4 with (go_at_call 28; refine HK.out.mono ?_; rintro e w1 ⟨rfl, b1⟩; have HB1 := Bx.mk b1; clear b1)
  have HBSX := Bx.mk (Bs.made w1 N (by have := HNN.out; omega))
  have hBa := (Below.refl w1.heap.size w1).alloc (Nat.le_refl _) (.cells (madeCells #[.int .u8 0] N) 5)
  have HBW : Bx (Below w.heap.size w ((w1.alloc (.cells (madeCells #[.int .u8 0] N) 5)).alloc (.cells #[.int .u8 0, .int .u8 (fl : Int), .int .u32 1, .slice (some ⟨w1.heap.size, 0, none⟩) N N] 28))) := ⟨(HB1.out.trans (hBa.mono HB1.out.size)).alloc (HB1.out.trans (hBa.mono HB1.out.size)).size _⟩
  have HV : Bx (Bs ((w1.alloc (.cells (madeCells #[.int .u8 0] N) 5)).alloc (.cells #[.int .u8 0, .int .u8 (fl : Int), .int .u32 1, .slice (some ⟨w1.heap.size, 0, none⟩) N N] 28)) (.slice (some ⟨w1.heap.size, 0, none⟩) N N) (List.replicate N 0)) := ⟨HBSX.out.keep ((Below.refl _ _).alloc (Nat.le_refl _) _)⟩
  have HS : Bx (Sb 28 ((w1.alloc (.cells (madeCells #[.int .u8 0] N) 5)).alloc (.cells #[.int .u8 0, .int .u8 (fl : Int), .int .u32 1, .slice (some ⟨w1.heap.size, 0, none⟩) N N] 28)) (w1.heap.size + 1) (fraA 0 (fl : Int) 1 (.slice (some ⟨w1.heap.size, 0, none⟩) N N))) := ⟨Sb.newg _ _ _ (by simp) _⟩
  have HG0 : Bx (w.heap.size ≤ w1.heap.size) := ⟨HB1.out.size⟩
  obtain ⟨w2, hw2e⟩ : ∃ W, (w1.alloc (.cells (madeCells #[.int .u8 0] N) 5)).alloc (.cells #[.int .u8 0, .int .u8 (fl : Int), .int .u32 1, .slice (some ⟨w1.heap.size, 0, none⟩) N N] 28) = W := ⟨_, rfl⟩
  rw [hw2e] at HBW HV HS ⊢
  obtain ⟨g1, hg1⟩ : ∃ g, w1.heap.size + 1 = g := ⟨_, rfl⟩
  rw [hg1] at HS ⊢
  have HG : Bx (w.heap.size ≤ g1 ∧ w1.heap.size ≠ g1) := ⟨by have := HG0.out; omega, by omega⟩
  obtain ⟨h1, hh1⟩ : ∃ h, w1.heap.size = h := ⟨_, rfl⟩
  rw [hh1] at HV HS HG ⊢
  clear hw2e hg1 hh1 HBSX hBa HB1 HBS hmk HG0
  have c0 : w2.cell? ⟨g1, 0, none⟩ = some (.int .u8 0) := HS.out.cell 0
  have c3 : w2.cell? ⟨g1, 3, none⟩ = some (.slice (some ⟨h1, 0, none⟩) N N) := HS.out.cell 3
  have HL : Bx ((List.replicate N (0 : UInt8)).length ≤ 1000000) := ⟨by rw [List.length_replicate]; have := HNN.out; omega⟩
  have HC := Bx.mk (fun (W : World) (h : Bs W (.slice (some ⟨h1, 0, none⟩) N N) (List.replicate N 0)) => pyRead_any 0 fl 1 _ _ (by omega) HFL.out (by omega) W 0 fl 1 rfl rfl rfl h HL.out)
  all_goals go_upto_region 22 with fail
  all_goals  go_wp2_with (first
    | (with_reducible refine wpList_loadFra g1 0 (fl : Int) 1 (.slice (some ⟨h1, 0, none⟩) N N) rfl HS.out ?_)
    | (go_at_call 31; refine (HC.out _ HV.out).mono ?_; rintro e w4 ⟨⟨A1, n1, c1, A2, n2, c2, cc, ss, ii, he, -⟩, b4⟩; rw [HPR.out] at he; subst he; have HB4 := Bx.mk (HBW.out.trans (b4.mono HBW.out.size)); have d0 : ∀ o, (w4.alloc o).cell? ⟨g1, 0, none⟩ = some (.int .u8 0) := (fun o => ((HS.out.below b4 HS.out.lt).alloc o).cell 0); clear b4))
  all_goals go_ret
  all_goals exact ⟨rfl, HB4.out.alloc HB4.out.size _⟩
set_option maxRecDepth 100000 in
set_option maxHeartbeats 8000000 in
theorem ps_1 (t n flags : Int) (fl N : Nat) (ht : t.tmod 12 = 1) (hn : n.tmod 40 = (N : Int)) (hN : N < 40) (hF : bits .andNot .u8 flags 40 = (fl : Int)) (hfl : fl < 256) (h8 : hasN fl 8 = false) (h32 : hasN fl 32 = false) (h1 : hasN fl 1 = !(bits .and .u8 flags 1 == 0)) (w : World) :
    Calls Try.prog 7 #[.int .u8 t, .int .u8 n, .int .u8 flags] w fun e w' => e = .returned (.bool true) ∧ Below w.heap.size w w' := by
  have HK := Bx.mk (known12_any w)
  have hpr : (payR 1 fl 1 (List.replicate N 0) : Int) = 0 := by
    have : payR 1 fl 1 (List.replicate N 0) = 0 := by
      simp [payR, misN, sizN, aheadN, isPad, padN, h8, h32]
    rw [this]
    rfl
  have HPR := Bx.mk hpr
  have HFL := Bx.mk hfl
  have HBS := Bx.mk (fun W => Bs.made W N (by omega))
  have hmk := fun W => make_u8 N (by omega) W
  have hlen : ∀ (tr : TypeId) (W : World) (A : Option Addr) (c : Nat), (Builtin.len_ #[22] tr #[.slice A N c]).run Try.prog W = .ok (.int .i64 N) W := fun tr W A c => rfl
  have hw1 : IntKind.i64.wrap (N : Int) = N := by rw [IntKind.wrap_i64]; omega
  have hw2 : IntKind.u8.wrap (N : Int) = N := by rw [IntKind.wrap_u8]; omega
  have HNN := Bx.mk hN
  clear hpr hfl h8 h32 h1 hN
  go_enter Try.func7, Try.ntmps7
  go_upto_region 4 with (go_at_call 28; refine HK.out.mono ?_; rintro e w1 ⟨rfl, b1⟩; have HB1 := Bx.mk b1; clear b1)
  have HBSX := Bx.mk (Bs.made w1 N (by have := HNN.out; omega))
  have hBa := (Below.refl w1.heap.size w1).alloc (Nat.le_refl _) (.cells (madeCells #[.int .u8 0] N) 5)
  have HBW : Bx (Below w.heap.size w ((w1.alloc (.cells (madeCells #[.int .u8 0] N) 5)).alloc (.cells #[.int .u8 1, .int .u8 (fl : Int), .int .u32 1, .slice (some ⟨w1.heap.size, 0, none⟩) N N] 28))) := ⟨(HB1.out.trans (hBa.mono HB1.out.size)).alloc (HB1.out.trans (hBa.mono HB1.out.size)).size _⟩
  have HV : Bx (Bs ((w1.alloc (.cells (madeCells #[.int .u8 0] N) 5)).alloc (.cells #[.int .u8 1, .int .u8 (fl : Int), .int .u32 1, .slice (some ⟨w1.heap.size, 0, none⟩) N N] 28)) (.slice (some ⟨w1.heap.size, 0, none⟩) N N) (List.replicate N 0)) := ⟨HBSX.out.keep ((Below.refl _ _).alloc (Nat.le_refl _) _)⟩
  have HS : Bx (Sb 28 ((w1.alloc (.cells (madeCells #[.int .u8 0] N) 5)).alloc (.cells #[.int .u8 1, .int .u8 (fl : Int), .int .u32 1, .slice (some ⟨w1.heap.size, 0, none⟩) N N] 28)) (w1.heap.size + 1) (fraA 1 (fl : Int) 1 (.slice (some ⟨w1.heap.size, 0, none⟩) N N))) := ⟨Sb.newg _ _ _ (by simp) _⟩
  have HG0 : Bx (w.heap.size ≤ w1.heap.size) := ⟨HB1.out.size⟩
  obtain ⟨w2, hw2e⟩ : ∃ W, (w1.alloc (.cells (madeCells #[.int .u8 0] N) 5)).alloc (.cells #[.int .u8 1, .int .u8 (fl : Int), .int .u32 1, .slice (some ⟨w1.heap.size, 0, none⟩) N N] 28) = W := ⟨_, rfl⟩
  rw [hw2e] at HBW HV HS ⊢
  obtain ⟨g1, hg1⟩ : ∃ g, w1.heap.size + 1 = g := ⟨_, rfl⟩
  rw [hg1] at HS ⊢
  have HG : Bx (w.heap.size ≤ g1 ∧ w1.heap.size ≠ g1) := ⟨by have := HG0.out; omega, by omega⟩
  obtain ⟨h1, hh1⟩ : ∃ h, w1.heap.size = h := ⟨_, rfl⟩
  rw [hh1] at HV HS HG ⊢
  clear hw2e hg1 hh1 HBSX hBa HB1 HBS hmk HG0
  have c0 : w2.cell? ⟨g1, 0, none⟩ = some (.int .u8 1) := HS.out.cell 0
  have c3 : w2.cell? ⟨g1, 3, none⟩ = some (.slice (some ⟨h1, 0, none⟩) N N) := HS.out.cell 3
  have HL : Bx ((List.replicate N (0 : UInt8)).length ≤ 1000000) := ⟨by rw [List.length_replicate]; have := HNN.out; omega⟩
  have HC := Bx.mk (fun (W : World) (h : Bs W (.slice (some ⟨h1, 0, none⟩) N N) (List.replicate N 0)) => pyRead_any 1 fl 1 _ _ (by omega) HFL.out (by omega) W 1 fl 1 rfl rfl rfl h HL.out)
  all_goals go_upto_region 22 with fail
  all_goals  go_wp2_with (first
    | (with_reducible refine wpList_loadFra g1 1 (fl : Int) 1 (.slice (some ⟨h1, 0, none⟩) N N) rfl HS.out ?_)
    | (go_at_call 31; refine (HC.out _ HV.out).mono ?_; rintro e w4 ⟨⟨A1, n1, c1, A2, n2, c2, cc, ss, ii, he, -⟩, b4⟩; rw [HPR.out] at he; subst he; have HB4 := Bx.mk (HBW.out.trans (b4.mono HBW.out.size)); have d0 : ∀ o, (w4.alloc o).cell? ⟨g1, 0, none⟩ = some (.int .u8 1) := (fun o => ((HS.out.below b4 HS.out.lt).alloc o).cell 0); clear b4))
  all_goals go_ret
  all_goals exact ⟨rfl, HB4.out.alloc HB4.out.size _⟩
set_option maxRecDepth 100000 in
set_option maxHeartbeats 8000000 in
theorem ps_2 (t n flags : Int) (fl N : Nat) (ht : t.tmod 12 = 2) (hn : n.tmod 40 = (N : Int)) (hN : N < 40) (hF : bits .andNot .u8 flags 40 = (fl : Int)) (hfl : fl < 256) (h8 : hasN fl 8 = false) (h32 : hasN fl 32 = false) (h1 : hasN fl 1 = !(bits .and .u8 flags 1 == 0)) (w : World) :
    Calls Try.prog 7 #[.int .u8 t, .int .u8 n, .int .u8 flags] w fun e w' => e = .returned (.bool true) ∧ Below w.heap.size w w' := by
  have HK := Bx.mk (known12_any w)
  obtain ⟨x, hx⟩ : ∃ x, ((N : Int) == 5) = x := ⟨_, rfl⟩
  have hpr : (payR 2 fl 1 (List.replicate N 0) : Int) = if x then 0 else 1 := by
    have : payR 2 fl 1 (List.replicate N 0) = if x then 0 else 1 := by
      cases x
      · have : N ≠ 5 := by have := beq_eq_false_iff_ne.1 hx; omega
        simp [payR, misN, sizN, isPad, this]
      · have : N = 5 := by have := beq_iff_eq.1 hx; omega
        simp [payR, misN, sizN, isPad, this]
    rw [this]
    split <;> rfl
  have HPR := Bx.mk hpr
  have HFL := Bx.mk hfl
  have HBS := Bx.mk (fun W => Bs.made W N (by omega))
  have hmk := fun W => make_u8 N (by omega) W
  have hlen : ∀ (tr : TypeId) (W : World) (A : Option Addr) (c : Nat), (Builtin.len_ #[22] tr #[.slice A N c]).run Try.prog W = .ok (.int .i64 N) W := fun tr W A c => rfl
  have hw1 : IntKind.i64.wrap (N : Int) = N := by rw [IntKind.wrap_i64]; omega
  have hw2 : IntKind.u8.wrap (N : Int) = N := by rw [IntKind.wrap_u8]; omega
  have HNN := Bx.mk hN
  clear hpr hfl h8 h32 h1 hN
  go_enter Try.func7, Try.ntmps7
  go_upto_region 4 with (go_at_call 28; refine HK.out.mono ?_; rintro e w1 ⟨rfl, b1⟩; have HB1 := Bx.mk b1; clear b1)
  have HBSX := Bx.mk (Bs.made w1 N (by have := HNN.out; omega))
  have hBa := (Below.refl w1.heap.size w1).alloc (Nat.le_refl _) (.cells (madeCells #[.int .u8 0] N) 5)
  have HBW : Bx (Below w.heap.size w ((w1.alloc (.cells (madeCells #[.int .u8 0] N) 5)).alloc (.cells #[.int .u8 2, .int .u8 (fl : Int), .int .u32 1, .slice (some ⟨w1.heap.size, 0, none⟩) N N] 28))) := ⟨(HB1.out.trans (hBa.mono HB1.out.size)).alloc (HB1.out.trans (hBa.mono HB1.out.size)).size _⟩
  have HV : Bx (Bs ((w1.alloc (.cells (madeCells #[.int .u8 0] N) 5)).alloc (.cells #[.int .u8 2, .int .u8 (fl : Int), .int .u32 1, .slice (some ⟨w1.heap.size, 0, none⟩) N N] 28)) (.slice (some ⟨w1.heap.size, 0, none⟩) N N) (List.replicate N 0)) := ⟨HBSX.out.keep ((Below.refl _ _).alloc (Nat.le_refl _) _)⟩
  have HS : Bx (Sb 28 ((w1.alloc (.cells (madeCells #[.int .u8 0] N) 5)).alloc (.cells #[.int .u8 2, .int .u8 (fl : Int), .int .u32 1, .slice (some ⟨w1.heap.size, 0, none⟩) N N] 28)) (w1.heap.size + 1) (fraA 2 (fl : Int) 1 (.slice (some ⟨w1.heap.size, 0, none⟩) N N))) := ⟨Sb.newg _ _ _ (by simp) _⟩
  have HG0 : Bx (w.heap.size ≤ w1.heap.size) := ⟨HB1.out.size⟩
  obtain ⟨w2, hw2e⟩ : ∃ W, (w1.alloc (.cells (madeCells #[.int .u8 0] N) 5)).alloc (.cells #[.int .u8 2, .int .u8 (fl : Int), .int .u32 1, .slice (some ⟨w1.heap.size, 0, none⟩) N N] 28) = W := ⟨_, rfl⟩
  rw [hw2e] at HBW HV HS ⊢
  obtain ⟨g1, hg1⟩ : ∃ g, w1.heap.size + 1 = g := ⟨_, rfl⟩
  rw [hg1] at HS ⊢
  have HG : Bx (w.heap.size ≤ g1 ∧ w1.heap.size ≠ g1) := ⟨by have := HG0.out; omega, by omega⟩
  obtain ⟨h1, hh1⟩ : ∃ h, w1.heap.size = h := ⟨_, rfl⟩
  rw [hh1] at HV HS HG ⊢
  clear hw2e hg1 hh1 HBSX hBa HB1 HBS hmk HG0
  have c0 : w2.cell? ⟨g1, 0, none⟩ = some (.int .u8 2) := HS.out.cell 0
  have c3 : w2.cell? ⟨g1, 3, none⟩ = some (.slice (some ⟨h1, 0, none⟩) N N) := HS.out.cell 3
  have HL : Bx ((List.replicate N (0 : UInt8)).length ≤ 1000000) := ⟨by rw [List.length_replicate]; have := HNN.out; omega⟩
  have HC := Bx.mk (fun (W : World) (h : Bs W (.slice (some ⟨h1, 0, none⟩) N N) (List.replicate N 0)) => pyRead_any 2 fl 1 _ _ (by omega) HFL.out (by omega) W 2 fl 1 rfl rfl rfl h HL.out)
  obtain ⟨r, hr⟩ : ∃ r : Int, (if x then 0 else 1 : Int) = r := ⟨_, rfl⟩
  rw [hr] at HPR
  cases x
  all_goals (first | (have hr1 : r = 1 := hr.symm; clear hr; subst hr1) | (have hr1 : r = 0 := hr.symm; clear hr; subst hr1))
  all_goals go_upto_region 22 with fail
  all_goals  go_wp2_with (first
    | (with_reducible refine wpList_loadFra g1 2 (fl : Int) 1 (.slice (some ⟨h1, 0, none⟩) N N) rfl HS.out ?_)
    | (go_at_call 31; refine (HC.out _ HV.out).mono ?_; rintro e w4 ⟨⟨A1, n1, c1, A2, n2, c2, cc, ss, ii, he, -⟩, b4⟩; rw [HPR.out] at he; subst he; have HB4 := Bx.mk (HBW.out.trans (b4.mono HBW.out.size)); have d0 : ∀ o, (w4.alloc o).cell? ⟨g1, 0, none⟩ = some (.int .u8 2) := (fun o => ((HS.out.below b4 HS.out.lt).alloc o).cell 0); clear b4))
  all_goals go_ret
  all_goals exact ⟨rfl, HB4.out.alloc HB4.out.size _⟩
set_option maxRecDepth 100000 in
set_option maxHeartbeats 8000000 in
theorem ps_3 (t n flags : Int) (fl N : Nat) (ht : t.tmod 12 = 3) (hn : n.tmod 40 = (N : Int)) (hN : N < 40) (hF : bits .andNot .u8 flags 40 = (fl : Int)) (hfl : fl < 256) (h8 : hasN fl 8 = false) (h32 : hasN fl 32 = false) (h1 : hasN fl 1 = !(bits .and .u8 flags 1 == 0)) (w : World) :
    Calls Try.prog 7 #[.int .u8 t, .int .u8 n, .int .u8 flags] w fun e w' => e = .returned (.bool true) ∧ Below w.heap.size w w' := by
  have HK := Bx.mk (known12_any w)
  obtain ⟨x, hx⟩ : ∃ x, ((N : Int) == 4) = x := ⟨_, rfl⟩
  have hpr : (payR 3 fl 1 (List.replicate N 0) : Int) = if x then 0 else 1 := by
    have : payR 3 fl 1 (List.replicate N 0) = if x then 0 else 1 := by
      cases x
      · have : N ≠ 4 := by have := beq_eq_false_iff_ne.1 hx; omega
        simp [payR, misN, sizN, isPad, this]
      · have : N = 4 := by have := beq_iff_eq.1 hx; omega
        simp [payR, misN, sizN, isPad, this]
    rw [this]
    split <;> rfl
  have HPR := Bx.mk hpr
  have HFL := Bx.mk hfl
  have HBS := Bx.mk (fun W => Bs.made W N (by omega))
  have hmk := fun W => make_u8 N (by omega) W
  have hlen : ∀ (tr : TypeId) (W : World) (A : Option Addr) (c : Nat), (Builtin.len_ #[22] tr #[.slice A N c]).run Try.prog W = .ok (.int .i64 N) W := fun tr W A c => rfl
  have hw1 : IntKind.i64.wrap (N : Int) = N := by rw [IntKind.wrap_i64]; omega
  have hw2 : IntKind.u8.wrap (N : Int) = N := by rw [IntKind.wrap_u8]; omega
  have HNN := Bx.mk hN
  clear hpr hfl h8 h32 h1 hN
  go_enter Try.func7, Try.ntmps7
  go_upto_region 4 with (go_at_call 28; refine HK.out.mono ?_; rintro e w1 ⟨rfl, b1⟩; have HB1 := Bx.mk b1; clear b1)
  have HBSX := Bx.mk (Bs.made w1 N (by have := HNN.out; omega))
  have hBa := (Below.refl w1.heap.size w1).alloc (Nat.le_refl _) (.cells (madeCells #[.int .u8 0] N) 5)
  have HBW : Bx (Below w.heap.size w ((w1.alloc (.cells (madeCells #[.int .u8 0] N) 5)).alloc (.cells #[.int .u8 3, .int .u8 (fl : Int), .int .u32 1, .slice (some ⟨w1.heap.size, 0, none⟩) N N] 28))) := ⟨(HB1.out.trans (hBa.mono HB1.out.size)).alloc (HB1.out.trans (hBa.mono HB1.out.size)).size _⟩
  have HV : Bx (Bs ((w1.alloc (.cells (madeCells #[.int .u8 0] N) 5)).alloc (.cells #[.int .u8 3, .int .u8 (fl : Int), .int .u32 1, .slice (some ⟨w1.heap.size, 0, none⟩) N N] 28)) (.slice (some ⟨w1.heap.size, 0, none⟩) N N) (List.replicate N 0)) := ⟨HBSX.out.keep ((Below.refl _ _).alloc (Nat.le_refl _) _)⟩
  have HS : Bx (Sb 28 ((w1.alloc (.cells (madeCells #[.int .u8 0] N) 5)).alloc (.cells #[.int .u8 3, .int .u8 (fl : Int), .int .u32 1, .slice (some ⟨w1.heap.size, 0, none⟩) N N] 28)) (w1.heap.size + 1) (fraA 3 (fl : Int) 1 (.slice (some ⟨w1.heap.size, 0, none⟩) N N))) := ⟨Sb.newg _ _ _ (by simp) _⟩
  have HG0 : Bx (w.heap.size ≤ w1.heap.size) := ⟨HB1.out.size⟩
  obtain ⟨w2, hw2e⟩ : ∃ W, (w1.alloc (.cells (madeCells #[.int .u8 0] N) 5)).alloc (.cells #[.int .u8 3, .int .u8 (fl : Int), .int .u32 1, .slice (some ⟨w1.heap.size, 0, none⟩) N N] 28) = W := ⟨_, rfl⟩
  rw [hw2e] at HBW HV HS ⊢
  obtain ⟨g1, hg1⟩ : ∃ g, w1.heap.size + 1 = g := ⟨_, rfl⟩
  rw [hg1] at HS ⊢
  have HG : Bx (w.heap.size ≤ g1 ∧ w1.heap.size ≠ g1) := ⟨by have := HG0.out; omega, by omega⟩
  obtain ⟨h1, hh1⟩ : ∃ h, w1.heap.size = h := ⟨_, rfl⟩
  rw [hh1] at HV HS HG ⊢
  clear hw2e hg1 hh1 HBSX hBa HB1 HBS hmk HG0
  have c0 : w2.cell? ⟨g1, 0, none⟩ = some (.int .u8 3) := HS.out.cell 0
  have c3 : w2.cell? ⟨g1, 3, none⟩ = some (.slice (some ⟨h1, 0, none⟩) N N) := HS.out.cell 3
  have HL : Bx ((List.replicate N (0 : UInt8)).length ≤ 1000000) := ⟨by rw [List.length_replicate]; have := HNN.out; omega⟩
  have HC := Bx.mk (fun (W : World) (h : Bs W (.slice (some ⟨h1, 0, none⟩) N N) (List.replicate N 0)) => pyRead_any 3 fl 1 _ _ (by omega) HFL.out (by omega) W 3 fl 1 rfl rfl rfl h HL.out)
  obtain ⟨r, hr⟩ : ∃ r : Int, (if x then 0 else 1 : Int) = r := ⟨_, rfl⟩
  rw [hr] at HPR
  cases x
  all_goals (first | (have hr1 : r = 1 := hr.symm; clear hr; subst hr1) | (have hr1 : r = 0 := hr.symm; clear hr; subst hr1))
  all_goals go_upto_region 22 with fail
  all_goals  go_wp2_with (first
    | (with_reducible refine wpList_loadFra g1 3 (fl : Int) 1 (.slice (some ⟨h1, 0, none⟩) N N) rfl HS.out ?_)
    | (go_at_call 31; refine (HC.out _ HV.out).mono ?_; rintro e w4 ⟨⟨A1, n1, c1, A2, n2, c2, cc, ss, ii, he, -⟩, b4⟩; rw [HPR.out] at he; subst he; have HB4 := Bx.mk (HBW.out.trans (b4.mono HBW.out.size)); have d0 : ∀ o, (w4.alloc o).cell? ⟨g1, 0, none⟩ = some (.int .u8 3) := (fun o => ((HS.out.below b4 HS.out.lt).alloc o).cell 0); clear b4))
  all_goals go_ret
  all_goals exact ⟨rfl, HB4.out.alloc HB4.out.size _⟩
set_option maxRecDepth 100000 in
set_option maxHeartbeats 8000000 in
theorem ps_4 (t n flags : Int) (fl N : Nat) (ht : t.tmod 12 = 4) (hn : n.tmod 40 = (N : Int)) (hN : N < 40) (hF : bits .andNot .u8 flags 40 = (fl : Int)) (hfl : fl < 256) (h8 : hasN fl 8 = false) (h32 : hasN fl 32 = false) (h1 : hasN fl 1 = !(bits .and .u8 flags 1 == 0)) (w : World) :
    Calls Try.prog 7 #[.int .u8 t, .int .u8 n, .int .u8 flags] w fun e w' => e = .returned (.bool true) ∧ Below w.heap.size w w' := by
  have HK := Bx.mk (known12_any w)
  obtain ⟨q, hq⟩ : ∃ x, ((N : Int) % 6 == 0) = x := ⟨_, rfl⟩
  obtain ⟨f, hf⟩ : ∃ x, (bits .and .u8 flags 1 == 0) = x := ⟨_, rfl⟩
  obtain ⟨z, hz⟩ : ∃ x, ((N : Int) == 0) = x := ⟨_, rfl⟩
  have hpr : (payR 4 fl 0 (List.replicate N 0) : Int) = if (q && (f || z)) then 0 else 1 := by
    have : payR 4 fl 0 (List.replicate N 0) = if (q && (f || z)) then 0 else 1 := by
      have hq2 : (N % 6 != 0) = !q := by
        rw [← hq]
        have : ((N : Int) % 6 == 0) = (N % 6 == 0) := by
          rw [Bool.eq_iff_iff, beq_iff_eq, beq_iff_eq]
          omega
        rw [this]; rfl
      have hz2 : decide (0 < N) = !z := by
        rw [← hz, Bool.eq_iff_iff]
        simp
        omega
      rw [hf] at h1
      unfold payR misN sizN isPad
      simp [hq2, hz2, h1]
      cases q <;> cases f <;> cases z <;> rfl
    rw [this]
    split <;> rfl
  have HPR := Bx.mk hpr
  have HFL := Bx.mk hfl
  have HBS := Bx.mk (fun W => Bs.made W N (by omega))
  have hmk := fun W => make_u8 N (by omega) W
  have hlen : ∀ (tr : TypeId) (W : World) (A : Option Addr) (c : Nat), (Builtin.len_ #[22] tr #[.slice A N c]).run Try.prog W = .ok (.int .i64 N) W := fun tr W A c => rfl
  have hw1 : IntKind.i64.wrap (N : Int) = N := by rw [IntKind.wrap_i64]; omega
  have hw2 : IntKind.u8.wrap (N : Int) = N := by rw [IntKind.wrap_u8]; omega
  have HNN := Bx.mk hN
  clear hpr hfl h8 h32 h1 hN
  go_enter Try.func7, Try.ntmps7
  go_upto_region 4 with (go_at_call 28; refine HK.out.mono ?_; rintro e w1 ⟨rfl, b1⟩; have HB1 := Bx.mk b1; clear b1)
  have HBSX := Bx.mk (Bs.made w1 N (by have := HNN.out; omega))
  have hBa := (Below.refl w1.heap.size w1).alloc (Nat.le_refl _) (.cells (madeCells #[.int .u8 0] N) 5)
  have HBW : Bx (Below w.heap.size w ((w1.alloc (.cells (madeCells #[.int .u8 0] N) 5)).alloc (.cells #[.int .u8 4, .int .u8 (fl : Int), .int .u32 1, .slice (some ⟨w1.heap.size, 0, none⟩) N N] 28))) := ⟨(HB1.out.trans (hBa.mono HB1.out.size)).alloc (HB1.out.trans (hBa.mono HB1.out.size)).size _⟩
  have HV : Bx (Bs ((w1.alloc (.cells (madeCells #[.int .u8 0] N) 5)).alloc (.cells #[.int .u8 4, .int .u8 (fl : Int), .int .u32 1, .slice (some ⟨w1.heap.size, 0, none⟩) N N] 28)) (.slice (some ⟨w1.heap.size, 0, none⟩) N N) (List.replicate N 0)) := ⟨HBSX.out.keep ((Below.refl _ _).alloc (Nat.le_refl _) _)⟩
  have HS : Bx (Sb 28 ((w1.alloc (.cells (madeCells #[.int .u8 0] N) 5)).alloc (.cells #[.int .u8 4, .int .u8 (fl : Int), .int .u32 1, .slice (some ⟨w1.heap.size, 0, none⟩) N N] 28)) (w1.heap.size + 1) (fraA 4 (fl : Int) 1 (.slice (some ⟨w1.heap.size, 0, none⟩) N N))) := ⟨Sb.newg _ _ _ (by simp) _⟩
  have HG0 : Bx (w.heap.size ≤ w1.heap.size) := ⟨HB1.out.size⟩
  obtain ⟨w2, hw2e⟩ : ∃ W, (w1.alloc (.cells (madeCells #[.int .u8 0] N) 5)).alloc (.cells #[.int .u8 4, .int .u8 (fl : Int), .int .u32 1, .slice (some ⟨w1.heap.size, 0, none⟩) N N] 28) = W := ⟨_, rfl⟩
  rw [hw2e] at HBW HV HS ⊢
  obtain ⟨g1, hg1⟩ : ∃ g, w1.heap.size + 1 = g := ⟨_, rfl⟩
  rw [hg1] at HS ⊢
  have HG : Bx (w.heap.size ≤ g1 ∧ w1.heap.size ≠ g1) := ⟨by have := HG0.out; omega, by omega⟩
  obtain ⟨h1, hh1⟩ : ∃ h, w1.heap.size = h := ⟨_, rfl⟩
  rw [hh1] at HV HS HG ⊢
  clear hw2e hg1 hh1 HBSX hBa HB1 HBS hmk HG0
  have c0 : w2.cell? ⟨g1, 0, none⟩ = some (.int .u8 4) := HS.out.cell 0
  have c3 : w2.cell? ⟨g1, 3, none⟩ = some (.slice (some ⟨h1, 0, none⟩) N N) := HS.out.cell 3
  have f2 : w2.frozen? ⟨g1, 2, none⟩ = false := HS.out.free 2
  have c2 : w2.cell? ⟨g1, 2, none⟩ = some (.int .u32 1) := HS.out.cell 2
  go_upto_region 6 with fail
  have HS3 : Bx (Sb 28 (w2.setCell ⟨g1, 2, none⟩ (.int .u32 0)) g1 (fraA 4 (fl : Int) 0 (.slice (some ⟨h1, 0, none⟩) N N))) := ⟨HS.out.set 2 (.int .u32 0) (show 2 < 4 by decide)⟩
  have HV3 := Bx.mk (Rd.setOther (i := 2) HV.out (.int .u32 0) HG.out.2)
  have HBW3 := Bx.mk (HBW.out.setCell (p := ⟨g1, 2, none⟩) HG.out.1 (.int .u32 0))
  obtain ⟨w3, hw3e⟩ : ∃ W, w2.setCell ⟨g1, 2, none⟩ (.int .u32 0) = W := ⟨_, rfl⟩
  rw [hw3e] at HS3 HV3 HBW3 ⊢
  clear hw3e c0 c3 c2 f2
  have c0 : w3.cell? ⟨g1, 0, none⟩ = some (.int .u8 4) := HS3.out.cell 0
  have c3 : w3.cell? ⟨g1, 3, none⟩ = some (.slice (some ⟨h1, 0, none⟩) N N) := HS3.out.cell 3
  have HL : Bx ((List.replicate N (0 : UInt8)).length ≤ 1000000) := ⟨by rw [List.length_replicate]; have := HNN.out; omega⟩
  have HC := Bx.mk (fun (W : World) (h : Bs W (.slice (some ⟨h1, 0, none⟩) N N) (List.replicate N 0)) => pyRead_any 4 fl 0 _ _ (by omega) HFL.out (by omega) W 4 fl 0 rfl rfl rfl h HL.out)
  obtain ⟨r, hr⟩ : ∃ r : Int, (if (q && (f || z)) then 0 else 1 : Int) = r := ⟨_, rfl⟩
  rw [hr] at HPR
  cases q <;> cases f <;> cases z
  all_goals (first | (have hr1 : r = 1 := hr.symm; clear hr; subst hr1) | (have hr1 : r = 0 := hr.symm; clear hr; subst hr1))
  all_goals go_upto_region 22 with fail
  all_goals  go_wp2_with (first
    | (with_reducible refine wpList_loadFra g1 4 (fl : Int) 0 (.slice (some ⟨h1, 0, none⟩) N N) rfl HS3.out ?_)
    | (go_at_call 31; refine (HC.out _ HV3.out).mono ?_; rintro e w4 ⟨⟨A1, n1, c1, A2, n2, c2, cc, ss, ii, he, -⟩, b4⟩; rw [HPR.out] at he; subst he; have HB4 := Bx.mk (HBW3.out.trans (b4.mono HBW3.out.size)); have d0 : ∀ o, (w4.alloc o).cell? ⟨g1, 0, none⟩ = some (.int .u8 4) := (fun o => ((HS3.out.below b4 HS3.out.lt).alloc o).cell 0); clear b4))
  all_goals go_ret
  all_goals exact ⟨rfl, HB4.out.alloc HB4.out.size _⟩
set_option maxRecDepth 100000 in
set_option maxHeartbeats 8000000 in
theorem ps_5 (t n flags : Int) (fl N : Nat) (ht : t.tmod 12 = 5) (hn : n.tmod 40 = (N : Int)) (hN : N < 40) (hF : bits .andNot .u8 flags 40 = (fl : Int)) (hfl : fl < 256) (h8 : hasN fl 8 = false) (h32 : hasN fl 32 = false) (h1 : hasN fl 1 = !(bits .and .u8 flags 1 == 0)) (w : World) :
    Calls Try.prog 7 #[.int .u8 t, .int .u8 n, .int .u8 flags] w fun e w' => e = .returned (.bool true) ∧ Below w.heap.size w w' := by
  have HK := Bx.mk (known12_any w)
  obtain ⟨x, hx⟩ : ∃ x, decide (4 ≤ (N : Int)) = x := ⟨_, rfl⟩
  have hpr : (payR 5 fl 1 (List.replicate N 0) : Int) = if x then 0 else 1 := by
    have : payR 5 fl 1 (List.replicate N 0) = if x then 0 else 1 := by
      cases x
      · have : N < 4 := by have := of_decide_eq_false hx; omega
        simp [payR, misN, sizN, isPad, aheadN, padN, h8, this]
      · have : ¬ N < 4 := by have := of_decide_eq_true hx; omega
        simp [payR, misN, sizN, isPad, aheadN, padN, h8, this]
    rw [this]
    split <;> rfl
  have HPR := Bx.mk hpr
  have HFL := Bx.mk hfl
  have HBS := Bx.mk (fun W => Bs.made W N (by omega))
  have hmk := fun W => make_u8 N (by omega) W
  have hlen : ∀ (tr : TypeId) (W : World) (A : Option Addr) (c : Nat), (Builtin.len_ #[22] tr #[.slice A N c]).run Try.prog W = .ok (.int .i64 N) W := fun tr W A c => rfl
  have hw1 : IntKind.i64.wrap (N : Int) = N := by rw [IntKind.wrap_i64]; omega
  have hw2 : IntKind.u8.wrap (N : Int) = N := by rw [IntKind.wrap_u8]; omega
  have HNN := Bx.mk hN
  clear hpr hfl h8 h32 h1 hN
  go_enter Try.func7, Try.ntmps7
  go_upto_region 4 with (go_at_call 28; refine HK.out.mono ?_; rintro e w1 ⟨rfl, b1⟩; have HB1 := Bx.mk b1; clear b1)
  have HBSX := Bx.mk (Bs.made w1 N (by have := HNN.out; omega))
  have hBa := (Below.refl w1.heap.size w1).alloc (Nat.le_refl _) (.cells (madeCells #[.int .u8 0] N) 5)
  have HBW : Bx (Below w.heap.size w ((w1.alloc (.cells (madeCells #[.int .u8 0] N) 5)).alloc (.cells #[.int .u8 5, .int .u8 (fl : Int), .int .u32 1, .slice (some ⟨w1.heap.size, 0, none⟩) N N] 28))) := ⟨(HB1.out.trans (hBa.mono HB1.out.size)).alloc (HB1.out.trans (hBa.mono HB1.out.size)).size _⟩
  have HV : Bx (Bs ((w1.alloc (.cells (madeCells #[.int .u8 0] N) 5)).alloc (.cells #[.int .u8 5, .int .u8 (fl : Int), .int .u32 1, .slice (some ⟨w1.heap.size, 0, none⟩) N N] 28)) (.slice (some ⟨w1.heap.size, 0, none⟩) N N) (List.replicate N 0)) := ⟨HBSX.out.keep ((Below.refl _ _).alloc (Nat.le_refl _) _)⟩
  have HS : Bx (Sb 28 ((w1.alloc (.cells (madeCells #[.int .u8 0] N) 5)).alloc (.cells #[.int .u8 5, .int .u8 (fl : Int), .int .u32 1, .slice (some ⟨w1.heap.size, 0, none⟩) N N] 28)) (w1.heap.size + 1) (fraA 5 (fl : Int) 1 (.slice (some ⟨w1.heap.size, 0, none⟩) N N))) := ⟨Sb.newg _ _ _ (by simp) _⟩
  have HG0 : Bx (w.heap.size ≤ w1.heap.size) := ⟨HB1.out.size⟩
  obtain ⟨w2, hw2e⟩ : ∃ W, (w1.alloc (.cells (madeCells #[.int .u8 0] N) 5)).alloc (.cells #[.int .u8 5, .int .u8 (fl : Int), .int .u32 1, .slice (some ⟨w1.heap.size, 0, none⟩) N N] 28) = W := ⟨_, rfl⟩
  rw [hw2e] at HBW HV HS ⊢
  obtain ⟨g1, hg1⟩ : ∃ g, w1.heap.size + 1 = g := ⟨_, rfl⟩
  rw [hg1] at HS ⊢
  have HG : Bx (w.heap.size ≤ g1 ∧ w1.heap.size ≠ g1) := ⟨by have := HG0.out; omega, by omega⟩
  obtain ⟨h1, hh1⟩ : ∃ h, w1.heap.size = h := ⟨_, rfl⟩
  rw [hh1] at HV HS HG ⊢
  clear hw2e hg1 hh1 HBSX hBa HB1 HBS hmk HG0
  have c0 : w2.cell? ⟨g1, 0, none⟩ = some (.int .u8 5) := HS.out.cell 0
  have c3 : w2.cell? ⟨g1, 3, none⟩ = some (.slice (some ⟨h1, 0, none⟩) N N) := HS.out.cell 3
  have HL : Bx ((List.replicate N (0 : UInt8)).length ≤ 1000000) := ⟨by rw [List.length_replicate]; have := HNN.out; omega⟩
  have HC := Bx.mk (fun (W : World) (h : Bs W (.slice (some ⟨h1, 0, none⟩) N N) (List.replicate N 0)) => pyRead_any 5 fl 1 _ _ (by omega) HFL.out (by omega) W 5 fl 1 rfl rfl rfl h HL.out)
  obtain ⟨r, hr⟩ : ∃ r : Int, (if x then 0 else 1 : Int) = r := ⟨_, rfl⟩
  rw [hr] at HPR
  cases x
  all_goals (first | (have hr1 : r = 1 := hr.symm; clear hr; subst hr1) | (have hr1 : r = 0 := hr.symm; clear hr; subst hr1))
  all_goals go_upto_region 22 with fail
  all_goals  go_wp2_with (first
    | (with_reducible refine wpList_loadFra g1 5 (fl : Int) 1 (.slice (some ⟨h1, 0, none⟩) N N) rfl HS.out ?_)
    | (go_at_call 31; refine (HC.out _ HV.out).mono ?_; rintro e w4 ⟨⟨A1, n1, c1, A2, n2, c2, cc, ss, ii, he, -⟩, b4⟩; rw [HPR.out] at he; subst he; have HB4 := Bx.mk (HBW.out.trans (b4.mono HBW.out.size)); have d0 : ∀ o, (w4.alloc o).cell? ⟨g1, 0, none⟩ = some (.int .u8 5) := (fun o => ((HS.out.below b4 HS.out.lt).alloc o).cell 0); clear b4))
  all_goals go_ret
  all_goals exact ⟨rfl, HB4.out.alloc HB4.out.size _⟩
set_option maxRecDepth 100000 in
set_option maxHeartbeats 8000000 in
theorem ps_6 (t n flags : Int) (fl N : Nat) (ht : t.tmod 12 = 6) (hn : n.tmod 40 = (N : Int)) (hN : N < 40) (hF : bits .andNot .u8 flags 40 = (fl : Int)) (hfl : fl < 256) (h8 : hasN fl 8 = false) (h32 : hasN fl 32 = false) (h1 : hasN fl 1 = !(bits .and .u8 flags 1 == 0)) (w : World) :
    Calls Try.prog 7 #[.int .u8 t, .int .u8 n, .int .u8 flags] w fun e w' => e = .returned (.bool true) ∧ Below w.heap.size w w' := by
  have HK := Bx.mk (known12_any w)
  obtain ⟨x, hx⟩ : ∃ x, ((N : Int) == 8) = x := ⟨_, rfl⟩
  have hpr : (payR 6 fl 0 (List.replicate N 0) : Int) = if x then 0 else 1 := by
    have : payR 6 fl 0 (List.replicate N 0) = if x then 0 else 1 := by
      cases x
      · have : N ≠ 8 := by have := beq_eq_false_iff_ne.1 hx; omega
        simp [payR, misN, sizN, isPad, this]
      · have : N = 8 := by have := beq_iff_eq.1 hx; omega
        simp [payR, misN, sizN, isPad, this]
    rw [this]
    split <;> rfl
  have HPR := Bx.mk hpr
  have HFL := Bx.mk hfl
  have HBS := Bx.mk (fun W => Bs.made W N (by omega))
  have hmk := fun W => make_u8 N (by omega) W
  have hlen : ∀ (tr : TypeId) (W : World) (A : Option Addr) (c : Nat), (Builtin.len_ #[22] tr #[.slice A N c]).run Try.prog W = .ok (.int .i64 N) W := fun tr W A c => rfl
  have hw1 : IntKind.i64.wrap (N : Int) = N := by rw [IntKind.wrap_i64]; omega
  have hw2 : IntKind.u8.wrap (N : Int) = N := by rw [IntKind.wrap_u8]; omega
  have HNN := Bx.mk hN
  clear hpr hfl h8 h32 h1 hN
  go_enter Try.func7, Try.ntmps7
  go_upto_region 4 with (go_at_call 28; refine HK.out.mono ?_; rintro e w1 ⟨rfl, b1⟩; have HB1 := Bx.mk b1; clear b1)
  have HBSX := Bx.mk (Bs.made w1 N (by have := HNN.out; omega))
  have hBa := (Below.refl w1.heap.size w1).alloc (Nat.le_refl _) (.cells (madeCells #[.int .u8 0] N) 5)
  have HBW : Bx (Below w.heap.size w ((w1.alloc (.cells (madeCells #[.int .u8 0] N) 5)).alloc (.cells #[.int .u8 6, .int .u8 (fl : Int), .int .u32 1, .slice (some ⟨w1.heap.size, 0, none⟩) N N] 28))) := ⟨(HB1.out.trans (hBa.mono HB1.out.size)).alloc (HB1.out.trans (hBa.mono HB1.out.size)).size _⟩
  have HV : Bx (Bs ((w1.alloc (.cells (madeCells #[.int .u8 0] N) 5)).alloc (.cells #[.int .u8 6, .int .u8 (fl : Int), .int .u32 1, .slice (some ⟨w1.heap.size, 0, none⟩) N N] 28)) (.slice (some ⟨w1.heap.size, 0, none⟩) N N) (List.replicate N 0)) := ⟨HBSX.out.keep ((Below.refl _ _).alloc (Nat.le_refl _) _)⟩
  have HS : Bx (Sb 28 ((w1.alloc (.cells (madeCells #[.int .u8 0] N) 5)).alloc (.cells #[.int .u8 6, .int .u8 (fl : Int), .int .u32 1, .slice (some ⟨w1.heap.size, 0, none⟩) N N] 28)) (w1.heap.size + 1) (fraA 6 (fl : Int) 1 (.slice (some ⟨w1.heap.size, 0, none⟩) N N))) := ⟨Sb.newg _ _ _ (by simp) _⟩
  have HG0 : Bx (w.heap.size ≤ w1.heap.size) := ⟨HB1.out.size⟩
  obtain ⟨w2, hw2e⟩ : ∃ W, (w1.alloc (.cells (madeCells #[.int .u8 0] N) 5)).alloc (.cells #[.int .u8 6, .int .u8 (fl : Int), .int .u32 1, .slice (some ⟨w1.heap.size, 0, none⟩) N N] 28) = W := ⟨_, rfl⟩
  rw [hw2e] at HBW HV HS ⊢
  obtain ⟨g1, hg1⟩ : ∃ g, w1.heap.size + 1 = g := ⟨_, rfl⟩
  rw [hg1] at HS ⊢
  have HG : Bx (w.heap.size ≤ g1 ∧ w1.heap.size ≠ g1) := ⟨by have := HG0.out; omega, by omega⟩
  obtain ⟨h1, hh1⟩ : ∃ h, w1.heap.size = h := ⟨_, rfl⟩
  rw [hh1] at HV HS HG ⊢
  clear hw2e hg1 hh1 HBSX hBa HB1 HBS hmk HG0
  have c0 : w2.cell? ⟨g1, 0, none⟩ = some (.int .u8 6) := HS.out.cell 0
  have c3 : w2.cell? ⟨g1, 3, none⟩ = some (.slice (some ⟨h1, 0, none⟩) N N) := HS.out.cell 3
  have f2 : w2.frozen? ⟨g1, 2, none⟩ = false := HS.out.free 2
  have c2 : w2.cell? ⟨g1, 2, none⟩ = some (.int .u32 1) := HS.out.cell 2
  go_upto_region 6 with fail
  have HS3 : Bx (Sb 28 (w2.setCell ⟨g1, 2, none⟩ (.int .u32 0)) g1 (fraA 6 (fl : Int) 0 (.slice (some ⟨h1, 0, none⟩) N N))) := ⟨HS.out.set 2 (.int .u32 0) (show 2 < 4 by decide)⟩
  have HV3 := Bx.mk (Rd.setOther (i := 2) HV.out (.int .u32 0) HG.out.2)
  have HBW3 := Bx.mk (HBW.out.setCell (p := ⟨g1, 2, none⟩) HG.out.1 (.int .u32 0))
  obtain ⟨w3, hw3e⟩ : ∃ W, w2.setCell ⟨g1, 2, none⟩ (.int .u32 0) = W := ⟨_, rfl⟩
  rw [hw3e] at HS3 HV3 HBW3 ⊢
  clear hw3e c0 c3 c2 f2
  have c0 : w3.cell? ⟨g1, 0, none⟩ = some (.int .u8 6) := HS3.out.cell 0
  have c3 : w3.cell? ⟨g1, 3, none⟩ = some (.slice (some ⟨h1, 0, none⟩) N N) := HS3.out.cell 3
  have HL : Bx ((List.replicate N (0 : UInt8)).length ≤ 1000000) := ⟨by rw [List.length_replicate]; have := HNN.out; omega⟩
  have HC := Bx.mk (fun (W : World) (h : Bs W (.slice (some ⟨h1, 0, none⟩) N N) (List.replicate N 0)) => pyRead_any 6 fl 0 _ _ (by omega) HFL.out (by omega) W 6 fl 0 rfl rfl rfl h HL.out)
  obtain ⟨r, hr⟩ : ∃ r : Int, (if x then 0 else 1 : Int) = r := ⟨_, rfl⟩
  rw [hr] at HPR
  cases x
  all_goals (first | (have hr1 : r = 1 := hr.symm; clear hr; subst hr1) | (have hr1 : r = 0 := hr.symm; clear hr; subst hr1))
  all_goals go_upto_region 22 with fail
  all_goals  go_wp2_with (first
    | (with_reducible refine wpList_loadFra g1 6 (fl : Int) 0 (.slice (some ⟨h1, 0, none⟩) N N) rfl HS3.out ?_)
    | (go_at_call 31; refine (HC.out _ HV3.out).mono ?_; rintro e w4 ⟨⟨A1, n1, c1, A2, n2, c2, cc, ss, ii, he, -⟩, b4⟩; rw [HPR.out] at he; subst he; have HB4 := Bx.mk (HBW3.out.trans (b4.mono HBW3.out.size)); have d0 : ∀ o, (w4.alloc o).cell? ⟨g1, 0, none⟩ = some (.int .u8 6) := (fun o => ((HS3.out.below b4 HS3.out.lt).alloc o).cell 0); clear b4))
  all_goals go_ret
  all_goals exact ⟨rfl, HB4.out.alloc HB4.out.size _⟩
set_option maxRecDepth 100000 in
set_option maxHeartbeats 8000000 in
theorem ps_7 (t n flags : Int) (fl N : Nat) (ht : t.tmod 12 = 7) (hn : n.tmod 40 = (N : Int)) (hN : N < 40) (hF : bits .andNot .u8 flags 40 = (fl : Int)) (hfl : fl < 256) (h8 : hasN fl 8 = false) (h32 : hasN fl 32 = false) (h1 : hasN fl 1 = !(bits .and .u8 flags 1 == 0)) (w : World) :
    Calls Try.prog 7 #[.int .u8 t, .int .u8 n, .int .u8 flags] w fun e w' => e = .returned (.bool true) ∧ Below w.heap.size w w' := by
  have HK := Bx.mk (known12_any w)
  obtain ⟨x, hx⟩ : ∃ x, decide (8 ≤ (N : Int)) = x := ⟨_, rfl⟩
  have hpr : (payR 7 fl 0 (List.replicate N 0) : Int) = if x then 0 else 1 := by
    have : payR 7 fl 0 (List.replicate N 0) = if x then 0 else 1 := by
      cases x
      · have : N < 8 := by have := of_decide_eq_false hx; omega
        simp [payR, misN, sizN, isPad, this]
      · have : ¬ N < 8 := by have := of_decide_eq_true hx; omega
        simp [payR, misN, sizN, isPad, this]
    rw [this]
    split <;> rfl
  have HPR := Bx.mk hpr
  have HFL := Bx.mk hfl
  have HBS := Bx.mk (fun W => Bs.made W N (by omega))
  have hmk := fun W => make_u8 N (by omega) W
  have hlen : ∀ (tr : TypeId) (W : World) (A : Option Addr) (c : Nat), (Builtin.len_ #[22] tr #[.slice A N c]).run Try.prog W = .ok (.int .i64 N) W := fun tr W A c => rfl
  have hw1 : IntKind.i64.wrap (N : Int) = N := by rw [IntKind.wrap_i64]; omega
  have hw2 : IntKind.u8.wrap (N : Int) = N := by rw [IntKind.wrap_u8]; omega
  have HNN := Bx.mk hN
  clear hpr hfl h8 h32 h1 hN
  go_enter Try.func7, Try.ntmps7
  go_upto_region 4 with (go_at_call 28; refine HK.out.mono ?_; rintro e w1 ⟨rfl, b1⟩; have HB1 := Bx.mk b1; clear b1)
  have HBSX := Bx.mk (Bs.made w1 N (by have := HNN.out; omega))
  have hBa := (Below.refl w1.heap.size w1).alloc (Nat.le_refl _) (.cells (madeCells #[.int .u8 0] N) 5)
  have HBW : Bx (Below w.heap.size w ((w1.alloc (.cells (madeCells #[.int .u8 0] N) 5)).alloc (.cells #[.int .u8 7, .int .u8 (fl : Int), .int .u32 1, .slice (some ⟨w1.heap.size, 0, none⟩) N N] 28))) := ⟨(HB1.out.trans (hBa.mono HB1.out.size)).alloc (HB1.out.trans (hBa.mono HB1.out.size)).size _⟩
  have HV : Bx (Bs ((w1.alloc (.cells (madeCells #[.int .u8 0] N) 5)).alloc (.cells #[.int .u8 7, .int .u8 (fl : Int), .int .u32 1, .slice (some ⟨w1.heap.size, 0, none⟩) N N] 28)) (.slice (some ⟨w1.heap.size, 0, none⟩) N N) (List.replicate N 0)) := ⟨HBSX.out.keep ((Below.refl _ _).alloc (Nat.le_refl _) _)⟩
  have HS : Bx (Sb 28 ((w1.alloc (.cells (madeCells #[.int .u8 0] N) 5)).alloc (.cells #[.int .u8 7, .int .u8 (fl : Int), .int .u32 1, .slice (some ⟨w1.heap.size, 0, none⟩) N N] 28)) (w1.heap.size + 1) (fraA 7 (fl : Int) 1 (.slice (some ⟨w1.heap.size, 0, none⟩) N N))) := ⟨Sb.newg _ _ _ (by simp) _⟩
  have HG0 : Bx (w.heap.size ≤ w1.heap.size) := ⟨HB1.out.size⟩
  obtain ⟨w2, hw2e⟩ : ∃ W, (w1.alloc (.cells (madeCells #[.int .u8 0] N) 5)).alloc (.cells #[.int .u8 7, .int .u8 (fl : Int), .int .u32 1, .slice (some ⟨w1.heap.size, 0, none⟩) N N] 28) = W := ⟨_, rfl⟩
  rw [hw2e] at HBW HV HS ⊢
  obtain ⟨g1, hg1⟩ : ∃ g, w1.heap.size + 1 = g := ⟨_, rfl⟩
  rw [hg1] at HS ⊢
  have HG : Bx (w.heap.size ≤ g1 ∧ w1.heap.size ≠ g1) := ⟨by have := HG0.out; omega, by omega⟩
  obtain ⟨h1, hh1⟩ : ∃ h, w1.heap.size = h := ⟨_, rfl⟩
  rw [hh1] at HV HS HG ⊢
  clear hw2e hg1 hh1 HBSX hBa HB1 HBS hmk HG0
  have c0 : w2.cell? ⟨g1, 0, none⟩ = some (.int .u8 7) := HS.out.cell 0
  have c3 : w2.cell? ⟨g1, 3, none⟩ = some (.slice (some ⟨h1, 0, none⟩) N N) := HS.out.cell 3
  have f2 : w2.frozen? ⟨g1, 2, none⟩ = false := HS.out.free 2
  have c2 : w2.cell? ⟨g1, 2, none⟩ = some (.int .u32 1) := HS.out.cell 2
  go_upto_region 6 with fail
  have HS3 : Bx (Sb 28 (w2.setCell ⟨g1, 2, none⟩ (.int .u32 0)) g1 (fraA 7 (fl : Int) 0 (.slice (some ⟨h1, 0, none⟩) N N))) := ⟨HS.out.set 2 (.int .u32 0) (show 2 < 4 by decide)⟩
  have HV3 := Bx.mk (Rd.setOther (i := 2) HV.out (.int .u32 0) HG.out.2)
  have HBW3 := Bx.mk (HBW.out.setCell (p := ⟨g1, 2, none⟩) HG.out.1 (.int .u32 0))
  obtain ⟨w3, hw3e⟩ : ∃ W, w2.setCell ⟨g1, 2, none⟩ (.int .u32 0) = W := ⟨_, rfl⟩
  rw [hw3e] at HS3 HV3 HBW3 ⊢
  clear hw3e c0 c3 c2 f2
  have c0 : w3.cell? ⟨g1, 0, none⟩ = some (.int .u8 7) := HS3.out.cell 0
  have c3 : w3.cell? ⟨g1, 3, none⟩ = some (.slice (some ⟨h1, 0, none⟩) N N) := HS3.out.cell 3
  have HL : Bx ((List.replicate N (0 : UInt8)).length ≤ 1000000) := ⟨by rw [List.length_replicate]; have := HNN.out; omega⟩
  have HC := Bx.mk (fun (W : World) (h : Bs W (.slice (some ⟨h1, 0, none⟩) N N) (List.replicate N 0)) => pyRead_any 7 fl 0 _ _ (by omega) HFL.out (by omega) W 7 fl 0 rfl rfl rfl h HL.out)
  obtain ⟨r, hr⟩ : ∃ r : Int, (if x then 0 else 1 : Int) = r := ⟨_, rfl⟩
  rw [hr] at HPR
  cases x
  all_goals (first | (have hr1 : r = 1 := hr.symm; clear hr; subst hr1) | (have hr1 : r = 0 := hr.symm; clear hr; subst hr1))
  all_goals go_upto_region 22 with fail
  all_goals  go_wp2_with (first
    | (with_reducible refine wpList_loadFra g1 7 (fl : Int) 0 (.slice (some ⟨h1, 0, none⟩) N N) rfl HS3.out ?_)
    | (go_at_call 31; refine (HC.out _ HV3.out).mono ?_; rintro e w4 ⟨⟨A1, n1, c1, A2, n2, c2, cc, ss, ii, he, -⟩, b4⟩; rw [HPR.out] at he; subst he; have HB4 := Bx.mk (HBW3.out.trans (b4.mono HBW3.out.size)); have d0 : ∀ o, (w4.alloc o).cell? ⟨g1, 0, none⟩ = some (.int .u8 7) := (fun o => ((HS3.out.below b4 HS3.out.lt).alloc o).cell 0); clear b4))
  all_goals go_ret
  all_goals exact ⟨rfl, HB4.out.alloc HB4.out.size _⟩
set_option maxRecDepth 100000 in
set_option maxHeartbeats 8000000 in
theorem ps_8 (t n flags : Int) (fl N : Nat) (ht : t.tmod 12 = 8) (hn : n.tmod 40 = (N : Int)) (hN : N < 40) (hF : bits .andNot .u8 flags 40 = (fl : Int)) (hfl : fl < 256) (h8 : hasN fl 8 = false) (h32 : hasN fl 32 = false) (h1 : hasN fl 1 = !(bits .and .u8 flags 1 == 0)) (w : World) :
    Calls Try.prog 7 #[.int .u8 t, .int .u8 n, .int .u8 flags] w fun e w' => e = .returned (.bool true) ∧ Below w.heap.size w w' := by
  have HK := Bx.mk (known12_any w)
  obtain ⟨x, hx⟩ : ∃ x, ((N : Int) == 4) = x := ⟨_, rfl⟩
  have hpr : (payR 8 fl 1 (List.replicate N 0) : Int) = if x then 3 else 1 := by
    have : payR 8 fl 1 (List.replicate N 0) = if x then 3 else 1 := by
      cases x
      · have : N ≠ 4 := by have := beq_eq_false_iff_ne.1 hx; omega
        simp [payR, misN, sizN, isPad, this]
      · have : N = 4 := by have := beq_iff_eq.1 hx; omega
        subst this
        simp [payR, misN, sizN, isPad]
        rfl
    rw [this]
    split <;> rfl
  have HPR := Bx.mk hpr
  have HFL := Bx.mk hfl
  have HBS := Bx.mk (fun W => Bs.made W N (by omega))
  have hmk := fun W => make_u8 N (by omega) W
  have hlen : ∀ (tr : TypeId) (W : World) (A : Option Addr) (c : Nat), (Builtin.len_ #[22] tr #[.slice A N c]).run Try.prog W = .ok (.int .i64 N) W := fun tr W A c => rfl
  have hw1 : IntKind.i64.wrap (N : Int) = N := by rw [IntKind.wrap_i64]; omega
  have hw2 : IntKind.u8.wrap (N : Int) = N := by rw [IntKind.wrap_u8]; omega
  have HNN := Bx.mk hN
  clear hpr hfl h8 h32 h1 hN
  go_enter Try.func7, Try.ntmps7
  go_upto_region 4 with (go_at_call 28; refine HK.out.mono ?_; rintro e w1 ⟨rfl, b1⟩; have HB1 := Bx.mk b1; clear b1)
  have HBSX := Bx.mk (Bs.made w1 N (by have := HNN.out; omega))
  have hBa := (Below.refl w1.heap.size w1).alloc (Nat.le_refl _) (.cells (madeCells #[.int .u8 0] N) 5)
  have HBW : Bx (Below w.heap.size w ((w1.alloc (.cells (madeCells #[.int .u8 0] N) 5)).alloc (.cells #[.int .u8 8, .int .u8 (fl : Int), .int .u32 1, .slice (some ⟨w1.heap.size, 0, none⟩) N N] 28))) := ⟨(HB1.out.trans (hBa.mono HB1.out.size)).alloc (HB1.out.trans (hBa.mono HB1.out.size)).size _⟩
  have HV : Bx (Bs ((w1.alloc (.cells (madeCells #[.int .u8 0] N) 5)).alloc (.cells #[.int .u8 8, .int .u8 (fl : Int), .int .u32 1, .slice (some ⟨w1.heap.size, 0, none⟩) N N] 28)) (.slice (some ⟨w1.heap.size, 0, none⟩) N N) (List.replicate N 0)) := ⟨HBSX.out.keep ((Below.refl _ _).alloc (Nat.le_refl _) _)⟩
  have HS : Bx (Sb 28 ((w1.alloc (.cells (madeCells #[.int .u8 0] N) 5)).alloc (.cells #[.int .u8 8, .int .u8 (fl : Int), .int .u32 1, .slice (some ⟨w1.heap.size, 0, none⟩) N N] 28)) (w1.heap.size + 1) (fraA 8 (fl : Int) 1 (.slice (some ⟨w1.heap.size, 0, none⟩) N N))) := ⟨Sb.newg _ _ _ (by simp) _⟩
  have HG0 : Bx (w.heap.size ≤ w1.heap.size) := ⟨HB1.out.size⟩
  obtain ⟨w2, hw2e⟩ : ∃ W, (w1.alloc (.cells (madeCells #[.int .u8 0] N) 5)).alloc (.cells #[.int .u8 8, .int .u8 (fl : Int), .int .u32 1, .slice (some ⟨w1.heap.size, 0, none⟩) N N] 28) = W := ⟨_, rfl⟩
  rw [hw2e] at HBW HV HS ⊢
  obtain ⟨g1, hg1⟩ : ∃ g, w1.heap.size + 1 = g := ⟨_, rfl⟩
  rw [hg1] at HS ⊢
  have HG : Bx (w.heap.size ≤ g1 ∧ w1.heap.size ≠ g1) := ⟨by have := HG0.out; omega, by omega⟩
  obtain ⟨h1, hh1⟩ : ∃ h, w1.heap.size = h := ⟨_, rfl⟩
  rw [hh1] at HV HS HG ⊢
  clear hw2e hg1 hh1 HBSX hBa HB1 HBS hmk HG0
  have c0 : w2.cell? ⟨g1, 0, none⟩ = some (.int .u8 8) := HS.out.cell 0
  have c3 : w2.cell? ⟨g1, 3, none⟩ = some (.slice (some ⟨h1, 0, none⟩) N N) := HS.out.cell 3
  have HL : Bx ((List.replicate N (0 : UInt8)).length ≤ 1000000) := ⟨by rw [List.length_replicate]; have := HNN.out; omega⟩
  have HC := Bx.mk (fun (W : World) (h : Bs W (.slice (some ⟨h1, 0, none⟩) N N) (List.replicate N 0)) => pyRead_any 8 fl 1 _ _ (by omega) HFL.out (by omega) W 8 fl 1 rfl rfl rfl h HL.out)
  obtain ⟨r, hr⟩ : ∃ r : Int, (if x then 3 else 1 : Int) = r := ⟨_, rfl⟩
  rw [hr] at HPR
  cases x
  all_goals (first | (have hr1 : r = 1 := hr.symm; clear hr; subst hr1) | (have hr1 : r = 3 := hr.symm; clear hr; subst hr1))
  all_goals go_upto_region 22 with fail
  all_goals  go_wp2_with (first
    | (with_reducible refine wpList_loadFra g1 8 (fl : Int) 1 (.slice (some ⟨h1, 0, none⟩) N N) rfl HS.out ?_)
    | (go_at_call 31; refine (HC.out _ HV.out).mono ?_; rintro e w4 ⟨⟨A1, n1, c1, A2, n2, c2, cc, ss, ii, he, -⟩, b4⟩; rw [HPR.out] at he; subst he; have HB4 := Bx.mk (HBW.out.trans (b4.mono HBW.out.size)); have d0 : ∀ o, (w4.alloc o).cell? ⟨g1, 0, none⟩ = some (.int .u8 8) := (fun o => ((HS.out.below b4 HS.out.lt).alloc o).cell 0); clear b4))
  all_goals go_ret
  all_goals exact ⟨rfl, HB4.out.alloc HB4.out.size _⟩
set_option maxRecDepth 100000 in
set_option maxHeartbeats 8000000 in
theorem ps_9 (t n flags : Int) (fl N : Nat) (ht : t.tmod 12 = 9) (hn : n.tmod 40 = (N : Int)) (hN : N < 40) (hF : bits .andNot .u8 flags 40 = (fl : Int)) (hfl : fl < 256) (h8 : hasN fl 8 = false) (h32 : hasN fl 32 = false) (h1 : hasN fl 1 = !(bits .and .u8 flags 1 == 0)) (w : World) :
    Calls Try.prog 7 #[.int .u8 t, .int .u8 n, .int .u8 flags] w fun e w' => e = .returned (.bool true) ∧ Below w.heap.size w w' := by
  have HK := Bx.mk (known12_any w)
  have hpr : (payR 9 fl 1 (List.replicate N 0) : Int) = 0 := by
    have : payR 9 fl 1 (List.replicate N 0) = 0 := by
      simp [payR, misN, sizN, isPad]
    rw [this]
    rfl
  have HPR := Bx.mk hpr
  have HFL := Bx.mk hfl
  have HBS := Bx.mk (fun W => Bs.made W N (by omega))
  have hmk := fun W => make_u8 N (by omega) W
  have hlen : ∀ (tr : TypeId) (W : World) (A : Option Addr) (c : Nat), (Builtin.len_ #[22] tr #[.slice A N c]).run Try.prog W = .ok (.int .i64 N) W := fun tr W A c => rfl
  have hw1 : IntKind.i64.wrap (N : Int) = N := by rw [IntKind.wrap_i64]; omega
  have hw2 : IntKind.u8.wrap (N : Int) = N := by rw [IntKind.wrap_u8]; omega
  have HNN := Bx.mk hN
  clear hpr hfl h8 h32 h1 hN
  go_enter Try.func7, Try.ntmps7
  go_upto_region 4 with (go_at_call 28; refine HK.out.mono ?_; rintro e w1 ⟨rfl, b1⟩; have HB1 := Bx.mk b1; clear b1)
  have HBSX := Bx.mk (Bs.made w1 N (by have := HNN.out; omega))
  have hBa := (Below.refl w1.heap.size w1).alloc (Nat.le_refl _) (.cells (madeCells #[.int .u8 0] N) 5)
  have HBW : Bx (Below w.heap.size w ((w1.alloc (.cells (madeCells #[.int .u8 0] N) 5)).alloc (.cells #[.int .u8 9, .int .u8 (fl : Int), .int .u32 1, .slice (some ⟨w1.heap.size, 0, none⟩) N N] 28))) := ⟨(HB1.out.trans (hBa.mono HB1.out.size)).alloc (HB1.out.trans (hBa.mono HB1.out.size)).size _⟩
  have HV : Bx (Bs ((w1.alloc (.cells (madeCells #[.int .u8 0] N) 5)).alloc (.cells #[.int .u8 9, .int .u8 (fl : Int), .int .u32 1, .slice (some ⟨w1.heap.size, 0, none⟩) N N] 28)) (.slice (some ⟨w1.heap.size, 0, none⟩) N N) (List.replicate N 0)) := ⟨HBSX.out.keep ((Below.refl _ _).alloc (Nat.le_refl _) _)⟩
  have HS : Bx (Sb 28 ((w1.alloc (.cells (madeCells #[.int .u8 0] N) 5)).alloc (.cells #[.int .u8 9, .int .u8 (fl : Int), .int .u32 1, .slice (some ⟨w1.heap.size, 0, none⟩) N N] 28)) (w1.heap.size + 1) (fraA 9 (fl : Int) 1 (.slice (some ⟨w1.heap.size, 0, none⟩) N N))) := ⟨Sb.newg _ _ _ (by simp) _⟩
  have HG0 : Bx (w.heap.size ≤ w1.heap.size) := ⟨HB1.out.size⟩
  obtain ⟨w2, hw2e⟩ : ∃ W, (w1.alloc (.cells (madeCells #[.int .u8 0] N) 5)).alloc (.cells #[.int .u8 9, .int .u8 (fl : Int), .int .u32 1, .slice (some ⟨w1.heap.size, 0, none⟩) N N] 28) = W := ⟨_, rfl⟩
  rw [hw2e] at HBW HV HS ⊢
  obtain ⟨g1, hg1⟩ : ∃ g, w1.heap.size + 1 = g := ⟨_, rfl⟩
  rw [hg1] at HS ⊢
  have HG : Bx (w.heap.size ≤ g1 ∧ w1.heap.size ≠ g1) := ⟨by have := HG0.out; omega, by omega⟩
  obtain ⟨h1, hh1⟩ : ∃ h, w1.heap.size = h := ⟨_, rfl⟩
  rw [hh1] at HV HS HG ⊢
  clear hw2e hg1 hh1 HBSX hBa HB1 HBS hmk HG0
  have c0 : w2.cell? ⟨g1, 0, none⟩ = some (.int .u8 9) := HS.out.cell 0
  have c3 : w2.cell? ⟨g1, 3, none⟩ = some (.slice (some ⟨h1, 0, none⟩) N N) := HS.out.cell 3
  have HL : Bx ((List.replicate N (0 : UInt8)).length ≤ 1000000) := ⟨by rw [List.length_replicate]; have := HNN.out; omega⟩
  have HC := Bx.mk (fun (W : World) (h : Bs W (.slice (some ⟨h1, 0, none⟩) N N) (List.replicate N 0)) => pyRead_any 9 fl 1 _ _ (by omega) HFL.out (by omega) W 9 fl 1 rfl rfl rfl h HL.out)
  all_goals go_upto_region 22 with fail
  all_goals  go_wp2_with (first
    | (with_reducible refine wpList_loadFra g1 9 (fl : Int) 1 (.slice (some ⟨h1, 0, none⟩) N N) rfl HS.out ?_)
    | (go_at_call 31; refine (HC.out _ HV.out).mono ?_; rintro e w4 ⟨⟨A1, n1, c1, A2, n2, c2, cc, ss, ii, he, -⟩, b4⟩; rw [HPR.out] at he; subst he; have HB4 := Bx.mk (HBW.out.trans (b4.mono HBW.out.size)); have d0 : ∀ o, (w4.alloc o).cell? ⟨g1, 0, none⟩ = some (.int .u8 9) := (fun o => ((HS.out.below b4 HS.out.lt).alloc o).cell 0); clear b4))
  all_goals go_ret
  all_goals exact ⟨rfl, HB4.out.alloc HB4.out.size _⟩
set_option maxRecDepth 100000 in
set_option maxHeartbeats 8000000 in
theorem ps_10 (t n flags : Int) (fl N : Nat) (ht : t.tmod 12 = 10) (hn : n.tmod 40 = (N : Int)) (hN : N < 40) (hF : bits .andNot .u8 flags 40 = (fl : Int)) (hfl : fl < 256) (h8 : hasN fl 8 = false) (h32 : hasN fl 32 = false) (h1 : hasN fl 1 = !(bits .and .u8 flags 1 == 0)) (w : World) :
    Calls Try.prog 7 #[.int .u8 t, .int .u8 n, .int .u8 flags] w fun e w' => e = .returned (.bool true) ∧ Below w.heap.size w w' := by
  have HK := Bx.mk (known12_any w)
  have hpr : (payR 10 fl 1 (List.replicate N 0) : Int) = 0 := by
    have : payR 10 fl 1 (List.replicate N 0) = 0 := by
      simp [payR, misN, sizN, isPad]
    rw [this]
    rfl
  have HPR := Bx.mk hpr
  have HFL := Bx.mk hfl
  have HBS := Bx.mk (fun W => Bs.made W N (by omega))
  have hmk := fun W => make_u8 N (by omega) W
  have hlen : ∀ (tr : TypeId) (W : World) (A : Option Addr) (c : Nat), (Builtin.len_ #[22] tr #[.slice A N c]).run Try.prog W = .ok (.int .i64 N) W := fun tr W A c => rfl
  have hw1 : IntKind.i64.wrap (N : Int) = N := by rw [IntKind.wrap_i64]; omega
  have hw2 : IntKind.u8.wrap (N : Int) = N := by rw [IntKind.wrap_u8]; omega
  have HNN := Bx.mk hN
  clear hpr hfl h8 h32 h1 hN
  go_enter Try.func7, Try.ntmps7
  go_upto_region 4 with (go_at_call 28; refine HK.out.mono ?_; rintro e w1 ⟨rfl, b1⟩; have HB1 := Bx.mk b1; clear b1)
  have HBSX := Bx.mk (Bs.made w1 N (by have := HNN.out; omega))
  have hBa := (Below.refl w1.heap.size w1).alloc (Nat.le_refl _) (.cells (madeCells #[.int .u8 0] N) 5)
  have HBW : Bx (Below w.heap.size w ((w1.alloc (.cells (madeCells #[.int .u8 0] N) 5)).alloc (.cells #[.int .u8 10, .int .u8 (fl : Int), .int .u32 1, .slice (some ⟨w1.heap.size, 0, none⟩) N N] 28))) := ⟨(HB1.out.trans (hBa.mono HB1.out.size)).alloc (HB1.out.trans (hBa.mono HB1.out.size)).size _⟩
  have HV : Bx (Bs ((w1.alloc (.cells (madeCells #[.int .u8 0] N) 5)).alloc (.cells #[.int .u8 10, .int .u8 (fl : Int), .int .u32 1, .slice (some ⟨w1.heap.size, 0, none⟩) N N] 28)) (.slice (some ⟨w1.heap.size, 0, none⟩) N N) (List.replicate N 0)) := ⟨HBSX.out.keep ((Below.refl _ _).alloc (Nat.le_refl _) _)⟩
  have HS : Bx (Sb 28 ((w1.alloc (.cells (madeCells #[.int .u8 0] N) 5)).alloc (.cells #[.int .u8 10, .int .u8 (fl : Int), .int .u32 1, .slice (some ⟨w1.heap.size, 0, none⟩) N N] 28)) (w1.heap.size + 1) (fraA 10 (fl : Int) 1 (.slice (some ⟨w1.heap.size, 0, none⟩) N N))) := ⟨Sb.newg _ _ _ (by simp) _⟩
  have HG0 : Bx (w.heap.size ≤ w1.heap.size) := ⟨HB1.out.size⟩
  obtain ⟨w2, hw2e⟩ : ∃ W, (w1.alloc (.cells (madeCells #[.int .u8 0] N) 5)).alloc (.cells #[.int .u8 10, .int .u8 (fl : Int), .int .u32 1, .slice (some ⟨w1.heap.size, 0, none⟩) N N] 28) = W := ⟨_, rfl⟩
  rw [hw2e] at HBW HV HS ⊢
  obtain ⟨g1, hg1⟩ : ∃ g, w1.heap.size + 1 = g := ⟨_, rfl⟩
  rw [hg1] at HS ⊢
  have HG : Bx (w.heap.size ≤ g1 ∧ w1.heap.size ≠ g1) := ⟨by have := HG0.out; omega, by omega⟩
  obtain ⟨h1, hh1⟩ : ∃ h, w1.heap.size = h := ⟨_, rfl⟩
  rw [hh1] at HV HS HG ⊢
  clear hw2e hg1 hh1 HBSX hBa HB1 HBS hmk HG0
  have c0 : w2.cell? ⟨g1, 0, none⟩ = some (.int .u8 10) := HS.out.cell 0
  have c3 : w2.cell? ⟨g1, 3, none⟩ = some (.slice (some ⟨h1, 0, none⟩) N N) := HS.out.cell 3
  have HL : Bx ((List.replicate N (0 : UInt8)).length ≤ 1000000) := ⟨by rw [List.length_replicate]; have := HNN.out; omega⟩
  have HC := Bx.mk (fun (W : World) (h : Bs W (.slice (some ⟨h1, 0, none⟩) N N) (List.replicate N 0)) => pyRead_any 10 fl 1 _ _ (by omega) HFL.out (by omega) W 10 fl 1 rfl rfl rfl h HL.out)
  all_goals go_upto_region 22 with fail
  all_goals  go_wp2_with (first
    | (with_reducible refine wpList_loadFra g1 10 (fl : Int) 1 (.slice (some ⟨h1, 0, none⟩) N N) rfl HS.out ?_)
    | (go_at_call 31; refine (HC.out _ HV.out).mono ?_; rintro e w4 ⟨⟨A1, n1, c1, A2, n2, c2, cc, ss, ii, he, -⟩, b4⟩; rw [HPR.out] at he; subst he; have HB4 := Bx.mk (HBW.out.trans (b4.mono HBW.out.size)); have d0 : ∀ o, (w4.alloc o).cell? ⟨g1, 0, none⟩ = some (.int .u8 10) := (fun o => ((HS.out.below b4 HS.out.lt).alloc o).cell 0); clear b4))
  all_goals go_ret
  all_goals exact ⟨rfl, HB4.out.alloc HB4.out.size _⟩
set_option maxRecDepth 100000 in
set_option maxHeartbeats 8000000 in
theorem ps_11 (t n flags : Int) (fl N : Nat) (ht : t.tmod 12 = 11) (hn : n.tmod 40 = (N : Int)) (hN : N < 40) (hF : bits .andNot .u8 flags 40 = (fl : Int)) (hfl : fl < 256) (h8 : hasN fl 8 = false) (h32 : hasN fl 32 = false) (h1 : hasN fl 1 = !(bits .and .u8 flags 1 == 0)) (w : World) :
    Calls Try.prog 7 #[.int .u8 t, .int .u8 n, .int .u8 flags] w fun e w' => e = .returned (.bool true) ∧ Below w.heap.size w w' := by
  have HK := Bx.mk (known12_any w)
  have hpr : (payR 11 fl 1 (List.replicate N 0) : Int) = 0 := by
    have : payR 11 fl 1 (List.replicate N 0) = 0 := by
      simp [payR, misN, sizN, isPad]
    rw [this]
    rfl
  have HPR := Bx.mk hpr
  have HFL := Bx.mk hfl
  have HBS := Bx.mk (fun W => Bs.made W N (by omega))
  have hmk := fun W => make_u8 N (by omega) W
  have hlen : ∀ (tr : TypeId) (W : World) (A : Option Addr) (c : Nat), (Builtin.len_ #[22] tr #[.slice A N c]).run Try.prog W = .ok (.int .i64 N) W := fun tr W A c => rfl
  have hw1 : IntKind.i64.wrap (N : Int) = N := by rw [IntKind.wrap_i64]; omega
  have hw2 : IntKind.u8.wrap (N : Int) = N := by rw [IntKind.wrap_u8]; omega
  have HNN := Bx.mk hN
  clear hpr hfl h8 h32 h1 hN
  go_enter Try.func7, Try.ntmps7
  go_upto_region 4 with (go_at_call 28; refine HK.out.mono ?_; rintro e w1 ⟨rfl, b1⟩; have HB1 := Bx.mk b1; clear b1)
  have HBSX := Bx.mk (Bs.made w1 N (by have := HNN.out; omega))
  have hBa := (Below.refl w1.heap.size w1).alloc (Nat.le_refl _) (.cells (madeCells #[.int .u8 0] N) 5)
  have HBW : Bx (Below w.heap.size w ((w1.alloc (.cells (madeCells #[.int .u8 0] N) 5)).alloc (.cells #[.int .u8 11, .int .u8 (fl : Int), .int .u32 1, .slice (some ⟨w1.heap.size, 0, none⟩) N N] 28))) := ⟨(HB1.out.trans (hBa.mono HB1.out.size)).alloc (HB1.out.trans (hBa.mono HB1.out.size)).size _⟩
  have HV : Bx (Bs ((w1.alloc (.cells (madeCells #[.int .u8 0] N) 5)).alloc (.cells #[.int .u8 11, .int .u8 (fl : Int), .int .u32 1, .slice (some ⟨w1.heap.size, 0, none⟩) N N] 28)) (.slice (some ⟨w1.heap.size, 0, none⟩) N N) (List.replicate N 0)) := ⟨HBSX.out.keep ((Below.refl _ _).alloc (Nat.le_refl _) _)⟩
  have HS : Bx (Sb 28 ((w1.alloc (.cells (madeCells #[.int .u8 0] N) 5)).alloc (.cells #[.int .u8 11, .int .u8 (fl : Int), .int .u32 1, .slice (some ⟨w1.heap.size, 0, none⟩) N N] 28)) (w1.heap.size + 1) (fraA 11 (fl : Int) 1 (.slice (some ⟨w1.heap.size, 0, none⟩) N N))) := ⟨Sb.newg _ _ _ (by simp) _⟩
  have HG0 : Bx (w.heap.size ≤ w1.heap.size) := ⟨HB1.out.size⟩
  obtain ⟨w2, hw2e⟩ : ∃ W, (w1.alloc (.cells (madeCells #[.int .u8 0] N) 5)).alloc (.cells #[.int .u8 11, .int .u8 (fl : Int), .int .u32 1, .slice (some ⟨w1.heap.size, 0, none⟩) N N] 28) = W := ⟨_, rfl⟩
  rw [hw2e] at HBW HV HS ⊢
  obtain ⟨g1, hg1⟩ : ∃ g, w1.heap.size + 1 = g := ⟨_, rfl⟩
  rw [hg1] at HS ⊢
  have HG : Bx (w.heap.size ≤ g1 ∧ w1.heap.size ≠ g1) := ⟨by have := HG0.out; omega, by omega⟩
  obtain ⟨h1, hh1⟩ : ∃ h, w1.heap.size = h := ⟨_, rfl⟩
  rw [hh1] at HV HS HG ⊢
  clear hw2e hg1 hh1 HBSX hBa HB1 HBS hmk HG0
  have c0 : w2.cell? ⟨g1, 0, none⟩ = some (.int .u8 11) := HS.out.cell 0
  have c3 : w2.cell? ⟨g1, 3, none⟩ = some (.slice (some ⟨h1, 0, none⟩) N N) := HS.out.cell 3
  have HL : Bx ((List.replicate N (0 : UInt8)).length ≤ 1000000) := ⟨by rw [List.length_replicate]; have := HNN.out; omega⟩
  have HC := Bx.mk (fun (W : World) (h : Bs W (.slice (some ⟨h1, 0, none⟩) N N) (List.replicate N 0)) => pyRead_any 11 fl 1 _ _ (by omega) HFL.out (by omega) W 11 fl 1 rfl rfl rfl h HL.out)
  all_goals go_upto_region 22 with fail
  all_goals  go_wp2_with (first
    | (with_reducible refine wpList_loadFra g1 11 (fl : Int) 1 (.slice (some ⟨h1, 0, none⟩) N N) rfl HS.out ?_)
    | (go_at_call 31; refine (HC.out _ HV.out).mono ?_; rintro e w4 ⟨⟨A1, n1, c1, A2, n2, c2, cc, ss, ii, he, -⟩, b4⟩; rw [HPR.out] at he; subst he; have HB4 := Bx.mk (HBW.out.trans (b4.mono HBW.out.size)); have d0 : ∀ o, (w4.alloc o).cell? ⟨g1, 0, none⟩ = some (.int .u8 11) := (fun o => ((HS.out.below b4 HS.out.lt).alloc o).cell 0); clear b4))
  all_goals go_ret
  all_goals exact ⟨rfl, HB4.out.alloc HB4.out.size _⟩
theorem u8_wf {t : Int} (h : (Lit.int .u8 t).wf = true) : 0 ≤ t ∧ t < 256 := by
  have h0 : IntKind.u8.min ≤ t ∧ t ≤ IntKind.u8.max := by simpa [Lit.wf] using h
  have h1 : IntKind.u8.min = 0 := rfl
  have h2 : IntKind.u8.max = 255 := rfl
  omega
theorem paySizes_walk (t n flags : Int) (ht : (Lit.int .u8 t).wf = true) (hn : (Lit.int .u8 n).wf = true) (hf : (Lit.int .u8 flags).wf = true) (w : World) :
    Calls Try.prog 7 #[.int .u8 t, .int .u8 n, .int .u8 flags] w fun e w' => e = .returned (.bool true) ∧ Below w.heap.size w w' := by
  have ht2 : 0 ≤ t ∧ t < 256 := u8_wf ht
  have hn2 : 0 ≤ n ∧ n < 256 := u8_wf hn
  have hf2 : 0 ≤ flags ∧ flags < 256 := u8_wf hf
  obtain ⟨f, rfl⟩ : ∃ f : Nat, flags = f := ⟨flags.toNat, by omega⟩
  obtain ⟨h1, h2, h3, h4⟩ := ps_flags ⟨f, by omega⟩
  have hn3 : n.tmod 40 = ((n.toNat % 40 : Nat) : Int) := by
    rw [Int.tmod_eq_emod_of_nonneg hn2.1]
    omega
  have ht3 : t.tmod 12 = t % 12 := Int.tmod_eq_emod_of_nonneg ht2.1
  have hfl : f &&& 215 < 256 := Nat.lt_of_le_of_lt Nat.and_le_right (by decide)
  have h12 : t.tmod 12 = 0 ∨ t.tmod 12 = 1 ∨ t.tmod 12 = 2 ∨ t.tmod 12 = 3 ∨ t.tmod 12 = 4 ∨ t.tmod 12 = 5 ∨ t.tmod 12 = 6 ∨ t.tmod 12 = 7 ∨ t.tmod 12 = 8 ∨ t.tmod 12 = 9 ∨ t.tmod 12 = 10 ∨ t.tmod 12 = 11 := by rw [ht3]; omega
  rcases h12 with h | h | h | h | h | h | h | h | h | h | h | h
  · exact ps_0 t n f _ _ h hn3 (Nat.mod_lt _ (by decide)) h1 hfl h2 h3 h4 w
  · exact ps_1 t n f _ _ h hn3 (Nat.mod_lt _ (by decide)) h1 hfl h2 h3 h4 w
  · exact ps_2 t n f _ _ h hn3 (Nat.mod_lt _ (by decide)) h1 hfl h2 h3 h4 w
  · exact ps_3 t n f _ _ h hn3 (Nat.mod_lt _ (by decide)) h1 hfl h2 h3 h4 w
  · exact ps_4 t n f _ _ h hn3 (Nat.mod_lt _ (by decide)) h1 hfl h2 h3 h4 w
  · exact ps_5 t n f _ _ h hn3 (Nat.mod_lt _ (by decide)) h1 hfl h2 h3 h4 w
  · exact ps_6 t n f _ _ h hn3 (Nat.mod_lt _ (by decide)) h1 hfl h2 h3 h4 w
  · exact ps_7 t n f _ _ h hn3 (Nat.mod_lt _ (by decide)) h1 hfl h2 h3 h4 w
  · exact ps_8 t n f _ _ h hn3 (Nat.mod_lt _ (by decide)) h1 hfl h2 h3 h4 w
  · exact ps_9 t n f _ _ h hn3 (Nat.mod_lt _ (by decide)) h1 hfl h2 h3 h4 w
  · exact ps_10 t n f _ _ h hn3 (Nat.mod_lt _ (by decide)) h1 hfl h2 h3 h4 w
  · exact ps_11 t n f _ _ h hn3 (Nat.mod_lt _ (by decide)) h1 hfl h2 h3 h4 w
end Go.Proofs.Ytenoaljghbpaaaa
