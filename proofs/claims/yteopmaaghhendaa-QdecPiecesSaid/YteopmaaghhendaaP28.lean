/-
  Texts put together: QaB.
-/
import Derived.Test.YteopmaaghhendaaP09
import Derived.Test.YteopmaaghhendaaP14
import Derived.Test.YteopmaaghhendaaP22
import Derived.Test.YteopmaaghhendaaP01
import Derived.Deep.RegionHeld

/-
  Contract of the statements' instruction: a script's step, written.
-/
namespace Go.Proofs.Yteopmaaghhendaa
open Go.RowKit Go.Maps
set_option linter.unusedVariables false
set_option linter.unusedSimpArgs false

section
variable {w1 : World} {B : Nat}
theorem qa_pref (f : UInt8) (F : Int) (hF : (f.toNat : Int) = F) (n : Int) (k : Nat) (hk : bitsOf n = k) (x : Nat) (V : Int) (hV : (x : Int) = V) (hx : x < 18446744073709551616) (W : World) (hB : Below w1.heap.size w1 W) :
    Calls Try.prog 23 #[.slice none 0 0, .int .u8 F, .int .i64 n, .int .u64 V] W fun e w' => ∃ v', e = .returned v' ∧ OwB w' w1.heap.size v' (pre f k x) ∧ Below w1.heap.size w1 w' := by
  subst hF hk hV
  refine (refPrefix_own w1.heap.size (.slice none 0 0) [] f n x W (OwB.nil _ _) hB.size (by simp) hx).mono ?_
  rintro e w' ⟨v', rfl, ho, hb⟩
  exact ⟨v', rfl, ho, hB.trans hb⟩
theorem qa_str (f : UInt8) (F : Int) (hF : (f.toNat : Int) = F) (k : Nat) (K : Int) (hK : (k : Int) = K) (hk1 : 1 ≤ k) (hk7 : k ≤ 7) (s : ByteArray) (hs : s.size ≤ 20000) (W : World) (hB : Below w1.heap.size w1 W) (bV : Value) (l : List UInt8) (ho : OwB W w1.heap.size bV l) (hl : l.length ≤ 50000) :
    Calls Try.prog 26 #[bV, .int .u8 F, .int .i64 K, .string s] W fun e w' => ∃ v', e = .returned v' ∧ OwB w' w1.heap.size v' (l ++ putSk f k s.data.toList) ∧ Below w1.heap.size w1 w' := by
  subst hF hK
  refine (putStr_own w1.heap.size bV l f k hk1 hk7 s W ho hB.size hl hs).mono ?_
  rintro e w' ⟨v', rfl, ho, hb⟩
  exact ⟨v', rfl, ho, hB.trans hb⟩
end

set_option maxRecDepth 100000 in
set_option maxHeartbeats 40000000 in
theorem instruction_any (a : Qj) (w : World) (hraw : Bs w a.raw a.b) (hk : a.k < 256) (hi : a.i < 18446744073709551616) (hs : a.n.size + a.v.size ≤ 100) (hbl : a.b.length ≤ 40) :
    Calls Try.prog 9 #[.agg a.cs] w fun e w' => ∃ v b, e = .returned v ∧ Bs w' v b ∧ b.length ≤ 400 ∧ Below w.heap.size w w' := by
  have bA := (Below.refl w.heap.size w).alloc (Nat.le_refl _) (.cells a.cs 29)
  have hQB : Qb (w.alloc (.cells a.cs 29)) w.heap.size a := ⟨heap_alloc_last w _, Rd.keep hraw bA⟩
  obtain ⟨w1, hw1⟩ : ∃ w1, w.alloc (.cells a.cs 29) = w1 := ⟨_, rfl⟩
  obtain ⟨g, hg⟩ : ∃ g, w.heap.size = g := ⟨_, rfl⟩
  rw [hw1] at bA hQB
  have HEND : Bx (∀ (v : Value) (b : List UInt8) (w' : World), Bs w' v b → b.length ≤ 400 → Below w1.heap.size w1 w' → ∃ v' b, Ending.returned v = .returned v' ∧ Bs w' v' b ∧ b.length ≤ 400 ∧ Below w.heap.size w w') := ⟨fun v b w' h1 h2 h3 => ⟨v, b, rfl, h1, h2, bA.trans (h3.mono bA.size)⟩⟩
  rw [hg] at hQB
  have HW1 := Bx.mk hw1
  have HG := Bx.mk hg
  have HQ := Bx.mk hQB
  have hbox : ∀ {ops : Array Oper} {Q : Exit → Act → World → Prop} {c : Act} {rest : List Oper} {d : Option Tmp} {ty : TypeId} {x : Operand} {pos : String} {af : Array Edge}, c.eval x = .agg a.cs →
      wpList Try.prog ops Q rest (c.put d (.pointer (some ⟨g, 0, none⟩))) w1 → wpList Try.prog ops Q (⟨d, .box 29 x, ty, pos, af, none⟩ :: rest) c w := fun hx h =>
    wpList_boxAgg hx fun w2 g2 hw2 hg2 => by rw [HW1.out] at hw2; rw [HG.out] at hg2; subst hw2; subst hg2; exact h
  obtain ⟨r0, n0, k0, hr0, _⟩ := hQB.2.open_
  obtain ⟨c0, c2, c5, c6, c7⟩ := hQB.cells
  rw [hr0] at c7
  have hX2 : ∀ W, Below w1.heap.size w1 W → W.cell? ⟨g, 2, none⟩ = some (.int .u64 (a.i : Int)) := fun W hW => (HQ.out.keep hW).cells.2.1
  have hX5 : ∀ W, Below w1.heap.size w1 W → W.cell? ⟨g, 5, none⟩ = some (.string a.n) := fun W hW => (HQ.out.keep hW).cells.2.2.1
  have hX6 : ∀ W, Below w1.heap.size w1 W → W.cell? ⟨g, 6, none⟩ = some (.string a.v) := fun W hW => (HQ.out.keep hW).cells.2.2.2.1
  have HRAW : Bx (Bs w1 (.slice r0 n0 k0) a.b ∧ a.b.length ≤ 400) := ⟨hr0 ▸ hQB.2, by omega⟩
  obtain ⟨ps, hps⟩ : ∃ ps, a.cs = ps := ⟨_, rfl⟩
  obtain ⟨pi, hpi⟩ : ∃ pi, a.i = pi := ⟨_, rfl⟩
  obtain ⟨pk, hpk⟩ : ∃ pk, a.k = pk := ⟨_, rfl⟩
  obtain ⟨pn, hpn⟩ : ∃ pn, a.n = pn := ⟨_, rfl⟩
  obtain ⟨pv, hpv⟩ : ∃ pv, a.v = pv := ⟨_, rfl⟩
  have hnl : pn.data.toList.length = pn.size := by simp
  have hvl : pv.data.toList.length = pv.size := by simp
  rw [hpk] at c0 hk
  rw [hpi] at c2 hi
  rw [hpn] at c5 hs
  rw [hpv] at c6 hs
  rw [hps] at hbox ⊢
  simp only [hpi, hpn, hpv] at hX2 hX5 hX6
  have hS0 : Below w1.heap.size w1 w1.drew := (Below.refl _ _).drew
  have hp1 := fun f k x => (pre_len f k x).2
  have hl5 := putSk_len 64 5 pn.data.toList
  have hl7 := putSk_len 0 7 pv.data.toList
  obtain ⟨r, hr⟩ : ∃ r, pk % 16 = r := ⟨_, rfl⟩
  have hr16 : r < 16 := by omega
  have hr2 : (pk : Int).tmod 16 = (r : Int) := by rw [Int.tmod_eq_emod_of_nonneg (by omega)]; omega
  have HSZ : Bx (pn.size ≤ 20000 ∧ pv.size ≤ 20000 ∧ pi < 18446744073709551616) := ⟨by omega, by omega, hi⟩
  have HLN : Bx ((∀ f k x, (pre f k x).length ≤ 11) ∧ (putSk 64 5 pn.data.toList).length ≤ 111 ∧ (putSk 0 7 pv.data.toList).length ≤ 111) := ⟨hp1, by omega, by omega⟩
  have hwr : IntKind.u8.wrap (r : Int) = (r : Int) := by rw [IntKind.wrap_u8]; omega
  clear hraw hs hbl hw1 hg hpk hpi hpn hpv hnl hvl hp1 hl5 hl7 hr hQB bA hk hi hr0 hps

  by_cases hc0 : r = 0
  · skip
    have hd0 : ((r : Int) == 0) = true := by rw [beq_iff_eq]; omega
    obtain ⟨x, hx⟩ : ∃ x, pi % 600 = x := ⟨_, rfl⟩
    obtain ⟨X, hX⟩ := letter x
    have hx2 : (pi : Int).tmod 600 = X := by rw [Int.tmod_eq_emod_of_nonneg (by omega)]; omega
    have hwx : IntKind.u64.wrap X = X := u64_keep (by omega) (by omega)
    have hx64 : x < 18446744073709551616 := by omega
    have HPR := Bx.mk (fun W hW => qa_pref (w1 := w1) 32 32 rfl 5 5 rfl x X hX hx64 W hW)
    clear hc0 hr16 hx64 hX hx hX2 hX5 hX6
    go_enter Try.func9, Try.ntmps9
    go_wp2_with (first | (with_reducible refine hbox rfl ?_) | (go_at_call 23; refine (HPR.out w1 (Below.refl _ _)).mono ?_; rintro e w2 ⟨v2, rfl, ho2, hb2⟩; have HO2 := Bx.mk ho2; have HB2 := Bx.mk hb2; clear ho2 hb2))
    try go_ret
    exact HEND.out _ _ _ HO2.out.bs (Nat.le_trans (HLN.out.1 _ _ _) (by decide)) HB2.out
  by_cases hc1 : r = 1
  · skip
    have hd0 : ((r : Int) == 0) = false := by rw [beq_eq_false_iff_ne]; omega
    have hd1 : ((r : Int) == 1) = true := by rw [beq_iff_eq]; omega
    obtain ⟨x, hx⟩ : ∃ x, pi % 110 = x := ⟨_, rfl⟩
    obtain ⟨X, hX⟩ := letter x
    have hx2 : (pi : Int).tmod 110 = X := by rw [Int.tmod_eq_emod_of_nonneg (by omega)]; omega
    have hwx : IntKind.u64.wrap X = X := u64_keep (by omega) (by omega)
    have hx64 : x < 18446744073709551616 := by omega
    have HPR := Bx.mk (fun W hW => qa_pref (w1 := w1) 192 192 rfl 6 6 rfl x X hX hx64 W hW)
    have HPS := Bx.mk (fun W hW bV l ho hl => qa_str (w1 := w1) 0 0 rfl 7 7 rfl (by decide) (by decide) pv HSZ.out.2.1 W hW bV l ho hl)
    clear hc1 hr16 hx64 hX hx hX5
    go_enter Try.func9, Try.ntmps9
    go_wp2_with (first | (with_reducible refine hbox rfl ?_))
    go_region_held (fun W => Below w1.heap.size w1 W) (first | assumption) (first
      | (go_at_call 23; refine (HPR.out _ ?_).mono ?_; assumption; rintro e w2 ⟨v2, rfl, ho2, hS2⟩; have HO2 := Bx.mk ho2; clear ho2)
      | (go_at_call 26; refine (HPS.out _ ?_ _ _ HO2.out (Nat.le_trans (HLN.out.1 _ _ _) (by decide))).mono ?_; assumption; rintro e w3 ⟨v3, rfl, ho3, hS3⟩; have HO3 := Bx.mk ho3; clear ho3))
    all_goals go_wp2_with fail
    all_goals go_ret
    all_goals exact HEND.out _ _ _ HO3.out.bs (by have h1 := HLN.out.1; have h2 := HLN.out.2.2; rw [List.length_append]; have h3 := h1 192 6 x; omega) hS3
  by_cases hc2 : r = 2
  · skip
    have hd0 : ((r : Int) == 0) = false := by rw [beq_eq_false_iff_ne]; omega
    have hd1 : ((r : Int) == 1) = false := by rw [beq_eq_false_iff_ne]; omega
    have hd2 : ((r : Int) == 2) = true := by rw [beq_iff_eq]; omega
    obtain ⟨x, hx⟩ : ∃ x, pi % 110 = x := ⟨_, rfl⟩
    obtain ⟨X, hX⟩ := letter x
    have hx2 : (pi : Int).tmod 110 = X := by rw [Int.tmod_eq_emod_of_nonneg (by omega)]; omega
    have hwx : IntKind.u64.wrap X = X := u64_keep (by omega) (by omega)
    have hx64 : x < 18446744073709551616 := by omega
    have HPR := Bx.mk (fun W hW => qa_pref (w1 := w1) 192 192 rfl 6 6 rfl x X hX hx64 W hW)
    have HPS := Bx.mk (fun W hW bV l ho hl => qa_str (w1 := w1) 0 0 rfl 7 7 rfl (by decide) (by decide) pv HSZ.out.2.1 W hW bV l ho hl)
    clear hc2 hr16 hx64 hX hx hX5
    go_enter Try.func9, Try.ntmps9
    go_wp2_with (first | (with_reducible refine hbox rfl ?_))
    go_region_held (fun W => Below w1.heap.size w1 W) (first | assumption) (first
      | (go_at_call 23; refine (HPR.out _ ?_).mono ?_; assumption; rintro e w2 ⟨v2, rfl, ho2, hS2⟩; have HO2 := Bx.mk ho2; clear ho2)
      | (go_at_call 26; refine (HPS.out _ ?_ _ _ HO2.out (Nat.le_trans (HLN.out.1 _ _ _) (by decide))).mono ?_; assumption; rintro e w3 ⟨v3, rfl, ho3, hS3⟩; have HO3 := Bx.mk ho3; clear ho3))
    all_goals go_wp2_with fail
    all_goals go_ret
    all_goals exact HEND.out _ _ _ HO3.out.bs (by have h1 := HLN.out.1; have h2 := HLN.out.2.2; rw [List.length_append]; have h3 := h1 192 6 x; omega) hS3
  by_cases hc3 : r = 3
  · skip
    have hd0 : ((r : Int) == 0) = false := by rw [beq_eq_false_iff_ne]; omega
    have hd1 : ((r : Int) == 1) = false := by rw [beq_eq_false_iff_ne]; omega
    have hd2 : ((r : Int) == 2) = false := by rw [beq_eq_false_iff_ne]; omega
    have hd3 : ((r : Int) == 3) = true := by rw [beq_iff_eq]; omega
    obtain ⟨x, hx⟩ : ∃ x, pi % 4 = x := ⟨_, rfl⟩
    obtain ⟨X, hX⟩ := letter x
    have hx2 : (pi : Int).tmod 4 = X := by rw [Int.tmod_eq_emod_of_nonneg (by omega)]; omega
    have hwx : IntKind.u64.wrap X = X := u64_keep (by omega) (by omega)
    have hx64 : x < 18446744073709551616 := by omega
    have HPR := Bx.mk (fun W hW => qa_pref (w1 := w1) 128 128 rfl 6 6 rfl x X hX hx64 W hW)
    have HPS := Bx.mk (fun W hW bV l ho hl => qa_str (w1 := w1) 0 0 rfl 7 7 rfl (by decide) (by decide) pv HSZ.out.2.1 W hW bV l ho hl)
    clear hc3 hr16 hx64 hX hx hX5
    go_enter Try.func9, Try.ntmps9
    go_wp2_with (first | (with_reducible refine hbox rfl ?_))
    go_region_held (fun W => Below w1.heap.size w1 W) (first | assumption) (first
      | (go_at_call 23; refine (HPR.out _ ?_).mono ?_; assumption; rintro e w2 ⟨v2, rfl, ho2, hS2⟩; have HO2 := Bx.mk ho2; clear ho2)
      | (go_at_call 26; refine (HPS.out _ ?_ _ _ HO2.out (Nat.le_trans (HLN.out.1 _ _ _) (by decide))).mono ?_; assumption; rintro e w3 ⟨v3, rfl, ho3, hS3⟩; have HO3 := Bx.mk ho3; clear ho3))
    all_goals go_wp2_with fail
    all_goals go_ret
    all_goals exact HEND.out _ _ _ HO3.out.bs (by have h1 := HLN.out.1; have h2 := HLN.out.2.2; rw [List.length_append]; have h3 := h1 128 6 x; omega) hS3
  by_cases hc4 : r = 4
  · skip
    have hd0 : ((r : Int) == 0) = false := by rw [beq_eq_false_iff_ne]; omega
    have hd1 : ((r : Int) == 1) = false := by rw [beq_eq_false_iff_ne]; omega
    have hd2 : ((r : Int) == 2) = false := by rw [beq_eq_false_iff_ne]; omega
    have hd3 : ((r : Int) == 3) = false := by rw [beq_eq_false_iff_ne]; omega
    have hd4 : ((r : Int) == 4) = true := by rw [beq_iff_eq]; omega
    have HPT := Bx.mk (fun W hW => qa_str (w1 := w1) 64 64 rfl 5 5 rfl (by decide) (by decide) pn HSZ.out.1 W hW (.slice none 0 0) [] (OwB.nil _ _) (by simp))
    have HPS := Bx.mk (fun W hW bV l ho hl => qa_str (w1 := w1) 0 0 rfl 7 7 rfl (by decide) (by decide) pv HSZ.out.2.1 W hW bV l ho hl)
    clear hc4 hr16 hX2
    go_enter Try.func9, Try.ntmps9
    go_wp2_with (first | (with_reducible refine hbox rfl ?_))
    go_region_held (fun W => Below w1.heap.size w1 W) (first | assumption) (first
      | (go_at_call 26; refine (HPS.out _ ?_ _ _ HO2.out (by rw [List.nil_append]; exact Nat.le_trans HLN.out.2.1 (by decide))).mono ?_; assumption; rintro e w3 ⟨v3, rfl, ho3, hS3⟩; have HO3 := Bx.mk ho3; clear ho3)
      | (go_at_call 26; refine (HPT.out _ ?_).mono ?_; assumption; rintro e w2 ⟨v2, rfl, ho2, hS2⟩; have HO2 := Bx.mk ho2; clear ho2))
    all_goals go_wp2_with fail
    all_goals go_ret
    all_goals exact HEND.out _ _ _ HO3.out.bs (by have h1 := HLN.out.2.1; have h2 := HLN.out.2.2; rw [List.nil_append, List.length_append]; omega) hS3
  by_cases hc5 : r = 5
  · skip
    have hd0 : ((r : Int) == 0) = false := by rw [beq_eq_false_iff_ne]; omega
    have hd1 : ((r : Int) == 1) = false := by rw [beq_eq_false_iff_ne]; omega
    have hd2 : ((r : Int) == 2) = false := by rw [beq_eq_false_iff_ne]; omega
    have hd3 : ((r : Int) == 3) = false := by rw [beq_eq_false_iff_ne]; omega
    have hd4 : ((r : Int) == 4) = false := by rw [beq_eq_false_iff_ne]; omega
    have hd5 : ((r : Int) == 5) = true := by rw [beq_iff_eq]; omega
    have HPT := Bx.mk (fun W hW => qa_str (w1 := w1) 64 64 rfl 5 5 rfl (by decide) (by decide) pn HSZ.out.1 W hW (.slice none 0 0) [] (OwB.nil _ _) (by simp))
    have HPS := Bx.mk (fun W hW bV l ho hl => qa_str (w1 := w1) 0 0 rfl 7 7 rfl (by decide) (by decide) pv HSZ.out.2.1 W hW bV l ho hl)
    clear hc5 hr16 hX2
    go_enter Try.func9, Try.ntmps9
    go_wp2_with (first | (with_reducible refine hbox rfl ?_))
    go_region_held (fun W => Below w1.heap.size w1 W) (first | assumption) (first
      | (go_at_call 26; refine (HPS.out _ ?_ _ _ HO2.out (by rw [List.nil_append]; exact Nat.le_trans HLN.out.2.1 (by decide))).mono ?_; assumption; rintro e w3 ⟨v3, rfl, ho3, hS3⟩; have HO3 := Bx.mk ho3; clear ho3)
      | (go_at_call 26; refine (HPT.out _ ?_).mono ?_; assumption; rintro e w2 ⟨v2, rfl, ho2, hS2⟩; have HO2 := Bx.mk ho2; clear ho2))
    all_goals go_wp2_with fail
    all_goals go_ret
    all_goals exact HEND.out _ _ _ HO3.out.bs (by have h1 := HLN.out.2.1; have h2 := HLN.out.2.2; rw [List.nil_append, List.length_append]; omega) hS3
  by_cases hc6 : r = 6
  · skip
    have hd0 : ((r : Int) == 0) = false := by rw [beq_eq_false_iff_ne]; omega
    have hd1 : ((r : Int) == 1) = false := by rw [beq_eq_false_iff_ne]; omega
    have hd2 : ((r : Int) == 2) = false := by rw [beq_eq_false_iff_ne]; omega
    have hd3 : ((r : Int) == 3) = false := by rw [beq_eq_false_iff_ne]; omega
    have hd4 : ((r : Int) == 4) = false := by rw [beq_eq_false_iff_ne]; omega
    have hd5 : ((r : Int) == 5) = false := by rw [beq_eq_false_iff_ne]; omega
    have hd6 : ((r : Int) == 6) = true := by rw [beq_iff_eq]; omega
    obtain ⟨x, hx⟩ : ∃ x, pi % 4 = x := ⟨_, rfl⟩
    obtain ⟨X, hX⟩ := letter x
    have hx2 : (pi : Int).tmod 4 = X := by rw [Int.tmod_eq_emod_of_nonneg (by omega)]; omega
    have hwx : IntKind.u64.wrap X = X := u64_keep (by omega) (by omega)
    have hx64 : x < 18446744073709551616 := by omega
    have HPR := Bx.mk (fun W hW => qa_pref (w1 := w1) 0 0 rfl 5 5 rfl x X hX hx64 W hW)
    clear hc6 hr16 hx64 hX hx hX2 hX5 hX6
    go_enter Try.func9, Try.ntmps9
    go_wp2_with (first | (with_reducible refine hbox rfl ?_) | (go_at_call 23; refine (HPR.out w1 (Below.refl _ _)).mono ?_; rintro e w2 ⟨v2, rfl, ho2, hb2⟩; have HO2 := Bx.mk ho2; have HB2 := Bx.mk hb2; clear ho2 hb2))
    try go_ret
    exact HEND.out _ _ _ HO2.out.bs (Nat.le_trans (HLN.out.1 _ _ _) (by decide)) HB2.out
  have hd0 : ((r : Int) == 0) = false := by rw [beq_eq_false_iff_ne]; omega
  have hd1 : ((r : Int) == 1) = false := by rw [beq_eq_false_iff_ne]; omega
  have hd2 : ((r : Int) == 2) = false := by rw [beq_eq_false_iff_ne]; omega
  have hd3 : ((r : Int) == 3) = false := by rw [beq_eq_false_iff_ne]; omega
  have hd4 : ((r : Int) == 4) = false := by rw [beq_eq_false_iff_ne]; omega
  have hd5 : ((r : Int) == 5) = false := by rw [beq_eq_false_iff_ne]; omega
  have hd6 : ((r : Int) == 6) = false := by rw [beq_eq_false_iff_ne]; omega
  clear hc0 hc1 hc2 hc3 hc4 hc5 hc6 hr16 hX2 hX5 hX6
  go_enter Try.func9, Try.ntmps9
  go_wp2_with (first | (with_reducible refine hbox rfl ?_))
  try go_ret
  exact HEND.out _ _ _ HRAW.out.1 HRAW.out.2 (Below.refl _ _)
end Go.Proofs.Yteopmaaghhendaa
