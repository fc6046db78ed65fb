/-
  bifoldlaw4.StaticAll answers true, whatever its argument: the walk.
-/
import Derived.Test.YtnmjnolfoaengaaStL
import Derived.Test.YtnmjnolfoaengaaStC
import Derived.Test.YtnmjnolfoaengaaStD
import Derived.Deep.RegionHeld
namespace Go.Proofs.Ytnmjnolfoaengaa
open Go.RowKit
set_option linter.unusedVariables false

theorem entF_in (l : List Fd) (fr p : Nat) (h : p < l.length) : entF l fr (p + fr) = l[p] ∧ isF l fr (p + fr) = true := by
  constructor
  · unfold entF; rw [dif_pos ⟨by omega, by omega⟩]; simp
  · unfold isF; rw [decide_eq_true ⟨by omega, by omega⟩]
theorem isF_out (l : List Fd) (fr i : Nat) (h : l.length + fr ≤ i) : isF l fr i = false := by
  unfold isF; rw [decide_eq_false (by omega)]
theorem findP_in (l : List Fd) (fr p : Nat) (h : p < l.length) (hn : l.Nodup) : findP l fr l[p] = .tuple #[.int .u64 ((fr + p : Nat) : Int), .bool true, .bool true] := by
  unfold findP; rw [findS_at hn h rfl]; rfl

theorem wpAnyH_sub {P : Program} {ops : Array Oper} {Q : Exit → Act → World → Prop} {md : Region.Mode} {S S1 : World → Prop} (hs : ∀ w, S w → S1 w) :
    ∀ (fuel : Nat) (listed : Array Bool) (a : Act) (w : World), wpAnyH P md ops Q S fuel listed a w → wpAnyH P md ops Q S1 fuel listed a w
  | 0, _, _, _, h => h
  | fuel + 1, _, _, _, h => ⟨h.1, fun i hi => wpOp_mono (fun a' w' h' => ⟨hs _ h'.1, wpAnyH_sub hs fuel _ a' w' h'.2⟩) (h.2 i hi)⟩

theorem Fs.atF {w : World} {v : Value} {l : List Fd} {f : Fd} {i : Nat} (h : Fs w v l) (hi : ∃ h : i < l.length, l[i] = f) :
    ∃ b o : Nat, (∀ (q : IntKind) (W : World), (Instr.indexAt 30 v (.int q (i : Int))).run Try.prog W = .ok (.pointer (some ⟨b, o, none⟩)) W) ∧
      ∀ W : World, Fs W v l → W.cell? ⟨b, o, none⟩ = some (.string f.1) ∧ W.cell? ⟨b, o + 1, none⟩ = some (.string f.2) := by
  obtain ⟨hl, rfl⟩ := hi
  exact h.at_ i hl

set_option maxRecDepth 100000 in
set_option maxHeartbeats 8000000 in
theorem staticAll_walk (a0 : Int) (w0 : (Lit.int .u8 a0).wf = true) (w : World) :
    Calls Try.prog 5 #[.int .u8 a0] w fun e w' => e = .returned (.bool true) ∧ Below w.heap.size w w' := by
  obtain ⟨i, rfl, hi⟩ := wf_u8n w0
  clear w0
  have ha : ∀ f : Fd, aggF f = .agg #[.string f.1, .string f.2] := fun _ => rfl
  obtain ⟨p, hp⟩ : ∃ p : Nat, i % 61 = p := ⟨_, rfl⟩
  obtain ⟨b, hb⟩ : ∃ b : Nat, i % 99 = b := ⟨_, rfl⟩
  obtain ⟨a, hpa⟩ : ∃ a : Nat, p + 1 = a := ⟨_, rfl⟩
  obtain ⟨c, hc⟩ : ∃ c : Nat, 62 + i = c := ⟨_, rfl⟩
  obtain ⟨d, hd⟩ : ∃ d : Nat, 99 + i = d := ⟨_, rfl⟩
  have hpl : p < T2.length := by rw [t2_len]; omega
  have hbl : b < T3.length := by rw [t3_len]; omega
  have hm1 : (i : Int) % 61 = (p : Int) := by omega
  have hm2 : (i : Int) % 99 = (b : Int) := by omega
  have hwi : IntKind.u64.wrap (i : Int) = (i : Int) := by simp [IntKind.wrap, IntKind.signed, IntKind.bits]; omega
  have hwa : IntKind.u64.wrap ((p : Int) + 1) = (a : Int) := by simp [IntKind.wrap, IntKind.signed, IntKind.bits]; omega
  have hsa : (p : Int) + 1 = (a : Int) := by omega
  have hws : IntKind.u64.wrap (p : Int) = (p : Int) := by simp [IntKind.wrap, IntKind.signed, IntKind.bits]; omega
  have hss : (a : Int) - 1 = (p : Int) := by omega
  have hwc : IntKind.u64.wrap (c : Int) = (c : Int) := by simp [IntKind.wrap, IntKind.signed, IntKind.bits]; omega
  have hsc : 62 + (i : Int) = (c : Int) := by omega
  have hwd : IntKind.u64.wrap (d : Int) = (d : Int) := by simp [IntKind.wrap, IntKind.signed, IntKind.bits]; omega
  have hsd : 99 + (i : Int) = (d : Int) := by omega
  obtain ⟨hE1, hT1⟩ := entF_in T2 1 p hpl
  obtain ⟨hE2, hT2⟩ := entF_in T3 0 b hbl
  have hP1 := findP_in T2 1 p hpl t2_nodup
  have hP2 := findP_in T3 0 b hbl t3_nodup
  have HS1 := Bx.mk (t2_sized _ (List.getElem_mem hpl))
  have HS2 := Bx.mk (t3_sized _ (List.getElem_mem hbl))
  have HX := Bx.mk (isF_out T2 1 c (by rw [t2_len]; omega))
  have HY := Bx.mk (isF_out T3 0 d (by rw [t3_len]; omega))
  have hq1 : ∃ f, T2[p] = f := ⟨_, rfl⟩
  obtain ⟨⟨f1, f2⟩, hq1⟩ := hq1
  have hq2 : ∃ f, T3[b] = f := ⟨_, rfl⟩
  obtain ⟨⟨g1, g2⟩, hq2⟩ := hq2
  rw [hq1] at hE1 hP1 HS1
  rw [hq2] at hE2 hP2 HS2
  rw [hpa] at hE1 hT1
  rw [Nat.add_zero] at hE2 hT2
  rw [show 1 + p = a by omega] at hP1
  rw [Nat.zero_add] at hP2
  have HE1 := Bx.mk hE1
  have HT1 := Bx.mk hT1
  have HE2 := Bx.mk hE2
  have HT2 := Bx.mk hT2
  have HP1 := Bx.mk hP1
  have HP2 := Bx.mk hP2
  have HQ1 : Bx (∃ h : p < T2.length, T2[p] = (f1, f2)) := ⟨hpl, hq1⟩
  have HQ2 : Bx (∃ h : b < T3.length, T3[b] = (g1, g2)) := ⟨hbl, hq2⟩
  have HPL := Bx.mk hpl
  have HBL := Bx.mk hbl
  have HA := Bx.mk (show a < 18446744073709551616 by omega)
  have HBb := Bx.mk (show b < 18446744073709551616 by omega)
  have HC := Bx.mk (show c < 18446744073709551616 by omega)
  have HD := Bx.mk (show d < 18446744073709551616 by omega)
  have hs1 := str_same f1
  have hs2 := str_same f2
  have hs3 := str_same g1
  have hs4 := str_same g2
  clear hE1 hT1 hE2 hT2 hP1 hP2 hq1 hq2 hpl hbl hp hb hpa hc hd hi
  go_enter Try.func5, Try.ntmps5
  go_wp2_with fail
  refine (known_any _).mono ?_
  rintro e w1 ⟨rfl, b1⟩
  have HB1 := Bx.mk b1
  clear b1
  go_wp2_with fail
  refine (h2_any a _ HA.out).mono ?_
  rintro e w2 ⟨rfl, b2⟩
  rw [HE1.out, HT1.out, ha]
  have HB2 := Bx.mk (HB1.out.trans (b2.mono HB1.out.size))
  have HF2 := Bx.mk (Fb.new 26 w2 (f1, f2))
  clear b2
  go_wp2_with fail
  refine (h3_any b _ HBb.out).mono ?_
  rintro e w3 ⟨rfl, b3⟩
  rw [HE2.out, HT2.out, ha]
  have HB3 := Bx.mk (((HB2.out.alloc HB2.out.size _).trans (b3.mono (by have := HB2.out.size; simp; omega))).alloc (by have := HB2.out.size; have := b3.size; simp at this; omega) (.cells #[.string g1, .string g2] 26))
  have HF3 := Bx.mk ((HF2.out.keep b3).alloc (.cells #[.string g1, .string g2] 26))
  have HG3 := Bx.mk (Fb.new 26 w3 (g1, g2))
  obtain ⟨hc1, hc2⟩ := HF3.out.cells
  clear b3 HF2
  go_wp2_with fail
  refine (findH2_any (f1, f2) _ HS1.out).mono ?_
  rintro e w4 ⟨rfl, b4⟩
  rw [HP1.out]
  have HB4 := Bx.mk (HB3.out.trans (b4.mono HB3.out.size))
  have HF4 := Bx.mk (HF3.out.keep b4)
  have HG4 := Bx.mk (HG3.out.keep b4)
  obtain ⟨hd1, hd2⟩ := HG4.out.cells
  clear b4 hc1 hc2 HF3 HG3
  go_wp2_with fail
  refine (findH3_any (g1, g2) _ HS2.out).mono ?_
  rintro e w5 ⟨rfl, b5⟩
  rw [HP2.out]
  have HB5 := Bx.mk (HB4.out.trans (b5.mono HB4.out.size))
  have HF5 := Bx.mk (HF4.out.keep b5)
  have HG5 := Bx.mk (HG4.out.keep b5)
  clear b5 hd1 hd2 HF4 HG4
  go_wp2_with fail
  refine (h2_any c _ HC.out).mono ?_
  rintro e w6 ⟨rfl, b6⟩
  rw [HX.out, ha]
  generalize (entF T2 1 c).1 = x1, (entF T2 1 c).2 = x2
  have HB6 := Bx.mk ((HB5.out.trans (b6.mono HB5.out.size)).alloc (Nat.le_trans HB5.out.size b6.size) (.cells #[.string x1, .string x2] 26))
  have HF6 := Bx.mk ((HF5.out.keep b6).alloc (.cells #[.string x1, .string x2] 26))
  have HG6 := Bx.mk ((HG5.out.keep b6).alloc (.cells #[.string x1, .string x2] 26))
  clear b6 HF5 HG5
  go_wp2_with fail
  refine (h3_any d _ HD.out).mono ?_
  rintro e w7 ⟨rfl, b7⟩
  rw [HY.out, ha]
  generalize (entF T3 0 d).1 = y1, (entF T3 0 d).2 = y2
  have HB7 := Bx.mk ((HB6.out.trans (b7.mono HB6.out.size)).alloc (Nat.le_trans HB6.out.size b7.size) (.cells #[.string y1, .string y2] 26))
  have HF7 := Bx.mk ((HF6.out.keep b7).alloc (.cells #[.string y1, .string y2] 26))
  have HG7 := Bx.mk ((HG6.out.keep b7).alloc (.cells #[.string y1, .string y2] 26))
  clear b7 HF6 HG6
  go_wp2_with fail
  generalize w7.alloc (.cells #[.string y1, .string y2] 26) = w8 at *
  obtain ⟨hc1, hc2⟩ := HF7.out.cells
  obtain ⟨hd1, hd2⟩ := HG7.out.cells
  have hS8 : w8.drew.cell? ⟨w2.heap.size, 0, none⟩ = some (.string f1) ∧ w8.drew.cell? ⟨w2.heap.size, 1, none⟩ = some (.string f2) ∧ w8.drew.cell? ⟨w3.heap.size, 0, none⟩ = some (.string g1) ∧ w8.drew.cell? ⟨w3.heap.size, 1, none⟩ = some (.string g2) := ⟨hc1, hc2, hd1, hd2⟩
  clear hc1 hc2 hd1 hd2 hm1 hm2 hwi hwa hsa hwc hsc hwd hsd
  refine wp_region_held_drew (S := fun W => W.cell? ⟨w2.heap.size, 0, none⟩ = some (.string f1) ∧ W.cell? ⟨w2.heap.size, 1, none⟩ = some (.string f2) ∧ W.cell? ⟨w3.heap.size, 0, none⟩ = some (.string g1) ∧ W.cell? ⟨w3.heap.size, 1, none⟩ = some (.string g2)) (by kernel_rfl) hS8 (fun hHeld => ?_)
  refine wpAnyH_take (i := 0) (oi := ⟨some 64, Op.move (Operand.tmp 6), 4, _, _, none⟩) (v := ?v0) rfl (by kernel_rfl) (by kernel_rfl) (by kernel_rfl) (fun _ _ _ h => h) (Or.inl ⟨by rfl, ?y0⟩) (by assumption) ?r0
  case y0 =>
    intro W hSw
    try dsimp only at hSw
    go_simp
    try with_reducible rfl
  case r0 =>
  try simp only [Act.put, List.setIfInBounds_toArray, List.set_cons_zero, List.set_cons_succ]
  refine wpAnyH_take (i := 1) (oi := ⟨some 65, Op.move (Operand.tmp 64), 4, _, _, none⟩) (v := ?v1) rfl (by kernel_rfl) (by kernel_rfl) (by kernel_rfl) (fun _ _ _ h => h) (Or.inl ⟨by rfl, ?y1⟩) (by assumption) ?r1
  case y1 =>
    intro W hSw
    try dsimp only at hSw
    go_simp
    try with_reducible rfl
  case r1 =>
  try simp only [Act.put, List.setIfInBounds_toArray, List.set_cons_zero, List.set_cons_succ]
  refine wpAnyH_take (i := 2) (oi := ⟨some 66, Op.move (Operand.tmp 8), 4, _, _, some (1, true)⟩) (v := ?v2) rfl (by kernel_rfl) (by kernel_rfl) (by kernel_rfl) (fun _ _ _ h => h) (Or.inl ⟨by rfl, ?y2⟩) (by assumption) ?r2
  case y2 =>
    intro W hSw
    try dsimp only at hSw
    go_simp
    try with_reducible rfl
  case r2 =>
  try simp only [Act.put, List.setIfInBounds_toArray, List.set_cons_zero, List.set_cons_succ]
  refine wpAnyH_take (i := 3) (oi := ⟨some 67, Op.pick (Operand.tmp 65) (Operand.tmp 66) (Operand.const (Value.bool false)), 4, _, _, none⟩) (v := ?v3) rfl (by kernel_rfl) (by kernel_rfl) (by kernel_rfl) (fun _ _ _ h => h) (Or.inl ⟨by rfl, ?y3⟩) (by assumption) ?r3
  case y3 =>
    intro W hSw
    try dsimp only at hSw
    go_simp
    try with_reducible rfl
  case r3 =>
  try simp only [Act.put, List.setIfInBounds_toArray, List.set_cons_zero, List.set_cons_succ]
  refine wpAnyH_take (i := 4) (oi := ⟨some 68, Op.move (Operand.tmp 67), 4, _, _, none⟩) (v := ?v4) rfl (by kernel_rfl) (by kernel_rfl) (by kernel_rfl) (fun _ _ _ h => h) (Or.inl ⟨by rfl, ?y4⟩) (by assumption) ?r4
  case y4 =>
    intro W hSw
    try dsimp only at hSw
    go_simp
    try with_reducible rfl
  case r4 =>
  try simp only [Act.put, List.setIfInBounds_toArray, List.set_cons_zero, List.set_cons_succ]
  refine wpAnyH_take (i := 5) (oi := ⟨some 69, Op.move (Operand.tmp 11), 4, _, _, some (4, true)⟩) (v := ?v5) rfl (by kernel_rfl) (by kernel_rfl) (by kernel_rfl) (fun _ _ _ h => h) (Or.inl ⟨by rfl, ?y5⟩) (by assumption) ?r5
  case y5 =>
    intro W hSw
    try dsimp only at hSw
    go_simp
    try with_reducible rfl
  case r5 =>
  try simp only [Act.put, List.setIfInBounds_toArray, List.set_cons_zero, List.set_cons_succ]
  refine wpAnyH_take (i := 6) (oi := ⟨some 70, Op.pick (Operand.tmp 68) (Operand.tmp 69) (Operand.const (Value.bool false)), 4, _, _, none⟩) (v := ?v6) rfl (by kernel_rfl) (by kernel_rfl) (by kernel_rfl) (fun _ _ _ h => h) (Or.inl ⟨by rfl, ?y6⟩) (by assumption) ?r6
  case y6 =>
    intro W hSw
    try dsimp only at hSw
    go_simp
    try with_reducible rfl
  case r6 =>
  try simp only [Act.put, List.setIfInBounds_toArray, List.set_cons_zero, List.set_cons_succ]
  refine wpAnyH_take (i := 7) (oi := ⟨some 71, Op.move (Operand.tmp 70), 4, _, _, none⟩) (v := ?v7) rfl (by kernel_rfl) (by kernel_rfl) (by kernel_rfl) (fun _ _ _ h => h) (Or.inl ⟨by rfl, ?y7⟩) (by assumption) ?r7
  case y7 =>
    intro W hSw
    try dsimp only at hSw
    go_simp
    try with_reducible rfl
  case r7 =>
  try simp only [Act.put, List.setIfInBounds_toArray, List.set_cons_zero, List.set_cons_succ]
  refine wpAnyH_take (i := 8) (oi := ⟨some 72, Op.move (Operand.tmp 14), 4, _, _, some (7, true)⟩) (v := ?v8) rfl (by kernel_rfl) (by kernel_rfl) (by kernel_rfl) (fun _ _ _ h => h) (Or.inl ⟨by rfl, ?y8⟩) (by assumption) ?r8
  case y8 =>
    intro W hSw
    try dsimp only at hSw
    go_simp
    try with_reducible rfl
  case r8 =>
  try simp only [Act.put, List.setIfInBounds_toArray, List.set_cons_zero, List.set_cons_succ]
  refine wpAnyH_take (i := 9) (oi := ⟨some 73, Op.pick (Operand.tmp 71) (Operand.tmp 72) (Operand.const (Value.bool false)), 4, _, _, none⟩) (v := ?v9) rfl (by kernel_rfl) (by kernel_rfl) (by kernel_rfl) (fun _ _ _ h => h) (Or.inl ⟨by rfl, ?y9⟩) (by assumption) ?r9
  case y9 =>
    intro W hSw
    try dsimp only at hSw
    go_simp
    try with_reducible rfl
  case r9 =>
  try simp only [Act.put, List.setIfInBounds_toArray, List.set_cons_zero, List.set_cons_succ]
  refine wpAnyH_take (i := 10) (oi := ⟨some 74, Op.move (Operand.tmp 73), 4, _, _, none⟩) (v := ?v10) rfl (by kernel_rfl) (by kernel_rfl) (by kernel_rfl) (fun _ _ _ h => h) (Or.inl ⟨by rfl, ?y10⟩) (by assumption) ?r10
  case y10 =>
    intro W hSw
    try dsimp only at hSw
    go_simp
    try with_reducible rfl
  case r10 =>
  try simp only [Act.put, List.setIfInBounds_toArray, List.set_cons_zero, List.set_cons_succ]
  refine wpAnyH_take (i := 11) (oi := ⟨some 75, Op.move (Operand.tmp 9), 22, _, _, some (10, true)⟩) (v := ?v11) rfl (by kernel_rfl) (by kernel_rfl) (by kernel_rfl) (fun _ _ _ h => h) (Or.inl ⟨by rfl, ?y11⟩) (by assumption) ?r11
  case y11 =>
    intro W hSw
    try dsimp only at hSw
    go_simp
    try with_reducible rfl
  case r11 =>
  try simp only [Act.put, List.setIfInBounds_toArray, List.set_cons_zero, List.set_cons_succ]
  refine wpAnyH_take (i := 12) (oi := ⟨some 76, Op.move (Operand.tmp 3), 22, _, _, some (10, true)⟩) (v := ?v12) rfl (by kernel_rfl) (by kernel_rfl) (by kernel_rfl) (fun _ _ _ h => h) (Or.inl ⟨by rfl, ?y12⟩) (by assumption) ?r12
  case y12 =>
    intro W hSw
    try dsimp only at hSw
    go_simp
    try with_reducible rfl
  case r12 =>
  try simp only [Act.put, List.setIfInBounds_toArray, List.set_cons_zero, List.set_cons_succ]
  refine wpAnyH_take (i := 13) (oi := ⟨some 77, Op.binOp BinOp.eql 22 (Operand.tmp 75) (Operand.tmp 76) 22, 4, _, _, some (10, true)⟩) (v := ?v13) rfl (by kernel_rfl) (by kernel_rfl) (by kernel_rfl) (fun _ _ _ h => h) (Or.inl ⟨by rfl, ?y13⟩) (by assumption) ?r13
  case y13 =>
    intro W hSw
    try dsimp only at hSw
    go_simp
    try with_reducible rfl
  case r13 =>
  try simp only [Act.put, List.setIfInBounds_toArray, List.set_cons_zero, List.set_cons_succ]
  refine wpAnyH_take (i := 14) (oi := ⟨some 78, Op.pick (Operand.tmp 74) (Operand.tmp 77) (Operand.const (Value.bool false)), 4, _, _, none⟩) (v := ?v14) rfl (by kernel_rfl) (by kernel_rfl) (by kernel_rfl) (fun _ _ _ h => h) (Or.inl ⟨by rfl, ?y14⟩) (by assumption) ?r14
  case y14 =>
    intro W hSw
    try dsimp only at hSw
    go_simp
    try with_reducible rfl
  case r14 =>
  try simp only [Act.put, List.setIfInBounds_toArray, List.set_cons_zero, List.set_cons_succ]
  refine wpAnyH_take (i := 15) (oi := ⟨some 79, Op.move (Operand.tmp 78), 4, _, _, none⟩) (v := ?v15) rfl (by kernel_rfl) (by kernel_rfl) (by kernel_rfl) (fun _ _ _ h => h) (Or.inl ⟨by rfl, ?y15⟩) (by assumption) ?r15
  case y15 =>
    intro W hSw
    try dsimp only at hSw
    go_simp
    try with_reducible rfl
  case r15 =>
  try simp only [Act.put, List.setIfInBounds_toArray, List.set_cons_zero, List.set_cons_succ]
  refine wpAnyH_take (i := 16) (oi := ⟨some 80, Op.move (Operand.tmp 12), 22, _, _, some (15, true)⟩) (v := ?v16) rfl (by kernel_rfl) (by kernel_rfl) (by kernel_rfl) (fun _ _ _ h => h) (Or.inl ⟨by rfl, ?y16⟩) (by assumption) ?r16
  case y16 =>
    intro W hSw
    try dsimp only at hSw
    go_simp
    try with_reducible rfl
  case r16 =>
  try simp only [Act.put, List.setIfInBounds_toArray, List.set_cons_zero, List.set_cons_succ]
  refine wpAnyH_take (i := 17) (oi := ⟨some 81, Op.move (Operand.tmp 4), 22, _, _, some (15, true)⟩) (v := ?v17) rfl (by kernel_rfl) (by kernel_rfl) (by kernel_rfl) (fun _ _ _ h => h) (Or.inl ⟨by rfl, ?y17⟩) (by assumption) ?r17
  case y17 =>
    intro W hSw
    try dsimp only at hSw
    go_simp
    try with_reducible rfl
  case r17 =>
  try simp only [Act.put, List.setIfInBounds_toArray, List.set_cons_zero, List.set_cons_succ]
  refine wpAnyH_take (i := 18) (oi := ⟨some 82, Op.binOp BinOp.eql 22 (Operand.tmp 80) (Operand.tmp 81) 22, 4, _, _, some (15, true)⟩) (v := ?v18) rfl (by kernel_rfl) (by kernel_rfl) (by kernel_rfl) (fun _ _ _ h => h) (Or.inl ⟨by rfl, ?y18⟩) (by assumption) ?r18
  case y18 =>
    intro W hSw
    try dsimp only at hSw
    go_simp
    try with_reducible rfl
  case r18 =>
  try simp only [Act.put, List.setIfInBounds_toArray, List.set_cons_zero, List.set_cons_succ]
  refine wpAnyH_take (i := 19) (oi := ⟨some 83, Op.pick (Operand.tmp 79) (Operand.tmp 82) (Operand.const (Value.bool false)), 4, _, _, none⟩) (v := ?v19) rfl (by kernel_rfl) (by kernel_rfl) (by kernel_rfl) (fun _ _ _ h => h) (Or.inl ⟨by rfl, ?y19⟩) (by assumption) ?r19
  case y19 =>
    intro W hSw
    try dsimp only at hSw
    go_simp
    try with_reducible rfl
  case r19 =>
  try simp only [Act.put, List.setIfInBounds_toArray, List.set_cons_zero, List.set_cons_succ]
  refine wpAnyH_take (i := 20) (oi := ⟨some 84, Op.move (Operand.tmp 83), 4, _, _, none⟩) (v := ?v20) rfl (by kernel_rfl) (by kernel_rfl) (by kernel_rfl) (fun _ _ _ h => h) (Or.inl ⟨by rfl, ?y20⟩) (by assumption) ?r20
  case y20 =>
    intro W hSw
    try dsimp only at hSw
    go_simp
    try with_reducible rfl
  case r20 =>
  try simp only [Act.put, List.setIfInBounds_toArray, List.set_cons_zero, List.set_cons_succ]
  refine wpAnyH_take (i := 21) (oi := ⟨some 85, Op.move (Operand.tmp 16), 4, _, _, some (20, true)⟩) (v := ?v21) rfl (by kernel_rfl) (by kernel_rfl) (by kernel_rfl) (fun _ _ _ h => h) (Or.inl ⟨by rfl, ?y21⟩) (by assumption) ?r21
  case y21 =>
    intro W hSw
    try dsimp only at hSw
    go_simp
    try with_reducible rfl
  case r21 =>
  try simp only [Act.put, List.setIfInBounds_toArray, List.set_cons_zero, List.set_cons_succ]
  refine wpAnyH_take (i := 22) (oi := ⟨some 86, Op.unOp UnOp.not 4 (Operand.tmp 85), 4, _, _, some (20, true)⟩) (v := ?v22) rfl (by kernel_rfl) (by kernel_rfl) (by kernel_rfl) (fun _ _ _ h => h) (Or.inl ⟨by rfl, ?y22⟩) (by assumption) ?r22
  case y22 =>
    intro W hSw
    try dsimp only at hSw
    go_simp
    try with_reducible rfl
  case r22 =>
  try simp only [Act.put, List.setIfInBounds_toArray, List.set_cons_zero, List.set_cons_succ]
  refine wpAnyH_take (i := 23) (oi := ⟨some 87, Op.pick (Operand.tmp 84) (Operand.tmp 86) (Operand.const (Value.bool false)), 4, _, _, none⟩) (v := ?v23) rfl (by kernel_rfl) (by kernel_rfl) (by kernel_rfl) (fun _ _ _ h => h) (Or.inl ⟨by rfl, ?y23⟩) (by assumption) ?r23
  case y23 =>
    intro W hSw
    try dsimp only at hSw
    go_simp
    try with_reducible rfl
  case r23 =>
  try simp only [Act.put, List.setIfInBounds_toArray, List.set_cons_zero, List.set_cons_succ]
  refine wpAnyH_take (i := 24) (oi := ⟨some 88, Op.move (Operand.tmp 87), 4, _, _, none⟩) (v := ?v24) rfl (by kernel_rfl) (by kernel_rfl) (by kernel_rfl) (fun _ _ _ h => h) (Or.inl ⟨by rfl, ?y24⟩) (by assumption) ?r24
  case y24 =>
    intro W hSw
    try dsimp only at hSw
    go_simp
    try with_reducible rfl
  case r24 =>
  try simp only [Act.put, List.setIfInBounds_toArray, List.set_cons_zero, List.set_cons_succ]
  refine wpAnyH_take (i := 25) (oi := ⟨some 89, Op.move (Operand.tmp 18), 4, _, _, some (24, true)⟩) (v := ?v25) rfl (by kernel_rfl) (by kernel_rfl) (by kernel_rfl) (fun _ _ _ h => h) (Or.inl ⟨by rfl, ?y25⟩) (by assumption) ?r25
  case y25 =>
    intro W hSw
    try dsimp only at hSw
    go_simp
    try with_reducible rfl
  case r25 =>
  try simp only [Act.put, List.setIfInBounds_toArray, List.set_cons_zero, List.set_cons_succ]
  refine wpAnyH_take (i := 26) (oi := ⟨some 90, Op.unOp UnOp.not 4 (Operand.tmp 89), 4, _, _, some (24, true)⟩) (v := ?v26) rfl (by kernel_rfl) (by kernel_rfl) (by kernel_rfl) (fun _ _ _ h => h) (Or.inl ⟨by rfl, ?y26⟩) (by assumption) ?r26
  case y26 =>
    intro W hSw
    try dsimp only at hSw
    go_simp
    try with_reducible rfl
  case r26 =>
  try simp only [Act.put, List.setIfInBounds_toArray, List.set_cons_zero, List.set_cons_succ]
  refine wpAnyH_take (i := 27) (oi := ⟨some 91, Op.pick (Operand.tmp 88) (Operand.tmp 90) (Operand.const (Value.bool false)), 4, _, _, none⟩) (v := ?v27) rfl (by kernel_rfl) (by kernel_rfl) (by kernel_rfl) (fun _ _ _ h => h) (Or.inl ⟨by rfl, ?y27⟩) (by assumption) ?r27
  case y27 =>
    intro W hSw
    try dsimp only at hSw
    go_simp
    try with_reducible rfl
  case r27 =>
  try simp only [Act.put, List.setIfInBounds_toArray, List.set_cons_zero, List.set_cons_succ]
  refine wpAnyH_take (i := 28) (oi := ⟨some 92, Op.move (Operand.tmp 91), 4, _, _, none⟩) (v := ?v28) rfl (by kernel_rfl) (by kernel_rfl) (by kernel_rfl) (fun _ _ _ h => h) (Or.inl ⟨by rfl, ?y28⟩) (by assumption) ?r28
  case y28 =>
    intro W hSw
    try dsimp only at hSw
    go_simp
    try with_reducible rfl
  case r28 =>
  try simp only [Act.put, List.setIfInBounds_toArray, List.set_cons_zero, List.set_cons_succ]
  refine wpAnyH_take (i := 29) (oi := ⟨some 93, Op.load 26 (Operand.tmp 5), 26, _, _, some (28, true)⟩) (v := ?v29) rfl (by kernel_rfl) (by kernel_rfl) (by kernel_rfl) (fun _ _ _ h => h) (Or.inl ⟨by rfl, ?y29⟩) (by assumption) ?r29
  case y29 =>
    intro W hSw
    try dsimp only at hSw
    go_simp
    try with_reducible rfl
  case r29 =>
  try simp only [Act.put, List.setIfInBounds_toArray, List.set_cons_zero, List.set_cons_succ]
  refine wpAnyH_take (i := 31) (oi := ⟨some 95, Op.move (Operand.tmp 3), 22, _, _, some (28, true)⟩) (v := ?v31) rfl (by kernel_rfl) (by kernel_rfl) (by kernel_rfl) (fun _ _ _ h => h) (Or.inl ⟨by rfl, ?y31⟩) (by assumption) ?r31
  case y31 =>
    intro W hSw
    try dsimp only at hSw
    go_simp
    try with_reducible rfl
  case r31 =>
  try simp only [Act.put, List.setIfInBounds_toArray, List.set_cons_zero, List.set_cons_succ]
  refine wpAnyH_take (i := 32) (oi := ⟨some 96, Op.binOp BinOp.sub 22 (Operand.tmp 95) (Operand.const (Value.int IntKind.u64 1)) 22, 22, _, _, some (28, true)⟩) (v := ?v32) rfl (by kernel_rfl) (by kernel_rfl) (by kernel_rfl) (fun _ _ _ h => h) (Or.inl ⟨by rfl, ?y32⟩) (by assumption) ?r32
  case y32 =>
    intro W hSw
    try dsimp only at hSw
    go_simp
    try with_reducible rfl
  case r32 =>
  try simp only [Act.put, List.setIfInBounds_toArray, List.set_cons_zero, List.set_cons_succ]
  refine wpAnyH_ready (rs := [30]) (by kernel_rfl) (by simp) ?_
  refine AllReadyH.cons rfl (fun K hK => ?_) AllReadyH.nil
  go_simp
  refine (h2s_any _).mono ?_
  rintro e w9 ⟨v9, rfl, hv9, b9⟩
  have hb9 : Below w8.heap.size w8 w9 := (Below.refl _ _).drew.trans b9
  obtain ⟨o1, o2, hix1, hat1⟩ := hv9.atF HQ1.out
  have hS9 : w9.cell? ⟨w2.heap.size, 0, none⟩ = some (.string f1) ∧ w9.cell? ⟨w2.heap.size, 1, none⟩ = some (.string f2) ∧ w9.cell? ⟨w3.heap.size, 0, none⟩ = some (.string g1) ∧ w9.cell? ⟨w3.heap.size, 1, none⟩ = some (.string g2) := ⟨(HF7.out.keep hb9).cells.1, (HF7.out.keep hb9).cells.2, (HG7.out.keep hb9).cells.1, (HG7.out.keep hb9).cells.2⟩
  have hT9 : w9.cell? ⟨w2.heap.size, 0, none⟩ = some (.string f1) ∧ w9.cell? ⟨w2.heap.size, 1, none⟩ = some (.string f2) ∧ w9.cell? ⟨w3.heap.size, 0, none⟩ = some (.string g1) ∧ w9.cell? ⟨w3.heap.size, 1, none⟩ = some (.string g2) ∧ w9.cell? ⟨o1, o2, none⟩ = some (.string f1) ∧ w9.cell? ⟨o1, o2 + 1, none⟩ = some (.string f2) := ⟨hS9.1, hS9.2.1, hS9.2.2.1, hS9.2.2.2, (hat1 _ hv9).1, (hat1 _ hv9).2⟩
  refine hK.out _ _ hS9 (fun _ => ?_)
  refine wpAnyH_sub (S := fun W => W.cell? ⟨w2.heap.size, 0, none⟩ = some (.string f1) ∧ W.cell? ⟨w2.heap.size, 1, none⟩ = some (.string f2) ∧ W.cell? ⟨w3.heap.size, 0, none⟩ = some (.string g1) ∧ W.cell? ⟨w3.heap.size, 1, none⟩ = some (.string g2) ∧ W.cell? ⟨o1, o2, none⟩ = some (.string f1) ∧ W.cell? ⟨o1, o2 + 1, none⟩ = some (.string f2)) (fun W h => ⟨h.1, h.2.1, h.2.2.1, h.2.2.2.1⟩) _ _ _ _ ?_
  clear hK K hat1 hHeld hS8 hS9
  refine wpAnyH_take (i := 33) (oi := ⟨some 97, Op.indexAddr 30 (Operand.tmp 94) (Operand.tmp 96), 0, _, _, some (28, true)⟩) (v := ?v33) rfl (by kernel_rfl) (by kernel_rfl) (by kernel_rfl) (fun _ _ _ h => h) (Or.inl ⟨by rfl, ?y33⟩) (by assumption) ?r33
  case y33 =>
    intro W hSw
    try dsimp only at hSw
    go_simp
    try with_reducible rfl
  case r33 =>
  try simp only [Act.put, List.setIfInBounds_toArray, List.set_cons_zero, List.set_cons_succ]
  refine wpAnyH_take (i := 34) (oi := ⟨some 98, Op.load 26 (Operand.tmp 97), 26, _, _, some (28, true)⟩) (v := ?v34) rfl (by kernel_rfl) (by kernel_rfl) (by kernel_rfl) (fun _ _ _ h => h) (Or.inl ⟨by rfl, ?y34⟩) (by assumption) ?r34
  case y34 =>
    intro W hSw
    try dsimp only at hSw
    go_simp
    try with_reducible rfl
  case r34 =>
  try simp only [Act.put, List.setIfInBounds_toArray, List.set_cons_zero, List.set_cons_succ]
  refine wpAnyH_take (i := 35) (oi := ⟨some 99, Op.binOp BinOp.eql 26 (Operand.tmp 93) (Operand.tmp 98) 26, 4, _, _, some (28, true)⟩) (v := ?v35) rfl (by kernel_rfl) (by kernel_rfl) (by kernel_rfl) (fun _ _ _ h => h) (Or.inl ⟨by rfl, ?y35⟩) (by assumption) ?r35
  case y35 =>
    intro W hSw
    try dsimp only at hSw
    go_simp
    try with_reducible rfl
  case r35 =>
  try simp only [Act.put, List.setIfInBounds_toArray, List.set_cons_zero, List.set_cons_succ]
  refine wpAnyH_take (i := 36) (oi := ⟨some 100, Op.pick (Operand.tmp 92) (Operand.tmp 99) (Operand.const (Value.bool false)), 4, _, _, none⟩) (v := ?v36) rfl (by kernel_rfl) (by kernel_rfl) (by kernel_rfl) (fun _ _ _ h => h) (Or.inl ⟨by rfl, ?y36⟩) (by assumption) ?r36
  case y36 =>
    intro W hSw
    try dsimp only at hSw
    go_simp
    try with_reducible rfl
  case r36 =>
  try simp only [Act.put, List.setIfInBounds_toArray, List.set_cons_zero, List.set_cons_succ]
  refine wpAnyH_take (i := 37) (oi := ⟨some 101, Op.move (Operand.tmp 100), 4, _, _, none⟩) (v := ?v37) rfl (by kernel_rfl) (by kernel_rfl) (by kernel_rfl) (fun _ _ _ h => h) (Or.inl ⟨by rfl, ?y37⟩) (by assumption) ?r37
  case y37 =>
    intro W hSw
    try dsimp only at hSw
    go_simp
    try with_reducible rfl
  case r37 =>
  try simp only [Act.put, List.setIfInBounds_toArray, List.set_cons_zero, List.set_cons_succ]
  refine wpAnyH_take (i := 38) (oi := ⟨some 102, Op.load 26 (Operand.tmp 7), 26, _, _, some (37, true)⟩) (v := ?v38) rfl (by kernel_rfl) (by kernel_rfl) (by kernel_rfl) (fun _ _ _ h => h) (Or.inl ⟨by rfl, ?y38⟩) (by assumption) ?r38
  case y38 =>
    intro W hSw
    try dsimp only at hSw
    go_simp
    try with_reducible rfl
  case r38 =>
  try simp only [Act.put, List.setIfInBounds_toArray, List.set_cons_zero, List.set_cons_succ]
  refine wpAnyH_take (i := 40) (oi := ⟨some 104, Op.move (Operand.tmp 4), 22, _, _, some (37, true)⟩) (v := ?v40) rfl (by kernel_rfl) (by kernel_rfl) (by kernel_rfl) (fun _ _ _ h => h) (Or.inl ⟨by rfl, ?y40⟩) (by assumption) ?r40
  case y40 =>
    intro W hSw
    try dsimp only at hSw
    go_simp
    try with_reducible rfl
  case r40 =>
  try simp only [Act.put, List.setIfInBounds_toArray, List.set_cons_zero, List.set_cons_succ]
  refine wpAnyH_ready (rs := [39]) (by kernel_rfl) (by simp) ?_
  refine AllReadyH.cons rfl (fun K hK => ?_) AllReadyH.nil
  go_simp
  refine (h3s_any _).mono ?_
  rintro e w10 ⟨v10, rfl, hv10, b10⟩
  have hb10 : Below w8.heap.size w8 w10 := hb9.trans (b10.mono hb9.size)
  obtain ⟨o3, o4, hix3, hat3⟩ := hv10.atF HQ2.out
  have hc9 : w10.cell? ⟨o1, o2, none⟩ = w9.cell? ⟨o1, o2, none⟩ ∧ w10.cell? ⟨o1, o2 + 1, none⟩ = w9.cell? ⟨o1, o2 + 1, none⟩ := ⟨b10.cell (World.block_lt_of_cell? w9 ⟨o1, o2, none⟩ hT9.2.2.2.2.1), b10.cell (World.block_lt_of_cell? w9 ⟨o1, o2 + 1, none⟩ hT9.2.2.2.2.2)⟩
  have hS10 : w10.cell? ⟨w2.heap.size, 0, none⟩ = some (.string f1) ∧ w10.cell? ⟨w2.heap.size, 1, none⟩ = some (.string f2) ∧ w10.cell? ⟨w3.heap.size, 0, none⟩ = some (.string g1) ∧ w10.cell? ⟨w3.heap.size, 1, none⟩ = some (.string g2) ∧ w10.cell? ⟨o1, o2, none⟩ = some (.string f1) ∧ w10.cell? ⟨o1, o2 + 1, none⟩ = some (.string f2) := ⟨(HF7.out.keep hb10).cells.1, (HF7.out.keep hb10).cells.2, (HG7.out.keep hb10).cells.1, (HG7.out.keep hb10).cells.2, hc9.1.trans hT9.2.2.2.2.1, hc9.2.trans hT9.2.2.2.2.2⟩
  have hT10 : w10.cell? ⟨w2.heap.size, 0, none⟩ = some (.string f1) ∧ w10.cell? ⟨w2.heap.size, 1, none⟩ = some (.string f2) ∧ w10.cell? ⟨w3.heap.size, 0, none⟩ = some (.string g1) ∧ w10.cell? ⟨w3.heap.size, 1, none⟩ = some (.string g2) ∧ w10.cell? ⟨o3, o4, none⟩ = some (.string g1) ∧ w10.cell? ⟨o3, o4 + 1, none⟩ = some (.string g2) := ⟨hS10.1, hS10.2.1, hS10.2.2.1, hS10.2.2.2.1, (hat3 _ hv10).1, (hat3 _ hv10).2⟩
  refine hK.out _ _ hS10 (fun _ => ?_)
  refine wpAnyH_sub (S := fun W => (W.cell? ⟨w2.heap.size, 0, none⟩ = some (.string f1) ∧ W.cell? ⟨w2.heap.size, 1, none⟩ = some (.string f2) ∧ W.cell? ⟨w3.heap.size, 0, none⟩ = some (.string g1) ∧ W.cell? ⟨w3.heap.size, 1, none⟩ = some (.string g2) ∧ W.cell? ⟨o1, o2, none⟩ = some (.string f1) ∧ W.cell? ⟨o1, o2 + 1, none⟩ = some (.string f2)) ∧ W.cell? ⟨o3, o4, none⟩ = some (.string g1) ∧ W.cell? ⟨o3, o4 + 1, none⟩ = some (.string g2)) (fun W h => h.1) _ _ _ _ ?_
  have hU10 : (w10.cell? ⟨w2.heap.size, 0, none⟩ = some (.string f1) ∧ w10.cell? ⟨w2.heap.size, 1, none⟩ = some (.string f2) ∧ w10.cell? ⟨w3.heap.size, 0, none⟩ = some (.string g1) ∧ w10.cell? ⟨w3.heap.size, 1, none⟩ = some (.string g2) ∧ w10.cell? ⟨o1, o2, none⟩ = some (.string f1) ∧ w10.cell? ⟨o1, o2 + 1, none⟩ = some (.string f2)) ∧ w10.cell? ⟨o3, o4, none⟩ = some (.string g1) ∧ w10.cell? ⟨o3, o4 + 1, none⟩ = some (.string g2) := ⟨hS10, (hat3 _ hv10).1, (hat3 _ hv10).2⟩
  clear hK K hat3 hT9 hS10 hT10 hc9
  refine wpAnyH_take (i := 41) (oi := ⟨some 105, Op.indexAddr 30 (Operand.tmp 103) (Operand.tmp 104), 0, _, _, some (37, true)⟩) (v := ?v41) rfl (by kernel_rfl) (by kernel_rfl) (by kernel_rfl) (fun _ _ _ h => h) (Or.inl ⟨by rfl, ?y41⟩) (by assumption) ?r41
  case y41 =>
    intro W hSw
    try dsimp only at hSw
    go_simp
    try with_reducible rfl
  case r41 =>
  try simp only [Act.put, List.setIfInBounds_toArray, List.set_cons_zero, List.set_cons_succ]
  refine wpAnyH_take (i := 42) (oi := ⟨some 106, Op.load 26 (Operand.tmp 105), 26, _, _, some (37, true)⟩) (v := ?v42) rfl (by kernel_rfl) (by kernel_rfl) (by kernel_rfl) (fun _ _ _ h => h) (Or.inl ⟨by rfl, ?y42⟩) (by assumption) ?r42
  case y42 =>
    intro W hSw
    try dsimp only at hSw
    go_simp
    try with_reducible rfl
  case r42 =>
  try simp only [Act.put, List.setIfInBounds_toArray, List.set_cons_zero, List.set_cons_succ]
  refine wpAnyH_take (i := 43) (oi := ⟨some 107, Op.binOp BinOp.eql 26 (Operand.tmp 102) (Operand.tmp 106) 26, 4, _, _, some (37, true)⟩) (v := ?v43) rfl (by kernel_rfl) (by kernel_rfl) (by kernel_rfl) (fun _ _ _ h => h) (Or.inl ⟨by rfl, ?y43⟩) (by assumption) ?r43
  case y43 =>
    intro W hSw
    try dsimp only at hSw
    go_simp
    try with_reducible rfl
  case r43 =>
  try simp only [Act.put, List.setIfInBounds_toArray, List.set_cons_zero, List.set_cons_succ]
  refine wpAnyH_take (i := 44) (oi := ⟨some 108, Op.pick (Operand.tmp 101) (Operand.tmp 107) (Operand.const (Value.bool false)), 4, _, _, none⟩) (v := ?v44) rfl (by kernel_rfl) (by kernel_rfl) (by kernel_rfl) (fun _ _ _ h => h) (Or.inl ⟨by rfl, ?y44⟩) (by assumption) ?r44
  case y44 =>
    intro W hSw
    try dsimp only at hSw
    go_simp
    try with_reducible rfl
  case r44 =>
  try simp only [Act.put, List.setIfInBounds_toArray, List.set_cons_zero, List.set_cons_succ]
  refine wpAnyH_take (i := 45) (oi := ⟨some 2, Op.assign (Operand.tmp 108), 4, _, _, none⟩) (v := ?v45) rfl (by kernel_rfl) (by kernel_rfl) (by kernel_rfl) (fun _ _ _ h => h) (Or.inl ⟨by rfl, ?y45⟩) (by assumption) ?r45
  case y45 =>
    intro W hSw
    try dsimp only at hSw
    go_simp
    try with_reducible rfl
  case r45 =>
  try simp only [Act.put, List.setIfInBounds_toArray, List.set_cons_zero, List.set_cons_succ]
  refine wpAnyH_done (by kernel_rfl) ?_ _
  all_goals go_wp2
  all_goals go_ret
  all_goals exact ⟨rfl, HB7.out.trans (hb10.mono HB7.out.size)⟩

end Go.Proofs.Ytnmjnolfoaengaa
