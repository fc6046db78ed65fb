/-
  bifoldlaw16.BlockMixed answers true, whatever its arguments: the walk (written by mkbm.py).
-/
import Derived.Test.YtenoaljghbpaaaaBkK
import Derived.Test.YtenoaljghbpaaaaBkU
namespace Go.Proofs.Ytenoaljghbpaaaa
open Go.RowKit
set_option linter.unusedVariables false
set_option linter.unusedSimpArgs false

theorem BkAt.keep {w w' : World} {g B M : Nat} {st : Int} {en : Bool} {b : List UInt8} {p i : Nat} {v : Value} (h : BkAt w g B M st en b p i v) (hb : Below w.heap.size w w') : BkAt w' g B M st en b p i v := by
  unfold BkAt at *
  split at h
  · rename_i hi
    rw [if_pos hi]
    obtain ⟨wh, st0, en0, D, hk, hD⟩ := h
    exact ⟨wh, st0, en0, D, hk.keep hb, hD⟩
  · rename_i hi
    rw [if_neg hi]
    exact ⟨h.1.keep hb, h.2⟩
theorem blockMixed_great (T S Q : Int) (bV : Value) (b : List UInt8) (w : World) (hv : Bs w bV b) (hg : 100 < b.length) :
    Calls Try.prog 20 #[.int .u8 T, .int .u32 S, .int .u8 Q, bV] w fun e w' => e = .returned (.bool true) ∧ Below w.heap.size w w' := by
  have HK := Bx.mk (known16_any w)
  have hlenb := fun tr W => hv.run_len tr W
  obtain ⟨n, hn⟩ : ∃ n, b.length = n := ⟨_, rfl⟩
  rw [hn] at hlenb hg
  have hd : decide ((100 : Int) < (n : Int)) = true := decide_eq_true (by omega)
  have hd' : decide (100 < n) = true := decide_eq_true (by omega)
  clear hv hg hn
  go_enter Try.func20, Try.ntmps20
  go_wp2_with (go_at_call 64; refine HK.out.mono ?_; rintro e w1 ⟨rfl, b1⟩; have HB1 := Bx.mk b1; clear b1)
  go_ret
  exact ⟨rfl, HB1.out⟩
set_option maxRecDepth 100000 in
set_option maxHeartbeats 8000000 in
theorem blockMixed_small (T S Q TI SI QI Q1 D P1 : Int) (n p : Nat) (bV : Value) (b : List UInt8) (w : World) (hv : Bs w bV b) (hn : b.length = n) (hn1 : n ≤ 100) (hT : T.tmod 11 = TI) (hS : S.tmod 9 = SI)
    (hQ : Q.tmod 4 = QI) (hQ1 : QI + 1 = Q1) (hq0 : 0 < Q1) (hq4 : Q1 ≤ 4) (hD : (n : Int).tdiv Q1 = D) (hP : D + 1 = P1) (hp : P1 = (p : Int)) (hp1 : 1 ≤ p) (hp2 : p ≤ 101) :
    Calls Try.prog 20 #[.int .u8 T, .int .u32 S, .int .u8 Q, bV] w fun e w' => e = .returned (.bool true) ∧ Below w.heap.size w w' := by
  have HK := Bx.mk (known16_any w)
  have hlenb := fun tr W => hv.run_len tr W
  rw [hn] at hlenb
  have hd : decide ((100 : Int) < (n : Int)) = false := decide_eq_false (by omega)
  have hd' : decide (100 < n) = false := decide_eq_false (by omega)
  obtain ⟨X, hX⟩ : ∃ X, (120 : UInt8) :: b = X := ⟨_, rfl⟩
  have HXE := Bx.mk hX
  have HXL : Bx (X.length = n + 1) := ⟨by rw [← hX, List.length_cons, hn]⟩
  have HV := Bx.mk hv
  have HN := Bx.mk (And.intro hn (And.intro hn1 (And.intro hp1 hp2)))
  have hw1 : IntKind.u8.wrap Q1 = Q1 := by rw [IntKind.wrap_u8]; omega
  have hw2 : IntKind.i64.wrap Q1 = Q1 := by rw [IntKind.wrap_i64]; omega
  have hz : (Q1 == 0) = false := by rw [beq_eq_false_iff_ne]; omega
  have hz2 : ¬ Q1 = 0 := by omega
  have hw3 : wrap64 P1 = P1 := by unfold wrap64; omega
  have hw4 : IntKind.i64.wrap P1 = P1 := by rw [IntKind.wrap_i64]; omega
  have hw5 : IntKind.i64.wrap D = D := by rw [IntKind.wrap_i64]; omega
  have hw6 : wrap64 D = D := by unfold wrap64; omega
  have HSPL : Bx (∀ (v : Value) (W : World), Bs W v X → Calls Try.prog 72 #[.int .u32 7, .bool false, v, .int .i64 P1] W (SplitPost W 7 false p X)) := ⟨fun v W h => refSplit_any 7 7 rfl false p hp1 (by omega) P1 hp v X W h (by rw [HXL.out]; omega)⟩
  have HNEW : Bx (∀ W : World, Calls Try.prog 65 #[.int .i64 200] W fun e w' => e = .returned (.pointer (some ⟨W.heap.size, 0, none⟩)) ∧ (∀ B, Bk w' W.heap.size B 200 false false 0 false nilV []) ∧ Below W.heap.size W w' ∧ w'.heap.size = W.heap.size + 1) := ⟨fun W => bkNew_any 200 (by omega) W⟩
  have hmk : ∀ W : World, (Instr.makeSlice 22 (.int .i64 8) (.int .i64 8)).run Try.prog W = .ok (.slice (some ⟨W.heap.size, 0, none⟩) 8 8) (W.alloc (.cells (madeCells #[.int .u8 0] 8) 5)) := fun W => make_u8B 8 (by omega) W
  have kc : ∀ W : World, (convert 22 22 (.slice (some ⟨W.heap.size, 0, none⟩) 1 1)).run Try.prog (W.alloc (.cells #[.int .u8 120] 5)) = .ok (.slice (some ⟨W.heap.size, 0, none⟩) 1 1) (W.alloc (.cells #[.int .u8 120] 5 (1, 2))) := fun W => Lib.run_convert_bytes_const W 22 5 #[.int .u8 120] 1 1 Try.underlying22 Try.underlying5
  clear hv hn hn1 hX hp hp1 hp2 hq0 hq4
  go_enter Try.func20, Try.ntmps20
  go_upto_region 5 with (go_at_call 64; refine HK.out.mono ?_; rintro e w1 ⟨rfl, b1⟩; have HB1 := Bx.mk b1; clear b1)
  have HV1 := Bx.mk (HV.out.keep HB1.out)
  have hS0 : Below w1.heap.size w1 (w1.alloc (.cells #[.int .u8 120] 5)).drew := ((Below.refl w1.heap.size w1).alloc (Nat.le_refl _) _).drew
  have hS1 : Below w1.heap.size w1 (w1.alloc (.cells #[.int .u8 120] 5 (1, 2))).drew := ((Below.refl w1.heap.size w1).alloc (Nat.le_refl _) _).drew
  have kc1 : (convert 22 22 (.slice (some ⟨w1.heap.size, 0, none⟩) 1 1)).run Try.prog (w1.alloc (.cells #[.int .u8 120] 5)).drew = .ok (.slice (some ⟨w1.heap.size, 0, none⟩) 1 1) (w1.alloc (.cells #[.int .u8 120] 5 (1, 2))).drew := kc w1.drew
  have hrd : Bs (w1.alloc (.cells #[.int .u8 120] 5 (1, 2))).drew (.slice (some ⟨w1.heap.size, 0, none⟩) 1 1) [120] := Rd.keep (show Bs (w1.alloc (.cells #[.int .u8 120] 5 (1, 2))) (.slice (some ⟨w1.heap.size, 0, none⟩) 1 1) [120] from Rd.mark w1 5 (1, 2) _ 1 rfl (by unfold maxLen; omega)) (Below.refl _ _).drew
  obtain ⟨i0, hi, hz0, hz1, hz3⟩ := info_parts infoU8a
  obtain ⟨v3, w3, hrun, ha3, hb3⟩ := run_append_ap (P := Try.prog) (w1.alloc (.cells #[.int .u8 120] 5 (1, 2))).drew (w1.alloc (.cells #[.int .u8 120] 5 (1, 2))).drew.heap.size 22 22 5 i0 (.int .u8 0) 1 Try.underlying22 hi hz0 hz1 hz3 rfl (.slice (some ⟨w1.heap.size, 0, none⟩) 1 1) bV ([120].map bv) (b.map bv) (.inr ⟨⟨_, rfl⟩, hrd⟩) (HV1.out.keep hS1) one_bv (by have := HN.out; simp; omega) (by have := HN.out; simp [maxLen]; omega) (Nat.le_refl _)
  have HX3 : Bx (Bs w3 v3 X) := ⟨by
    have h := ha3.rd
    rw [← List.map_append] at h
    rw [← HXE.out]
    exact h⟩
  have hS3 : Below w1.heap.size w1 w3 := hS1.trans (hb3.mono hS1.size)
  clear ha3 hb3 hi hz0 hz1 hz3 hrd
  refine wp_region_x 13 (fun W => Below w1.heap.size w1 W) (by kernel_rfl) ((Below.refl _ _).drew) (fun hHeld => ?_)
  refine wpAnyX_take0 (i := 2) (oi := ⟨some 30, Op.move (Operand.tmp 3), 22, _, _, none⟩) (v := ?v2) rfl (by omega) (by kernel_rfl) (by kernel_rfl) (by kernel_rfl) (fun _ _ _ h => h) (Or.inl ⟨by rfl, ?y2⟩) (by assumption) ?r2
  case y2 =>
    intro W hSw
    try dsimp only at hSw
    go_simp
    try with_reducible rfl
  case r2 =>
  try simp only [Act.put, List.setIfInBounds_toArray, List.set_cons_zero, List.set_cons_succ]
  refine wpAnyX_take0 (i := 4) (oi := ⟨some 32, Op.move (Operand.tmp 3), 22, _, _, none⟩) (v := ?v4) rfl (by omega) (by kernel_rfl) (by kernel_rfl) (by kernel_rfl) (fun _ _ _ h => h) (Or.inl ⟨by rfl, ?y4⟩) (by assumption) ?r4
  case y4 =>
    intro W hSw
    try dsimp only at hSw
    go_simp
    try with_reducible rfl
  case r4 =>
  try simp only [Act.put, List.setIfInBounds_toArray, List.set_cons_zero, List.set_cons_succ]
  refine wpAnyX_take (i := 5) (oi := ⟨some 33, Op.call { callee := Callee.builtin Builtin.len, args := #[Operand.tmp 32], argTypes := #[22] }, 3, _, _, none⟩) (v := ?v5) rfl (by omega) (by kernel_rfl) (by kernel_rfl) (by kernel_rfl) (by kernel_rfl) (by kernel_rfl) (fun _ _ _ h => h) (Or.inl ⟨by rfl, ?y5⟩) (by assumption) ?r5
  case y5 =>
    intro W hSw
    try dsimp only at hSw
    go_simp
    try with_reducible rfl
  case r5 =>
  try simp only [Act.put, List.setIfInBounds_toArray, List.set_cons_zero, List.set_cons_succ]
  refine wpAnyX_take0 (i := 6) (oi := ⟨some 34, Op.move (Operand.tmp 2), 5, _, _, none⟩) (v := ?v6) rfl (by omega) (by kernel_rfl) (by kernel_rfl) (by kernel_rfl) (fun _ _ _ h => h) (Or.inl ⟨by rfl, ?y6⟩) (by assumption) ?r6
  case y6 =>
    intro W hSw
    try dsimp only at hSw
    go_simp
    try with_reducible rfl
  case r6 =>
  try simp only [Act.put, List.setIfInBounds_toArray, List.set_cons_zero, List.set_cons_succ]
  refine wpAnyX_take0 (i := 7) (oi := ⟨some 35, Op.binOp BinOp.rem 5 (Operand.tmp 34) (Operand.const (Value.int IntKind.u8 4)) 5, 5, _, _, none⟩) (v := ?v7) rfl (by omega) (by kernel_rfl) (by kernel_rfl) (by kernel_rfl) (fun _ _ _ h => h) (Or.inl ⟨by rfl, ?y7⟩) (by assumption) ?r7
  case y7 =>
    intro W hSw
    try dsimp only at hSw
    go_simp
    try with_reducible rfl
  case r7 =>
  try simp only [Act.put, List.setIfInBounds_toArray, List.set_cons_zero, List.set_cons_succ]
  refine wpAnyX_take0 (i := 8) (oi := ⟨some 36, Op.binOp BinOp.add 5 (Operand.tmp 35) (Operand.const (Value.int IntKind.u8 1)) 5, 5, _, _, none⟩) (v := ?v8) rfl (by omega) (by kernel_rfl) (by kernel_rfl) (by kernel_rfl) (fun _ _ _ h => h) (Or.inl ⟨by rfl, ?y8⟩) (by assumption) ?r8
  case y8 =>
    intro W hSw
    try dsimp only at hSw
    go_simp
    try with_reducible rfl
  case r8 =>
  try simp only [Act.put, List.setIfInBounds_toArray, List.set_cons_zero, List.set_cons_succ]
  refine wpAnyX_take (i := 9) (oi := ⟨some 37, Op.convert 5 3 (Operand.tmp 36), 3, _, _, none⟩) (v := ?v9) rfl (by omega) (by kernel_rfl) (by kernel_rfl) (by kernel_rfl) (by kernel_rfl) (by kernel_rfl) (fun _ _ _ h => h) (Or.inl ⟨by rfl, ?y9⟩) (by assumption) ?r9
  case y9 =>
    intro W hSw
    try dsimp only at hSw
    go_simp
    try with_reducible rfl
  case r9 =>
  try simp only [Act.put, List.setIfInBounds_toArray, List.set_cons_zero, List.set_cons_succ]
  refine wpAnyX_take0 (i := 10) (oi := ⟨some 38, Op.binOp BinOp.quo 3 (Operand.tmp 33) (Operand.tmp 37) 3, 3, _, _, none⟩) (v := ?v10) rfl (by omega) (by kernel_rfl) (by kernel_rfl) (by kernel_rfl) (fun _ _ _ h => h) (Or.inl ⟨by rfl, ?y10⟩) (by assumption) ?r10
  case y10 =>
    intro W hSw
    try dsimp only at hSw
    go_simp
    try with_reducible rfl
  case r10 =>
  try simp only [Act.put, List.setIfInBounds_toArray, List.set_cons_zero, List.set_cons_succ]
  refine wpAnyX_take0 (i := 11) (oi := ⟨some 39, Op.binOp BinOp.add 3 (Operand.tmp 38) (Operand.const (Value.int IntKind.i64 1)) 3, 3, _, _, none⟩) (v := ?v11) rfl (by omega) (by kernel_rfl) (by kernel_rfl) (by kernel_rfl) (fun _ _ _ h => h) (Or.inl ⟨by rfl, ?y11⟩) (by assumption) ?r11
  case y11 =>
    intro W hSw
    try dsimp only at hSw
    go_simp
    try with_reducible rfl
  case r11 =>
  try simp only [Act.put, List.setIfInBounds_toArray, List.set_cons_zero, List.set_cons_succ]
  refine wpAnyX_one (i := 0) (by kernel_rfl) rfl (fun K hK => ?_)
  go_simp
  refine hK _ _ (fun _ => hS0) ?_
  clear hK K
  try simp only [Act.put, List.setIfInBounds_toArray, List.set_cons_zero, List.set_cons_succ]
  refine wpAnyX_one (i := 1) (by kernel_rfl) rfl (fun K hK => ?_)
  go_simp
  refine hK _ _ (fun _ => hS1) ?_
  clear hK K
  try simp only [Act.put, List.setIfInBounds_toArray, List.set_cons_zero, List.set_cons_succ]
  refine wpAnyX_one (i := 3) (by kernel_rfl) rfl (fun K hK => ?_)
  refine step_append_run rfl (.tmp 29) (.tmp 30) 22 rfl _ _ rfl rfl hrun ?_
  refine hK _ _ (fun _ => hS3) ?_
  clear hK K
  try simp only [Act.put, List.setIfInBounds_toArray, List.set_cons_zero, List.set_cons_succ]
  refine wpAnyX_one (i := 12) (by kernel_rfl) rfl (fun K hK => ?_)
  go_simp
  go_at_call 72
  refine (HSPL.out _ _ HX3.out).mono ?_
  rintro e w4 ⟨v, l, rfl, ho, hsp, hl0, hl1, hl2, b4⟩
  have HO := Bx.mk ho
  have HSP := Bx.mk hsp
  have HL0 := Bx.mk hl0
  have HL1 := Bx.mk hl1
  have HL2 := Bx.mk hl2
  have hS4 : Below w1.heap.size w1 w4 := hS3.trans (b4.mono hS3.size)
  clear ho hsp hl0 hl1 hl2 b4
  refine hK _ _ (fun _ => hS4) ?_
  clear hK K
  try simp only [Act.put, List.setIfInBounds_toArray, List.set_cons_zero, List.set_cons_succ]
  refine wpAnyX_one (i := 13) (by kernel_rfl) rfl (fun K hK => ?_)
  go_simp
  refine hK _ _ (fun h => absurd h (by decide)) ?_
  clear hK K
  try simp only [Act.put, List.setIfInBounds_toArray, List.set_cons_zero, List.set_cons_succ]
  refine wpAnyX_done (by kernel_rfl) ?_ _
  clear kc kc1 hS0 hS1 hrun hHeld HX3 HSPL hz hz2 hw1 hw2 hw3 hw4 hw5 hw6 hD hP hQ hQ1 HV1
  have HB4 := Bx.mk (HB1.out.trans (hS4.mono HB1.out.size))
  obtain ⟨B0, hB0⟩ : ∃ B0, w3.heap.size = B0 := ⟨_, rfl⟩
  rw [hB0] at HO
  clear hB0 hS3 hS4
  go_upto_region 7 with (go_at_call 65; refine (HNEW.out _).mono ?_; rintro e w5 ⟨rfl, hbk, hb5, hs5⟩; have HBK5 := Bx.mk hbk; have HS5 := Bx.mk hs5; have HX5 := Bx.mk hb5; clear hbk hs5 hb5)
  go_upto_region 8 with fail
  obtain ⟨fv, hfv⟩ : ∃ fv, Value.slice (some ⟨w5.heap.size, 0, none⟩) 8 8 = fv := ⟨_, rfl⟩
  have HX6 : Bx (Below w4.heap.size w4 ((w5.alloc (.cells (madeCells #[.int .u8 0] 8) 5)).alloc (.cells (fraA TI 0 SI fv) 28))) := ⟨(HX5.out.alloc HX5.out.size _).alloc (by have := HX5.out.size; simp; omega) _⟩
  have HSF : Bx (Sb 28 ((w5.alloc (.cells (madeCells #[.int .u8 0] 8) 5)).alloc (.cells (fraA TI 0 SI fv) 28)) (w5.heap.size + 1) (fraA TI 0 SI fv)) := ⟨Sb.newg _ _ _ (by simp) _⟩
  have HBK6 : Bx (∀ B, Bk ((w5.alloc (.cells (madeCells #[.int .u8 0] 8) 5)).alloc (.cells (fraA TI 0 SI fv) 28)) w4.heap.size B 200 false false 0 false nilV []) := ⟨fun B => (HBK5.out B).keep (((Below.refl _ _).alloc (Nat.le_refl _) _).alloc (by simp) _)⟩
  have HSZ : Bx (((w5.alloc (.cells (madeCells #[.int .u8 0] 8) 5)).alloc (.cells (fraA TI 0 SI fv) 28)).heap.size = w5.heap.size + 2) := ⟨by simp⟩
  rw [hfv]
  obtain ⟨w6, hw6⟩ : ∃ W, (w5.alloc (.cells (madeCells #[.int .u8 0] 8) 5)).alloc (.cells (fraA TI 0 SI fv) 28) = W := ⟨_, rfl⟩
  rw [hw6] at HX6 HSF HBK6 HSZ ⊢
  obtain ⟨g, hg⟩ : ∃ g, w4.heap.size = g := ⟨_, rfl⟩
  obtain ⟨gf, hgf⟩ : ∃ g, w5.heap.size + 1 = g := ⟨_, rfl⟩
  obtain ⟨B, hB⟩ : ∃ B, w6.heap.size = B := ⟨_, rfl⟩
  have HS5b := HS5.out
  rw [hg] at HBK6 ⊢
  rw [hgf] at HSF ⊢
  have HGG : Bx (w4.heap.size = g ∧ g < gf ∧ gf < B ∧ w6.heap.size = B) := ⟨by have := HSZ.out; omega⟩
  have HF6 : Bx (Fp (Sg g B) w4 w6) := ⟨Fp.of_below HX6.out⟩
  have HBA6 : Bx (BkAt w6 g B 200 ((7 : Nat) : Int) false X p 0 nilV) := ⟨by
    unfold BkAt
    rw [if_pos rfl]
    exact ⟨_, _, _, _, HBK6.out B, by simp⟩⟩
  have HSTAY : Bx (∀ W, Fp (Sg g B) w4 W → OwF W B0 v l) := ⟨fun W hW => HO.out.stay hW (.inr (by have := HGG.out; omega)) (by have := HGG.out; omega)⟩
  have HSFS : Bx (∀ W, Fp (Sg g B) w6 W → Sb 28 W gf (fraA TI 0 SI fv)) := ⟨fun W hW => HSF.out.fp hW (by have := HGG.out; omega)⟩
  have HBELOW : Bx (∀ W, Fp (Sg g B) w6 W → Below w.heap.size w W) := ⟨fun W hW => HB4.out.trans ((HF6.out.then hW).below HB4.out.size fun k hk => by
    have h1 := HGG.out
    have h2 := HB4.out.size
    rcases hk with h | h <;> omega)⟩
  clear HNEW hmk hw6 hg hgf hB hfv HBK5 HX5 HS5 HS5b HSZ HX6 HBK6
  obtain ⟨m, hm⟩ : ∃ m, l.length = m := ⟨_, rfl⟩
  have HM := Bx.mk hm
  have hlenl : ∀ (tr : TypeId) (W : World), (Builtin.len_ #[23] tr #[v]).run Try.prog W = .ok (.int .i64 (m : Int)) W := fun tr W => by
    have h := frs_len HO.out.rows tr W
    rw [hm] at h
    exact h
  have HMM : Bx (m ≤ 100000) := ⟨by
    have h1 := HL2.out (m - 1)
    have h2 := HXL.out
    have h3 := HM.out
    have h4 := HN.out
    have h6 := Nat.mul_le_mul_left (m - 1) h4.2.2.1
    by_cases h : m ≤ 1
    · omega
    · have h5 := h1 (by omega) (by omega)
      omega⟩
  clear hm
  go_upto_region 9 with fail
  go_loopg [12] m (fun gg s12 wx => ∃ (i : Nat), i + gg = m ∧ s12 = .int .i64 i ∧ Bx (B ≤ wx.heap.size) ∧ Bx (Fp (Sg g B) w6 wx) ∧ Bx (∃ u, BkAt wx g B 200 ((7 : Nat) : Int) false X p i u))
  case atStart => exact ⟨0, by omega, rfl, ⟨by have := HGG.out; omega⟩, ⟨Fp.refl _ _⟩, ⟨⟨_, HBA6.out⟩⟩⟩
  case round =>
    obtain ⟨i, hig, rfl, HBW, HF, HR⟩ := hrel
    cases gk with
    | zero =>
      obtain rfl : i = m := by omega
      have hkd : decide ((i : Int) < (i : Int)) = false := by simp
      have hkd' : decide (i < i) = false := by simp
      obtain ⟨u, hk⟩ := HR.out
      have HBK : Bx (Bk wr g B 200 false true 7 false u X) := ⟨by
        unfold BkAt at hk
        have h1 := HL0.out
        have h2 := HL1.out
        have h3 := HM.out
        rw [h3] at h2
        rw [if_neg (by omega), decide_eq_true h2, List.take_of_length_le h2] at hk
        exact hk.1⟩
      clear hk hig
      go_upto_region 19 with (go_at_call 69; refine (bkTake_whole HBK.out).mono ?_; rintro e w7 ⟨rfl, hv7, hk7, hf7⟩; have HV7 := Bx.mk hv7; have HK7 := Bx.mk (hk7 B); have HF7 := Bx.mk (HF.out.then (hf7.mono fun k h => .inl h)); clear hv7 hk7 hf7)
      have hc1 := conv_str HV7.out
      have hc2 := conv_str (HV.out.keep (HBELOW.out _ HF7.out))
      have hsz : ¬ 9223372036854775807 < 1 + (bstr b).size := by rw [show (bstr b).size = b.length from by simp [bstr, ByteArray.size]]; have := HN.out; omega
      have hse : (bstr X).toList = ((⟨#[120]⟩ : ByteArray) ++ bstr b).toList := by rw [← HXE.out, Lib.toList_data, Lib.toList_data]; simp [bstr, ByteArray.data_append]
      go_upto_region 21 with (go_at_call 68; refine (bkOpen_any HK7.out).mono ?_; rintro e w8 ⟨rfl, hw8⟩; subst hw8)
      go_wp2_with (go_at_call 69; refine (bkTake_none HK7.out).mono ?_; rintro e w9 ⟨rfl, hw9⟩; subst hw9)
      go_ret
      exact ⟨rfl, HBELOW.out _ HF7.out⟩
    | succ gg =>
      have hkd : decide ((i : Int) < (m : Int)) = true := decide_eq_true (by omega)
      have hkd' : decide (i < m) = true := decide_eq_true (by omega)
      have HWI : Bx (wrap64 ((i : Int) + 1) = ((i + 1 : Nat) : Int)) := ⟨by have := HMM.out; unfold wrap64; omega⟩
      have HIG := Bx.mk hig
      obtain ⟨FT, FF, FS, raw, bk, o, hix0, hcs, hadd⟩ := split_at HO.out i (by rw [HM.out]; omega)
      have hix := hix0 .i64
      have HCS := Bx.mk hcs
      have HADD : Bx (∀ W u, Fp (Sg g B) w6 W → BkAt W g B 200 ((7 : Nat) : Int) false X p i u → B ≤ W.heap.size → Calls Try.prog 66 #[.pointer (some ⟨g, 0, none⟩), .agg (fraA FT FF FS raw)] W fun e w' => e = .returned (.tuple #[.bool (decide (X.length ≤ (i + 1) * p)), .int .i64 0]) ∧ (∃ v', BkAt w' g B 200 ((7 : Nat) : Int) false X p (i + 1) v') ∧ Fp (Sg g B) W w') := ⟨fun W u h1 h2 h3 => (hadd W g B 200 7 false X p u (HSTAY.out W (HF6.out.then h1)) h2 h3 (by omega) (by have := HXL.out; have := HN.out; omega) HSP.out HL2.out (by omega) (by omega)).mono (by
        rintro e w' (⟨he, _, hk, hf⟩ | ⟨_, hlt, _⟩)
        · exact ⟨he, hk, hf⟩
        · rw [List.length_take] at hlt; have := HXL.out; have := HN.out; omega)⟩
      obtain ⟨zz, hzz⟩ : ∃ z, decide (X.length ≤ (i + 1) * p) = z := ⟨_, rfl⟩
      rw [hzz] at HADD
      have HCW : Bx (∀ W, Fp (Sg g B) w6 W → W.cell? ⟨bk, o, none⟩ = some (.int .u8 FT) ∧ W.cell? ⟨bk, o + 1, none⟩ = some (.int .u8 FF) ∧ W.cell? ⟨bk, o + 2, none⟩ = some (.int .u32 FS) ∧ W.cell? ⟨bk, o + 3, none⟩ = some raw) := ⟨fun W h => HCS.out W (HSTAY.out W (HF6.out.then h))⟩
      obtain ⟨u, hk⟩ := HR.out
      have HKA := Bx.mk hk
      clear hix0 hcs hadd HCS hzz hk
      by_cases hi0 : i = 0
      · have hop : ∃ wh st0 en0 D, Bk wr g B 200 false wh st0 en0 u D := by
          have hk := HKA.out
          unfold BkAt at hk
          rw [if_pos hi0] at hk
          obtain ⟨wh, st0, en0, D, h, _⟩ := hk
          exact ⟨wh, st0, en0, D, h⟩
        obtain ⟨wh, st0, en0, D0, hop⟩ := hop
        have HOP := Bx.mk hop
        obtain ⟨x0, x1, x2, x3⟩ := HCW.out wr HF.out
        clear hop hig hi0
        go_upto_region 15 with (go_at_call 68; refine (bkOpen_any HOP.out).mono ?_; rintro e w8 ⟨rfl, hw8⟩; subst hw8)
        go_wp2_with (first
          | (go_at_call 66; refine (HADD.out _ _ HF.out HKA.out HBW.out).mono ?_; rintro e w9 ⟨rfl, hk9, hf9⟩; have HK9 := Bx.mk hk9; have HF9 := Bx.mk (HF.out.then hf9); have HB9 : Bx (B ≤ w9.heap.size) := ⟨Nat.le_trans HBW.out hf9.size⟩; clear hk9 hf9))
        go_roundg gg
        case measure => omega
        case rel => exact ⟨i + 1, by have := HIG.out; omega, by rw [HWI.out], HB9, HF9, HK9⟩
      · have hop : Bk wr g B 200 true false 7 false u (X.take (i * p)) := by
          have hk := HKA.out
          unfold BkAt at hk
          rw [if_neg hi0, decide_eq_false (by have := HL2.out i (by omega) (by rw [HM.out]; omega); omega)] at hk
          exact hk.1
        have HOP := Bx.mk hop
        have HSFr := Bx.mk (HSFS.out wr HF.out)
        have y0 : wr.cell? ⟨gf, 0, none⟩ = some (.int .u8 TI) := HSFr.out.cell 0
        have y2 : wr.cell? ⟨gf, 2, none⟩ = some (.int .u32 SI) := HSFr.out.cell 2
        have y1 : wr.cell? ⟨gf, 1, none⟩ = some (.int .u8 0) := HSFr.out.cell 1
        have y3 : wr.cell? ⟨gf, 3, none⟩ = some fv := HSFr.out.cell 3
        clear hop hig hi0
        by_cases hno : TI = 9 ∧ SI = 7
        · have ht : (TI != 9) = false := by rw [hno.1]; rfl
          have hs : (SI != 7) = false := by rw [hno.2]; rfl
          obtain ⟨x0, x1, x2, x3⟩ := HCW.out wr HF.out
          have HNO := Bx.mk hno
          clear hno
          go_upto_region 15 with (go_at_call 68; refine (bkOpen_any HOP.out).mono ?_; rintro e w8 ⟨rfl, hw8⟩; subst hw8)
          go_wp2_with (first
            | (go_at_call 66; refine (HADD.out _ _ HF.out HKA.out HBW.out).mono ?_; rintro e w9 ⟨rfl, hk9, hf9⟩; have HK9 := Bx.mk hk9; have HF9 := Bx.mk (HF.out.then hf9); have HB9 : Bx (B ≤ w9.heap.size) := ⟨Nat.le_trans HBW.out hf9.size⟩; clear hk9 hf9))
          go_roundg gg
          case measure => omega
          case rel => exact ⟨i + 1, by have := HIG.out; omega, by rw [HWI.out], HB9, HF9, HK9⟩
        · have hts : (TI != 9) = true ∨ (TI != 9) = false ∧ (SI != 7) = true := by
            by_cases h : TI = 9
            · right
              rw [h]
              exact ⟨rfl, by rw [bne_iff_ne]; exact fun h2 => hno ⟨h, h2⟩⟩
            · left
              rw [bne_iff_ne]
              exact h
          have HOR := Bx.mk (bkAdd_order HOP.out TI 0 SI fv (by by_cases h : TI = 9; exact .inr (fun h2 => hno ⟨h, h2⟩); exact .inl h))
          clear hno
          rcases hts with ht | ⟨ht, hs⟩
          · go_upto_region 13 with (first
              | (go_at_call 68; refine (bkOpen_any HOP.out).mono ?_; rintro e w8 ⟨rfl, hw8⟩; subst hw8)
              | (go_at_call 66; refine HOR.out.mono ?_; rintro e w7 ⟨rfl, hb7⟩; have HB7 := Bx.mk hb7; clear hb7))
            have HOP7 := Bx.mk (HOP.out.keep HB7.out)
            have HF8 : Bx (Fp (Sg g B) w6 w7) := ⟨HF.out.then (Fp.of_below HB7.out)⟩
            have HBW8 : Bx (B ≤ w7.heap.size) := ⟨Nat.le_trans HBW.out HB7.out.size⟩
            have HKA8 : Bx (BkAt w7 g B 200 ((7 : Nat) : Int) false X p i u) := ⟨BkAt.keep HKA.out HB7.out⟩
            clear y0 y1 y2 y3
            obtain ⟨x0, x1, x2, x3⟩ := HCW.out w7 HF8.out
            go_upto_region 15 with (go_at_call 68; refine (bkOpen_any HOP7.out).mono ?_; rintro e w8 ⟨rfl, hw8⟩; subst hw8)
            go_wp2_with (first
              | (go_at_call 66; refine (HADD.out _ _ HF8.out HKA8.out HBW8.out).mono ?_; rintro e w9 ⟨rfl, hk9, hf9⟩; have HK9 := Bx.mk hk9; have HF9 := Bx.mk (HF8.out.then hf9); have HB9 : Bx (B ≤ w9.heap.size) := ⟨Nat.le_trans HBW8.out hf9.size⟩; clear hk9 hf9))
            go_roundg gg
            case measure => omega
            case rel => exact ⟨i + 1, by have := HIG.out; omega, by rw [HWI.out], HB9, HF9, HK9⟩
          · go_upto_region 13 with (first
              | (go_at_call 68; refine (bkOpen_any HOP.out).mono ?_; rintro e w8 ⟨rfl, hw8⟩; subst hw8)
              | (go_at_call 66; refine HOR.out.mono ?_; rintro e w7 ⟨rfl, hb7⟩; have HB7 := Bx.mk hb7; clear hb7))
            have HOP7 := Bx.mk (HOP.out.keep HB7.out)
            have HF8 : Bx (Fp (Sg g B) w6 w7) := ⟨HF.out.then (Fp.of_below HB7.out)⟩
            have HBW8 : Bx (B ≤ w7.heap.size) := ⟨Nat.le_trans HBW.out HB7.out.size⟩
            have HKA8 : Bx (BkAt w7 g B 200 ((7 : Nat) : Int) false X p i u) := ⟨BkAt.keep HKA.out HB7.out⟩
            clear y0 y1 y2 y3
            obtain ⟨x0, x1, x2, x3⟩ := HCW.out w7 HF8.out
            go_upto_region 15 with (go_at_call 68; refine (bkOpen_any HOP7.out).mono ?_; rintro e w8 ⟨rfl, hw8⟩; subst hw8)
            go_wp2_with (first
              | (go_at_call 66; refine (HADD.out _ _ HF8.out HKA8.out HBW8.out).mono ?_; rintro e w9 ⟨rfl, hk9, hf9⟩; have HK9 := Bx.mk hk9; have HF9 := Bx.mk (HF8.out.then hf9); have HB9 : Bx (B ≤ w9.heap.size) := ⟨Nat.le_trans HBW8.out hf9.size⟩; clear hk9 hf9))
            go_roundg gg
            case measure => omega
            case rel => exact ⟨i + 1, by have := HIG.out; omega, by rw [HWI.out], HB9, HF9, HK9⟩
theorem blockMixed_walk (T S Q : Int) (hT : (Lit.int .u8 T).wf = true) (hS : (Lit.int .u32 S).wf = true) (hQ : (Lit.int .u8 Q).wf = true) (bV : Value) (b : List UInt8) (w : World) (hv : Bs w bV b) :
    Calls Try.prog 20 #[.int .u8 T, .int .u32 S, .int .u8 Q, bV] w fun e w' => e = .returned (.bool true) ∧ Below w.heap.size w w' := by
  by_cases hg : 100 < b.length
  · exact blockMixed_great T S Q bV b w hv hg
  have hQ2 : 0 ≤ Q ∧ Q < 256 := by
    have h0 : IntKind.u8.min ≤ Q ∧ Q ≤ IntKind.u8.max := by simpa [Lit.wf] using hQ
    have h1 : IntKind.u8.min = 0 := rfl
    have h2 : IntKind.u8.max = 255 := rfl
    omega
  obtain ⟨q, rfl⟩ := Int.eq_ofNat_of_zero_le hQ2.1
  have hdv : b.length / (q % 4 + 1) ≤ 100 := Nat.le_trans (Nat.div_le_self _ _) (by omega)
  exact blockMixed_small T S (q : Int) _ _ ((q % 4 : Nat) : Int) ((q % 4 + 1 : Nat) : Int) ((b.length / (q % 4 + 1) : Nat) : Int) ((b.length / (q % 4 + 1) + 1 : Nat) : Int) b.length (b.length / (q % 4 + 1) + 1) bV b w hv rfl (by omega) rfl rfl
    (Int.ofNat_tmod q 4).symm rfl (by omega) (by omega) rfl rfl rfl (Nat.le_add_left 1 _) (Nat.succ_le_succ hdv)
end Go.Proofs.Ytenoaljghbpaaaa
