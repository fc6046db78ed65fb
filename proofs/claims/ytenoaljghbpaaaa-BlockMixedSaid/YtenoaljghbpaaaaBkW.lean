/-
  Blocks: the program's begin, Take and Add (written by mkbkw.py).
-/
import Derived.Test.YtenoaljghbpaaaaBkV
import Derived.Test.YtenoaljghbpaaaaSbS
import Derived.Test.YtenoaljghbpaaaaDnStep
namespace Go.Proofs.Ytenoaljghbpaaaa
open Go.RowKit
set_option linter.unusedVariables false
set_option linter.unusedSimpArgs false

section
variable {ops : Array Oper} {Q : Exit → Act → World → Prop} {a : Act} {w : World} {rest : List Oper}
/-- A store of a whole block. -/
theorem wpList_storeBk {x y : Operand} {tr : TypeId} {pos : String} {af : Array Edge} (g : Nat) (old : Array Value) (M : Int) (op wh : Bool) (st : Int) (en : Bool) (A1 : Option Addr) (n1 c1 : Nat)
    (hx : a.eval x = .pointer (some ⟨g, 0, none⟩)) (hy : a.eval y = .agg (bkA M op wh st en (.slice A1 n1 c1))) (hs : Sb 148 w g old) (ho : old.size = 6)
    (h : ∀ w2, Sb 148 w2 g (bkA M op wh st en (.slice A1 n1 c1)) → w.grownBy w2 (some g) → wpList Try.prog ops Q rest (a.put none undef) w2) :
    wpList Try.prog ops Q (⟨none, .store 148 x y, tr, pos, af, none⟩ :: rest) a w :=
  wpList_storeS 148 g old (bkA M op wh st en (.slice A1 n1 c1)) hx hy hs bk_size ho (by simp [bkA, Value.oneCell']) h
theorem wpList_loadBk {x : Operand} {d : Option Tmp} {tr : TypeId} {pos : String} {af : Array Edge} (g : Nat) (M : Int) (op wh : Bool) (st : Int) (en : Bool) (v : Value)
    (hx : a.eval x = .pointer (some ⟨g, 0, none⟩)) (hs : Sb 148 w g (bkA M op wh st en v))
    (h : wpList Try.prog ops Q rest (a.put d (.agg (bkA M op wh st en v))) w) : wpList Try.prog ops Q (⟨d, .load 148 x, tr, pos, af, none⟩ :: rest) a w :=
  wpList_loadS 148 g (bkA M op wh st en v) _ hx hs Try.underlying148 rfl bk_size h
end
section
variable {w : World} {g B : Nat} {M : Nat} {op wh : Bool} {st : Int} {en : Bool} {v : Value} {D : List UInt8}
set_option maxRecDepth 100000 in
set_option maxHeartbeats 4000000 in
theorem bkBegin_any (h : Bk w g B M op wh st en v D) (T F S : Int) (fv : Value) (z : Bool) (hz : (bits .and .u8 F 1 != 0) = z) :
    Calls Try.prog 102 #[.pointer (some ⟨g, 0, none⟩), .agg (fraA T F S fv)] w fun e w' => e = .returned (.tuple #[]) ∧ Bk w' g B M false false S z nilV [] ∧ Fp (fun k => k = g) w w' := by
  have HBK := Bx.mk h
  clear h
  go_enter Try.func102, Try.ntmps102
  go_upto_region 1 with fail
  have HB1 : Bx (Below w.heap.size w (w.alloc (.cells (fraA T F S fv) 28))) := ⟨(Below.refl _ _).alloc (Nat.le_refl _) _⟩
  have HSF : Bx (Sb 28 (w.alloc (.cells (fraA T F S fv) 28)) w.heap.size (fraA T F S fv)) := ⟨Sb.new _ w _⟩
  obtain ⟨w1, hw1⟩ : ∃ W, w.alloc (.cells (fraA T F S fv) 28) = W := ⟨_, rfl⟩
  obtain ⟨gf, hgf⟩ : ∃ k, w.heap.size = k := ⟨_, rfl⟩
  have HBK1 := Bx.mk (HBK.out.keep HB1.out)
  rw [hw1] at HB1 HSF HBK1 ⊢
  rw [hgf] at HSF ⊢
  have HSB : Bx (Sb 148 w1.drew g (bkA (M : Int) op wh st en v)) := ⟨HBK1.out.1.keep (Below.refl _ _).drew⟩
  have HFP : Bx (Fp (fun k => k = g) w w1.drew) := ⟨Fp.of_below HB1.out.drew⟩
  clear hw1 hgf
  have k0 : ∀ W, Below w1.heap.size w1 W → W.cell? ⟨g, 0, none⟩ = some (.int .i64 (M : Int)) := fun W h => (HBK1.out.1.keep h).cell 0
  have k2 : ∀ W, Below w1.heap.size w1 W → W.cell? ⟨gf, 2, none⟩ = some (.int .u32 S) := fun W h => (HSF.out.keep h).cell 2
  have k1 : ∀ W, Below w1.heap.size w1 W → W.cell? ⟨gf, 1, none⟩ = some (.int .u8 F) := fun W h => (HSF.out.keep h).cell 1
  refine wp_region_x 13 (fun W => Below w1.heap.size w1 W) (by kernel_rfl) ((Below.refl _ _).drew) (fun hHeld => ?_)
  refine wpAnyX_take0 (i := 0) (oi := ⟨some 4, Op.move (Operand.tmp 0), 103, _, _, none⟩) (v := ?v0) rfl (by omega) (by kernel_rfl) (by kernel_rfl) (by kernel_rfl) (fun _ _ _ h => h) (Or.inl ⟨by rfl, ?y0⟩) (by assumption) ?r0
  case y0 =>
    intro W hSw
    try dsimp only at hSw
    go_simp
    try with_reducible rfl
  case r0 =>
  try simp only [Act.put, List.setIfInBounds_toArray, List.set_cons_zero, List.set_cons_succ]
  refine wpAnyX_take0 (i := 1) (oi := ⟨some 5, Op.move (Operand.tmp 0), 103, _, _, none⟩) (v := ?v1) rfl (by omega) (by kernel_rfl) (by kernel_rfl) (by kernel_rfl) (fun _ _ _ h => h) (Or.inl ⟨by rfl, ?y1⟩) (by assumption) ?r1
  case y1 =>
    intro W hSw
    try dsimp only at hSw
    go_simp
    try with_reducible rfl
  case r1 =>
  try simp only [Act.put, List.setIfInBounds_toArray, List.set_cons_zero, List.set_cons_succ]
  refine wpAnyX_take0 (i := 2) (oi := ⟨some 6, Op.nilCheck (Operand.tmp 5), 0, _, _, none⟩) (v := ?v2) rfl (by omega) (by kernel_rfl) (by kernel_rfl) (by kernel_rfl) (fun _ _ _ h => h) (Or.inl ⟨by rfl, ?y2⟩) (by assumption) ?r2
  case y2 =>
    intro W hSw
    try dsimp only at hSw
    go_simp
    try with_reducible rfl
  case r2 =>
  try simp only [Act.put, List.setIfInBounds_toArray, List.set_cons_zero, List.set_cons_succ]
  refine wpAnyX_take0 (i := 3) (oi := ⟨some 7, Op.fieldAddr 148 (Operand.tmp 6) 0, 0, _, _, none⟩) (v := ?v3) rfl (by omega) (by kernel_rfl) (by kernel_rfl) (by kernel_rfl) (fun _ _ _ h => h) (Or.inl ⟨by rfl, ?y3⟩) (by assumption) ?r3
  case y3 =>
    intro W hSw
    try dsimp only at hSw
    go_simp
    try with_reducible rfl
  case r3 =>
  try simp only [Act.put, List.setIfInBounds_toArray, List.set_cons_zero, List.set_cons_succ]
  refine wpAnyX_take (i := 4) (oi := ⟨some 8, Op.load 3 (Operand.tmp 7), 3, _, _, none⟩) (v := ?v4) rfl (by omega) (by kernel_rfl) (by kernel_rfl) (by kernel_rfl) (by kernel_rfl) (by kernel_rfl) (fun _ _ _ h => h) (Or.inl ⟨by rfl, ?y4⟩) (by assumption) ?r4
  case y4 =>
    intro W hSw
    try dsimp only at hSw
    go_simp
    try with_reducible rfl
  case r4 =>
  try simp only [Act.put, List.setIfInBounds_toArray, List.set_cons_zero, List.set_cons_succ]
  refine wpAnyX_take0 (i := 5) (oi := ⟨some 9, Op.fieldAddr 28 (Operand.tmp 3) 2, 0, _, _, none⟩) (v := ?v5) rfl (by omega) (by kernel_rfl) (by kernel_rfl) (by kernel_rfl) (fun _ _ _ h => h) (Or.inl ⟨by rfl, ?y5⟩) (by assumption) ?r5
  case y5 =>
    intro W hSw
    try dsimp only at hSw
    go_simp
    try with_reducible rfl
  case r5 =>
  try simp only [Act.put, List.setIfInBounds_toArray, List.set_cons_zero, List.set_cons_succ]
  refine wpAnyX_take (i := 6) (oi := ⟨some 10, Op.load 26 (Operand.tmp 9), 26, _, _, none⟩) (v := ?v6) rfl (by omega) (by kernel_rfl) (by kernel_rfl) (by kernel_rfl) (by kernel_rfl) (by kernel_rfl) (fun _ _ _ h => h) (Or.inl ⟨by rfl, ?y6⟩) (by assumption) ?r6
  case y6 =>
    intro W hSw
    try dsimp only at hSw
    go_simp
    try with_reducible rfl
  case r6 =>
  try simp only [Act.put, List.setIfInBounds_toArray, List.set_cons_zero, List.set_cons_succ]
  refine wpAnyX_take0 (i := 7) (oi := ⟨some 11, Op.fieldAddr 28 (Operand.tmp 3) 1, 0, _, _, none⟩) (v := ?v7) rfl (by omega) (by kernel_rfl) (by kernel_rfl) (by kernel_rfl) (fun _ _ _ h => h) (Or.inl ⟨by rfl, ?y7⟩) (by assumption) ?r7
  case y7 =>
    intro W hSw
    try dsimp only at hSw
    go_simp
    try with_reducible rfl
  case r7 =>
  try simp only [Act.put, List.setIfInBounds_toArray, List.set_cons_zero, List.set_cons_succ]
  refine wpAnyX_take (i := 8) (oi := ⟨some 12, Op.load 5 (Operand.tmp 11), 5, _, _, none⟩) (v := ?v8) rfl (by omega) (by kernel_rfl) (by kernel_rfl) (by kernel_rfl) (by kernel_rfl) (by kernel_rfl) (fun _ _ _ h => h) (Or.inl ⟨by rfl, ?y8⟩) (by assumption) ?r8
  case y8 =>
    intro W hSw
    try dsimp only at hSw
    go_simp
    try with_reducible rfl
  case r8 =>
  try simp only [Act.put, List.setIfInBounds_toArray, List.set_cons_zero, List.set_cons_succ]
  refine wpAnyX_take0 (i := 9) (oi := ⟨some 13, Op.binOp BinOp.and 5 (Operand.tmp 12) (Operand.const (Value.int IntKind.u8 1)) 5, 5, _, _, none⟩) (v := ?v9) rfl (by omega) (by kernel_rfl) (by kernel_rfl) (by kernel_rfl) (fun _ _ _ h => h) (Or.inl ⟨by rfl, ?y9⟩) (by assumption) ?r9
  case y9 =>
    intro W hSw
    try dsimp only at hSw
    go_simp
    try with_reducible rfl
  case r9 =>
  try simp only [Act.put, List.setIfInBounds_toArray, List.set_cons_zero, List.set_cons_succ]
  refine wpAnyX_take0 (i := 10) (oi := ⟨some 14, Op.binOp BinOp.neq 5 (Operand.tmp 13) (Operand.const (Value.int IntKind.u8 0)) 5, 4, _, _, none⟩) (v := ?v10) rfl (by omega) (by kernel_rfl) (by kernel_rfl) (by kernel_rfl) (fun _ _ _ h => h) (Or.inl ⟨by rfl, ?y10⟩) (by assumption) ?r10
  case y10 =>
    intro W hSw
    try dsimp only at hSw
    go_simp
    try with_reducible rfl
  case r10 =>
  try simp only [Act.put, List.setIfInBounds_toArray, List.set_cons_zero, List.set_cons_succ]
  refine wpAnyX_take0 (i := 11) (oi := ⟨some 15, Op.build 148 #[(0, Operand.tmp 8), (3, Operand.tmp 10), (4, Operand.tmp 14)], 148, _, _, none⟩) (v := ?v11) rfl (by omega) (by kernel_rfl) (by kernel_rfl) (by kernel_rfl) (fun _ _ _ h => h) (Or.inl ⟨by rfl, ?y11⟩) (by assumption) ?r11
  case y11 =>
    intro W hSw
    try dsimp only at hSw
    go_simp
    try with_reducible rfl
  case r11 =>
  try simp only [Act.put, List.setIfInBounds_toArray, List.set_cons_zero, List.set_cons_succ]
  refine wpAnyX_take0 (i := 12) (oi := ⟨some 16, Op.nilCheck (Operand.tmp 4), 0, _, _, none⟩) (v := ?v12) rfl (by omega) (by kernel_rfl) (by kernel_rfl) (by kernel_rfl) (fun _ _ _ h => h) (Or.inl ⟨by rfl, ?y12⟩) (by assumption) ?r12
  case y12 =>
    intro W hSw
    try dsimp only at hSw
    go_simp
    try with_reducible rfl
  case r12 =>
  try simp only [Act.put, List.setIfInBounds_toArray, List.set_cons_zero, List.set_cons_succ]
  refine wpAnyX_one (i := 13) (by kernel_rfl) rfl (fun K hK => ?_)
  refine step_storeS rfl 148 (.tmp 16) (.tmp 15) rfl 148 g (bkA (M : Int) op wh st en v) (bkA (M : Int) false false S z nilV) rfl rfl HSB.out bk_size rfl (by simp [bkA, Value.oneCell']) ?_
  intro w2 hs hg
  refine hK _ _ (fun h => absurd h (by decide)) ?_
  clear hK K
  try simp only [Act.put, List.setIfInBounds_toArray, List.set_cons_zero, List.set_cons_succ]
  refine wpAnyX_done (by kernel_rfl) ?_ _
  go_wp2_with fail
  go_end0
  exact ⟨rfl, ⟨hs, OwB.nil _ _⟩, HFP.out.then (Fp.of_grown hg (fun k hk => (Option.some.inj hk).symm))⟩
/-- The last whole block is taken. -/
theorem bkTake_none (h : Bk w g B M op false st en v D) : Calls Try.prog 69 #[.pointer (some ⟨g, 0, none⟩)] w fun e w' => e = .returned (.tuple #[.int .u32 0, nilV, .bool false]) ∧ w' = w := by
  have c2 := h.c2
  clear h
  go_enter Try.func69, Try.ntmps69
  go_wp2_with fail
  go_ret3
  exact ⟨rfl, rfl⟩
set_option maxRecDepth 100000 in
set_option maxHeartbeats 4000000 in
theorem bkTake_whole (h : Bk w g B M op true st en v D) : Calls Try.prog 69 #[.pointer (some ⟨g, 0, none⟩)] w fun e w' => e = .returned (.tuple #[.int .u32 st, v, .bool en]) ∧ Bs w' v D ∧ (∀ B, Bk w' g B M false false 0 false nilV []) ∧ Fp (fun k => k = g) w w' := by
  obtain ⟨A0, n0, cc0, rfl⟩ := h.shape
  have c2 := h.c2
  have HBK := Bx.mk h
  have HS0 : Bx (Sb 148 w g (bkA (M : Int) op true st en (.slice A0 n0 cc0))) := ⟨h.1⟩
  clear h
  go_enter Try.func69, Try.ntmps69
  go_upto_region 4 with (with_reducible refine wpList_loadBk g (M : Int) op true st en (.slice A0 n0 cc0) rfl HS0.out ?_)
  have HBK1 := Bx.mk (HBK.out.keep ((Below.refl w.heap.size w).alloc (Nat.le_refl _) (.cells (bkA (M : Int) op true st en (.slice A0 n0 cc0)) 148)))
  have HSN : Bx (Sb 148 (w.alloc (.cells (bkA (M : Int) op true st en (.slice A0 n0 cc0)) 148)) w.heap.size (bkA (M : Int) op true st en (.slice A0 n0 cc0))) := ⟨Sb.new _ w _⟩
  have HB1 := Bx.mk ((Below.refl w.heap.size w).alloc (Nat.le_refl _) (.cells (bkA (M : Int) op true st en (.slice A0 n0 cc0)) 148))
  have HGG : Bx (g < w.heap.size) := ⟨HBK.out.1.lt⟩
  obtain ⟨w1, hw1⟩ : ∃ W, w.alloc (.cells (bkA (M : Int) op true st en (.slice A0 n0 cc0)) 148) = W := ⟨_, rfl⟩
  obtain ⟨gn, hgn⟩ : ∃ k, w.heap.size = k := ⟨_, rfl⟩
  rw [hw1] at HBK1 HSN HB1 ⊢
  rw [hgn] at HSN HGG ⊢
  have HFP : Bx (Fp (fun k => k = g) w w1) := ⟨Fp.of_below HB1.out⟩
  clear hw1 hgn HB1
  have d0 := HBK1.out.c0
  have HS1 : Bx (Sb 148 w1 g (bkA (M : Int) op true st en (.slice A0 n0 cc0))) := ⟨HBK1.out.1⟩
  go_upto_region 5 with (with_reducible refine wpList_storeBk g (bkA (M : Int) op true st en (.slice A0 n0 cc0)) (M : Int) false false 0 false none 0 0 rfl rfl HS1.out rfl ?_; intro w2 hs hg; have HS2 := Bx.mk hs; have HG2 := Bx.mk hg; clear hs hg)
  have HSN2 := Bx.mk (HSN.out.grown HG2.out (fun e => by injection e with e; have := HGG.out; omega))
  have HOB : Bx (OwB w2 B (.slice A0 n0 cc0) D) := ⟨HBK1.out.2.kept fun k hk => HG2.out.block k (HBK1.out.2.lt hk) (fun e => HBK1.out.ne (by rw [hk, e]))⟩
  have e3 : w2.cell? ⟨gn, 3, none⟩ = some (.int .u32 st) := HSN2.out.cell 3
  have e5 : w2.cell? ⟨gn, 5, none⟩ = some (.slice A0 n0 cc0) := HSN2.out.cell 5
  have e4 : w2.cell? ⟨gn, 4, none⟩ = some (.bool en) := HSN2.out.cell 4
  go_quiet (fail)
  go_wp2_with fail
  go_ret3
  exact ⟨rfl, (HOB.out.keep (below_drewN (Below.refl _ _) _)).bs, fun B => ⟨HS2.out.keep (below_drewN (Below.refl _ _) _), OwB.nil _ _⟩, (HFP.out.then (Fp.of_grown HG2.out (fun k hk => (Option.some.inj hk).symm))).then (Fp.of_below (below_drewN (Below.refl _ _) _))⟩
end
end Go.Proofs.Ytenoaljghbpaaaa
