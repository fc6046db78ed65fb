/-
  Blocks: the program's Add (written by mkbkw.py).
-/
import Derived.Test.YtenoaljghbpaaaaBkW
import Derived.Test.YtenoaljghbpaaaaSbS
import Derived.Test.YtenoaljghbpaaaaDnStep
namespace Go.Proofs.Ytenoaljghbpaaaa
open Go.RowKit
set_option linter.unusedVariables false
set_option linter.unusedSimpArgs false

section
variable {w : World} {g B : Nat} {M : Nat} {op wh : Bool} {st : Int} {en : Bool} {v : Value} {D : List UInt8}
set_option maxRecDepth 100000 in
set_option maxHeartbeats 8000000 in
theorem bkAdd_next (h : Bk w g B M true wh st en v D) (hB : B ≤ w.heap.size) (hM : M ≤ 1000000) (hD : D.length ≤ M) (fl sn : Nat) (hfl : fl = 0 ∨ fl = 1 ∨ fl = 4 ∨ fl = 5) (hsn : sn < 4294967296) (hs0 : ¬ sn % 2147483648 = 0) (F S : Int) (hF : (fl : Int) = F) (hS : (sn : Int) = st) (fv : Value) (l : List UInt8) (hl : Bs w fv l) (hll : l.length ≤ 1000000) (z z1 : Bool) (hz : (bits .and .u8 F 4 != 0) = z) (hz1 : (bits .and .u8 F 1 != 0) = z1) (hfit : D.length + l.length ≤ M) :
    Calls Try.prog 66 #[.pointer (some ⟨g, 0, none⟩), .agg (fraA 9 F st fv)] w fun e w' => e = .returned (.tuple #[.bool z, .int .i64 0]) ∧ (∃ v', Bk w' g B M (!z) z st en v' (D ++ l)) ∧ Fp (Sg g B) w w' := by
  have HR := Bx.mk (fun W (h : Bs W fv l) => pyRead_block 9 fl sn (by omega) hfl hsn hs0 fv l W 9 F st rfl hF hS h hll)
  have HBK := Bx.mk h
  have HV := Bx.mk hl
  have HM := Bx.mk (And.intro hM (And.intro hD (And.intro hll hfit)))
  have HBB := Bx.mk hB
  have HZ1 := Bx.mk hz1
  obtain ⟨A, n, c, rfl⟩ := h.shape
  obtain ⟨L, hL⟩ : ∃ L, l.length = L := ⟨_, rfl⟩
  have HLL := Bx.mk hL
  obtain ⟨RM, hRM⟩ : ∃ RM : Int, (M : Int) - (D.length : Int) = RM := ⟨_, rfl⟩
  have HRE := Bx.mk hRM
  have HDF : Bx (decide (RM < (L : Int)) = false) := ⟨by
    rw [← hRM]
    apply decide_eq_false
    omega⟩
  clear hRM h hl hM hD hll hfit hB hF hS hfl hsn hs0 hz1
  go_enter Try.func66, Try.ntmps66
  go_upto_region 1 with fail
  have HB1 : Bx (Below w.heap.size w (w.alloc (.cells (fraA 9 F st fv) 28))) := ⟨(Below.refl _ _).alloc (Nat.le_refl _) _⟩
  have HSF : Bx (Sb 28 (w.alloc (.cells (fraA 9 F st fv) 28)) w.heap.size (fraA 9 F st fv)) := ⟨Sb.new _ w _⟩
  obtain ⟨w1, hw1⟩ : ∃ W, w.alloc (.cells (fraA 9 F st fv) 28) = W := ⟨_, rfl⟩
  obtain ⟨gf, hgf⟩ : ∃ k, w.heap.size = k := ⟨_, rfl⟩
  have HBK1 := Bx.mk (HBK.out.keep HB1.out)
  rw [hw1] at HB1 HSF HBK1 ⊢
  rw [hgf] at HSF ⊢
  have HGF : Bx (w.heap.size ≤ gf) := ⟨by omega⟩
  clear hw1 hgf
  have c1 := HBK1.out.c1
  have c3 := HBK1.out.c3
  have f0 : w1.cell? ⟨gf, 0, none⟩ = some (.int .u8 9) := HSF.out.cell 0
  have f1 : w1.cell? ⟨gf, 1, none⟩ = some (.int .u8 F) := HSF.out.cell 1
  have f2 : w1.cell? ⟨gf, 2, none⟩ = some (.int .u32 st) := HSF.out.cell 2
  go_upto_region 2 with fail
  go_quiet (fail)
  rename_i nq
  have HBq : Bx (Below w1.heap.size w1 (w1.drewN nq)) := ⟨below_drewN (Below.refl _ _) _⟩
  obtain ⟨w2, hw2⟩ : ∃ W, w1.drewN nq = W := ⟨_, rfl⟩
  rw [hw2] at HBq ⊢
  have HBK2 := Bx.mk (HBK1.out.keep HBq.out)
  have HSF2 : Bx (Sb 28 w2 gf (fraA 9 F st fv)) := ⟨HSF.out.keep HBq.out⟩
  have HB2 := Bx.mk (HB1.out.trans (HBq.out.mono HB1.out.size))
  have HV2 := Bx.mk (HV.out.keep HB2.out)
  clear hw2 HBq HBK1 HSF HB1 c1 c3 f0 f1 f2
  have f0 : w2.cell? ⟨gf, 0, none⟩ = some (.int .u8 9) := HSF2.out.cell 0
  go_upto_region 9 with (first
    | (with_reducible refine wpList_loadFra gf 9 F st fv rfl HSF2.out ?_)
    | (go_at_call 31; refine (HR.out _ HV2.out).mono ?_; rintro e w3 ⟨A1, n1, c1, A2, n2, c2, cc, ss, ii, rfl, hu, b3⟩; have HU3 := Bx.mk hu; have HC3 := Bx.mk b3; clear hu b3))
  have HC4 := Bx.mk (HC3.out.alloc HC3.out.size (.cells (payA (.slice A1 n1 c1) (.slice A2 n2 c2) cc ss ii) 50))
  have HU4 := Bx.mk (HU3.out.alloc (.cells (payA (.slice A1 n1 c1) (.slice A2 n2 c2) cc ss ii) 50))
  have HSP : Bx (Sb 50 (w3.alloc (.cells (payA (.slice A1 n1 c1) (.slice A2 n2 c2) cc ss ii) 50)) w3.heap.size (payA (.slice A1 n1 c1) (.slice A2 n2 c2) cc ss ii)) := ⟨Sb.new _ w3 _⟩
  have HG7 : Bx (w2.heap.size ≤ w3.heap.size) := ⟨HC3.out.size⟩
  obtain ⟨w4, hw4⟩ : ∃ W, w3.alloc (.cells (payA (.slice A1 n1 c1) (.slice A2 n2 c2) cc ss ii) 50) = W := ⟨_, rfl⟩
  obtain ⟨g7, hg7⟩ : ∃ k, w3.heap.size = k := ⟨_, rfl⟩
  rw [hw4] at HC4 HU4 HSP ⊢
  rw [hg7] at HSP HG7 ⊢
  have HBK4 := Bx.mk (HBK2.out.keep HC4.out)
  have HSF4 := Bx.mk (HSF2.out.keep HC4.out)
  have HB4 := Bx.mk (HB2.out.trans (HC4.out.mono HB2.out.size))
  clear hw4 hg7 HC3 HU3 HBK2 HSF2 HV2 HR f0
  have HRM : Bx (∀ n, Calls Try.prog 101 #[.pointer (some ⟨g, 0, none⟩)] (w4.drewN n) fun e w' => e = .returned (.int .i64 RM) ∧ ∃ m, w' = (w4.drewN n).drewN m) := ⟨fun n => by
    have hr := bkRoom_any (HBK4.out.keep (below_drewN (Below.refl _ _) n)) (by have := HM.out; omega) HM.out.1
    rw [if_pos rfl, HRE.out] at hr
    exact hr⟩
  have y0 : w4.cell? ⟨g7, 0, none⟩ = some (.slice A1 n1 c1) := HSP.out.cell 0
  have hlen : ∀ (tr : TypeId) (W : World), (Builtin.len_ #[22] tr #[.slice A1 n1 c1]).run Try.prog W = .ok (.int .i64 (L : Int)) W := fun tr W => by
    have h := HU4.out.bs.run_len tr W
    rw [HLL.out] at h
    exact h
  have hdf := HDF.out
  go_upto_region 9 with fail
  go_quiet (first | (go_at_call 101; exact Calls.quiet_of (HRM.out _)))
  rename Nat => nr
  have HBr : Bx (Below w4.heap.size w4 (w4.drewN nr)) := ⟨below_drewN (Below.refl _ _) _⟩
  obtain ⟨w5, hw5⟩ : ∃ W, w4.drewN nr = W := ⟨_, rfl⟩
  rw [hw5] at HBr ⊢
  have HBK5 := Bx.mk (HBK4.out.keep HBr.out)
  have HSF5 : Bx (Sb 28 w5 gf (fraA 9 F st fv)) := ⟨HSF4.out.keep HBr.out⟩
  have HSP5 := Bx.mk (HSP.out.keep HBr.out)
  have HU5 := Bx.mk (HU4.out.keep HBr.out)
  have HB5 := Bx.mk (HB4.out.trans (HBr.out.mono HB4.out.size))
  have HFP5 : Bx (Fp (Sg g B) w w5) := ⟨Fp.of_below HB5.out⟩
  clear hw5 HBr HBK4 HSF4 HSP HU4 HB4 HRM y0 hdf
  obtain ⟨Ax, nx, cx, hx⟩ : ∃ Ax nx cx, (Value.slice A n c) = .slice Ax nx cx := ⟨_, _, _, rfl⟩
  rw [hx] at HBK5
  clear hx
  go_upto_region 13 with fail
  have HBKd := Bx.mk (HBK5.out.keep (Below.refl _ _).drew)
  have HUd := Bx.mk (HU5.out.keep (Below.refl _ _).drew)
  obtain ⟨v7, w7, hrun, o7, g7b⟩ := run_bytes_own w5.drew 22 B (.slice Ax nx cx) (.slice A1 n1 c1) D l HBKd.out.2 HUd.out.bs (by have := HM.out; omega) (by have := HM.out; omega) (by have h1 := HBB.out; have h2 := HFP5.out.size; show B ≤ w5.heap.size; omega)
  have x5 : w5.drew.cell? ⟨g, 5, none⟩ = some (.slice Ax nx cx) := HBKd.out.c5
  have y0 : w5.drew.cell? ⟨g7, 0, none⟩ = some (.slice A1 n1 c1) := (HSP5.out.keep (Below.refl _ _).drew).cell 0
  have HS7 : Bx (Sb 148 w7 g (bkA (M : Int) true wh st en (.slice Ax nx cx))) := ⟨HBKd.out.1.grown g7b HBKd.out.ne⟩
  have HSP7 : Bx (Sb 50 w7 g7 (payA (.slice A1 n1 c1) (.slice A2 n2 c2) cc ss ii)) := ⟨(HSP5.out.keep (Below.refl _ _).drew).grown g7b (HBKd.out.2.neSb (HSP5.out.keep (Below.refl _ _).drew) (by decide))⟩
  have HSF7 : Bx (Sb 28 w7 gf (fraA 9 F st fv)) := ⟨(HSF5.out.keep (Below.refl _ _).drew).grown g7b (HBKd.out.2.neSb (HSF5.out.keep (Below.refl _ _).drew) (by decide))⟩
  have HO7 := Bx.mk o7
  have HFP7 : Bx (Fp (Sg g B) w w7) := ⟨(HFP5.out.then (Fp.of_below (Below.refl _ _).drew)).then (Fp.of_grown g7b fun k hk => .inr (HBKd.out.2.ge hk))⟩
  obtain ⟨A7, n7, c7, hsh⟩ := o7.shape
  subst hsh
  have hS7 : w7.cell? ⟨g, 5, none⟩ = some (.slice Ax nx cx) ∧ w7.cell? ⟨g7, 0, none⟩ = some (.slice A1 n1 c1) := ⟨HS7.out.cell 5, HSP7.out.cell 0⟩
  have x5b := hS7.1
  have x5f := HS7.out.free 5
  clear o7 g7b
  refine wp_region_x 10 (fun W => W.cell? ⟨g, 5, none⟩ = some (.slice Ax nx cx) ∧ W.cell? ⟨g7, 0, none⟩ = some (.slice A1 n1 c1)) (by kernel_rfl) (⟨x5, y0⟩) (fun hHeld => ?_)
  refine wpAnyX_take0 (i := 0) (oi := ⟨some 56, Op.move (Operand.tmp 0), 103, _, _, none⟩) (v := ?v0) rfl (by omega) (by kernel_rfl) (by kernel_rfl) (by kernel_rfl) (fun _ _ _ h => h) (Or.inl ⟨by rfl, ?y0⟩) (by assumption) ?r0
  case y0 =>
    intro W hSw
    try dsimp only at hSw
    go_simp
    try with_reducible rfl
  case r0 =>
  try simp only [Act.put, List.setIfInBounds_toArray, List.set_cons_zero, List.set_cons_succ]
  refine wpAnyX_take0 (i := 1) (oi := ⟨some 57, Op.move (Operand.tmp 0), 103, _, _, none⟩) (v := ?v1) rfl (by omega) (by kernel_rfl) (by kernel_rfl) (by kernel_rfl) (fun _ _ _ h => h) (Or.inl ⟨by rfl, ?y1⟩) (by assumption) ?r1
  case y1 =>
    intro W hSw
    try dsimp only at hSw
    go_simp
    try with_reducible rfl
  case r1 =>
  try simp only [Act.put, List.setIfInBounds_toArray, List.set_cons_zero, List.set_cons_succ]
  refine wpAnyX_take0 (i := 2) (oi := ⟨some 58, Op.nilCheck (Operand.tmp 57), 0, _, _, none⟩) (v := ?v2) rfl (by omega) (by kernel_rfl) (by kernel_rfl) (by kernel_rfl) (fun _ _ _ h => h) (Or.inl ⟨by rfl, ?y2⟩) (by assumption) ?r2
  case y2 =>
    intro W hSw
    try dsimp only at hSw
    go_simp
    try with_reducible rfl
  case r2 =>
  try simp only [Act.put, List.setIfInBounds_toArray, List.set_cons_zero, List.set_cons_succ]
  refine wpAnyX_take0 (i := 3) (oi := ⟨some 59, Op.fieldAddr 148 (Operand.tmp 58) 5, 0, _, _, none⟩) (v := ?v3) rfl (by omega) (by kernel_rfl) (by kernel_rfl) (by kernel_rfl) (fun _ _ _ h => h) (Or.inl ⟨by rfl, ?y3⟩) (by assumption) ?r3
  case y3 =>
    intro W hSw
    try dsimp only at hSw
    go_simp
    try with_reducible rfl
  case r3 =>
  try simp only [Act.put, List.setIfInBounds_toArray, List.set_cons_zero, List.set_cons_succ]
  refine wpAnyX_take (i := 4) (oi := ⟨some 60, Op.load 22 (Operand.tmp 59), 22, _, _, none⟩) (v := ?v4) rfl (by omega) (by kernel_rfl) (by kernel_rfl) (by kernel_rfl) (by kernel_rfl) (by kernel_rfl) (fun _ _ _ h => h) (Or.inl ⟨by rfl, ?y4⟩) (by assumption) ?r4
  case y4 =>
    intro W hSw
    try dsimp only at hSw
    go_simp
    try with_reducible rfl
  case r4 =>
  try simp only [Act.put, List.setIfInBounds_toArray, List.set_cons_zero, List.set_cons_succ]
  refine wpAnyX_take0 (i := 5) (oi := ⟨some 61, Op.fieldAddr 50 (Operand.tmp 7) 0, 0, _, _, none⟩) (v := ?v5) rfl (by omega) (by kernel_rfl) (by kernel_rfl) (by kernel_rfl) (fun _ _ _ h => h) (Or.inl ⟨by rfl, ?y5⟩) (by assumption) ?r5
  case y5 =>
    intro W hSw
    try dsimp only at hSw
    go_simp
    try with_reducible rfl
  case r5 =>
  try simp only [Act.put, List.setIfInBounds_toArray, List.set_cons_zero, List.set_cons_succ]
  refine wpAnyX_take (i := 6) (oi := ⟨some 62, Op.load 22 (Operand.tmp 61), 22, _, _, none⟩) (v := ?v6) rfl (by omega) (by kernel_rfl) (by kernel_rfl) (by kernel_rfl) (by kernel_rfl) (by kernel_rfl) (fun _ _ _ h => h) (Or.inl ⟨by rfl, ?y6⟩) (by assumption) ?r6
  case y6 =>
    intro W hSw
    try dsimp only at hSw
    go_simp
    try with_reducible rfl
  case r6 =>
  try simp only [Act.put, List.setIfInBounds_toArray, List.set_cons_zero, List.set_cons_succ]
  refine wpAnyX_one (i := 7) (by kernel_rfl) rfl (fun K hK => ?_)
  refine step_append_run rfl (.tmp 60) (.tmp 62) 22 rfl (.slice Ax nx cx) _ rfl rfl hrun ?_
  refine hK _ _ (fun _ => hS7) ?_
  clear hK K
  try simp only [Act.put, List.setIfInBounds_toArray, List.set_cons_zero, List.set_cons_succ]
  refine wpAnyX_take0 (i := 8) (oi := ⟨some 64, Op.nilCheck (Operand.tmp 56), 0, _, _, none⟩) (v := ?v8) rfl (by omega) (by kernel_rfl) (by kernel_rfl) (by kernel_rfl) (fun _ _ _ h => h) (Or.inl ⟨by rfl, ?y8⟩) (by assumption) ?r8
  case y8 =>
    intro W hSw
    try dsimp only at hSw
    go_simp
    try with_reducible rfl
  case r8 =>
  try simp only [Act.put, List.setIfInBounds_toArray, List.set_cons_zero, List.set_cons_succ]
  refine wpAnyX_take0 (i := 9) (oi := ⟨some 65, Op.fieldAddr 148 (Operand.tmp 64) 5, 0, _, _, none⟩) (v := ?v9) rfl (by omega) (by kernel_rfl) (by kernel_rfl) (by kernel_rfl) (fun _ _ _ h => h) (Or.inl ⟨by rfl, ?y9⟩) (by assumption) ?r9
  case y9 =>
    intro W hSw
    try dsimp only at hSw
    go_simp
    try with_reducible rfl
  case r9 =>
  try simp only [Act.put, List.setIfInBounds_toArray, List.set_cons_zero, List.set_cons_succ]
  refine wpAnyX_one (i := 10) (by kernel_rfl) rfl (fun K hK => ?_)
  go_simp
  refine hK _ _ (fun h => absurd h (by decide)) ?_
  clear hK K
  try simp only [Act.put, List.setIfInBounds_toArray, List.set_cons_zero, List.set_cons_succ]
  refine wpAnyX_done (by kernel_rfl) ?_ _
  have HBK8 : Bx (Bk (w7.setCell ⟨g, 5, none⟩ (.slice A7 n7 c7)) g B M true wh st en (.slice A7 n7 c7) (D ++ l)) := ⟨Bk.bytes HS7.out HO7.out⟩
  have HSF8 : Bx (Sb 28 (w7.setCell ⟨g, 5, none⟩ (.slice A7 n7 c7)) gf (fraA 9 F st fv)) := ⟨HSF7.out.grown (grown_set w7 g 5 _) (fun e => by injection e with e; have h1 := HGF.out; have h2 := HBK.out.1.lt; omega)⟩
  have HFP8 : Bx (Fp (Sg g B) w (w7.setCell ⟨g, 5, none⟩ (.slice A7 n7 c7))) := ⟨HFP7.out.then (Fp.set _ _ ⟨g, 5, none⟩ _ (.inl rfl))⟩
  obtain ⟨w8, hw8⟩ : ∃ W, w7.setCell ⟨g, 5, none⟩ (.slice A7 n7 c7) = W := ⟨_, rfl⟩
  rw [hw8] at HBK8 HSF8 HFP8 ⊢
  clear hw8 x5 y0 hS7 x5b x5f hHeld hrun HS7 HSP7 HSF7 HO7 HFP7 HBKd HUd
  have e2 := HBK8.out.c2
  have e2f := HBK8.out.1.free 2
  have e1 : w8.cell? ⟨gf, 1, none⟩ = some (.int .u8 F) := HSF8.out.cell 1
  go_upto_region 15 with fail
  have HBK9 : Bx (Bk (w8.setCell ⟨g, 2, none⟩ (.bool z)) g B M true z st en (.slice A7 n7 c7) (D ++ l)) := ⟨HBK8.out.set 2 (.bool z) (by decide) rfl⟩
  have HFP9 : Bx (Fp (Sg g B) w (w8.setCell ⟨g, 2, none⟩ (.bool z))) := ⟨HFP8.out.then (Fp.set _ _ ⟨g, 2, none⟩ _ (.inl rfl))⟩
  obtain ⟨w9, hw9⟩ : ∃ W, w8.setCell ⟨g, 2, none⟩ (.bool z) = W := ⟨_, rfl⟩
  rw [hw9] at HBK9 HFP9 ⊢
  clear hw9 e2 e2f e1 HBK8 HFP8 HSF8
  have e2 := HBK9.out.c2
  have e1 := HBK9.out.c1
  have e1f := HBK9.out.1.free 1
  go_upto_region 16 with fail
  have HBK10 : Bx (Bk (w9.setCell ⟨g, 1, none⟩ (.bool (!z))) g B M (!z) z st en (.slice A7 n7 c7) (D ++ l)) := ⟨HBK9.out.set 1 (.bool (!z)) (by decide) rfl⟩
  have HFP10 : Bx (Fp (Sg g B) w (w9.setCell ⟨g, 1, none⟩ (.bool (!z)))) := ⟨HFP9.out.then (Fp.set _ _ ⟨g, 1, none⟩ _ (.inl rfl))⟩
  obtain ⟨w10, hw10⟩ : ∃ W, w9.setCell ⟨g, 1, none⟩ (.bool (!z)) = W := ⟨_, rfl⟩
  rw [hw10] at HBK10 HFP10 ⊢
  clear hw10 e2 e1 e1f HBK9 HFP9
  have e2 := HBK10.out.c2
  go_wp2_with fail
  go_ret2
  exact ⟨rfl, ⟨_, HBK10.out⟩, HFP10.out⟩
set_option maxRecDepth 100000 in
set_option maxHeartbeats 8000000 in
theorem bkAdd_nextOver (h : Bk w g B M true wh st en v D) (hB : B ≤ w.heap.size) (hM : M ≤ 1000000) (hD : D.length ≤ M) (fl sn : Nat) (hfl : fl = 0 ∨ fl = 1 ∨ fl = 4 ∨ fl = 5) (hsn : sn < 4294967296) (hs0 : ¬ sn % 2147483648 = 0) (F S : Int) (hF : (fl : Int) = F) (hS : (sn : Int) = st) (fv : Value) (l : List UInt8) (hl : Bs w fv l) (hll : l.length ≤ 1000000) (z z1 : Bool) (hz : (bits .and .u8 F 4 != 0) = z) (hz1 : (bits .and .u8 F 1 != 0) = z1) (hfit : M < D.length + l.length) :
    Calls Try.prog 66 #[.pointer (some ⟨g, 0, none⟩), .agg (fraA 9 F st fv)] w fun e w' => e = .returned (.tuple #[.bool false, .int .i64 3]) ∧ Below w.heap.size w w' := by
  have HR := Bx.mk (fun W (h : Bs W fv l) => pyRead_block 9 fl sn (by omega) hfl hsn hs0 fv l W 9 F st rfl hF hS h hll)
  have HBK := Bx.mk h
  have HV := Bx.mk hl
  have HM := Bx.mk (And.intro hM (And.intro hD (And.intro hll hfit)))
  have HBB := Bx.mk hB
  have HZ1 := Bx.mk hz1
  obtain ⟨A, n, c, rfl⟩ := h.shape
  obtain ⟨L, hL⟩ : ∃ L, l.length = L := ⟨_, rfl⟩
  have HLL := Bx.mk hL
  obtain ⟨RM, hRM⟩ : ∃ RM : Int, (M : Int) - (D.length : Int) = RM := ⟨_, rfl⟩
  have HRE := Bx.mk hRM
  have HDF : Bx (decide (RM < (L : Int)) = true) := ⟨by
    rw [← hRM]
    apply decide_eq_true
    omega⟩
  clear hRM h hl hM hD hll hfit hB hF hS hfl hsn hs0 hz1
  go_enter Try.func66, Try.ntmps66
  go_upto_region 1 with fail
  have HB1 : Bx (Below w.heap.size w (w.alloc (.cells (fraA 9 F st fv) 28))) := ⟨(Below.refl _ _).alloc (Nat.le_refl _) _⟩
  have HSF : Bx (Sb 28 (w.alloc (.cells (fraA 9 F st fv) 28)) w.heap.size (fraA 9 F st fv)) := ⟨Sb.new _ w _⟩
  obtain ⟨w1, hw1⟩ : ∃ W, w.alloc (.cells (fraA 9 F st fv) 28) = W := ⟨_, rfl⟩
  obtain ⟨gf, hgf⟩ : ∃ k, w.heap.size = k := ⟨_, rfl⟩
  have HBK1 := Bx.mk (HBK.out.keep HB1.out)
  rw [hw1] at HB1 HSF HBK1 ⊢
  rw [hgf] at HSF ⊢
  have HGF : Bx (w.heap.size ≤ gf) := ⟨by omega⟩
  clear hw1 hgf
  have c1 := HBK1.out.c1
  have c3 := HBK1.out.c3
  have f0 : w1.cell? ⟨gf, 0, none⟩ = some (.int .u8 9) := HSF.out.cell 0
  have f1 : w1.cell? ⟨gf, 1, none⟩ = some (.int .u8 F) := HSF.out.cell 1
  have f2 : w1.cell? ⟨gf, 2, none⟩ = some (.int .u32 st) := HSF.out.cell 2
  go_upto_region 2 with fail
  go_quiet (fail)
  rename_i nq
  have HBq : Bx (Below w1.heap.size w1 (w1.drewN nq)) := ⟨below_drewN (Below.refl _ _) _⟩
  obtain ⟨w2, hw2⟩ : ∃ W, w1.drewN nq = W := ⟨_, rfl⟩
  rw [hw2] at HBq ⊢
  have HBK2 := Bx.mk (HBK1.out.keep HBq.out)
  have HSF2 : Bx (Sb 28 w2 gf (fraA 9 F st fv)) := ⟨HSF.out.keep HBq.out⟩
  have HB2 := Bx.mk (HB1.out.trans (HBq.out.mono HB1.out.size))
  have HV2 := Bx.mk (HV.out.keep HB2.out)
  clear hw2 HBq HBK1 HSF HB1 c1 c3 f0 f1 f2
  have f0 : w2.cell? ⟨gf, 0, none⟩ = some (.int .u8 9) := HSF2.out.cell 0
  go_upto_region 9 with (first
    | (with_reducible refine wpList_loadFra gf 9 F st fv rfl HSF2.out ?_)
    | (go_at_call 31; refine (HR.out _ HV2.out).mono ?_; rintro e w3 ⟨A1, n1, c1, A2, n2, c2, cc, ss, ii, rfl, hu, b3⟩; have HU3 := Bx.mk hu; have HC3 := Bx.mk b3; clear hu b3))
  have HC4 := Bx.mk (HC3.out.alloc HC3.out.size (.cells (payA (.slice A1 n1 c1) (.slice A2 n2 c2) cc ss ii) 50))
  have HU4 := Bx.mk (HU3.out.alloc (.cells (payA (.slice A1 n1 c1) (.slice A2 n2 c2) cc ss ii) 50))
  have HSP : Bx (Sb 50 (w3.alloc (.cells (payA (.slice A1 n1 c1) (.slice A2 n2 c2) cc ss ii) 50)) w3.heap.size (payA (.slice A1 n1 c1) (.slice A2 n2 c2) cc ss ii)) := ⟨Sb.new _ w3 _⟩
  have HG7 : Bx (w2.heap.size ≤ w3.heap.size) := ⟨HC3.out.size⟩
  obtain ⟨w4, hw4⟩ : ∃ W, w3.alloc (.cells (payA (.slice A1 n1 c1) (.slice A2 n2 c2) cc ss ii) 50) = W := ⟨_, rfl⟩
  obtain ⟨g7, hg7⟩ : ∃ k, w3.heap.size = k := ⟨_, rfl⟩
  rw [hw4] at HC4 HU4 HSP ⊢
  rw [hg7] at HSP HG7 ⊢
  have HBK4 := Bx.mk (HBK2.out.keep HC4.out)
  have HSF4 := Bx.mk (HSF2.out.keep HC4.out)
  have HB4 := Bx.mk (HB2.out.trans (HC4.out.mono HB2.out.size))
  clear hw4 hg7 HC3 HU3 HBK2 HSF2 HV2 HR f0
  have HRM : Bx (∀ n, Calls Try.prog 101 #[.pointer (some ⟨g, 0, none⟩)] (w4.drewN n) fun e w' => e = .returned (.int .i64 RM) ∧ ∃ m, w' = (w4.drewN n).drewN m) := ⟨fun n => by
    have hr := bkRoom_any (HBK4.out.keep (below_drewN (Below.refl _ _) n)) (by have := HM.out; omega) HM.out.1
    rw [if_pos rfl, HRE.out] at hr
    exact hr⟩
  have y0 : w4.cell? ⟨g7, 0, none⟩ = some (.slice A1 n1 c1) := HSP.out.cell 0
  have hlen : ∀ (tr : TypeId) (W : World), (Builtin.len_ #[22] tr #[.slice A1 n1 c1]).run Try.prog W = .ok (.int .i64 (L : Int)) W := fun tr W => by
    have h := HU4.out.bs.run_len tr W
    rw [HLL.out] at h
    exact h
  have hdf := HDF.out
  go_upto_region 9 with fail
  go_quiet (first | (go_at_call 101; exact Calls.quiet_of (HRM.out _)))
  rename Nat => nr
  go_wp2_with fail
  go_ret2
  exact ⟨rfl, below_drewN HB4.out _⟩
set_option maxRecDepth 100000 in
set_option maxHeartbeats 8000000 in
theorem bkAdd_first (h : Bk w g B M false wh st en v D) (hB : B ≤ w.heap.size) (hM : M ≤ 1000000) (hD : D.length ≤ M) (fl sn : Nat) (hfl : fl = 0 ∨ fl = 1 ∨ fl = 4 ∨ fl = 5) (hsn : sn < 4294967296) (hs0 : ¬ sn % 2147483648 = 0) (F S : Int) (hF : (fl : Int) = F) (hS : (sn : Int) = S) (fv : Value) (l : List UInt8) (hl : Bs w fv l) (hll : l.length ≤ 1000000) (z z1 : Bool) (hz : (bits .and .u8 F 4 != 0) = z) (hz1 : (bits .and .u8 F 1 != 0) = z1) (hfit : l.length ≤ M) :
    Calls Try.prog 66 #[.pointer (some ⟨g, 0, none⟩), .agg (fraA 1 F S fv)] w fun e w' => e = .returned (.tuple #[.bool z, .int .i64 0]) ∧ (∃ v', Bk w' g B M (!z) z S z1 v' l) ∧ Fp (Sg g B) w w' := by
  have HR := Bx.mk (fun W (h : Bs W fv l) => pyRead_block 1 fl sn (by omega) hfl hsn hs0 fv l W 1 F S rfl hF hS h hll)
  have HBK := Bx.mk h
  have HV := Bx.mk hl
  have HM := Bx.mk (And.intro hM (And.intro hD (And.intro hll hfit)))
  have HBB := Bx.mk hB
  have HZ1 := Bx.mk hz1
  obtain ⟨A, n, c, rfl⟩ := h.shape
  obtain ⟨L, hL⟩ : ∃ L, l.length = L := ⟨_, rfl⟩
  have HLL := Bx.mk hL
  obtain ⟨RM, hRM⟩ : ∃ RM : Int, (M : Int) = RM := ⟨_, rfl⟩
  have HRE := Bx.mk hRM
  have HDF : Bx (decide (RM < (L : Int)) = false) := ⟨by
    rw [← hRM]
    apply decide_eq_false
    omega⟩
  clear hRM h hl hM hD hll hfit hB hF hS hfl hsn hs0 hz1
  go_enter Try.func66, Try.ntmps66
  go_upto_region 1 with fail
  have HB1 : Bx (Below w.heap.size w (w.alloc (.cells (fraA 1 F S fv) 28))) := ⟨(Below.refl _ _).alloc (Nat.le_refl _) _⟩
  have HSF : Bx (Sb 28 (w.alloc (.cells (fraA 1 F S fv) 28)) w.heap.size (fraA 1 F S fv)) := ⟨Sb.new _ w _⟩
  obtain ⟨w1, hw1⟩ : ∃ W, w.alloc (.cells (fraA 1 F S fv) 28) = W := ⟨_, rfl⟩
  obtain ⟨gf, hgf⟩ : ∃ k, w.heap.size = k := ⟨_, rfl⟩
  have HBK1 := Bx.mk (HBK.out.keep HB1.out)
  rw [hw1] at HB1 HSF HBK1 ⊢
  rw [hgf] at HSF ⊢
  have HGF : Bx (w.heap.size ≤ gf) := ⟨by omega⟩
  clear hw1 hgf
  have c1 := HBK1.out.c1
  have c3 := HBK1.out.c3
  have f0 : w1.cell? ⟨gf, 0, none⟩ = some (.int .u8 1) := HSF.out.cell 0
  have f1 : w1.cell? ⟨gf, 1, none⟩ = some (.int .u8 F) := HSF.out.cell 1
  have f2 : w1.cell? ⟨gf, 2, none⟩ = some (.int .u32 S) := HSF.out.cell 2
  go_upto_region 2 with fail
  go_quiet (fail)
  rename_i nq
  have HBq : Bx (Below w1.heap.size w1 (w1.drewN nq)) := ⟨below_drewN (Below.refl _ _) _⟩
  obtain ⟨w2, hw2⟩ : ∃ W, w1.drewN nq = W := ⟨_, rfl⟩
  rw [hw2] at HBq ⊢
  have HBK2 := Bx.mk (HBK1.out.keep HBq.out)
  have HSF2 : Bx (Sb 28 w2 gf (fraA 1 F S fv)) := ⟨HSF.out.keep HBq.out⟩
  have HB2 := Bx.mk (HB1.out.trans (HBq.out.mono HB1.out.size))
  have HV2 := Bx.mk (HV.out.keep HB2.out)
  clear hw2 HBq HBK1 HSF HB1 c1 c3 f0 f1 f2
  have f0 : w2.cell? ⟨gf, 0, none⟩ = some (.int .u8 1) := HSF2.out.cell 0
  go_upto_region 9 with (first
    | (with_reducible refine wpList_loadFra gf 1 F S fv rfl HSF2.out ?_)
    | (go_at_call 31; refine (HR.out _ HV2.out).mono ?_; rintro e w3 ⟨A1, n1, c1, A2, n2, c2, cc, ss, ii, rfl, hu, b3⟩; have HU3 := Bx.mk hu; have HC3 := Bx.mk b3; clear hu b3))
  have HC4 := Bx.mk (HC3.out.alloc HC3.out.size (.cells (payA (.slice A1 n1 c1) (.slice A2 n2 c2) cc ss ii) 50))
  have HU4 := Bx.mk (HU3.out.alloc (.cells (payA (.slice A1 n1 c1) (.slice A2 n2 c2) cc ss ii) 50))
  have HSP : Bx (Sb 50 (w3.alloc (.cells (payA (.slice A1 n1 c1) (.slice A2 n2 c2) cc ss ii) 50)) w3.heap.size (payA (.slice A1 n1 c1) (.slice A2 n2 c2) cc ss ii)) := ⟨Sb.new _ w3 _⟩
  have HG7 : Bx (w2.heap.size ≤ w3.heap.size) := ⟨HC3.out.size⟩
  obtain ⟨w4, hw4⟩ : ∃ W, w3.alloc (.cells (payA (.slice A1 n1 c1) (.slice A2 n2 c2) cc ss ii) 50) = W := ⟨_, rfl⟩
  obtain ⟨g7, hg7⟩ : ∃ k, w3.heap.size = k := ⟨_, rfl⟩
  rw [hw4] at HC4 HU4 HSP ⊢
  rw [hg7] at HSP HG7 ⊢
  have HBK4 := Bx.mk (HBK2.out.keep HC4.out)
  have HSF4 := Bx.mk (HSF2.out.keep HC4.out)
  have HB4 := Bx.mk (HB2.out.trans (HC4.out.mono HB2.out.size))
  clear hw4 hg7 HC3 HU3 HBK2 HSF2 HV2 HR f0
  have HRM : Bx (∀ n, Calls Try.prog 101 #[.pointer (some ⟨g, 0, none⟩)] (w4.drewN n) fun e w' => e = .returned (.int .i64 RM) ∧ ∃ m, w' = (w4.drewN n).drewN m) := ⟨fun n => by
    have hr := bkRoom_any (HBK4.out.keep (below_drewN (Below.refl _ _) n)) (by have := HM.out; omega) HM.out.1
    rw [if_neg (by decide), HRE.out] at hr
    exact hr⟩
  have y0 : w4.cell? ⟨g7, 0, none⟩ = some (.slice A1 n1 c1) := HSP.out.cell 0
  have hlen : ∀ (tr : TypeId) (W : World), (Builtin.len_ #[22] tr #[.slice A1 n1 c1]).run Try.prog W = .ok (.int .i64 (L : Int)) W := fun tr W => by
    have h := HU4.out.bs.run_len tr W
    rw [HLL.out] at h
    exact h
  have hdf := HDF.out
  go_upto_region 9 with fail
  go_quiet (first | (go_at_call 101; exact Calls.quiet_of (HRM.out _)))
  rename Nat => nr
  have HBr : Bx (Below w4.heap.size w4 (w4.drewN nr)) := ⟨below_drewN (Below.refl _ _) _⟩
  obtain ⟨w5, hw5⟩ : ∃ W, w4.drewN nr = W := ⟨_, rfl⟩
  rw [hw5] at HBr ⊢
  have HBK5 := Bx.mk (HBK4.out.keep HBr.out)
  have HSF5 : Bx (Sb 28 w5 gf (fraA 1 F S fv)) := ⟨HSF4.out.keep HBr.out⟩
  have HSP5 := Bx.mk (HSP.out.keep HBr.out)
  have HU5 := Bx.mk (HU4.out.keep HBr.out)
  have HB5 := Bx.mk (HB4.out.trans (HBr.out.mono HB4.out.size))
  have HFP5 : Bx (Fp (Sg g B) w w5) := ⟨Fp.of_below HB5.out⟩
  clear hw5 HBr HBK4 HSF4 HSP HU4 HB4 HRM y0 hdf
  have HBEG := Bx.mk (bkBegin_any HBK5.out 1 F S fv z1 HZ1.out)
  go_upto_region 13 with (first
    | (with_reducible refine wpList_loadFra gf 1 F S fv rfl HSF5.out ?_)
    | (go_at_call 102; refine HBEG.out.mono ?_; rintro e w5b ⟨rfl, hbk, hfp⟩; have HBKb := Bx.mk hbk; have HFPb := Bx.mk hfp; clear hbk hfp))
  have HGG : Bx (g < w.heap.size) := ⟨HBK.out.1.lt⟩
  replace HSP5 := Bx.mk (HSP5.out.fp HFPb.out (by have h1 := HGG.out; have h2 := HG7.out; have h3 := HB2.out.size; omega))
  replace HSF5 := Bx.mk (HSF5.out.fp HFPb.out (by have h1 := HGG.out; have h2 := HGF.out; omega))
  replace HU5 := Bx.mk (HU5.out.kept fun k hk => HFPb.out.block k (HU5.out.lt hk) (fun e => by have h1 := HU5.out.ge hk; have h2 := HGG.out; have h3 := HB2.out.size; omega))
  replace HFP5 : Bx (Fp (Sg g B) w w5b) := ⟨HFP5.out.then (HFPb.out.mono fun k h => .inl h)⟩
  replace HBK5 := HBKb
  clear HBKb HFPb HBEG HB5
  rename World => w5
  obtain ⟨Ax, nx, cx, hx⟩ : ∃ Ax nx cx, (nilV : Value) = .slice Ax nx cx := ⟨_, _, _, rfl⟩
  rw [hx] at HBK5
  clear hx
  have HBKd := Bx.mk (HBK5.out.keep (Below.refl _ _).drew)
  have HUd := Bx.mk (HU5.out.keep (Below.refl _ _).drew)
  obtain ⟨v7, w7, hrun, o7, g7b⟩ := run_bytes_own w5.drew 22 B (.slice Ax nx cx) (.slice A1 n1 c1) ([] : List UInt8) l HBKd.out.2 HUd.out.bs (by simp) (by have := HM.out; omega) (by have h1 := HBB.out; have h2 := HFP5.out.size; show B ≤ w5.heap.size; omega)
  have x5 : w5.drew.cell? ⟨g, 5, none⟩ = some (.slice Ax nx cx) := HBKd.out.c5
  have y0 : w5.drew.cell? ⟨g7, 0, none⟩ = some (.slice A1 n1 c1) := (HSP5.out.keep (Below.refl _ _).drew).cell 0
  have HS7 : Bx (Sb 148 w7 g (bkA (M : Int) false false S z1 (.slice Ax nx cx))) := ⟨HBKd.out.1.grown g7b HBKd.out.ne⟩
  have HSP7 : Bx (Sb 50 w7 g7 (payA (.slice A1 n1 c1) (.slice A2 n2 c2) cc ss ii)) := ⟨(HSP5.out.keep (Below.refl _ _).drew).grown g7b (HBKd.out.2.neSb (HSP5.out.keep (Below.refl _ _).drew) (by decide))⟩
  have HSF7 : Bx (Sb 28 w7 gf (fraA 1 F S fv)) := ⟨(HSF5.out.keep (Below.refl _ _).drew).grown g7b (HBKd.out.2.neSb (HSF5.out.keep (Below.refl _ _).drew) (by decide))⟩
  have HO7 := Bx.mk o7
  have HFP7 : Bx (Fp (Sg g B) w w7) := ⟨(HFP5.out.then (Fp.of_below (Below.refl _ _).drew)).then (Fp.of_grown g7b fun k hk => .inr (HBKd.out.2.ge hk))⟩
  obtain ⟨A7, n7, c7, hsh⟩ := o7.shape
  subst hsh
  have hS7 : w7.cell? ⟨g, 5, none⟩ = some (.slice Ax nx cx) ∧ w7.cell? ⟨g7, 0, none⟩ = some (.slice A1 n1 c1) := ⟨HS7.out.cell 5, HSP7.out.cell 0⟩
  have x5b := hS7.1
  have x5f := HS7.out.free 5
  clear o7 g7b
  refine wp_region_x 10 (fun W => W.cell? ⟨g, 5, none⟩ = some (.slice Ax nx cx) ∧ W.cell? ⟨g7, 0, none⟩ = some (.slice A1 n1 c1)) (by kernel_rfl) (⟨x5, y0⟩) (fun hHeld => ?_)
  refine wpAnyX_take0 (i := 0) (oi := ⟨some 56, Op.move (Operand.tmp 0), 103, _, _, none⟩) (v := ?v0) rfl (by omega) (by kernel_rfl) (by kernel_rfl) (by kernel_rfl) (fun _ _ _ h => h) (Or.inl ⟨by rfl, ?y0⟩) (by assumption) ?r0
  case y0 =>
    intro W hSw
    try dsimp only at hSw
    go_simp
    try with_reducible rfl
  case r0 =>
  try simp only [Act.put, List.setIfInBounds_toArray, List.set_cons_zero, List.set_cons_succ]
  refine wpAnyX_take0 (i := 1) (oi := ⟨some 57, Op.move (Operand.tmp 0), 103, _, _, none⟩) (v := ?v1) rfl (by omega) (by kernel_rfl) (by kernel_rfl) (by kernel_rfl) (fun _ _ _ h => h) (Or.inl ⟨by rfl, ?y1⟩) (by assumption) ?r1
  case y1 =>
    intro W hSw
    try dsimp only at hSw
    go_simp
    try with_reducible rfl
  case r1 =>
  try simp only [Act.put, List.setIfInBounds_toArray, List.set_cons_zero, List.set_cons_succ]
  refine wpAnyX_take0 (i := 2) (oi := ⟨some 58, Op.nilCheck (Operand.tmp 57), 0, _, _, none⟩) (v := ?v2) rfl (by omega) (by kernel_rfl) (by kernel_rfl) (by kernel_rfl) (fun _ _ _ h => h) (Or.inl ⟨by rfl, ?y2⟩) (by assumption) ?r2
  case y2 =>
    intro W hSw
    try dsimp only at hSw
    go_simp
    try with_reducible rfl
  case r2 =>
  try simp only [Act.put, List.setIfInBounds_toArray, List.set_cons_zero, List.set_cons_succ]
  refine wpAnyX_take0 (i := 3) (oi := ⟨some 59, Op.fieldAddr 148 (Operand.tmp 58) 5, 0, _, _, none⟩) (v := ?v3) rfl (by omega) (by kernel_rfl) (by kernel_rfl) (by kernel_rfl) (fun _ _ _ h => h) (Or.inl ⟨by rfl, ?y3⟩) (by assumption) ?r3
  case y3 =>
    intro W hSw
    try dsimp only at hSw
    go_simp
    try with_reducible rfl
  case r3 =>
  try simp only [Act.put, List.setIfInBounds_toArray, List.set_cons_zero, List.set_cons_succ]
  refine wpAnyX_take (i := 4) (oi := ⟨some 60, Op.load 22 (Operand.tmp 59), 22, _, _, none⟩) (v := ?v4) rfl (by omega) (by kernel_rfl) (by kernel_rfl) (by kernel_rfl) (by kernel_rfl) (by kernel_rfl) (fun _ _ _ h => h) (Or.inl ⟨by rfl, ?y4⟩) (by assumption) ?r4
  case y4 =>
    intro W hSw
    try dsimp only at hSw
    go_simp
    try with_reducible rfl
  case r4 =>
  try simp only [Act.put, List.setIfInBounds_toArray, List.set_cons_zero, List.set_cons_succ]
  refine wpAnyX_take0 (i := 5) (oi := ⟨some 61, Op.fieldAddr 50 (Operand.tmp 7) 0, 0, _, _, none⟩) (v := ?v5) rfl (by omega) (by kernel_rfl) (by kernel_rfl) (by kernel_rfl) (fun _ _ _ h => h) (Or.inl ⟨by rfl, ?y5⟩) (by assumption) ?r5
  case y5 =>
    intro W hSw
    try dsimp only at hSw
    go_simp
    try with_reducible rfl
  case r5 =>
  try simp only [Act.put, List.setIfInBounds_toArray, List.set_cons_zero, List.set_cons_succ]
  refine wpAnyX_take (i := 6) (oi := ⟨some 62, Op.load 22 (Operand.tmp 61), 22, _, _, none⟩) (v := ?v6) rfl (by omega) (by kernel_rfl) (by kernel_rfl) (by kernel_rfl) (by kernel_rfl) (by kernel_rfl) (fun _ _ _ h => h) (Or.inl ⟨by rfl, ?y6⟩) (by assumption) ?r6
  case y6 =>
    intro W hSw
    try dsimp only at hSw
    go_simp
    try with_reducible rfl
  case r6 =>
  try simp only [Act.put, List.setIfInBounds_toArray, List.set_cons_zero, List.set_cons_succ]
  refine wpAnyX_one (i := 7) (by kernel_rfl) rfl (fun K hK => ?_)
  refine step_append_run rfl (.tmp 60) (.tmp 62) 22 rfl (.slice Ax nx cx) _ rfl rfl hrun ?_
  refine hK _ _ (fun _ => hS7) ?_
  clear hK K
  try simp only [Act.put, List.setIfInBounds_toArray, List.set_cons_zero, List.set_cons_succ]
  refine wpAnyX_take0 (i := 8) (oi := ⟨some 64, Op.nilCheck (Operand.tmp 56), 0, _, _, none⟩) (v := ?v8) rfl (by omega) (by kernel_rfl) (by kernel_rfl) (by kernel_rfl) (fun _ _ _ h => h) (Or.inl ⟨by rfl, ?y8⟩) (by assumption) ?r8
  case y8 =>
    intro W hSw
    try dsimp only at hSw
    go_simp
    try with_reducible rfl
  case r8 =>
  try simp only [Act.put, List.setIfInBounds_toArray, List.set_cons_zero, List.set_cons_succ]
  refine wpAnyX_take0 (i := 9) (oi := ⟨some 65, Op.fieldAddr 148 (Operand.tmp 64) 5, 0, _, _, none⟩) (v := ?v9) rfl (by omega) (by kernel_rfl) (by kernel_rfl) (by kernel_rfl) (fun _ _ _ h => h) (Or.inl ⟨by rfl, ?y9⟩) (by assumption) ?r9
  case y9 =>
    intro W hSw
    try dsimp only at hSw
    go_simp
    try with_reducible rfl
  case r9 =>
  try simp only [Act.put, List.setIfInBounds_toArray, List.set_cons_zero, List.set_cons_succ]
  refine wpAnyX_one (i := 10) (by kernel_rfl) rfl (fun K hK => ?_)
  go_simp
  refine hK _ _ (fun h => absurd h (by decide)) ?_
  clear hK K
  try simp only [Act.put, List.setIfInBounds_toArray, List.set_cons_zero, List.set_cons_succ]
  refine wpAnyX_done (by kernel_rfl) ?_ _
  have HBK8 : Bx (Bk (w7.setCell ⟨g, 5, none⟩ (.slice A7 n7 c7)) g B M false false S z1 (.slice A7 n7 c7) (([] : List UInt8) ++ l)) := ⟨Bk.bytes HS7.out HO7.out⟩
  have HSF8 : Bx (Sb 28 (w7.setCell ⟨g, 5, none⟩ (.slice A7 n7 c7)) gf (fraA 1 F S fv)) := ⟨HSF7.out.grown (grown_set w7 g 5 _) (fun e => by injection e with e; have h1 := HGF.out; have h2 := HBK.out.1.lt; omega)⟩
  have HFP8 : Bx (Fp (Sg g B) w (w7.setCell ⟨g, 5, none⟩ (.slice A7 n7 c7))) := ⟨HFP7.out.then (Fp.set _ _ ⟨g, 5, none⟩ _ (.inl rfl))⟩
  obtain ⟨w8, hw8⟩ : ∃ W, w7.setCell ⟨g, 5, none⟩ (.slice A7 n7 c7) = W := ⟨_, rfl⟩
  rw [hw8] at HBK8 HSF8 HFP8 ⊢
  clear hw8 x5 y0 hS7 x5b x5f hHeld hrun HS7 HSP7 HSF7 HO7 HFP7 HBKd HUd
  have e2 := HBK8.out.c2
  have e2f := HBK8.out.1.free 2
  have e1 : w8.cell? ⟨gf, 1, none⟩ = some (.int .u8 F) := HSF8.out.cell 1
  go_upto_region 15 with fail
  have HBK9 : Bx (Bk (w8.setCell ⟨g, 2, none⟩ (.bool z)) g B M false z S z1 (.slice A7 n7 c7) (([] : List UInt8) ++ l)) := ⟨HBK8.out.set 2 (.bool z) (by decide) rfl⟩
  have HFP9 : Bx (Fp (Sg g B) w (w8.setCell ⟨g, 2, none⟩ (.bool z))) := ⟨HFP8.out.then (Fp.set _ _ ⟨g, 2, none⟩ _ (.inl rfl))⟩
  obtain ⟨w9, hw9⟩ : ∃ W, w8.setCell ⟨g, 2, none⟩ (.bool z) = W := ⟨_, rfl⟩
  rw [hw9] at HBK9 HFP9 ⊢
  clear hw9 e2 e2f e1 HBK8 HFP8 HSF8
  have e2 := HBK9.out.c2
  have e1 := HBK9.out.c1
  have e1f := HBK9.out.1.free 1
  go_upto_region 16 with fail
  have HBK10 : Bx (Bk (w9.setCell ⟨g, 1, none⟩ (.bool (!z))) g B M (!z) z S z1 (.slice A7 n7 c7) (([] : List UInt8) ++ l)) := ⟨HBK9.out.set 1 (.bool (!z)) (by decide) rfl⟩
  have HFP10 : Bx (Fp (Sg g B) w (w9.setCell ⟨g, 1, none⟩ (.bool (!z)))) := ⟨HFP9.out.then (Fp.set _ _ ⟨g, 1, none⟩ _ (.inl rfl))⟩
  obtain ⟨w10, hw10⟩ : ∃ W, w9.setCell ⟨g, 1, none⟩ (.bool (!z)) = W := ⟨_, rfl⟩
  rw [hw10] at HBK10 HFP10 ⊢
  clear hw10 e2 e1 e1f HBK9 HFP9
  have e2 := HBK10.out.c2
  go_wp2_with fail
  go_ret2
  exact ⟨rfl, ⟨_, HBK10.out⟩, HFP10.out⟩
set_option maxRecDepth 100000 in
set_option maxHeartbeats 8000000 in
theorem bkAdd_firstOver (h : Bk w g B M false wh st en v D) (hB : B ≤ w.heap.size) (hM : M ≤ 1000000) (hD : D.length ≤ M) (fl sn : Nat) (hfl : fl = 0 ∨ fl = 1 ∨ fl = 4 ∨ fl = 5) (hsn : sn < 4294967296) (hs0 : ¬ sn % 2147483648 = 0) (F S : Int) (hF : (fl : Int) = F) (hS : (sn : Int) = S) (fv : Value) (l : List UInt8) (hl : Bs w fv l) (hll : l.length ≤ 1000000) (z z1 : Bool) (hz : (bits .and .u8 F 4 != 0) = z) (hz1 : (bits .and .u8 F 1 != 0) = z1) (hfit : M < l.length) :
    Calls Try.prog 66 #[.pointer (some ⟨g, 0, none⟩), .agg (fraA 1 F S fv)] w fun e w' => e = .returned (.tuple #[.bool false, .int .i64 3]) ∧ Below w.heap.size w w' := by
  have HR := Bx.mk (fun W (h : Bs W fv l) => pyRead_block 1 fl sn (by omega) hfl hsn hs0 fv l W 1 F S rfl hF hS h hll)
  have HBK := Bx.mk h
  have HV := Bx.mk hl
  have HM := Bx.mk (And.intro hM (And.intro hD (And.intro hll hfit)))
  have HBB := Bx.mk hB
  have HZ1 := Bx.mk hz1
  obtain ⟨A, n, c, rfl⟩ := h.shape
  obtain ⟨L, hL⟩ : ∃ L, l.length = L := ⟨_, rfl⟩
  have HLL := Bx.mk hL
  obtain ⟨RM, hRM⟩ : ∃ RM : Int, (M : Int) = RM := ⟨_, rfl⟩
  have HRE := Bx.mk hRM
  have HDF : Bx (decide (RM < (L : Int)) = true) := ⟨by
    rw [← hRM]
    apply decide_eq_true
    omega⟩
  clear hRM h hl hM hD hll hfit hB hF hS hfl hsn hs0 hz1
  go_enter Try.func66, Try.ntmps66
  go_upto_region 1 with fail
  have HB1 : Bx (Below w.heap.size w (w.alloc (.cells (fraA 1 F S fv) 28))) := ⟨(Below.refl _ _).alloc (Nat.le_refl _) _⟩
  have HSF : Bx (Sb 28 (w.alloc (.cells (fraA 1 F S fv) 28)) w.heap.size (fraA 1 F S fv)) := ⟨Sb.new _ w _⟩
  obtain ⟨w1, hw1⟩ : ∃ W, w.alloc (.cells (fraA 1 F S fv) 28) = W := ⟨_, rfl⟩
  obtain ⟨gf, hgf⟩ : ∃ k, w.heap.size = k := ⟨_, rfl⟩
  have HBK1 := Bx.mk (HBK.out.keep HB1.out)
  rw [hw1] at HB1 HSF HBK1 ⊢
  rw [hgf] at HSF ⊢
  have HGF : Bx (w.heap.size ≤ gf) := ⟨by omega⟩
  clear hw1 hgf
  have c1 := HBK1.out.c1
  have c3 := HBK1.out.c3
  have f0 : w1.cell? ⟨gf, 0, none⟩ = some (.int .u8 1) := HSF.out.cell 0
  have f1 : w1.cell? ⟨gf, 1, none⟩ = some (.int .u8 F) := HSF.out.cell 1
  have f2 : w1.cell? ⟨gf, 2, none⟩ = some (.int .u32 S) := HSF.out.cell 2
  go_upto_region 2 with fail
  go_quiet (fail)
  rename_i nq
  have HBq : Bx (Below w1.heap.size w1 (w1.drewN nq)) := ⟨below_drewN (Below.refl _ _) _⟩
  obtain ⟨w2, hw2⟩ : ∃ W, w1.drewN nq = W := ⟨_, rfl⟩
  rw [hw2] at HBq ⊢
  have HBK2 := Bx.mk (HBK1.out.keep HBq.out)
  have HSF2 : Bx (Sb 28 w2 gf (fraA 1 F S fv)) := ⟨HSF.out.keep HBq.out⟩
  have HB2 := Bx.mk (HB1.out.trans (HBq.out.mono HB1.out.size))
  have HV2 := Bx.mk (HV.out.keep HB2.out)
  clear hw2 HBq HBK1 HSF HB1 c1 c3 f0 f1 f2
  have f0 : w2.cell? ⟨gf, 0, none⟩ = some (.int .u8 1) := HSF2.out.cell 0
  go_upto_region 9 with (first
    | (with_reducible refine wpList_loadFra gf 1 F S fv rfl HSF2.out ?_)
    | (go_at_call 31; refine (HR.out _ HV2.out).mono ?_; rintro e w3 ⟨A1, n1, c1, A2, n2, c2, cc, ss, ii, rfl, hu, b3⟩; have HU3 := Bx.mk hu; have HC3 := Bx.mk b3; clear hu b3))
  have HC4 := Bx.mk (HC3.out.alloc HC3.out.size (.cells (payA (.slice A1 n1 c1) (.slice A2 n2 c2) cc ss ii) 50))
  have HU4 := Bx.mk (HU3.out.alloc (.cells (payA (.slice A1 n1 c1) (.slice A2 n2 c2) cc ss ii) 50))
  have HSP : Bx (Sb 50 (w3.alloc (.cells (payA (.slice A1 n1 c1) (.slice A2 n2 c2) cc ss ii) 50)) w3.heap.size (payA (.slice A1 n1 c1) (.slice A2 n2 c2) cc ss ii)) := ⟨Sb.new _ w3 _⟩
  have HG7 : Bx (w2.heap.size ≤ w3.heap.size) := ⟨HC3.out.size⟩
  obtain ⟨w4, hw4⟩ : ∃ W, w3.alloc (.cells (payA (.slice A1 n1 c1) (.slice A2 n2 c2) cc ss ii) 50) = W := ⟨_, rfl⟩
  obtain ⟨g7, hg7⟩ : ∃ k, w3.heap.size = k := ⟨_, rfl⟩
  rw [hw4] at HC4 HU4 HSP ⊢
  rw [hg7] at HSP HG7 ⊢
  have HBK4 := Bx.mk (HBK2.out.keep HC4.out)
  have HSF4 := Bx.mk (HSF2.out.keep HC4.out)
  have HB4 := Bx.mk (HB2.out.trans (HC4.out.mono HB2.out.size))
  clear hw4 hg7 HC3 HU3 HBK2 HSF2 HV2 HR f0
  have HRM : Bx (∀ n, Calls Try.prog 101 #[.pointer (some ⟨g, 0, none⟩)] (w4.drewN n) fun e w' => e = .returned (.int .i64 RM) ∧ ∃ m, w' = (w4.drewN n).drewN m) := ⟨fun n => by
    have hr := bkRoom_any (HBK4.out.keep (below_drewN (Below.refl _ _) n)) (by have := HM.out; omega) HM.out.1
    rw [if_neg (by decide), HRE.out] at hr
    exact hr⟩
  have y0 : w4.cell? ⟨g7, 0, none⟩ = some (.slice A1 n1 c1) := HSP.out.cell 0
  have hlen : ∀ (tr : TypeId) (W : World), (Builtin.len_ #[22] tr #[.slice A1 n1 c1]).run Try.prog W = .ok (.int .i64 (L : Int)) W := fun tr W => by
    have h := HU4.out.bs.run_len tr W
    rw [HLL.out] at h
    exact h
  have hdf := HDF.out
  go_upto_region 9 with fail
  go_quiet (first | (go_at_call 101; exact Calls.quiet_of (HRM.out _)))
  rename Nat => nr
  go_wp2_with fail
  go_ret2
  exact ⟨rfl, below_drewN HB4.out _⟩
end
end Go.Proofs.Ytenoaljghbpaaaa
