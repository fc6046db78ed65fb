/-
  The document's Read.
-/
import Derived.Test.YtenoaljghbpaaaaSbS
import Derived.Test.YtenoaljghbpaaaaApZ
import Derived.Test.YtenoaljghbpaaaaDnStep
import Derived.Test.YtenoaljghbpaaaaFrA
import Derived.Test.YtenoaljghbpaaaaSliceM
namespace Go.Proofs.Ytenoaljghbpaaaa
open Go.RowKit
set_option linter.unusedVariables false
set_option linter.unusedSimpArgs false

abbrev zeroFr : Array Value := #[.int .u8 0, .int .u8 0, .int .u32 0, .slice none 0 0]
theorem fr_size : (Try.prog.info? 28).map (·.size) = some 4 := by kernel_rfl
section
variable {ops : Array Oper} {Q : Exit → Act → World → Prop} {a : Act} {w : World} {rest : List Oper}
/-- A store of a whole frame. -/
theorem wpList_storeFr {x y : Operand} {tr : TypeId} {pos : String} {af : Array Edge} (g : Nat) (c0 c1 c2 c3 d0 d1 d2 d3 : Value) (he : (#[d0, d1, d2, d3] : Array Value).all (·.oneCell') = true)
    (hx : a.eval x = .pointer (some ⟨g, 0, none⟩)) (hy : a.eval y = .agg #[d0, d1, d2, d3]) (hs : Sb 28 w g #[c0, c1, c2, c3])
    (h : ∀ w2, Sb 28 w2 g #[d0, d1, d2, d3] → w.grownBy w2 (some g) → wpList Try.prog ops Q rest (a.put none undef) w2) :
    wpList Try.prog ops Q (⟨none, .store 28 x y, tr, pos, af, none⟩ :: rest) a w :=
  wpList_storeS 28 g #[c0, c1, c2, c3] #[d0, d1, d2, d3] hx hy hs fr_size rfl he h
end
def rdMost (most : Int) : Int := min (max most 16384) 16777215
/-- What Read answers: type, flags, stream, bytes; how many; which error. -/
def rdF (b : List UInt8) (most : Int) : (Nat × Nat × Nat × List UInt8) × Nat × Nat :=
  if b.length < 9 then ((0, 0, 0, []), 0, 20) else if rdMost most < (rb (b.take 3) : Int) then ((0, 0, 0, []), 0, 30) else if b.length - 9 < rb (b.take 3) then ((0, 0, 0, []), 0, 20)
  else (((b.getD 3 0).toNat, (b.getD 4 0).toNat, rb ((b.drop 5).take 4) % 2147483648, (b.drop 9).take (rb (b.take 3))), 9 + rb (b.take 3), 0)
theorem rdF_yes (b : List UInt8) (most : Int) (N S S31 t3 t4 : Nat) (T : List UInt8) (h9 : 9 ≤ b.length) (hN : rb (b.take 3) = N) (hM : ¬ rdMost most < (N : Int)) (hL : N ≤ b.length - 9)
    (hS : rb ((b.drop 5).take 4) = S) (hs : S % 2147483648 = S31) (h3 : (b.getD 3 0).toNat = t3) (h4 : (b.getD 4 0).toNat = t4) (hT : (b.drop 9).take N = T) : rdF b most = ((t3, t4, S31, T), 9 + N, 0) := by
  unfold rdF
  rw [if_neg (by omega), hN, if_neg hM, if_neg (by omega), hS, hs, h3, h4, hT]
def RdPost (w : World) (R : (Nat × Nat × Nat × List UInt8) × Nat × Nat) (e : Ending) (w' : World) : Prop :=
  ∃ raw, e = .returned (.tuple #[.agg (frA ⟨R.1.1, R.1.2.1, R.1.2.2.1, raw, R.1.2.2.2⟩), .int .i64 (R.2.1 : Int), .int .i64 (R.2.2 : Int)]) ∧ Bs w' raw R.1.2.2.2 ∧ Below w.heap.size w w'
theorem ret_Fr {p u u2 : Tmp} {fn : Func} (h : fn.results = #[.cell p 28, .tmp u, .tmp u2]) (tmps : Array Value) (w : World) (g : Nat) (c0 c1 c2 c3 v v2 : Value)
    (hp : tmps.getD p undef = .pointer (some ⟨g, 0, none⟩)) (hv : tmps.getD u undef = v) (hv2 : tmps.getD u2 undef = v2) (hg : Sb 28 w g #[c0, c1, c2, c3]) :
    (results fn tmps).run Try.prog w = .ok (.tuple #[.agg #[c0, c1, c2, c3], v, v2]) w :=
  ret_S3 h tmps w g 28 _ v v2 _ hp hv hv2 hg Try.underlying28 rfl fr_size
set_option maxRecDepth 100000 in
set_option maxHeartbeats 8000000 in
theorem refRead_any (v : Value) (b : List UInt8) (most : Int) (w : World) (hv : Bs w v b) (hm1 : -9223372036854775808 ≤ most) (hm2 : most ≤ 9223372036854775807) (hbl : b.length ≤ 500000) :
    Calls Try.prog 26 #[v, .int .i64 most] w (RdPost w (rdF b most)) := by
  have hlen := fun tr W => hv.run_len tr W
  obtain ⟨R, hR⟩ : ∃ R, rdF b most = R := ⟨_, rfl⟩
  have HR := Bx.mk hR
  have HV := Bx.mk hv
  rw [hR]
  clear hR
  have HZ : Bx (Sb 28 (w.alloc (.cells zeroFr 28)) w.heap.size zeroFr) := ⟨Sb.new _ w _⟩
  have HB : Bx (Below w.heap.size w (w.alloc (.cells zeroFr 28))) := ⟨(Below.refl _ _).alloc (Nat.le_refl _) _⟩
  obtain ⟨g, hg⟩ : ∃ g, w.heap.size = g := ⟨_, rfl⟩
  obtain ⟨w1, hw1⟩ : ∃ W, w.alloc (.cells zeroFr 28) = W := ⟨_, rfl⟩
  have hw1' := hw1
  unfold zeroFr at hw1'
  rw [hw1, hg] at HZ
  rw [hw1] at HB
  have HG := Bx.mk hg
  have hb1 := hv.keep HB.out
  obtain ⟨L, hL⟩ : ∃ n, b.length = n := ⟨_, rfl⟩
  rw [hL] at hlen hbl
  have HL := Bx.mk (And.intro hL hbl)
  by_cases h9 : L < 9
  · have hd9 : decide ((L : Int) < 9) = true := decide_eq_true (by omega)
    have HRE : Bx (R = ((0, 0, 0, []), 0, 20)) := ⟨by rw [← HR.out]; unfold rdF; rw [if_pos (by rw [HL.out.1]; exact h9)]⟩
    clear hv hb1 hL hw1
    go_enter Try.func26, Try.ntmps26
    go_wp2_with (with_reducible refine wpList_storeFr g (.int .u8 0) (.int .u8 0) (.int .u32 0) (.slice none 0 0) (.int .u8 0) (.int .u8 0) (.int .u32 0) (.slice none 0 0) (by simp [Value.oneCell']) rfl rfl HZ.out ?_; intro w5 hs5 hg5; have HS5 := Bx.mk hs5; have HB5 := Bx.mk (HB.out.grown hg5 HB.out.size (fun k hk => by injection hk with hk; have := HG.out; omega)); clear hs5 hg5)
    rw [HRE.out]
    exact bodyPost_ret (ret_Fr Try.results26 _ _ g _ _ _ _ _ _ rfl rfl rfl HS5.out) rfl ⟨_, rfl, Rd.nil _, HB5.out⟩
  have hd9 : decide ((L : Int) < 9) = false := decide_eq_false (by omega)
  obtain ⟨N, hN⟩ : ∃ n, rb (b.take 3) = n := ⟨_, rfl⟩
  have hN24 : N < 16777216 := by rw [← hN]; exact rb_lt_n _ 3 (by rw [List.length_take]; omega)
  have HRB := fun (W : World) (h : Bs W v b) => refReadBig_ok v b 3 W h (by omega) (by omega) (by omega) (by omega)
  rw [show (3 : Int).toNat = 3 from rfl, hN] at HRB
  obtain ⟨M, hM⟩ : ∃ n, rdMost most = n := ⟨_, rfl⟩
  have hMv : min (max most 16384) 16777215 = M := hM
  have hM1 : 16384 ≤ M ∧ M ≤ 16777215 := by rw [← hMv]; omega
  have hMw : IntKind.u64.wrap M = M := IntWalk.u64_in _ ⟨by omega, by omega⟩
  by_cases hbig : M < (N : Int)
  · have hdb : decide (M < (N : Int)) = true := decide_eq_true hbig
    have HRE : Bx (R = ((0, 0, 0, []), 0, 30)) := ⟨by rw [← HR.out]; unfold rdF; rw [if_neg (by rw [HL.out.1]; exact h9), if_pos (by rw [hM, hN]; exact hbig)]⟩
    clear hv hL hw1 hM hN
    go_enter Try.func26, Try.ntmps26
    go_wp2_with (first
      | (go_at_call 77; refine (HRB w1 hb1).mono ?_; rintro e w2 ⟨rfl, rfl⟩)
      | (with_reducible refine wpList_storeFr g (.int .u8 0) (.int .u8 0) (.int .u32 0) (.slice none 0 0) (.int .u8 0) (.int .u8 0) (.int .u32 0) (.slice none 0 0) (by simp [Value.oneCell']) rfl rfl HZ.out ?_; intro w5 hs5 hg5; have HS5 := Bx.mk hs5; have HB5 := Bx.mk (HB.out.grown hg5 HB.out.size (fun k hk => by injection hk with hk; have := HG.out; omega)); clear hs5 hg5))
    rw [HRE.out]
    exact bodyPost_ret (ret_Fr Try.results26 _ _ g _ _ _ _ _ _ rfl rfl rfl HS5.out) rfl ⟨_, rfl, Rd.nil _, HB5.out⟩
  have hdb : decide (M < (N : Int)) = false := decide_eq_false hbig
  have hs9 : wrap64 ((L : Int) - 9) = (L : Int) - 9 := by unfold wrap64; omega
  have hu9 : IntKind.u64.wrap ((L : Int) - 9) = (L : Int) - 9 := IntWalk.u64_in _ ⟨by omega, by omega⟩
  by_cases hcut : (L : Int) - 9 < (N : Int)
  · have hdc : decide ((L : Int) - 9 < (N : Int)) = true := decide_eq_true hcut
    have HRE : Bx (R = ((0, 0, 0, []), 0, 20)) := ⟨by rw [← HR.out]; unfold rdF; rw [if_neg (by rw [HL.out.1]; exact h9), if_neg (by rw [hM, hN]; exact hbig), if_pos (by rw [HL.out.1, hN]; omega)]⟩
    clear hv hL hw1 hM hN
    go_enter Try.func26, Try.ntmps26
    go_wp2_with (first
      | (go_at_call 77; refine (HRB w1 hb1).mono ?_; rintro e w2 ⟨rfl, rfl⟩)
      | (with_reducible refine wpList_storeFr g (.int .u8 0) (.int .u8 0) (.int .u32 0) (.slice none 0 0) (.int .u8 0) (.int .u8 0) (.int .u32 0) (.slice none 0 0) (by simp [Value.oneCell']) rfl rfl HZ.out ?_; intro w5 hs5 hg5; have HS5 := Bx.mk hs5; have HB5 := Bx.mk (HB.out.grown hg5 HB.out.size (fun k hk => by injection hk with hk; have := HG.out; omega)); clear hs5 hg5))
    rw [HRE.out]
    exact bodyPost_ret (ret_Fr Try.results26 _ _ g _ _ _ _ _ _ rfl rfl rfl HS5.out) rfl ⟨_, rfl, Rd.nil _, HB5.out⟩
  have hdc : decide ((L : Int) - 9 < (N : Int)) = false := decide_eq_false hcut
  have hL9 : 9 ≤ b.length := by rw [hL]; omega
  have hL9n : N ≤ b.length - 9 := by rw [hL]; omega
  have hMn : ¬ rdMost most < (N : Int) := by rw [hM]; exact hbig
  obtain ⟨v5, r5, k5⟩ := hv.from_ 5 (by omega) (by rw [hL]; omega)
  have HB5 := Bx.mk (k5 w1 hb1)
  rw [show (5 : Int).toNat = 5 from rfl] at HB5
  obtain ⟨S, hS⟩ : ∃ n, rb ((b.drop 5).take 4) = n := ⟨_, rfl⟩
  have hS32 : S < 4294967296 := by rw [← hS]; exact rb_lt_n _ 4 (by rw [List.length_take]; omega)
  have HRS := refReadBig_ok v5 (b.drop 5) 4 w1 HB5.out (by omega) (by omega) (by rw [List.length_drop]; omega) (by rw [List.length_drop]; omega)
  rw [show (4 : Int).toNat = 4 from rfl, hS] at HRS
  have HRS' := Bx.mk HRS
  have hSw : IntKind.u32.wrap (S : Int) = (S : Int) := IntWalk.u32_in _ ⟨by omega, by omega⟩
  have hSm := u32_mask31 S hS32
  obtain ⟨p3, i3, q3⟩ := hv.at_ 3 (by omega)
  obtain ⟨p4, i4, q4⟩ := hv.at_ 4 (by omega)
  have j3 : ∀ W : World, (Instr.indexAt 22 v (.int .i64 3)).run Try.prog W = .ok (.pointer (some p3)) W := i3
  have j4 : ∀ W : World, (Instr.indexAt 22 v (.int .i64 4)).run Try.prog W = .ok (.pointer (some p4)) W := i4
  obtain ⟨vm, rm, km⟩ := hv.midK .i64 .u64 9 (9 + N) (by omega) (by omega) (by rw [hL]; omega)
  have HDN : (b.take (9 + (N : Int)).toNat).drop (9 : Int).toNat = (b.drop 9).take N := by
    rw [show (9 + (N : Int)).toNat = 9 + N from by omega, show (9 : Int).toNat = 9 from rfl, List.drop_take]; congr 1; omega
  rw [HDN] at km
  have hNm : (((b.drop 9).take N).map bv).length ≤ 500000 := by rw [List.length_map, List.length_take, List.length_drop]; omega
  have hsum : IntKind.u64.wrap (9 + (N : Int)) = 9 + (N : Int) := IntWalk.u64_in _ ⟨by omega, by omega⟩
  have hNi : IntKind.i64.wrap (N : Int) = (N : Int) := IntWalk.i64_in _ ⟨by omega, by omega⟩
  have hsum2 : IntKind.i64.wrap (9 + (N : Int)) = 9 + (N : Int) := IntWalk.i64_in _ ⟨by omega, by omega⟩
  have hsum3 : wrap64 (9 + (N : Int)) = 9 + (N : Int) := by unfold wrap64; omega
  obtain ⟨T, hT⟩ : ∃ X, (b.drop 9).take N = X := ⟨_, rfl⟩
  rw [hT] at km hNm
  have e3 : b.getD 3 0 = b[3] := by simp [List.getD, show 3 < b.length from by omega]
  have e4 : b.getD 4 0 = b[4] := by simp [List.getD, show 4 < b.length from by omega]
  obtain ⟨t3, ht3⟩ : ∃ x : Nat, (b[3] : UInt8).toNat = x := ⟨_, rfl⟩
  obtain ⟨t4, ht4⟩ : ∃ x : Nat, (b[4] : UInt8).toNat = x := ⟨_, rfl⟩
  obtain ⟨S31, hS31⟩ : ∃ x, S % 2147483648 = x := ⟨_, rfl⟩
  have HRE : Bx (R = ((t3, t4, S31, T), 9 + N, 0)) := ⟨by
    rw [← HR.out, rdF_yes b most N S S31 t3 t4 T hL9 hN hMn hL9n hS hS31 (by rw [e3, ht3]) (by rw [e4, ht4]) hT]⟩
  have HV1 := Bx.mk hb1
  have c3 := q3 w1 hb1
  have c4 := q4 w1 hb1
  have d3 : w1.drew.cell? p3 = some (.int .u8 ((b[3] : UInt8).toNat : Int)) := c3
  have d4 : w1.drew.cell? p4 = some (.int .u8 ((b[4] : UInt8).toNat : Int)) := c4
  rw [ht3] at c3 d3
  rw [ht4] at c4 d4
  obtain ⟨i0, hi, hz, hz1, hz2⟩ := info_parts infoU8a
  have Hi := Lib.hid hi
  have Hz := Lib.hid hz
  have Hz1 := Lib.hid hz1
  have Hz2 := Lib.hid hz2
  have HKM := Bx.mk km
  have HQ3 : Bx (∀ W : World, Bs W v b → W.cell? p3 = some (.int .u8 (t3 : Int))) := ⟨fun W h => by rw [q3 W h, ht3]⟩
  have HQ4 : Bx (∀ W : World, Bs W v b → W.cell? p4 = some (.int .u8 (t4 : Int))) := ⟨fun W h => by rw [q4 W h, ht4]⟩
  rw [hS31] at hSm
  have HSZ := Bx.mk HB.out.size
  clear hL9 hL9n hMn hi hz hz1 hz2 q3 q4 i3 i4 k5 km hv hL hw1 hM hN hS hb1 HRS HDN hT e3 e4 ht3 ht4 hS31
  go_enter Try.func26, Try.ntmps26
  go_upto_region 10 with (first
    | (have hmk := mk1; go_at_call 77; refine (HRS'.out).mono ?_; rintro e w2 ⟨rfl, rfl⟩)
    | (go_at_call 77; refine (HRB w1 HV1.out).mono ?_; rintro e w2 ⟨rfl, rfl⟩; have mk1 : True := trivial))
  have hSx := Below.refl w1.heap.size w1
  have HVm : ∀ W, Below w1.heap.size w1 W → Bs W vm T := fun W h => HKM.out W (HV1.out.keep h)
  have HNm : Bx (T.length ≤ 1000000) := ⟨by have := hNm; rw [List.length_map] at this; omega⟩
  have m3 : ∀ W, Below w1.heap.size w1 W → W.cell? p3 = some (.int .u8 (t3 : Int)) := fun W h => HQ3.out W (HV1.out.keep h)
  have m4 : ∀ W, Below w1.heap.size w1 W → W.cell? p4 = some (.int .u8 (t4 : Int)) := fun W h => HQ4.out W (HV1.out.keep h)
  clear c3 c4 d3 d4 hNm
  refine wp_region_x 18 (fun W => Below w1.heap.size w1 W) (by kernel_rfl) (hSx.drew) (fun hHeld => ?_)
  refine wpAnyX_take0 (i := 0) (oi := ⟨some 41, Op.move (Operand.tmp 0), 22, _, _, none⟩) (v := ?v0) rfl (by omega) (by kernel_rfl) (by kernel_rfl) (by kernel_rfl) (fun _ _ _ h => h) (Or.inl ⟨by rfl, ?y0⟩) (by assumption) ?r0
  case y0 =>
    intro W hSw
    try dsimp only at hSw
    go_simp
    try with_reducible rfl
  case r0 =>
  try simp only [Act.put, List.setIfInBounds_toArray, List.set_cons_zero, List.set_cons_succ]
  refine wpAnyX_take0 (i := 1) (oi := ⟨some 42, Op.indexAddr 22 (Operand.tmp 41) (Operand.const (Value.int IntKind.i64 3)), 0, _, _, none⟩) (v := ?v1) rfl (by omega) (by kernel_rfl) (by kernel_rfl) (by kernel_rfl) (fun _ _ _ h => h) (Or.inl ⟨by rfl, ?y1⟩) (by assumption) ?r1
  case y1 =>
    intro W hSw
    try dsimp only at hSw
    go_simp
    try with_reducible rfl
  case r1 =>
  try simp only [Act.put, List.setIfInBounds_toArray, List.set_cons_zero, List.set_cons_succ]
  refine wpAnyX_take (i := 2) (oi := ⟨some 43, Op.load 5 (Operand.tmp 42), 5, _, _, none⟩) (v := ?v2) rfl (by omega) (by kernel_rfl) (by kernel_rfl) (by kernel_rfl) (by kernel_rfl) (by kernel_rfl) (fun _ _ _ h => h) (Or.inl ⟨by rfl, ?y2⟩) (by assumption) ?r2
  case y2 =>
    intro W hSw
    try dsimp only at hSw
    go_simp
    try with_reducible rfl
  case r2 =>
  try simp only [Act.put, List.setIfInBounds_toArray, List.set_cons_zero, List.set_cons_succ]
  refine wpAnyX_take0 (i := 3) (oi := ⟨some 44, Op.move (Operand.tmp 0), 22, _, _, none⟩) (v := ?v3) rfl (by omega) (by kernel_rfl) (by kernel_rfl) (by kernel_rfl) (fun _ _ _ h => h) (Or.inl ⟨by rfl, ?y3⟩) (by assumption) ?r3
  case y3 =>
    intro W hSw
    try dsimp only at hSw
    go_simp
    try with_reducible rfl
  case r3 =>
  try simp only [Act.put, List.setIfInBounds_toArray, List.set_cons_zero, List.set_cons_succ]
  refine wpAnyX_take0 (i := 4) (oi := ⟨some 45, Op.indexAddr 22 (Operand.tmp 44) (Operand.const (Value.int IntKind.i64 4)), 0, _, _, none⟩) (v := ?v4) rfl (by omega) (by kernel_rfl) (by kernel_rfl) (by kernel_rfl) (fun _ _ _ h => h) (Or.inl ⟨by rfl, ?y4⟩) (by assumption) ?r4
  case y4 =>
    intro W hSw
    try dsimp only at hSw
    go_simp
    try with_reducible rfl
  case r4 =>
  try simp only [Act.put, List.setIfInBounds_toArray, List.set_cons_zero, List.set_cons_succ]
  refine wpAnyX_take (i := 5) (oi := ⟨some 46, Op.load 5 (Operand.tmp 45), 5, _, _, none⟩) (v := ?v5) rfl (by omega) (by kernel_rfl) (by kernel_rfl) (by kernel_rfl) (by kernel_rfl) (by kernel_rfl) (fun _ _ _ h => h) (Or.inl ⟨by rfl, ?y5⟩) (by assumption) ?r5
  case y5 =>
    intro W hSw
    try dsimp only at hSw
    go_simp
    try with_reducible rfl
  case r5 =>
  try simp only [Act.put, List.setIfInBounds_toArray, List.set_cons_zero, List.set_cons_succ]
  refine wpAnyX_take0 (i := 6) (oi := ⟨some 47, Op.move (Operand.tmp 9), 45, _, _, none⟩) (v := ?v6) rfl (by omega) (by kernel_rfl) (by kernel_rfl) (by kernel_rfl) (fun _ _ _ h => h) (Or.inl ⟨by rfl, ?y6⟩) (by assumption) ?r6
  case y6 =>
    intro W hSw
    try dsimp only at hSw
    go_simp
    try with_reducible rfl
  case r6 =>
  try simp only [Act.put, List.setIfInBounds_toArray, List.set_cons_zero, List.set_cons_succ]
  refine wpAnyX_take0 (i := 7) (oi := ⟨some 48, Op.convert 45 26 (Operand.tmp 47), 26, _, _, none⟩) (v := ?v7) rfl (by omega) (by kernel_rfl) (by kernel_rfl) (by kernel_rfl) (fun _ _ _ h => h) (Or.inl ⟨by rfl, ?y7⟩) (by assumption) ?r7
  case y7 =>
    intro W hSw
    try dsimp only at hSw
    go_simp
    try with_reducible rfl
  case r7 =>
  try simp only [Act.put, List.setIfInBounds_toArray, List.set_cons_zero, List.set_cons_succ]
  refine wpAnyX_take0 (i := 8) (oi := ⟨some 49, Op.binOp BinOp.and 26 (Operand.tmp 48) (Operand.const (Value.int IntKind.u32 2147483647)) 26, 26, _, _, none⟩) (v := ?v8) rfl (by omega) (by kernel_rfl) (by kernel_rfl) (by kernel_rfl) (fun _ _ _ h => h) (Or.inl ⟨by rfl, ?y8⟩) (by assumption) ?r8
  case y8 =>
    intro W hSw
    try dsimp only at hSw
    go_simp
    try with_reducible rfl
  case r8 =>
  try simp only [Act.put, List.setIfInBounds_toArray, List.set_cons_zero, List.set_cons_succ]
  refine wpAnyX_take0 (i := 9) (oi := ⟨some 50, Op.move (Operand.tmp 0), 22, _, _, none⟩) (v := ?v9) rfl (by omega) (by kernel_rfl) (by kernel_rfl) (by kernel_rfl) (fun _ _ _ h => h) (Or.inl ⟨by rfl, ?y9⟩) (by assumption) ?r9
  case y9 =>
    intro W hSw
    try dsimp only at hSw
    go_simp
    try with_reducible rfl
  case r9 =>
  try simp only [Act.put, List.setIfInBounds_toArray, List.set_cons_zero, List.set_cons_succ]
  refine wpAnyX_take0 (i := 10) (oi := ⟨some 51, Op.move (Operand.tmp 7), 45, _, _, none⟩) (v := ?v10) rfl (by omega) (by kernel_rfl) (by kernel_rfl) (by kernel_rfl) (fun _ _ _ h => h) (Or.inl ⟨by rfl, ?y10⟩) (by assumption) ?r10
  case y10 =>
    intro W hSw
    try dsimp only at hSw
    go_simp
    try with_reducible rfl
  case r10 =>
  try simp only [Act.put, List.setIfInBounds_toArray, List.set_cons_zero, List.set_cons_succ]
  refine wpAnyX_take0 (i := 11) (oi := ⟨some 52, Op.binOp BinOp.add 45 (Operand.const (Value.int IntKind.u64 9)) (Operand.tmp 51) 45, 45, _, _, none⟩) (v := ?v11) rfl (by omega) (by kernel_rfl) (by kernel_rfl) (by kernel_rfl) (fun _ _ _ h => h) (Or.inl ⟨by rfl, ?y11⟩) (by assumption) ?r11
  case y11 =>
    intro W hSw
    try dsimp only at hSw
    go_simp
    try with_reducible rfl
  case r11 =>
  try simp only [Act.put, List.setIfInBounds_toArray, List.set_cons_zero, List.set_cons_succ]
  refine wpAnyX_take0 (i := 12) (oi := ⟨some 53, Op.slice 22 (Operand.tmp 50) (some (Operand.const (Value.int IntKind.i64 9))) (some (Operand.tmp 52)) none, 22, _, _, none⟩) (v := ?v12) rfl (by omega) (by kernel_rfl) (by kernel_rfl) (by kernel_rfl) (fun _ _ _ h => h) (Or.inl ⟨by rfl, ?y12⟩) (by assumption) ?r12
  case y12 =>
    intro W hSw
    try dsimp only at hSw
    go_simp
    try with_reducible rfl
  case r12 =>
  try simp only [Act.put, List.setIfInBounds_toArray, List.set_cons_zero, List.set_cons_succ]
  refine wpAnyX_take0 (i := 15) (oi := ⟨some 56, Op.move (Operand.tmp 7), 45, _, _, none⟩) (v := ?v15) rfl (by omega) (by kernel_rfl) (by kernel_rfl) (by kernel_rfl) (fun _ _ _ h => h) (Or.inl ⟨by rfl, ?y15⟩) (by assumption) ?r15
  case y15 =>
    intro W hSw
    try dsimp only at hSw
    go_simp
    try with_reducible rfl
  case r15 =>
  try simp only [Act.put, List.setIfInBounds_toArray, List.set_cons_zero, List.set_cons_succ]
  refine wpAnyX_take0 (i := 16) (oi := ⟨some 57, Op.convert 45 3 (Operand.tmp 56), 3, _, _, none⟩) (v := ?v16) rfl (by omega) (by kernel_rfl) (by kernel_rfl) (by kernel_rfl) (fun _ _ _ h => h) (Or.inl ⟨by rfl, ?y16⟩) (by assumption) ?r16
  case y16 =>
    intro W hSw
    try dsimp only at hSw
    go_simp
    try with_reducible rfl
  case r16 =>
  try simp only [Act.put, List.setIfInBounds_toArray, List.set_cons_zero, List.set_cons_succ]
  refine wpAnyX_take0 (i := 17) (oi := ⟨some 58, Op.binOp BinOp.add 3 (Operand.const (Value.int IntKind.i64 9)) (Operand.tmp 57) 3, 3, _, _, none⟩) (v := ?v17) rfl (by omega) (by kernel_rfl) (by kernel_rfl) (by kernel_rfl) (fun _ _ _ h => h) (Or.inl ⟨by rfl, ?y17⟩) (by assumption) ?r17
  case y17 =>
    intro W hSw
    try dsimp only at hSw
    go_simp
    try with_reducible rfl
  case r17 =>
  try simp only [Act.put, List.setIfInBounds_toArray, List.set_cons_zero, List.set_cons_succ]
  refine wpAnyX_one (i := 13) (by kernel_rfl) rfl (fun K hK => ?_)
  obtain ⟨v8, w8, hr8, o8, g8⟩ := run_bytes_own _ 22 w1.heap.size (.slice none 0 0) vm [] T (OwB.nil _ _) (HVm _ hHeld) (by simp) HNm.out hHeld.size
  refine step_append_run rfl _ _ 22 rfl _ _ rfl rfl hr8 ?_
  obtain ⟨A8, n8, cc8, rfl⟩ := o8.shape
  have hS8 : Below w1.heap.size w1 w8 := hHeld.grown g8 hHeld.size (fun j hj => by simp [Value.ownBlock] at hj)
  refine hK _ _ (fun _ => hS8) ?_
  clear hK K
  try simp only [Act.put, List.setIfInBounds_toArray, List.set_cons_zero, List.set_cons_succ]
  refine wpAnyX_take0 (i := 14) (oi := ⟨some 55, Op.build 28 #[(0, Operand.tmp 43), (1, Operand.tmp 46), (2, Operand.tmp 49), (3, Operand.tmp 54)], 28, _, _, none⟩) (v := ?v14) rfl (by omega) (by kernel_rfl) (by kernel_rfl) (by kernel_rfl) (fun _ _ _ h => h) (Or.inl ⟨by rfl, ?y14⟩) (by assumption) ?r14
  case y14 =>
    intro W hSw
    try dsimp only at hSw
    go_simp
    try with_reducible rfl
  case r14 =>
  try simp only [Act.put, List.setIfInBounds_toArray, List.set_cons_zero, List.set_cons_succ]
  refine wpAnyX_one (i := 18) (by kernel_rfl) rfl (fun K hK => ?_)
  refine step_storeS rfl 28 _ _ rfl 28 g #[.int .u8 0, .int .u8 0, .int .u32 0, .slice none 0 0] #[.int .u8 (t3 : Int), .int .u8 (t4 : Int), .int .u32 (S31 : Int), .slice A8 n8 cc8] rfl rfl (HZ.out.below hS8 HZ.out.lt) fr_size rfl (by simp [Value.oneCell']) ?_
  intro w9 hs9 hg9
  have HS9 := Bx.mk hs9
  have HB9 := Bx.mk ((HB.out.trans (hS8.mono HSZ.out)).grown hg9 (HB.out.trans (hS8.mono HSZ.out)).size (fun k hk => by injection hk with hk; have := HG.out; omega))
  have HR9 := Bx.mk ((o8.grownO hg9 HZ.out.lt).bs)
  clear hs9 hg9
  refine hK _ _ (fun h => absurd h (by decide)) ?_
  clear hK K
  try simp only [Act.put, List.setIfInBounds_toArray, List.set_cons_zero, List.set_cons_succ]
  refine wpAnyX_one (i := 19) (by kernel_rfl) rfl (fun K hK => ?_)
  go_simp
  refine hK _ _ (fun h => absurd h (by decide)) ?_
  clear hK K
  try simp only [Act.put, List.setIfInBounds_toArray, List.set_cons_zero, List.set_cons_succ]
  refine wpAnyX_one (i := 20) (by kernel_rfl) rfl (fun K hK => ?_)
  go_simp
  refine hK _ _ (fun h => absurd h (by decide)) ?_
  clear hK K
  try simp only [Act.put, List.setIfInBounds_toArray, List.set_cons_zero, List.set_cons_succ]
  refine wpAnyX_done (by kernel_rfl) ?_ _
  go_wp2_with fail
  rw [HRE.out]
  exact bodyPost_ret (ret_Fr Try.results26 _ _ g _ _ _ _ _ _ rfl rfl rfl HS9.out) rfl ⟨_, rfl, HR9.out, HB9.out⟩
end Go.Proofs.Ytenoaljghbpaaaa
