/-
  bifoldlaw12.PayPads answers true, whatever its arguments: the walk, a kind of frame and an outcome at a time (written by mkpp.py).
-/
import Derived.Test.YtenoaljghbpaaaaPyM
import Derived.Test.YtenoaljghbpaaaaPyJ
import Derived.Test.YtenoaljghbpaaaaApZ
import Derived.Test.YtenoaljghbpaaaaBag
import Derived.Test.YtenoaljghbpaaaaSbS
import Derived.Deep.RegionHeld
namespace Go.Proofs.Ytenoaljghbpaaaa
open Go.RowKit
set_option linter.unusedVariables false
set_option linter.unusedSimpArgs false

theorem OwB.litP (w : World) (cs : Array Value) (l : List UInt8) (hc : cs.toList = l.map bv) (hn : l.length ≤ 1000) : OwB (w.alloc (.cells cs 5)) w.heap.size (.slice (some ⟨w.heap.size, 0, none⟩) l.length l.length) l := by
  have hl : cs.size = l.length := by rw [← Array.length_toList, hc, List.length_map]
  have h := World.ownsRow_lit (base := w.heap.size) (e := 5) (size := 1) w cs l.length (Nat.le_refl _) (by unfold maxLen; omega) (by omega)
  rw [hc] at h
  unfold OwB
  rw [List.length_map]
  exact h
theorem OwB.grownNe {w w' : World} {B g : Nat} {v : Value} {l : List UInt8} (h : OwB w B v l) (hg : w.grownBy w' (some g)) (hne : some g ≠ v.ownBlock) : OwB w' B v l :=
  h.kept fun k hk => hg.block k (h.lt hk) (fun e => hne (by rw [hk, e]))
theorem exec_loadPay {a : Act} {W : World} {d : Option Tmp} {x : Operand} {tr : TypeId} {pos : String} {af : Array Edge} {gd : Option (Nat × Bool)} (g : Nat) (v1 v2 : Value) (c st i : Int)
    (hx : a.eval x = .pointer (some ⟨g, 0, none⟩)) (hs : Sb 50 W g (payA v1 v2 c st i)) : (execOp a.eval ⟨d, .load 50 x, tr, pos, af, gd⟩).run Try.prog W = .ok (.value (.agg (payA v1 v2 c st i))) W := by
  unfold execOp
  simp only [hx, Instr.loadAt, Instr.sureAddr, Sem.run_bind, Sem.run_pure, Result.andThen_ok, run_loadVar_row W g 50 50 (payA v1 v2 c st i) (0, 0) _ hs Try.underlying50 rfl pay_size]
theorem str_selfP (D : List UInt8) : ((bstr D).toList == (bstr D).toList) = true := beq_self_eq_true _
set_option maxRecDepth 100000 in
set_option maxHeartbeats 8000000 in
theorem pp_d_no (pr : Bool) (P Z : Int) (p k : Nat) (pb : UInt8) (bV : Value) (l : List UInt8) (w : World) (hp : (p : Int) = P) (hpb : pb.toNat = p) (hk : Z.tmod 60 = (k : Int)) (hk60 : k < 60) (hv : Bs w bV l) (hl : l.length ≤ 100) (hno : l.length + k < p) :
    Calls Try.prog 8 #[.bool false, .bool pr, .int .u8 P, bV, .int .u8 Z] w fun e w' => e = .returned (.bool true) ∧ Below w.heap.size w w' := by
  have HK := Bx.mk (known12_any w)
  have hp256 : p < 256 := by rw [← hpb]; exact UInt8.toNat_lt _
  obtain ⟨L, hL⟩ : ∃ L : Int, (l.length : Int) = L := ⟨_, rfl⟩
  have hlenb : ∀ (tr : TypeId) (W : World), (Builtin.len_ #[22] tr #[bV]).run Try.prog W = .ok (.int .i64 L) W := fun tr W => by rw [← hL]; exact hv.run_len tr W
  have hd100 : decide (100 < L) = false := decide_eq_false (by omega)
  have hw1 : IntKind.i64.wrap (k : Int) = k := by rw [IntKind.wrap_i64]; omega
  have hw2 : IntKind.u8.wrap (k : Int) = k := by rw [IntKind.wrap_u8]; omega
  have hwP : IntKind.i64.wrap P = P := by rw [IntKind.wrap_i64]; omega
  obtain ⟨M, hM⟩ : ∃ M, [pb] ++ l ++ List.replicate k 0 = M := ⟨_, rfl⟩
  obtain ⟨AL, hAL⟩ : ∃ M, l ++ List.replicate k (0 : UInt8) = M := ⟨_, rfl⟩
  have hMl : M.length = 1 + l.length + k := by rw [← hM]; simp; omega
  have hALl : AL.length = l.length + k := by rw [← hAL]; simp
  have hMh : (M.headD 0).toNat = p := by rw [← hM]; simpa using hpb
  have hMd : M.drop 1 = AL := by rw [← hM, ← hAL]; simp
  obtain ⟨D, hD⟩ : ∃ D, AL.take (l.length + k - p) = D := ⟨_, rfl⟩
  have hdat : dataN 0 8 M = D := by
    unfold dataN
    have h1 : padN 8 M = p := by unfold padN; rw [if_pos (by decide)]; exact hMh
    have h2 : aheadN 0 8 = 1 := by decide
    rw [h1, h2, List.drop_take, hMd, hMl, ← hD]
    congr 1
    omega
  have hpr : payR 0 8 1 M = 6 := by
    unfold payR
    have h1 : padN 8 M = p := by unfold padN; rw [if_pos (by decide)]; exact hMh
    have h2 : aheadN 0 8 = 1 := by decide
    have h3 : sizN 0 8 M.length = false := by
      unfold sizN
      rw [if_pos (by decide), h2]
      exact decide_eq_false (by omega)
    rw [if_neg (by decide), h3, if_neg (by decide), if_pos (by unfold isPad; decide), h1, h2, if_pos (by omega)]
  have HPR := Bx.mk hpr
  have HDAT := Bx.mk hdat
  have HRD := Bx.mk (fun (W : World) (v : Value) (h : Bs W v M) => pyRead_any 0 8 1 v M (by omega) (by omega) (by omega) W 0 8 1 rfl rfl rfl h (by omega))
  have HRP := Bx.mk (fun (W : World) (v : Value) (h : Bs W v M) => rPay_0_8 v M p W h (by omega) (by omega) hMh 6 (by rw [if_pos (by omega)]))
  rw [hMd, show M.length - 1 - p = l.length + k - p by omega, hD] at HRP
  obtain ⟨LA, hLA⟩ : ∃ L : Int, (AL.length : Int) = L := ⟨_, rfl⟩
  have hgt : decide (LA < P) = true := decide_eq_true (by omega)
  have HLA := Bx.mk hLA
  have HM := Bx.mk hM
  have HAL := Bx.mk hAL
  have HLL := Bx.mk (show l.length ≤ 1000000 by omega)
  have HL1 := Bx.mk hl
  have HKK := Bx.mk (show k ≤ 1000000 by omega)
  have HP1 := Bx.mk (show (#[Value.int .u8 P]).toList = [pb].map bv by simp [bv, hpb, hp])
  have HV := Bx.mk hv
  clear hMl hALl hMh hMd hD hdat hpr hLA hM hAL hno hl hv hk60 hpb hp hp256 hL
  go_enter Try.func8, Try.ntmps8
  go_upto_region 5 with (go_at_call 28; refine HK.out.mono ?_; rintro e w1 ⟨rfl, b1⟩; have HB1 := Bx.mk b1; clear b1)
  go_upto_region 7 with fail
  have HO : Bx (OwB ((w1.alloc (.cells #[.int .u8 P] 5)).alloc (.cells (fraA 0 8 1 nilV) 28)) w1.heap.size (.slice (some ⟨w1.heap.size, 0, none⟩) 1 1) [pb]) := ⟨(OwB.litP w1 #[.int .u8 P] [pb] HP1.out (by simp)).alloc _⟩
  have HF : Bx (Sb 28 ((w1.alloc (.cells #[.int .u8 P] 5)).alloc (.cells (fraA 0 8 1 nilV) 28)) (w1.heap.size + 1) (fraA 0 8 1 nilV)) := ⟨Sb.newg _ _ _ (by simp) _⟩
  have HB : Bx (Below w.heap.size w ((w1.alloc (.cells #[.int .u8 P] 5)).alloc (.cells (fraA 0 8 1 nilV) 28))) := ⟨(HB1.out.alloc HB1.out.size _).alloc (HB1.out.alloc HB1.out.size _).size _⟩
  obtain ⟨wa, hwa⟩ : ∃ W, (w1.alloc (.cells #[.int .u8 P] 5)).alloc (.cells (fraA 0 8 1 nilV) 28) = W := ⟨_, rfl⟩
  rw [hwa] at HO HF HB ⊢
  obtain ⟨gF, hgF⟩ : ∃ g, w1.heap.size + 1 = g := ⟨_, rfl⟩
  rw [hgF] at HF ⊢
  obtain ⟨v0, hv0⟩ : ∃ v, Value.slice (some ⟨w1.heap.size, 0, none⟩) 1 1 = v := ⟨_, rfl⟩
  rw [hv0] at HO ⊢
  have HW : Bx (w.heap.size ≤ w1.heap.size ∧ w1.heap.size ≤ wa.heap.size ∧ w.heap.size ≤ gF) := ⟨HB1.out.size, by rw [← hwa]; simp; omega, by have := HB1.out.size; omega⟩
  obtain ⟨B, hB⟩ : ∃ b, w1.heap.size = b := ⟨_, rfl⟩
  rw [hB] at HO HW
  clear hwa hgF hv0 hB HP1 HB1
  go_upto_region 12 with fail
  go_upto_region 13 with (first
    | (at_builtin; obtain ⟨v6, w6, hr6, o6, g6⟩ := run_bytes_own _ 22 B v0 bV [pb] l HO.out (HV.out.keep HB.out) (by simp) HLL.out (HW.out.2.1); refine Lib.wpList_append_run _ rfl _ _ _ _ rfl _ _ rfl rfl _ _ hr6 ?_; have HO6 := Bx.mk o6; have HF6 := Bx.mk (HF.out.grown g6 (HO.out.neSb HF.out (by decide))); have HB6 := Bx.mk (HB.out.grown g6 HB.out.size (fun j hj => Nat.le_trans HW.out.1 (HO.out.ge hj))); have HW6 := Bx.mk (Nat.le_trans (HW.out.2.1) g6.size); clear hr6 o6 g6)
    | (at_builtin; obtain ⟨v7, w7, hr7, o7, g7⟩ := run_zeros_own _ 22 B v6 ([pb] ++ l) k HO6.out HKK.out (by have := HL1.out; simp; omega) HW6.out; refine Lib.wpList_append_run _ rfl _ _ _ _ rfl _ _ rfl rfl _ _ hr7 ?_; obtain ⟨A7, n7, cc7, rfl⟩ := o7.shape; have HF7 := Bx.mk (HF6.out.grown g7 (HO6.out.neSb HF6.out (by decide))); have HB7 := Bx.mk (HB6.out.grown g7 HB6.out.size (fun j hj => Nat.le_trans HW.out.1 (HO6.out.ge hj))); have HO7 := Bx.mk o7; have k3 : w7.cell? ⟨gF, 3, none⟩ = some (.slice none 0 0) := HF7.out.cell 3; have f3 := HF7.out.free 3; clear hr7 o7 g7))
  have HF8 : Bx (Sb 28 (w7.setCell ⟨gF, 3, none⟩ (.slice A7 n7 cc7)) gF (fraA 0 8 1 (.slice A7 n7 cc7))) := ⟨HF7.out.set 3 (.slice A7 n7 cc7) (show 3 < 4 by decide)⟩
  have HV8 := Bx.mk (HO7.out.grownNe (grown_set w7 gF 3 (.slice A7 n7 cc7)) (HO7.out.neSb HF7.out (by decide))).bs
  rw [HM.out] at HV8
  have HB8 := Bx.mk (HB7.out.setCell (p := ⟨gF, 3, none⟩) HW.out.2.2 (.slice A7 n7 cc7))
  obtain ⟨w8, hw8⟩ : ∃ W, w7.setCell ⟨gF, 3, none⟩ (.slice A7 n7 cc7) = W := ⟨_, rfl⟩
  rw [hw8] at HF8 HV8 HB8 ⊢
  clear hw8 k3 f3 HF7 HO7 HB7
  go_upto_region 14 with (first
    | (with_reducible refine wpList_loadFra gF 0 8 1 (.slice A7 n7 cc7) rfl HF8.out ?_)
    | (go_at_call 31; refine (HRD.out _ _ HV8.out).mono ?_; rintro e w9 ⟨⟨A1, n1, c1, A2, n2, c2, cc, ss, ii, he, hq⟩, b9⟩; rw [HPR.out] at he; clear hq; subst he; have HX9 := Bx.mk b9; clear b9))
  have HXa := Bx.mk (HX9.out.alloc HX9.out.size (.cells (payA (.slice A1 n1 c1) (.slice A2 n2 c2) cc ss ii) 50))
  have HPa : Bx (Sb 50 (w9.alloc (.cells (payA (.slice A1 n1 c1) (.slice A2 n2 c2) cc ss ii) 50)) w9.heap.size (payA (.slice A1 n1 c1) (.slice A2 n2 c2) cc ss ii)) := ⟨Sb.new _ w9 _⟩
  obtain ⟨wA, hwA⟩ : ∃ W, w9.alloc (.cells (payA (.slice A1 n1 c1) (.slice A2 n2 c2) cc ss ii) 50) = W := ⟨_, rfl⟩
  obtain ⟨gP, hgP⟩ : ∃ g, w9.heap.size = g := ⟨_, rfl⟩
  rw [hwA] at HXa HPa  ⊢
  rw [hgP] at HPa ⊢
  clear hwA hgP
  have HFa := Bx.mk (HF8.out.below HXa.out HF8.out.lt)
  have HVa := Bx.mk (HV8.out.keep HXa.out)
  have HBa := Bx.mk (HB8.out.trans (HXa.out.mono HB8.out.size))
  go_upto_region 15 with (first
    | (with_reducible refine wpList_loadFra gF 0 8 1 (.slice A7 n7 cc7) rfl HFa.out ?_)
    | (go_at_call 32; refine (HRP.out _ _ HVa.out).mono ?_; rintro e wB ⟨⟨A3, n3, c3, rfl, hq⟩, bB⟩; have HXB := Bx.mk bB; have HQ := Bx.mk hq; clear bB hq))
  have HXc := Bx.mk (HXB.out.alloc HXB.out.size (.cells (payA (.slice A3 n3 c3) nilV 0 0 0) 50))
  have HQc : Bx (Sb 50 (wB.alloc (.cells (payA (.slice A3 n3 c3) nilV 0 0 0) 50)) wB.heap.size (payA (.slice A3 n3 c3) nilV 0 0 0)) := ⟨Sb.new _ wB _⟩
  obtain ⟨wC, hwC⟩ : ∃ W, wB.alloc (.cells (payA (.slice A3 n3 c3) nilV 0 0 0) 50) = W := ⟨_, rfl⟩
  obtain ⟨gQ, hgQ⟩ : ∃ g, wB.heap.size = g := ⟨_, rfl⟩
  rw [hwC] at HXc HQc  ⊢
  rw [hgQ] at HQc ⊢
  clear hwC hgQ
  have HPc := Bx.mk (HPa.out.below HXc.out HPa.out.lt)
  have HBc := Bx.mk (HBa.out.trans (HXc.out.mono HBa.out.size))
  have HVc := Bx.mk (HV.out.keep HBc.out)
  go_upto_region 16 with (first
    | (at_builtin; obtain ⟨vD, wD, hrD, oD, gD⟩ := run_bytes_own _ 22 wC.heap.size (.slice none 0 0) bV [] l (OwB.nil wC wC.heap.size) HVc.out (by simp) HLL.out (Nat.le_refl _); refine Lib.wpList_append_run _ rfl _ _ _ _ rfl _ _ rfl rfl _ _ hrD ?_; have HOD := Bx.mk oD; have HXD := Bx.mk ((Below.refl wC.heap.size wC).grown gD (Nat.le_refl _) (fun j hj => by simp [Value.ownBlock] at hj)); clear hrD oD gD)
    | (at_builtin; obtain ⟨vE, wE, hrE, oE, gE⟩ := run_zeros_own _ 22 wC.heap.size vD ([] ++ l) k HOD.out HKK.out HLL.out HXD.out.size; refine Lib.wpList_append_run _ rfl _ _ _ _ rfl _ _ rfl rfl _ _ hrE ?_; have HOE := Bx.mk oE.bs; have HXE := Bx.mk (HXD.out.grown gE HXD.out.size (fun j hj => HOD.out.ge hj)); clear hrE oE gE))
  rw [List.nil_append, HAL.out] at HOE
  have HBE := Bx.mk (HBc.out.trans (HXE.out.mono HBc.out.size))
  have hlenA : ∀ (tr : TypeId) (W : World), (Builtin.len_ #[22] tr #[vE]).run Try.prog W = .ok (.int .i64 LA) W := fun tr W => by rw [← HLA.out]; exact HOE.out.run_len tr W
  go_wp2_with fail
  go_ret
  exact ⟨rfl, HBE.out⟩
set_option maxRecDepth 100000 in
set_option maxHeartbeats 8000000 in
theorem pp_d_ok (pr : Bool) (P Z : Int) (p k : Nat) (pb : UInt8) (bV : Value) (l : List UInt8) (w : World) (hp : (p : Int) = P) (hpb : pb.toNat = p) (hk : Z.tmod 60 = (k : Int)) (hk60 : k < 60) (hv : Bs w bV l) (hl : l.length ≤ 100) (hno : ¬ l.length + k < p) :
    Calls Try.prog 8 #[.bool false, .bool pr, .int .u8 P, bV, .int .u8 Z] w fun e w' => e = .returned (.bool true) ∧ Below w.heap.size w w' := by
  have HK := Bx.mk (known12_any w)
  have hp256 : p < 256 := by rw [← hpb]; exact UInt8.toNat_lt _
  obtain ⟨L, hL⟩ : ∃ L : Int, (l.length : Int) = L := ⟨_, rfl⟩
  have hlenb : ∀ (tr : TypeId) (W : World), (Builtin.len_ #[22] tr #[bV]).run Try.prog W = .ok (.int .i64 L) W := fun tr W => by rw [← hL]; exact hv.run_len tr W
  have hd100 : decide (100 < L) = false := decide_eq_false (by omega)
  have hw1 : IntKind.i64.wrap (k : Int) = k := by rw [IntKind.wrap_i64]; omega
  have hw2 : IntKind.u8.wrap (k : Int) = k := by rw [IntKind.wrap_u8]; omega
  have hwP : IntKind.i64.wrap P = P := by rw [IntKind.wrap_i64]; omega
  obtain ⟨M, hM⟩ : ∃ M, [pb] ++ l ++ List.replicate k 0 = M := ⟨_, rfl⟩
  obtain ⟨AL, hAL⟩ : ∃ M, l ++ List.replicate k (0 : UInt8) = M := ⟨_, rfl⟩
  have hMl : M.length = 1 + l.length + k := by rw [← hM]; simp; omega
  have hALl : AL.length = l.length + k := by rw [← hAL]; simp
  have hMh : (M.headD 0).toNat = p := by rw [← hM]; simpa using hpb
  have hMd : M.drop 1 = AL := by rw [← hM, ← hAL]; simp
  obtain ⟨D, hD⟩ : ∃ D, AL.take (l.length + k - p) = D := ⟨_, rfl⟩
  have hdat : dataN 0 8 M = D := by
    unfold dataN
    have h1 : padN 8 M = p := by unfold padN; rw [if_pos (by decide)]; exact hMh
    have h2 : aheadN 0 8 = 1 := by decide
    rw [h1, h2, List.drop_take, hMd, hMl, ← hD]
    congr 1
    omega
  have hpr : payR 0 8 1 M = 0 := by
    unfold payR
    have h1 : padN 8 M = p := by unfold padN; rw [if_pos (by decide)]; exact hMh
    have h2 : aheadN 0 8 = 1 := by decide
    have h3 : sizN 0 8 M.length = false := by
      unfold sizN
      rw [if_pos (by decide), h2]
      exact decide_eq_false (by omega)
    rw [if_neg (by decide), h3, if_neg (by decide), if_pos (by unfold isPad; decide), h1, h2, if_neg (by omega)]
  have HPR := Bx.mk hpr
  have HDAT := Bx.mk hdat
  have HRD := Bx.mk (fun (W : World) (v : Value) (h : Bs W v M) => pyRead_any 0 8 1 v M (by omega) (by omega) (by omega) W 0 8 1 rfl rfl rfl h (by omega))
  have HRP := Bx.mk (fun (W : World) (v : Value) (h : Bs W v M) => rPay_0_8 v M p W h (by omega) (by omega) hMh 0 (by rw [if_neg (by omega)]))
  rw [hMd, show M.length - 1 - p = l.length + k - p by omega, hD] at HRP
  obtain ⟨LA, hLA⟩ : ∃ L : Int, (AL.length : Int) = L := ⟨_, rfl⟩
  have hgt : decide (LA < P) = false := decide_eq_false (by omega)
  obtain ⟨E, hE⟩ : ∃ E : Int, LA - P = E := ⟨_, rfl⟩
  have hs : wrap64 E = E := by unfold wrap64; omega
  have hs2 : IntKind.i64.wrap E = E := by rw [IntKind.wrap_i64]; omega
  have HE : Bx (0 ≤ E ∧ E ≤ AL.length ∧ AL.take E.toNat = D) := ⟨by omega, by omega, by rw [← hD, show E.toNat = l.length + k - p by omega]⟩
  have hself := str_selfP D
  have HLA := Bx.mk hLA
  have HM := Bx.mk hM
  have HAL := Bx.mk hAL
  have HLL := Bx.mk (show l.length ≤ 1000000 by omega)
  have HL1 := Bx.mk hl
  have HKK := Bx.mk (show k ≤ 1000000 by omega)
  have HP1 := Bx.mk (show (#[Value.int .u8 P]).toList = [pb].map bv by simp [bv, hpb, hp])
  have HV := Bx.mk hv
  clear hMl hALl hMh hMd hD hdat hpr hLA hM hAL hno hl hv hk60 hpb hp hp256 hL
  go_enter Try.func8, Try.ntmps8
  go_upto_region 5 with (go_at_call 28; refine HK.out.mono ?_; rintro e w1 ⟨rfl, b1⟩; have HB1 := Bx.mk b1; clear b1)
  go_upto_region 7 with fail
  have HO : Bx (OwB ((w1.alloc (.cells #[.int .u8 P] 5)).alloc (.cells (fraA 0 8 1 nilV) 28)) w1.heap.size (.slice (some ⟨w1.heap.size, 0, none⟩) 1 1) [pb]) := ⟨(OwB.litP w1 #[.int .u8 P] [pb] HP1.out (by simp)).alloc _⟩
  have HF : Bx (Sb 28 ((w1.alloc (.cells #[.int .u8 P] 5)).alloc (.cells (fraA 0 8 1 nilV) 28)) (w1.heap.size + 1) (fraA 0 8 1 nilV)) := ⟨Sb.newg _ _ _ (by simp) _⟩
  have HB : Bx (Below w.heap.size w ((w1.alloc (.cells #[.int .u8 P] 5)).alloc (.cells (fraA 0 8 1 nilV) 28))) := ⟨(HB1.out.alloc HB1.out.size _).alloc (HB1.out.alloc HB1.out.size _).size _⟩
  obtain ⟨wa, hwa⟩ : ∃ W, (w1.alloc (.cells #[.int .u8 P] 5)).alloc (.cells (fraA 0 8 1 nilV) 28) = W := ⟨_, rfl⟩
  rw [hwa] at HO HF HB ⊢
  obtain ⟨gF, hgF⟩ : ∃ g, w1.heap.size + 1 = g := ⟨_, rfl⟩
  rw [hgF] at HF ⊢
  obtain ⟨v0, hv0⟩ : ∃ v, Value.slice (some ⟨w1.heap.size, 0, none⟩) 1 1 = v := ⟨_, rfl⟩
  rw [hv0] at HO ⊢
  have HW : Bx (w.heap.size ≤ w1.heap.size ∧ w1.heap.size ≤ wa.heap.size ∧ w.heap.size ≤ gF) := ⟨HB1.out.size, by rw [← hwa]; simp; omega, by have := HB1.out.size; omega⟩
  obtain ⟨B, hB⟩ : ∃ b, w1.heap.size = b := ⟨_, rfl⟩
  rw [hB] at HO HW
  clear hwa hgF hv0 hB HP1 HB1
  go_upto_region 12 with fail
  go_upto_region 13 with (first
    | (at_builtin; obtain ⟨v6, w6, hr6, o6, g6⟩ := run_bytes_own _ 22 B v0 bV [pb] l HO.out (HV.out.keep HB.out) (by simp) HLL.out (HW.out.2.1); refine Lib.wpList_append_run _ rfl _ _ _ _ rfl _ _ rfl rfl _ _ hr6 ?_; have HO6 := Bx.mk o6; have HF6 := Bx.mk (HF.out.grown g6 (HO.out.neSb HF.out (by decide))); have HB6 := Bx.mk (HB.out.grown g6 HB.out.size (fun j hj => Nat.le_trans HW.out.1 (HO.out.ge hj))); have HW6 := Bx.mk (Nat.le_trans (HW.out.2.1) g6.size); clear hr6 o6 g6)
    | (at_builtin; obtain ⟨v7, w7, hr7, o7, g7⟩ := run_zeros_own _ 22 B v6 ([pb] ++ l) k HO6.out HKK.out (by have := HL1.out; simp; omega) HW6.out; refine Lib.wpList_append_run _ rfl _ _ _ _ rfl _ _ rfl rfl _ _ hr7 ?_; obtain ⟨A7, n7, cc7, rfl⟩ := o7.shape; have HF7 := Bx.mk (HF6.out.grown g7 (HO6.out.neSb HF6.out (by decide))); have HB7 := Bx.mk (HB6.out.grown g7 HB6.out.size (fun j hj => Nat.le_trans HW.out.1 (HO6.out.ge hj))); have HO7 := Bx.mk o7; have k3 : w7.cell? ⟨gF, 3, none⟩ = some (.slice none 0 0) := HF7.out.cell 3; have f3 := HF7.out.free 3; clear hr7 o7 g7))
  have HF8 : Bx (Sb 28 (w7.setCell ⟨gF, 3, none⟩ (.slice A7 n7 cc7)) gF (fraA 0 8 1 (.slice A7 n7 cc7))) := ⟨HF7.out.set 3 (.slice A7 n7 cc7) (show 3 < 4 by decide)⟩
  have HV8 := Bx.mk (HO7.out.grownNe (grown_set w7 gF 3 (.slice A7 n7 cc7)) (HO7.out.neSb HF7.out (by decide))).bs
  rw [HM.out] at HV8
  have HB8 := Bx.mk (HB7.out.setCell (p := ⟨gF, 3, none⟩) HW.out.2.2 (.slice A7 n7 cc7))
  obtain ⟨w8, hw8⟩ : ∃ W, w7.setCell ⟨gF, 3, none⟩ (.slice A7 n7 cc7) = W := ⟨_, rfl⟩
  rw [hw8] at HF8 HV8 HB8 ⊢
  clear hw8 k3 f3 HF7 HO7 HB7
  go_upto_region 14 with (first
    | (with_reducible refine wpList_loadFra gF 0 8 1 (.slice A7 n7 cc7) rfl HF8.out ?_)
    | (go_at_call 31; refine (HRD.out _ _ HV8.out).mono ?_; rintro e w9 ⟨⟨A1, n1, c1, A2, n2, c2, cc, ss, ii, he, hq⟩, b9⟩; rw [HPR.out] at he; obtain ⟨hu, q1, q2, q3, q4⟩ := (hq HPR.out).1 (by decide); rw [HDAT.out] at hu; injection q1 with q1 q5 q6; subst q1 q2 q3 q4 q5 q6; have HU9 := Bx.mk hu.bs; clear hu hq; subst he; have HX9 := Bx.mk b9; clear b9))
  have HXa := Bx.mk (HX9.out.alloc HX9.out.size (.cells (payA (.slice A1 n1 c1) nilV 0 0 0) 50))
  have HPa : Bx (Sb 50 (w9.alloc (.cells (payA (.slice A1 n1 c1) nilV 0 0 0) 50)) w9.heap.size (payA (.slice A1 n1 c1) nilV 0 0 0)) := ⟨Sb.new _ w9 _⟩
  have HUa := Bx.mk (HU9.out.keep ((Below.refl w9.heap.size w9).alloc (Nat.le_refl _) (.cells (payA (.slice A1 n1 c1) nilV 0 0 0) 50)))
  obtain ⟨wA, hwA⟩ : ∃ W, w9.alloc (.cells (payA (.slice A1 n1 c1) nilV 0 0 0) 50) = W := ⟨_, rfl⟩
  obtain ⟨gP, hgP⟩ : ∃ g, w9.heap.size = g := ⟨_, rfl⟩
  rw [hwA] at HXa HPa HUa ⊢
  rw [hgP] at HPa ⊢
  clear hwA hgP
  have HFa := Bx.mk (HF8.out.below HXa.out HF8.out.lt)
  have HVa := Bx.mk (HV8.out.keep HXa.out)
  have HBa := Bx.mk (HB8.out.trans (HXa.out.mono HB8.out.size))
  go_upto_region 15 with (first
    | (with_reducible refine wpList_loadFra gF 0 8 1 (.slice A7 n7 cc7) rfl HFa.out ?_)
    | (go_at_call 32; refine (HRP.out _ _ HVa.out).mono ?_; rintro e wB ⟨⟨A3, n3, c3, rfl, hq⟩, bB⟩; have HXB := Bx.mk bB; have HQ := Bx.mk hq; clear bB hq))
  have HXc := Bx.mk (HXB.out.alloc HXB.out.size (.cells (payA (.slice A3 n3 c3) nilV 0 0 0) 50))
  have HQc : Bx (Sb 50 (wB.alloc (.cells (payA (.slice A3 n3 c3) nilV 0 0 0) 50)) wB.heap.size (payA (.slice A3 n3 c3) nilV 0 0 0)) := ⟨Sb.new _ wB _⟩
  have HYc := Bx.mk ((HQ.out (by first | rfl | trivial)).bs.keep ((Below.refl wB.heap.size wB).alloc (Nat.le_refl _) (.cells (payA (.slice A3 n3 c3) nilV 0 0 0) 50)))
  obtain ⟨wC, hwC⟩ : ∃ W, wB.alloc (.cells (payA (.slice A3 n3 c3) nilV 0 0 0) 50) = W := ⟨_, rfl⟩
  obtain ⟨gQ, hgQ⟩ : ∃ g, wB.heap.size = g := ⟨_, rfl⟩
  rw [hwC] at HXc HQc HYc ⊢
  rw [hgQ] at HQc ⊢
  clear hwC hgQ
  have HPc := Bx.mk (HPa.out.below HXc.out HPa.out.lt)
  have HBc := Bx.mk (HBa.out.trans (HXc.out.mono HBa.out.size))
  have HVc := Bx.mk (HV.out.keep HBc.out)
  go_upto_region 16 with (first
    | (at_builtin; obtain ⟨vD, wD, hrD, oD, gD⟩ := run_bytes_own _ 22 wC.heap.size (.slice none 0 0) bV [] l (OwB.nil wC wC.heap.size) HVc.out (by simp) HLL.out (Nat.le_refl _); refine Lib.wpList_append_run _ rfl _ _ _ _ rfl _ _ rfl rfl _ _ hrD ?_; have HOD := Bx.mk oD; have HXD := Bx.mk ((Below.refl wC.heap.size wC).grown gD (Nat.le_refl _) (fun j hj => by simp [Value.ownBlock] at hj)); clear hrD oD gD)
    | (at_builtin; obtain ⟨vE, wE, hrE, oE, gE⟩ := run_zeros_own _ 22 wC.heap.size vD ([] ++ l) k HOD.out HKK.out HLL.out HXD.out.size; refine Lib.wpList_append_run _ rfl _ _ _ _ rfl _ _ rfl rfl _ _ hrE ?_; have HOE := Bx.mk oE.bs; have HXE := Bx.mk (HXD.out.grown gE HXD.out.size (fun j hj => HOD.out.ge hj)); clear hrE oE gE))
  rw [List.nil_append, HAL.out] at HOE
  have HBE := Bx.mk (HBc.out.trans (HXE.out.mono HBc.out.size))
  have hlenA : ∀ (tr : TypeId) (W : World), (Builtin.len_ #[22] tr #[vE]).run Try.prog W = .ok (.int .i64 LA) W := fun tr W => by rw [← HLA.out]; exact HOE.out.run_len tr W
  obtain ⟨vm, hslm, hvm⟩ := HOE.out.upto E HE.out.1 HE.out.2.1
  have HVM := Bx.mk (hvm wE HOE.out)
  rw [HE.out.2.2] at HVM
  clear hvm
  go_upto_region 18 with fail
  have hSx := Below.refl wE.heap.size wE
  have HPE := Bx.mk (HPc.out.below HXE.out HPc.out.lt)
  have HQE := Bx.mk (HQc.out.below HXE.out HQc.out.lt)
  have HUE := Bx.mk ((HUa.out.keep HXc.out).keep HXE.out)
  have HYE := Bx.mk (HYc.out.keep HXE.out)
  have HHP := Bx.mk (fun W (h1 : Bs W (.slice A1 n1 c1) D) (h2 : Bs W (.slice A3 n3 c3) D) => helpPay_any _ _ D W h1 h2)
  have k80 : ∀ W, Below wE.heap.size wE W → W.cell? ⟨gP, 0, none⟩ = some (.slice A1 n1 c1) := fun W h => (HPE.out.keep h).cell 0
  have k82 : ∀ W, Below wE.heap.size wE W → (convert 22 9 (.slice A1 n1 c1)).run Try.prog W = .ok (.string (bstr D)) W := fun W h => conv_str (HUE.out.keep h)
  have k90 : ∀ W, Below wE.heap.size wE W → (convert 22 9 vm).run Try.prog W = .ok (.string (bstr D)) W := fun W h => conv_str (HVM.out.keep h)
  refine wp_region_x 21 (fun W => Below wE.heap.size wE W) (by kernel_rfl) (hSx.drew) (fun hHeld => ?_)
  refine wpAnyX_take0 (i := 0) (oi := ⟨some 72, Op.move (Operand.tmp 14), 3, _, _, none⟩) (v := ?v0) rfl (by omega) (by kernel_rfl) (by kernel_rfl) (by kernel_rfl) (fun _ _ _ h => h) (Or.inl ⟨by rfl, ?y0⟩) (by assumption) ?r0
  case y0 =>
    intro W hSw
    try dsimp only at hSw
    go_simp
    try with_reducible rfl
  case r0 =>
  try simp only [Act.put, List.setIfInBounds_toArray, List.set_cons_zero, List.set_cons_succ]
  refine wpAnyX_take0 (i := 1) (oi := ⟨some 73, Op.binOp BinOp.eql 3 (Operand.tmp 72) (Operand.const (Value.int IntKind.i64 0)) 3, 4, _, _, none⟩) (v := ?v1) rfl (by omega) (by kernel_rfl) (by kernel_rfl) (by kernel_rfl) (fun _ _ _ h => h) (Or.inl ⟨by rfl, ?y1⟩) (by assumption) ?r1
  case y1 =>
    intro W hSw
    try dsimp only at hSw
    go_simp
    try with_reducible rfl
  case r1 =>
  try simp only [Act.put, List.setIfInBounds_toArray, List.set_cons_zero, List.set_cons_succ]
  refine wpAnyX_take0 (i := 2) (oi := ⟨some 74, Op.move (Operand.tmp 73), 4, _, _, none⟩) (v := ?v2) rfl (by omega) (by kernel_rfl) (by kernel_rfl) (by kernel_rfl) (fun _ _ _ h => h) (Or.inl ⟨by rfl, ?y2⟩) (by assumption) ?r2
  case y2 =>
    intro W hSw
    try dsimp only at hSw
    go_simp
    try with_reducible rfl
  case r2 =>
  try simp only [Act.put, List.setIfInBounds_toArray, List.set_cons_zero, List.set_cons_succ]
  refine wpAnyX_take (i := 3) (oi := ⟨some 75, Op.load 50 (Operand.tmp 13), 50, _, _, some (2, true)⟩) (v := ?v3) rfl (by omega) (by kernel_rfl) (by kernel_rfl) (by kernel_rfl) (by kernel_rfl) (by kernel_rfl) (fun _ _ _ h => h) (Or.inl ⟨by rfl, ?y3⟩) (by assumption) ?r3
  case y3 =>
    intro W hSw
    try dsimp only at hSw
    refine exec_loadPay gP (.slice A1 n1 c1) nilV 0 0 0 ?_ (HPE.out.keep hSw)
    rfl
  case r3 =>
  try simp only [Act.put, List.setIfInBounds_toArray, List.set_cons_zero, List.set_cons_succ]
  refine wpAnyX_take (i := 4) (oi := ⟨some 76, Op.load 50 (Operand.tmp 15), 50, _, _, some (2, true)⟩) (v := ?v4) rfl (by omega) (by kernel_rfl) (by kernel_rfl) (by kernel_rfl) (by kernel_rfl) (by kernel_rfl) (fun _ _ _ h => h) (Or.inl ⟨by rfl, ?y4⟩) (by assumption) ?r4
  case y4 =>
    intro W hSw
    try dsimp only at hSw
    refine exec_loadPay gQ (.slice A3 n3 c3) nilV 0 0 0 ?_ (HQE.out.keep hSw)
    rfl
  case r4 =>
  try simp only [Act.put, List.setIfInBounds_toArray, List.set_cons_zero, List.set_cons_succ]
  refine wpAnyX_one (i := 5) (by kernel_rfl) rfl (fun K hK => ?_)
  go_simp
  go_at_call 33
  refine (HHP.out _ (HUE.out.keep hHeld) (HYE.out.keep hHeld)).mono ?_
  rintro e wG ⟨rfl, bG⟩
  have hS9 : Below wE.heap.size wE wG := hHeld.trans (bG.mono hHeld.size)
  refine hK _ _ (fun _ => hS9) ?_
  clear hK K
  try simp only [Act.put, List.setIfInBounds_toArray, List.set_cons_zero, List.set_cons_succ]
  refine wpAnyX_take0 (i := 6) (oi := ⟨some 78, Op.pick (Operand.tmp 74) (Operand.tmp 77) (Operand.const (Value.bool false)), 4, _, _, none⟩) (v := ?v6) rfl (by omega) (by kernel_rfl) (by kernel_rfl) (by kernel_rfl) (fun _ _ _ h => h) (Or.inl ⟨by rfl, ?y6⟩) (by assumption) ?r6
  case y6 =>
    intro W hSw
    try dsimp only at hSw
    go_simp
    try with_reducible rfl
  case r6 =>
  try simp only [Act.put, List.setIfInBounds_toArray, List.set_cons_zero, List.set_cons_succ]
  refine wpAnyX_take0 (i := 7) (oi := ⟨some 79, Op.move (Operand.tmp 78), 4, _, _, none⟩) (v := ?v7) rfl (by omega) (by kernel_rfl) (by kernel_rfl) (by kernel_rfl) (fun _ _ _ h => h) (Or.inl ⟨by rfl, ?y7⟩) (by assumption) ?r7
  case y7 =>
    intro W hSw
    try dsimp only at hSw
    go_simp
    try with_reducible rfl
  case r7 =>
  try simp only [Act.put, List.setIfInBounds_toArray, List.set_cons_zero, List.set_cons_succ]
  refine wpAnyX_take0 (i := 8) (oi := ⟨some 80, Op.fieldAddr 50 (Operand.tmp 13) 0, 0, _, _, some (7, true)⟩) (v := ?v8) rfl (by omega) (by kernel_rfl) (by kernel_rfl) (by kernel_rfl) (fun _ _ _ h => h) (Or.inl ⟨by rfl, ?y8⟩) (by assumption) ?r8
  case y8 =>
    intro W hSw
    try dsimp only at hSw
    go_simp
    try with_reducible rfl
  case r8 =>
  try simp only [Act.put, List.setIfInBounds_toArray, List.set_cons_zero, List.set_cons_succ]
  refine wpAnyX_take (i := 9) (oi := ⟨some 81, Op.load 22 (Operand.tmp 80), 22, _, _, some (7, true)⟩) (v := ?v9) rfl (by omega) (by kernel_rfl) (by kernel_rfl) (by kernel_rfl) (by kernel_rfl) (by kernel_rfl) (fun _ _ _ h => h) (Or.inl ⟨by rfl, ?y9⟩) (by assumption) ?r9
  case y9 =>
    intro W hSw
    try dsimp only at hSw
    go_simp
    try with_reducible rfl
  case r9 =>
  try simp only [Act.put, List.setIfInBounds_toArray, List.set_cons_zero, List.set_cons_succ]
  refine wpAnyX_take (i := 10) (oi := ⟨some 82, Op.convert 22 9 (Operand.tmp 81), 9, _, _, some (7, true)⟩) (v := ?v10) rfl (by omega) (by kernel_rfl) (by kernel_rfl) (by kernel_rfl) (by kernel_rfl) (by kernel_rfl) (fun _ _ _ h => h) (Or.inl ⟨by rfl, ?y10⟩) (by assumption) ?r10
  case y10 =>
    intro W hSw
    try dsimp only at hSw
    go_simp
    try with_reducible rfl
  case r10 =>
  try simp only [Act.put, List.setIfInBounds_toArray, List.set_cons_zero, List.set_cons_succ]
  refine wpAnyX_take0 (i := 11) (oi := ⟨some 83, Op.move (Operand.tmp 17), 22, _, _, some (7, true)⟩) (v := ?v11) rfl (by omega) (by kernel_rfl) (by kernel_rfl) (by kernel_rfl) (fun _ _ _ h => h) (Or.inl ⟨by rfl, ?y11⟩) (by assumption) ?r11
  case y11 =>
    intro W hSw
    try dsimp only at hSw
    go_simp
    try with_reducible rfl
  case r11 =>
  try simp only [Act.put, List.setIfInBounds_toArray, List.set_cons_zero, List.set_cons_succ]
  refine wpAnyX_take0 (i := 12) (oi := ⟨some 84, Op.move (Operand.tmp 17), 22, _, _, some (7, true)⟩) (v := ?v12) rfl (by omega) (by kernel_rfl) (by kernel_rfl) (by kernel_rfl) (fun _ _ _ h => h) (Or.inl ⟨by rfl, ?y12⟩) (by assumption) ?r12
  case y12 =>
    intro W hSw
    try dsimp only at hSw
    go_simp
    try with_reducible rfl
  case r12 =>
  try simp only [Act.put, List.setIfInBounds_toArray, List.set_cons_zero, List.set_cons_succ]
  refine wpAnyX_take (i := 13) (oi := ⟨some 85, Op.call { callee := Callee.builtin Builtin.len, args := #[Operand.tmp 84], argTypes := #[22] }, 3, _, _, some (7, true)⟩) (v := ?v13) rfl (by omega) (by kernel_rfl) (by kernel_rfl) (by kernel_rfl) (by kernel_rfl) (by kernel_rfl) (fun _ _ _ h => h) (Or.inl ⟨by rfl, ?y13⟩) (by assumption) ?r13
  case y13 =>
    intro W hSw
    try dsimp only at hSw
    go_simp
    try with_reducible rfl
  case r13 =>
  try simp only [Act.put, List.setIfInBounds_toArray, List.set_cons_zero, List.set_cons_succ]
  refine wpAnyX_take0 (i := 14) (oi := ⟨some 86, Op.move (Operand.tmp 2), 5, _, _, some (7, true)⟩) (v := ?v14) rfl (by omega) (by kernel_rfl) (by kernel_rfl) (by kernel_rfl) (fun _ _ _ h => h) (Or.inl ⟨by rfl, ?y14⟩) (by assumption) ?r14
  case y14 =>
    intro W hSw
    try dsimp only at hSw
    go_simp
    try with_reducible rfl
  case r14 =>
  try simp only [Act.put, List.setIfInBounds_toArray, List.set_cons_zero, List.set_cons_succ]
  refine wpAnyX_take (i := 15) (oi := ⟨some 87, Op.convert 5 3 (Operand.tmp 86), 3, _, _, some (7, true)⟩) (v := ?v15) rfl (by omega) (by kernel_rfl) (by kernel_rfl) (by kernel_rfl) (by kernel_rfl) (by kernel_rfl) (fun _ _ _ h => h) (Or.inl ⟨by rfl, ?y15⟩) (by assumption) ?r15
  case y15 =>
    intro W hSw
    try dsimp only at hSw
    go_simp
    try with_reducible rfl
  case r15 =>
  try simp only [Act.put, List.setIfInBounds_toArray, List.set_cons_zero, List.set_cons_succ]
  refine wpAnyX_take0 (i := 16) (oi := ⟨some 88, Op.binOp BinOp.sub 3 (Operand.tmp 85) (Operand.tmp 87) 3, 3, _, _, some (7, true)⟩) (v := ?v16) rfl (by omega) (by kernel_rfl) (by kernel_rfl) (by kernel_rfl) (fun _ _ _ h => h) (Or.inl ⟨by rfl, ?y16⟩) (by assumption) ?r16
  case y16 =>
    intro W hSw
    try dsimp only at hSw
    go_simp
    try with_reducible rfl
  case r16 =>
  try simp only [Act.put, List.setIfInBounds_toArray, List.set_cons_zero, List.set_cons_succ]
  refine wpAnyX_take0 (i := 17) (oi := ⟨some 89, Op.slice 22 (Operand.tmp 83) none (some (Operand.tmp 88)) none, 22, _, _, some (7, true)⟩) (v := ?v17) rfl (by omega) (by kernel_rfl) (by kernel_rfl) (by kernel_rfl) (fun _ _ _ h => h) (Or.inl ⟨by rfl, ?y17⟩) (by assumption) ?r17
  case y17 =>
    intro W hSw
    try dsimp only at hSw
    go_simp
    try with_reducible rfl
  case r17 =>
  try simp only [Act.put, List.setIfInBounds_toArray, List.set_cons_zero, List.set_cons_succ]
  refine wpAnyX_take (i := 18) (oi := ⟨some 90, Op.convert 22 9 (Operand.tmp 89), 9, _, _, some (7, true)⟩) (v := ?v18) rfl (by omega) (by kernel_rfl) (by kernel_rfl) (by kernel_rfl) (by kernel_rfl) (by kernel_rfl) (fun _ _ _ h => h) (Or.inl ⟨by rfl, ?y18⟩) (by assumption) ?r18
  case y18 =>
    intro W hSw
    try dsimp only at hSw
    go_simp
    try with_reducible rfl
  case r18 =>
  try simp only [Act.put, List.setIfInBounds_toArray, List.set_cons_zero, List.set_cons_succ]
  refine wpAnyX_take0 (i := 19) (oi := ⟨some 91, Op.binOp BinOp.eql 9 (Operand.tmp 82) (Operand.tmp 90) 9, 4, _, _, some (7, true)⟩) (v := ?v19) rfl (by omega) (by kernel_rfl) (by kernel_rfl) (by kernel_rfl) (fun _ _ _ h => h) (Or.inl ⟨by rfl, ?y19⟩) (by assumption) ?r19
  case y19 =>
    intro W hSw
    try dsimp only at hSw
    go_simp
    try with_reducible rfl
  case r19 =>
  try simp only [Act.put, List.setIfInBounds_toArray, List.set_cons_zero, List.set_cons_succ]
  refine wpAnyX_take0 (i := 20) (oi := ⟨some 92, Op.pick (Operand.tmp 79) (Operand.tmp 91) (Operand.const (Value.bool false)), 4, _, _, none⟩) (v := ?v20) rfl (by omega) (by kernel_rfl) (by kernel_rfl) (by kernel_rfl) (fun _ _ _ h => h) (Or.inl ⟨by rfl, ?y20⟩) (by assumption) ?r20
  case y20 =>
    intro W hSw
    try dsimp only at hSw
    go_simp
    try with_reducible rfl
  case r20 =>
  try simp only [Act.put, List.setIfInBounds_toArray, List.set_cons_zero, List.set_cons_succ]
  refine wpAnyX_one (i := 21) (by kernel_rfl) rfl (fun K hK => ?_)
  go_simp
  refine hK _ _ (fun h => absurd h (by decide)) ?_
  clear hK K
  try simp only [Act.put, List.setIfInBounds_toArray, List.set_cons_zero, List.set_cons_succ]
  refine wpAnyX_done (by kernel_rfl) ?_ _
  go_wp2_with fail
  go_ret
  exact ⟨rfl, HBE.out.trans (hS9.mono HBE.out.size)⟩
set_option maxRecDepth 100000 in
set_option maxHeartbeats 8000000 in
theorem pp_h_no (pr : Bool) (P Z : Int) (p k : Nat) (pb : UInt8) (bV : Value) (l : List UInt8) (w : World) (hp : (p : Int) = P) (hpb : pb.toNat = p) (hk : Z.tmod 60 = (k : Int)) (hk60 : k < 60) (hv : Bs w bV l) (hl : l.length ≤ 100) (hno : l.length + k < p) :
    Calls Try.prog 8 #[.bool true, .bool false, .int .u8 P, bV, .int .u8 Z] w fun e w' => e = .returned (.bool true) ∧ Below w.heap.size w w' := by
  have HK := Bx.mk (known12_any w)
  have hp256 : p < 256 := by rw [← hpb]; exact UInt8.toNat_lt _
  obtain ⟨L, hL⟩ : ∃ L : Int, (l.length : Int) = L := ⟨_, rfl⟩
  have hlenb : ∀ (tr : TypeId) (W : World), (Builtin.len_ #[22] tr #[bV]).run Try.prog W = .ok (.int .i64 L) W := fun tr W => by rw [← hL]; exact hv.run_len tr W
  have hd100 : decide (100 < L) = false := decide_eq_false (by omega)
  have hw1 : IntKind.i64.wrap (k : Int) = k := by rw [IntKind.wrap_i64]; omega
  have hw2 : IntKind.u8.wrap (k : Int) = k := by rw [IntKind.wrap_u8]; omega
  have hwP : IntKind.i64.wrap P = P := by rw [IntKind.wrap_i64]; omega
  obtain ⟨M, hM⟩ : ∃ M, [pb] ++ l ++ List.replicate k 0 = M := ⟨_, rfl⟩
  obtain ⟨AL, hAL⟩ : ∃ M, l ++ List.replicate k (0 : UInt8) = M := ⟨_, rfl⟩
  have hMl : M.length = 1 + l.length + k := by rw [← hM]; simp; omega
  have hALl : AL.length = l.length + k := by rw [← hAL]; simp
  have hMh : (M.headD 0).toNat = p := by rw [← hM]; simpa using hpb
  have hMd : M.drop 1 = AL := by rw [← hM, ← hAL]; simp
  obtain ⟨D, hD⟩ : ∃ D, AL.take (l.length + k - p) = D := ⟨_, rfl⟩
  have hdat : dataN 1 8 M = D := by
    unfold dataN
    have h1 : padN 8 M = p := by unfold padN; rw [if_pos (by decide)]; exact hMh
    have h2 : aheadN 1 8 = 1 := by decide
    rw [h1, h2, List.drop_take, hMd, hMl, ← hD]
    congr 1
    omega
  have hpr : payR 1 8 1 M = 6 := by
    unfold payR
    have h1 : padN 8 M = p := by unfold padN; rw [if_pos (by decide)]; exact hMh
    have h2 : aheadN 1 8 = 1 := by decide
    have h3 : sizN 1 8 M.length = false := by
      unfold sizN
      rw [if_pos (by decide), h2]
      exact decide_eq_false (by omega)
    rw [if_neg (by decide), h3, if_neg (by decide), if_pos (by unfold isPad; decide), h1, h2, if_pos (by omega)]
  have HPR := Bx.mk hpr
  have HDAT := Bx.mk hdat
  have HRD := Bx.mk (fun (W : World) (v : Value) (h : Bs W v M) => pyRead_any 1 8 1 v M (by omega) (by omega) (by omega) W 1 8 1 rfl rfl rfl h (by omega))
  have HRP := Bx.mk (fun (W : World) (v : Value) (h : Bs W v M) => rPay_1_8 v M p W h (by omega) (by omega) hMh 6 (by rw [if_pos (by omega)]))
  rw [hMd, show M.length - 1 - p = l.length + k - p by omega, hD] at HRP
  obtain ⟨LA, hLA⟩ : ∃ L : Int, (AL.length : Int) = L := ⟨_, rfl⟩
  have hgt : decide (LA < P) = true := decide_eq_true (by omega)
  have HLA := Bx.mk hLA
  have HM := Bx.mk hM
  have HAL := Bx.mk hAL
  have HLL := Bx.mk (show l.length ≤ 1000000 by omega)
  have HL1 := Bx.mk hl
  have HKK := Bx.mk (show k ≤ 1000000 by omega)
  have HP1 := Bx.mk (show (#[Value.int .u8 P]).toList = [pb].map bv by simp [bv, hpb, hp])
  have HV := Bx.mk hv
  clear hMl hALl hMh hMd hD hdat hpr hLA hM hAL hno hl hv hk60 hpb hp hp256 hL
  go_enter Try.func8, Try.ntmps8
  go_upto_region 5 with (go_at_call 28; refine HK.out.mono ?_; rintro e w1 ⟨rfl, b1⟩; have HB1 := Bx.mk b1; clear b1)
  go_upto_region 7 with fail
  have HO : Bx (OwB ((w1.alloc (.cells #[.int .u8 P] 5)).alloc (.cells (fraA 0 8 1 nilV) 28)) w1.heap.size (.slice (some ⟨w1.heap.size, 0, none⟩) 1 1) [pb]) := ⟨(OwB.litP w1 #[.int .u8 P] [pb] HP1.out (by simp)).alloc _⟩
  have HF : Bx (Sb 28 ((w1.alloc (.cells #[.int .u8 P] 5)).alloc (.cells (fraA 0 8 1 nilV) 28)) (w1.heap.size + 1) (fraA 0 8 1 nilV)) := ⟨Sb.newg _ _ _ (by simp) _⟩
  have HB : Bx (Below w.heap.size w ((w1.alloc (.cells #[.int .u8 P] 5)).alloc (.cells (fraA 0 8 1 nilV) 28))) := ⟨(HB1.out.alloc HB1.out.size _).alloc (HB1.out.alloc HB1.out.size _).size _⟩
  obtain ⟨wa, hwa⟩ : ∃ W, (w1.alloc (.cells #[.int .u8 P] 5)).alloc (.cells (fraA 0 8 1 nilV) 28) = W := ⟨_, rfl⟩
  rw [hwa] at HO HF HB ⊢
  obtain ⟨gF, hgF⟩ : ∃ g, w1.heap.size + 1 = g := ⟨_, rfl⟩
  rw [hgF] at HF ⊢
  obtain ⟨v0, hv0⟩ : ∃ v, Value.slice (some ⟨w1.heap.size, 0, none⟩) 1 1 = v := ⟨_, rfl⟩
  rw [hv0] at HO ⊢
  have HW : Bx (w.heap.size ≤ w1.heap.size ∧ w1.heap.size ≤ wa.heap.size ∧ w.heap.size ≤ gF) := ⟨HB1.out.size, by rw [← hwa]; simp; omega, by have := HB1.out.size; omega⟩
  obtain ⟨B, hB⟩ : ∃ b, w1.heap.size = b := ⟨_, rfl⟩
  rw [hB] at HO HW
  clear hwa hgF hv0 hB HP1 HB1
  have c0 : wa.cell? ⟨gF, 0, none⟩ = some (.int .u8 0) := HF.out.cell 0
  have f0 := HF.out.free 0
  go_upto_region 9 with fail
  have HF2 : Bx (Sb 28 (wa.setCell ⟨gF, 0, none⟩ (.int .u8 1)) gF (fraA 1 8 1 nilV)) := ⟨HF.out.set 0 (.int .u8 1) (show 0 < 4 by decide)⟩
  have HO2 := Bx.mk (HO.out.grownNe (grown_set wa gF 0 (.int .u8 1)) (HO.out.neSb HF.out (by decide)))
  have HB2 := Bx.mk (HB.out.setCell (p := ⟨gF, 0, none⟩) HW.out.2.2 (.int .u8 1))
  have HW2 : Bx (B ≤ (wa.setCell ⟨gF, 0, none⟩ (.int .u8 1)).heap.size) := ⟨Nat.le_trans HW.out.2.1 (grown_set wa gF 0 (.int .u8 1)).size⟩
  obtain ⟨wb, hwb⟩ : ∃ W, wa.setCell ⟨gF, 0, none⟩ (.int .u8 1) = W := ⟨_, rfl⟩
  rw [hwb] at HF2 HO2 HB2 HW2 ⊢
  clear hwb c0 f0 HF HO HB
  go_upto_region 12 with fail
  go_upto_region 13 with (first
    | (at_builtin; obtain ⟨v6, w6, hr6, o6, g6⟩ := run_bytes_own _ 22 B v0 bV [pb] l HO2.out (HV.out.keep HB2.out) (by simp) HLL.out (HW2.out); refine Lib.wpList_append_run _ rfl _ _ _ _ rfl _ _ rfl rfl _ _ hr6 ?_; have HO6 := Bx.mk o6; have HF6 := Bx.mk (HF2.out.grown g6 (HO2.out.neSb HF2.out (by decide))); have HB6 := Bx.mk (HB2.out.grown g6 HB2.out.size (fun j hj => Nat.le_trans HW.out.1 (HO2.out.ge hj))); have HW6 := Bx.mk (Nat.le_trans (HW2.out) g6.size); clear hr6 o6 g6)
    | (at_builtin; obtain ⟨v7, w7, hr7, o7, g7⟩ := run_zeros_own _ 22 B v6 ([pb] ++ l) k HO6.out HKK.out (by have := HL1.out; simp; omega) HW6.out; refine Lib.wpList_append_run _ rfl _ _ _ _ rfl _ _ rfl rfl _ _ hr7 ?_; obtain ⟨A7, n7, cc7, rfl⟩ := o7.shape; have HF7 := Bx.mk (HF6.out.grown g7 (HO6.out.neSb HF6.out (by decide))); have HB7 := Bx.mk (HB6.out.grown g7 HB6.out.size (fun j hj => Nat.le_trans HW.out.1 (HO6.out.ge hj))); have HO7 := Bx.mk o7; have k3 : w7.cell? ⟨gF, 3, none⟩ = some (.slice none 0 0) := HF7.out.cell 3; have f3 := HF7.out.free 3; clear hr7 o7 g7))
  have HF8 : Bx (Sb 28 (w7.setCell ⟨gF, 3, none⟩ (.slice A7 n7 cc7)) gF (fraA 1 8 1 (.slice A7 n7 cc7))) := ⟨HF7.out.set 3 (.slice A7 n7 cc7) (show 3 < 4 by decide)⟩
  have HV8 := Bx.mk (HO7.out.grownNe (grown_set w7 gF 3 (.slice A7 n7 cc7)) (HO7.out.neSb HF7.out (by decide))).bs
  rw [HM.out] at HV8
  have HB8 := Bx.mk (HB7.out.setCell (p := ⟨gF, 3, none⟩) HW.out.2.2 (.slice A7 n7 cc7))
  obtain ⟨w8, hw8⟩ : ∃ W, w7.setCell ⟨gF, 3, none⟩ (.slice A7 n7 cc7) = W := ⟨_, rfl⟩
  rw [hw8] at HF8 HV8 HB8 ⊢
  clear hw8 k3 f3 HF7 HO7 HB7
  go_upto_region 14 with (first
    | (with_reducible refine wpList_loadFra gF 1 8 1 (.slice A7 n7 cc7) rfl HF8.out ?_)
    | (go_at_call 31; refine (HRD.out _ _ HV8.out).mono ?_; rintro e w9 ⟨⟨A1, n1, c1, A2, n2, c2, cc, ss, ii, he, hq⟩, b9⟩; rw [HPR.out] at he; clear hq; subst he; have HX9 := Bx.mk b9; clear b9))
  have HXa := Bx.mk (HX9.out.alloc HX9.out.size (.cells (payA (.slice A1 n1 c1) (.slice A2 n2 c2) cc ss ii) 50))
  have HPa : Bx (Sb 50 (w9.alloc (.cells (payA (.slice A1 n1 c1) (.slice A2 n2 c2) cc ss ii) 50)) w9.heap.size (payA (.slice A1 n1 c1) (.slice A2 n2 c2) cc ss ii)) := ⟨Sb.new _ w9 _⟩
  obtain ⟨wA, hwA⟩ : ∃ W, w9.alloc (.cells (payA (.slice A1 n1 c1) (.slice A2 n2 c2) cc ss ii) 50) = W := ⟨_, rfl⟩
  obtain ⟨gP, hgP⟩ : ∃ g, w9.heap.size = g := ⟨_, rfl⟩
  rw [hwA] at HXa HPa  ⊢
  rw [hgP] at HPa ⊢
  clear hwA hgP
  have HFa := Bx.mk (HF8.out.below HXa.out HF8.out.lt)
  have HVa := Bx.mk (HV8.out.keep HXa.out)
  have HBa := Bx.mk (HB8.out.trans (HXa.out.mono HB8.out.size))
  go_upto_region 15 with (first
    | (with_reducible refine wpList_loadFra gF 1 8 1 (.slice A7 n7 cc7) rfl HFa.out ?_)
    | (go_at_call 32; refine (HRP.out _ _ HVa.out).mono ?_; rintro e wB ⟨⟨A3, n3, c3, rfl, hq⟩, bB⟩; have HXB := Bx.mk bB; have HQ := Bx.mk hq; clear bB hq))
  have HXc := Bx.mk (HXB.out.alloc HXB.out.size (.cells (payA (.slice A3 n3 c3) nilV 0 0 0) 50))
  have HQc : Bx (Sb 50 (wB.alloc (.cells (payA (.slice A3 n3 c3) nilV 0 0 0) 50)) wB.heap.size (payA (.slice A3 n3 c3) nilV 0 0 0)) := ⟨Sb.new _ wB _⟩
  obtain ⟨wC, hwC⟩ : ∃ W, wB.alloc (.cells (payA (.slice A3 n3 c3) nilV 0 0 0) 50) = W := ⟨_, rfl⟩
  obtain ⟨gQ, hgQ⟩ : ∃ g, wB.heap.size = g := ⟨_, rfl⟩
  rw [hwC] at HXc HQc  ⊢
  rw [hgQ] at HQc ⊢
  clear hwC hgQ
  have HPc := Bx.mk (HPa.out.below HXc.out HPa.out.lt)
  have HBc := Bx.mk (HBa.out.trans (HXc.out.mono HBa.out.size))
  have HVc := Bx.mk (HV.out.keep HBc.out)
  go_upto_region 16 with (first
    | (at_builtin; obtain ⟨vD, wD, hrD, oD, gD⟩ := run_bytes_own _ 22 wC.heap.size (.slice none 0 0) bV [] l (OwB.nil wC wC.heap.size) HVc.out (by simp) HLL.out (Nat.le_refl _); refine Lib.wpList_append_run _ rfl _ _ _ _ rfl _ _ rfl rfl _ _ hrD ?_; have HOD := Bx.mk oD; have HXD := Bx.mk ((Below.refl wC.heap.size wC).grown gD (Nat.le_refl _) (fun j hj => by simp [Value.ownBlock] at hj)); clear hrD oD gD)
    | (at_builtin; obtain ⟨vE, wE, hrE, oE, gE⟩ := run_zeros_own _ 22 wC.heap.size vD ([] ++ l) k HOD.out HKK.out HLL.out HXD.out.size; refine Lib.wpList_append_run _ rfl _ _ _ _ rfl _ _ rfl rfl _ _ hrE ?_; have HOE := Bx.mk oE.bs; have HXE := Bx.mk (HXD.out.grown gE HXD.out.size (fun j hj => HOD.out.ge hj)); clear hrE oE gE))
  rw [List.nil_append, HAL.out] at HOE
  have HBE := Bx.mk (HBc.out.trans (HXE.out.mono HBc.out.size))
  have hlenA : ∀ (tr : TypeId) (W : World), (Builtin.len_ #[22] tr #[vE]).run Try.prog W = .ok (.int .i64 LA) W := fun tr W => by rw [← HLA.out]; exact HOE.out.run_len tr W
  go_wp2_with fail
  go_ret
  exact ⟨rfl, HBE.out⟩
set_option maxRecDepth 100000 in
set_option maxHeartbeats 8000000 in
theorem pp_h_ok (pr : Bool) (P Z : Int) (p k : Nat) (pb : UInt8) (bV : Value) (l : List UInt8) (w : World) (hp : (p : Int) = P) (hpb : pb.toNat = p) (hk : Z.tmod 60 = (k : Int)) (hk60 : k < 60) (hv : Bs w bV l) (hl : l.length ≤ 100) (hno : ¬ l.length + k < p) :
    Calls Try.prog 8 #[.bool true, .bool false, .int .u8 P, bV, .int .u8 Z] w fun e w' => e = .returned (.bool true) ∧ Below w.heap.size w w' := by
  have HK := Bx.mk (known12_any w)
  have hp256 : p < 256 := by rw [← hpb]; exact UInt8.toNat_lt _
  obtain ⟨L, hL⟩ : ∃ L : Int, (l.length : Int) = L := ⟨_, rfl⟩
  have hlenb : ∀ (tr : TypeId) (W : World), (Builtin.len_ #[22] tr #[bV]).run Try.prog W = .ok (.int .i64 L) W := fun tr W => by rw [← hL]; exact hv.run_len tr W
  have hd100 : decide (100 < L) = false := decide_eq_false (by omega)
  have hw1 : IntKind.i64.wrap (k : Int) = k := by rw [IntKind.wrap_i64]; omega
  have hw2 : IntKind.u8.wrap (k : Int) = k := by rw [IntKind.wrap_u8]; omega
  have hwP : IntKind.i64.wrap P = P := by rw [IntKind.wrap_i64]; omega
  obtain ⟨M, hM⟩ : ∃ M, [pb] ++ l ++ List.replicate k 0 = M := ⟨_, rfl⟩
  obtain ⟨AL, hAL⟩ : ∃ M, l ++ List.replicate k (0 : UInt8) = M := ⟨_, rfl⟩
  have hMl : M.length = 1 + l.length + k := by rw [← hM]; simp; omega
  have hALl : AL.length = l.length + k := by rw [← hAL]; simp
  have hMh : (M.headD 0).toNat = p := by rw [← hM]; simpa using hpb
  have hMd : M.drop 1 = AL := by rw [← hM, ← hAL]; simp
  obtain ⟨D, hD⟩ : ∃ D, AL.take (l.length + k - p) = D := ⟨_, rfl⟩
  have hdat : dataN 1 8 M = D := by
    unfold dataN
    have h1 : padN 8 M = p := by unfold padN; rw [if_pos (by decide)]; exact hMh
    have h2 : aheadN 1 8 = 1 := by decide
    rw [h1, h2, List.drop_take, hMd, hMl, ← hD]
    congr 1
    omega
  have hpr : payR 1 8 1 M = 0 := by
    unfold payR
    have h1 : padN 8 M = p := by unfold padN; rw [if_pos (by decide)]; exact hMh
    have h2 : aheadN 1 8 = 1 := by decide
    have h3 : sizN 1 8 M.length = false := by
      unfold sizN
      rw [if_pos (by decide), h2]
      exact decide_eq_false (by omega)
    rw [if_neg (by decide), h3, if_neg (by decide), if_pos (by unfold isPad; decide), h1, h2, if_neg (by omega)]
  have HPR := Bx.mk hpr
  have HDAT := Bx.mk hdat
  have HRD := Bx.mk (fun (W : World) (v : Value) (h : Bs W v M) => pyRead_any 1 8 1 v M (by omega) (by omega) (by omega) W 1 8 1 rfl rfl rfl h (by omega))
  have HRP := Bx.mk (fun (W : World) (v : Value) (h : Bs W v M) => rPay_1_8 v M p W h (by omega) (by omega) hMh 0 (by rw [if_neg (by omega)]))
  rw [hMd, show M.length - 1 - p = l.length + k - p by omega, hD] at HRP
  obtain ⟨LA, hLA⟩ : ∃ L : Int, (AL.length : Int) = L := ⟨_, rfl⟩
  have hgt : decide (LA < P) = false := decide_eq_false (by omega)
  obtain ⟨E, hE⟩ : ∃ E : Int, LA - P = E := ⟨_, rfl⟩
  have hs : wrap64 E = E := by unfold wrap64; omega
  have hs2 : IntKind.i64.wrap E = E := by rw [IntKind.wrap_i64]; omega
  have HE : Bx (0 ≤ E ∧ E ≤ AL.length ∧ AL.take E.toNat = D) := ⟨by omega, by omega, by rw [← hD, show E.toNat = l.length + k - p by omega]⟩
  have hself := str_selfP D
  have HLA := Bx.mk hLA
  have HM := Bx.mk hM
  have HAL := Bx.mk hAL
  have HLL := Bx.mk (show l.length ≤ 1000000 by omega)
  have HL1 := Bx.mk hl
  have HKK := Bx.mk (show k ≤ 1000000 by omega)
  have HP1 := Bx.mk (show (#[Value.int .u8 P]).toList = [pb].map bv by simp [bv, hpb, hp])
  have HV := Bx.mk hv
  clear hMl hALl hMh hMd hD hdat hpr hLA hM hAL hno hl hv hk60 hpb hp hp256 hL
  go_enter Try.func8, Try.ntmps8
  go_upto_region 5 with (go_at_call 28; refine HK.out.mono ?_; rintro e w1 ⟨rfl, b1⟩; have HB1 := Bx.mk b1; clear b1)
  go_upto_region 7 with fail
  have HO : Bx (OwB ((w1.alloc (.cells #[.int .u8 P] 5)).alloc (.cells (fraA 0 8 1 nilV) 28)) w1.heap.size (.slice (some ⟨w1.heap.size, 0, none⟩) 1 1) [pb]) := ⟨(OwB.litP w1 #[.int .u8 P] [pb] HP1.out (by simp)).alloc _⟩
  have HF : Bx (Sb 28 ((w1.alloc (.cells #[.int .u8 P] 5)).alloc (.cells (fraA 0 8 1 nilV) 28)) (w1.heap.size + 1) (fraA 0 8 1 nilV)) := ⟨Sb.newg _ _ _ (by simp) _⟩
  have HB : Bx (Below w.heap.size w ((w1.alloc (.cells #[.int .u8 P] 5)).alloc (.cells (fraA 0 8 1 nilV) 28))) := ⟨(HB1.out.alloc HB1.out.size _).alloc (HB1.out.alloc HB1.out.size _).size _⟩
  obtain ⟨wa, hwa⟩ : ∃ W, (w1.alloc (.cells #[.int .u8 P] 5)).alloc (.cells (fraA 0 8 1 nilV) 28) = W := ⟨_, rfl⟩
  rw [hwa] at HO HF HB ⊢
  obtain ⟨gF, hgF⟩ : ∃ g, w1.heap.size + 1 = g := ⟨_, rfl⟩
  rw [hgF] at HF ⊢
  obtain ⟨v0, hv0⟩ : ∃ v, Value.slice (some ⟨w1.heap.size, 0, none⟩) 1 1 = v := ⟨_, rfl⟩
  rw [hv0] at HO ⊢
  have HW : Bx (w.heap.size ≤ w1.heap.size ∧ w1.heap.size ≤ wa.heap.size ∧ w.heap.size ≤ gF) := ⟨HB1.out.size, by rw [← hwa]; simp; omega, by have := HB1.out.size; omega⟩
  obtain ⟨B, hB⟩ : ∃ b, w1.heap.size = b := ⟨_, rfl⟩
  rw [hB] at HO HW
  clear hwa hgF hv0 hB HP1 HB1
  have c0 : wa.cell? ⟨gF, 0, none⟩ = some (.int .u8 0) := HF.out.cell 0
  have f0 := HF.out.free 0
  go_upto_region 9 with fail
  have HF2 : Bx (Sb 28 (wa.setCell ⟨gF, 0, none⟩ (.int .u8 1)) gF (fraA 1 8 1 nilV)) := ⟨HF.out.set 0 (.int .u8 1) (show 0 < 4 by decide)⟩
  have HO2 := Bx.mk (HO.out.grownNe (grown_set wa gF 0 (.int .u8 1)) (HO.out.neSb HF.out (by decide)))
  have HB2 := Bx.mk (HB.out.setCell (p := ⟨gF, 0, none⟩) HW.out.2.2 (.int .u8 1))
  have HW2 : Bx (B ≤ (wa.setCell ⟨gF, 0, none⟩ (.int .u8 1)).heap.size) := ⟨Nat.le_trans HW.out.2.1 (grown_set wa gF 0 (.int .u8 1)).size⟩
  obtain ⟨wb, hwb⟩ : ∃ W, wa.setCell ⟨gF, 0, none⟩ (.int .u8 1) = W := ⟨_, rfl⟩
  rw [hwb] at HF2 HO2 HB2 HW2 ⊢
  clear hwb c0 f0 HF HO HB
  go_upto_region 12 with fail
  go_upto_region 13 with (first
    | (at_builtin; obtain ⟨v6, w6, hr6, o6, g6⟩ := run_bytes_own _ 22 B v0 bV [pb] l HO2.out (HV.out.keep HB2.out) (by simp) HLL.out (HW2.out); refine Lib.wpList_append_run _ rfl _ _ _ _ rfl _ _ rfl rfl _ _ hr6 ?_; have HO6 := Bx.mk o6; have HF6 := Bx.mk (HF2.out.grown g6 (HO2.out.neSb HF2.out (by decide))); have HB6 := Bx.mk (HB2.out.grown g6 HB2.out.size (fun j hj => Nat.le_trans HW.out.1 (HO2.out.ge hj))); have HW6 := Bx.mk (Nat.le_trans (HW2.out) g6.size); clear hr6 o6 g6)
    | (at_builtin; obtain ⟨v7, w7, hr7, o7, g7⟩ := run_zeros_own _ 22 B v6 ([pb] ++ l) k HO6.out HKK.out (by have := HL1.out; simp; omega) HW6.out; refine Lib.wpList_append_run _ rfl _ _ _ _ rfl _ _ rfl rfl _ _ hr7 ?_; obtain ⟨A7, n7, cc7, rfl⟩ := o7.shape; have HF7 := Bx.mk (HF6.out.grown g7 (HO6.out.neSb HF6.out (by decide))); have HB7 := Bx.mk (HB6.out.grown g7 HB6.out.size (fun j hj => Nat.le_trans HW.out.1 (HO6.out.ge hj))); have HO7 := Bx.mk o7; have k3 : w7.cell? ⟨gF, 3, none⟩ = some (.slice none 0 0) := HF7.out.cell 3; have f3 := HF7.out.free 3; clear hr7 o7 g7))
  have HF8 : Bx (Sb 28 (w7.setCell ⟨gF, 3, none⟩ (.slice A7 n7 cc7)) gF (fraA 1 8 1 (.slice A7 n7 cc7))) := ⟨HF7.out.set 3 (.slice A7 n7 cc7) (show 3 < 4 by decide)⟩
  have HV8 := Bx.mk (HO7.out.grownNe (grown_set w7 gF 3 (.slice A7 n7 cc7)) (HO7.out.neSb HF7.out (by decide))).bs
  rw [HM.out] at HV8
  have HB8 := Bx.mk (HB7.out.setCell (p := ⟨gF, 3, none⟩) HW.out.2.2 (.slice A7 n7 cc7))
  obtain ⟨w8, hw8⟩ : ∃ W, w7.setCell ⟨gF, 3, none⟩ (.slice A7 n7 cc7) = W := ⟨_, rfl⟩
  rw [hw8] at HF8 HV8 HB8 ⊢
  clear hw8 k3 f3 HF7 HO7 HB7
  go_upto_region 14 with (first
    | (with_reducible refine wpList_loadFra gF 1 8 1 (.slice A7 n7 cc7) rfl HF8.out ?_)
    | (go_at_call 31; refine (HRD.out _ _ HV8.out).mono ?_; rintro e w9 ⟨⟨A1, n1, c1, A2, n2, c2, cc, ss, ii, he, hq⟩, b9⟩; rw [HPR.out] at he; obtain ⟨hu, q1, q2, q3, q4⟩ := (hq HPR.out).1 (by decide); rw [HDAT.out] at hu; injection q1 with q1 q5 q6; subst q1 q2 q3 q4 q5 q6; have HU9 := Bx.mk hu.bs; clear hu hq; subst he; have HX9 := Bx.mk b9; clear b9))
  have HXa := Bx.mk (HX9.out.alloc HX9.out.size (.cells (payA (.slice A1 n1 c1) nilV 0 0 0) 50))
  have HPa : Bx (Sb 50 (w9.alloc (.cells (payA (.slice A1 n1 c1) nilV 0 0 0) 50)) w9.heap.size (payA (.slice A1 n1 c1) nilV 0 0 0)) := ⟨Sb.new _ w9 _⟩
  have HUa := Bx.mk (HU9.out.keep ((Below.refl w9.heap.size w9).alloc (Nat.le_refl _) (.cells (payA (.slice A1 n1 c1) nilV 0 0 0) 50)))
  obtain ⟨wA, hwA⟩ : ∃ W, w9.alloc (.cells (payA (.slice A1 n1 c1) nilV 0 0 0) 50) = W := ⟨_, rfl⟩
  obtain ⟨gP, hgP⟩ : ∃ g, w9.heap.size = g := ⟨_, rfl⟩
  rw [hwA] at HXa HPa HUa ⊢
  rw [hgP] at HPa ⊢
  clear hwA hgP
  have HFa := Bx.mk (HF8.out.below HXa.out HF8.out.lt)
  have HVa := Bx.mk (HV8.out.keep HXa.out)
  have HBa := Bx.mk (HB8.out.trans (HXa.out.mono HB8.out.size))
  go_upto_region 15 with (first
    | (with_reducible refine wpList_loadFra gF 1 8 1 (.slice A7 n7 cc7) rfl HFa.out ?_)
    | (go_at_call 32; refine (HRP.out _ _ HVa.out).mono ?_; rintro e wB ⟨⟨A3, n3, c3, rfl, hq⟩, bB⟩; have HXB := Bx.mk bB; have HQ := Bx.mk hq; clear bB hq))
  have HXc := Bx.mk (HXB.out.alloc HXB.out.size (.cells (payA (.slice A3 n3 c3) nilV 0 0 0) 50))
  have HQc : Bx (Sb 50 (wB.alloc (.cells (payA (.slice A3 n3 c3) nilV 0 0 0) 50)) wB.heap.size (payA (.slice A3 n3 c3) nilV 0 0 0)) := ⟨Sb.new _ wB _⟩
  have HYc := Bx.mk ((HQ.out (by first | rfl | trivial)).bs.keep ((Below.refl wB.heap.size wB).alloc (Nat.le_refl _) (.cells (payA (.slice A3 n3 c3) nilV 0 0 0) 50)))
  obtain ⟨wC, hwC⟩ : ∃ W, wB.alloc (.cells (payA (.slice A3 n3 c3) nilV 0 0 0) 50) = W := ⟨_, rfl⟩
  obtain ⟨gQ, hgQ⟩ : ∃ g, wB.heap.size = g := ⟨_, rfl⟩
  rw [hwC] at HXc HQc HYc ⊢
  rw [hgQ] at HQc ⊢
  clear hwC hgQ
  have HPc := Bx.mk (HPa.out.below HXc.out HPa.out.lt)
  have HBc := Bx.mk (HBa.out.trans (HXc.out.mono HBa.out.size))
  have HVc := Bx.mk (HV.out.keep HBc.out)
  go_upto_region 16 with (first
    | (at_builtin; obtain ⟨vD, wD, hrD, oD, gD⟩ := run_bytes_own _ 22 wC.heap.size (.slice none 0 0) bV [] l (OwB.nil wC wC.heap.size) HVc.out (by simp) HLL.out (Nat.le_refl _); refine Lib.wpList_append_run _ rfl _ _ _ _ rfl _ _ rfl rfl _ _ hrD ?_; have HOD := Bx.mk oD; have HXD := Bx.mk ((Below.refl wC.heap.size wC).grown gD (Nat.le_refl _) (fun j hj => by simp [Value.ownBlock] at hj)); clear hrD oD gD)
    | (at_builtin; obtain ⟨vE, wE, hrE, oE, gE⟩ := run_zeros_own _ 22 wC.heap.size vD ([] ++ l) k HOD.out HKK.out HLL.out HXD.out.size; refine Lib.wpList_append_run _ rfl _ _ _ _ rfl _ _ rfl rfl _ _ hrE ?_; have HOE := Bx.mk oE.bs; have HXE := Bx.mk (HXD.out.grown gE HXD.out.size (fun j hj => HOD.out.ge hj)); clear hrE oE gE))
  rw [List.nil_append, HAL.out] at HOE
  have HBE := Bx.mk (HBc.out.trans (HXE.out.mono HBc.out.size))
  have hlenA : ∀ (tr : TypeId) (W : World), (Builtin.len_ #[22] tr #[vE]).run Try.prog W = .ok (.int .i64 LA) W := fun tr W => by rw [← HLA.out]; exact HOE.out.run_len tr W
  obtain ⟨vm, hslm, hvm⟩ := HOE.out.upto E HE.out.1 HE.out.2.1
  have HVM := Bx.mk (hvm wE HOE.out)
  rw [HE.out.2.2] at HVM
  clear hvm
  go_upto_region 18 with fail
  have hSx := Below.refl wE.heap.size wE
  have HPE := Bx.mk (HPc.out.below HXE.out HPc.out.lt)
  have HQE := Bx.mk (HQc.out.below HXE.out HQc.out.lt)
  have HUE := Bx.mk ((HUa.out.keep HXc.out).keep HXE.out)
  have HYE := Bx.mk (HYc.out.keep HXE.out)
  have HHP := Bx.mk (fun W (h1 : Bs W (.slice A1 n1 c1) D) (h2 : Bs W (.slice A3 n3 c3) D) => helpPay_any _ _ D W h1 h2)
  have k80 : ∀ W, Below wE.heap.size wE W → W.cell? ⟨gP, 0, none⟩ = some (.slice A1 n1 c1) := fun W h => (HPE.out.keep h).cell 0
  have k82 : ∀ W, Below wE.heap.size wE W → (convert 22 9 (.slice A1 n1 c1)).run Try.prog W = .ok (.string (bstr D)) W := fun W h => conv_str (HUE.out.keep h)
  have k90 : ∀ W, Below wE.heap.size wE W → (convert 22 9 vm).run Try.prog W = .ok (.string (bstr D)) W := fun W h => conv_str (HVM.out.keep h)
  refine wp_region_x 21 (fun W => Below wE.heap.size wE W) (by kernel_rfl) (hSx.drew) (fun hHeld => ?_)
  refine wpAnyX_take0 (i := 0) (oi := ⟨some 72, Op.move (Operand.tmp 14), 3, _, _, none⟩) (v := ?v0) rfl (by omega) (by kernel_rfl) (by kernel_rfl) (by kernel_rfl) (fun _ _ _ h => h) (Or.inl ⟨by rfl, ?y0⟩) (by assumption) ?r0
  case y0 =>
    intro W hSw
    try dsimp only at hSw
    go_simp
    try with_reducible rfl
  case r0 =>
  try simp only [Act.put, List.setIfInBounds_toArray, List.set_cons_zero, List.set_cons_succ]
  refine wpAnyX_take0 (i := 1) (oi := ⟨some 73, Op.binOp BinOp.eql 3 (Operand.tmp 72) (Operand.const (Value.int IntKind.i64 0)) 3, 4, _, _, none⟩) (v := ?v1) rfl (by omega) (by kernel_rfl) (by kernel_rfl) (by kernel_rfl) (fun _ _ _ h => h) (Or.inl ⟨by rfl, ?y1⟩) (by assumption) ?r1
  case y1 =>
    intro W hSw
    try dsimp only at hSw
    go_simp
    try with_reducible rfl
  case r1 =>
  try simp only [Act.put, List.setIfInBounds_toArray, List.set_cons_zero, List.set_cons_succ]
  refine wpAnyX_take0 (i := 2) (oi := ⟨some 74, Op.move (Operand.tmp 73), 4, _, _, none⟩) (v := ?v2) rfl (by omega) (by kernel_rfl) (by kernel_rfl) (by kernel_rfl) (fun _ _ _ h => h) (Or.inl ⟨by rfl, ?y2⟩) (by assumption) ?r2
  case y2 =>
    intro W hSw
    try dsimp only at hSw
    go_simp
    try with_reducible rfl
  case r2 =>
  try simp only [Act.put, List.setIfInBounds_toArray, List.set_cons_zero, List.set_cons_succ]
  refine wpAnyX_take (i := 3) (oi := ⟨some 75, Op.load 50 (Operand.tmp 13), 50, _, _, some (2, true)⟩) (v := ?v3) rfl (by omega) (by kernel_rfl) (by kernel_rfl) (by kernel_rfl) (by kernel_rfl) (by kernel_rfl) (fun _ _ _ h => h) (Or.inl ⟨by rfl, ?y3⟩) (by assumption) ?r3
  case y3 =>
    intro W hSw
    try dsimp only at hSw
    refine exec_loadPay gP (.slice A1 n1 c1) nilV 0 0 0 ?_ (HPE.out.keep hSw)
    rfl
  case r3 =>
  try simp only [Act.put, List.setIfInBounds_toArray, List.set_cons_zero, List.set_cons_succ]
  refine wpAnyX_take (i := 4) (oi := ⟨some 76, Op.load 50 (Operand.tmp 15), 50, _, _, some (2, true)⟩) (v := ?v4) rfl (by omega) (by kernel_rfl) (by kernel_rfl) (by kernel_rfl) (by kernel_rfl) (by kernel_rfl) (fun _ _ _ h => h) (Or.inl ⟨by rfl, ?y4⟩) (by assumption) ?r4
  case y4 =>
    intro W hSw
    try dsimp only at hSw
    refine exec_loadPay gQ (.slice A3 n3 c3) nilV 0 0 0 ?_ (HQE.out.keep hSw)
    rfl
  case r4 =>
  try simp only [Act.put, List.setIfInBounds_toArray, List.set_cons_zero, List.set_cons_succ]
  refine wpAnyX_one (i := 5) (by kernel_rfl) rfl (fun K hK => ?_)
  go_simp
  go_at_call 33
  refine (HHP.out _ (HUE.out.keep hHeld) (HYE.out.keep hHeld)).mono ?_
  rintro e wG ⟨rfl, bG⟩
  have hS9 : Below wE.heap.size wE wG := hHeld.trans (bG.mono hHeld.size)
  refine hK _ _ (fun _ => hS9) ?_
  clear hK K
  try simp only [Act.put, List.setIfInBounds_toArray, List.set_cons_zero, List.set_cons_succ]
  refine wpAnyX_take0 (i := 6) (oi := ⟨some 78, Op.pick (Operand.tmp 74) (Operand.tmp 77) (Operand.const (Value.bool false)), 4, _, _, none⟩) (v := ?v6) rfl (by omega) (by kernel_rfl) (by kernel_rfl) (by kernel_rfl) (fun _ _ _ h => h) (Or.inl ⟨by rfl, ?y6⟩) (by assumption) ?r6
  case y6 =>
    intro W hSw
    try dsimp only at hSw
    go_simp
    try with_reducible rfl
  case r6 =>
  try simp only [Act.put, List.setIfInBounds_toArray, List.set_cons_zero, List.set_cons_succ]
  refine wpAnyX_take0 (i := 7) (oi := ⟨some 79, Op.move (Operand.tmp 78), 4, _, _, none⟩) (v := ?v7) rfl (by omega) (by kernel_rfl) (by kernel_rfl) (by kernel_rfl) (fun _ _ _ h => h) (Or.inl ⟨by rfl, ?y7⟩) (by assumption) ?r7
  case y7 =>
    intro W hSw
    try dsimp only at hSw
    go_simp
    try with_reducible rfl
  case r7 =>
  try simp only [Act.put, List.setIfInBounds_toArray, List.set_cons_zero, List.set_cons_succ]
  refine wpAnyX_take0 (i := 8) (oi := ⟨some 80, Op.fieldAddr 50 (Operand.tmp 13) 0, 0, _, _, some (7, true)⟩) (v := ?v8) rfl (by omega) (by kernel_rfl) (by kernel_rfl) (by kernel_rfl) (fun _ _ _ h => h) (Or.inl ⟨by rfl, ?y8⟩) (by assumption) ?r8
  case y8 =>
    intro W hSw
    try dsimp only at hSw
    go_simp
    try with_reducible rfl
  case r8 =>
  try simp only [Act.put, List.setIfInBounds_toArray, List.set_cons_zero, List.set_cons_succ]
  refine wpAnyX_take (i := 9) (oi := ⟨some 81, Op.load 22 (Operand.tmp 80), 22, _, _, some (7, true)⟩) (v := ?v9) rfl (by omega) (by kernel_rfl) (by kernel_rfl) (by kernel_rfl) (by kernel_rfl) (by kernel_rfl) (fun _ _ _ h => h) (Or.inl ⟨by rfl, ?y9⟩) (by assumption) ?r9
  case y9 =>
    intro W hSw
    try dsimp only at hSw
    go_simp
    try with_reducible rfl
  case r9 =>
  try simp only [Act.put, List.setIfInBounds_toArray, List.set_cons_zero, List.set_cons_succ]
  refine wpAnyX_take (i := 10) (oi := ⟨some 82, Op.convert 22 9 (Operand.tmp 81), 9, _, _, some (7, true)⟩) (v := ?v10) rfl (by omega) (by kernel_rfl) (by kernel_rfl) (by kernel_rfl) (by kernel_rfl) (by kernel_rfl) (fun _ _ _ h => h) (Or.inl ⟨by rfl, ?y10⟩) (by assumption) ?r10
  case y10 =>
    intro W hSw
    try dsimp only at hSw
    go_simp
    try with_reducible rfl
  case r10 =>
  try simp only [Act.put, List.setIfInBounds_toArray, List.set_cons_zero, List.set_cons_succ]
  refine wpAnyX_take0 (i := 11) (oi := ⟨some 83, Op.move (Operand.tmp 17), 22, _, _, some (7, true)⟩) (v := ?v11) rfl (by omega) (by kernel_rfl) (by kernel_rfl) (by kernel_rfl) (fun _ _ _ h => h) (Or.inl ⟨by rfl, ?y11⟩) (by assumption) ?r11
  case y11 =>
    intro W hSw
    try dsimp only at hSw
    go_simp
    try with_reducible rfl
  case r11 =>
  try simp only [Act.put, List.setIfInBounds_toArray, List.set_cons_zero, List.set_cons_succ]
  refine wpAnyX_take0 (i := 12) (oi := ⟨some 84, Op.move (Operand.tmp 17), 22, _, _, some (7, true)⟩) (v := ?v12) rfl (by omega) (by kernel_rfl) (by kernel_rfl) (by kernel_rfl) (fun _ _ _ h => h) (Or.inl ⟨by rfl, ?y12⟩) (by assumption) ?r12
  case y12 =>
    intro W hSw
    try dsimp only at hSw
    go_simp
    try with_reducible rfl
  case r12 =>
  try simp only [Act.put, List.setIfInBounds_toArray, List.set_cons_zero, List.set_cons_succ]
  refine wpAnyX_take (i := 13) (oi := ⟨some 85, Op.call { callee := Callee.builtin Builtin.len, args := #[Operand.tmp 84], argTypes := #[22] }, 3, _, _, some (7, true)⟩) (v := ?v13) rfl (by omega) (by kernel_rfl) (by kernel_rfl) (by kernel_rfl) (by kernel_rfl) (by kernel_rfl) (fun _ _ _ h => h) (Or.inl ⟨by rfl, ?y13⟩) (by assumption) ?r13
  case y13 =>
    intro W hSw
    try dsimp only at hSw
    go_simp
    try with_reducible rfl
  case r13 =>
  try simp only [Act.put, List.setIfInBounds_toArray, List.set_cons_zero, List.set_cons_succ]
  refine wpAnyX_take0 (i := 14) (oi := ⟨some 86, Op.move (Operand.tmp 2), 5, _, _, some (7, true)⟩) (v := ?v14) rfl (by omega) (by kernel_rfl) (by kernel_rfl) (by kernel_rfl) (fun _ _ _ h => h) (Or.inl ⟨by rfl, ?y14⟩) (by assumption) ?r14
  case y14 =>
    intro W hSw
    try dsimp only at hSw
    go_simp
    try with_reducible rfl
  case r14 =>
  try simp only [Act.put, List.setIfInBounds_toArray, List.set_cons_zero, List.set_cons_succ]
  refine wpAnyX_take (i := 15) (oi := ⟨some 87, Op.convert 5 3 (Operand.tmp 86), 3, _, _, some (7, true)⟩) (v := ?v15) rfl (by omega) (by kernel_rfl) (by kernel_rfl) (by kernel_rfl) (by kernel_rfl) (by kernel_rfl) (fun _ _ _ h => h) (Or.inl ⟨by rfl, ?y15⟩) (by assumption) ?r15
  case y15 =>
    intro W hSw
    try dsimp only at hSw
    go_simp
    try with_reducible rfl
  case r15 =>
  try simp only [Act.put, List.setIfInBounds_toArray, List.set_cons_zero, List.set_cons_succ]
  refine wpAnyX_take0 (i := 16) (oi := ⟨some 88, Op.binOp BinOp.sub 3 (Operand.tmp 85) (Operand.tmp 87) 3, 3, _, _, some (7, true)⟩) (v := ?v16) rfl (by omega) (by kernel_rfl) (by kernel_rfl) (by kernel_rfl) (fun _ _ _ h => h) (Or.inl ⟨by rfl, ?y16⟩) (by assumption) ?r16
  case y16 =>
    intro W hSw
    try dsimp only at hSw
    go_simp
    try with_reducible rfl
  case r16 =>
  try simp only [Act.put, List.setIfInBounds_toArray, List.set_cons_zero, List.set_cons_succ]
  refine wpAnyX_take0 (i := 17) (oi := ⟨some 89, Op.slice 22 (Operand.tmp 83) none (some (Operand.tmp 88)) none, 22, _, _, some (7, true)⟩) (v := ?v17) rfl (by omega) (by kernel_rfl) (by kernel_rfl) (by kernel_rfl) (fun _ _ _ h => h) (Or.inl ⟨by rfl, ?y17⟩) (by assumption) ?r17
  case y17 =>
    intro W hSw
    try dsimp only at hSw
    go_simp
    try with_reducible rfl
  case r17 =>
  try simp only [Act.put, List.setIfInBounds_toArray, List.set_cons_zero, List.set_cons_succ]
  refine wpAnyX_take (i := 18) (oi := ⟨some 90, Op.convert 22 9 (Operand.tmp 89), 9, _, _, some (7, true)⟩) (v := ?v18) rfl (by omega) (by kernel_rfl) (by kernel_rfl) (by kernel_rfl) (by kernel_rfl) (by kernel_rfl) (fun _ _ _ h => h) (Or.inl ⟨by rfl, ?y18⟩) (by assumption) ?r18
  case y18 =>
    intro W hSw
    try dsimp only at hSw
    go_simp
    try with_reducible rfl
  case r18 =>
  try simp only [Act.put, List.setIfInBounds_toArray, List.set_cons_zero, List.set_cons_succ]
  refine wpAnyX_take0 (i := 19) (oi := ⟨some 91, Op.binOp BinOp.eql 9 (Operand.tmp 82) (Operand.tmp 90) 9, 4, _, _, some (7, true)⟩) (v := ?v19) rfl (by omega) (by kernel_rfl) (by kernel_rfl) (by kernel_rfl) (fun _ _ _ h => h) (Or.inl ⟨by rfl, ?y19⟩) (by assumption) ?r19
  case y19 =>
    intro W hSw
    try dsimp only at hSw
    go_simp
    try with_reducible rfl
  case r19 =>
  try simp only [Act.put, List.setIfInBounds_toArray, List.set_cons_zero, List.set_cons_succ]
  refine wpAnyX_take0 (i := 20) (oi := ⟨some 92, Op.pick (Operand.tmp 79) (Operand.tmp 91) (Operand.const (Value.bool false)), 4, _, _, none⟩) (v := ?v20) rfl (by omega) (by kernel_rfl) (by kernel_rfl) (by kernel_rfl) (fun _ _ _ h => h) (Or.inl ⟨by rfl, ?y20⟩) (by assumption) ?r20
  case y20 =>
    intro W hSw
    try dsimp only at hSw
    go_simp
    try with_reducible rfl
  case r20 =>
  try simp only [Act.put, List.setIfInBounds_toArray, List.set_cons_zero, List.set_cons_succ]
  refine wpAnyX_one (i := 21) (by kernel_rfl) rfl (fun K hK => ?_)
  go_simp
  refine hK _ _ (fun h => absurd h (by decide)) ?_
  clear hK K
  try simp only [Act.put, List.setIfInBounds_toArray, List.set_cons_zero, List.set_cons_succ]
  refine wpAnyX_done (by kernel_rfl) ?_ _
  go_wp2_with fail
  go_ret
  exact ⟨rfl, HBE.out.trans (hS9.mono HBE.out.size)⟩
set_option maxRecDepth 100000 in
set_option maxHeartbeats 8000000 in
theorem pp_p_no (pr : Bool) (P Z : Int) (p k : Nat) (pb : UInt8) (bV : Value) (l : List UInt8) (w : World) (hp : (p : Int) = P) (hpb : pb.toNat = p) (hk : Z.tmod 60 = (k : Int)) (hk60 : k < 60) (hv : Bs w bV l) (hl : l.length ≤ 100) (hno : l.length + k < p) :
    Calls Try.prog 8 #[.bool true, .bool true, .int .u8 P, bV, .int .u8 Z] w fun e w' => e = .returned (.bool true) ∧ Below w.heap.size w w' := by
  have HK := Bx.mk (known12_any w)
  have hp256 : p < 256 := by rw [← hpb]; exact UInt8.toNat_lt _
  obtain ⟨L, hL⟩ : ∃ L : Int, (l.length : Int) = L := ⟨_, rfl⟩
  have hlenb : ∀ (tr : TypeId) (W : World), (Builtin.len_ #[22] tr #[bV]).run Try.prog W = .ok (.int .i64 L) W := fun tr W => by rw [← hL]; exact hv.run_len tr W
  have hd100 : decide (100 < L) = false := decide_eq_false (by omega)
  have hw1 : IntKind.i64.wrap (k : Int) = k := by rw [IntKind.wrap_i64]; omega
  have hw2 : IntKind.u8.wrap (k : Int) = k := by rw [IntKind.wrap_u8]; omega
  have hwP : IntKind.i64.wrap P = P := by rw [IntKind.wrap_i64]; omega
  obtain ⟨M, hM⟩ : ∃ M, ([pb] ++ [1, 2, 3, 4, 5]) ++ l ++ List.replicate k 0 = M := ⟨_, rfl⟩
  obtain ⟨AL, hAL⟩ : ∃ M, l ++ List.replicate k (0 : UInt8) = M := ⟨_, rfl⟩
  have hMl : M.length = 6 + l.length + k := by rw [← hM]; simp; omega
  have hALl : AL.length = l.length + k := by rw [← hAL]; simp
  have hMh : (M.headD 0).toNat = p := by rw [← hM]; simpa using hpb
  have hMd : M.drop 6 = AL := by rw [← hM, ← hAL]; simp
  obtain ⟨D, hD⟩ : ∃ D, AL.take (l.length + k - p) = D := ⟨_, rfl⟩
  have hdat : dataN 1 40 M = D := by
    unfold dataN
    have h1 : padN 40 M = p := by unfold padN; rw [if_pos (by decide)]; exact hMh
    have h2 : aheadN 1 40 = 6 := by decide
    rw [h1, h2, List.drop_take, hMd, hMl, ← hD]
    congr 1
    omega
  have hpr : payR 1 40 1 M = 6 := by
    unfold payR
    have h1 : padN 40 M = p := by unfold padN; rw [if_pos (by decide)]; exact hMh
    have h2 : aheadN 1 40 = 6 := by decide
    have h3 : sizN 1 40 M.length = false := by
      unfold sizN
      rw [if_pos (by decide), h2]
      exact decide_eq_false (by omega)
    rw [if_neg (by decide), h3, if_neg (by decide), if_pos (by unfold isPad; decide), h1, h2, if_pos (by omega)]
  have HPR := Bx.mk hpr
  have HDAT := Bx.mk hdat
  have HRD := Bx.mk (fun (W : World) (v : Value) (h : Bs W v M) => pyRead_any 1 40 1 v M (by omega) (by omega) (by omega) W 1 40 1 rfl rfl rfl h (by omega))
  have HRP := Bx.mk (fun (W : World) (v : Value) (h : Bs W v M) => rPay_1_40 v M p W h (by omega) (by omega) hMh 6 (by rw [if_pos (by omega)]))
  rw [hMd, show M.length - 6 - p = l.length + k - p by omega, hD] at HRP
  obtain ⟨LA, hLA⟩ : ∃ L : Int, (AL.length : Int) = L := ⟨_, rfl⟩
  have hgt : decide (LA < P) = true := decide_eq_true (by omega)
  have HLA := Bx.mk hLA
  have HM := Bx.mk hM
  have HAL := Bx.mk hAL
  have HLL := Bx.mk (show l.length ≤ 1000000 by omega)
  have HL1 := Bx.mk hl
  have HKK := Bx.mk (show k ≤ 1000000 by omega)
  have HP1 := Bx.mk (show (#[Value.int .u8 P]).toList = [pb].map bv by simp [bv, hpb, hp])
  have HV := Bx.mk hv
  clear hMl hALl hMh hMd hD hdat hpr hLA hM hAL hno hl hv hk60 hpb hp hp256 hL
  go_enter Try.func8, Try.ntmps8
  go_upto_region 5 with (go_at_call 28; refine HK.out.mono ?_; rintro e w1 ⟨rfl, b1⟩; have HB1 := Bx.mk b1; clear b1)
  go_upto_region 7 with fail
  have HO : Bx (OwB ((w1.alloc (.cells #[.int .u8 P] 5)).alloc (.cells (fraA 0 8 1 nilV) 28)) w1.heap.size (.slice (some ⟨w1.heap.size, 0, none⟩) 1 1) [pb]) := ⟨(OwB.litP w1 #[.int .u8 P] [pb] HP1.out (by simp)).alloc _⟩
  have HF : Bx (Sb 28 ((w1.alloc (.cells #[.int .u8 P] 5)).alloc (.cells (fraA 0 8 1 nilV) 28)) (w1.heap.size + 1) (fraA 0 8 1 nilV)) := ⟨Sb.newg _ _ _ (by simp) _⟩
  have HB : Bx (Below w.heap.size w ((w1.alloc (.cells #[.int .u8 P] 5)).alloc (.cells (fraA 0 8 1 nilV) 28))) := ⟨(HB1.out.alloc HB1.out.size _).alloc (HB1.out.alloc HB1.out.size _).size _⟩
  obtain ⟨wa, hwa⟩ : ∃ W, (w1.alloc (.cells #[.int .u8 P] 5)).alloc (.cells (fraA 0 8 1 nilV) 28) = W := ⟨_, rfl⟩
  rw [hwa] at HO HF HB ⊢
  obtain ⟨gF, hgF⟩ : ∃ g, w1.heap.size + 1 = g := ⟨_, rfl⟩
  rw [hgF] at HF ⊢
  obtain ⟨v0, hv0⟩ : ∃ v, Value.slice (some ⟨w1.heap.size, 0, none⟩) 1 1 = v := ⟨_, rfl⟩
  rw [hv0] at HO ⊢
  have HW : Bx (w.heap.size ≤ w1.heap.size ∧ w1.heap.size ≤ wa.heap.size ∧ w.heap.size ≤ gF) := ⟨HB1.out.size, by rw [← hwa]; simp; omega, by have := HB1.out.size; omega⟩
  obtain ⟨B, hB⟩ : ∃ b, w1.heap.size = b := ⟨_, rfl⟩
  rw [hB] at HO HW
  clear hwa hgF hv0 hB HP1 HB1
  have c0 : wa.cell? ⟨gF, 0, none⟩ = some (.int .u8 0) := HF.out.cell 0
  have f0 := HF.out.free 0
  go_upto_region 9 with fail
  have HF2 : Bx (Sb 28 (wa.setCell ⟨gF, 0, none⟩ (.int .u8 1)) gF (fraA 1 8 1 nilV)) := ⟨HF.out.set 0 (.int .u8 1) (show 0 < 4 by decide)⟩
  have HO2 := Bx.mk (HO.out.grownNe (grown_set wa gF 0 (.int .u8 1)) (HO.out.neSb HF.out (by decide)))
  have HB2 := Bx.mk (HB.out.setCell (p := ⟨gF, 0, none⟩) HW.out.2.2 (.int .u8 1))
  have HW2 : Bx (B ≤ (wa.setCell ⟨gF, 0, none⟩ (.int .u8 1)).heap.size) := ⟨Nat.le_trans HW.out.2.1 (grown_set wa gF 0 (.int .u8 1)).size⟩
  obtain ⟨wb, hwb⟩ : ∃ W, wa.setCell ⟨gF, 0, none⟩ (.int .u8 1) = W := ⟨_, rfl⟩
  rw [hwb] at HF2 HO2 HB2 HW2 ⊢
  clear hwb c0 f0 HF HO HB
  have c1 : wb.cell? ⟨gF, 1, none⟩ = some (.int .u8 8) := HF2.out.cell 1
  have f1 := HF2.out.free 1
  have hor : bits .or .u8 8 32 = 40 := by decide
  go_upto_region 11 with fail
  have HF3 : Bx (Sb 28 (wb.setCell ⟨gF, 1, none⟩ (.int .u8 40)) gF (fraA 1 40 1 nilV)) := ⟨HF2.out.set 1 (.int .u8 40) (show 1 < 4 by decide)⟩
  have HO3 := Bx.mk (HO2.out.grownNe (grown_set wb gF 1 (.int .u8 40)) (HO2.out.neSb HF2.out (by decide)))
  have HB3 := Bx.mk (HB2.out.setCell (p := ⟨gF, 1, none⟩) HW.out.2.2 (.int .u8 40))
  have HW3 : Bx (B ≤ (wb.setCell ⟨gF, 1, none⟩ (.int .u8 40)).heap.size) := ⟨Nat.le_trans HW2.out (grown_set wb gF 1 (.int .u8 40)).size⟩
  obtain ⟨wc, hwc⟩ : ∃ W, wb.setCell ⟨gF, 1, none⟩ (.int .u8 40) = W := ⟨_, rfl⟩
  rw [hwc] at HF3 HO3 HB3 HW3 ⊢
  clear hwc c1 f1 HF2 HO2 HB2
  have HF4 := Bx.mk (HF3.out.alloc (.cells #[.int .u8 1, .int .u8 2, .int .u8 3, .int .u8 4, .int .u8 5] 5))
  have HO4 := Bx.mk (HO3.out.alloc (.cells #[.int .u8 1, .int .u8 2, .int .u8 3, .int .u8 4, .int .u8 5] 5))
  have HB4 := Bx.mk (HB3.out.alloc HB3.out.size (.cells #[.int .u8 1, .int .u8 2, .int .u8 3, .int .u8 4, .int .u8 5] 5))
  have HR5 : Bx (Bs (wc.alloc (.cells #[.int .u8 1, .int .u8 2, .int .u8 3, .int .u8 4, .int .u8 5] 5)) (.slice (some ⟨wc.heap.size, 0, none⟩) 5 5) [1, 2, 3, 4, 5]) := ⟨Rd.lit wc 5 _ 5 rfl (by unfold maxLen; omega)⟩
  have HW4 : Bx (B ≤ (wc.alloc (.cells #[.int .u8 1, .int .u8 2, .int .u8 3, .int .u8 4, .int .u8 5] 5)).heap.size) := ⟨by have := HW3.out; simp; omega⟩
  go_upto_region 12 with (at_builtin; obtain ⟨v5, w5, hr5, o5, g5⟩ := run_bytes_own _ 22 B v0 _ [pb] [1, 2, 3, 4, 5] HO4.out HR5.out (by simp) (by simp) HW4.out; refine Lib.wpList_append_run _ rfl _ _ _ _ rfl _ _ rfl rfl _ _ hr5 ?_; have HO5 := Bx.mk o5; have HF5 := Bx.mk (HF4.out.grown g5 (HO4.out.neSb HF4.out (by decide))); have HB5 := Bx.mk (HB4.out.grown g5 HB4.out.size (fun j hj => Nat.le_trans HW.out.1 (HO4.out.ge hj))); have HW5 := Bx.mk (Nat.le_trans HW4.out g5.size); clear hr5 o5 g5)
  go_upto_region 13 with (first
    | (at_builtin; obtain ⟨v6, w6, hr6, o6, g6⟩ := run_bytes_own _ 22 B v5 bV ([pb] ++ [1, 2, 3, 4, 5]) l HO5.out (HV.out.keep HB5.out) (by simp) HLL.out (HW5.out); refine Lib.wpList_append_run _ rfl _ _ _ _ rfl _ _ rfl rfl _ _ hr6 ?_; have HO6 := Bx.mk o6; have HF6 := Bx.mk (HF5.out.grown g6 (HO5.out.neSb HF5.out (by decide))); have HB6 := Bx.mk (HB5.out.grown g6 HB5.out.size (fun j hj => Nat.le_trans HW.out.1 (HO5.out.ge hj))); have HW6 := Bx.mk (Nat.le_trans (HW5.out) g6.size); clear hr6 o6 g6)
    | (at_builtin; obtain ⟨v7, w7, hr7, o7, g7⟩ := run_zeros_own _ 22 B v6 (([pb] ++ [1, 2, 3, 4, 5]) ++ l) k HO6.out HKK.out (by have := HL1.out; simp; omega) HW6.out; refine Lib.wpList_append_run _ rfl _ _ _ _ rfl _ _ rfl rfl _ _ hr7 ?_; obtain ⟨A7, n7, cc7, rfl⟩ := o7.shape; have HF7 := Bx.mk (HF6.out.grown g7 (HO6.out.neSb HF6.out (by decide))); have HB7 := Bx.mk (HB6.out.grown g7 HB6.out.size (fun j hj => Nat.le_trans HW.out.1 (HO6.out.ge hj))); have HO7 := Bx.mk o7; have k3 : w7.cell? ⟨gF, 3, none⟩ = some (.slice none 0 0) := HF7.out.cell 3; have f3 := HF7.out.free 3; clear hr7 o7 g7))
  have HF8 : Bx (Sb 28 (w7.setCell ⟨gF, 3, none⟩ (.slice A7 n7 cc7)) gF (fraA 1 40 1 (.slice A7 n7 cc7))) := ⟨HF7.out.set 3 (.slice A7 n7 cc7) (show 3 < 4 by decide)⟩
  have HV8 := Bx.mk (HO7.out.grownNe (grown_set w7 gF 3 (.slice A7 n7 cc7)) (HO7.out.neSb HF7.out (by decide))).bs
  rw [HM.out] at HV8
  have HB8 := Bx.mk (HB7.out.setCell (p := ⟨gF, 3, none⟩) HW.out.2.2 (.slice A7 n7 cc7))
  obtain ⟨w8, hw8⟩ : ∃ W, w7.setCell ⟨gF, 3, none⟩ (.slice A7 n7 cc7) = W := ⟨_, rfl⟩
  rw [hw8] at HF8 HV8 HB8 ⊢
  clear hw8 k3 f3 HF7 HO7 HB7
  go_upto_region 14 with (first
    | (with_reducible refine wpList_loadFra gF 1 40 1 (.slice A7 n7 cc7) rfl HF8.out ?_)
    | (go_at_call 31; refine (HRD.out _ _ HV8.out).mono ?_; rintro e w9 ⟨⟨A1, n1, c1, A2, n2, c2, cc, ss, ii, he, hq⟩, b9⟩; rw [HPR.out] at he; clear hq; subst he; have HX9 := Bx.mk b9; clear b9))
  have HXa := Bx.mk (HX9.out.alloc HX9.out.size (.cells (payA (.slice A1 n1 c1) (.slice A2 n2 c2) cc ss ii) 50))
  have HPa : Bx (Sb 50 (w9.alloc (.cells (payA (.slice A1 n1 c1) (.slice A2 n2 c2) cc ss ii) 50)) w9.heap.size (payA (.slice A1 n1 c1) (.slice A2 n2 c2) cc ss ii)) := ⟨Sb.new _ w9 _⟩
  obtain ⟨wA, hwA⟩ : ∃ W, w9.alloc (.cells (payA (.slice A1 n1 c1) (.slice A2 n2 c2) cc ss ii) 50) = W := ⟨_, rfl⟩
  obtain ⟨gP, hgP⟩ : ∃ g, w9.heap.size = g := ⟨_, rfl⟩
  rw [hwA] at HXa HPa  ⊢
  rw [hgP] at HPa ⊢
  clear hwA hgP
  have HFa := Bx.mk (HF8.out.below HXa.out HF8.out.lt)
  have HVa := Bx.mk (HV8.out.keep HXa.out)
  have HBa := Bx.mk (HB8.out.trans (HXa.out.mono HB8.out.size))
  go_upto_region 15 with (first
    | (with_reducible refine wpList_loadFra gF 1 40 1 (.slice A7 n7 cc7) rfl HFa.out ?_)
    | (go_at_call 32; refine (HRP.out _ _ HVa.out).mono ?_; rintro e wB ⟨⟨A3, n3, c3, rfl, hq⟩, bB⟩; have HXB := Bx.mk bB; have HQ := Bx.mk hq; clear bB hq))
  have HXc := Bx.mk (HXB.out.alloc HXB.out.size (.cells (payA (.slice A3 n3 c3) nilV 0 0 0) 50))
  have HQc : Bx (Sb 50 (wB.alloc (.cells (payA (.slice A3 n3 c3) nilV 0 0 0) 50)) wB.heap.size (payA (.slice A3 n3 c3) nilV 0 0 0)) := ⟨Sb.new _ wB _⟩
  obtain ⟨wC, hwC⟩ : ∃ W, wB.alloc (.cells (payA (.slice A3 n3 c3) nilV 0 0 0) 50) = W := ⟨_, rfl⟩
  obtain ⟨gQ, hgQ⟩ : ∃ g, wB.heap.size = g := ⟨_, rfl⟩
  rw [hwC] at HXc HQc  ⊢
  rw [hgQ] at HQc ⊢
  clear hwC hgQ
  have HPc := Bx.mk (HPa.out.below HXc.out HPa.out.lt)
  have HBc := Bx.mk (HBa.out.trans (HXc.out.mono HBa.out.size))
  have HVc := Bx.mk (HV.out.keep HBc.out)
  go_upto_region 16 with (first
    | (at_builtin; obtain ⟨vD, wD, hrD, oD, gD⟩ := run_bytes_own _ 22 wC.heap.size (.slice none 0 0) bV [] l (OwB.nil wC wC.heap.size) HVc.out (by simp) HLL.out (Nat.le_refl _); refine Lib.wpList_append_run _ rfl _ _ _ _ rfl _ _ rfl rfl _ _ hrD ?_; have HOD := Bx.mk oD; have HXD := Bx.mk ((Below.refl wC.heap.size wC).grown gD (Nat.le_refl _) (fun j hj => by simp [Value.ownBlock] at hj)); clear hrD oD gD)
    | (at_builtin; obtain ⟨vE, wE, hrE, oE, gE⟩ := run_zeros_own _ 22 wC.heap.size vD ([] ++ l) k HOD.out HKK.out HLL.out HXD.out.size; refine Lib.wpList_append_run _ rfl _ _ _ _ rfl _ _ rfl rfl _ _ hrE ?_; have HOE := Bx.mk oE.bs; have HXE := Bx.mk (HXD.out.grown gE HXD.out.size (fun j hj => HOD.out.ge hj)); clear hrE oE gE))
  rw [List.nil_append, HAL.out] at HOE
  have HBE := Bx.mk (HBc.out.trans (HXE.out.mono HBc.out.size))
  have hlenA : ∀ (tr : TypeId) (W : World), (Builtin.len_ #[22] tr #[vE]).run Try.prog W = .ok (.int .i64 LA) W := fun tr W => by rw [← HLA.out]; exact HOE.out.run_len tr W
  go_wp2_with fail
  go_ret
  exact ⟨rfl, HBE.out⟩
set_option maxRecDepth 100000 in
set_option maxHeartbeats 8000000 in
theorem pp_p_ok (pr : Bool) (P Z : Int) (p k : Nat) (pb : UInt8) (bV : Value) (l : List UInt8) (w : World) (hp : (p : Int) = P) (hpb : pb.toNat = p) (hk : Z.tmod 60 = (k : Int)) (hk60 : k < 60) (hv : Bs w bV l) (hl : l.length ≤ 100) (hno : ¬ l.length + k < p) :
    Calls Try.prog 8 #[.bool true, .bool true, .int .u8 P, bV, .int .u8 Z] w fun e w' => e = .returned (.bool true) ∧ Below w.heap.size w w' := by
  have HK := Bx.mk (known12_any w)
  have hp256 : p < 256 := by rw [← hpb]; exact UInt8.toNat_lt _
  obtain ⟨L, hL⟩ : ∃ L : Int, (l.length : Int) = L := ⟨_, rfl⟩
  have hlenb : ∀ (tr : TypeId) (W : World), (Builtin.len_ #[22] tr #[bV]).run Try.prog W = .ok (.int .i64 L) W := fun tr W => by rw [← hL]; exact hv.run_len tr W
  have hd100 : decide (100 < L) = false := decide_eq_false (by omega)
  have hw1 : IntKind.i64.wrap (k : Int) = k := by rw [IntKind.wrap_i64]; omega
  have hw2 : IntKind.u8.wrap (k : Int) = k := by rw [IntKind.wrap_u8]; omega
  have hwP : IntKind.i64.wrap P = P := by rw [IntKind.wrap_i64]; omega
  obtain ⟨M, hM⟩ : ∃ M, ([pb] ++ [1, 2, 3, 4, 5]) ++ l ++ List.replicate k 0 = M := ⟨_, rfl⟩
  obtain ⟨AL, hAL⟩ : ∃ M, l ++ List.replicate k (0 : UInt8) = M := ⟨_, rfl⟩
  have hMl : M.length = 6 + l.length + k := by rw [← hM]; simp; omega
  have hALl : AL.length = l.length + k := by rw [← hAL]; simp
  have hMh : (M.headD 0).toNat = p := by rw [← hM]; simpa using hpb
  have hMd : M.drop 6 = AL := by rw [← hM, ← hAL]; simp
  obtain ⟨D, hD⟩ : ∃ D, AL.take (l.length + k - p) = D := ⟨_, rfl⟩
  have hdat : dataN 1 40 M = D := by
    unfold dataN
    have h1 : padN 40 M = p := by unfold padN; rw [if_pos (by decide)]; exact hMh
    have h2 : aheadN 1 40 = 6 := by decide
    rw [h1, h2, List.drop_take, hMd, hMl, ← hD]
    congr 1
    omega
  have hpr : payR 1 40 1 M = 0 := by
    unfold payR
    have h1 : padN 40 M = p := by unfold padN; rw [if_pos (by decide)]; exact hMh
    have h2 : aheadN 1 40 = 6 := by decide
    have h3 : sizN 1 40 M.length = false := by
      unfold sizN
      rw [if_pos (by decide), h2]
      exact decide_eq_false (by omega)
    rw [if_neg (by decide), h3, if_neg (by decide), if_pos (by unfold isPad; decide), h1, h2, if_neg (by omega)]
  have HPR := Bx.mk hpr
  have HDAT := Bx.mk hdat
  have HRD := Bx.mk (fun (W : World) (v : Value) (h : Bs W v M) => pyRead_any 1 40 1 v M (by omega) (by omega) (by omega) W 1 40 1 rfl rfl rfl h (by omega))
  have HRP := Bx.mk (fun (W : World) (v : Value) (h : Bs W v M) => rPay_1_40 v M p W h (by omega) (by omega) hMh 0 (by rw [if_neg (by omega)]))
  rw [hMd, show M.length - 6 - p = l.length + k - p by omega, hD] at HRP
  obtain ⟨LA, hLA⟩ : ∃ L : Int, (AL.length : Int) = L := ⟨_, rfl⟩
  have hgt : decide (LA < P) = false := decide_eq_false (by omega)
  obtain ⟨E, hE⟩ : ∃ E : Int, LA - P = E := ⟨_, rfl⟩
  have hs : wrap64 E = E := by unfold wrap64; omega
  have hs2 : IntKind.i64.wrap E = E := by rw [IntKind.wrap_i64]; omega
  have HE : Bx (0 ≤ E ∧ E ≤ AL.length ∧ AL.take E.toNat = D) := ⟨by omega, by omega, by rw [← hD, show E.toNat = l.length + k - p by omega]⟩
  have hself := str_selfP D
  have HLA := Bx.mk hLA
  have HM := Bx.mk hM
  have HAL := Bx.mk hAL
  have HLL := Bx.mk (show l.length ≤ 1000000 by omega)
  have HL1 := Bx.mk hl
  have HKK := Bx.mk (show k ≤ 1000000 by omega)
  have HP1 := Bx.mk (show (#[Value.int .u8 P]).toList = [pb].map bv by simp [bv, hpb, hp])
  have HV := Bx.mk hv
  clear hMl hALl hMh hMd hD hdat hpr hLA hM hAL hno hl hv hk60 hpb hp hp256 hL
  go_enter Try.func8, Try.ntmps8
  go_upto_region 5 with (go_at_call 28; refine HK.out.mono ?_; rintro e w1 ⟨rfl, b1⟩; have HB1 := Bx.mk b1; clear b1)
  go_upto_region 7 with fail
  have HO : Bx (OwB ((w1.alloc (.cells #[.int .u8 P] 5)).alloc (.cells (fraA 0 8 1 nilV) 28)) w1.heap.size (.slice (some ⟨w1.heap.size, 0, none⟩) 1 1) [pb]) := ⟨(OwB.litP w1 #[.int .u8 P] [pb] HP1.out (by simp)).alloc _⟩
  have HF : Bx (Sb 28 ((w1.alloc (.cells #[.int .u8 P] 5)).alloc (.cells (fraA 0 8 1 nilV) 28)) (w1.heap.size + 1) (fraA 0 8 1 nilV)) := ⟨Sb.newg _ _ _ (by simp) _⟩
  have HB : Bx (Below w.heap.size w ((w1.alloc (.cells #[.int .u8 P] 5)).alloc (.cells (fraA 0 8 1 nilV) 28))) := ⟨(HB1.out.alloc HB1.out.size _).alloc (HB1.out.alloc HB1.out.size _).size _⟩
  obtain ⟨wa, hwa⟩ : ∃ W, (w1.alloc (.cells #[.int .u8 P] 5)).alloc (.cells (fraA 0 8 1 nilV) 28) = W := ⟨_, rfl⟩
  rw [hwa] at HO HF HB ⊢
  obtain ⟨gF, hgF⟩ : ∃ g, w1.heap.size + 1 = g := ⟨_, rfl⟩
  rw [hgF] at HF ⊢
  obtain ⟨v0, hv0⟩ : ∃ v, Value.slice (some ⟨w1.heap.size, 0, none⟩) 1 1 = v := ⟨_, rfl⟩
  rw [hv0] at HO ⊢
  have HW : Bx (w.heap.size ≤ w1.heap.size ∧ w1.heap.size ≤ wa.heap.size ∧ w.heap.size ≤ gF) := ⟨HB1.out.size, by rw [← hwa]; simp; omega, by have := HB1.out.size; omega⟩
  obtain ⟨B, hB⟩ : ∃ b, w1.heap.size = b := ⟨_, rfl⟩
  rw [hB] at HO HW
  clear hwa hgF hv0 hB HP1 HB1
  have c0 : wa.cell? ⟨gF, 0, none⟩ = some (.int .u8 0) := HF.out.cell 0
  have f0 := HF.out.free 0
  go_upto_region 9 with fail
  have HF2 : Bx (Sb 28 (wa.setCell ⟨gF, 0, none⟩ (.int .u8 1)) gF (fraA 1 8 1 nilV)) := ⟨HF.out.set 0 (.int .u8 1) (show 0 < 4 by decide)⟩
  have HO2 := Bx.mk (HO.out.grownNe (grown_set wa gF 0 (.int .u8 1)) (HO.out.neSb HF.out (by decide)))
  have HB2 := Bx.mk (HB.out.setCell (p := ⟨gF, 0, none⟩) HW.out.2.2 (.int .u8 1))
  have HW2 : Bx (B ≤ (wa.setCell ⟨gF, 0, none⟩ (.int .u8 1)).heap.size) := ⟨Nat.le_trans HW.out.2.1 (grown_set wa gF 0 (.int .u8 1)).size⟩
  obtain ⟨wb, hwb⟩ : ∃ W, wa.setCell ⟨gF, 0, none⟩ (.int .u8 1) = W := ⟨_, rfl⟩
  rw [hwb] at HF2 HO2 HB2 HW2 ⊢
  clear hwb c0 f0 HF HO HB
  have c1 : wb.cell? ⟨gF, 1, none⟩ = some (.int .u8 8) := HF2.out.cell 1
  have f1 := HF2.out.free 1
  have hor : bits .or .u8 8 32 = 40 := by decide
  go_upto_region 11 with fail
  have HF3 : Bx (Sb 28 (wb.setCell ⟨gF, 1, none⟩ (.int .u8 40)) gF (fraA 1 40 1 nilV)) := ⟨HF2.out.set 1 (.int .u8 40) (show 1 < 4 by decide)⟩
  have HO3 := Bx.mk (HO2.out.grownNe (grown_set wb gF 1 (.int .u8 40)) (HO2.out.neSb HF2.out (by decide)))
  have HB3 := Bx.mk (HB2.out.setCell (p := ⟨gF, 1, none⟩) HW.out.2.2 (.int .u8 40))
  have HW3 : Bx (B ≤ (wb.setCell ⟨gF, 1, none⟩ (.int .u8 40)).heap.size) := ⟨Nat.le_trans HW2.out (grown_set wb gF 1 (.int .u8 40)).size⟩
  obtain ⟨wc, hwc⟩ : ∃ W, wb.setCell ⟨gF, 1, none⟩ (.int .u8 40) = W := ⟨_, rfl⟩
  rw [hwc] at HF3 HO3 HB3 HW3 ⊢
  clear hwc c1 f1 HF2 HO2 HB2
  have HF4 := Bx.mk (HF3.out.alloc (.cells #[.int .u8 1, .int .u8 2, .int .u8 3, .int .u8 4, .int .u8 5] 5))
  have HO4 := Bx.mk (HO3.out.alloc (.cells #[.int .u8 1, .int .u8 2, .int .u8 3, .int .u8 4, .int .u8 5] 5))
  have HB4 := Bx.mk (HB3.out.alloc HB3.out.size (.cells #[.int .u8 1, .int .u8 2, .int .u8 3, .int .u8 4, .int .u8 5] 5))
  have HR5 : Bx (Bs (wc.alloc (.cells #[.int .u8 1, .int .u8 2, .int .u8 3, .int .u8 4, .int .u8 5] 5)) (.slice (some ⟨wc.heap.size, 0, none⟩) 5 5) [1, 2, 3, 4, 5]) := ⟨Rd.lit wc 5 _ 5 rfl (by unfold maxLen; omega)⟩
  have HW4 : Bx (B ≤ (wc.alloc (.cells #[.int .u8 1, .int .u8 2, .int .u8 3, .int .u8 4, .int .u8 5] 5)).heap.size) := ⟨by have := HW3.out; simp; omega⟩
  go_upto_region 12 with (at_builtin; obtain ⟨v5, w5, hr5, o5, g5⟩ := run_bytes_own _ 22 B v0 _ [pb] [1, 2, 3, 4, 5] HO4.out HR5.out (by simp) (by simp) HW4.out; refine Lib.wpList_append_run _ rfl _ _ _ _ rfl _ _ rfl rfl _ _ hr5 ?_; have HO5 := Bx.mk o5; have HF5 := Bx.mk (HF4.out.grown g5 (HO4.out.neSb HF4.out (by decide))); have HB5 := Bx.mk (HB4.out.grown g5 HB4.out.size (fun j hj => Nat.le_trans HW.out.1 (HO4.out.ge hj))); have HW5 := Bx.mk (Nat.le_trans HW4.out g5.size); clear hr5 o5 g5)
  go_upto_region 13 with (first
    | (at_builtin; obtain ⟨v6, w6, hr6, o6, g6⟩ := run_bytes_own _ 22 B v5 bV ([pb] ++ [1, 2, 3, 4, 5]) l HO5.out (HV.out.keep HB5.out) (by simp) HLL.out (HW5.out); refine Lib.wpList_append_run _ rfl _ _ _ _ rfl _ _ rfl rfl _ _ hr6 ?_; have HO6 := Bx.mk o6; have HF6 := Bx.mk (HF5.out.grown g6 (HO5.out.neSb HF5.out (by decide))); have HB6 := Bx.mk (HB5.out.grown g6 HB5.out.size (fun j hj => Nat.le_trans HW.out.1 (HO5.out.ge hj))); have HW6 := Bx.mk (Nat.le_trans (HW5.out) g6.size); clear hr6 o6 g6)
    | (at_builtin; obtain ⟨v7, w7, hr7, o7, g7⟩ := run_zeros_own _ 22 B v6 (([pb] ++ [1, 2, 3, 4, 5]) ++ l) k HO6.out HKK.out (by have := HL1.out; simp; omega) HW6.out; refine Lib.wpList_append_run _ rfl _ _ _ _ rfl _ _ rfl rfl _ _ hr7 ?_; obtain ⟨A7, n7, cc7, rfl⟩ := o7.shape; have HF7 := Bx.mk (HF6.out.grown g7 (HO6.out.neSb HF6.out (by decide))); have HB7 := Bx.mk (HB6.out.grown g7 HB6.out.size (fun j hj => Nat.le_trans HW.out.1 (HO6.out.ge hj))); have HO7 := Bx.mk o7; have k3 : w7.cell? ⟨gF, 3, none⟩ = some (.slice none 0 0) := HF7.out.cell 3; have f3 := HF7.out.free 3; clear hr7 o7 g7))
  have HF8 : Bx (Sb 28 (w7.setCell ⟨gF, 3, none⟩ (.slice A7 n7 cc7)) gF (fraA 1 40 1 (.slice A7 n7 cc7))) := ⟨HF7.out.set 3 (.slice A7 n7 cc7) (show 3 < 4 by decide)⟩
  have HV8 := Bx.mk (HO7.out.grownNe (grown_set w7 gF 3 (.slice A7 n7 cc7)) (HO7.out.neSb HF7.out (by decide))).bs
  rw [HM.out] at HV8
  have HB8 := Bx.mk (HB7.out.setCell (p := ⟨gF, 3, none⟩) HW.out.2.2 (.slice A7 n7 cc7))
  obtain ⟨w8, hw8⟩ : ∃ W, w7.setCell ⟨gF, 3, none⟩ (.slice A7 n7 cc7) = W := ⟨_, rfl⟩
  rw [hw8] at HF8 HV8 HB8 ⊢
  clear hw8 k3 f3 HF7 HO7 HB7
  go_upto_region 14 with (first
    | (with_reducible refine wpList_loadFra gF 1 40 1 (.slice A7 n7 cc7) rfl HF8.out ?_)
    | (go_at_call 31; refine (HRD.out _ _ HV8.out).mono ?_; rintro e w9 ⟨⟨A1, n1, c1, A2, n2, c2, cc, ss, ii, he, hq⟩, b9⟩; rw [HPR.out] at he; obtain ⟨hu, q1, q2, q3, q4⟩ := (hq HPR.out).1 (by decide); rw [HDAT.out] at hu; injection q1 with q1 q5 q6; subst q1 q2 q3 q4 q5 q6; have HU9 := Bx.mk hu.bs; clear hu hq; subst he; have HX9 := Bx.mk b9; clear b9))
  have HXa := Bx.mk (HX9.out.alloc HX9.out.size (.cells (payA (.slice A1 n1 c1) nilV 0 0 0) 50))
  have HPa : Bx (Sb 50 (w9.alloc (.cells (payA (.slice A1 n1 c1) nilV 0 0 0) 50)) w9.heap.size (payA (.slice A1 n1 c1) nilV 0 0 0)) := ⟨Sb.new _ w9 _⟩
  have HUa := Bx.mk (HU9.out.keep ((Below.refl w9.heap.size w9).alloc (Nat.le_refl _) (.cells (payA (.slice A1 n1 c1) nilV 0 0 0) 50)))
  obtain ⟨wA, hwA⟩ : ∃ W, w9.alloc (.cells (payA (.slice A1 n1 c1) nilV 0 0 0) 50) = W := ⟨_, rfl⟩
  obtain ⟨gP, hgP⟩ : ∃ g, w9.heap.size = g := ⟨_, rfl⟩
  rw [hwA] at HXa HPa HUa ⊢
  rw [hgP] at HPa ⊢
  clear hwA hgP
  have HFa := Bx.mk (HF8.out.below HXa.out HF8.out.lt)
  have HVa := Bx.mk (HV8.out.keep HXa.out)
  have HBa := Bx.mk (HB8.out.trans (HXa.out.mono HB8.out.size))
  go_upto_region 15 with (first
    | (with_reducible refine wpList_loadFra gF 1 40 1 (.slice A7 n7 cc7) rfl HFa.out ?_)
    | (go_at_call 32; refine (HRP.out _ _ HVa.out).mono ?_; rintro e wB ⟨⟨A3, n3, c3, rfl, hq⟩, bB⟩; have HXB := Bx.mk bB; have HQ := Bx.mk hq; clear bB hq))
  have HXc := Bx.mk (HXB.out.alloc HXB.out.size (.cells (payA (.slice A3 n3 c3) nilV 0 0 0) 50))
  have HQc : Bx (Sb 50 (wB.alloc (.cells (payA (.slice A3 n3 c3) nilV 0 0 0) 50)) wB.heap.size (payA (.slice A3 n3 c3) nilV 0 0 0)) := ⟨Sb.new _ wB _⟩
  have HYc := Bx.mk ((HQ.out (by first | rfl | trivial)).bs.keep ((Below.refl wB.heap.size wB).alloc (Nat.le_refl _) (.cells (payA (.slice A3 n3 c3) nilV 0 0 0) 50)))
  obtain ⟨wC, hwC⟩ : ∃ W, wB.alloc (.cells (payA (.slice A3 n3 c3) nilV 0 0 0) 50) = W := ⟨_, rfl⟩
  obtain ⟨gQ, hgQ⟩ : ∃ g, wB.heap.size = g := ⟨_, rfl⟩
  rw [hwC] at HXc HQc HYc ⊢
  rw [hgQ] at HQc ⊢
  clear hwC hgQ
  have HPc := Bx.mk (HPa.out.below HXc.out HPa.out.lt)
  have HBc := Bx.mk (HBa.out.trans (HXc.out.mono HBa.out.size))
  have HVc := Bx.mk (HV.out.keep HBc.out)
  go_upto_region 16 with (first
    | (at_builtin; obtain ⟨vD, wD, hrD, oD, gD⟩ := run_bytes_own _ 22 wC.heap.size (.slice none 0 0) bV [] l (OwB.nil wC wC.heap.size) HVc.out (by simp) HLL.out (Nat.le_refl _); refine Lib.wpList_append_run _ rfl _ _ _ _ rfl _ _ rfl rfl _ _ hrD ?_; have HOD := Bx.mk oD; have HXD := Bx.mk ((Below.refl wC.heap.size wC).grown gD (Nat.le_refl _) (fun j hj => by simp [Value.ownBlock] at hj)); clear hrD oD gD)
    | (at_builtin; obtain ⟨vE, wE, hrE, oE, gE⟩ := run_zeros_own _ 22 wC.heap.size vD ([] ++ l) k HOD.out HKK.out HLL.out HXD.out.size; refine Lib.wpList_append_run _ rfl _ _ _ _ rfl _ _ rfl rfl _ _ hrE ?_; have HOE := Bx.mk oE.bs; have HXE := Bx.mk (HXD.out.grown gE HXD.out.size (fun j hj => HOD.out.ge hj)); clear hrE oE gE))
  rw [List.nil_append, HAL.out] at HOE
  have HBE := Bx.mk (HBc.out.trans (HXE.out.mono HBc.out.size))
  have hlenA : ∀ (tr : TypeId) (W : World), (Builtin.len_ #[22] tr #[vE]).run Try.prog W = .ok (.int .i64 LA) W := fun tr W => by rw [← HLA.out]; exact HOE.out.run_len tr W
  obtain ⟨vm, hslm, hvm⟩ := HOE.out.upto E HE.out.1 HE.out.2.1
  have HVM := Bx.mk (hvm wE HOE.out)
  rw [HE.out.2.2] at HVM
  clear hvm
  go_upto_region 18 with fail
  have hSx := Below.refl wE.heap.size wE
  have HPE := Bx.mk (HPc.out.below HXE.out HPc.out.lt)
  have HQE := Bx.mk (HQc.out.below HXE.out HQc.out.lt)
  have HUE := Bx.mk ((HUa.out.keep HXc.out).keep HXE.out)
  have HYE := Bx.mk (HYc.out.keep HXE.out)
  have HHP := Bx.mk (fun W (h1 : Bs W (.slice A1 n1 c1) D) (h2 : Bs W (.slice A3 n3 c3) D) => helpPay_any _ _ D W h1 h2)
  have k80 : ∀ W, Below wE.heap.size wE W → W.cell? ⟨gP, 0, none⟩ = some (.slice A1 n1 c1) := fun W h => (HPE.out.keep h).cell 0
  have k82 : ∀ W, Below wE.heap.size wE W → (convert 22 9 (.slice A1 n1 c1)).run Try.prog W = .ok (.string (bstr D)) W := fun W h => conv_str (HUE.out.keep h)
  have k90 : ∀ W, Below wE.heap.size wE W → (convert 22 9 vm).run Try.prog W = .ok (.string (bstr D)) W := fun W h => conv_str (HVM.out.keep h)
  refine wp_region_x 21 (fun W => Below wE.heap.size wE W) (by kernel_rfl) (hSx.drew) (fun hHeld => ?_)
  refine wpAnyX_take0 (i := 0) (oi := ⟨some 72, Op.move (Operand.tmp 14), 3, _, _, none⟩) (v := ?v0) rfl (by omega) (by kernel_rfl) (by kernel_rfl) (by kernel_rfl) (fun _ _ _ h => h) (Or.inl ⟨by rfl, ?y0⟩) (by assumption) ?r0
  case y0 =>
    intro W hSw
    try dsimp only at hSw
    go_simp
    try with_reducible rfl
  case r0 =>
  try simp only [Act.put, List.setIfInBounds_toArray, List.set_cons_zero, List.set_cons_succ]
  refine wpAnyX_take0 (i := 1) (oi := ⟨some 73, Op.binOp BinOp.eql 3 (Operand.tmp 72) (Operand.const (Value.int IntKind.i64 0)) 3, 4, _, _, none⟩) (v := ?v1) rfl (by omega) (by kernel_rfl) (by kernel_rfl) (by kernel_rfl) (fun _ _ _ h => h) (Or.inl ⟨by rfl, ?y1⟩) (by assumption) ?r1
  case y1 =>
    intro W hSw
    try dsimp only at hSw
    go_simp
    try with_reducible rfl
  case r1 =>
  try simp only [Act.put, List.setIfInBounds_toArray, List.set_cons_zero, List.set_cons_succ]
  refine wpAnyX_take0 (i := 2) (oi := ⟨some 74, Op.move (Operand.tmp 73), 4, _, _, none⟩) (v := ?v2) rfl (by omega) (by kernel_rfl) (by kernel_rfl) (by kernel_rfl) (fun _ _ _ h => h) (Or.inl ⟨by rfl, ?y2⟩) (by assumption) ?r2
  case y2 =>
    intro W hSw
    try dsimp only at hSw
    go_simp
    try with_reducible rfl
  case r2 =>
  try simp only [Act.put, List.setIfInBounds_toArray, List.set_cons_zero, List.set_cons_succ]
  refine wpAnyX_take (i := 3) (oi := ⟨some 75, Op.load 50 (Operand.tmp 13), 50, _, _, some (2, true)⟩) (v := ?v3) rfl (by omega) (by kernel_rfl) (by kernel_rfl) (by kernel_rfl) (by kernel_rfl) (by kernel_rfl) (fun _ _ _ h => h) (Or.inl ⟨by rfl, ?y3⟩) (by assumption) ?r3
  case y3 =>
    intro W hSw
    try dsimp only at hSw
    refine exec_loadPay gP (.slice A1 n1 c1) nilV 0 0 0 ?_ (HPE.out.keep hSw)
    rfl
  case r3 =>
  try simp only [Act.put, List.setIfInBounds_toArray, List.set_cons_zero, List.set_cons_succ]
  refine wpAnyX_take (i := 4) (oi := ⟨some 76, Op.load 50 (Operand.tmp 15), 50, _, _, some (2, true)⟩) (v := ?v4) rfl (by omega) (by kernel_rfl) (by kernel_rfl) (by kernel_rfl) (by kernel_rfl) (by kernel_rfl) (fun _ _ _ h => h) (Or.inl ⟨by rfl, ?y4⟩) (by assumption) ?r4
  case y4 =>
    intro W hSw
    try dsimp only at hSw
    refine exec_loadPay gQ (.slice A3 n3 c3) nilV 0 0 0 ?_ (HQE.out.keep hSw)
    rfl
  case r4 =>
  try simp only [Act.put, List.setIfInBounds_toArray, List.set_cons_zero, List.set_cons_succ]
  refine wpAnyX_one (i := 5) (by kernel_rfl) rfl (fun K hK => ?_)
  go_simp
  go_at_call 33
  refine (HHP.out _ (HUE.out.keep hHeld) (HYE.out.keep hHeld)).mono ?_
  rintro e wG ⟨rfl, bG⟩
  have hS9 : Below wE.heap.size wE wG := hHeld.trans (bG.mono hHeld.size)
  refine hK _ _ (fun _ => hS9) ?_
  clear hK K
  try simp only [Act.put, List.setIfInBounds_toArray, List.set_cons_zero, List.set_cons_succ]
  refine wpAnyX_take0 (i := 6) (oi := ⟨some 78, Op.pick (Operand.tmp 74) (Operand.tmp 77) (Operand.const (Value.bool false)), 4, _, _, none⟩) (v := ?v6) rfl (by omega) (by kernel_rfl) (by kernel_rfl) (by kernel_rfl) (fun _ _ _ h => h) (Or.inl ⟨by rfl, ?y6⟩) (by assumption) ?r6
  case y6 =>
    intro W hSw
    try dsimp only at hSw
    go_simp
    try with_reducible rfl
  case r6 =>
  try simp only [Act.put, List.setIfInBounds_toArray, List.set_cons_zero, List.set_cons_succ]
  refine wpAnyX_take0 (i := 7) (oi := ⟨some 79, Op.move (Operand.tmp 78), 4, _, _, none⟩) (v := ?v7) rfl (by omega) (by kernel_rfl) (by kernel_rfl) (by kernel_rfl) (fun _ _ _ h => h) (Or.inl ⟨by rfl, ?y7⟩) (by assumption) ?r7
  case y7 =>
    intro W hSw
    try dsimp only at hSw
    go_simp
    try with_reducible rfl
  case r7 =>
  try simp only [Act.put, List.setIfInBounds_toArray, List.set_cons_zero, List.set_cons_succ]
  refine wpAnyX_take0 (i := 8) (oi := ⟨some 80, Op.fieldAddr 50 (Operand.tmp 13) 0, 0, _, _, some (7, true)⟩) (v := ?v8) rfl (by omega) (by kernel_rfl) (by kernel_rfl) (by kernel_rfl) (fun _ _ _ h => h) (Or.inl ⟨by rfl, ?y8⟩) (by assumption) ?r8
  case y8 =>
    intro W hSw
    try dsimp only at hSw
    go_simp
    try with_reducible rfl
  case r8 =>
  try simp only [Act.put, List.setIfInBounds_toArray, List.set_cons_zero, List.set_cons_succ]
  refine wpAnyX_take (i := 9) (oi := ⟨some 81, Op.load 22 (Operand.tmp 80), 22, _, _, some (7, true)⟩) (v := ?v9) rfl (by omega) (by kernel_rfl) (by kernel_rfl) (by kernel_rfl) (by kernel_rfl) (by kernel_rfl) (fun _ _ _ h => h) (Or.inl ⟨by rfl, ?y9⟩) (by assumption) ?r9
  case y9 =>
    intro W hSw
    try dsimp only at hSw
    go_simp
    try with_reducible rfl
  case r9 =>
  try simp only [Act.put, List.setIfInBounds_toArray, List.set_cons_zero, List.set_cons_succ]
  refine wpAnyX_take (i := 10) (oi := ⟨some 82, Op.convert 22 9 (Operand.tmp 81), 9, _, _, some (7, true)⟩) (v := ?v10) rfl (by omega) (by kernel_rfl) (by kernel_rfl) (by kernel_rfl) (by kernel_rfl) (by kernel_rfl) (fun _ _ _ h => h) (Or.inl ⟨by rfl, ?y10⟩) (by assumption) ?r10
  case y10 =>
    intro W hSw
    try dsimp only at hSw
    go_simp
    try with_reducible rfl
  case r10 =>
  try simp only [Act.put, List.setIfInBounds_toArray, List.set_cons_zero, List.set_cons_succ]
  refine wpAnyX_take0 (i := 11) (oi := ⟨some 83, Op.move (Operand.tmp 17), 22, _, _, some (7, true)⟩) (v := ?v11) rfl (by omega) (by kernel_rfl) (by kernel_rfl) (by kernel_rfl) (fun _ _ _ h => h) (Or.inl ⟨by rfl, ?y11⟩) (by assumption) ?r11
  case y11 =>
    intro W hSw
    try dsimp only at hSw
    go_simp
    try with_reducible rfl
  case r11 =>
  try simp only [Act.put, List.setIfInBounds_toArray, List.set_cons_zero, List.set_cons_succ]
  refine wpAnyX_take0 (i := 12) (oi := ⟨some 84, Op.move (Operand.tmp 17), 22, _, _, some (7, true)⟩) (v := ?v12) rfl (by omega) (by kernel_rfl) (by kernel_rfl) (by kernel_rfl) (fun _ _ _ h => h) (Or.inl ⟨by rfl, ?y12⟩) (by assumption) ?r12
  case y12 =>
    intro W hSw
    try dsimp only at hSw
    go_simp
    try with_reducible rfl
  case r12 =>
  try simp only [Act.put, List.setIfInBounds_toArray, List.set_cons_zero, List.set_cons_succ]
  refine wpAnyX_take (i := 13) (oi := ⟨some 85, Op.call { callee := Callee.builtin Builtin.len, args := #[Operand.tmp 84], argTypes := #[22] }, 3, _, _, some (7, true)⟩) (v := ?v13) rfl (by omega) (by kernel_rfl) (by kernel_rfl) (by kernel_rfl) (by kernel_rfl) (by kernel_rfl) (fun _ _ _ h => h) (Or.inl ⟨by rfl, ?y13⟩) (by assumption) ?r13
  case y13 =>
    intro W hSw
    try dsimp only at hSw
    go_simp
    try with_reducible rfl
  case r13 =>
  try simp only [Act.put, List.setIfInBounds_toArray, List.set_cons_zero, List.set_cons_succ]
  refine wpAnyX_take0 (i := 14) (oi := ⟨some 86, Op.move (Operand.tmp 2), 5, _, _, some (7, true)⟩) (v := ?v14) rfl (by omega) (by kernel_rfl) (by kernel_rfl) (by kernel_rfl) (fun _ _ _ h => h) (Or.inl ⟨by rfl, ?y14⟩) (by assumption) ?r14
  case y14 =>
    intro W hSw
    try dsimp only at hSw
    go_simp
    try with_reducible rfl
  case r14 =>
  try simp only [Act.put, List.setIfInBounds_toArray, List.set_cons_zero, List.set_cons_succ]
  refine wpAnyX_take (i := 15) (oi := ⟨some 87, Op.convert 5 3 (Operand.tmp 86), 3, _, _, some (7, true)⟩) (v := ?v15) rfl (by omega) (by kernel_rfl) (by kernel_rfl) (by kernel_rfl) (by kernel_rfl) (by kernel_rfl) (fun _ _ _ h => h) (Or.inl ⟨by rfl, ?y15⟩) (by assumption) ?r15
  case y15 =>
    intro W hSw
    try dsimp only at hSw
    go_simp
    try with_reducible rfl
  case r15 =>
  try simp only [Act.put, List.setIfInBounds_toArray, List.set_cons_zero, List.set_cons_succ]
  refine wpAnyX_take0 (i := 16) (oi := ⟨some 88, Op.binOp BinOp.sub 3 (Operand.tmp 85) (Operand.tmp 87) 3, 3, _, _, some (7, true)⟩) (v := ?v16) rfl (by omega) (by kernel_rfl) (by kernel_rfl) (by kernel_rfl) (fun _ _ _ h => h) (Or.inl ⟨by rfl, ?y16⟩) (by assumption) ?r16
  case y16 =>
    intro W hSw
    try dsimp only at hSw
    go_simp
    try with_reducible rfl
  case r16 =>
  try simp only [Act.put, List.setIfInBounds_toArray, List.set_cons_zero, List.set_cons_succ]
  refine wpAnyX_take0 (i := 17) (oi := ⟨some 89, Op.slice 22 (Operand.tmp 83) none (some (Operand.tmp 88)) none, 22, _, _, some (7, true)⟩) (v := ?v17) rfl (by omega) (by kernel_rfl) (by kernel_rfl) (by kernel_rfl) (fun _ _ _ h => h) (Or.inl ⟨by rfl, ?y17⟩) (by assumption) ?r17
  case y17 =>
    intro W hSw
    try dsimp only at hSw
    go_simp
    try with_reducible rfl
  case r17 =>
  try simp only [Act.put, List.setIfInBounds_toArray, List.set_cons_zero, List.set_cons_succ]
  refine wpAnyX_take (i := 18) (oi := ⟨some 90, Op.convert 22 9 (Operand.tmp 89), 9, _, _, some (7, true)⟩) (v := ?v18) rfl (by omega) (by kernel_rfl) (by kernel_rfl) (by kernel_rfl) (by kernel_rfl) (by kernel_rfl) (fun _ _ _ h => h) (Or.inl ⟨by rfl, ?y18⟩) (by assumption) ?r18
  case y18 =>
    intro W hSw
    try dsimp only at hSw
    go_simp
    try with_reducible rfl
  case r18 =>
  try simp only [Act.put, List.setIfInBounds_toArray, List.set_cons_zero, List.set_cons_succ]
  refine wpAnyX_take0 (i := 19) (oi := ⟨some 91, Op.binOp BinOp.eql 9 (Operand.tmp 82) (Operand.tmp 90) 9, 4, _, _, some (7, true)⟩) (v := ?v19) rfl (by omega) (by kernel_rfl) (by kernel_rfl) (by kernel_rfl) (fun _ _ _ h => h) (Or.inl ⟨by rfl, ?y19⟩) (by assumption) ?r19
  case y19 =>
    intro W hSw
    try dsimp only at hSw
    go_simp
    try with_reducible rfl
  case r19 =>
  try simp only [Act.put, List.setIfInBounds_toArray, List.set_cons_zero, List.set_cons_succ]
  refine wpAnyX_take0 (i := 20) (oi := ⟨some 92, Op.pick (Operand.tmp 79) (Operand.tmp 91) (Operand.const (Value.bool false)), 4, _, _, none⟩) (v := ?v20) rfl (by omega) (by kernel_rfl) (by kernel_rfl) (by kernel_rfl) (fun _ _ _ h => h) (Or.inl ⟨by rfl, ?y20⟩) (by assumption) ?r20
  case y20 =>
    intro W hSw
    try dsimp only at hSw
    go_simp
    try with_reducible rfl
  case r20 =>
  try simp only [Act.put, List.setIfInBounds_toArray, List.set_cons_zero, List.set_cons_succ]
  refine wpAnyX_one (i := 21) (by kernel_rfl) rfl (fun K hK => ?_)
  go_simp
  refine hK _ _ (fun h => absurd h (by decide)) ?_
  clear hK K
  try simp only [Act.put, List.setIfInBounds_toArray, List.set_cons_zero, List.set_cons_succ]
  refine wpAnyX_done (by kernel_rfl) ?_ _
  go_wp2_with fail
  go_ret
  exact ⟨rfl, HBE.out.trans (hS9.mono HBE.out.size)⟩
set_option maxRecDepth 100000 in
set_option maxHeartbeats 4000000 in
theorem pp_long (hd pr : Bool) (P Z : Int) (bV : Value) (l : List UInt8) (w : World) (hv : Bs w bV l) (hl : 100 < l.length) :
    Calls Try.prog 8 #[.bool hd, .bool pr, .int .u8 P, bV, .int .u8 Z] w fun e w' => e = .returned (.bool true) ∧ Below w.heap.size w w' := by
  have HK := Bx.mk (known12_any w)
  obtain ⟨L, hL⟩ : ∃ L : Int, (l.length : Int) = L := ⟨_, rfl⟩
  have hlenb : ∀ (tr : TypeId) (W : World), (Builtin.len_ #[22] tr #[bV]).run Try.prog W = .ok (.int .i64 L) W := fun tr W => by rw [← hL]; exact hv.run_len tr W
  have hd100 : decide (100 < L) = true := decide_eq_true (by omega)
  clear hL hl hv
  go_enter Try.func8, Try.ntmps8
  go_wp2_with (go_at_call 28; refine HK.out.mono ?_; rintro e w1 ⟨rfl, b1⟩; have HB1 := Bx.mk b1; clear b1)
  go_ret
  exact ⟨rfl, HB1.out⟩
theorem u8_wfP {t : Int} (h : (Lit.int .u8 t).wf = true) : 0 ≤ t ∧ t < 256 := by
  have h0 : IntKind.u8.min ≤ t ∧ t ≤ IntKind.u8.max := by simpa [Lit.wf] using h
  have h1 : IntKind.u8.min = 0 := rfl
  have h2 : IntKind.u8.max = 255 := rfl
  omega
theorem payPads_walk (hd pr : Bool) (P Z : Int) (hP : (Lit.int .u8 P).wf = true) (hZ : (Lit.int .u8 Z).wf = true) (bV : Value) (l : List UInt8) (w : World) (hv : Bs w bV l) :
    Calls Try.prog 8 #[.bool hd, .bool pr, .int .u8 P, bV, .int .u8 Z] w fun e w' => e = .returned (.bool true) ∧ Below w.heap.size w w' := by
  by_cases hl : 100 < l.length
  · exact pp_long hd pr P Z bV l w hv hl
  have hl : l.length ≤ 100 := by omega
  have hP2 := u8_wfP hP
  have hZ2 := u8_wfP hZ
  obtain ⟨p, rfl⟩ : ∃ p : Nat, P = p := ⟨P.toNat, by omega⟩
  have hpb : (UInt8.ofNat p).toNat = p := UInt8.toNat_ofNat_of_lt' (show p < 256 by omega)
  have hk : Z.tmod 60 = ((Z.toNat % 60 : Nat) : Int) := by
    rw [Int.tmod_eq_emod_of_nonneg hZ2.1]
    omega
  have hk60 : Z.toNat % 60 < 60 := Nat.mod_lt _ (by decide)
  by_cases hno : l.length + Z.toNat % 60 < p
  · cases hd
    · exact pp_d_no pr p Z p _ _ bV l w rfl hpb hk hk60 hv hl hno
    · cases pr
      · exact pp_h_no false p Z p _ _ bV l w rfl hpb hk hk60 hv hl hno
      · exact pp_p_no true p Z p _ _ bV l w rfl hpb hk hk60 hv hl hno
  · cases hd
    · exact pp_d_ok pr p Z p _ _ bV l w rfl hpb hk hk60 hv hl hno
    · cases pr
      · exact pp_h_ok false p Z p _ _ bV l w rfl hpb hk hk60 hv hl hno
      · exact pp_p_ok true p Z p _ _ bV l w rfl hpb hk hk60 hv hl hno
end Go.Proofs.Ytenoaljghbpaaaa
