/-
  Payloads: the document's padded, of DATA and HEADERS that are padded (written by mkrp.py).
-/
import Derived.Test.YtenoaljghbpaaaaPyH
namespace Go.Proofs.Ytenoaljghbpaaaa
open Go.RowKit
set_option linter.unusedVariables false
set_option linter.unusedSimpArgs false

section
variable {ops : Array Oper} {Q : Exit → Act → World → Prop} {a : Act} {w : World} {rest : List Oper}
theorem wpList_loadPay {x : Operand} {d : Option Tmp} {tr : TypeId} {pos : String} {af : Array Edge} (g : Nat) (v1 v2 : Value) (c st i : Int)
    (hx : a.eval x = .pointer (some ⟨g, 0, none⟩)) (hs : Sb 50 w g (payA v1 v2 c st i))
    (h : wpList Try.prog ops Q rest (a.put d (.agg (payA v1 v2 c st i))) w) : wpList Try.prog ops Q (⟨d, .load 50 x, tr, pos, af, none⟩ :: rest) a w :=
  wpList_loadS 50 g (payA v1 v2 c st i) _ hx hs Try.underlying50 rfl pay_size h
end
set_option maxRecDepth 100000 in
set_option maxHeartbeats 8000000 in
theorem rpad_0_8_no (v : Value) (l : List UInt8) (p : Nat) (w : World) (hv : Bs w v l) (hl : l.length ≤ 1000000) (hA : 1 ≤ l.length) (hp : (l.headD 0).toNat = p) (hno : l.length - 1 < p) :
    Calls Try.prog 91 #[.agg (fraA 0 8 1 v)] w fun e w' => (e = .returned (.tuple #[.agg (payA nilV nilV 0 0 0), .int .i64 6])) ∧ Below w.heap.size w w' := by
  have hp256 : p < 256 := by rw [← hp]; exact UInt8.toNat_lt _
  have HB1 : Bx (Below w.heap.size w ((w.alloc (.cells (fraA 0 8 1 v) 28)).alloc (.cells (payA nilV nilV 0 0 0) 50))) := ⟨((Below.refl _ _).alloc (Nat.le_refl _) _).alloc (by simp) _⟩
  have HF1 : Bx (Sb 28 ((w.alloc (.cells (fraA 0 8 1 v) 28)).alloc (.cells (payA nilV nilV 0 0 0) 50)) w.heap.size (fraA 0 8 1 v)) := ⟨(Sb.new _ w _).alloc _⟩
  have HZ1 : Bx (Sb 50 ((w.alloc (.cells (fraA 0 8 1 v) 28)).alloc (.cells (payA nilV nilV 0 0 0) 50)) (w.heap.size + 1) (payA nilV nilV 0 0 0)) := ⟨Sb.newg _ _ _ (by simp) _⟩
  have hl0 : 0 < l.length := by omega
  have hlen0 : ∀ (tr : TypeId) (W : World), (Builtin.len_ #[22] tr #[v]).run Try.prog W = .ok (.int .i64 (l.length : Int)) W := fun tr W => hv.run_len tr W
  obtain ⟨pa, hix0, hca0⟩ := hv.at_ 0 hl0
  have hix : ∀ W : World, (Instr.indexAt 22 v (.int .i64 0)).run Try.prog W = .ok (.pointer (some pa)) W := fun W => hix0 W
  obtain ⟨P, hP⟩ : ∃ P : Int, (p : Int) = P := ⟨_, rfl⟩
  have hca1 : w.cell? pa = some (.int .u8 P) := by
    rw [hca0 w hv, ← hP, ← hp]
    cases l with
    | nil => simp at hl0
    | cons c l => rfl
  have hplt : pa.block < w.heap.size := World.block_lt_of_cell? w pa hca1
  have HCA : Bx (∀ W, Below w.heap.size w W → W.cell? pa = some (.int .u8 P)) := ⟨fun W h => by rw [h.cell hplt]; exact hca1⟩
  have hwp2 : IntKind.i64.wrap P = P := by rw [IntKind.wrap_i64]; omega
  obtain ⟨v1, hsl1, hv1⟩ := hv.from_ 1 (by omega) (by omega)
  rw [show (1 : Int).toNat = 1 from rfl] at hv1
  have hlen1 : ∀ (tr : TypeId) (W : World), (Builtin.len_ #[22] tr #[v1]).run Try.prog W = .ok (.int .i64 ((l.length - 1 : Nat) : Int)) W := fun tr W => by have h := (hv1 w hv).run_len tr W; rwa [List.length_drop] at h
  obtain ⟨L0, hL0⟩ : ∃ L : Int, (l.length : Int) = L := ⟨_, rfl⟩
  obtain ⟨L1, hL1⟩ : ∃ L : Int, ((l.length - 1 : Nat) : Int) = L := ⟨_, rfl⟩
  rw [hL0] at hlen0
  rw [hL1] at hlen1
  have hb8 : bits .and .u8 8 8 = 8 := by decide
  have hb32 : bits .and .u8 8 32 = 0 := by decide
  have hd0 : decide (L0 < 1) = false := decide_eq_false (by omega)
  have hgt : decide (L1 < P) = true := decide_eq_true (by omega)
  clear hv1  hL0 hL1 hP hp hno hp256 hA hl0 hl hca0 hix0 hca1 hplt
  have HV := Bx.mk hv
  clear hv
  go_enter Try.func91, Try.ntmps91
  go_upto_region 1 with fail
  obtain ⟨w1, hw1⟩ : ∃ W, (w.alloc (.cells (fraA 0 8 1 v) 28)).alloc (.cells (payA nilV nilV 0 0 0) 50) = W := ⟨_, rfl⟩
  obtain ⟨g1, hg1⟩ : ∃ g, w.heap.size = g := ⟨_, rfl⟩
  obtain ⟨g2, hg2⟩ : ∃ g, w.heap.size + 1 = g := ⟨_, rfl⟩
  rw [hw1] at HB1 HF1 HZ1 ⊢
  have HBW := HB1
  rw [hg1] at HF1 ⊢
  rw [hg1, show g1 + 1 = g2 by omega] at HZ1
  rw [show g1 + 1 = g2 by omega]
  have HG : Bx (g1 < w1.heap.size ∧ g2 < w1.heap.size ∧ w.heap.size ≤ g2 ∧ w.heap.size ≤ w1.heap.size) := ⟨HF1.out.lt, HZ1.out.lt, by omega, HBW.out.size⟩
  obtain ⟨c0, c1, c2, c3⟩ := HF1.out.cellsF (Below.refl w1.heap.size w1) HG.out.1
  have hca := HCA.out w1 HBW.out
  clear hw1 hg1 hg2
  go_upto_region 6 with fail
  go_region
  go_upto_region 8 with fail
  have HC := Bx.mk (((Below.refl w1.heap.size w1).alloc (Nat.le_refl _) (.cells (payA nilV nilV 0 0 0) 50)).drew)
  have HS3 : Bx (Sb 50 (w1.alloc (.cells (payA nilV nilV 0 0 0) 50)).drew w1.heap.size (payA nilV nilV 0 0 0)) := ⟨(Sb.new _ w1 _).keep (Below.refl _ _).drew⟩
  obtain ⟨w2, hw2⟩ : ∃ W, (w1.alloc (.cells (payA nilV nilV 0 0 0) 50)).drew = W := ⟨_, rfl⟩
  rw [hw2] at HC HS3 ⊢
  clear hw2 c0 c1 c2 c3
  obtain ⟨c0, c1, c2, c3⟩ := HF1.out.cellsF HC.out HG.out.1
  have HZ2 := Bx.mk (HZ1.out.below HC.out HG.out.2.1)
  have HB2 := Bx.mk (HBW.out.trans (HC.out.mono HBW.out.size))
  go_wp2_with (with_reducible refine wpList_storeP g2 _ none none 0 0 0 0 0 0 0 rfl rfl HZ2.out rfl ?_; intro w8 hs8 hg8; have HS8 := Bx.mk hs8; have HB8 := Bx.mk (HB2.out.grown hg8 HB2.out.size (fun k hk => by injection hk with hk; have := HG.out.2.2.1; omega)); clear hs8 hg8)
  exact bodyPost_ret (ret_S Try.results91 _ _ g2 50 (payA nilV nilV 0 0 0) _ _ rfl rfl HS8.out Try.underlying50 rfl pay_size) rfl ⟨rfl, HB8.out⟩
set_option maxRecDepth 100000 in
set_option maxHeartbeats 8000000 in
theorem rpad_0_8_ok (v : Value) (l : List UInt8) (p : Nat) (w : World) (hv : Bs w v l) (hl : l.length ≤ 1000000) (hA : 1 ≤ l.length) (hp : (l.headD 0).toNat = p) (hno : ¬ l.length - 1 < p) :
    Calls Try.prog 91 #[.agg (fraA 0 8 1 v)] w fun e w' => (∃ A n c, e = .returned (.tuple #[.agg (payA (.slice A n c) nilV 0 0 0), .int .i64 0]) ∧ OwB w' w.heap.size (.slice A n c) ((l.drop 1).take (l.length - 1 - p))) ∧ Below w.heap.size w w' := by
  have hp256 : p < 256 := by rw [← hp]; exact UInt8.toNat_lt _
  have HB1 : Bx (Below w.heap.size w ((w.alloc (.cells (fraA 0 8 1 v) 28)).alloc (.cells (payA nilV nilV 0 0 0) 50))) := ⟨((Below.refl _ _).alloc (Nat.le_refl _) _).alloc (by simp) _⟩
  have HF1 : Bx (Sb 28 ((w.alloc (.cells (fraA 0 8 1 v) 28)).alloc (.cells (payA nilV nilV 0 0 0) 50)) w.heap.size (fraA 0 8 1 v)) := ⟨(Sb.new _ w _).alloc _⟩
  have HZ1 : Bx (Sb 50 ((w.alloc (.cells (fraA 0 8 1 v) 28)).alloc (.cells (payA nilV nilV 0 0 0) 50)) (w.heap.size + 1) (payA nilV nilV 0 0 0)) := ⟨Sb.newg _ _ _ (by simp) _⟩
  have hl0 : 0 < l.length := by omega
  have hlen0 : ∀ (tr : TypeId) (W : World), (Builtin.len_ #[22] tr #[v]).run Try.prog W = .ok (.int .i64 (l.length : Int)) W := fun tr W => hv.run_len tr W
  obtain ⟨pa, hix0, hca0⟩ := hv.at_ 0 hl0
  have hix : ∀ W : World, (Instr.indexAt 22 v (.int .i64 0)).run Try.prog W = .ok (.pointer (some pa)) W := fun W => hix0 W
  obtain ⟨P, hP⟩ : ∃ P : Int, (p : Int) = P := ⟨_, rfl⟩
  have hca1 : w.cell? pa = some (.int .u8 P) := by
    rw [hca0 w hv, ← hP, ← hp]
    cases l with
    | nil => simp at hl0
    | cons c l => rfl
  have hplt : pa.block < w.heap.size := World.block_lt_of_cell? w pa hca1
  have HCA : Bx (∀ W, Below w.heap.size w W → W.cell? pa = some (.int .u8 P)) := ⟨fun W h => by rw [h.cell hplt]; exact hca1⟩
  have hwp2 : IntKind.i64.wrap P = P := by rw [IntKind.wrap_i64]; omega
  obtain ⟨v1, hsl1, hv1⟩ := hv.from_ 1 (by omega) (by omega)
  rw [show (1 : Int).toNat = 1 from rfl] at hv1
  have hlen1 : ∀ (tr : TypeId) (W : World), (Builtin.len_ #[22] tr #[v1]).run Try.prog W = .ok (.int .i64 ((l.length - 1 : Nat) : Int)) W := fun tr W => by have h := (hv1 w hv).run_len tr W; rwa [List.length_drop] at h
  obtain ⟨L0, hL0⟩ : ∃ L : Int, (l.length : Int) = L := ⟨_, rfl⟩
  obtain ⟨L1, hL1⟩ : ∃ L : Int, ((l.length - 1 : Nat) : Int) = L := ⟨_, rfl⟩
  rw [hL0] at hlen0
  rw [hL1] at hlen1
  have hb8 : bits .and .u8 8 8 = 8 := by decide
  have hb32 : bits .and .u8 8 32 = 0 := by decide
  have hd0 : decide (L0 < 1) = false := decide_eq_false (by omega)
  have hgt : decide (L1 < P) = false := decide_eq_false (by omega)
  obtain ⟨E, hE⟩ : ∃ E : Int, L1 - P = E := ⟨_, rfl⟩
  have hs : wrap64 E = E := by unfold wrap64; omega
  obtain ⟨vm, hslm, hvm0⟩ := (hv1 w hv).upto E (by omega) (by rw [List.length_drop]; omega)
  have HVM : Bx (Bs w vm ((l.drop 1).take (l.length - 1 - p))) := ⟨by have h := hvm0 w (hv1 w hv); rwa [show E.toNat = l.length - 1 - p by omega] at h⟩
  have HDL : Bx (((l.drop 1).take (l.length - 1 - p)).length ≤ 1000000) := ⟨by rw [List.length_take, List.length_drop]; omega⟩
  obtain ⟨D, hD⟩ : ∃ D, (l.drop 1).take (l.length - 1 - p) = D := ⟨_, rfl⟩
  rw [hD] at HVM HDL ⊢
  clear hD hvm0
  clear hv1  hL0 hL1 hP hp hno hp256 hA hl0 hl hca0 hix0 hca1 hplt
  have HV := Bx.mk hv
  clear hv
  go_enter Try.func91, Try.ntmps91
  go_upto_region 1 with fail
  obtain ⟨w1, hw1⟩ : ∃ W, (w.alloc (.cells (fraA 0 8 1 v) 28)).alloc (.cells (payA nilV nilV 0 0 0) 50) = W := ⟨_, rfl⟩
  obtain ⟨g1, hg1⟩ : ∃ g, w.heap.size = g := ⟨_, rfl⟩
  obtain ⟨g2, hg2⟩ : ∃ g, w.heap.size + 1 = g := ⟨_, rfl⟩
  rw [hw1] at HB1 HF1 HZ1 ⊢
  have HBW := HB1
  rw [hg1] at HF1 ⊢
  rw [hg1, show g1 + 1 = g2 by omega] at HZ1
  rw [show g1 + 1 = g2 by omega]
  have HG : Bx (g1 < w1.heap.size ∧ g2 < w1.heap.size ∧ w.heap.size ≤ g2 ∧ w.heap.size ≤ w1.heap.size) := ⟨HF1.out.lt, HZ1.out.lt, by omega, HBW.out.size⟩
  obtain ⟨c0, c1, c2, c3⟩ := HF1.out.cellsF (Below.refl w1.heap.size w1) HG.out.1
  have hca := HCA.out w1 HBW.out
  clear hw1 hg1 hg2
  go_upto_region 6 with fail
  go_region
  go_upto_region 8 with fail
  have HC := Bx.mk (((Below.refl w1.heap.size w1).alloc (Nat.le_refl _) (.cells (payA nilV nilV 0 0 0) 50)).drew)
  have HS3 : Bx (Sb 50 (w1.alloc (.cells (payA nilV nilV 0 0 0) 50)).drew w1.heap.size (payA nilV nilV 0 0 0)) := ⟨(Sb.new _ w1 _).keep (Below.refl _ _).drew⟩
  obtain ⟨w2, hw2⟩ : ∃ W, (w1.alloc (.cells (payA nilV nilV 0 0 0) 50)).drew = W := ⟨_, rfl⟩
  rw [hw2] at HC HS3 ⊢
  clear hw2 c0 c1 c2 c3
  obtain ⟨c0, c1, c2, c3⟩ := HF1.out.cellsF HC.out HG.out.1
  have HZ2 := Bx.mk (HZ1.out.below HC.out HG.out.2.1)
  have HB2 := Bx.mk (HBW.out.trans (HC.out.mono HBW.out.size))
  go_upto_region 19 with fail
  obtain ⟨g3, hg3⟩ : ∃ g, w1.heap.size = g := ⟨_, rfl⟩
  rw [hg3] at HS3 ⊢
  have HG3 : Bx (g3 < w2.heap.size ∧ g2 ≠ g3 ∧ w.heap.size ≤ g3 ∧ w.heap.size ≤ w2.heap.size) := ⟨HS3.out.lt, by have := HG.out.2.1; omega, by have := HG.out.2.2.2; omega, HB2.out.size⟩
  clear hg3
  go_upto_region 20 with (at_builtin; refine wpList_append_ob rfl _ _ rfl w2.heap.size _ vm [] D rfl rfl (OwB.nil w2 w2.heap.size) (HVM.out.keep HB2.out) (by have := HDL.out; simp; omega) (Nat.le_refl _) ?_; intro u w4 hu b4; obtain ⟨A0, n0, cc0, rfl⟩ := hu.shape; have HU := Bx.mk hu; have HB4 := Bx.mk b4; have HS4 := Bx.mk (HS3.out.below b4 HG3.out.1); have k0 : w4.cell? ⟨g3, 0, none⟩ = some (.slice none 0 0) := HS4.out.cell 0; have f0 := HS4.out.free 0; clear hu b4)
  have HS5 : Bx (Sb 50 (w4.setCell ⟨g3, 0, none⟩ (.slice A0 n0 cc0)) g3 (payA (.slice A0 n0 cc0) nilV 0 0 0)) := ⟨HS4.out.set 0 (.slice A0 n0 cc0) (show 0 < 5 by decide)⟩
  have HU5 := Bx.mk (HU.out.grownO (grown_set w4 g3 0 (.slice A0 n0 cc0)) HG3.out.1)
  have HB5 := Bx.mk ((HB2.out.trans (HB4.out.mono HB2.out.size)).setCell (p := ⟨g3, 0, none⟩) HG3.out.2.2.1 (.slice A0 n0 cc0))
  have HZ5 := Bx.mk ((HZ2.out.below HB4.out HZ2.out.lt).fp (Sb.fpset (g := g3) 0 (.slice A0 n0 cc0) (fun k => k = g3) rfl) (fun h => HG3.out.2.1 h))
  obtain ⟨w5, hw5⟩ : ∃ W, w4.setCell ⟨g3, 0, none⟩ (.slice A0 n0 cc0) = W := ⟨_, rfl⟩
  rw [hw5] at HS5 HU5 HB5 HZ5 ⊢
  clear hw5 k0 f0
  go_wp2_with (first
    | (with_reducible refine wpList_loadPay g3 (.slice A0 n0 cc0) nilV 0 0 0 rfl HS5.out ?_)
    | (with_reducible refine wpList_storeP g2 _ A0 none n0 cc0 0 0 0 0 0 rfl rfl HZ5.out rfl ?_; intro w8 hs8 hg8; have HS8 := Bx.mk hs8; have HU8 := Bx.mk (HU5.out.grownO hg8 (by have := HG.out.2.1; have := HC.out.size; omega)); have HB8 := Bx.mk (HB5.out.grown hg8 HB5.out.size (fun k hk => by injection hk with hk; have := HG.out.2.2.1; omega)); clear hs8 hg8))
  exact bodyPost_ret (ret_S Try.results91 _ _ g2 50 (payA (.slice A0 n0 cc0) nilV 0 0 0) _ _ rfl rfl HS8.out Try.underlying50 rfl pay_size) rfl ⟨⟨_, _, _, rfl, HU8.out.mono HG3.out.2.2.2⟩, HB8.out⟩
set_option maxRecDepth 100000 in
set_option maxHeartbeats 8000000 in
theorem rpad_1_8_no (v : Value) (l : List UInt8) (p : Nat) (w : World) (hv : Bs w v l) (hl : l.length ≤ 1000000) (hA : 1 ≤ l.length) (hp : (l.headD 0).toNat = p) (hno : l.length - 1 < p) :
    Calls Try.prog 91 #[.agg (fraA 1 8 1 v)] w fun e w' => (e = .returned (.tuple #[.agg (payA nilV nilV 0 0 0), .int .i64 6])) ∧ Below w.heap.size w w' := by
  have hp256 : p < 256 := by rw [← hp]; exact UInt8.toNat_lt _
  have HB1 : Bx (Below w.heap.size w ((w.alloc (.cells (fraA 1 8 1 v) 28)).alloc (.cells (payA nilV nilV 0 0 0) 50))) := ⟨((Below.refl _ _).alloc (Nat.le_refl _) _).alloc (by simp) _⟩
  have HF1 : Bx (Sb 28 ((w.alloc (.cells (fraA 1 8 1 v) 28)).alloc (.cells (payA nilV nilV 0 0 0) 50)) w.heap.size (fraA 1 8 1 v)) := ⟨(Sb.new _ w _).alloc _⟩
  have HZ1 : Bx (Sb 50 ((w.alloc (.cells (fraA 1 8 1 v) 28)).alloc (.cells (payA nilV nilV 0 0 0) 50)) (w.heap.size + 1) (payA nilV nilV 0 0 0)) := ⟨Sb.newg _ _ _ (by simp) _⟩
  have hl0 : 0 < l.length := by omega
  have hlen0 : ∀ (tr : TypeId) (W : World), (Builtin.len_ #[22] tr #[v]).run Try.prog W = .ok (.int .i64 (l.length : Int)) W := fun tr W => hv.run_len tr W
  obtain ⟨pa, hix0, hca0⟩ := hv.at_ 0 hl0
  have hix : ∀ W : World, (Instr.indexAt 22 v (.int .i64 0)).run Try.prog W = .ok (.pointer (some pa)) W := fun W => hix0 W
  obtain ⟨P, hP⟩ : ∃ P : Int, (p : Int) = P := ⟨_, rfl⟩
  have hca1 : w.cell? pa = some (.int .u8 P) := by
    rw [hca0 w hv, ← hP, ← hp]
    cases l with
    | nil => simp at hl0
    | cons c l => rfl
  have hplt : pa.block < w.heap.size := World.block_lt_of_cell? w pa hca1
  have HCA : Bx (∀ W, Below w.heap.size w W → W.cell? pa = some (.int .u8 P)) := ⟨fun W h => by rw [h.cell hplt]; exact hca1⟩
  have hwp2 : IntKind.i64.wrap P = P := by rw [IntKind.wrap_i64]; omega
  obtain ⟨v1, hsl1, hv1⟩ := hv.from_ 1 (by omega) (by omega)
  rw [show (1 : Int).toNat = 1 from rfl] at hv1
  have hlen1 : ∀ (tr : TypeId) (W : World), (Builtin.len_ #[22] tr #[v1]).run Try.prog W = .ok (.int .i64 ((l.length - 1 : Nat) : Int)) W := fun tr W => by have h := (hv1 w hv).run_len tr W; rwa [List.length_drop] at h
  obtain ⟨L0, hL0⟩ : ∃ L : Int, (l.length : Int) = L := ⟨_, rfl⟩
  obtain ⟨L1, hL1⟩ : ∃ L : Int, ((l.length - 1 : Nat) : Int) = L := ⟨_, rfl⟩
  rw [hL0] at hlen0
  rw [hL1] at hlen1
  have hb8 : bits .and .u8 8 8 = 8 := by decide
  have hb32 : bits .and .u8 8 32 = 0 := by decide
  have hd0 : decide (L0 < 1) = false := decide_eq_false (by omega)
  have hgt : decide (L1 < P) = true := decide_eq_true (by omega)
  clear hv1  hL0 hL1 hP hp hno hp256 hA hl0 hl hca0 hix0 hca1 hplt
  have HV := Bx.mk hv
  clear hv
  go_enter Try.func91, Try.ntmps91
  go_upto_region 1 with fail
  obtain ⟨w1, hw1⟩ : ∃ W, (w.alloc (.cells (fraA 1 8 1 v) 28)).alloc (.cells (payA nilV nilV 0 0 0) 50) = W := ⟨_, rfl⟩
  obtain ⟨g1, hg1⟩ : ∃ g, w.heap.size = g := ⟨_, rfl⟩
  obtain ⟨g2, hg2⟩ : ∃ g, w.heap.size + 1 = g := ⟨_, rfl⟩
  rw [hw1] at HB1 HF1 HZ1 ⊢
  have HBW := HB1
  rw [hg1] at HF1 ⊢
  rw [hg1, show g1 + 1 = g2 by omega] at HZ1
  rw [show g1 + 1 = g2 by omega]
  have HG : Bx (g1 < w1.heap.size ∧ g2 < w1.heap.size ∧ w.heap.size ≤ g2 ∧ w.heap.size ≤ w1.heap.size) := ⟨HF1.out.lt, HZ1.out.lt, by omega, HBW.out.size⟩
  obtain ⟨c0, c1, c2, c3⟩ := HF1.out.cellsF (Below.refl w1.heap.size w1) HG.out.1
  have hca := HCA.out w1 HBW.out
  clear hw1 hg1 hg2
  go_upto_region 6 with fail
  go_region
  go_upto_region 8 with fail
  have HC := Bx.mk (((Below.refl w1.heap.size w1).alloc (Nat.le_refl _) (.cells (payA nilV nilV 0 0 0) 50)).drew)
  have HS3 : Bx (Sb 50 (w1.alloc (.cells (payA nilV nilV 0 0 0) 50)).drew w1.heap.size (payA nilV nilV 0 0 0)) := ⟨(Sb.new _ w1 _).keep (Below.refl _ _).drew⟩
  obtain ⟨w2, hw2⟩ : ∃ W, (w1.alloc (.cells (payA nilV nilV 0 0 0) 50)).drew = W := ⟨_, rfl⟩
  rw [hw2] at HC HS3 ⊢
  clear hw2 c0 c1 c2 c3
  obtain ⟨c0, c1, c2, c3⟩ := HF1.out.cellsF HC.out HG.out.1
  have HZ2 := Bx.mk (HZ1.out.below HC.out HG.out.2.1)
  have HB2 := Bx.mk (HBW.out.trans (HC.out.mono HBW.out.size))
  go_wp2_with (with_reducible refine wpList_storeP g2 _ none none 0 0 0 0 0 0 0 rfl rfl HZ2.out rfl ?_; intro w8 hs8 hg8; have HS8 := Bx.mk hs8; have HB8 := Bx.mk (HB2.out.grown hg8 HB2.out.size (fun k hk => by injection hk with hk; have := HG.out.2.2.1; omega)); clear hs8 hg8)
  exact bodyPost_ret (ret_S Try.results91 _ _ g2 50 (payA nilV nilV 0 0 0) _ _ rfl rfl HS8.out Try.underlying50 rfl pay_size) rfl ⟨rfl, HB8.out⟩
set_option maxRecDepth 100000 in
set_option maxHeartbeats 8000000 in
theorem rpad_1_8_ok (v : Value) (l : List UInt8) (p : Nat) (w : World) (hv : Bs w v l) (hl : l.length ≤ 1000000) (hA : 1 ≤ l.length) (hp : (l.headD 0).toNat = p) (hno : ¬ l.length - 1 < p) :
    Calls Try.prog 91 #[.agg (fraA 1 8 1 v)] w fun e w' => (∃ A n c, e = .returned (.tuple #[.agg (payA (.slice A n c) nilV 0 0 0), .int .i64 0]) ∧ OwB w' w.heap.size (.slice A n c) ((l.drop 1).take (l.length - 1 - p))) ∧ Below w.heap.size w w' := by
  have hp256 : p < 256 := by rw [← hp]; exact UInt8.toNat_lt _
  have HB1 : Bx (Below w.heap.size w ((w.alloc (.cells (fraA 1 8 1 v) 28)).alloc (.cells (payA nilV nilV 0 0 0) 50))) := ⟨((Below.refl _ _).alloc (Nat.le_refl _) _).alloc (by simp) _⟩
  have HF1 : Bx (Sb 28 ((w.alloc (.cells (fraA 1 8 1 v) 28)).alloc (.cells (payA nilV nilV 0 0 0) 50)) w.heap.size (fraA 1 8 1 v)) := ⟨(Sb.new _ w _).alloc _⟩
  have HZ1 : Bx (Sb 50 ((w.alloc (.cells (fraA 1 8 1 v) 28)).alloc (.cells (payA nilV nilV 0 0 0) 50)) (w.heap.size + 1) (payA nilV nilV 0 0 0)) := ⟨Sb.newg _ _ _ (by simp) _⟩
  have hl0 : 0 < l.length := by omega
  have hlen0 : ∀ (tr : TypeId) (W : World), (Builtin.len_ #[22] tr #[v]).run Try.prog W = .ok (.int .i64 (l.length : Int)) W := fun tr W => hv.run_len tr W
  obtain ⟨pa, hix0, hca0⟩ := hv.at_ 0 hl0
  have hix : ∀ W : World, (Instr.indexAt 22 v (.int .i64 0)).run Try.prog W = .ok (.pointer (some pa)) W := fun W => hix0 W
  obtain ⟨P, hP⟩ : ∃ P : Int, (p : Int) = P := ⟨_, rfl⟩
  have hca1 : w.cell? pa = some (.int .u8 P) := by
    rw [hca0 w hv, ← hP, ← hp]
    cases l with
    | nil => simp at hl0
    | cons c l => rfl
  have hplt : pa.block < w.heap.size := World.block_lt_of_cell? w pa hca1
  have HCA : Bx (∀ W, Below w.heap.size w W → W.cell? pa = some (.int .u8 P)) := ⟨fun W h => by rw [h.cell hplt]; exact hca1⟩
  have hwp2 : IntKind.i64.wrap P = P := by rw [IntKind.wrap_i64]; omega
  obtain ⟨v1, hsl1, hv1⟩ := hv.from_ 1 (by omega) (by omega)
  rw [show (1 : Int).toNat = 1 from rfl] at hv1
  have hlen1 : ∀ (tr : TypeId) (W : World), (Builtin.len_ #[22] tr #[v1]).run Try.prog W = .ok (.int .i64 ((l.length - 1 : Nat) : Int)) W := fun tr W => by have h := (hv1 w hv).run_len tr W; rwa [List.length_drop] at h
  obtain ⟨L0, hL0⟩ : ∃ L : Int, (l.length : Int) = L := ⟨_, rfl⟩
  obtain ⟨L1, hL1⟩ : ∃ L : Int, ((l.length - 1 : Nat) : Int) = L := ⟨_, rfl⟩
  rw [hL0] at hlen0
  rw [hL1] at hlen1
  have hb8 : bits .and .u8 8 8 = 8 := by decide
  have hb32 : bits .and .u8 8 32 = 0 := by decide
  have hd0 : decide (L0 < 1) = false := decide_eq_false (by omega)
  have hgt : decide (L1 < P) = false := decide_eq_false (by omega)
  obtain ⟨E, hE⟩ : ∃ E : Int, L1 - P = E := ⟨_, rfl⟩
  have hs : wrap64 E = E := by unfold wrap64; omega
  obtain ⟨vm, hslm, hvm0⟩ := (hv1 w hv).upto E (by omega) (by rw [List.length_drop]; omega)
  have HVM : Bx (Bs w vm ((l.drop 1).take (l.length - 1 - p))) := ⟨by have h := hvm0 w (hv1 w hv); rwa [show E.toNat = l.length - 1 - p by omega] at h⟩
  have HDL : Bx (((l.drop 1).take (l.length - 1 - p)).length ≤ 1000000) := ⟨by rw [List.length_take, List.length_drop]; omega⟩
  obtain ⟨D, hD⟩ : ∃ D, (l.drop 1).take (l.length - 1 - p) = D := ⟨_, rfl⟩
  rw [hD] at HVM HDL ⊢
  clear hD hvm0
  clear hv1  hL0 hL1 hP hp hno hp256 hA hl0 hl hca0 hix0 hca1 hplt
  have HV := Bx.mk hv
  clear hv
  go_enter Try.func91, Try.ntmps91
  go_upto_region 1 with fail
  obtain ⟨w1, hw1⟩ : ∃ W, (w.alloc (.cells (fraA 1 8 1 v) 28)).alloc (.cells (payA nilV nilV 0 0 0) 50) = W := ⟨_, rfl⟩
  obtain ⟨g1, hg1⟩ : ∃ g, w.heap.size = g := ⟨_, rfl⟩
  obtain ⟨g2, hg2⟩ : ∃ g, w.heap.size + 1 = g := ⟨_, rfl⟩
  rw [hw1] at HB1 HF1 HZ1 ⊢
  have HBW := HB1
  rw [hg1] at HF1 ⊢
  rw [hg1, show g1 + 1 = g2 by omega] at HZ1
  rw [show g1 + 1 = g2 by omega]
  have HG : Bx (g1 < w1.heap.size ∧ g2 < w1.heap.size ∧ w.heap.size ≤ g2 ∧ w.heap.size ≤ w1.heap.size) := ⟨HF1.out.lt, HZ1.out.lt, by omega, HBW.out.size⟩
  obtain ⟨c0, c1, c2, c3⟩ := HF1.out.cellsF (Below.refl w1.heap.size w1) HG.out.1
  have hca := HCA.out w1 HBW.out
  clear hw1 hg1 hg2
  go_upto_region 6 with fail
  go_region
  go_upto_region 8 with fail
  have HC := Bx.mk (((Below.refl w1.heap.size w1).alloc (Nat.le_refl _) (.cells (payA nilV nilV 0 0 0) 50)).drew)
  have HS3 : Bx (Sb 50 (w1.alloc (.cells (payA nilV nilV 0 0 0) 50)).drew w1.heap.size (payA nilV nilV 0 0 0)) := ⟨(Sb.new _ w1 _).keep (Below.refl _ _).drew⟩
  obtain ⟨w2, hw2⟩ : ∃ W, (w1.alloc (.cells (payA nilV nilV 0 0 0) 50)).drew = W := ⟨_, rfl⟩
  rw [hw2] at HC HS3 ⊢
  clear hw2 c0 c1 c2 c3
  obtain ⟨c0, c1, c2, c3⟩ := HF1.out.cellsF HC.out HG.out.1
  have HZ2 := Bx.mk (HZ1.out.below HC.out HG.out.2.1)
  have HB2 := Bx.mk (HBW.out.trans (HC.out.mono HBW.out.size))
  go_upto_region 19 with fail
  obtain ⟨g3, hg3⟩ : ∃ g, w1.heap.size = g := ⟨_, rfl⟩
  rw [hg3] at HS3 ⊢
  have HG3 : Bx (g3 < w2.heap.size ∧ g2 ≠ g3 ∧ w.heap.size ≤ g3 ∧ w.heap.size ≤ w2.heap.size) := ⟨HS3.out.lt, by have := HG.out.2.1; omega, by have := HG.out.2.2.2; omega, HB2.out.size⟩
  clear hg3
  go_upto_region 20 with (at_builtin; refine wpList_append_ob rfl _ _ rfl w2.heap.size _ vm [] D rfl rfl (OwB.nil w2 w2.heap.size) (HVM.out.keep HB2.out) (by have := HDL.out; simp; omega) (Nat.le_refl _) ?_; intro u w4 hu b4; obtain ⟨A0, n0, cc0, rfl⟩ := hu.shape; have HU := Bx.mk hu; have HB4 := Bx.mk b4; have HS4 := Bx.mk (HS3.out.below b4 HG3.out.1); have k0 : w4.cell? ⟨g3, 0, none⟩ = some (.slice none 0 0) := HS4.out.cell 0; have f0 := HS4.out.free 0; clear hu b4)
  have HS5 : Bx (Sb 50 (w4.setCell ⟨g3, 0, none⟩ (.slice A0 n0 cc0)) g3 (payA (.slice A0 n0 cc0) nilV 0 0 0)) := ⟨HS4.out.set 0 (.slice A0 n0 cc0) (show 0 < 5 by decide)⟩
  have HU5 := Bx.mk (HU.out.grownO (grown_set w4 g3 0 (.slice A0 n0 cc0)) HG3.out.1)
  have HB5 := Bx.mk ((HB2.out.trans (HB4.out.mono HB2.out.size)).setCell (p := ⟨g3, 0, none⟩) HG3.out.2.2.1 (.slice A0 n0 cc0))
  have HZ5 := Bx.mk ((HZ2.out.below HB4.out HZ2.out.lt).fp (Sb.fpset (g := g3) 0 (.slice A0 n0 cc0) (fun k => k = g3) rfl) (fun h => HG3.out.2.1 h))
  obtain ⟨w5, hw5⟩ : ∃ W, w4.setCell ⟨g3, 0, none⟩ (.slice A0 n0 cc0) = W := ⟨_, rfl⟩
  rw [hw5] at HS5 HU5 HB5 HZ5 ⊢
  clear hw5 k0 f0
  go_wp2_with (first
    | (with_reducible refine wpList_loadPay g3 (.slice A0 n0 cc0) nilV 0 0 0 rfl HS5.out ?_)
    | (with_reducible refine wpList_storeP g2 _ A0 none n0 cc0 0 0 0 0 0 rfl rfl HZ5.out rfl ?_; intro w8 hs8 hg8; have HS8 := Bx.mk hs8; have HU8 := Bx.mk (HU5.out.grownO hg8 (by have := HG.out.2.1; have := HC.out.size; omega)); have HB8 := Bx.mk (HB5.out.grown hg8 HB5.out.size (fun k hk => by injection hk with hk; have := HG.out.2.2.1; omega)); clear hs8 hg8))
  exact bodyPost_ret (ret_S Try.results91 _ _ g2 50 (payA (.slice A0 n0 cc0) nilV 0 0 0) _ _ rfl rfl HS8.out Try.underlying50 rfl pay_size) rfl ⟨⟨_, _, _, rfl, HU8.out.mono HG3.out.2.2.2⟩, HB8.out⟩
set_option maxRecDepth 100000 in
set_option maxHeartbeats 8000000 in
theorem rpad_1_40_no (v : Value) (l : List UInt8) (p : Nat) (w : World) (hv : Bs w v l) (hl : l.length ≤ 1000000) (hA : 6 ≤ l.length) (hp : (l.headD 0).toNat = p) (hno : l.length - 6 < p) :
    Calls Try.prog 91 #[.agg (fraA 1 40 1 v)] w fun e w' => (e = .returned (.tuple #[.agg (payA nilV nilV 0 0 0), .int .i64 6])) ∧ Below w.heap.size w w' := by
  have hp256 : p < 256 := by rw [← hp]; exact UInt8.toNat_lt _
  have HB1 : Bx (Below w.heap.size w ((w.alloc (.cells (fraA 1 40 1 v) 28)).alloc (.cells (payA nilV nilV 0 0 0) 50))) := ⟨((Below.refl _ _).alloc (Nat.le_refl _) _).alloc (by simp) _⟩
  have HF1 : Bx (Sb 28 ((w.alloc (.cells (fraA 1 40 1 v) 28)).alloc (.cells (payA nilV nilV 0 0 0) 50)) w.heap.size (fraA 1 40 1 v)) := ⟨(Sb.new _ w _).alloc _⟩
  have HZ1 : Bx (Sb 50 ((w.alloc (.cells (fraA 1 40 1 v) 28)).alloc (.cells (payA nilV nilV 0 0 0) 50)) (w.heap.size + 1) (payA nilV nilV 0 0 0)) := ⟨Sb.newg _ _ _ (by simp) _⟩
  have hl0 : 0 < l.length := by omega
  have hlen0 : ∀ (tr : TypeId) (W : World), (Builtin.len_ #[22] tr #[v]).run Try.prog W = .ok (.int .i64 (l.length : Int)) W := fun tr W => hv.run_len tr W
  obtain ⟨pa, hix0, hca0⟩ := hv.at_ 0 hl0
  have hix : ∀ W : World, (Instr.indexAt 22 v (.int .i64 0)).run Try.prog W = .ok (.pointer (some pa)) W := fun W => hix0 W
  obtain ⟨P, hP⟩ : ∃ P : Int, (p : Int) = P := ⟨_, rfl⟩
  have hca1 : w.cell? pa = some (.int .u8 P) := by
    rw [hca0 w hv, ← hP, ← hp]
    cases l with
    | nil => simp at hl0
    | cons c l => rfl
  have hplt : pa.block < w.heap.size := World.block_lt_of_cell? w pa hca1
  have HCA : Bx (∀ W, Below w.heap.size w W → W.cell? pa = some (.int .u8 P)) := ⟨fun W h => by rw [h.cell hplt]; exact hca1⟩
  have hwp2 : IntKind.i64.wrap P = P := by rw [IntKind.wrap_i64]; omega
  obtain ⟨v1, hsl1, hv1⟩ := hv.from_ 1 (by omega) (by omega)
  rw [show (1 : Int).toNat = 1 from rfl] at hv1
  have hlen1 : ∀ (tr : TypeId) (W : World), (Builtin.len_ #[22] tr #[v1]).run Try.prog W = .ok (.int .i64 ((l.length - 1 : Nat) : Int)) W := fun tr W => by have h := (hv1 w hv).run_len tr W; rwa [List.length_drop] at h
  obtain ⟨L0, hL0⟩ : ∃ L : Int, (l.length : Int) = L := ⟨_, rfl⟩
  obtain ⟨L1, hL1⟩ : ∃ L : Int, ((l.length - 1 : Nat) : Int) = L := ⟨_, rfl⟩
  rw [hL0] at hlen0
  rw [hL1] at hlen1
  have hb8 : bits .and .u8 40 8 = 8 := by decide
  have hb32 : bits .and .u8 40 32 = 32 := by decide
  have hd0 : decide (L0 < 1) = false := decide_eq_false (by omega)
  have hd1 : decide (L1 < 5) = false := decide_eq_false (by omega)
  obtain ⟨v2, hsl2, hv20⟩ := (hv1 w hv).from_ 5 (by omega) (by rw [List.length_drop]; omega)
  have hv2 : ∀ W : World, Bs W v l → Bs W v2 (l.drop 6) := fun W h => by have h2 := hv20 W (hv1 W h); rw [List.drop_drop] at h2; exact h2
  clear hv20
  have hlen2 : ∀ (tr : TypeId) (W : World), (Builtin.len_ #[22] tr #[v2]).run Try.prog W = .ok (.int .i64 ((l.length - 6 : Nat) : Int)) W := fun tr W => by have h := (hv2 w hv).run_len tr W; rwa [List.length_drop] at h
  obtain ⟨L2, hL2⟩ : ∃ L : Int, ((l.length - 6 : Nat) : Int) = L := ⟨_, rfl⟩
  rw [hL2] at hlen2
  have hgt : decide (L2 < P) = true := decide_eq_true (by omega)
  clear hv1 hv2 hL2 hL0 hL1 hP hp hno hp256 hA hl0 hl hca0 hix0 hca1 hplt
  have HV := Bx.mk hv
  clear hv
  go_enter Try.func91, Try.ntmps91
  go_upto_region 1 with fail
  obtain ⟨w1, hw1⟩ : ∃ W, (w.alloc (.cells (fraA 1 40 1 v) 28)).alloc (.cells (payA nilV nilV 0 0 0) 50) = W := ⟨_, rfl⟩
  obtain ⟨g1, hg1⟩ : ∃ g, w.heap.size = g := ⟨_, rfl⟩
  obtain ⟨g2, hg2⟩ : ∃ g, w.heap.size + 1 = g := ⟨_, rfl⟩
  rw [hw1] at HB1 HF1 HZ1 ⊢
  have HBW := HB1
  rw [hg1] at HF1 ⊢
  rw [hg1, show g1 + 1 = g2 by omega] at HZ1
  rw [show g1 + 1 = g2 by omega]
  have HG : Bx (g1 < w1.heap.size ∧ g2 < w1.heap.size ∧ w.heap.size ≤ g2 ∧ w.heap.size ≤ w1.heap.size) := ⟨HF1.out.lt, HZ1.out.lt, by omega, HBW.out.size⟩
  obtain ⟨c0, c1, c2, c3⟩ := HF1.out.cellsF (Below.refl w1.heap.size w1) HG.out.1
  have hca := HCA.out w1 HBW.out
  clear hw1 hg1 hg2
  go_upto_region 6 with fail
  go_region
  go_upto_region 8 with fail
  have HC := Bx.mk (((Below.refl w1.heap.size w1).alloc (Nat.le_refl _) (.cells (payA nilV nilV 0 0 0) 50)).drew)
  have HS3 : Bx (Sb 50 (w1.alloc (.cells (payA nilV nilV 0 0 0) 50)).drew w1.heap.size (payA nilV nilV 0 0 0)) := ⟨(Sb.new _ w1 _).keep (Below.refl _ _).drew⟩
  obtain ⟨w2, hw2⟩ : ∃ W, (w1.alloc (.cells (payA nilV nilV 0 0 0) 50)).drew = W := ⟨_, rfl⟩
  rw [hw2] at HC HS3 ⊢
  clear hw2 c0 c1 c2 c3
  obtain ⟨c0, c1, c2, c3⟩ := HF1.out.cellsF HC.out HG.out.1
  have HZ2 := Bx.mk (HZ1.out.below HC.out HG.out.2.1)
  have HB2 := Bx.mk (HBW.out.trans (HC.out.mono HBW.out.size))
  go_wp2_with (with_reducible refine wpList_storeP g2 _ none none 0 0 0 0 0 0 0 rfl rfl HZ2.out rfl ?_; intro w8 hs8 hg8; have HS8 := Bx.mk hs8; have HB8 := Bx.mk (HB2.out.grown hg8 HB2.out.size (fun k hk => by injection hk with hk; have := HG.out.2.2.1; omega)); clear hs8 hg8)
  exact bodyPost_ret (ret_S Try.results91 _ _ g2 50 (payA nilV nilV 0 0 0) _ _ rfl rfl HS8.out Try.underlying50 rfl pay_size) rfl ⟨rfl, HB8.out⟩
set_option maxRecDepth 100000 in
set_option maxHeartbeats 8000000 in
theorem rpad_1_40_ok (v : Value) (l : List UInt8) (p : Nat) (w : World) (hv : Bs w v l) (hl : l.length ≤ 1000000) (hA : 6 ≤ l.length) (hp : (l.headD 0).toNat = p) (hno : ¬ l.length - 6 < p) :
    Calls Try.prog 91 #[.agg (fraA 1 40 1 v)] w fun e w' => (∃ A n c, e = .returned (.tuple #[.agg (payA (.slice A n c) nilV 0 0 0), .int .i64 0]) ∧ OwB w' w.heap.size (.slice A n c) ((l.drop 6).take (l.length - 6 - p))) ∧ Below w.heap.size w w' := by
  have hp256 : p < 256 := by rw [← hp]; exact UInt8.toNat_lt _
  have HB1 : Bx (Below w.heap.size w ((w.alloc (.cells (fraA 1 40 1 v) 28)).alloc (.cells (payA nilV nilV 0 0 0) 50))) := ⟨((Below.refl _ _).alloc (Nat.le_refl _) _).alloc (by simp) _⟩
  have HF1 : Bx (Sb 28 ((w.alloc (.cells (fraA 1 40 1 v) 28)).alloc (.cells (payA nilV nilV 0 0 0) 50)) w.heap.size (fraA 1 40 1 v)) := ⟨(Sb.new _ w _).alloc _⟩
  have HZ1 : Bx (Sb 50 ((w.alloc (.cells (fraA 1 40 1 v) 28)).alloc (.cells (payA nilV nilV 0 0 0) 50)) (w.heap.size + 1) (payA nilV nilV 0 0 0)) := ⟨Sb.newg _ _ _ (by simp) _⟩
  have hl0 : 0 < l.length := by omega
  have hlen0 : ∀ (tr : TypeId) (W : World), (Builtin.len_ #[22] tr #[v]).run Try.prog W = .ok (.int .i64 (l.length : Int)) W := fun tr W => hv.run_len tr W
  obtain ⟨pa, hix0, hca0⟩ := hv.at_ 0 hl0
  have hix : ∀ W : World, (Instr.indexAt 22 v (.int .i64 0)).run Try.prog W = .ok (.pointer (some pa)) W := fun W => hix0 W
  obtain ⟨P, hP⟩ : ∃ P : Int, (p : Int) = P := ⟨_, rfl⟩
  have hca1 : w.cell? pa = some (.int .u8 P) := by
    rw [hca0 w hv, ← hP, ← hp]
    cases l with
    | nil => simp at hl0
    | cons c l => rfl
  have hplt : pa.block < w.heap.size := World.block_lt_of_cell? w pa hca1
  have HCA : Bx (∀ W, Below w.heap.size w W → W.cell? pa = some (.int .u8 P)) := ⟨fun W h => by rw [h.cell hplt]; exact hca1⟩
  have hwp2 : IntKind.i64.wrap P = P := by rw [IntKind.wrap_i64]; omega
  obtain ⟨v1, hsl1, hv1⟩ := hv.from_ 1 (by omega) (by omega)
  rw [show (1 : Int).toNat = 1 from rfl] at hv1
  have hlen1 : ∀ (tr : TypeId) (W : World), (Builtin.len_ #[22] tr #[v1]).run Try.prog W = .ok (.int .i64 ((l.length - 1 : Nat) : Int)) W := fun tr W => by have h := (hv1 w hv).run_len tr W; rwa [List.length_drop] at h
  obtain ⟨L0, hL0⟩ : ∃ L : Int, (l.length : Int) = L := ⟨_, rfl⟩
  obtain ⟨L1, hL1⟩ : ∃ L : Int, ((l.length - 1 : Nat) : Int) = L := ⟨_, rfl⟩
  rw [hL0] at hlen0
  rw [hL1] at hlen1
  have hb8 : bits .and .u8 40 8 = 8 := by decide
  have hb32 : bits .and .u8 40 32 = 32 := by decide
  have hd0 : decide (L0 < 1) = false := decide_eq_false (by omega)
  have hd1 : decide (L1 < 5) = false := decide_eq_false (by omega)
  obtain ⟨v2, hsl2, hv20⟩ := (hv1 w hv).from_ 5 (by omega) (by rw [List.length_drop]; omega)
  have hv2 : ∀ W : World, Bs W v l → Bs W v2 (l.drop 6) := fun W h => by have h2 := hv20 W (hv1 W h); rw [List.drop_drop] at h2; exact h2
  clear hv20
  have hlen2 : ∀ (tr : TypeId) (W : World), (Builtin.len_ #[22] tr #[v2]).run Try.prog W = .ok (.int .i64 ((l.length - 6 : Nat) : Int)) W := fun tr W => by have h := (hv2 w hv).run_len tr W; rwa [List.length_drop] at h
  obtain ⟨L2, hL2⟩ : ∃ L : Int, ((l.length - 6 : Nat) : Int) = L := ⟨_, rfl⟩
  rw [hL2] at hlen2
  have hgt : decide (L2 < P) = false := decide_eq_false (by omega)
  obtain ⟨E, hE⟩ : ∃ E : Int, L2 - P = E := ⟨_, rfl⟩
  have hs : wrap64 E = E := by unfold wrap64; omega
  obtain ⟨vm, hslm, hvm0⟩ := (hv2 w hv).upto E (by omega) (by rw [List.length_drop]; omega)
  have HVM : Bx (Bs w vm ((l.drop 6).take (l.length - 6 - p))) := ⟨by have h := hvm0 w (hv2 w hv); rwa [show E.toNat = l.length - 6 - p by omega] at h⟩
  have HDL : Bx (((l.drop 6).take (l.length - 6 - p)).length ≤ 1000000) := ⟨by rw [List.length_take, List.length_drop]; omega⟩
  obtain ⟨D, hD⟩ : ∃ D, (l.drop 6).take (l.length - 6 - p) = D := ⟨_, rfl⟩
  rw [hD] at HVM HDL ⊢
  clear hD hvm0
  clear hv1 hv2 hL2 hL0 hL1 hP hp hno hp256 hA hl0 hl hca0 hix0 hca1 hplt
  have HV := Bx.mk hv
  clear hv
  go_enter Try.func91, Try.ntmps91
  go_upto_region 1 with fail
  obtain ⟨w1, hw1⟩ : ∃ W, (w.alloc (.cells (fraA 1 40 1 v) 28)).alloc (.cells (payA nilV nilV 0 0 0) 50) = W := ⟨_, rfl⟩
  obtain ⟨g1, hg1⟩ : ∃ g, w.heap.size = g := ⟨_, rfl⟩
  obtain ⟨g2, hg2⟩ : ∃ g, w.heap.size + 1 = g := ⟨_, rfl⟩
  rw [hw1] at HB1 HF1 HZ1 ⊢
  have HBW := HB1
  rw [hg1] at HF1 ⊢
  rw [hg1, show g1 + 1 = g2 by omega] at HZ1
  rw [show g1 + 1 = g2 by omega]
  have HG : Bx (g1 < w1.heap.size ∧ g2 < w1.heap.size ∧ w.heap.size ≤ g2 ∧ w.heap.size ≤ w1.heap.size) := ⟨HF1.out.lt, HZ1.out.lt, by omega, HBW.out.size⟩
  obtain ⟨c0, c1, c2, c3⟩ := HF1.out.cellsF (Below.refl w1.heap.size w1) HG.out.1
  have hca := HCA.out w1 HBW.out
  clear hw1 hg1 hg2
  go_upto_region 6 with fail
  go_region
  go_upto_region 8 with fail
  have HC := Bx.mk (((Below.refl w1.heap.size w1).alloc (Nat.le_refl _) (.cells (payA nilV nilV 0 0 0) 50)).drew)
  have HS3 : Bx (Sb 50 (w1.alloc (.cells (payA nilV nilV 0 0 0) 50)).drew w1.heap.size (payA nilV nilV 0 0 0)) := ⟨(Sb.new _ w1 _).keep (Below.refl _ _).drew⟩
  obtain ⟨w2, hw2⟩ : ∃ W, (w1.alloc (.cells (payA nilV nilV 0 0 0) 50)).drew = W := ⟨_, rfl⟩
  rw [hw2] at HC HS3 ⊢
  clear hw2 c0 c1 c2 c3
  obtain ⟨c0, c1, c2, c3⟩ := HF1.out.cellsF HC.out HG.out.1
  have HZ2 := Bx.mk (HZ1.out.below HC.out HG.out.2.1)
  have HB2 := Bx.mk (HBW.out.trans (HC.out.mono HBW.out.size))
  go_upto_region 19 with fail
  obtain ⟨g3, hg3⟩ : ∃ g, w1.heap.size = g := ⟨_, rfl⟩
  rw [hg3] at HS3 ⊢
  have HG3 : Bx (g3 < w2.heap.size ∧ g2 ≠ g3 ∧ w.heap.size ≤ g3 ∧ w.heap.size ≤ w2.heap.size) := ⟨HS3.out.lt, by have := HG.out.2.1; omega, by have := HG.out.2.2.2; omega, HB2.out.size⟩
  clear hg3
  go_upto_region 20 with (at_builtin; refine wpList_append_ob rfl _ _ rfl w2.heap.size _ vm [] D rfl rfl (OwB.nil w2 w2.heap.size) (HVM.out.keep HB2.out) (by have := HDL.out; simp; omega) (Nat.le_refl _) ?_; intro u w4 hu b4; obtain ⟨A0, n0, cc0, rfl⟩ := hu.shape; have HU := Bx.mk hu; have HB4 := Bx.mk b4; have HS4 := Bx.mk (HS3.out.below b4 HG3.out.1); have k0 : w4.cell? ⟨g3, 0, none⟩ = some (.slice none 0 0) := HS4.out.cell 0; have f0 := HS4.out.free 0; clear hu b4)
  have HS5 : Bx (Sb 50 (w4.setCell ⟨g3, 0, none⟩ (.slice A0 n0 cc0)) g3 (payA (.slice A0 n0 cc0) nilV 0 0 0)) := ⟨HS4.out.set 0 (.slice A0 n0 cc0) (show 0 < 5 by decide)⟩
  have HU5 := Bx.mk (HU.out.grownO (grown_set w4 g3 0 (.slice A0 n0 cc0)) HG3.out.1)
  have HB5 := Bx.mk ((HB2.out.trans (HB4.out.mono HB2.out.size)).setCell (p := ⟨g3, 0, none⟩) HG3.out.2.2.1 (.slice A0 n0 cc0))
  have HZ5 := Bx.mk ((HZ2.out.below HB4.out HZ2.out.lt).fp (Sb.fpset (g := g3) 0 (.slice A0 n0 cc0) (fun k => k = g3) rfl) (fun h => HG3.out.2.1 h))
  obtain ⟨w5, hw5⟩ : ∃ W, w4.setCell ⟨g3, 0, none⟩ (.slice A0 n0 cc0) = W := ⟨_, rfl⟩
  rw [hw5] at HS5 HU5 HB5 HZ5 ⊢
  clear hw5 k0 f0
  go_wp2_with (first
    | (with_reducible refine wpList_loadPay g3 (.slice A0 n0 cc0) nilV 0 0 0 rfl HS5.out ?_)
    | (with_reducible refine wpList_storeP g2 _ A0 none n0 cc0 0 0 0 0 0 rfl rfl HZ5.out rfl ?_; intro w8 hs8 hg8; have HS8 := Bx.mk hs8; have HU8 := Bx.mk (HU5.out.grownO hg8 (by have := HG.out.2.1; have := HC.out.size; omega)); have HB8 := Bx.mk (HB5.out.grown hg8 HB5.out.size (fun k hk => by injection hk with hk; have := HG.out.2.2.1; omega)); clear hs8 hg8))
  exact bodyPost_ret (ret_S Try.results91 _ _ g2 50 (payA (.slice A0 n0 cc0) nilV 0 0 0) _ _ rfl rfl HS8.out Try.underlying50 rfl pay_size) rfl ⟨⟨_, _, _, rfl, HU8.out.mono HG3.out.2.2.2⟩, HB8.out⟩
end Go.Proofs.Ytenoaljghbpaaaa
