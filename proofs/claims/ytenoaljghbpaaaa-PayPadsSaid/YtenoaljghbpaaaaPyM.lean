/-
  Payloads: the document's Pay, of DATA and HEADERS that are padded; two payloads compared.
-/
import Derived.Test.YtenoaljghbpaaaaPyL
import Derived.Test.YtenoaljghbpaaaaStpK
namespace Go.Proofs.Ytenoaljghbpaaaa
open Go.RowKit
set_option linter.unusedVariables false
set_option linter.unusedSimpArgs false

/-- What Pay hands back of padded data: its rule, its data. -/
def PdP (B : Nat) (R : Int) (D : List UInt8) (e : Ending) (w' : World) : Prop := ∃ A n c, e = .returned (.tuple #[.agg (payA (.slice A n c) nilV 0 0 0), .int .i64 R]) ∧ (R = 0 → OwB w' B (.slice A n c) D)
theorem PdP.mono {B B' : Nat} {R : Int} {D : List UInt8} {e : Ending} {w : World} (h : PdP B R D e w) (hB : B' ≤ B) : PdP B' R D e w := by
  obtain ⟨A, n, c, rfl, h⟩ := h
  exact ⟨A, n, c, rfl, fun h0 => (h h0).mono hB⟩
theorem rpad_0_8 (v : Value) (l : List UInt8) (p : Nat) (w : World) (hv : Bs w v l) (hl : l.length ≤ 1000000) (hA : 1 ≤ l.length) (hp : (l.headD 0).toNat = p) (R : Int) (hR : (if l.length - 1 < p then 6 else 0 : Int) = R) :
    Calls Try.prog 91 #[.agg (fraA 0 8 1 v)] w fun e w' => PdP w.heap.size R ((l.drop 1).take (l.length - 1 - p)) e w' ∧ Below w.heap.size w w' := by
  by_cases h : l.length - 1 < p
  · rw [if_pos h] at hR
    exact (rpad_0_8_no v l p w hv hl hA hp h).mono fun e w' ⟨h1, h2⟩ => ⟨⟨none, 0, 0, by rw [h1, ← hR], fun h0 => by omega⟩, h2⟩
  · rw [if_neg h] at hR
    exact (rpad_0_8_ok v l p w hv hl hA hp h).mono fun e w' ⟨⟨A, n, c, h1, h3⟩, h2⟩ => ⟨⟨A, n, c, by rw [h1, ← hR], fun _ => h3⟩, h2⟩
set_option maxRecDepth 100000 in
set_option maxHeartbeats 8000000 in
theorem rPay_0_8 (v : Value) (l : List UInt8) (p : Nat) (w : World) (hv : Bs w v l) (hl : l.length ≤ 1000000) (hA : 1 ≤ l.length) (hp : (l.headD 0).toNat = p) (R : Int) (hR : (if l.length - 1 < p then 6 else 0 : Int) = R) :
    Calls Try.prog 32 #[.agg (fraA 0 8 1 v)] w fun e w' => PdP w.heap.size R ((l.drop 1).take (l.length - 1 - p)) e w' ∧ Below w.heap.size w w' := by
  have HR := Bx.mk (fun W (h : Bs W v l) => rpad_0_8 v l p W h hl hA hp R hR)
  obtain ⟨D, hD⟩ : ∃ D, (l.drop 1).take (l.length - 1 - p) = D := ⟨_, rfl⟩
  rw [hD] at HR ⊢
  have HB1 : Bx (Below w.heap.size w ((w.alloc (.cells (fraA 0 8 1 v) 28)).alloc (.cells (payA nilV nilV 0 0 0) 50))) := ⟨((Below.refl _ _).alloc (Nat.le_refl _) _).alloc (by simp) _⟩
  have HF1 : Bx (Sb 28 ((w.alloc (.cells (fraA 0 8 1 v) 28)).alloc (.cells (payA nilV nilV 0 0 0) 50)) w.heap.size (fraA 0 8 1 v)) := ⟨(Sb.new _ w _).alloc _⟩
  have HZ1 : Bx (Sb 50 ((w.alloc (.cells (fraA 0 8 1 v) 28)).alloc (.cells (payA nilV nilV 0 0 0) 50)) (w.heap.size + 1) (payA nilV nilV 0 0 0)) := ⟨Sb.newg _ _ _ (by simp) _⟩
  have hlen0 : ∀ (tr : TypeId) (W : World), (Builtin.len_ #[22] tr #[v]).run Try.prog W = .ok (.int .i64 (l.length : Int)) W := fun tr W => hv.run_len tr W
  obtain ⟨L0, hL0⟩ : ∃ L : Int, (l.length : Int) = L := ⟨_, rfl⟩
  rw [hL0] at hlen0
  have HV := Bx.mk hv
  clear hv hl hA hp hR hD hL0
  go_enter Try.func32, Try.ntmps32
  go_upto_region 1 with fail
  obtain ⟨w1, hw1⟩ : ∃ W, (w.alloc (.cells (fraA 0 8 1 v) 28)).alloc (.cells (payA nilV nilV 0 0 0) 50) = W := ⟨_, rfl⟩
  obtain ⟨g1, hg1⟩ : ∃ g, w.heap.size = g := ⟨_, rfl⟩
  obtain ⟨g2, hg2⟩ : ∃ g, w.heap.size + 1 = g := ⟨_, rfl⟩
  rw [hw1] at HB1 HF1 HZ1 ⊢
  have HBW := HB1
  rw [hg1] at HF1 ⊢
  rw [hg1, show g1 + 1 = g2 by omega] at HZ1
  rw [show g1 + 1 = g2 by omega]
  have HG : Bx (g1 < w1.heap.size ∧ g2 < w1.heap.size ∧ w.heap.size ≤ g2 ∧ w.heap.size ≤ w1.heap.size) := ⟨HF1.out.lt, HZ1.out.lt, by omega, HBW.out.size⟩
  obtain ⟨c0, c1, c2, c3⟩ := HF1.out.cellsF (Below.refl w1.heap.size w1) HG.out.1
  clear hw1 hg1 hg2
  go_upto_region 18 with fail
  have HC := Bx.mk ((Below.refl w1.heap.size w1).alloc (Nat.le_refl _) (.cells (payA nilV nilV 0 0 0) 50))
  obtain ⟨w2, hw2⟩ : ∃ W, w1.alloc (.cells (payA nilV nilV 0 0 0) 50) = W := ⟨_, rfl⟩
  rw [hw2] at HC ⊢
  clear hw2 c0 c1 c2 c3
  obtain ⟨c0, c1, c2, c3⟩ := HF1.out.cellsF HC.out HG.out.1
  have HF2 := Bx.mk (HF1.out.below HC.out HG.out.1)
  have HZ2 := Bx.mk (HZ1.out.below HC.out HG.out.2.1)
  have HB2 := Bx.mk (HBW.out.trans (HC.out.mono HBW.out.size))
  have HV2 := Bx.mk (HV.out.keep HB2.out)
  have HS2 := Bx.mk HB2.out.size
  go_wp2_with (first
    | (with_reducible refine wpList_loadFra g1 0 8 1 v rfl HF2.out ?_)
    | (go_at_call 91; refine (HR.out _ HV2.out).mono ?_; rintro e w4 ⟨⟨A0, n0, cc0, rfl, hu⟩, b4⟩; have HU := Bx.mk hu; have HB4 := Bx.mk (HB2.out.trans (b4.mono HS2.out)); have HZ4 := Bx.mk (HZ2.out.below b4 HZ2.out.lt); have HGG := Bx.mk HZ2.out.lt; clear hu b4)
    | (with_reducible refine wpList_storeP g2 _ A0 none n0 cc0 0 0 0 0 0 rfl rfl HZ4.out rfl ?_; intro w8 hs8 hg8; have HS8 := Bx.mk hs8; have HU8 := Bx.mk (fun h0 => (HU.out h0).grownO hg8 HGG.out); have HB8 := Bx.mk (HB4.out.grown hg8 HB4.out.size (fun k hk => by injection hk with hk; have := HG.out.2.2.1; omega)); clear hs8 hg8))
  exact bodyPost_ret (ret_S Try.results32 _ _ g2 50 (payA (.slice A0 n0 cc0) nilV 0 0 0) _ _ rfl rfl HS8.out Try.underlying50 rfl pay_size) rfl ⟨⟨_, _, _, rfl, fun h0 => (HU8.out h0).mono HS2.out⟩, HB8.out⟩
theorem rpad_1_8 (v : Value) (l : List UInt8) (p : Nat) (w : World) (hv : Bs w v l) (hl : l.length ≤ 1000000) (hA : 1 ≤ l.length) (hp : (l.headD 0).toNat = p) (R : Int) (hR : (if l.length - 1 < p then 6 else 0 : Int) = R) :
    Calls Try.prog 91 #[.agg (fraA 1 8 1 v)] w fun e w' => PdP w.heap.size R ((l.drop 1).take (l.length - 1 - p)) e w' ∧ Below w.heap.size w w' := by
  by_cases h : l.length - 1 < p
  · rw [if_pos h] at hR
    exact (rpad_1_8_no v l p w hv hl hA hp h).mono fun e w' ⟨h1, h2⟩ => ⟨⟨none, 0, 0, by rw [h1, ← hR], fun h0 => by omega⟩, h2⟩
  · rw [if_neg h] at hR
    exact (rpad_1_8_ok v l p w hv hl hA hp h).mono fun e w' ⟨⟨A, n, c, h1, h3⟩, h2⟩ => ⟨⟨A, n, c, by rw [h1, ← hR], fun _ => h3⟩, h2⟩
set_option maxRecDepth 100000 in
set_option maxHeartbeats 8000000 in
theorem rPay_1_8 (v : Value) (l : List UInt8) (p : Nat) (w : World) (hv : Bs w v l) (hl : l.length ≤ 1000000) (hA : 1 ≤ l.length) (hp : (l.headD 0).toNat = p) (R : Int) (hR : (if l.length - 1 < p then 6 else 0 : Int) = R) :
    Calls Try.prog 32 #[.agg (fraA 1 8 1 v)] w fun e w' => PdP w.heap.size R ((l.drop 1).take (l.length - 1 - p)) e w' ∧ Below w.heap.size w w' := by
  have HR := Bx.mk (fun W (h : Bs W v l) => rpad_1_8 v l p W h hl hA hp R hR)
  obtain ⟨D, hD⟩ : ∃ D, (l.drop 1).take (l.length - 1 - p) = D := ⟨_, rfl⟩
  rw [hD] at HR ⊢
  have HB1 : Bx (Below w.heap.size w ((w.alloc (.cells (fraA 1 8 1 v) 28)).alloc (.cells (payA nilV nilV 0 0 0) 50))) := ⟨((Below.refl _ _).alloc (Nat.le_refl _) _).alloc (by simp) _⟩
  have HF1 : Bx (Sb 28 ((w.alloc (.cells (fraA 1 8 1 v) 28)).alloc (.cells (payA nilV nilV 0 0 0) 50)) w.heap.size (fraA 1 8 1 v)) := ⟨(Sb.new _ w _).alloc _⟩
  have HZ1 : Bx (Sb 50 ((w.alloc (.cells (fraA 1 8 1 v) 28)).alloc (.cells (payA nilV nilV 0 0 0) 50)) (w.heap.size + 1) (payA nilV nilV 0 0 0)) := ⟨Sb.newg _ _ _ (by simp) _⟩
  have hlen0 : ∀ (tr : TypeId) (W : World), (Builtin.len_ #[22] tr #[v]).run Try.prog W = .ok (.int .i64 (l.length : Int)) W := fun tr W => hv.run_len tr W
  obtain ⟨L0, hL0⟩ : ∃ L : Int, (l.length : Int) = L := ⟨_, rfl⟩
  rw [hL0] at hlen0
  have HV := Bx.mk hv
  clear hv hl hA hp hR hD hL0
  go_enter Try.func32, Try.ntmps32
  go_upto_region 1 with fail
  obtain ⟨w1, hw1⟩ : ∃ W, (w.alloc (.cells (fraA 1 8 1 v) 28)).alloc (.cells (payA nilV nilV 0 0 0) 50) = W := ⟨_, rfl⟩
  obtain ⟨g1, hg1⟩ : ∃ g, w.heap.size = g := ⟨_, rfl⟩
  obtain ⟨g2, hg2⟩ : ∃ g, w.heap.size + 1 = g := ⟨_, rfl⟩
  rw [hw1] at HB1 HF1 HZ1 ⊢
  have HBW := HB1
  rw [hg1] at HF1 ⊢
  rw [hg1, show g1 + 1 = g2 by omega] at HZ1
  rw [show g1 + 1 = g2 by omega]
  have HG : Bx (g1 < w1.heap.size ∧ g2 < w1.heap.size ∧ w.heap.size ≤ g2 ∧ w.heap.size ≤ w1.heap.size) := ⟨HF1.out.lt, HZ1.out.lt, by omega, HBW.out.size⟩
  obtain ⟨c0, c1, c2, c3⟩ := HF1.out.cellsF (Below.refl w1.heap.size w1) HG.out.1
  clear hw1 hg1 hg2
  go_upto_region 18 with fail
  have HC := Bx.mk ((Below.refl w1.heap.size w1).alloc (Nat.le_refl _) (.cells (payA nilV nilV 0 0 0) 50))
  obtain ⟨w2, hw2⟩ : ∃ W, w1.alloc (.cells (payA nilV nilV 0 0 0) 50) = W := ⟨_, rfl⟩
  rw [hw2] at HC ⊢
  clear hw2 c0 c1 c2 c3
  obtain ⟨c0, c1, c2, c3⟩ := HF1.out.cellsF HC.out HG.out.1
  have HF2 := Bx.mk (HF1.out.below HC.out HG.out.1)
  have HZ2 := Bx.mk (HZ1.out.below HC.out HG.out.2.1)
  have HB2 := Bx.mk (HBW.out.trans (HC.out.mono HBW.out.size))
  have HV2 := Bx.mk (HV.out.keep HB2.out)
  have HS2 := Bx.mk HB2.out.size
  go_wp2_with (first
    | (with_reducible refine wpList_loadFra g1 1 8 1 v rfl HF2.out ?_)
    | (go_at_call 91; refine (HR.out _ HV2.out).mono ?_; rintro e w4 ⟨⟨A0, n0, cc0, rfl, hu⟩, b4⟩; have HU := Bx.mk hu; have HB4 := Bx.mk (HB2.out.trans (b4.mono HS2.out)); have HZ4 := Bx.mk (HZ2.out.below b4 HZ2.out.lt); have HGG := Bx.mk HZ2.out.lt; clear hu b4)
    | (with_reducible refine wpList_storeP g2 _ A0 none n0 cc0 0 0 0 0 0 rfl rfl HZ4.out rfl ?_; intro w8 hs8 hg8; have HS8 := Bx.mk hs8; have HU8 := Bx.mk (fun h0 => (HU.out h0).grownO hg8 HGG.out); have HB8 := Bx.mk (HB4.out.grown hg8 HB4.out.size (fun k hk => by injection hk with hk; have := HG.out.2.2.1; omega)); clear hs8 hg8))
  exact bodyPost_ret (ret_S Try.results32 _ _ g2 50 (payA (.slice A0 n0 cc0) nilV 0 0 0) _ _ rfl rfl HS8.out Try.underlying50 rfl pay_size) rfl ⟨⟨_, _, _, rfl, fun h0 => (HU8.out h0).mono HS2.out⟩, HB8.out⟩
theorem rpad_1_40 (v : Value) (l : List UInt8) (p : Nat) (w : World) (hv : Bs w v l) (hl : l.length ≤ 1000000) (hA : 6 ≤ l.length) (hp : (l.headD 0).toNat = p) (R : Int) (hR : (if l.length - 6 < p then 6 else 0 : Int) = R) :
    Calls Try.prog 91 #[.agg (fraA 1 40 1 v)] w fun e w' => PdP w.heap.size R ((l.drop 6).take (l.length - 6 - p)) e w' ∧ Below w.heap.size w w' := by
  by_cases h : l.length - 6 < p
  · rw [if_pos h] at hR
    exact (rpad_1_40_no v l p w hv hl hA hp h).mono fun e w' ⟨h1, h2⟩ => ⟨⟨none, 0, 0, by rw [h1, ← hR], fun h0 => by omega⟩, h2⟩
  · rw [if_neg h] at hR
    exact (rpad_1_40_ok v l p w hv hl hA hp h).mono fun e w' ⟨⟨A, n, c, h1, h3⟩, h2⟩ => ⟨⟨A, n, c, by rw [h1, ← hR], fun _ => h3⟩, h2⟩
set_option maxRecDepth 100000 in
set_option maxHeartbeats 8000000 in
theorem rPay_1_40 (v : Value) (l : List UInt8) (p : Nat) (w : World) (hv : Bs w v l) (hl : l.length ≤ 1000000) (hA : 6 ≤ l.length) (hp : (l.headD 0).toNat = p) (R : Int) (hR : (if l.length - 6 < p then 6 else 0 : Int) = R) :
    Calls Try.prog 32 #[.agg (fraA 1 40 1 v)] w fun e w' => PdP w.heap.size R ((l.drop 6).take (l.length - 6 - p)) e w' ∧ Below w.heap.size w w' := by
  have HR := Bx.mk (fun W (h : Bs W v l) => rpad_1_40 v l p W h hl hA hp R hR)
  obtain ⟨D, hD⟩ : ∃ D, (l.drop 6).take (l.length - 6 - p) = D := ⟨_, rfl⟩
  rw [hD] at HR ⊢
  have HB1 : Bx (Below w.heap.size w ((w.alloc (.cells (fraA 1 40 1 v) 28)).alloc (.cells (payA nilV nilV 0 0 0) 50))) := ⟨((Below.refl _ _).alloc (Nat.le_refl _) _).alloc (by simp) _⟩
  have HF1 : Bx (Sb 28 ((w.alloc (.cells (fraA 1 40 1 v) 28)).alloc (.cells (payA nilV nilV 0 0 0) 50)) w.heap.size (fraA 1 40 1 v)) := ⟨(Sb.new _ w _).alloc _⟩
  have HZ1 : Bx (Sb 50 ((w.alloc (.cells (fraA 1 40 1 v) 28)).alloc (.cells (payA nilV nilV 0 0 0) 50)) (w.heap.size + 1) (payA nilV nilV 0 0 0)) := ⟨Sb.newg _ _ _ (by simp) _⟩
  have hlen0 : ∀ (tr : TypeId) (W : World), (Builtin.len_ #[22] tr #[v]).run Try.prog W = .ok (.int .i64 (l.length : Int)) W := fun tr W => hv.run_len tr W
  obtain ⟨L0, hL0⟩ : ∃ L : Int, (l.length : Int) = L := ⟨_, rfl⟩
  rw [hL0] at hlen0
  have HV := Bx.mk hv
  clear hv hl hA hp hR hD hL0
  go_enter Try.func32, Try.ntmps32
  go_upto_region 1 with fail
  obtain ⟨w1, hw1⟩ : ∃ W, (w.alloc (.cells (fraA 1 40 1 v) 28)).alloc (.cells (payA nilV nilV 0 0 0) 50) = W := ⟨_, rfl⟩
  obtain ⟨g1, hg1⟩ : ∃ g, w.heap.size = g := ⟨_, rfl⟩
  obtain ⟨g2, hg2⟩ : ∃ g, w.heap.size + 1 = g := ⟨_, rfl⟩
  rw [hw1] at HB1 HF1 HZ1 ⊢
  have HBW := HB1
  rw [hg1] at HF1 ⊢
  rw [hg1, show g1 + 1 = g2 by omega] at HZ1
  rw [show g1 + 1 = g2 by omega]
  have HG : Bx (g1 < w1.heap.size ∧ g2 < w1.heap.size ∧ w.heap.size ≤ g2 ∧ w.heap.size ≤ w1.heap.size) := ⟨HF1.out.lt, HZ1.out.lt, by omega, HBW.out.size⟩
  obtain ⟨c0, c1, c2, c3⟩ := HF1.out.cellsF (Below.refl w1.heap.size w1) HG.out.1
  clear hw1 hg1 hg2
  go_upto_region 18 with fail
  have HC := Bx.mk ((Below.refl w1.heap.size w1).alloc (Nat.le_refl _) (.cells (payA nilV nilV 0 0 0) 50))
  obtain ⟨w2, hw2⟩ : ∃ W, w1.alloc (.cells (payA nilV nilV 0 0 0) 50) = W := ⟨_, rfl⟩
  rw [hw2] at HC ⊢
  clear hw2 c0 c1 c2 c3
  obtain ⟨c0, c1, c2, c3⟩ := HF1.out.cellsF HC.out HG.out.1
  have HF2 := Bx.mk (HF1.out.below HC.out HG.out.1)
  have HZ2 := Bx.mk (HZ1.out.below HC.out HG.out.2.1)
  have HB2 := Bx.mk (HBW.out.trans (HC.out.mono HBW.out.size))
  have HV2 := Bx.mk (HV.out.keep HB2.out)
  have HS2 := Bx.mk HB2.out.size
  go_wp2_with (first
    | (with_reducible refine wpList_loadFra g1 1 40 1 v rfl HF2.out ?_)
    | (go_at_call 91; refine (HR.out _ HV2.out).mono ?_; rintro e w4 ⟨⟨A0, n0, cc0, rfl, hu⟩, b4⟩; have HU := Bx.mk hu; have HB4 := Bx.mk (HB2.out.trans (b4.mono HS2.out)); have HZ4 := Bx.mk (HZ2.out.below b4 HZ2.out.lt); have HGG := Bx.mk HZ2.out.lt; clear hu b4)
    | (with_reducible refine wpList_storeP g2 _ A0 none n0 cc0 0 0 0 0 0 rfl rfl HZ4.out rfl ?_; intro w8 hs8 hg8; have HS8 := Bx.mk hs8; have HU8 := Bx.mk (fun h0 => (HU.out h0).grownO hg8 HGG.out); have HB8 := Bx.mk (HB4.out.grown hg8 HB4.out.size (fun k hk => by injection hk with hk; have := HG.out.2.2.1; omega)); clear hs8 hg8))
  exact bodyPost_ret (ret_S Try.results32 _ _ g2 50 (payA (.slice A0 n0 cc0) nilV 0 0 0) _ _ rfl rfl HS8.out Try.underlying50 rfl pay_size) rfl ⟨⟨_, _, _, rfl, fun h0 => (HU8.out h0).mono HS2.out⟩, HB8.out⟩
set_option maxRecDepth 100000 in
set_option maxHeartbeats 8000000 in
/-- Two payloads of the same data, and of nothing else. -/
theorem helpPay_any (v u : Value) (D : List UInt8) (w : World) (hv : Bs w v D) (hu : Bs w u D) :
    Calls Try.prog 33 #[.agg (payA v nilV 0 0 0), .agg (payA u nilV 0 0 0)] w fun e w' => e = .returned (.bool true) ∧ Below w.heap.size w w' := by
  have HSE := Bx.mk (fun W => hSettings_any nilV nilV [] W (Rows.nil _ _ W) (Rows.nil _ _ W))
  have HB1 : Bx (Below w.heap.size w ((w.alloc (.cells (payA v nilV 0 0 0) 50)).alloc (.cells (payA u nilV 0 0 0) 50))) := ⟨((Below.refl _ _).alloc (Nat.le_refl _) _).alloc (by simp) _⟩
  have HF1 : Bx (Sb 50 ((w.alloc (.cells (payA v nilV 0 0 0) 50)).alloc (.cells (payA u nilV 0 0 0) 50)) w.heap.size (payA v nilV 0 0 0)) := ⟨(Sb.new _ w _).alloc _⟩
  have HZ1 : Bx (Sb 50 ((w.alloc (.cells (payA v nilV 0 0 0) 50)).alloc (.cells (payA u nilV 0 0 0) 50)) (w.heap.size + 1) (payA u nilV 0 0 0)) := ⟨Sb.newg _ _ _ (by simp) _⟩
  have HV := Bx.mk hv
  have HU := Bx.mk hu
  clear hv hu
  go_enter Try.func33, Try.ntmps33
  go_upto_region 1 with fail
  obtain ⟨w1, hw1⟩ : ∃ W, (w.alloc (.cells (payA v nilV 0 0 0) 50)).alloc (.cells (payA u nilV 0 0 0) 50) = W := ⟨_, rfl⟩
  obtain ⟨g1, hg1⟩ : ∃ g, w.heap.size = g := ⟨_, rfl⟩
  obtain ⟨g2, hg2⟩ : ∃ g, w.heap.size + 1 = g := ⟨_, rfl⟩
  rw [hw1] at HB1 HF1 HZ1 ⊢
  have HBW := HB1
  rw [hg1] at HF1 ⊢
  rw [hg1, show g1 + 1 = g2 by omega] at HZ1
  rw [show g1 + 1 = g2 by omega]
  have HG : Bx (g1 < w1.heap.size ∧ g2 < w1.heap.size) := ⟨HF1.out.lt, HZ1.out.lt⟩
  clear hw1 hg1 hg2
  have a0 : w1.cell? ⟨g1, 0, none⟩ = some v := HF1.out.cell 0
  have a1 : w1.cell? ⟨g1, 1, none⟩ = some (.slice none 0 0) := HF1.out.cell 1
  have b0 : w1.cell? ⟨g2, 0, none⟩ = some u := HZ1.out.cell 0
  have b1 : w1.cell? ⟨g2, 1, none⟩ = some (.slice none 0 0) := HZ1.out.cell 1
  have hcv := conv_str (HV.out.keep HBW.out)
  have hcu := conv_str (HU.out.keep HBW.out)
  go_wp2_with (go_at_call 37; refine (HSE.out _).mono ?_; rintro e w2 ⟨rfl, h2⟩; have HB2 := Bx.mk (HBW.out.trans (h2.mono HBW.out.size)); have a2 : w2.cell? ⟨g1, 2, none⟩ = some (.int .u32 0) := (HF1.out.below h2 HG.out.1).cell 2; have a3 : w2.cell? ⟨g1, 3, none⟩ = some (.int .u32 0) := (HF1.out.below h2 HG.out.1).cell 3; have a4 : w2.cell? ⟨g1, 4, none⟩ = some (.int .u32 0) := (HF1.out.below h2 HG.out.1).cell 4; have b2 : w2.cell? ⟨g2, 2, none⟩ = some (.int .u32 0) := (HZ1.out.below h2 HG.out.2).cell 2; have b3 : w2.cell? ⟨g2, 3, none⟩ = some (.int .u32 0) := (HZ1.out.below h2 HG.out.2).cell 3; have b4 : w2.cell? ⟨g2, 4, none⟩ = some (.int .u32 0) := (HZ1.out.below h2 HG.out.2).cell 4; clear h2)
  go_ret
  exact ⟨rfl, HB2.out⟩
end Go.Proofs.Ytenoaljghbpaaaa
