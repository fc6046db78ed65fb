/-
  Payloads: the program's Read, of any frame; frames of data made.
-/
import Derived.Test.YtenoaljghbpaaaaPyG
namespace Go.Proofs.Ytenoaljghbpaaaa
open Go.RowKit
set_option linter.unusedVariables false
set_option linter.unusedSimpArgs false

theorem pyRead_any (ty fl st : Nat) (v : Value) (l : List UInt8) (hty : ty < 256) (hfl : fl < 256) (hst : st < 4294967296) (w : World) (T F S : Int) (hT : (ty : Int) = T) (hF : (fl : Int) = F) (hS : (st : Int) = S) (hv : Bs w v l) (hl : l.length ≤ 1000000) :
    Calls Try.prog 31 #[.agg #[.int .u8 T, .int .u8 F, .int .u32 S, v]] w fun e w' => RdP w.heap.size ty fl st l e w' ∧ Below w.heap.size w w' := by
  by_cases hm : misN ty st = true
  · exact pyRead_mis ty fl st v l hty hfl hst w T F S hT hF hS hv hl hm
  have hm : misN ty st = false := by simpa using hm
  by_cases hs : sizN ty fl l.length = true
  · exact pyRead_siz ty fl st v l hty hfl hst w T F S hT hF hS hv hl hm hs
  have hs : sizN ty fl l.length = false := by simpa using hs
  by_cases h9 : 9 < ty
  · exact pyRead_none ty fl st v l hty hfl hst w T F S hT hF hS hv hl hm hs h9
  have h10 : ty = 0 ∨ ty = 1 ∨ ty = 2 ∨ ty = 3 ∨ ty = 4 ∨ ty = 5 ∨ ty = 6 ∨ ty = 7 ∨ ty = 8 ∨ ty = 9 := by omega
  rcases h10 with h | h | h | h | h | h | h | h | h | h
  · exact pyRead_p0 ty fl st v l hty hfl hst w T F S hT hF hS hv hl hm hs (.inl h) h
  · exact pyRead_p1 ty fl st v l hty hfl hst w T F S hT hF hS hv hl hm hs (.inr (.inl h)) h
  · exact pyRead_c2 ty fl st v l hty hfl hst w T F S hT hF hS hv hl hm hs h
  · exact pyRead_c3 ty fl st v l hty hfl hst w T F S hT hF hS hv hl hm hs h
  · exact pyRead_c4 ty fl st v l hty hfl hst w T F S hT hF hS hv hl hm hs h
  · exact pyRead_p5 ty fl st v l hty hfl hst w T F S hT hF hS hv hl hm hs (.inr (.inr h)) h
  · exact pyRead_c6 ty fl st v l hty hfl hst w T F S hT hF hS hv hl hm hs h
  · exact pyRead_c7 ty fl st v l hty hfl hst w T F S hT hF hS hv hl hm hs h
  · exact pyRead_c8 ty fl st v l hty hfl hst w T F S hT hF hS hv hl hm hs h
  · exact pyRead_c9 ty fl st v l hty hfl hst w T F S hT hF hS hv hl hm hs h
/-- A frame of the program's, in a value. -/
abbrev fraA (T F S : Int) (v : Value) : Array Value := #[.int .u8 T, .int .u8 F, .int .u32 S, v]
theorem fra_size : (Try.prog.info? 28).map (·.size) = some 4 := by kernel_rfl
section
variable {ops : Array Oper} {Q : Exit → Act → World → Prop} {a : Act} {w : World} {rest : List Oper}
/-- A store of a whole frame. -/
theorem wpList_storeFra {x y : Operand} {tr : TypeId} {pos : String} {af : Array Edge} (g : Nat) (old : Array Value) (T F S : Int) (A1 : Option Addr) (n1 c1 : Nat)
    (hx : a.eval x = .pointer (some ⟨g, 0, none⟩)) (hy : a.eval y = .agg (fraA T F S (.slice A1 n1 c1))) (hs : Sb 28 w g old) (ho : old.size = 4)
    (h : ∀ w2, Sb 28 w2 g (fraA T F S (.slice A1 n1 c1)) → w.grownBy w2 (some g) → wpList Try.prog ops Q rest (a.put none undef) w2) :
    wpList Try.prog ops Q (⟨none, .store 28 x y, tr, pos, af, none⟩ :: rest) a w :=
  wpList_storeS 28 g old (fraA T F S (.slice A1 n1 c1)) hx hy hs fra_size ho (by simp [fraA, Value.oneCell']) h
theorem wpList_loadFra {x : Operand} {d : Option Tmp} {tr : TypeId} {pos : String} {af : Array Edge} (g : Nat) (T F S : Int) (v : Value)
    (hx : a.eval x = .pointer (some ⟨g, 0, none⟩)) (hs : Sb 28 w g (fraA T F S v))
    (h : wpList Try.prog ops Q rest (a.put d (.agg (fraA T F S v))) w) : wpList Try.prog ops Q (⟨d, .load 28 x, tr, pos, af, none⟩ :: rest) a w :=
  wpList_loadS 28 g (fraA T F S v) _ hx hs Try.underlying28 rfl fra_size h
end
set_option maxRecDepth 100000 in
set_option maxHeartbeats 4000000 in
/-- No padding. -/
theorem padded_none (T F S p : Int) (hp : p < 0) (v : Value) (l : List UInt8) (w : World) (hv : Bs w v l) (hl : l.length ≤ 1000000) :
    Calls Try.prog 108 #[.agg (fraA T F S nilV), .int .i64 p, v] w fun e w' => ∃ A n c, e = .returned (.agg (fraA T F S (.slice A n c))) ∧ OwB w' w.heap.size (.slice A n c) l ∧ Below w.heap.size w w' := by
  have hd : decide (p < 0) = true := decide_eq_true hp
  have HB1 : Bx (Below w.heap.size w ((w.alloc (.cells (fraA T F S nilV) 28)).alloc (.cells (fraA 0 0 0 nilV) 28))) := ⟨((Below.refl _ _).alloc (Nat.le_refl _) _).alloc (by simp) _⟩
  have HF1 : Bx (Sb 28 ((w.alloc (.cells (fraA T F S nilV) 28)).alloc (.cells (fraA 0 0 0 nilV) 28)) w.heap.size (fraA T F S nilV)) := ⟨(Sb.new _ w _).alloc _⟩
  have HZ1 : Bx (Sb 28 ((w.alloc (.cells (fraA T F S nilV) 28)).alloc (.cells (fraA 0 0 0 nilV) 28)) (w.heap.size + 1) (fraA 0 0 0 nilV)) := ⟨Sb.newg _ _ _ (by simp) _⟩
  have HV := Bx.mk (hv.keep HB1.out)
  have HLM := Bx.mk hl
  clear hv hl hp
  go_enter Try.func108, Try.ntmps108
  go_upto_region 1 with fail
  obtain ⟨w1, hw1⟩ : ∃ W, (w.alloc (.cells (fraA T F S nilV) 28)).alloc (.cells (fraA 0 0 0 nilV) 28) = W := ⟨_, rfl⟩
  obtain ⟨g1, hg1⟩ : ∃ g, w.heap.size = g := ⟨_, rfl⟩
  obtain ⟨g2, hg2⟩ : ∃ g, w.heap.size + 1 = g := ⟨_, rfl⟩
  rw [hw1] at HB1 HF1 HZ1 HV ⊢
  have HBW := HB1
  rw [hg1] at HF1 ⊢
  rw [hg1, show g1 + 1 = g2 by omega] at HZ1
  rw [show g1 + 1 = g2 by omega]
  have HG : Bx (g1 < w1.heap.size ∧ g2 < w1.heap.size ∧ w.heap.size ≤ g2 ∧ w.heap.size ≤ g1 ∧ g1 ≠ g2) := ⟨HF1.out.lt, HZ1.out.lt, by omega, by omega, by omega⟩
  clear hw1 hg1 hg2
  go_upto_region 3 with (go_at_call 85; refine (clone_any w1.heap.size v l _ HV.out (Nat.le_refl _) HLM.out).mono ?_; rintro e w5 ⟨u, rfl, hu, b5⟩; obtain ⟨A0, n0, cc0, rfl⟩ := hu.shape; have HC := Bx.mk b5; have hf3 := (HF1.out.below b5 HG.out.1).free 3; have hc3 := (HF1.out.below b5 HG.out.1).cell 3; simp only [List.getElem?_toArray, List.getElem?_cons_zero, List.getElem?_cons_succ] at hc3; have HU := Bx.mk hu; clear hu b5)
  have HF3 := Bx.mk ((HF1.out.below HC.out HG.out.1).set 3 (.slice A0 n0 cc0) (show 3 < 4 by decide))
  have HZ3 := Bx.mk ((HZ1.out.below HC.out HG.out.2.1).fp (Sb.fpset (g := g1) 3 (.slice A0 n0 cc0) (fun k => k = g1) rfl) (fun h => HG.out.2.2.2.2 h.symm))
  have HU3 := Bx.mk (HU.out.grownO (grown_set w5 g1 3 (.slice A0 n0 cc0)) HG.out.1)
  have HB3 := Bx.mk ((HBW.out.trans (HC.out.mono HBW.out.size)).setCell (p := ⟨g1, 3, none⟩) HG.out.2.2.2.1 (.slice A0 n0 cc0))
  obtain ⟨w7, hw7⟩ : ∃ W, w5.setCell ⟨g1, 3, none⟩ (.slice A0 n0 cc0) = W := ⟨_, rfl⟩
  rw [hw7] at HF3 HZ3 HU3 HB3 ⊢
  have HF4 : Bx (Sb 28 w7 g1 (fraA T F S (.slice A0 n0 cc0))) := HF3
  have HW := Bx.mk HBW.out.size
  clear hw7 hf3 hc3 HF1 HZ1 HU HF3
  go_wp2_with (first
    | (with_reducible refine wpList_loadFra g1 T F S (.slice A0 n0 cc0) rfl HF4.out ?_)
    | (with_reducible refine wpList_storeFra g2 _ T F S A0 n0 cc0 rfl rfl HZ3.out rfl ?_; intro w8 hs8 hg8; have HS8 := Bx.mk hs8; have HU8 := Bx.mk (HU3.out.grownO hg8 HG.out.2.1); have HB8 := Bx.mk (HB3.out.grown hg8 HB3.out.size (fun k hk => by injection hk with hk; have := HG.out.2.2.1; omega)); clear hs8 hg8))
  exact bodyPost_ret (ret_S1 Try.results108 _ _ g2 28 (fraA T F S (.slice A0 n0 cc0)) _ rfl HS8.out Try.underlying28 rfl fra_size) rfl ⟨A0, n0, cc0, rfl, HU8.out.mono HW.out, HB8.out⟩
end Go.Proofs.Ytenoaljghbpaaaa
