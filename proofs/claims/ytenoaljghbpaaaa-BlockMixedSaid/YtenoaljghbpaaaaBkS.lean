/-
  Blocks: what Split calls: cut, continuation, h2pay.Headers without padding.
-/
import Derived.Test.YtenoaljghbpaaaaBkR
namespace Go.Proofs.Ytenoaljghbpaaaa
open Go.RowKit
set_option linter.unusedVariables false
set_option linter.unusedSimpArgs false

theorem cut_any (v : Value) (l : List UInt8) (p : Nat) (w : World) (hv : Bs w v l) (hl : l.length ≤ 1000000) (hp : p ≤ 1000000) :
    Calls Try.prog 103 #[v, .int .i64 (p : Int)] w fun e w' => ∃ a b, e = .returned (.tuple #[a, b]) ∧ (∀ W, Bs W v l → Bs W a (l.take p) ∧ Bs W b (l.drop p)) ∧ Below w.heap.size w w' := by
  obtain ⟨L, hL⟩ : ∃ L, l.length = L := ⟨_, rfl⟩
  obtain ⟨m, hm⟩ : ∃ m, min p L = m := ⟨_, rfl⟩
  have hmi : min (p : Int) (L : Int) = (m : Int) := by omega
  have hlen := fun tr W => hv.run_len tr W
  rw [hL] at hlen
  obtain ⟨va, ra, ba⟩ := hv.upto (m : Int) (by omega) (by omega)
  obtain ⟨vb, rb, bb⟩ := hv.from_ (m : Int) (by omega) (by omega)
  have HA : Bx (∀ W, Bs W v l → Bs W va (l.take p) ∧ Bs W vb (l.drop p)) := ⟨fun W hW => by
    have h1 := ba W hW
    have h2 := bb W hW
    rw [Int.toNat_natCast] at h1 h2
    have e1 : l.take m = l.take p := by
      rcases Nat.le_total p L with h | h
      · rw [show m = p by omega]
      · rw [List.take_of_length_le (by omega), List.take_of_length_le (by omega)]
    have e2 : l.drop m = l.drop p := by
      rcases Nat.le_total p L with h | h
      · rw [show m = p by omega]
      · rw [List.drop_of_length_le (by omega), List.drop_of_length_le (by omega)]
    rw [e1] at h1
    rw [e2] at h2
    exact ⟨h1, h2⟩⟩
  clear ba bb hm hL hv hl hp
  go_enter Try.func103, Try.ntmps103
  go_upto_region 2 with fail
  go_quiet (fail)
  go_wp2_with fail
  go_ret2
  exact ⟨_, _, rfl, HA.out, below_drewN (Below.refl _ _) _⟩
set_option maxRecDepth 100000 in
set_option maxHeartbeats 4000000 in
theorem continuation_any (st : Int) (last : Bool) (v : Value) (l : List UInt8) (w : World) (hv : Bs w v l) (hl : l.length ≤ 1000000) :
    Calls Try.prog 105 #[.int .u32 st, .bool last, v] w fun e w' => ∃ A n c, e = .returned (.agg (fraA 9 (if last then 4 else 0) st (.slice A n c))) ∧ OwB w' w.heap.size (.slice A n c) l ∧ Below w.heap.size w w' := by
  have HV := Bx.mk (hv.keep ((Below.refl w.heap.size w).alloc (Nat.le_refl _) (.cells (fraA 0 0 0 nilV) 28)))
  have HB := Bx.mk ((Below.refl w.heap.size w).alloc (Nat.le_refl _) (.cells (fraA 0 0 0 nilV) 28))
  have HZ : Bx (Sb 28 (w.alloc (.cells (fraA 0 0 0 nilV) 28)) w.heap.size (fraA 0 0 0 nilV)) := ⟨Sb.new _ w _⟩
  have HLM := Bx.mk hl
  obtain ⟨F, hF⟩ : ∃ F : Int, (if last then 4 else 0) = F := ⟨_, rfl⟩
  rw [hF]
  have HF := Bx.mk hF
  clear hv hl hF
  go_enter Try.func105, Try.ntmps105
  go_upto_region 1 with fail
  obtain ⟨w1, hw1⟩ : ∃ W, w.alloc (.cells (fraA 0 0 0 nilV) 28) = W := ⟨_, rfl⟩
  obtain ⟨g1, hg1⟩ : ∃ g, w.heap.size = g := ⟨_, rfl⟩
  rw [hw1] at HV HB HZ ⊢
  have HBW := HB
  rw [hg1] at HZ ⊢
  have HG : Bx (g1 < w1.heap.size ∧ w.heap.size ≤ g1) := ⟨HZ.out.lt, by omega⟩
  clear hw1 hg1 HB
  go_upto_region 2 with (first
    | (at_builtin; refine wpList_append_ob rfl _ _ rfl w1.heap.size _ v [] l rfl rfl (OwB.nil w1 w1.heap.size) HV.out (by have := HLM.out; simp; omega) (Nat.le_refl _) ?_; intro u w2 h1 b1; obtain ⟨A0, n0, c0, hsh⟩ := h1.shape; subst hsh; rw [List.nil_append] at h1; have HU := Bx.mk h1; have HC := Bx.mk b1; have HZ2 := Bx.mk (HZ.out.below b1 HG.out.1); clear h1 b1))
  have HF2 : Bx (Sb 28 (w2.alloc (.cells (fraA 9 0 st (.slice A0 n0 c0)) 28)) w2.heap.size (fraA 9 0 st (.slice A0 n0 c0))) := ⟨Sb.new _ w2 _⟩
  have HZ3 := Bx.mk (HZ2.out.alloc (.cells (fraA 9 0 st (.slice A0 n0 c0)) 28))
  have HU3 := Bx.mk (HU.out.alloc (.cells (fraA 9 0 st (.slice A0 n0 c0)) 28))
  have HB3 := Bx.mk ((HBW.out.trans (HC.out.mono HBW.out.size)).alloc (HBW.out.trans (HC.out.mono HBW.out.size)).size (.cells (fraA 9 0 st (.slice A0 n0 c0)) 28))
  have HG3 : Bx (w1.heap.size ≤ w2.heap.size) := ⟨HC.out.size⟩
  obtain ⟨w3, hw3⟩ : ∃ W, w2.alloc (.cells (fraA 9 0 st (.slice A0 n0 c0)) 28) = W := ⟨_, rfl⟩
  obtain ⟨g2, hg2⟩ : ∃ g, w2.heap.size = g := ⟨_, rfl⟩
  rw [hw3] at HF2 HZ3 HU3 HB3 ⊢
  rw [hg2] at HF2 HG3 ⊢
  clear hw3 hg2 HZ HV HZ2 HU HC
  have HNE : Bx (some g2 ≠ Value.ownBlock (.slice A0 n0 c0)) := ⟨HU3.out.neSb HF2.out (by decide)⟩
  have HW := Bx.mk HBW.out.size
  cases last
  case' false =>
    have hf : F = 0 := by rw [← HF.out]; rfl
    subst hf
    go_upto_region 4 with fail
  case' true =>
    have hf : F = 4 := by rw [← HF.out]; rfl
    subst hf
    have c1 := HF2.out.cell 1
    have f1 := HF2.out.free 1
    simp only [List.getElem?_toArray, List.getElem?_cons_zero, List.getElem?_cons_succ] at c1
    go_upto_region 4 with fail
    replace HF2 : Bx (Sb 28 (w3.setCell ⟨g2, 1, none⟩ (.int .u8 4)) g2 (fraA 9 4 st (.slice A0 n0 c0))) := ⟨HF2.out.set 1 (.int .u8 4) (show 1 < 4 by decide)⟩
    replace HZ3 := Bx.mk (HZ3.out.grown (grown_set w3 g2 1 (.int .u8 4)) (fun h => by injection h with h; have := HG.out.1; have := HG3.out; omega))
    replace HU3 := Bx.mk (HU3.out.kept (w' := w3.setCell ⟨g2, 1, none⟩ (.int .u8 4)) fun k hk => (grown_set w3 g2 1 (.int .u8 4)).block k (HU3.out.lt hk) (fun h => HNE.out (by rw [hk, h])))
    replace HB3 := Bx.mk (HB3.out.setCell (p := ⟨g2, 1, none⟩) (by have := HG3.out; have := HG.out; have := HW.out; show w.heap.size ≤ g2; omega) (.int .u8 4))
    clear c1 f1
    obtain ⟨w4, hw4⟩ : ∃ W, w3.setCell ⟨g2, 1, none⟩ (.int .u8 4) = W := ⟨_, rfl⟩
    rw [hw4] at HF2 HZ3 HU3 HB3 ⊢
    clear hw4
  all_goals
    go_wp2_with (first
      | (with_reducible refine wpList_loadFra g2 9 _ st (.slice A0 n0 c0) rfl HF2.out ?_)
      | (with_reducible refine wpList_storeFra g1 _ 9 _ st A0 n0 c0 rfl rfl HZ3.out rfl ?_; intro w8 hs8 hg8; have HS8 := Bx.mk hs8; have HU8 := Bx.mk (HU3.out.grownO hg8 HG.out.1); have HB8 := Bx.mk (HB3.out.grown hg8 HB3.out.size (fun k hk => by injection hk with hk; have := HG.out.2; omega)); clear hs8 hg8))
    exact bodyPost_ret (ret_S1 Try.results105 _ _ g1 28 (fraA 9 _ st (.slice A0 n0 c0)) _ rfl HS8.out Try.underlying28 rfl fra_size) rfl ⟨A0, n0, c0, rfl, HU8.out.mono HW.out, HB8.out⟩
set_option maxRecDepth 100000 in
set_option maxHeartbeats 4000000 in
/-- A HEADERS frame without padding. -/
theorem headers_none (st : Int) (en last : Bool) (F : Int) (hF : bits .or .u8 (if en then 1 else 0) (if last then 4 else 0) = F) (v : Value) (l : List UInt8) (w : World) (hv : Bs w v l) (hl : l.length ≤ 1000000) :
    Calls Try.prog 104 #[.int .u32 st, .bool en, .bool last, .int .i64 (-1), v] w fun e w' => ∃ A n c, e = .returned (.agg (fraA 1 F st (.slice A n c))) ∧ OwB w' w.heap.size (.slice A n c) l ∧ Below w.heap.size w w' := by
  obtain ⟨E1, hE1⟩ : ∃ E : Int, (if en then 1 else 0) = E := ⟨_, rfl⟩
  obtain ⟨E2, hE2⟩ : ∃ E : Int, (if last then 4 else 0) = E := ⟨_, rfl⟩
  have HF1 := Bx.mk (fun W => flag_any en 1 W)
  have HF2 := Bx.mk (fun W => flag_any last 4 W)
  rw [hE1] at HF1 hF
  rw [hE2] at HF2 hF
  have HP := Bx.mk (fun W (h : Bs W v l) => padded_none 1 F st (-1) (by omega) v l W h hl)
  have HV := Bx.mk (hv.keep ((Below.refl w.heap.size w).alloc (Nat.le_refl _) (.cells (fraA 0 0 0 nilV) 28)))
  have HB := Bx.mk ((Below.refl w.heap.size w).alloc (Nat.le_refl _) (.cells (fraA 0 0 0 nilV) 28))
  have HZ : Bx (Sb 28 (w.alloc (.cells (fraA 0 0 0 nilV) 28)) w.heap.size (fraA 0 0 0 nilV)) := ⟨Sb.new _ w _⟩
  clear hv hE1 hE2 hl
  go_enter Try.func104, Try.ntmps104
  go_upto_region 1 with fail
  obtain ⟨w1, hw1⟩ : ∃ W, w.alloc (.cells (fraA 0 0 0 nilV) 28) = W := ⟨_, rfl⟩
  obtain ⟨g1, hg1⟩ : ∃ g, w.heap.size = g := ⟨_, rfl⟩
  rw [hw1] at HV HB HZ ⊢
  have HBW := HB
  rw [hg1] at HZ ⊢
  have HG : Bx (g1 < w1.heap.size ∧ w.heap.size ≤ g1) := ⟨HZ.out.lt, by omega⟩
  clear hw1 hg1 HB
  go_wp2_with (first
    | (go_at_call 109; first | (refine (HF1.out _).mono ?_; rintro e wf ⟨rfl, hwf⟩; subst hwf) | (refine (HF2.out _).mono ?_; rintro e wf ⟨rfl, hwf⟩; subst hwf))
    | (go_at_call 108; refine (HP.out _ HV.out).mono ?_; rintro e w5 ⟨A0, n0, cc0, rfl, hu, b5⟩; have HC := Bx.mk b5; have HU := Bx.mk hu; clear hu b5)
    | (with_reducible refine wpList_storeFra g1 _ 1 F st A0 n0 cc0 rfl rfl (HZ.out.below HC.out HG.out.1) rfl ?_; intro w8 hs8 hg8; have HS8 := Bx.mk hs8; have HU8 := Bx.mk (HU.out.grownO hg8 HG.out.1); have HB8 := Bx.mk ((HBW.out.trans (HC.out.mono HBW.out.size)).grown hg8 (HBW.out.trans (HC.out.mono HBW.out.size)).size (fun k hk => by injection hk with hk; have := HG.out.2; omega)); clear hs8 hg8))
  exact bodyPost_ret (ret_S1 Try.results104 _ _ g1 28 (fraA 1 F st (.slice A0 n0 cc0)) _ rfl HS8.out Try.underlying28 rfl fra_size) rfl ⟨A0, n0, cc0, rfl, HU8.out.mono HBW.out.size, HB8.out⟩
end Go.Proofs.Ytenoaljghbpaaaa
