/-
  Blocks: the document's Split.
-/
import Derived.Test.YtenoaljghbpaaaaBkT
namespace Go.Proofs.Ytenoaljghbpaaaa
open Go.RowKit
set_option linter.unusedVariables false
set_option linter.unusedSimpArgs false

set_option maxRecDepth 100000 in
set_option maxHeartbeats 8000000 in
theorem refSplit_any (st : Nat) (S : Int) (hS : (st : Int) = S) (en : Bool) (p : Nat) (hp1 : 1 ≤ p) (hp2 : p ≤ 16384) (P : Int) (hP3 : P = (p : Int)) (v : Value) (b : List UInt8) (w : World) (hv : Bs w v b) (hb : b.length ≤ 100000) :
    Calls Try.prog 72 #[.int .u32 S, .bool en, v, .int .i64 P] w (SplitPost w st en p b) := by
  have HV := Bx.mk hv
  have HB := Bx.mk hb
  have HP := Bx.mk (And.intro hp1 hp2)
  have HS := Bx.mk hS
  have HPP : Bx ((p : Int) = P) := ⟨hP3.symm⟩
  have hd1 : decide (P < 1) = false := decide_eq_false (by omega)
  have hd2 : decide (16384 < P) = false := decide_eq_false (by omega)
  have e01 : bits .or .u8 0 1 = 1 := by decide
  clear hS hv hb hP3 hp1 hp2
  go_enter Try.func72, Try.ntmps72
  go_upto_region 5 with fail
  go_loopg [2, 9, 10] (b.length + 1) (fun g s2 s9 s10 wx => ∃ (l : List Frm) (A : Option Addr) (n c : Nat) (fb : Bool), s9 = .slice A n c ∧ s10 = .bool fb ∧ g = b.length - l.length * p + (if fb = true then 1 else 0) ∧ Bx (fb = decide (l.length = 0)) ∧ Bx (∀ W, Below w.heap.size w W → Bs W s2 (b.drop (l.length * p))) ∧ Bx (OwF wx w.heap.size s9 l) ∧ Bx (SplF st en p b l) ∧ Bx (∀ i, 0 < i → i < l.length → i * p < b.length) ∧ Bx (Below w.heap.size w wx))
  case atStart => exact ⟨[], none, 0, 0, true, rfl, rfl, by simp, ⟨rfl⟩, ⟨fun W hW => by rw [List.length_nil, Nat.zero_mul, List.drop_zero]; exact HV.out.keep hW⟩, ⟨OwF.nil _ _⟩, ⟨fun i hi => by simp at hi⟩, ⟨fun i h1 h2 => by simp at h2⟩, ⟨Below.refl _ _⟩⟩
  case round =>
    obtain ⟨l, Al, nl, cl, fb, rfl, rfl, hgl, HFB, HR, HO, HSP, HI, HK⟩ := hrel
    have HR0 := Bx.mk (HR.out wr HK.out)
    obtain ⟨R, hR⟩ : ∃ R : Nat, b.length - l.length * p = R := ⟨_, rfl⟩
    have hlenr : ∀ (tr : TypeId) (W : World), (Builtin.len_ #[22] tr #[_]).run Try.prog W = .ok (.int .i64 (R : Int)) W := fun tr W => by
      have h := HR0.out.run_len tr W
      rw [List.length_drop, hR] at h
      exact h
    rw [hR] at hgl
    have HG := Bx.mk hgl
    have HRR := Bx.mk hR
    by_cases hg0 : gk = 0
    · have hfb : fb = false := by cases fb with | false => rfl | true => simp at hgl; omega
      subst hfb
      have hR0 : R = 0 := by simp at hgl; omega
      subst hR0
      clear hgl hg0 hR
      go_wp2_with fail
      go_ret
      have h0 : 0 < l.length := by
        have h1 := HFB.out
        rcases Nat.eq_zero_or_pos l.length with h | h
        · rw [h] at h1; simp at h1
        · exact h
      exact ⟨_, l, rfl, HO.out, HSP.out, h0, by have := HRR.out; omega, HI.out, HK.out⟩
    · have HGO : Bx (0 < R ∨ fb = true) := ⟨by cases fb with | true => exact .inr rfl | false => left; simp at hgl; omega⟩
      obtain ⟨m, hm⟩ : ∃ m, min p R = m := ⟨_, rfl⟩
      have hmi : min P (R : Int) = (m : Int) := by have := HPP.out; omega
      obtain ⟨va, ra, ba⟩ := HR0.out.upto (m : Int) (by omega) (by rw [List.length_drop, hR]; omega)
      obtain ⟨vb, rb, bb⟩ := HR0.out.from_ (m : Int) (by omega) (by rw [List.length_drop, hR]; omega)
      obtain ⟨rest, hrest⟩ : ∃ r, b.drop (l.length * p) = r := ⟨_, rfl⟩
      rw [hrest] at ba bb HR HR0
      have HREST := Bx.mk hrest
      have HRL : Bx (rest.length = R) := ⟨by rw [← hrest, List.length_drop, hR]⟩
      have HAB : Bx (∀ W, Bs W _ rest → Bs W va (rest.take p) ∧ Bs W vb (rest.drop p)) := ⟨fun W hW => by
        have h1 := ba W hW
        have h2 := bb W hW
        rw [Int.toNat_natCast] at h1 h2
        have hrl := HRL.out
        have e1 : rest.take m = rest.take p := by
          rcases Nat.le_total p R with h | h
          · rw [show m = p by omega]
          · rw [List.take_of_length_le (by omega), List.take_of_length_le (by omega)]
        have e2 : rest.drop m = rest.drop p := by
          rcases Nat.le_total p R with h | h
          · rw [show m = p by omega]
          · rw [List.drop_of_length_le (by omega), List.drop_of_length_le (by omega)]
        rw [e1] at h1
        rw [e2] at h2
        exact ⟨h1, h2⟩⟩
      have HVA := Bx.mk (HAB.out wr HR0.out).1
      have HTL : Bx ((rest.take p).length ≤ 1000000) := ⟨by rw [List.length_take, HRL.out, ← hR]; have := HB.out; omega⟩
      have HLL : Bx (l.length ≤ 100000) := ⟨by
        rcases Nat.eq_zero_or_pos l.length with h | h
        · omega
        · have h1 : 0 < R := by
            rcases HGO.out with h2 | h2
            · exact h2
            · have h4 := HFB.out; rw [h2] at h4; have h5 := of_decide_eq_true h4.symm; omega
          have h3 := Nat.mul_le_mul_left l.length HP.out.1
          have := HB.out
          omega⟩
      have HLT : Bx (¬ l.length = 0 → l.length * p < b.length) := ⟨fun h => by
        have h1 : 0 < R := by
          rcases HGO.out with h2 | h2
          · exact h2
          · have h4 := HFB.out; rw [h2] at h4; exact absurd (of_decide_eq_true h4.symm) h
        omega⟩
      obtain ⟨T5, hT5⟩ : ∃ T, rest.take p = T := ⟨_, rfl⟩
      have HT5 := Bx.mk hT5
      rw [hT5] at HVA HTL
      have hdR : fb = false → decide ((0 : Int) < (R : Int)) = true ∧ decide (0 < R) = true := fun h => by
        rcases HGO.out with h2 | h2
        · exact ⟨decide_eq_true (by omega), decide_eq_true h2⟩
        · rw [h] at h2; cases h2
      clear hgl hg0 hm ba bb hT5 hrest hR
      cases fb
      case' false =>
        have hd3 := (hdR rfl).1
        have hd4 := (hdR rfl).2
        clear hdR
        go_upto_region 9 with (at_builtin; refine wpList_append_ob rfl _ _ rfl wr.heap.size _ va [] T5 rfl rfl (OwB.nil wr wr.heap.size) HVA.out (by have := HTL.out; simp; omega) (Nat.le_refl _) ?_; intro u w2 h1 b1; obtain ⟨A0, n0, c0, hsh⟩ := h1.shape; subst hsh; rw [List.nil_append] at h1; have HU := Bx.mk (h1.mono HK.out.size); have HC := Bx.mk b1; clear h1 b1)
        have HF2 : Bx (Sb 28 (w2.alloc (.cells (fraA 9 0 S (.slice A0 n0 c0)) 28)) w2.heap.size (fraA 9 0 S (.slice A0 n0 c0))) := ⟨Sb.new _ w2 _⟩
        have HU3 := Bx.mk (HU.out.alloc (.cells (fraA 9 0 S (.slice A0 n0 c0)) 28))
        have HC3 := Bx.mk (HC.out.alloc HC.out.size (.cells (fraA 9 0 S (.slice A0 n0 c0)) 28))
        have HG2 : Bx (wr.heap.size ≤ w2.heap.size) := ⟨HC.out.size⟩
        obtain ⟨w3, hw3⟩ : ∃ W, w2.alloc (.cells (fraA 9 0 S (.slice A0 n0 c0)) 28) = W := ⟨_, rfl⟩
        obtain ⟨g2, hg2⟩ : ∃ g, w2.heap.size = g := ⟨_, rfl⟩
        rw [hw3] at HF2 HU3 HC3 ⊢
        rw [hg2] at HF2 HG2 ⊢
        clear hw3 hg2 HU HC
        have HNE : Bx (some g2 ≠ Value.ownBlock (.slice A0 n0 c0)) := ⟨HU3.out.neSb HF2.out (by decide)⟩
        have HSET : Bx (∀ (W : World) (i : Nat) (x : Value), OwB W w.heap.size (.slice A0 n0 c0) T5 → Below wr.heap.size wr W → OwB (W.setCell ⟨g2, i, none⟩ x) w.heap.size (.slice A0 n0 c0) T5 ∧ Below wr.heap.size wr (W.setCell ⟨g2, i, none⟩ x)) := ⟨fun W i x h1 h2 => ⟨h1.kept (w' := W.setCell ⟨g2, i, none⟩ x) fun k hk => (grown_set W g2 i x).block k (h1.lt hk) (fun h => HNE.out (by rw [hk, h])), h2.setCell (p := ⟨g2, i, none⟩) HG2.out x⟩⟩
        go_upto_region 13 with fail
        have hpk : ∃ (T0 F0 : Nat), Bx (Sb 28 w3 g2 (fraA (T0 : Int) (F0 : Int) S (.slice A0 n0 c0))) ∧ T0 = (if l.length = 0 then 1 else 9) ∧ F0 = (if l.length = 0 ∧ en = true then 1 else 0) ∧ (F0 = 0 ∨ F0 = 1) := ⟨9, 0, HF2, by rw [if_neg (of_decide_eq_false HFB.out.symm)], by rw [if_neg (fun h => of_decide_eq_false HFB.out.symm h.1)], by omega⟩
        obtain ⟨T0, F0, HF3, hT0, hF0, hF01⟩ := hpk
        have HT0 := Bx.mk hT0
        have HF0 := Bx.mk hF0
        obtain ⟨F4, hF4⟩ : ∃ F4 : Nat, F0 + 4 = F4 := ⟨_, rfl⟩
        have hor : bits .or .u8 (F0 : Int) 4 = (F4 : Int) := by rcases hF01 with h | h <;> subst h <;> subst hF4 <;> decide
        have HF4 := Bx.mk hF4
        clear hF4 hT0 hF0 hF01 HF2
        obtain ⟨R2, hR2⟩ : ∃ R : Nat, (rest.drop p).length = R := ⟨_, rfl⟩
        have hlen2 : ∀ (tr : TypeId) (W : World), (Builtin.len_ #[22] tr #[vb]).run Try.prog W = .ok (.int .i64 (R2 : Int)) W := fun tr W => by
          have h := (HAB.out _ HR0.out).2.run_len tr W
          rw [hR2] at h
          exact h
        have HR2 : Bx (R2 = b.length - (l.length + 1) * p) := ⟨by rw [← hR2, List.length_drop, HRL.out, Nat.succ_mul]; have := HRR.out; omega⟩
        obtain ⟨z2, hz2⟩ : ∃ z : Bool, ((R2 : Int) == 0) = z := ⟨_, rfl⟩
        have HZ2 : Bx (z2 = decide (b.length ≤ (l.length + 1) * p)) := ⟨by
          have := HR2.out
          rw [← hz2, Bool.eq_iff_iff, beq_iff_eq, decide_eq_true_iff]
          omega⟩
        clear hR2
        cases z2
        case' false =>
          go_upto_region 16 with fail
          obtain ⟨FN, hFN⟩ : ∃ FN : Nat, F0 = FN := ⟨_, rfl⟩
          rw [hFN] at HF3
          have HFN : Bx (FN = (if b.length ≤ (l.length + 1) * p then 4 else 0) + F0) := ⟨by rw [← hFN]; rw [if_neg (of_decide_eq_false HZ2.out.symm)]; omega⟩
          clear hFN
          have HO3 := Bx.mk (HO.out.keep HC3.out)
          have HB3 := Bx.mk (HK.out.trans (HC3.out.mono HK.out.size))
          have HO6 := Bx.mk (HO3.out.keep ((Below.refl w3.heap.size w3).alloc (Nat.le_refl _) (.cells (fraA (T0 : Int) (FN : Int) S (.slice A0 n0 c0)) 28)))
          have HU6 := Bx.mk (HU3.out.alloc (.cells (fraA (T0 : Int) (FN : Int) S (.slice A0 n0 c0)) 28))
          have HB6 := Bx.mk (HB3.out.alloc HB3.out.size (.cells (fraA (T0 : Int) (FN : Int) S (.slice A0 n0 c0)) 28))
          have HS6 : Bx (Sb 28 (w3.alloc (.cells (fraA (T0 : Int) (FN : Int) S (.slice A0 n0 c0)) 28)) w3.heap.size (frA ⟨T0, FN, st, .slice A0 n0 c0, T5⟩)) := ⟨by rw [← HS.out]; exact Sb.new _ _ _⟩
          go_wp2_with (first
            | (with_reducible refine wpList_loadFra g2 _ _ S (.slice A0 n0 c0) rfl HF3.out ?_)
            | (at_builtin; obtain ⟨v7, w7, hr7, o7, g7⟩ := run_frames_own _ 23 w.heap.size _ l ⟨T0, FN, st, .slice A0 n0 c0, T5⟩ w3.heap.size HO6.out HU6.out HS6.out HLL.out HB6.out.size; refine Lib.wpList_append_run _ rfl _ _ _ _ rfl _ _ rfl rfl _ _ hr7 ?_; have HO7 := Bx.mk o7; have HB7 := Bx.mk (HB6.out.grown g7 HB6.out.size (fun k hk => HO6.out.ge hk)); clear hr7 o7 g7; obtain ⟨A7, n7, c7, hsh⟩ := HO7.out.shape; subst hsh))
          go_roundg R2
          case measure => have := HR2.out; have := HG.out; have := HP.out.1; have := HGO.out; have := HRR.out; simp only [Nat.succ_mul, if_pos, Bool.false_eq_true, if_false, false_or, or_false] at *; omega
          case rel =>
            refine ⟨l ++ [⟨T0, FN, st, .slice A0 n0 c0, T5⟩], A7, n7, c7, false, rfl, rfl, by rw [List.length_append]; exact HR2.out, ⟨by simp⟩, ⟨fun W hW => ?_⟩, HO7, ⟨?_⟩, ⟨?_⟩, HB7⟩
            · rw [List.length_append, List.length_singleton, Nat.succ_mul, ← List.drop_drop, HREST.out]
              exact (HAB.out W (HR.out W hW)).2
            · exact SplF.snoc HSP.out HT0.out (HFN.out.trans (congrArg (fun z => (if b.length ≤ (l.length + 1) * p then 4 else 0) + z) (HF0.out.trans (by simp)))) rfl (by rw [HREST.out]; exact HT5.out.symm)
            · intro i h1 h2
              rw [List.length_append, List.length_singleton] at h2
              by_cases h3 : i < l.length
              · exact HI.out i h1 h3
              · have hll : 0 < l.length := by omega
                have h4 : ¬ l.length = 0 := by omega
                rw [show i = l.length by omega]
                have := HLT.out h4
                omega

        case' true =>
          have f1 := HF3.out.free 1
          have c1' := HF3.out.cell 1
          simp only [List.getElem?_toArray, List.getElem?_cons_zero, List.getElem?_cons_succ] at c1'
          go_upto_region 16 with fail
          have HF5 : Bx (Sb 28 (w3.setCell ⟨g2, 1, none⟩ (.int .u8 (F4 : Int))) g2 (fraA (T0 : Int) (F4 : Int) S (.slice A0 n0 c0))) := ⟨HF3.out.set 1 (.int .u8 (F4 : Int)) (show 1 < 4 by decide)⟩
          have hs := HSET.out w3 1 (.int .u8 (F4 : Int)) HU3.out HC3.out
          replace HU3 := Bx.mk hs.1
          replace HC3 := Bx.mk hs.2
          clear hs f1 c1' HF3
          obtain ⟨w6, hw3⟩ : ∃ W, w3.setCell ⟨g2, 1, none⟩ (.int .u8 (F4 : Int)) = W := ⟨_, rfl⟩
          rw [hw3] at HF5 HU3 HC3 ⊢
          clear hw3
          have HF3 := HF5
          obtain ⟨FN, hFN⟩ : ∃ FN : Nat, F4 = FN := ⟨_, rfl⟩
          rw [hFN] at HF3
          have HFN : Bx (FN = (if b.length ≤ (l.length + 1) * p then 4 else 0) + F0) := ⟨by rw [← hFN]; rw [if_pos (of_decide_eq_true HZ2.out.symm)]; have := HF4.out; omega⟩
          clear hFN
          have HO3 := Bx.mk (HO.out.keep HC3.out)
          have HB3 := Bx.mk (HK.out.trans (HC3.out.mono HK.out.size))
          have HO6 := Bx.mk (HO3.out.keep ((Below.refl w6.heap.size w6).alloc (Nat.le_refl _) (.cells (fraA (T0 : Int) (FN : Int) S (.slice A0 n0 c0)) 28)))
          have HU6 := Bx.mk (HU3.out.alloc (.cells (fraA (T0 : Int) (FN : Int) S (.slice A0 n0 c0)) 28))
          have HB6 := Bx.mk (HB3.out.alloc HB3.out.size (.cells (fraA (T0 : Int) (FN : Int) S (.slice A0 n0 c0)) 28))
          have HS6 : Bx (Sb 28 (w6.alloc (.cells (fraA (T0 : Int) (FN : Int) S (.slice A0 n0 c0)) 28)) w6.heap.size (frA ⟨T0, FN, st, .slice A0 n0 c0, T5⟩)) := ⟨by rw [← HS.out]; exact Sb.new _ _ _⟩
          go_wp2_with (first
            | (with_reducible refine wpList_loadFra g2 _ _ S (.slice A0 n0 c0) rfl HF3.out ?_)
            | (at_builtin; obtain ⟨v7, w7, hr7, o7, g7⟩ := run_frames_own _ 23 w.heap.size _ l ⟨T0, FN, st, .slice A0 n0 c0, T5⟩ w6.heap.size HO6.out HU6.out HS6.out HLL.out HB6.out.size; refine Lib.wpList_append_run _ rfl _ _ _ _ rfl _ _ rfl rfl _ _ hr7 ?_; have HO7 := Bx.mk o7; have HB7 := Bx.mk (HB6.out.grown g7 HB6.out.size (fun k hk => HO6.out.ge hk)); clear hr7 o7 g7; obtain ⟨A7, n7, c7, hsh⟩ := HO7.out.shape; subst hsh))
          go_roundg R2
          case measure => have := HR2.out; have := HG.out; have := HP.out.1; have := HGO.out; have := HRR.out; simp only [Nat.succ_mul, if_pos, Bool.false_eq_true, if_false, false_or, or_false] at *; omega
          case rel =>
            refine ⟨l ++ [⟨T0, FN, st, .slice A0 n0 c0, T5⟩], A7, n7, c7, false, rfl, rfl, by rw [List.length_append]; exact HR2.out, ⟨by simp⟩, ⟨fun W hW => ?_⟩, HO7, ⟨?_⟩, ⟨?_⟩, HB7⟩
            · rw [List.length_append, List.length_singleton, Nat.succ_mul, ← List.drop_drop, HREST.out]
              exact (HAB.out W (HR.out W hW)).2
            · exact SplF.snoc HSP.out HT0.out (HFN.out.trans (congrArg (fun z => (if b.length ≤ (l.length + 1) * p then 4 else 0) + z) (HF0.out.trans (by simp)))) rfl (by rw [HREST.out]; exact HT5.out.symm)
            · intro i h1 h2
              rw [List.length_append, List.length_singleton] at h2
              by_cases h3 : i < l.length
              · exact HI.out i h1 h3
              · have hll : 0 < l.length := by omega
                have h4 : ¬ l.length = 0 := by omega
                rw [show i = l.length by omega]
                have := HLT.out h4
                omega
      case' true =>
        clear hdR
        go_upto_region 9 with (at_builtin; refine wpList_append_ob rfl _ _ rfl wr.heap.size _ va [] T5 rfl rfl (OwB.nil wr wr.heap.size) HVA.out (by have := HTL.out; simp; omega) (Nat.le_refl _) ?_; intro u w2 h1 b1; obtain ⟨A0, n0, c0, hsh⟩ := h1.shape; subst hsh; rw [List.nil_append] at h1; have HU := Bx.mk (h1.mono HK.out.size); have HC := Bx.mk b1; clear h1 b1)
        have HF2 : Bx (Sb 28 (w2.alloc (.cells (fraA 9 0 S (.slice A0 n0 c0)) 28)) w2.heap.size (fraA 9 0 S (.slice A0 n0 c0))) := ⟨Sb.new _ w2 _⟩
        have HU3 := Bx.mk (HU.out.alloc (.cells (fraA 9 0 S (.slice A0 n0 c0)) 28))
        have HC3 := Bx.mk (HC.out.alloc HC.out.size (.cells (fraA 9 0 S (.slice A0 n0 c0)) 28))
        have HG2 : Bx (wr.heap.size ≤ w2.heap.size) := ⟨HC.out.size⟩
        obtain ⟨w3, hw3⟩ : ∃ W, w2.alloc (.cells (fraA 9 0 S (.slice A0 n0 c0)) 28) = W := ⟨_, rfl⟩
        obtain ⟨g2, hg2⟩ : ∃ g, w2.heap.size = g := ⟨_, rfl⟩
        rw [hw3] at HF2 HU3 HC3 ⊢
        rw [hg2] at HF2 HG2 ⊢
        clear hw3 hg2 HU HC
        have HNE : Bx (some g2 ≠ Value.ownBlock (.slice A0 n0 c0)) := ⟨HU3.out.neSb HF2.out (by decide)⟩
        have HSET : Bx (∀ (W : World) (i : Nat) (x : Value), OwB W w.heap.size (.slice A0 n0 c0) T5 → Below wr.heap.size wr W → OwB (W.setCell ⟨g2, i, none⟩ x) w.heap.size (.slice A0 n0 c0) T5 ∧ Below wr.heap.size wr (W.setCell ⟨g2, i, none⟩ x)) := ⟨fun W i x h1 h2 => ⟨h1.kept (w' := W.setCell ⟨g2, i, none⟩ x) fun k hk => (grown_set W g2 i x).block k (h1.lt hk) (fun h => HNE.out (by rw [hk, h])), h2.setCell (p := ⟨g2, i, none⟩) HG2.out x⟩⟩
        have f0 := HF2.out.free 0
        have c0' := HF2.out.cell 0
        simp only [List.getElem?_toArray, List.getElem?_cons_zero, List.getElem?_cons_succ] at c0'
        go_upto_region 11 with fail
        replace HF2 : Bx (Sb 28 (w3.setCell ⟨g2, 0, none⟩ (.int .u8 1)) g2 (fraA 1 0 S (.slice A0 n0 c0))) := ⟨HF2.out.set 0 (.int .u8 1) (show 0 < 4 by decide)⟩
        have hs := HSET.out w3 0 (.int .u8 1) HU3.out HC3.out
        replace HU3 := Bx.mk hs.1
        replace HC3 := Bx.mk hs.2
        clear hs f0 c0'
        obtain ⟨w4, hw3⟩ : ∃ W, w3.setCell ⟨g2, 0, none⟩ (.int .u8 1) = W := ⟨_, rfl⟩
        rw [hw3] at HF2 HU3 HC3 ⊢
        clear hw3
        cases en
        case' false =>
          go_upto_region 13 with fail
          have hpk : ∃ (T0 F0 : Nat), Bx (Sb 28 w4 g2 (fraA (T0 : Int) (F0 : Int) S (.slice A0 n0 c0))) ∧ T0 = (if l.length = 0 then 1 else 9) ∧ F0 = (if l.length = 0 ∧ false = true then 1 else 0) ∧ (F0 = 0 ∨ F0 = 1) := ⟨1, 0, HF2, by rw [if_pos (of_decide_eq_true HFB.out.symm)], by simp, by omega⟩
          obtain ⟨T0, F0, HF3, hT0, hF0, hF01⟩ := hpk
          have HT0 := Bx.mk hT0
          have HF0 := Bx.mk hF0
          obtain ⟨F4, hF4⟩ : ∃ F4 : Nat, F0 + 4 = F4 := ⟨_, rfl⟩
          have hor : bits .or .u8 (F0 : Int) 4 = (F4 : Int) := by rcases hF01 with h | h <;> subst h <;> subst hF4 <;> decide
          have HF4 := Bx.mk hF4
          clear hF4 hT0 hF0 hF01 HF2
          obtain ⟨R2, hR2⟩ : ∃ R : Nat, (rest.drop p).length = R := ⟨_, rfl⟩
          have hlen2 : ∀ (tr : TypeId) (W : World), (Builtin.len_ #[22] tr #[vb]).run Try.prog W = .ok (.int .i64 (R2 : Int)) W := fun tr W => by
            have h := (HAB.out _ HR0.out).2.run_len tr W
            rw [hR2] at h
            exact h
          have HR2 : Bx (R2 = b.length - (l.length + 1) * p) := ⟨by rw [← hR2, List.length_drop, HRL.out, Nat.succ_mul]; have := HRR.out; omega⟩
          obtain ⟨z2, hz2⟩ : ∃ z : Bool, ((R2 : Int) == 0) = z := ⟨_, rfl⟩
          have HZ2 : Bx (z2 = decide (b.length ≤ (l.length + 1) * p)) := ⟨by
            have := HR2.out
            rw [← hz2, Bool.eq_iff_iff, beq_iff_eq, decide_eq_true_iff]
            omega⟩
          clear hR2
          cases z2
          case' false =>
            go_upto_region 16 with fail
            obtain ⟨FN, hFN⟩ : ∃ FN : Nat, F0 = FN := ⟨_, rfl⟩
            rw [hFN] at HF3
            have HFN : Bx (FN = (if b.length ≤ (l.length + 1) * p then 4 else 0) + F0) := ⟨by rw [← hFN]; rw [if_neg (of_decide_eq_false HZ2.out.symm)]; omega⟩
            clear hFN
            have HO3 := Bx.mk (HO.out.keep HC3.out)
            have HB3 := Bx.mk (HK.out.trans (HC3.out.mono HK.out.size))
            have HO6 := Bx.mk (HO3.out.keep ((Below.refl w4.heap.size w4).alloc (Nat.le_refl _) (.cells (fraA (T0 : Int) (FN : Int) S (.slice A0 n0 c0)) 28)))
            have HU6 := Bx.mk (HU3.out.alloc (.cells (fraA (T0 : Int) (FN : Int) S (.slice A0 n0 c0)) 28))
            have HB6 := Bx.mk (HB3.out.alloc HB3.out.size (.cells (fraA (T0 : Int) (FN : Int) S (.slice A0 n0 c0)) 28))
            have HS6 : Bx (Sb 28 (w4.alloc (.cells (fraA (T0 : Int) (FN : Int) S (.slice A0 n0 c0)) 28)) w4.heap.size (frA ⟨T0, FN, st, .slice A0 n0 c0, T5⟩)) := ⟨by rw [← HS.out]; exact Sb.new _ _ _⟩
            go_wp2_with (first
              | (with_reducible refine wpList_loadFra g2 _ _ S (.slice A0 n0 c0) rfl HF3.out ?_)
              | (at_builtin; obtain ⟨v7, w7, hr7, o7, g7⟩ := run_frames_own _ 23 w.heap.size _ l ⟨T0, FN, st, .slice A0 n0 c0, T5⟩ w4.heap.size HO6.out HU6.out HS6.out HLL.out HB6.out.size; refine Lib.wpList_append_run _ rfl _ _ _ _ rfl _ _ rfl rfl _ _ hr7 ?_; have HO7 := Bx.mk o7; have HB7 := Bx.mk (HB6.out.grown g7 HB6.out.size (fun k hk => HO6.out.ge hk)); clear hr7 o7 g7; obtain ⟨A7, n7, c7, hsh⟩ := HO7.out.shape; subst hsh))
            go_roundg R2
            case measure => have := HR2.out; have := HG.out; have := HP.out.1; have := HGO.out; have := HRR.out; simp only [Nat.succ_mul, if_pos, Bool.false_eq_true, if_false, false_or, or_false] at *; omega
            case rel =>
              refine ⟨l ++ [⟨T0, FN, st, .slice A0 n0 c0, T5⟩], A7, n7, c7, false, rfl, rfl, by rw [List.length_append]; exact HR2.out, ⟨by simp⟩, ⟨fun W hW => ?_⟩, HO7, ⟨?_⟩, ⟨?_⟩, HB7⟩
              · rw [List.length_append, List.length_singleton, Nat.succ_mul, ← List.drop_drop, HREST.out]
                exact (HAB.out W (HR.out W hW)).2
              · exact SplF.snoc HSP.out HT0.out (HFN.out.trans (congrArg (fun z => (if b.length ≤ (l.length + 1) * p then 4 else 0) + z) (HF0.out.trans (by simp)))) rfl (by rw [HREST.out]; exact HT5.out.symm)
              · intro i h1 h2
                rw [List.length_append, List.length_singleton] at h2
                by_cases h3 : i < l.length
                · exact HI.out i h1 h3
                · have hll : 0 < l.length := by omega
                  have h4 : ¬ l.length = 0 := by omega
                  rw [show i = l.length by omega]
                  have := HLT.out h4
                  omega

          case' true =>
            have f1 := HF3.out.free 1
            have c1' := HF3.out.cell 1
            simp only [List.getElem?_toArray, List.getElem?_cons_zero, List.getElem?_cons_succ] at c1'
            go_upto_region 16 with fail
            have HF5 : Bx (Sb 28 (w4.setCell ⟨g2, 1, none⟩ (.int .u8 (F4 : Int))) g2 (fraA (T0 : Int) (F4 : Int) S (.slice A0 n0 c0))) := ⟨HF3.out.set 1 (.int .u8 (F4 : Int)) (show 1 < 4 by decide)⟩
            have hs := HSET.out w4 1 (.int .u8 (F4 : Int)) HU3.out HC3.out
            replace HU3 := Bx.mk hs.1
            replace HC3 := Bx.mk hs.2
            clear hs f1 c1' HF3
            obtain ⟨w6, hw3⟩ : ∃ W, w4.setCell ⟨g2, 1, none⟩ (.int .u8 (F4 : Int)) = W := ⟨_, rfl⟩
            rw [hw3] at HF5 HU3 HC3 ⊢
            clear hw3
            have HF3 := HF5
            obtain ⟨FN, hFN⟩ : ∃ FN : Nat, F4 = FN := ⟨_, rfl⟩
            rw [hFN] at HF3
            have HFN : Bx (FN = (if b.length ≤ (l.length + 1) * p then 4 else 0) + F0) := ⟨by rw [← hFN]; rw [if_pos (of_decide_eq_true HZ2.out.symm)]; have := HF4.out; omega⟩
            clear hFN
            have HO3 := Bx.mk (HO.out.keep HC3.out)
            have HB3 := Bx.mk (HK.out.trans (HC3.out.mono HK.out.size))
            have HO6 := Bx.mk (HO3.out.keep ((Below.refl w6.heap.size w6).alloc (Nat.le_refl _) (.cells (fraA (T0 : Int) (FN : Int) S (.slice A0 n0 c0)) 28)))
            have HU6 := Bx.mk (HU3.out.alloc (.cells (fraA (T0 : Int) (FN : Int) S (.slice A0 n0 c0)) 28))
            have HB6 := Bx.mk (HB3.out.alloc HB3.out.size (.cells (fraA (T0 : Int) (FN : Int) S (.slice A0 n0 c0)) 28))
            have HS6 : Bx (Sb 28 (w6.alloc (.cells (fraA (T0 : Int) (FN : Int) S (.slice A0 n0 c0)) 28)) w6.heap.size (frA ⟨T0, FN, st, .slice A0 n0 c0, T5⟩)) := ⟨by rw [← HS.out]; exact Sb.new _ _ _⟩
            go_wp2_with (first
              | (with_reducible refine wpList_loadFra g2 _ _ S (.slice A0 n0 c0) rfl HF3.out ?_)
              | (at_builtin; obtain ⟨v7, w7, hr7, o7, g7⟩ := run_frames_own _ 23 w.heap.size _ l ⟨T0, FN, st, .slice A0 n0 c0, T5⟩ w6.heap.size HO6.out HU6.out HS6.out HLL.out HB6.out.size; refine Lib.wpList_append_run _ rfl _ _ _ _ rfl _ _ rfl rfl _ _ hr7 ?_; have HO7 := Bx.mk o7; have HB7 := Bx.mk (HB6.out.grown g7 HB6.out.size (fun k hk => HO6.out.ge hk)); clear hr7 o7 g7; obtain ⟨A7, n7, c7, hsh⟩ := HO7.out.shape; subst hsh))
            go_roundg R2
            case measure => have := HR2.out; have := HG.out; have := HP.out.1; have := HGO.out; have := HRR.out; simp only [Nat.succ_mul, if_pos, Bool.false_eq_true, if_false, false_or, or_false] at *; omega
            case rel =>
              refine ⟨l ++ [⟨T0, FN, st, .slice A0 n0 c0, T5⟩], A7, n7, c7, false, rfl, rfl, by rw [List.length_append]; exact HR2.out, ⟨by simp⟩, ⟨fun W hW => ?_⟩, HO7, ⟨?_⟩, ⟨?_⟩, HB7⟩
              · rw [List.length_append, List.length_singleton, Nat.succ_mul, ← List.drop_drop, HREST.out]
                exact (HAB.out W (HR.out W hW)).2
              · exact SplF.snoc HSP.out HT0.out (HFN.out.trans (congrArg (fun z => (if b.length ≤ (l.length + 1) * p then 4 else 0) + z) (HF0.out.trans (by simp)))) rfl (by rw [HREST.out]; exact HT5.out.symm)
              · intro i h1 h2
                rw [List.length_append, List.length_singleton] at h2
                by_cases h3 : i < l.length
                · exact HI.out i h1 h3
                · have hll : 0 < l.length := by omega
                  have h4 : ¬ l.length = 0 := by omega
                  rw [show i = l.length by omega]
                  have := HLT.out h4
                  omega
        case' true =>
          have f1 := HF2.out.free 1
          have c1' := HF2.out.cell 1
          simp only [List.getElem?_toArray, List.getElem?_cons_zero, List.getElem?_cons_succ] at c1'
          go_upto_region 13 with fail
          replace HF2 : Bx (Sb 28 (w4.setCell ⟨g2, 1, none⟩ (.int .u8 1)) g2 (fraA 1 1 S (.slice A0 n0 c0))) := ⟨HF2.out.set 1 (.int .u8 1) (show 1 < 4 by decide)⟩
          have hs := HSET.out w4 1 (.int .u8 1) HU3.out HC3.out
          replace HU3 := Bx.mk hs.1
          replace HC3 := Bx.mk hs.2
          clear hs f1 c1'
          obtain ⟨w5, hw3⟩ : ∃ W, w4.setCell ⟨g2, 1, none⟩ (.int .u8 1) = W := ⟨_, rfl⟩
          rw [hw3] at HF2 HU3 HC3 ⊢
          clear hw3
          have hpk : ∃ (T0 F0 : Nat), Bx (Sb 28 w5 g2 (fraA (T0 : Int) (F0 : Int) S (.slice A0 n0 c0))) ∧ T0 = (if l.length = 0 then 1 else 9) ∧ F0 = (if l.length = 0 ∧ true = true then 1 else 0) ∧ (F0 = 0 ∨ F0 = 1) := ⟨1, 1, HF2, by rw [if_pos (of_decide_eq_true HFB.out.symm)], by rw [if_pos ⟨of_decide_eq_true HFB.out.symm, rfl⟩], by omega⟩
          obtain ⟨T0, F0, HF3, hT0, hF0, hF01⟩ := hpk
          have HT0 := Bx.mk hT0
          have HF0 := Bx.mk hF0
          obtain ⟨F4, hF4⟩ : ∃ F4 : Nat, F0 + 4 = F4 := ⟨_, rfl⟩
          have hor : bits .or .u8 (F0 : Int) 4 = (F4 : Int) := by rcases hF01 with h | h <;> subst h <;> subst hF4 <;> decide
          have HF4 := Bx.mk hF4
          clear hF4 hT0 hF0 hF01 HF2
          obtain ⟨R2, hR2⟩ : ∃ R : Nat, (rest.drop p).length = R := ⟨_, rfl⟩
          have hlen2 : ∀ (tr : TypeId) (W : World), (Builtin.len_ #[22] tr #[vb]).run Try.prog W = .ok (.int .i64 (R2 : Int)) W := fun tr W => by
            have h := (HAB.out _ HR0.out).2.run_len tr W
            rw [hR2] at h
            exact h
          have HR2 : Bx (R2 = b.length - (l.length + 1) * p) := ⟨by rw [← hR2, List.length_drop, HRL.out, Nat.succ_mul]; have := HRR.out; omega⟩
          obtain ⟨z2, hz2⟩ : ∃ z : Bool, ((R2 : Int) == 0) = z := ⟨_, rfl⟩
          have HZ2 : Bx (z2 = decide (b.length ≤ (l.length + 1) * p)) := ⟨by
            have := HR2.out
            rw [← hz2, Bool.eq_iff_iff, beq_iff_eq, decide_eq_true_iff]
            omega⟩
          clear hR2
          cases z2
          case' false =>
            go_upto_region 16 with fail
            obtain ⟨FN, hFN⟩ : ∃ FN : Nat, F0 = FN := ⟨_, rfl⟩
            rw [hFN] at HF3
            have HFN : Bx (FN = (if b.length ≤ (l.length + 1) * p then 4 else 0) + F0) := ⟨by rw [← hFN]; rw [if_neg (of_decide_eq_false HZ2.out.symm)]; omega⟩
            clear hFN
            have HO3 := Bx.mk (HO.out.keep HC3.out)
            have HB3 := Bx.mk (HK.out.trans (HC3.out.mono HK.out.size))
            have HO6 := Bx.mk (HO3.out.keep ((Below.refl w5.heap.size w5).alloc (Nat.le_refl _) (.cells (fraA (T0 : Int) (FN : Int) S (.slice A0 n0 c0)) 28)))
            have HU6 := Bx.mk (HU3.out.alloc (.cells (fraA (T0 : Int) (FN : Int) S (.slice A0 n0 c0)) 28))
            have HB6 := Bx.mk (HB3.out.alloc HB3.out.size (.cells (fraA (T0 : Int) (FN : Int) S (.slice A0 n0 c0)) 28))
            have HS6 : Bx (Sb 28 (w5.alloc (.cells (fraA (T0 : Int) (FN : Int) S (.slice A0 n0 c0)) 28)) w5.heap.size (frA ⟨T0, FN, st, .slice A0 n0 c0, T5⟩)) := ⟨by rw [← HS.out]; exact Sb.new _ _ _⟩
            go_wp2_with (first
              | (with_reducible refine wpList_loadFra g2 _ _ S (.slice A0 n0 c0) rfl HF3.out ?_)
              | (at_builtin; obtain ⟨v7, w7, hr7, o7, g7⟩ := run_frames_own _ 23 w.heap.size _ l ⟨T0, FN, st, .slice A0 n0 c0, T5⟩ w5.heap.size HO6.out HU6.out HS6.out HLL.out HB6.out.size; refine Lib.wpList_append_run _ rfl _ _ _ _ rfl _ _ rfl rfl _ _ hr7 ?_; have HO7 := Bx.mk o7; have HB7 := Bx.mk (HB6.out.grown g7 HB6.out.size (fun k hk => HO6.out.ge hk)); clear hr7 o7 g7; obtain ⟨A7, n7, c7, hsh⟩ := HO7.out.shape; subst hsh))
            go_roundg R2
            case measure => have := HR2.out; have := HG.out; have := HP.out.1; have := HGO.out; have := HRR.out; simp only [Nat.succ_mul, if_pos, Bool.false_eq_true, if_false, false_or, or_false] at *; omega
            case rel =>
              refine ⟨l ++ [⟨T0, FN, st, .slice A0 n0 c0, T5⟩], A7, n7, c7, false, rfl, rfl, by rw [List.length_append]; exact HR2.out, ⟨by simp⟩, ⟨fun W hW => ?_⟩, HO7, ⟨?_⟩, ⟨?_⟩, HB7⟩
              · rw [List.length_append, List.length_singleton, Nat.succ_mul, ← List.drop_drop, HREST.out]
                exact (HAB.out W (HR.out W hW)).2
              · exact SplF.snoc HSP.out HT0.out (HFN.out.trans (congrArg (fun z => (if b.length ≤ (l.length + 1) * p then 4 else 0) + z) (HF0.out.trans (by simp)))) rfl (by rw [HREST.out]; exact HT5.out.symm)
              · intro i h1 h2
                rw [List.length_append, List.length_singleton] at h2
                by_cases h3 : i < l.length
                · exact HI.out i h1 h3
                · have hll : 0 < l.length := by omega
                  have h4 : ¬ l.length = 0 := by omega
                  rw [show i = l.length by omega]
                  have := HLT.out h4
                  omega

          case' true =>
            have f1 := HF3.out.free 1
            have c1' := HF3.out.cell 1
            simp only [List.getElem?_toArray, List.getElem?_cons_zero, List.getElem?_cons_succ] at c1'
            go_upto_region 16 with fail
            have HF5 : Bx (Sb 28 (w5.setCell ⟨g2, 1, none⟩ (.int .u8 (F4 : Int))) g2 (fraA (T0 : Int) (F4 : Int) S (.slice A0 n0 c0))) := ⟨HF3.out.set 1 (.int .u8 (F4 : Int)) (show 1 < 4 by decide)⟩
            have hs := HSET.out w5 1 (.int .u8 (F4 : Int)) HU3.out HC3.out
            replace HU3 := Bx.mk hs.1
            replace HC3 := Bx.mk hs.2
            clear hs f1 c1' HF3
            obtain ⟨w6, hw3⟩ : ∃ W, w5.setCell ⟨g2, 1, none⟩ (.int .u8 (F4 : Int)) = W := ⟨_, rfl⟩
            rw [hw3] at HF5 HU3 HC3 ⊢
            clear hw3
            have HF3 := HF5
            obtain ⟨FN, hFN⟩ : ∃ FN : Nat, F4 = FN := ⟨_, rfl⟩
            rw [hFN] at HF3
            have HFN : Bx (FN = (if b.length ≤ (l.length + 1) * p then 4 else 0) + F0) := ⟨by rw [← hFN]; rw [if_pos (of_decide_eq_true HZ2.out.symm)]; have := HF4.out; omega⟩
            clear hFN
            have HO3 := Bx.mk (HO.out.keep HC3.out)
            have HB3 := Bx.mk (HK.out.trans (HC3.out.mono HK.out.size))
            have HO6 := Bx.mk (HO3.out.keep ((Below.refl w6.heap.size w6).alloc (Nat.le_refl _) (.cells (fraA (T0 : Int) (FN : Int) S (.slice A0 n0 c0)) 28)))
            have HU6 := Bx.mk (HU3.out.alloc (.cells (fraA (T0 : Int) (FN : Int) S (.slice A0 n0 c0)) 28))
            have HB6 := Bx.mk (HB3.out.alloc HB3.out.size (.cells (fraA (T0 : Int) (FN : Int) S (.slice A0 n0 c0)) 28))
            have HS6 : Bx (Sb 28 (w6.alloc (.cells (fraA (T0 : Int) (FN : Int) S (.slice A0 n0 c0)) 28)) w6.heap.size (frA ⟨T0, FN, st, .slice A0 n0 c0, T5⟩)) := ⟨by rw [← HS.out]; exact Sb.new _ _ _⟩
            go_wp2_with (first
              | (with_reducible refine wpList_loadFra g2 _ _ S (.slice A0 n0 c0) rfl HF3.out ?_)
              | (at_builtin; obtain ⟨v7, w7, hr7, o7, g7⟩ := run_frames_own _ 23 w.heap.size _ l ⟨T0, FN, st, .slice A0 n0 c0, T5⟩ w6.heap.size HO6.out HU6.out HS6.out HLL.out HB6.out.size; refine Lib.wpList_append_run _ rfl _ _ _ _ rfl _ _ rfl rfl _ _ hr7 ?_; have HO7 := Bx.mk o7; have HB7 := Bx.mk (HB6.out.grown g7 HB6.out.size (fun k hk => HO6.out.ge hk)); clear hr7 o7 g7; obtain ⟨A7, n7, c7, hsh⟩ := HO7.out.shape; subst hsh))
            go_roundg R2
            case measure => have := HR2.out; have := HG.out; have := HP.out.1; have := HGO.out; have := HRR.out; simp only [Nat.succ_mul, if_pos, Bool.false_eq_true, if_false, false_or, or_false] at *; omega
            case rel =>
              refine ⟨l ++ [⟨T0, FN, st, .slice A0 n0 c0, T5⟩], A7, n7, c7, false, rfl, rfl, by rw [List.length_append]; exact HR2.out, ⟨by simp⟩, ⟨fun W hW => ?_⟩, HO7, ⟨?_⟩, ⟨?_⟩, HB7⟩
              · rw [List.length_append, List.length_singleton, Nat.succ_mul, ← List.drop_drop, HREST.out]
                exact (HAB.out W (HR.out W hW)).2
              · exact SplF.snoc HSP.out HT0.out (HFN.out.trans (congrArg (fun z => (if b.length ≤ (l.length + 1) * p then 4 else 0) + z) (HF0.out.trans (by simp)))) rfl (by rw [HREST.out]; exact HT5.out.symm)
              · intro i h1 h2
                rw [List.length_append, List.length_singleton] at h2
                by_cases h3 : i < l.length
                · exact HI.out i h1 h3
                · have hll : 0 < l.length := by omega
                  have h4 : ¬ l.length = 0 := by omega
                  rw [show i = l.length by omega]
                  have := HLT.out h4
                  omega
end Go.Proofs.Ytenoaljghbpaaaa
