/-
  Blocks: the program's Split.
-/
import Derived.Test.YtenoaljghbpaaaaBkS
namespace Go.Proofs.Ytenoaljghbpaaaa
open Go.RowKit
set_option linter.unusedVariables false
set_option linter.unusedSimpArgs false

/-- What Split answers: frames that are one block's, all of it, and no more than need be. -/
def SplitPost (w : World) (st : Nat) (en : Bool) (p : Nat) (b : List UInt8) (e : Ending) (w' : World) : Prop :=
  ∃ v l, e = .returned v ∧ OwF w' w.heap.size v l ∧ SplF st en p b l ∧ 0 < l.length ∧ b.length ≤ l.length * p ∧ (∀ i, 0 < i → i < l.length → i * p < b.length) ∧ Below w.heap.size w w'
theorem SplF.snoc {st : Nat} {en : Bool} {p : Nat} {b : List UInt8} {l : List Frm} {a : Frm} (h : SplF st en p b l) (h1 : a.ty = (if l.length = 0 then 1 else 9)) (h2 : a.fl = (if b.length ≤ (l.length + 1) * p then 4 else 0) + (if l.length = 0 ∧ en = true then 1 else 0)) (h3 : a.st = st) (h4 : a.rawb = (b.drop (l.length * p)).take p) : SplF st en p b (l ++ [a]) := by
  intro i hi
  rw [List.length_append, List.length_singleton] at hi
  by_cases hl : i < l.length
  · rw [List.getElem_append_left hl]
    exact h i hl
  · have hil : i = l.length := by omega
    subst hil
    rw [List.getElem_append_right (by omega)]
    simp only [Nat.sub_self, List.getElem_cons_zero]
    exact ⟨h1, h2, h3, h4⟩
set_option maxRecDepth 100000 in
set_option maxHeartbeats 8000000 in
theorem pSplit_any (st : Nat) (S : Int) (hS : (st : Int) = S) (en : Bool) (p : Nat) (hp1 : 1 ≤ p) (hp2 : p ≤ 16384) (P : Int) (hP3 : P = (p : Int)) (v : Value) (b : List UInt8) (w : World) (hv : Bs w v b) (hb : b.length ≤ 100000) :
    Calls Try.prog 71 #[.int .u32 S, .bool en, v, .int .i64 P] w (SplitPost w st en p b) := by
  have HC1 : Bx (∀ (PP : Int), (p : Int) = PP → ∀ (x : Value) (l : List UInt8) (W : World), Bs W x l → l.length ≤ 1000000 → Calls Try.prog 103 #[x, .int .i64 PP] W fun e w' => ∃ a c, e = .returned (.tuple #[a, c]) ∧ (∀ W, Bs W x l → Bs W a (l.take p) ∧ Bs W c (l.drop p)) ∧ Below W.heap.size W w') := ⟨fun PP h x l W hx hl => by subst h; exact cut_any x l p W hx hl (by omega)⟩
  have HV := Bx.mk hv
  have HB := Bx.mk hb
  have HP := Bx.mk (And.intro hp1 hp2)
  have HS := Bx.mk hS
  -- the first frame's flags
  obtain ⟨z, hz⟩ : ∃ z : Bool, (((b.drop p).length : Int) == 0) = z := ⟨_, rfl⟩
  obtain ⟨F, hF⟩ : ∃ F : Int, bits .or .u8 (if en then 1 else 0) (if z then 4 else 0) = F := ⟨_, rfl⟩
  obtain ⟨FL, hFL⟩ : ∃ FL : Nat, (if b.length ≤ 1 * p then 4 else 0) + (if en = true then 1 else 0) = FL := ⟨_, rfl⟩
  have HFN : Bx (F = (FL : Int)) := ⟨by
    have hzz : z = decide (b.length ≤ 1 * p) := by
      rw [← hz, List.length_drop, Bool.eq_iff_iff, beq_iff_eq, decide_eq_true_iff]
      omega
    rw [← hF, hzz, ← hFL]
    by_cases hq : b.length ≤ 1 * p
    · rw [decide_eq_true hq, if_pos hq]; cases en <;> decide
    · rw [decide_eq_false hq, if_neg hq]; cases en <;> decide⟩
  have HFL := Bx.mk hFL
  clear hFL
  have HH := Bx.mk (fun (x : Value) (W : World) (h : Bs W x (b.take p)) => headers_none S en z F hF x (b.take p) W h (by rw [List.length_take]; omega))
  have HZ := Bx.mk hz
  clear hS hF hz hv hb
  have HHZ := Bx.mk (fun (x : Value) (W : World) (h : Bs W x (b.drop p)) => (fun tr W2 => h.run_len tr W2 : ∀ (tr : TypeId) (W2 : World), (Builtin.len_ #[22] tr #[x]).run Try.prog W2 = .ok (.int .i64 ((b.drop p).length : Int)) W2))
  have HCN := Bx.mk (fun (la : Bool) (x : Value) (l : List UInt8) (W : World) (h : Bs W x l) (hl : l.length ≤ 1000000) => continuation_any S la x l W h hl)
  have HPP : Bx ((p : Int) = P) := ⟨hP3.symm⟩
  have hd1 : decide (P < 1) = false := decide_eq_false (by omega)
  have hd2 : decide (16384 < P) = false := decide_eq_false (by omega)
  clear hP3 hp1 hp2
  go_enter Try.func71, Try.ntmps71
  go_upto_region 3 with fail
  go_upto_region 4 with (go_at_call 103; refine (HC1.out _ HPP.out v b _ HV.out (by have := HB.out; omega)).mono ?_; rintro e w1 ⟨v9, v10, rfl, hab, b1⟩; have HAB := Bx.mk hab; have HB1 := Bx.mk b1; clear hab b1)
  have HT1 := Bx.mk (HAB.out _ (HV.out.keep HB1.out)).1
  have hlen10 := HHZ.out _ _ (HAB.out _ (HV.out.keep HB1.out)).2
  obtain ⟨R1, hR1⟩ : ∃ R : Nat, (b.drop p).length = R := ⟨_, rfl⟩
  rw [hR1] at hlen10 HZ
  have hz := HZ.out
  go_upto_region 5 with (go_at_call 104; refine (HH.out _ _ HT1.out).mono ?_; rintro e w2 ⟨A2, n2, c2, rfl, h2, b2⟩; have HU2 := Bx.mk (h2.mono HB1.out.size); have HB2 := Bx.mk (HB1.out.trans (b2.mono HB1.out.size)); clear h2 b2)
  have HO2 : Bx (OwF (w2.alloc (.cells (fraA 1 F S (.slice A2 n2 c2)) 28)) w.heap.size (.slice (some ⟨w2.heap.size, 0, none⟩) 1 1) [⟨1, FL, st, .slice A2 n2 c2, b.take p⟩]) := ⟨by
    have h := OwF.one w2 w.heap.size ⟨1, FL, st, .slice A2 n2 c2, b.take p⟩ HU2.out HB2.out.size
    have e : frA ⟨1, FL, st, .slice A2 n2 c2, b.take p⟩ = fraA 1 F S (.slice A2 n2 c2) := by
      unfold frA
      rw [HFN.out, ← HS.out]
      rfl
    rw [e] at h
    exact h⟩
  have HB3 := Bx.mk (HB2.out.alloc HB2.out.size (.cells (fraA 1 F S (.slice A2 n2 c2)) 28))
  obtain ⟨w3, hw3⟩ : ∃ W, w2.alloc (.cells (fraA 1 F S (.slice A2 n2 c2)) 28) = W := ⟨_, rfl⟩
  obtain ⟨g3, hg3⟩ : ∃ g, w2.heap.size = g := ⟨_, rfl⟩
  rw [hw3] at HO2 HB3 ⊢
  rw [hg3] at HO2 ⊢
  have HR10 : Bx (∀ W, Below w.heap.size w W → Bs W v10 (b.drop (1 * p))) := ⟨fun W hW => by rw [Nat.one_mul]; exact (HAB.out W (HV.out.keep hW)).2⟩
  have HRL : Bx (R1 = b.length - 1 * p) := ⟨by rw [← hR1, List.length_drop]; omega⟩
  clear hw3 hg3 HT1 HU2 HB2 HAB HB1 HHZ HH hz HZ hR1 hlen10
  go_loopg [9, 10, 11] R1 (fun g s9 s10 s11 wx => ∃ (l : List Frm) (A : Option Addr) (n c : Nat), s11 = .slice A n c ∧ g = b.length - l.length * p ∧ 0 < l.length ∧ Bx (∀ W, Below w.heap.size w W → Bs W s10 (b.drop (l.length * p))) ∧ Bx (OwF wx w.heap.size s11 l) ∧ Bx (SplF st en p b l) ∧ Bx (∀ i, 0 < i → i < l.length → i * p < b.length) ∧ Bx (Below w.heap.size w wx))
  case atStart =>
    refine ⟨[⟨1, FL, st, .slice A2 n2 c2, b.take p⟩], _, _, _, rfl, HRL.out, by simp, HR10, HO2, ⟨?_⟩, ⟨fun i h1 h2 => by simp at h2; omega⟩, HB3⟩
    exact SplF.snoc (l := []) (fun i hi => by simp at hi) rfl (by rw [← HFL.out]; simp) rfl (by simp)
  case round =>
    obtain ⟨l, Al, nl, cl, rfl, hgl, hl0, HR, HO, HSP, HI, HK⟩ := hrel
    have HR0 := HR.out wr HK.out
    have hlenr : ∀ (tr : TypeId) (W : World), (Builtin.len_ #[22] tr #[_]).run Try.prog W = .ok (.int .i64 (gk : Int)) W := fun tr W => by
      have h := HR0.run_len tr W
      rw [List.length_drop, ← hgl] at h
      exact h
    have HG := Bx.mk hgl
    have HL0 := Bx.mk hl0
    by_cases hg0 : gk = 0
    · subst hg0
      clear hgl hl0 HR0
      go_wp2_with fail
      go_ret
      exact ⟨_, l, rfl, HO.out, HSP.out, HL0.out, by have := HG.out; omega, HI.out, HK.out⟩
    · have hgd : decide ((0 : Int) < (gk : Int)) = true := decide_eq_true (by omega)
      have hgd' : decide (0 < gk) = true := decide_eq_true (by omega)
      have HLT : Bx (l.length * p < b.length) := ⟨by omega⟩
      have HG0 : Bx (0 < gk) := ⟨by omega⟩
      clear hgl hl0 hg0
      have HR0 := Bx.mk HR0
      go_upto_region 7 with (go_at_call 103; refine (HC1.out _ HPP.out _ _ _ HR0.out (by rw [List.length_drop]; have := HB.out; omega)).mono ?_; rintro e w4 ⟨u9, u10, rfl, hab, b4⟩; have HAB := Bx.mk hab; have HB4 := Bx.mk b4; clear hab b4)
      have HT4 := Bx.mk (HAB.out _ (HR0.out.keep HB4.out)).1
      obtain ⟨R2, hR2⟩ : ∃ R : Nat, ((b.drop (l.length * p)).drop p).length = R := ⟨_, rfl⟩
      have hlen2 : ∀ (tr : TypeId) (W : World), (Builtin.len_ #[22] tr #[u10]).run Try.prog W = .ok (.int .i64 (R2 : Int)) W := fun tr W => by
        have h := (HAB.out _ (HR0.out.keep HB4.out)).2.run_len tr W
        rw [hR2] at h
        exact h
      have HR2 : Bx (R2 = b.length - (l.length + 1) * p) := ⟨by rw [← hR2, List.drop_drop, List.length_drop, Nat.succ_mul]⟩
      obtain ⟨z2, hz2⟩ : ∃ z : Bool, ((R2 : Int) == 0) = z := ⟨_, rfl⟩
      have HZ2 : Bx (z2 = decide (b.length ≤ (l.length + 1) * p)) := ⟨by
        have := HR2.out
        rw [← hz2, Bool.eq_iff_iff, beq_iff_eq, decide_eq_true_iff]
        omega⟩
      have HO4 := Bx.mk (HO.out.keep HB4.out)
      have HB5 := Bx.mk (HK.out.trans (HB4.out.mono HK.out.size))
      have HLL : Bx (l.length ≤ 100000) := ⟨by
        have h1 := HLT.out
        have h2 := HB.out
        have h3 := Nat.mul_le_mul_left l.length HP.out.1
        omega⟩
      clear hR2
      obtain ⟨FF, hFF⟩ : ∃ FF : Int, (if z2 = true then 4 else 0) = FF := ⟨_, rfl⟩
      have HCN2 := Bx.mk (HCN.out z2)
      rw [hFF] at HCN2
      obtain ⟨fl, hfl⟩ : ∃ fl : Nat, (if b.length ≤ (l.length + 1) * p then 4 else 0) = fl := ⟨_, rfl⟩
      have HFF : Bx (FF = (fl : Int)) := ⟨by
        rw [← hFF, ← hfl, HZ2.out]
        by_cases hq : b.length ≤ (l.length + 1) * p
        · rw [decide_eq_true hq, if_pos hq]; rfl
        · rw [decide_eq_false hq, if_neg hq]; rfl⟩
      have HFL2 := Bx.mk hfl
      clear hFF hfl
      obtain ⟨T5, hT5⟩ : ∃ T, (b.drop (l.length * p)).take p = T := ⟨_, rfl⟩
      have HTL : Bx (T5.length ≤ 1000000) := ⟨by rw [← hT5, List.length_take, List.length_drop]; have := HB.out; omega⟩
      have HT5 := Bx.mk hT5
      rw [hT5] at HT4
      clear hT5
      go_wp2_with (first
        | (go_at_call 105; refine (HCN2.out _ _ _ HT4.out HTL.out).mono ?_; rintro e w6 ⟨A6, n6, c6, rfl, h6, b6⟩; have HU6 := Bx.mk ((h6.mono HB5.out.size).alloc (.cells (fraA 9 FF S (.slice A6 n6 c6)) 28)); have HO6 := Bx.mk ((HO4.out.keep b6).keep ((Below.refl w6.heap.size w6).alloc (Nat.le_refl _) (.cells (fraA 9 FF S (.slice A6 n6 c6)) 28))); have HB6 := Bx.mk ((HB5.out.trans (b6.mono HB5.out.size)).alloc (HB5.out.trans (b6.mono HB5.out.size)).size (.cells (fraA 9 FF S (.slice A6 n6 c6)) 28)); clear h6 b6; have HS6 : Bx (Sb 28 (w6.alloc (.cells (fraA 9 FF S (.slice A6 n6 c6)) 28)) w6.heap.size (frA ⟨9, fl, st, .slice A6 n6 c6, T5⟩)) := ⟨by rw [HFF.out, ← HS.out]; exact Sb.new _ _ _⟩)
        | (at_builtin; obtain ⟨v7, w7, hr7, o7, g7⟩ := run_frames_own _ 23 w.heap.size _ l ⟨9, fl, st, .slice A6 n6 c6, T5⟩ w6.heap.size HO6.out HU6.out HS6.out HLL.out HB6.out.size; refine Lib.wpList_append_run _ rfl _ _ _ _ rfl _ _ rfl rfl _ _ hr7 ?_; have HO7 := Bx.mk o7; have HB7 := Bx.mk (HB6.out.grown g7 HB6.out.size (fun k hk => HO6.out.ge hk)); clear hr7 o7 g7; obtain ⟨A7, n7, c7, hsh⟩ := HO7.out.shape; subst hsh))
      go_roundg R2
      case measure => have := HR2.out; have := HG.out; have := HP.out.1; have := HG0.out; have := HLT.out; rw [Nat.succ_mul] at *; omega
      case rel =>
        refine ⟨l ++ [⟨9, fl, st, .slice A6 n6 c6, T5⟩], A7, n7, c7, rfl, by rw [List.length_append]; exact HR2.out, by simp, ⟨fun W hW => ?_⟩, HO7, ⟨?_⟩, ⟨?_⟩, HB7⟩
        · rw [List.length_append, List.length_singleton, Nat.succ_mul, ← List.drop_drop]
          exact (HAB.out W (HR.out W hW)).2
        · exact SplF.snoc HSP.out (by rw [if_neg (by have := HL0.out; omega)]) (by rw [HFL2.out, if_neg (by have := HL0.out; omega)]; rfl) rfl HT5.out.symm
        · intro i h1 h2
          rw [List.length_append, List.length_singleton] at h2
          by_cases h3 : i < l.length
          · exact HI.out i h1 h3
          · rw [show i = l.length by omega]
            exact HLT.out
end Go.Proofs.Ytenoaljghbpaaaa
