/-
  Payloads, the program's: data between what stands ahead and padding.
-/
import Derived.Test.YtenoaljghbpaaaaPyD
namespace Go.Proofs.Ytenoaljghbpaaaa
open Go.RowKit
set_option linter.unusedVariables false
set_option linter.unusedSimpArgs false

def padN (fl : Nat) (l : List UInt8) : Nat := if hasN fl 8 then (l.headD 0).toNat else 0
def dataN (ty fl : Nat) (l : List UInt8) : List UInt8 := (l.take (l.length - padN fl l)).drop (aheadN ty fl)
section
variable {ops : Array Oper} {Q : Exit → Act → World → Prop} {a : Act} {w : World} {rest : List Oper}
/-- A store of a whole payload. -/
theorem wpList_storeP {x y : Operand} {tr : TypeId} {pos : String} {af : Array Edge} (g : Nat) (old : Array Value) (A1 A2 : Option Addr) (n1 c1 n2 c2 : Nat) (c st i : Int)
    (hx : a.eval x = .pointer (some ⟨g, 0, none⟩)) (hy : a.eval y = .agg (payA (.slice A1 n1 c1) (.slice A2 n2 c2) c st i)) (hs : Sb 50 w g old) (ho : old.size = 5)
    (h : ∀ w2, Sb 50 w2 g (payA (.slice A1 n1 c1) (.slice A2 n2 c2) c st i) → w.grownBy w2 (some g) → wpList Try.prog ops Q rest (a.put none undef) w2) :
    wpList Try.prog ops Q (⟨none, .store 50 x y, tr, pos, af, none⟩ :: rest) a w :=
  wpList_storeS 50 g old (payA (.slice A1 n1 c1) (.slice A2 n2 c2) c st i) hx hy hs pay_size ho (by simp [payA, Value.oneCell']) h
end
/-- A frame in a block, its cells. -/
theorem Sb.cellsF {w w' : World} {g B : Nat} {T F S : Int} {v : Value} (h : Sb 28 w g #[.int .u8 T, .int .u8 F, .int .u32 S, v]) (hb : Below B w w') (hg : g < B) :
    w'.cell? ⟨g, 0, none⟩ = some (.int .u8 T) ∧ w'.cell? ⟨g, 1, none⟩ = some (.int .u8 F) ∧ w'.cell? ⟨g, 2, none⟩ = some (.int .u32 S) ∧ w'.cell? ⟨g, 3, none⟩ = some v := by
  have h2 := h.below hb hg
  exact ⟨h2.cell 0, h2.cell 1, h2.cell 2, h2.cell 3⟩
set_option maxRecDepth 100000 in
set_option maxHeartbeats 8000000 in
theorem readPadded_no_false (ty fl : Nat) (S : Int) (v : Value) (l : List UInt8) (hty : ty < 256) (hfl : fl < 256) (w : World) (T F : Int) (hT : (ty : Int) = T) (hF : (fl : Int) = F) (hv : Bs w v l) (hl : l.length ≤ 1000000)
    (h8 : hasN fl 8 = true → 0 < l.length) (hno : l.length < aheadN ty fl + padN fl l) (hx : hasN fl 8 = false) :
    Calls Try.prog 84 #[.agg #[.int .u8 T, .int .u8 F, .int .u32 S, v]] w fun e w' => e = .returned (.tuple #[.agg (payA nilV nilV 0 0 0), .int .i64 6]) ∧ Below w.heap.size w w' := by
  have HAH := Bx.mk (fun W => ahead_any ty fl 0 v hty hfl W T F S hT hF)
  have HHS := Bx.mk (fun W => has_any ty fl 0 8 v hfl (by omega) W T F S 8 hF rfl)
  have hlen := fun tr W => hv.run_len tr W
  obtain ⟨A, hA⟩ : ∃ A : Int, (aheadN ty fl : Int) = A := ⟨_, rfl⟩
  obtain ⟨L, hL⟩ : ∃ A : Int, (l.length : Int) = A := ⟨_, rfl⟩
  rw [hA] at HAH
  rw [hL] at hlen
  obtain ⟨p, hp⟩ : ∃ p, padN fl l = p := ⟨_, rfl⟩
  have hp0 := hp
  unfold padN at hp
  rw [hx] at HHS hp h8
  rw [hp0] at hno
  have hp256 : p < 256 := by
    rw [← hp]
    split
    · exact UInt8.toNat_lt _
    · omega
  have HB1 : Bx (Below w.heap.size w ((w.alloc (.cells #[.int .u8 T, .int .u8 F, .int .u32 S, v] 28)).alloc (.cells (payA nilV nilV 0 0 0) 50))) := ⟨((Below.refl _ _).alloc (Nat.le_refl _) _).alloc (by simp) _⟩
  have HF1 : Bx (Sb 28 ((w.alloc (.cells #[.int .u8 T, .int .u8 F, .int .u32 S, v] 28)).alloc (.cells (payA nilV nilV 0 0 0) 50)) w.heap.size #[.int .u8 T, .int .u8 F, .int .u32 S, v]) := ⟨(Sb.new _ w _).alloc _⟩
  have HZ1 : Bx (Sb 50 ((w.alloc (.cells #[.int .u8 T, .int .u8 F, .int .u32 S, v] 28)).alloc (.cells (payA nilV nilV 0 0 0) 50)) (w.heap.size + 1) (payA nilV nilV 0 0 0)) := ⟨Sb.newg _ _ _ (by simp) _⟩
  have HV := Bx.mk hv
  have HLM := Bx.mk hl
  simp only [Bool.false_eq_true, if_false] at hp
  obtain rfl : p = 0 := hp.symm
  have hs : wrap64 L = L := by unfold wrap64; omega
  have hlt : decide (L < A) = true := decide_eq_true (by omega)
  clear hT hF hty hfl hA hp0 hp hx hp256 hno hv hl h8
  go_enter Try.func84, Try.ntmps84
  go_upto_region 1 with fail
  obtain ⟨w1, hw1⟩ : ∃ W, (w.alloc (.cells #[.int .u8 T, .int .u8 F, .int .u32 S, v] 28)).alloc (.cells (payA nilV nilV 0 0 0) 50) = W := ⟨_, rfl⟩
  obtain ⟨g1, hg1⟩ : ∃ g, w.heap.size = g := ⟨_, rfl⟩
  obtain ⟨g2, hg2⟩ : ∃ g, w.heap.size + 1 = g := ⟨_, rfl⟩
  rw [hw1] at HB1 HF1 HZ1 ⊢
  have HBW := HB1
  rw [hg1] at HF1 ⊢
  rw [hg1, show g1 + 1 = g2 by omega] at HZ1
  rw [show g1 + 1 = g2 by omega]
  have HG : Bx (g1 < w1.heap.size ∧ g2 < w1.heap.size ∧ w.heap.size ≤ g2) := ⟨HF1.out.lt, HZ1.out.lt, by omega⟩
  obtain ⟨c0, c1, c2, c3⟩ := HF1.out.cellsF (Below.refl w1.heap.size w1) HG.out.1
  clear hw1 hg1 hg2
  go_wp2_with (first
    | (go_at_call 110; refine (HAH.out _).mono ?_; rintro e w2 ⟨rfl, b2⟩; clear c0 c1 c2 c3; have HC := Bx.mk (b2); obtain ⟨c0, c1, c2, c3⟩ := HF1.out.cellsF HC.out HG.out.1; clear b2)
    | (go_at_call 111; refine (HHS.out _).mono ?_; rintro e w3 ⟨rfl, b3⟩; clear c0 c1 c2 c3; replace HC := Bx.mk (HC.out.trans (b3.mono HC.out.size)); obtain ⟨c0, c1, c2, c3⟩ := HF1.out.cellsF HC.out HG.out.1; clear b3)
    | (with_reducible refine wpList_storeP g2 _ none none 0 0 0 0 0 0 0 rfl rfl (HZ1.out.below HC.out HG.out.2.1) rfl ?_; intro w6 hs6 hg6; have HS6 := Bx.mk hs6; have HB6 := Bx.mk ((HBW.out.trans (HC.out.mono HBW.out.size)).grown hg6 (HBW.out.trans (HC.out.mono HBW.out.size)).size (fun k hk => by injection hk with hk; have := HG.out.2.2; omega)); clear hs6 hg6))
  exact bodyPost_ret (ret_S Try.results84 _ _ g2 50 (payA nilV nilV 0 0 0) _ _ rfl rfl HS6.out Try.underlying50 rfl pay_size) rfl ⟨rfl, HB6.out⟩
set_option maxRecDepth 100000 in
set_option maxHeartbeats 8000000 in
theorem readPadded_ok_false_false (ty fl : Nat) (S : Int) (v : Value) (l : List UInt8) (hty : ty < 256) (hfl : fl < 256) (w : World) (T F : Int) (hT : (ty : Int) = T) (hF : (fl : Int) = F) (hv : Bs w v l) (hl : l.length ≤ 1000000)
    (h8 : hasN fl 8 = true → 0 < l.length) (hno : ¬ l.length < aheadN ty fl + padN fl l) (hx : hasN fl 8 = false) (h5 : ¬ ty = 5) :
    Calls Try.prog 84 #[.agg #[.int .u8 T, .int .u8 F, .int .u32 S, v]] w fun e w' => ∃ u, e = .returned (.tuple #[.agg (payA u nilV 0 0 0), .int .i64 0]) ∧ OwB w' w.heap.size u (dataN ty fl l) ∧ Below w.heap.size w w' := by
  have hdt : dataN ty fl l = (l.take (l.length - padN fl l)).drop (aheadN ty fl) := rfl
  have HAH := Bx.mk (fun W => ahead_any ty fl 0 v hty hfl W T F S hT hF)
  have HHS := Bx.mk (fun W => has_any ty fl 0 8 v hfl (by omega) W T F S 8 hF rfl)
  have hlen := fun tr W => hv.run_len tr W
  obtain ⟨A, hA⟩ : ∃ A : Int, (aheadN ty fl : Int) = A := ⟨_, rfl⟩
  obtain ⟨L, hL⟩ : ∃ A : Int, (l.length : Int) = A := ⟨_, rfl⟩
  rw [hA] at HAH
  rw [hL] at hlen
  obtain ⟨p, hp⟩ : ∃ p, padN fl l = p := ⟨_, rfl⟩
  have hp0 := hp
  unfold padN at hp
  rw [hx] at HHS hp h8
  rw [hp0] at hno
  have hp256 : p < 256 := by
    rw [← hp]
    split
    · exact UInt8.toNat_lt _
    · omega
  have HB1 : Bx (Below w.heap.size w ((w.alloc (.cells #[.int .u8 T, .int .u8 F, .int .u32 S, v] 28)).alloc (.cells (payA nilV nilV 0 0 0) 50))) := ⟨((Below.refl _ _).alloc (Nat.le_refl _) _).alloc (by simp) _⟩
  have HF1 : Bx (Sb 28 ((w.alloc (.cells #[.int .u8 T, .int .u8 F, .int .u32 S, v] 28)).alloc (.cells (payA nilV nilV 0 0 0) 50)) w.heap.size #[.int .u8 T, .int .u8 F, .int .u32 S, v]) := ⟨(Sb.new _ w _).alloc _⟩
  have HZ1 : Bx (Sb 50 ((w.alloc (.cells #[.int .u8 T, .int .u8 F, .int .u32 S, v] 28)).alloc (.cells (payA nilV nilV 0 0 0) 50)) (w.heap.size + 1) (payA nilV nilV 0 0 0)) := ⟨Sb.newg _ _ _ (by simp) _⟩
  have HV := Bx.mk hv
  have HLM := Bx.mk hl
  simp only [Bool.false_eq_true, if_false] at hp
  obtain rfl : p = 0 := hp.symm
  have hs : wrap64 L = L := by unfold wrap64; omega
  have hlt : decide (L < A) = false := decide_eq_false (by omega)
  obtain ⟨vm, hsl, hvm0⟩ := hv.mid A L (by omega) (by omega) (by omega)
  have hvm : ∀ W, Bs W v l → Bs W vm (dataN ty fl l) := fun W h => by
    have h2 := hvm0 W h
    rw [show L.toNat = l.length - 0 by omega, show A.toNat = aheadN ty fl by omega] at h2
    rw [hdt, hp0]
    exact h2
  have hdl : (dataN ty fl l).length ≤ 1000000 := by rw [hdt, List.length_drop, List.length_take]; omega
  obtain ⟨D, hD⟩ : ∃ D, dataN ty fl l = D := ⟨_, rfl⟩
  rw [hD] at hvm hdl ⊢
  have HVM := Bx.mk (hvm w hv)
  have HDL := Bx.mk hdl
  have h5f : (T == 5) = false := by rw [beq_eq_false_iff_ne]; omega
  clear hT hF hty hfl hA hp0 hp hx hp256 hno hv hl h8 hdt hD hdl h5
  clear hvm hvm0 hL
  go_enter Try.func84, Try.ntmps84
  go_upto_region 1 with fail
  obtain ⟨w1, hw1⟩ : ∃ W, (w.alloc (.cells #[.int .u8 T, .int .u8 F, .int .u32 S, v] 28)).alloc (.cells (payA nilV nilV 0 0 0) 50) = W := ⟨_, rfl⟩
  obtain ⟨g1, hg1⟩ : ∃ g, w.heap.size = g := ⟨_, rfl⟩
  obtain ⟨g2, hg2⟩ : ∃ g, w.heap.size + 1 = g := ⟨_, rfl⟩
  rw [hw1] at HB1 HF1 HZ1 ⊢
  have HBW := HB1
  rw [hg1] at HF1 ⊢
  rw [hg1, show g1 + 1 = g2 by omega] at HZ1
  rw [show g1 + 1 = g2 by omega]
  have HG : Bx (g1 < w1.heap.size ∧ g2 < w1.heap.size ∧ w.heap.size ≤ g2) := ⟨HF1.out.lt, HZ1.out.lt, by omega⟩
  obtain ⟨c0, c1, c2, c3⟩ := HF1.out.cellsF (Below.refl w1.heap.size w1) HG.out.1
  clear hw1 hg1 hg2
  go_wp2_with (first
    | (go_at_call 110; refine (HAH.out _).mono ?_; rintro e w2 ⟨rfl, b2⟩; clear c0 c1 c2 c3; have HC := Bx.mk (b2); obtain ⟨c0, c1, c2, c3⟩ := HF1.out.cellsF HC.out HG.out.1; clear b2)
    | (go_at_call 111; refine (HHS.out _).mono ?_; rintro e w3 ⟨rfl, b3⟩; clear c0 c1 c2 c3; replace HC := Bx.mk (HC.out.trans (b3.mono HC.out.size)); obtain ⟨c0, c1, c2, c3⟩ := HF1.out.cellsF HC.out HG.out.1; clear b3)
    | (go_at_call 85; refine (clone_any w1.heap.size vm D _ (HVM.out.keep (HBW.out.trans (HC.out.mono HBW.out.size))) HC.out.size HDL.out).mono ?_; rintro e w5 ⟨u, rfl, hu, b5⟩; obtain ⟨A0, n0, cc0, rfl⟩ := hu.shape; clear c0 c1 c2 c3; have HD := Bx.mk (HC.out.trans b5); have HD2 := Bx.mk (HD.out.alloc HD.out.size (.cells (payA (.slice A0 n0 cc0) nilV 0 0 0) 50)); obtain ⟨c0, c1, c2, c3⟩ := HF1.out.cellsF (HD.out.alloc HD.out.size (.cells (payA (.slice A0 n0 cc0) nilV 0 0 0) 50)) HG.out.1; have HZ6 := Bx.mk (HZ1.out.below HD2.out HG.out.2.1); have HU := Bx.mk (hu.alloc (.cells (payA (.slice A0 n0 cc0) nilV 0 0 0) 50)); clear hu b5)
    | (with_reducible refine wpList_storeP g2 _ A0 none n0 cc0 0 0 0 0 0 rfl rfl HZ6.out rfl ?_; intro w8 hs8 hg8; have HS8 := Bx.mk hs8; have HU8 := Bx.mk (HU.out.grownO hg8 HG.out.2.1); have HB8 := Bx.mk ((HBW.out.trans (HD2.out.mono HBW.out.size)).grown hg8 (HBW.out.trans (HD2.out.mono HBW.out.size)).size (fun k hk => by injection hk with hk; have := HG.out.2.2; omega)); clear hs8 hg8))
  exact bodyPost_ret (ret_S Try.results84 _ _ g2 50 (payA (.slice A0 n0 cc0) nilV 0 0 0) _ _ rfl rfl HS8.out Try.underlying50 rfl pay_size) rfl ⟨_, rfl, HU8.out.mono HBW.out.size, HB8.out⟩
set_option maxRecDepth 100000 in
set_option maxHeartbeats 8000000 in
theorem readPadded_ok_false_true (ty fl : Nat) (S : Int) (v : Value) (l : List UInt8) (hty : ty < 256) (hfl : fl < 256) (w : World) (T F : Int) (hT : (ty : Int) = T) (hF : (fl : Int) = F) (hv : Bs w v l) (hl : l.length ≤ 1000000)
    (h8 : hasN fl 8 = true → 0 < l.length) (hno : ¬ l.length < aheadN ty fl + padN fl l) (hx : hasN fl 8 = false) (h5 : ty = 5) :
    Calls Try.prog 84 #[.agg #[.int .u8 T, .int .u8 F, .int .u32 S, v]] w fun e w' => ∃ u, e = .returned (.tuple #[.agg (payA u nilV 0 ((be4 (l.drop (aheadN ty fl - 4)) % 2147483648 : Nat) : Int) 0), .int .i64 0]) ∧ OwB w' w.heap.size u (dataN ty fl l) ∧ Below w.heap.size w w' := by
  have hdt : dataN ty fl l = (l.take (l.length - padN fl l)).drop (aheadN ty fl) := rfl
  have HAH := Bx.mk (fun W => ahead_any ty fl 0 v hty hfl W T F S hT hF)
  have HHS := Bx.mk (fun W => has_any ty fl 0 8 v hfl (by omega) W T F S 8 hF rfl)
  have hlen := fun tr W => hv.run_len tr W
  obtain ⟨A, hA⟩ : ∃ A : Int, (aheadN ty fl : Int) = A := ⟨_, rfl⟩
  obtain ⟨L, hL⟩ : ∃ A : Int, (l.length : Int) = A := ⟨_, rfl⟩
  rw [hA] at HAH
  rw [hL] at hlen
  obtain ⟨p, hp⟩ : ∃ p, padN fl l = p := ⟨_, rfl⟩
  have hp0 := hp
  unfold padN at hp
  rw [hx] at HHS hp h8
  rw [hp0] at hno
  have hp256 : p < 256 := by
    rw [← hp]
    split
    · exact UInt8.toNat_lt _
    · omega
  have HB1 : Bx (Below w.heap.size w ((w.alloc (.cells #[.int .u8 T, .int .u8 F, .int .u32 S, v] 28)).alloc (.cells (payA nilV nilV 0 0 0) 50))) := ⟨((Below.refl _ _).alloc (Nat.le_refl _) _).alloc (by simp) _⟩
  have HF1 : Bx (Sb 28 ((w.alloc (.cells #[.int .u8 T, .int .u8 F, .int .u32 S, v] 28)).alloc (.cells (payA nilV nilV 0 0 0) 50)) w.heap.size #[.int .u8 T, .int .u8 F, .int .u32 S, v]) := ⟨(Sb.new _ w _).alloc _⟩
  have HZ1 : Bx (Sb 50 ((w.alloc (.cells #[.int .u8 T, .int .u8 F, .int .u32 S, v] 28)).alloc (.cells (payA nilV nilV 0 0 0) 50)) (w.heap.size + 1) (payA nilV nilV 0 0 0)) := ⟨Sb.newg _ _ _ (by simp) _⟩
  have HV := Bx.mk hv
  have HLM := Bx.mk hl
  simp only [Bool.false_eq_true, if_false] at hp
  obtain rfl : p = 0 := hp.symm
  have hs : wrap64 L = L := by unfold wrap64; omega
  have hlt : decide (L < A) = false := decide_eq_false (by omega)
  obtain ⟨vm, hsl, hvm0⟩ := hv.mid A L (by omega) (by omega) (by omega)
  have hvm : ∀ W, Bs W v l → Bs W vm (dataN ty fl l) := fun W h => by
    have h2 := hvm0 W h
    rw [show L.toNat = l.length - 0 by omega, show A.toNat = aheadN ty fl by omega] at h2
    rw [hdt, hp0]
    exact h2
  have hdl : (dataN ty fl l).length ≤ 1000000 := by rw [hdt, List.length_drop, List.length_take]; omega
  obtain ⟨D, hD⟩ : ∃ D, dataN ty fl l = D := ⟨_, rfl⟩
  rw [hD] at hvm hdl ⊢
  have HVM := Bx.mk (hvm w hv)
  have HDL := Bx.mk hdl
  have h5f : (T == 5) = true := by rw [beq_iff_eq]; omega
  have ha4 : 4 ≤ aheadN ty fl := by unfold aheadN; rw [if_pos h5]; omega
  obtain ⟨A4, hA4⟩ : ∃ A4 : Int, ((aheadN ty fl - 4 : Nat) : Int) = A4 := ⟨_, rfl⟩
  have hw4 : wrap64 (A - 4) = A4 := by unfold wrap64; omega
  obtain ⟨vq, hsq, hvq0⟩ := hv.from_ A4 (by omega) (by omega)
  have hvq : Bs w vq (l.drop (aheadN ty fl - 4)) := by
    have h2 := hvq0 w hv
    rw [show A4.toNat = aheadN ty fl - 4 by omega] at h2
    exact h2
  have HLO := Bx.mk (fun W (h : Bs W vq (l.drop (aheadN ty fl - 4))) => low_any vq _ W h (by rw [List.length_drop]; omega) (by rw [List.length_drop]; omega))
  have HVQ := Bx.mk hvq
  obtain ⟨QL, hQL⟩ : ∃ QL, l.drop (aheadN ty fl - 4) = QL := ⟨_, rfl⟩
  rw [hQL] at HLO HVQ ⊢
  obtain ⟨M, hM⟩ : ∃ M : Int, ((be4 QL % 2147483648 : Nat) : Int) = M := ⟨_, rfl⟩
  rw [hM] at HLO ⊢
  clear hT hF hty hfl hA hp0 hp hx hp256 hno hv hl h8 hdt hD hdl h5
  clear hvq hvq0 hM hQL ha4 hA4
  clear hvm hvm0 hL
  go_enter Try.func84, Try.ntmps84
  go_upto_region 1 with fail
  obtain ⟨w1, hw1⟩ : ∃ W, (w.alloc (.cells #[.int .u8 T, .int .u8 F, .int .u32 S, v] 28)).alloc (.cells (payA nilV nilV 0 0 0) 50) = W := ⟨_, rfl⟩
  obtain ⟨g1, hg1⟩ : ∃ g, w.heap.size = g := ⟨_, rfl⟩
  obtain ⟨g2, hg2⟩ : ∃ g, w.heap.size + 1 = g := ⟨_, rfl⟩
  rw [hw1] at HB1 HF1 HZ1 ⊢
  have HBW := HB1
  rw [hg1] at HF1 ⊢
  rw [hg1, show g1 + 1 = g2 by omega] at HZ1
  rw [show g1 + 1 = g2 by omega]
  have HG : Bx (g1 < w1.heap.size ∧ g2 < w1.heap.size ∧ w.heap.size ≤ g2) := ⟨HF1.out.lt, HZ1.out.lt, by omega⟩
  obtain ⟨c0, c1, c2, c3⟩ := HF1.out.cellsF (Below.refl w1.heap.size w1) HG.out.1
  clear hw1 hg1 hg2
  go_wp2_with (first
    | (go_at_call 110; refine (HAH.out _).mono ?_; rintro e w2 ⟨rfl, b2⟩; clear c0 c1 c2 c3; have HC := Bx.mk (b2); obtain ⟨c0, c1, c2, c3⟩ := HF1.out.cellsF HC.out HG.out.1; clear b2)
    | (go_at_call 111; refine (HHS.out _).mono ?_; rintro e w3 ⟨rfl, b3⟩; clear c0 c1 c2 c3; replace HC := Bx.mk (HC.out.trans (b3.mono HC.out.size)); obtain ⟨c0, c1, c2, c3⟩ := HF1.out.cellsF HC.out HG.out.1; clear b3)
    | (go_at_call 85; refine (clone_any w1.heap.size vm D _ (HVM.out.keep (HBW.out.trans (HC.out.mono HBW.out.size))) HC.out.size HDL.out).mono ?_; rintro e w5 ⟨u, rfl, hu, b5⟩; obtain ⟨A0, n0, cc0, rfl⟩ := hu.shape; clear c0 c1 c2 c3; have HD := Bx.mk (HC.out.trans b5); have HD2 := Bx.mk (HD.out.alloc HD.out.size (.cells (payA (.slice A0 n0 cc0) nilV 0 M 0) 50)); obtain ⟨c0, c1, c2, c3⟩ := HF1.out.cellsF (HD.out.alloc HD.out.size (.cells (payA (.slice A0 n0 cc0) nilV 0 0 0) 50)) HG.out.1; have HZ6 := Bx.mk (HZ1.out.below HD2.out HG.out.2.1); have HU := Bx.mk (hu.alloc (.cells (payA (.slice A0 n0 cc0) nilV 0 M 0) 50)); have HLW := Bx.mk (HLO.out (w5.alloc (.cells (payA (.slice A0 n0 cc0) nilV 0 0 0) 50)) (HVQ.out.keep (HBW.out.trans ((HD.out.alloc HD.out.size (.cells (payA (.slice A0 n0 cc0) nilV 0 0 0) 50)).mono HBW.out.size)))); clear hu b5)
    | (go_at_call 86; refine HLW.out.mono ?_; rintro e wl ⟨rfl, hwl⟩; subst hwl)
    | (with_reducible refine wpList_storeP g2 _ A0 none n0 cc0 0 0 0 M 0 rfl rfl HZ6.out rfl ?_; intro w8 hs8 hg8; have HS8 := Bx.mk hs8; have HU8 := Bx.mk (HU.out.grownO hg8 HG.out.2.1); have HB8 := Bx.mk ((HBW.out.trans (HD2.out.mono HBW.out.size)).grown hg8 (HBW.out.trans (HD2.out.mono HBW.out.size)).size (fun k hk => by injection hk with hk; have := HG.out.2.2; omega)); clear hs8 hg8))
  exact bodyPost_ret (ret_S Try.results84 _ _ g2 50 (payA (.slice A0 n0 cc0) nilV 0 M 0) _ _ rfl rfl HS8.out Try.underlying50 rfl pay_size) rfl ⟨_, rfl, HU8.out.mono HBW.out.size, HB8.out⟩
set_option maxRecDepth 100000 in
set_option maxHeartbeats 8000000 in
theorem readPadded_no_true (ty fl : Nat) (S : Int) (v : Value) (l : List UInt8) (hty : ty < 256) (hfl : fl < 256) (w : World) (T F : Int) (hT : (ty : Int) = T) (hF : (fl : Int) = F) (hv : Bs w v l) (hl : l.length ≤ 1000000)
    (h8 : hasN fl 8 = true → 0 < l.length) (hno : l.length < aheadN ty fl + padN fl l) (hx : hasN fl 8 = true) :
    Calls Try.prog 84 #[.agg #[.int .u8 T, .int .u8 F, .int .u32 S, v]] w fun e w' => e = .returned (.tuple #[.agg (payA nilV nilV 0 0 0), .int .i64 6]) ∧ Below w.heap.size w w' := by
  have HAH := Bx.mk (fun W => ahead_any ty fl 0 v hty hfl W T F S hT hF)
  have HHS := Bx.mk (fun W => has_any ty fl 0 8 v hfl (by omega) W T F S 8 hF rfl)
  have hlen := fun tr W => hv.run_len tr W
  obtain ⟨A, hA⟩ : ∃ A : Int, (aheadN ty fl : Int) = A := ⟨_, rfl⟩
  obtain ⟨L, hL⟩ : ∃ A : Int, (l.length : Int) = A := ⟨_, rfl⟩
  rw [hA] at HAH
  rw [hL] at hlen
  obtain ⟨p, hp⟩ : ∃ p, padN fl l = p := ⟨_, rfl⟩
  have hp0 := hp
  unfold padN at hp
  rw [hx] at HHS hp h8
  rw [hp0] at hno
  have hp256 : p < 256 := by
    rw [← hp]
    split
    · exact UInt8.toNat_lt _
    · omega
  have HB1 : Bx (Below w.heap.size w ((w.alloc (.cells #[.int .u8 T, .int .u8 F, .int .u32 S, v] 28)).alloc (.cells (payA nilV nilV 0 0 0) 50))) := ⟨((Below.refl _ _).alloc (Nat.le_refl _) _).alloc (by simp) _⟩
  have HF1 : Bx (Sb 28 ((w.alloc (.cells #[.int .u8 T, .int .u8 F, .int .u32 S, v] 28)).alloc (.cells (payA nilV nilV 0 0 0) 50)) w.heap.size #[.int .u8 T, .int .u8 F, .int .u32 S, v]) := ⟨(Sb.new _ w _).alloc _⟩
  have HZ1 : Bx (Sb 50 ((w.alloc (.cells #[.int .u8 T, .int .u8 F, .int .u32 S, v] 28)).alloc (.cells (payA nilV nilV 0 0 0) 50)) (w.heap.size + 1) (payA nilV nilV 0 0 0)) := ⟨Sb.newg _ _ _ (by simp) _⟩
  have HV := Bx.mk hv
  have HLM := Bx.mk hl
  simp only [if_true] at hp
  have hl0 := h8 rfl
  obtain ⟨pa, hix0, hca0⟩ := hv.at_ 0 hl0
  have hix : ∀ W : World, (Instr.indexAt 22 v (.int .i64 0)).run Try.prog W = .ok (.pointer (some pa)) W := fun W => hix0 W
  obtain ⟨P, hP⟩ : ∃ P : Int, (p : Int) = P := ⟨_, rfl⟩
  have hca1 : w.cell? pa = some (.int .u8 P) := by
    rw [hca0 w hv, ← hP, ← hp]
    cases l with
    | nil => simp at hl0
    | cons c l => rfl
  have hplt : pa.block < w.heap.size := World.block_lt_of_cell? w pa hca1
  have HCA : Bx (∀ W, Below w.heap.size w W → W.cell? pa = some (.int .u8 P)) := ⟨fun W h => by rw [h.cell hplt]; exact hca1⟩
  have hwp : wrap64 P = P := by unfold wrap64; omega
  have hwp2 : IntKind.i64.wrap P = P := by rw [IntKind.wrap_i64]; omega
  obtain ⟨E, hE⟩ : ∃ E : Int, L - P = E := ⟨_, rfl⟩
  have hs : wrap64 E = E := by unfold wrap64; omega
  have hlt : decide (E < A) = true := decide_eq_true (by omega)
  clear hT hF hty hfl hA hp0 hp hx hp256 hno hv hl h8
  go_enter Try.func84, Try.ntmps84
  go_upto_region 1 with fail
  obtain ⟨w1, hw1⟩ : ∃ W, (w.alloc (.cells #[.int .u8 T, .int .u8 F, .int .u32 S, v] 28)).alloc (.cells (payA nilV nilV 0 0 0) 50) = W := ⟨_, rfl⟩
  obtain ⟨g1, hg1⟩ : ∃ g, w.heap.size = g := ⟨_, rfl⟩
  obtain ⟨g2, hg2⟩ : ∃ g, w.heap.size + 1 = g := ⟨_, rfl⟩
  rw [hw1] at HB1 HF1 HZ1 ⊢
  have HBW := HB1
  rw [hg1] at HF1 ⊢
  rw [hg1, show g1 + 1 = g2 by omega] at HZ1
  rw [show g1 + 1 = g2 by omega]
  have HG : Bx (g1 < w1.heap.size ∧ g2 < w1.heap.size ∧ w.heap.size ≤ g2) := ⟨HF1.out.lt, HZ1.out.lt, by omega⟩
  obtain ⟨c0, c1, c2, c3⟩ := HF1.out.cellsF (Below.refl w1.heap.size w1) HG.out.1
  clear hw1 hg1 hg2
  go_wp2_with (first
    | (go_at_call 110; refine (HAH.out _).mono ?_; rintro e w2 ⟨rfl, b2⟩; clear c0 c1 c2 c3; have HC := Bx.mk (b2); obtain ⟨c0, c1, c2, c3⟩ := HF1.out.cellsF HC.out HG.out.1; clear b2)
    | (go_at_call 111; refine (HHS.out _).mono ?_; rintro e w3 ⟨rfl, b3⟩; clear c0 c1 c2 c3; replace HC := Bx.mk (HC.out.trans (b3.mono HC.out.size)); obtain ⟨c0, c1, c2, c3⟩ := HF1.out.cellsF HC.out HG.out.1; have hca := HCA.out w3 (HBW.out.trans (HC.out.mono HBW.out.size)); clear b3)
    | (with_reducible refine wpList_storeP g2 _ none none 0 0 0 0 0 0 0 rfl rfl (HZ1.out.below HC.out HG.out.2.1) rfl ?_; intro w6 hs6 hg6; have HS6 := Bx.mk hs6; have HB6 := Bx.mk ((HBW.out.trans (HC.out.mono HBW.out.size)).grown hg6 (HBW.out.trans (HC.out.mono HBW.out.size)).size (fun k hk => by injection hk with hk; have := HG.out.2.2; omega)); clear hs6 hg6))
  exact bodyPost_ret (ret_S Try.results84 _ _ g2 50 (payA nilV nilV 0 0 0) _ _ rfl rfl HS6.out Try.underlying50 rfl pay_size) rfl ⟨rfl, HB6.out⟩
set_option maxRecDepth 100000 in
set_option maxHeartbeats 8000000 in
theorem readPadded_ok_true_false (ty fl : Nat) (S : Int) (v : Value) (l : List UInt8) (hty : ty < 256) (hfl : fl < 256) (w : World) (T F : Int) (hT : (ty : Int) = T) (hF : (fl : Int) = F) (hv : Bs w v l) (hl : l.length ≤ 1000000)
    (h8 : hasN fl 8 = true → 0 < l.length) (hno : ¬ l.length < aheadN ty fl + padN fl l) (hx : hasN fl 8 = true) (h5 : ¬ ty = 5) :
    Calls Try.prog 84 #[.agg #[.int .u8 T, .int .u8 F, .int .u32 S, v]] w fun e w' => ∃ u, e = .returned (.tuple #[.agg (payA u nilV 0 0 0), .int .i64 0]) ∧ OwB w' w.heap.size u (dataN ty fl l) ∧ Below w.heap.size w w' := by
  have hdt : dataN ty fl l = (l.take (l.length - padN fl l)).drop (aheadN ty fl) := rfl
  have HAH := Bx.mk (fun W => ahead_any ty fl 0 v hty hfl W T F S hT hF)
  have HHS := Bx.mk (fun W => has_any ty fl 0 8 v hfl (by omega) W T F S 8 hF rfl)
  have hlen := fun tr W => hv.run_len tr W
  obtain ⟨A, hA⟩ : ∃ A : Int, (aheadN ty fl : Int) = A := ⟨_, rfl⟩
  obtain ⟨L, hL⟩ : ∃ A : Int, (l.length : Int) = A := ⟨_, rfl⟩
  rw [hA] at HAH
  rw [hL] at hlen
  obtain ⟨p, hp⟩ : ∃ p, padN fl l = p := ⟨_, rfl⟩
  have hp0 := hp
  unfold padN at hp
  rw [hx] at HHS hp h8
  rw [hp0] at hno
  have hp256 : p < 256 := by
    rw [← hp]
    split
    · exact UInt8.toNat_lt _
    · omega
  have HB1 : Bx (Below w.heap.size w ((w.alloc (.cells #[.int .u8 T, .int .u8 F, .int .u32 S, v] 28)).alloc (.cells (payA nilV nilV 0 0 0) 50))) := ⟨((Below.refl _ _).alloc (Nat.le_refl _) _).alloc (by simp) _⟩
  have HF1 : Bx (Sb 28 ((w.alloc (.cells #[.int .u8 T, .int .u8 F, .int .u32 S, v] 28)).alloc (.cells (payA nilV nilV 0 0 0) 50)) w.heap.size #[.int .u8 T, .int .u8 F, .int .u32 S, v]) := ⟨(Sb.new _ w _).alloc _⟩
  have HZ1 : Bx (Sb 50 ((w.alloc (.cells #[.int .u8 T, .int .u8 F, .int .u32 S, v] 28)).alloc (.cells (payA nilV nilV 0 0 0) 50)) (w.heap.size + 1) (payA nilV nilV 0 0 0)) := ⟨Sb.newg _ _ _ (by simp) _⟩
  have HV := Bx.mk hv
  have HLM := Bx.mk hl
  simp only [if_true] at hp
  have hl0 := h8 rfl
  obtain ⟨pa, hix0, hca0⟩ := hv.at_ 0 hl0
  have hix : ∀ W : World, (Instr.indexAt 22 v (.int .i64 0)).run Try.prog W = .ok (.pointer (some pa)) W := fun W => hix0 W
  obtain ⟨P, hP⟩ : ∃ P : Int, (p : Int) = P := ⟨_, rfl⟩
  have hca1 : w.cell? pa = some (.int .u8 P) := by
    rw [hca0 w hv, ← hP, ← hp]
    cases l with
    | nil => simp at hl0
    | cons c l => rfl
  have hplt : pa.block < w.heap.size := World.block_lt_of_cell? w pa hca1
  have HCA : Bx (∀ W, Below w.heap.size w W → W.cell? pa = some (.int .u8 P)) := ⟨fun W h => by rw [h.cell hplt]; exact hca1⟩
  have hwp : wrap64 P = P := by unfold wrap64; omega
  have hwp2 : IntKind.i64.wrap P = P := by rw [IntKind.wrap_i64]; omega
  obtain ⟨E, hE⟩ : ∃ E : Int, L - P = E := ⟨_, rfl⟩
  have hs : wrap64 E = E := by unfold wrap64; omega
  have hlt : decide (E < A) = false := decide_eq_false (by omega)
  obtain ⟨vm, hsl, hvm0⟩ := hv.mid A E (by omega) (by omega) (by omega)
  have hvm : ∀ W, Bs W v l → Bs W vm (dataN ty fl l) := fun W h => by
    have h2 := hvm0 W h
    rw [show E.toNat = l.length - p by omega, show A.toNat = aheadN ty fl by omega] at h2
    rw [hdt, hp0]
    exact h2
  have hdl : (dataN ty fl l).length ≤ 1000000 := by rw [hdt, List.length_drop, List.length_take]; omega
  obtain ⟨D, hD⟩ : ∃ D, dataN ty fl l = D := ⟨_, rfl⟩
  rw [hD] at hvm hdl ⊢
  have HVM := Bx.mk (hvm w hv)
  have HDL := Bx.mk hdl
  have h5f : (T == 5) = false := by rw [beq_eq_false_iff_ne]; omega
  clear hT hF hty hfl hA hp0 hp hx hp256 hno hv hl h8 hdt hD hdl h5
  clear hvm hvm0 hL
  go_enter Try.func84, Try.ntmps84
  go_upto_region 1 with fail
  obtain ⟨w1, hw1⟩ : ∃ W, (w.alloc (.cells #[.int .u8 T, .int .u8 F, .int .u32 S, v] 28)).alloc (.cells (payA nilV nilV 0 0 0) 50) = W := ⟨_, rfl⟩
  obtain ⟨g1, hg1⟩ : ∃ g, w.heap.size = g := ⟨_, rfl⟩
  obtain ⟨g2, hg2⟩ : ∃ g, w.heap.size + 1 = g := ⟨_, rfl⟩
  rw [hw1] at HB1 HF1 HZ1 ⊢
  have HBW := HB1
  rw [hg1] at HF1 ⊢
  rw [hg1, show g1 + 1 = g2 by omega] at HZ1
  rw [show g1 + 1 = g2 by omega]
  have HG : Bx (g1 < w1.heap.size ∧ g2 < w1.heap.size ∧ w.heap.size ≤ g2) := ⟨HF1.out.lt, HZ1.out.lt, by omega⟩
  obtain ⟨c0, c1, c2, c3⟩ := HF1.out.cellsF (Below.refl w1.heap.size w1) HG.out.1
  clear hw1 hg1 hg2
  go_wp2_with (first
    | (go_at_call 110; refine (HAH.out _).mono ?_; rintro e w2 ⟨rfl, b2⟩; clear c0 c1 c2 c3; have HC := Bx.mk (b2); obtain ⟨c0, c1, c2, c3⟩ := HF1.out.cellsF HC.out HG.out.1; clear b2)
    | (go_at_call 111; refine (HHS.out _).mono ?_; rintro e w3 ⟨rfl, b3⟩; clear c0 c1 c2 c3; replace HC := Bx.mk (HC.out.trans (b3.mono HC.out.size)); obtain ⟨c0, c1, c2, c3⟩ := HF1.out.cellsF HC.out HG.out.1; have hca := HCA.out w3 (HBW.out.trans (HC.out.mono HBW.out.size)); clear b3)
    | (go_at_call 85; refine (clone_any w1.heap.size vm D _ (HVM.out.keep (HBW.out.trans (HC.out.mono HBW.out.size))) HC.out.size HDL.out).mono ?_; rintro e w5 ⟨u, rfl, hu, b5⟩; obtain ⟨A0, n0, cc0, rfl⟩ := hu.shape; clear c0 c1 c2 c3; have HD := Bx.mk (HC.out.trans b5); have HD2 := Bx.mk (HD.out.alloc HD.out.size (.cells (payA (.slice A0 n0 cc0) nilV 0 0 0) 50)); obtain ⟨c0, c1, c2, c3⟩ := HF1.out.cellsF (HD.out.alloc HD.out.size (.cells (payA (.slice A0 n0 cc0) nilV 0 0 0) 50)) HG.out.1; have HZ6 := Bx.mk (HZ1.out.below HD2.out HG.out.2.1); have HU := Bx.mk (hu.alloc (.cells (payA (.slice A0 n0 cc0) nilV 0 0 0) 50)); clear hu b5)
    | (with_reducible refine wpList_storeP g2 _ A0 none n0 cc0 0 0 0 0 0 rfl rfl HZ6.out rfl ?_; intro w8 hs8 hg8; have HS8 := Bx.mk hs8; have HU8 := Bx.mk (HU.out.grownO hg8 HG.out.2.1); have HB8 := Bx.mk ((HBW.out.trans (HD2.out.mono HBW.out.size)).grown hg8 (HBW.out.trans (HD2.out.mono HBW.out.size)).size (fun k hk => by injection hk with hk; have := HG.out.2.2; omega)); clear hs8 hg8))
  exact bodyPost_ret (ret_S Try.results84 _ _ g2 50 (payA (.slice A0 n0 cc0) nilV 0 0 0) _ _ rfl rfl HS8.out Try.underlying50 rfl pay_size) rfl ⟨_, rfl, HU8.out.mono HBW.out.size, HB8.out⟩
set_option maxRecDepth 100000 in
set_option maxHeartbeats 8000000 in
theorem readPadded_ok_true_true (ty fl : Nat) (S : Int) (v : Value) (l : List UInt8) (hty : ty < 256) (hfl : fl < 256) (w : World) (T F : Int) (hT : (ty : Int) = T) (hF : (fl : Int) = F) (hv : Bs w v l) (hl : l.length ≤ 1000000)
    (h8 : hasN fl 8 = true → 0 < l.length) (hno : ¬ l.length < aheadN ty fl + padN fl l) (hx : hasN fl 8 = true) (h5 : ty = 5) :
    Calls Try.prog 84 #[.agg #[.int .u8 T, .int .u8 F, .int .u32 S, v]] w fun e w' => ∃ u, e = .returned (.tuple #[.agg (payA u nilV 0 ((be4 (l.drop (aheadN ty fl - 4)) % 2147483648 : Nat) : Int) 0), .int .i64 0]) ∧ OwB w' w.heap.size u (dataN ty fl l) ∧ Below w.heap.size w w' := by
  have hdt : dataN ty fl l = (l.take (l.length - padN fl l)).drop (aheadN ty fl) := rfl
  have HAH := Bx.mk (fun W => ahead_any ty fl 0 v hty hfl W T F S hT hF)
  have HHS := Bx.mk (fun W => has_any ty fl 0 8 v hfl (by omega) W T F S 8 hF rfl)
  have hlen := fun tr W => hv.run_len tr W
  obtain ⟨A, hA⟩ : ∃ A : Int, (aheadN ty fl : Int) = A := ⟨_, rfl⟩
  obtain ⟨L, hL⟩ : ∃ A : Int, (l.length : Int) = A := ⟨_, rfl⟩
  rw [hA] at HAH
  rw [hL] at hlen
  obtain ⟨p, hp⟩ : ∃ p, padN fl l = p := ⟨_, rfl⟩
  have hp0 := hp
  unfold padN at hp
  rw [hx] at HHS hp h8
  rw [hp0] at hno
  have hp256 : p < 256 := by
    rw [← hp]
    split
    · exact UInt8.toNat_lt _
    · omega
  have HB1 : Bx (Below w.heap.size w ((w.alloc (.cells #[.int .u8 T, .int .u8 F, .int .u32 S, v] 28)).alloc (.cells (payA nilV nilV 0 0 0) 50))) := ⟨((Below.refl _ _).alloc (Nat.le_refl _) _).alloc (by simp) _⟩
  have HF1 : Bx (Sb 28 ((w.alloc (.cells #[.int .u8 T, .int .u8 F, .int .u32 S, v] 28)).alloc (.cells (payA nilV nilV 0 0 0) 50)) w.heap.size #[.int .u8 T, .int .u8 F, .int .u32 S, v]) := ⟨(Sb.new _ w _).alloc _⟩
  have HZ1 : Bx (Sb 50 ((w.alloc (.cells #[.int .u8 T, .int .u8 F, .int .u32 S, v] 28)).alloc (.cells (payA nilV nilV 0 0 0) 50)) (w.heap.size + 1) (payA nilV nilV 0 0 0)) := ⟨Sb.newg _ _ _ (by simp) _⟩
  have HV := Bx.mk hv
  have HLM := Bx.mk hl
  simp only [if_true] at hp
  have hl0 := h8 rfl
  obtain ⟨pa, hix0, hca0⟩ := hv.at_ 0 hl0
  have hix : ∀ W : World, (Instr.indexAt 22 v (.int .i64 0)).run Try.prog W = .ok (.pointer (some pa)) W := fun W => hix0 W
  obtain ⟨P, hP⟩ : ∃ P : Int, (p : Int) = P := ⟨_, rfl⟩
  have hca1 : w.cell? pa = some (.int .u8 P) := by
    rw [hca0 w hv, ← hP, ← hp]
    cases l with
    | nil => simp at hl0
    | cons c l => rfl
  have hplt : pa.block < w.heap.size := World.block_lt_of_cell? w pa hca1
  have HCA : Bx (∀ W, Below w.heap.size w W → W.cell? pa = some (.int .u8 P)) := ⟨fun W h => by rw [h.cell hplt]; exact hca1⟩
  have hwp : wrap64 P = P := by unfold wrap64; omega
  have hwp2 : IntKind.i64.wrap P = P := by rw [IntKind.wrap_i64]; omega
  obtain ⟨E, hE⟩ : ∃ E : Int, L - P = E := ⟨_, rfl⟩
  have hs : wrap64 E = E := by unfold wrap64; omega
  have hlt : decide (E < A) = false := decide_eq_false (by omega)
  obtain ⟨vm, hsl, hvm0⟩ := hv.mid A E (by omega) (by omega) (by omega)
  have hvm : ∀ W, Bs W v l → Bs W vm (dataN ty fl l) := fun W h => by
    have h2 := hvm0 W h
    rw [show E.toNat = l.length - p by omega, show A.toNat = aheadN ty fl by omega] at h2
    rw [hdt, hp0]
    exact h2
  have hdl : (dataN ty fl l).length ≤ 1000000 := by rw [hdt, List.length_drop, List.length_take]; omega
  obtain ⟨D, hD⟩ : ∃ D, dataN ty fl l = D := ⟨_, rfl⟩
  rw [hD] at hvm hdl ⊢
  have HVM := Bx.mk (hvm w hv)
  have HDL := Bx.mk hdl
  have h5f : (T == 5) = true := by rw [beq_iff_eq]; omega
  have ha4 : 4 ≤ aheadN ty fl := by unfold aheadN; rw [if_pos h5]; omega
  obtain ⟨A4, hA4⟩ : ∃ A4 : Int, ((aheadN ty fl - 4 : Nat) : Int) = A4 := ⟨_, rfl⟩
  have hw4 : wrap64 (A - 4) = A4 := by unfold wrap64; omega
  obtain ⟨vq, hsq, hvq0⟩ := hv.from_ A4 (by omega) (by omega)
  have hvq : Bs w vq (l.drop (aheadN ty fl - 4)) := by
    have h2 := hvq0 w hv
    rw [show A4.toNat = aheadN ty fl - 4 by omega] at h2
    exact h2
  have HLO := Bx.mk (fun W (h : Bs W vq (l.drop (aheadN ty fl - 4))) => low_any vq _ W h (by rw [List.length_drop]; omega) (by rw [List.length_drop]; omega))
  have HVQ := Bx.mk hvq
  obtain ⟨QL, hQL⟩ : ∃ QL, l.drop (aheadN ty fl - 4) = QL := ⟨_, rfl⟩
  rw [hQL] at HLO HVQ ⊢
  obtain ⟨M, hM⟩ : ∃ M : Int, ((be4 QL % 2147483648 : Nat) : Int) = M := ⟨_, rfl⟩
  rw [hM] at HLO ⊢
  clear hT hF hty hfl hA hp0 hp hx hp256 hno hv hl h8 hdt hD hdl h5
  clear hvq hvq0 hM hQL ha4 hA4
  clear hvm hvm0 hL
  go_enter Try.func84, Try.ntmps84
  go_upto_region 1 with fail
  obtain ⟨w1, hw1⟩ : ∃ W, (w.alloc (.cells #[.int .u8 T, .int .u8 F, .int .u32 S, v] 28)).alloc (.cells (payA nilV nilV 0 0 0) 50) = W := ⟨_, rfl⟩
  obtain ⟨g1, hg1⟩ : ∃ g, w.heap.size = g := ⟨_, rfl⟩
  obtain ⟨g2, hg2⟩ : ∃ g, w.heap.size + 1 = g := ⟨_, rfl⟩
  rw [hw1] at HB1 HF1 HZ1 ⊢
  have HBW := HB1
  rw [hg1] at HF1 ⊢
  rw [hg1, show g1 + 1 = g2 by omega] at HZ1
  rw [show g1 + 1 = g2 by omega]
  have HG : Bx (g1 < w1.heap.size ∧ g2 < w1.heap.size ∧ w.heap.size ≤ g2) := ⟨HF1.out.lt, HZ1.out.lt, by omega⟩
  obtain ⟨c0, c1, c2, c3⟩ := HF1.out.cellsF (Below.refl w1.heap.size w1) HG.out.1
  clear hw1 hg1 hg2
  go_wp2_with (first
    | (go_at_call 110; refine (HAH.out _).mono ?_; rintro e w2 ⟨rfl, b2⟩; clear c0 c1 c2 c3; have HC := Bx.mk (b2); obtain ⟨c0, c1, c2, c3⟩ := HF1.out.cellsF HC.out HG.out.1; clear b2)
    | (go_at_call 111; refine (HHS.out _).mono ?_; rintro e w3 ⟨rfl, b3⟩; clear c0 c1 c2 c3; replace HC := Bx.mk (HC.out.trans (b3.mono HC.out.size)); obtain ⟨c0, c1, c2, c3⟩ := HF1.out.cellsF HC.out HG.out.1; have hca := HCA.out w3 (HBW.out.trans (HC.out.mono HBW.out.size)); clear b3)
    | (go_at_call 85; refine (clone_any w1.heap.size vm D _ (HVM.out.keep (HBW.out.trans (HC.out.mono HBW.out.size))) HC.out.size HDL.out).mono ?_; rintro e w5 ⟨u, rfl, hu, b5⟩; obtain ⟨A0, n0, cc0, rfl⟩ := hu.shape; clear c0 c1 c2 c3; have HD := Bx.mk (HC.out.trans b5); have HD2 := Bx.mk (HD.out.alloc HD.out.size (.cells (payA (.slice A0 n0 cc0) nilV 0 M 0) 50)); obtain ⟨c0, c1, c2, c3⟩ := HF1.out.cellsF (HD.out.alloc HD.out.size (.cells (payA (.slice A0 n0 cc0) nilV 0 0 0) 50)) HG.out.1; have HZ6 := Bx.mk (HZ1.out.below HD2.out HG.out.2.1); have HU := Bx.mk (hu.alloc (.cells (payA (.slice A0 n0 cc0) nilV 0 M 0) 50)); have HLW := Bx.mk (HLO.out (w5.alloc (.cells (payA (.slice A0 n0 cc0) nilV 0 0 0) 50)) (HVQ.out.keep (HBW.out.trans ((HD.out.alloc HD.out.size (.cells (payA (.slice A0 n0 cc0) nilV 0 0 0) 50)).mono HBW.out.size)))); clear hu b5)
    | (go_at_call 86; refine HLW.out.mono ?_; rintro e wl ⟨rfl, hwl⟩; subst hwl)
    | (with_reducible refine wpList_storeP g2 _ A0 none n0 cc0 0 0 0 M 0 rfl rfl HZ6.out rfl ?_; intro w8 hs8 hg8; have HS8 := Bx.mk hs8; have HU8 := Bx.mk (HU.out.grownO hg8 HG.out.2.1); have HB8 := Bx.mk ((HBW.out.trans (HD2.out.mono HBW.out.size)).grown hg8 (HBW.out.trans (HD2.out.mono HBW.out.size)).size (fun k hk => by injection hk with hk; have := HG.out.2.2; omega)); clear hs8 hg8))
  exact bodyPost_ret (ret_S Try.results84 _ _ g2 50 (payA (.slice A0 n0 cc0) nilV 0 M 0) _ _ rfl rfl HS8.out Try.underlying50 rfl pay_size) rfl ⟨_, rfl, HU8.out.mono HBW.out.size, HB8.out⟩
end Go.Proofs.Ytenoaljghbpaaaa
