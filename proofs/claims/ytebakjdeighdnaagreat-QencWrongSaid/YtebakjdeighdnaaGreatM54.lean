/-
  Texts put together: QqY.
-/
import Derived.Test.YtebakjdeighdnaaGreatM50
import Derived.BigRegion
import Derived.Deep.RegionLaw
import Derived.BigQuiet
import Derived.Deep.RegionHeld
import Derived.Handy

/-
  Contract of the document's Feed (of the encoder), of one whole byte: a count.
-/
namespace Go.Proofs.YtebakjdeighdnaaGreat
open Go.RowKit Go.Maps
set_option linter.unusedVariables false
set_option linter.unusedSimpArgs false

section
variable {q t : Nat} {E : Qe} {w w' : World} {S : Nat → Prop}
set_option maxRecDepth 100000 in
set_option maxHeartbeats 40000000 in
theorem feed8_inc (h : E8 q t E w S) (he : E.err = 0) (hr : E.rest = []) (hop : E.op.length ≤ 1) (hkt : E.K ≤ E.T.tot) (htt : E.T.tot ≤ 1000000) (c : UInt8) (hw : whole1 c) (hlow : c.toNat < 64) {bV : Value} (hb : ∀ W, Fp S w W → Bs W bV [c]) :
    Calls Tryz.prog 17 #[.pointer (some ⟨q, 0, none⟩), bV] w fun r w' => r = .returned (.int .i64 ((E.feed [c]).2 : Int)) ∧ ∃ r', ((E.feed [c]).2 = 0 → r' = []) ∧ Turn (E8 q t ((E.feed [c]).1.setRest r')) S w w' := by
  have HFE := Bx.mk (feed_one E c hw he hr)
  obtain ⟨vO, vR, ps, S1, S2, hps, h1, a, bb, cc, d1, d2, hS⟩ := h.open_
  have bbR : Ob (fun W => Bs W vR E.rest) w S2 := bb.map fun W hW => hW.2
  have hrs := bbR.get
  obtain ⟨A, hslice, hpush⟩ := bs_push hrs (by rw [hr]; simp)
  have hlen := fun ty W => hrs.run_len ty W
  have hbw := hb w.drew (Fp.of_below (Below.refl _ _).drew)
  obtain ⟨v1, w1, hrun, hb1, S4, hob, hs4⟩ := hpush w.drew bV [c] 23 S2 ((Wd.ob _).keep bbR (Below.refl _ _).drew) hbw (by simp)
  have hbx1 : Below w.heap.size w w1 := (Below.refl _ _).drew.trans hb1
  have hq := h1.lt
  have c3 : w.cell? ⟨q, 4, none⟩ = some vR := h1.cell (i := 4) (by omega)
  have c4 : w.cell? ⟨q, 5, none⟩ = some (.int .i64 (E.err : Int)) := h1.cell (i := 5) (by omega)
  rw [he] at c4
  have d0 : w.drew.cell? ⟨q, 4, none⟩ = some vR := c3
  have d6 : w1.cell? ⟨q, 4, none⟩ = some vR := (hbx1.cell hq).trans c3
  have df : w1.frozen? ⟨q, 4, none⟩ = false := (h1.of_block (hbx1.block q hq)).frozen 4
  rw [hr, List.nil_append] at hob
  have bbO : Ob (fun W => Sr W vO ps) w S2 := bb.map fun W hW => hW.1
  have hT := Bx.mk (E8.put (E' := E.setRest [c]) (vO' := vO) (vR' := v1) (ps' := ps) (S4 := fun k => S2 k ∨ S4 k) hS h1 a bb cc d1 d2 hbx1 (((Wd.ob _).keep bbO hbx1).and hob) (fun k hk => hk.elim .inl (hs4 k)) 4 v1 (e8P_4 t E vO vR v1 [c]) rfl hps)
  obtain ⟨A1, n1, m1, hv1⟩ : ∃ A n m, v1 = .slice A n m := by
    obtain ⟨A2, n2, c2, e, _⟩ := (hob.get).open_
    exact ⟨_, _, _, e⟩
  subst hv1
  have hnr : E.rest.length = 0 := by rw [hr]; rfl
  rw [hnr] at hslice hlen hrun
  have z0 : ((0 : Nat) : Int) = 0 := rfl
  simp only [z0] at hslice hlen c4
  clear z0
  have HLO := Bx.mk hlow
  have HH := Bx.mk (show E.err = 0 ∧ E.op.length ≤ 1 ∧ E.K ≤ E.T.tot ∧ E.T.tot ≤ 1000000 ∧ whole1 c from ⟨he, hop, hkt, htt, hw⟩)
  clear hlow
  clear h hb h1 a bb bbR bbO cc d1 d2 hS hrs hpush hbw hob hs4 hb1 c3 he hr hop hkt htt hw hps hnr
  go_enter Tryz.func17, Tryz.ntmps17
  go_upto_region 3 with fail
  -- REGION A
  refine wp_region_x 20 (fun W => W.cell? ⟨q, 4, none⟩ = some vR) (by kernel_rfl) (d0) (fun hHeld => ?_)
  refine wpAnyX_take0 (i := 0) (oi := ⟨some 22, Op.move (Operand.tmp 0), 43, _, _, none⟩) (v := ?v0) rfl (by omega) (by kernel_rfl) (by kernel_rfl) (by kernel_rfl) (fun _ _ _ h => h) (Or.inl ⟨by rfl, ?y0⟩) (by assumption) ?r0
  case y0 =>
    intro W hSw
    try dsimp only at hSw
    go_simp
    try with_reducible rfl
  case r0 =>
  try simp only [Act.put, List.setIfInBounds_toArray, List.set_cons_zero, List.set_cons_succ]
  refine wpAnyX_take0 (i := 1) (oi := ⟨some 23, Op.move (Operand.tmp 0), 43, _, _, none⟩) (v := ?v1) rfl (by omega) (by kernel_rfl) (by kernel_rfl) (by kernel_rfl) (fun _ _ _ h => h) (Or.inl ⟨by rfl, ?y1⟩) (by assumption) ?r1
  case y1 =>
    intro W hSw
    try dsimp only at hSw
    go_simp
    try with_reducible rfl
  case r1 =>
  try simp only [Act.put, List.setIfInBounds_toArray, List.set_cons_zero, List.set_cons_succ]
  refine wpAnyX_take0 (i := 2) (oi := ⟨some 24, Op.nilCheck (Operand.tmp 23), 0, _, _, none⟩) (v := ?v2) rfl (by omega) (by kernel_rfl) (by kernel_rfl) (by kernel_rfl) (fun _ _ _ h => h) (Or.inl ⟨by rfl, ?y2⟩) (by assumption) ?r2
  case y2 =>
    intro W hSw
    try dsimp only at hSw
    go_simp
    try with_reducible rfl
  case r2 =>
  try simp only [Act.put, List.setIfInBounds_toArray, List.set_cons_zero, List.set_cons_succ]
  refine wpAnyX_take0 (i := 3) (oi := ⟨some 25, Op.fieldAddr 50 (Operand.tmp 24) 4, 0, _, _, none⟩) (v := ?v3) rfl (by omega) (by kernel_rfl) (by kernel_rfl) (by kernel_rfl) (fun _ _ _ h => h) (Or.inl ⟨by rfl, ?y3⟩) (by assumption) ?r3
  case y3 =>
    intro W hSw
    try dsimp only at hSw
    go_simp
    try with_reducible rfl
  case r3 =>
  try simp only [Act.put, List.setIfInBounds_toArray, List.set_cons_zero, List.set_cons_succ]
  refine wpAnyX_take (i := 4) (oi := ⟨some 26, Op.load 23 (Operand.tmp 25), 23, _, _, none⟩) (v := ?v4) rfl (by omega) (by kernel_rfl) (by kernel_rfl) (by kernel_rfl) (by kernel_rfl) (by kernel_rfl) (fun _ _ _ h => h) (Or.inl ⟨by rfl, ?y4⟩) (by assumption) ?r4
  case y4 =>
    intro W hSw
    try dsimp only at hSw
    go_simp
    try with_reducible rfl
  case r4 =>
  try simp only [Act.put, List.setIfInBounds_toArray, List.set_cons_zero, List.set_cons_succ]
  refine wpAnyX_take0 (i := 5) (oi := ⟨some 27, Op.move (Operand.tmp 0), 43, _, _, none⟩) (v := ?v5) rfl (by omega) (by kernel_rfl) (by kernel_rfl) (by kernel_rfl) (fun _ _ _ h => h) (Or.inl ⟨by rfl, ?y5⟩) (by assumption) ?r5
  case y5 =>
    intro W hSw
    try dsimp only at hSw
    go_simp
    try with_reducible rfl
  case r5 =>
  try simp only [Act.put, List.setIfInBounds_toArray, List.set_cons_zero, List.set_cons_succ]
  refine wpAnyX_take0 (i := 6) (oi := ⟨some 28, Op.nilCheck (Operand.tmp 27), 0, _, _, none⟩) (v := ?v6) rfl (by omega) (by kernel_rfl) (by kernel_rfl) (by kernel_rfl) (fun _ _ _ h => h) (Or.inl ⟨by rfl, ?y6⟩) (by assumption) ?r6
  case y6 =>
    intro W hSw
    try dsimp only at hSw
    go_simp
    try with_reducible rfl
  case r6 =>
  try simp only [Act.put, List.setIfInBounds_toArray, List.set_cons_zero, List.set_cons_succ]
  refine wpAnyX_take0 (i := 7) (oi := ⟨some 29, Op.fieldAddr 50 (Operand.tmp 28) 4, 0, _, _, none⟩) (v := ?v7) rfl (by omega) (by kernel_rfl) (by kernel_rfl) (by kernel_rfl) (fun _ _ _ h => h) (Or.inl ⟨by rfl, ?y7⟩) (by assumption) ?r7
  case y7 =>
    intro W hSw
    try dsimp only at hSw
    go_simp
    try with_reducible rfl
  case r7 =>
  try simp only [Act.put, List.setIfInBounds_toArray, List.set_cons_zero, List.set_cons_succ]
  refine wpAnyX_take (i := 8) (oi := ⟨some 30, Op.load 23 (Operand.tmp 29), 23, _, _, none⟩) (v := ?v8) rfl (by omega) (by kernel_rfl) (by kernel_rfl) (by kernel_rfl) (by kernel_rfl) (by kernel_rfl) (fun _ _ _ h => h) (Or.inl ⟨by rfl, ?y8⟩) (by assumption) ?r8
  case y8 =>
    intro W hSw
    try dsimp only at hSw
    go_simp
    try with_reducible rfl
  case r8 =>
  try simp only [Act.put, List.setIfInBounds_toArray, List.set_cons_zero, List.set_cons_succ]
  refine wpAnyX_take (i := 9) (oi := ⟨some 31, Op.call { callee := Callee.builtin Builtin.len, args := #[Operand.tmp 30], argTypes := #[23] }, 3, _, _, none⟩) (v := ?v9) rfl (by omega) (by kernel_rfl) (by kernel_rfl) (by kernel_rfl) (by kernel_rfl) (by kernel_rfl) (fun _ _ _ h => h) (Or.inl ⟨by rfl, ?y9⟩) (by assumption) ?r9
  case y9 =>
    intro W hSw
    try dsimp only at hSw
    go_simp
    try with_reducible rfl
  case r9 =>
  try simp only [Act.put, List.setIfInBounds_toArray, List.set_cons_zero, List.set_cons_succ]
  refine wpAnyX_take0 (i := 10) (oi := ⟨some 32, Op.move (Operand.tmp 0), 43, _, _, none⟩) (v := ?v10) rfl (by omega) (by kernel_rfl) (by kernel_rfl) (by kernel_rfl) (fun _ _ _ h => h) (Or.inl ⟨by rfl, ?y10⟩) (by assumption) ?r10
  case y10 =>
    intro W hSw
    try dsimp only at hSw
    go_simp
    try with_reducible rfl
  case r10 =>
  try simp only [Act.put, List.setIfInBounds_toArray, List.set_cons_zero, List.set_cons_succ]
  refine wpAnyX_take0 (i := 11) (oi := ⟨some 33, Op.nilCheck (Operand.tmp 32), 0, _, _, none⟩) (v := ?v11) rfl (by omega) (by kernel_rfl) (by kernel_rfl) (by kernel_rfl) (fun _ _ _ h => h) (Or.inl ⟨by rfl, ?y11⟩) (by assumption) ?r11
  case y11 =>
    intro W hSw
    try dsimp only at hSw
    go_simp
    try with_reducible rfl
  case r11 =>
  try simp only [Act.put, List.setIfInBounds_toArray, List.set_cons_zero, List.set_cons_succ]
  refine wpAnyX_take0 (i := 12) (oi := ⟨some 34, Op.fieldAddr 50 (Operand.tmp 33) 4, 0, _, _, none⟩) (v := ?v12) rfl (by omega) (by kernel_rfl) (by kernel_rfl) (by kernel_rfl) (fun _ _ _ h => h) (Or.inl ⟨by rfl, ?y12⟩) (by assumption) ?r12
  case y12 =>
    intro W hSw
    try dsimp only at hSw
    go_simp
    try with_reducible rfl
  case r12 =>
  try simp only [Act.put, List.setIfInBounds_toArray, List.set_cons_zero, List.set_cons_succ]
  refine wpAnyX_take (i := 13) (oi := ⟨some 35, Op.load 23 (Operand.tmp 34), 23, _, _, none⟩) (v := ?v13) rfl (by omega) (by kernel_rfl) (by kernel_rfl) (by kernel_rfl) (by kernel_rfl) (by kernel_rfl) (fun _ _ _ h => h) (Or.inl ⟨by rfl, ?y13⟩) (by assumption) ?r13
  case y13 =>
    intro W hSw
    try dsimp only at hSw
    go_simp
    try with_reducible rfl
  case r13 =>
  try simp only [Act.put, List.setIfInBounds_toArray, List.set_cons_zero, List.set_cons_succ]
  refine wpAnyX_take (i := 14) (oi := ⟨some 36, Op.call { callee := Callee.builtin Builtin.len, args := #[Operand.tmp 35], argTypes := #[23] }, 3, _, _, none⟩) (v := ?v14) rfl (by omega) (by kernel_rfl) (by kernel_rfl) (by kernel_rfl) (by kernel_rfl) (by kernel_rfl) (fun _ _ _ h => h) (Or.inl ⟨by rfl, ?y14⟩) (by assumption) ?r14
  case y14 =>
    intro W hSw
    try dsimp only at hSw
    go_simp
    try with_reducible rfl
  case r14 =>
  try simp only [Act.put, List.setIfInBounds_toArray, List.set_cons_zero, List.set_cons_succ]
  refine wpAnyX_take0 (i := 15) (oi := ⟨some 37, Op.slice 23 (Operand.tmp 26) none (some (Operand.tmp 31)) (some (Operand.tmp 36)), 23, _, _, none⟩) (v := ?v15) rfl (by omega) (by kernel_rfl) (by kernel_rfl) (by kernel_rfl) (fun _ _ _ h => h) (Or.inl ⟨by rfl, ?y15⟩) (by assumption) ?r15
  case y15 =>
    intro W hSw
    try dsimp only at hSw
    go_simp
    try with_reducible rfl
  case r15 =>
  try simp only [Act.put, List.setIfInBounds_toArray, List.set_cons_zero, List.set_cons_succ]
  refine wpAnyX_take0 (i := 16) (oi := ⟨some 38, Op.move (Operand.tmp 1), 23, _, _, none⟩) (v := ?v16) rfl (by omega) (by kernel_rfl) (by kernel_rfl) (by kernel_rfl) (fun _ _ _ h => h) (Or.inl ⟨by rfl, ?y16⟩) (by assumption) ?r16
  case y16 =>
    intro W hSw
    try dsimp only at hSw
    go_simp
    try with_reducible rfl
  case r16 =>
  try simp only [Act.put, List.setIfInBounds_toArray, List.set_cons_zero, List.set_cons_succ]
  refine wpAnyX_one (i := 17) (by kernel_rfl) rfl (fun K hK => ?_)
  refine step_append_run rfl (.tmp 37) (.tmp 38) 23 rfl (.slice A 0 0) _ rfl rfl hrun ?_
  refine hK.out _ _ (fun _ => d6) ?_
  clear hK K
  try simp only [Act.put, List.setIfInBounds_toArray, List.set_cons_zero, List.set_cons_succ]
  refine wpAnyX_take0 (i := 18) (oi := ⟨some 40, Op.nilCheck (Operand.tmp 22), 0, _, _, none⟩) (v := ?v18) rfl (by omega) (by kernel_rfl) (by kernel_rfl) (by kernel_rfl) (fun _ _ _ h => h) (Or.inl ⟨by rfl, ?y18⟩) (by assumption) ?r18
  case y18 =>
    intro W hSw
    try dsimp only at hSw
    go_simp
    try with_reducible rfl
  case r18 =>
  try simp only [Act.put, List.setIfInBounds_toArray, List.set_cons_zero, List.set_cons_succ]
  refine wpAnyX_take0 (i := 19) (oi := ⟨some 41, Op.fieldAddr 50 (Operand.tmp 40) 4, 0, _, _, none⟩) (v := ?v19) rfl (by omega) (by kernel_rfl) (by kernel_rfl) (by kernel_rfl) (fun _ _ _ h => h) (Or.inl ⟨by rfl, ?y19⟩) (by assumption) ?r19
  case y19 =>
    intro W hSw
    try dsimp only at hSw
    go_simp
    try with_reducible rfl
  case r19 =>
  try simp only [Act.put, List.setIfInBounds_toArray, List.set_cons_zero, List.set_cons_succ]
  refine wpAnyX_one (i := 20) (by kernel_rfl) rfl (fun K hK => ?_)
  go_simp
  refine hK.out _ _ (fun h => absurd h (by decide)) ?_
  clear hK K
  try simp only [Act.put, List.setIfInBounds_toArray, List.set_cons_zero, List.set_cons_succ]
  refine wpAnyX_done (by kernel_rfl) ?_ _
  -- END A
  clear hrun hlen hslice d0 d6 df hbx1 c4 hHeld
  obtain ⟨w2, hw2⟩ : ∃ w2, w1.setCell ⟨q, 4, none⟩ (.slice A1 n1 m1) = w2 := ⟨_, rfl⟩
  rw [hw2] at hT ⊢
  clear hw2 hq
  go_wp2_with fail
  go_loopg [5] 1 (fun g s5 wx => Bx ((g = 1 ∧ Turn (E8 q t (E.setRest [c])) S w wx) ∨ (g = 0 ∧ (E.feed [c]).2 = 0 ∧ Turn (E8 q t ((E.feed [c]).1.setRest [])) S w wx)))
  case atStart => exact ⟨.inl ⟨rfl, hT.out⟩⟩
  case round =>
    cases gk with
    | zero =>
      obtain ⟨hf0, hturn⟩ : (E.feed [c]).2 = 0 ∧ Turn (E8 q t ((E.feed [c]).1.setRest [])) S w wr := hrel.out.elim (fun h => absurd h.1 (by omega)) (fun h => h.2)
      obtain ⟨e, he, hes, hfp⟩ := hturn
      obtain ⟨vO2, vR2, ps2, f1, f2, f3, k0, k1, k2, k3, k4, k5, k6, kf⟩ := he.cells
      have hlen2 := fun ty W => f3.run_len ty W
      rw [show ((E.feed [c]).1.setRest []).rest = [] from rfl] at hlen2
      have HFIN : Bx (Turn (E8 q t ((E.feed [c]).1.setRest [])) S w wr) := ⟨e, he, hes, hfp⟩
      have HF0 := Bx.mk hf0
      clear he hes hfp hrel f1 f2 f3 k0 k1 k2 k3 k5 k6 kf hT hf0
      simp only [List.length_nil] at hlen2
      go_wp2_with fail
      go_ret
      exact ⟨by rw [HF0.out]; rfl, [], fun _ => rfl, HFIN.out⟩
    | succ g =>
      obtain ⟨hg1, hturn⟩ : g + 1 = 1 ∧ Turn (E8 q t (E.setRest [c])) S w wr := hrel.out.elim id (fun h => absurd h.1 (by omega))
      obtain rfl : g = 0 := by omega
      obtain ⟨e, he, hes, hfp⟩ := hturn
      have HE8 := Bx.mk he
      obtain ⟨vO2, vR2, ps2, f1, f2, f3, k0, k1, k2, k3, k4, k5, k6, kf⟩ := he.cells
      have f3' : Bs wr vR2 [c] := f3
      have HBS3 := Bx.mk f3'
      have hlen3 := fun ty W => f3'.run_len ty W
      simp only [List.length_singleton] at hlen3
      have hlenO := fun ty W => f2.run_len ty W
      obtain ⟨pa, hix, hcs⟩ := f3'.at_ 0 (by simp)
      have e0 := hcs wr f3'
      simp only [List.getElem_cons_zero] at e0
      rw [show ((0 : Nat) : Int) = 0 from rfl] at hix
      have hz5 := kf 5
      obtain ⟨C, hC⟩ := letter c.toNat
      rw [hC] at e0
      have HSTEP : Bx (∀ (E' : Qe) w', Turn (E8 q t E') e wr w' → Turn (E8 q t E') S w w') := ⟨fun E' w' h => Turn.step (S := S) (S1 := e) hes hfp h⟩
      have HBAD : Bx (one1 E c = none → (E.feed [c]).2 = 26 ∧ Turn (E8 q t ((E.feed [c]).1.setRest [c])) S w (wr.setCell ⟨q, 5, none⟩ (.int .i64 26))) := ⟨fun h => by
        have hfe := HFE.out
        rw [h] at hfe
        rw [hfe]
        exact ⟨rfl, HSTEP.out _ _ (HE8.out.putErr 26)⟩⟩
      have HOP : Bx (ps2.map Prod.fst = E.op) := ⟨f1⟩
      have HSR := Bx.mk f2
      clear hrel hT he hes hfp f1 f2 f3 f3' hcs k1 k6 hg1
      have hlo := HLO.out
      have hand : bits .and .u8 C 128 = 0 := by
        rw [← hC, show bits .and .u8 (c.toNat : Int) 128 = ((c.toNat &&& 128 : Nat) : Int) from u8_and_nat _ 128 c.toNat_lt (by decide), (qmask c.toNat c.toNat_lt).2.1 (by omega)]
        rfl
      have HR6 := Bx.mk (refReadPrefix_any vR2 [c] 6 wr HBS3.out (by simp))
      rw [show bitsOf 6 = 6 from rfl, byte_low c (by omega) (by have := HH.out.2.2.2.2; unfold whole1 at this; omega)] at HR6
      simp only [Ans3] at HR6
      obtain ⟨n, hn⟩ : ∃ n, c.toNat % 64 = n := ⟨_, rfl⟩
      obtain ⟨N, hN⟩ := letter n
      rw [hn, hN] at HR6
      have HN := Bx.mk hN
      have hand64 : bits .and .u8 C 64 = 0 := by
        rw [← hC, show bits .and .u8 (c.toNat : Int) 64 = ((c.toNat &&& 64 : Nat) : Int) from u8_and_nat _ 64 c.toNat_lt (by decide), (qmask c.toNat c.toNat_lt).2.2.1 (by omega)]
        rfl
      have HONE : Bx (one1 E c = E.inc n) := ⟨by unfold one1; rw [if_neg (by omega), if_neg (by omega), ← hn, Nat.mod_eq_of_lt (by omega)]⟩
      obtain ⟨_, vL, _, t0, t1, t2⟩ : ∃ x : Unit, ∃ vL, Fs wr vL E.T.l ∧ wr.cell? ⟨t, 0, none⟩ = some vL ∧ wr.cell? ⟨t, 1, none⟩ = some (.int .i64 (E.T.cap : Int)) ∧ wr.cell? ⟨t, 2, none⟩ = some (.int .u64 (E.T.tot : Int)) := ⟨(), HE8.out.tcells⟩
      obtain ⟨Kn, hKn⟩ : ∃ Kn, E.K = Kn := ⟨_, rfl⟩
      obtain ⟨Tn, hTn⟩ : ∃ Tn, E.T.tot = Tn := ⟨_, rfl⟩
      have k2' : wr.cell? ⟨q, 2, none⟩ = some (.int .u64 (Kn : Int)) := by rw [← hKn]; exact k2
      rw [hTn] at t2
      have hkt2 := HH.out.2.2.1
      have htt2 := HH.out.2.2.2.1
      rw [hKn, hTn] at hkt2
      rw [hTn] at htt2
      obtain ⟨df, hdf⟩ : ∃ df, Tn - Kn = df := ⟨_, rfl⟩
      obtain ⟨KI, hKI⟩ := letter Kn
      obtain ⟨TI, hTI⟩ := letter Tn
      obtain ⟨DI, hDI⟩ := letter df
      have hsub : IntKind.u64.wrap (TI - KI) = DI := by rw [show TI - KI = DI from by omega]; exact u64_keep (by omega) (by omega)
      have HINC : Bx (E.inc n = if n = 0 ∨ df < n then none else some (E.setK (Kn + n))) := ⟨by unfold Qe.inc; rw [hKn, hTn, hdf]⟩
      rw [hKI] at k2'
      rw [hTI] at t2
      have HKI := Bx.mk hKI
      have hn64 : n < 64 := by omega
      have HBADW : Bx (∀ W, Below wr.heap.size wr W → one1 E c = none → (E.feed [c]).2 = 26 ∧ Turn (E8 q t ((E.feed [c]).1.setRest [c])) S w (W.setCell ⟨q, 5, none⟩ (.int .i64 26))) := ⟨fun W hW h => by
        have hfe := HFE.out
        rw [h] at hfe
        rw [hfe]
        exact ⟨rfl, HSTEP.out _ _ (Turn.before hW (((Wd.e8 q t (E.setRest [c])).keep HE8.out hW).putErr 26))⟩⟩
      have HC5 : Bx (∀ W, Below wr.heap.size wr W → W.cell? ⟨q, 5, none⟩ = some (.int .i64 ((E.setRest [c]).err : Int)) ∧ W.frozen? ⟨q, 5, none⟩ = false) := ⟨fun W hW => by
        obtain ⟨_, _, _, _, _, _, _, _, _, _, _, x5, _, xf⟩ := ((Wd.e8 q t (E.setRest [c])).keep HE8.out hW).cells
        exact ⟨x5, xf 5⟩⟩
      by_cases hbad : n = 0 ∨ df < n
      · have HNO : Bx (one1 E c = none) := ⟨by rw [HONE.out, HINC.out, if_pos hbad]⟩
        by_cases hz : n = 0
        · have g1 : decide (0 < N) = false := decide_eq_false (by omega)
          clear hbad hz t0 t1 k2 hn hN hC hKn hTn hkt2 htt2 hdf hKI hTI hDI hlo hn64
          go_wp2_with (go_at_call 47; refine HR6.out.mono ?_; rintro r w5 ⟨rfl, rfl⟩)
          go_quiet (fail)
          have hbq : Below wr.heap.size wr (wr.drewN nq) := below_drewN (Below.refl _ _) _
          obtain ⟨w6, hw6⟩ : ∃ w6, wr.drewN nq = w6 := ⟨_, rfl⟩
          rw [hw6] at hbq ⊢
          have HB := Bx.mk (HBADW.out w6 hbq HNO.out)
          obtain ⟨x5, z5⟩ := HC5.out w6 hbq
          clear hw6 hbq t2 k2' k0 k3 k4 k5 e0 hz5
          go_wp2_with fail
          go_ret
          exact ⟨by rw [HB.out.1]; rfl, [c], (fun h => absurd (HB.out.1.symm.trans h) (by decide)), HB.out.2⟩
        · have g1 : decide (0 < N) = true := decide_eq_true (by omega)
          have g2 : decide (N ≤ DI) = false := decide_eq_false (by omega)
          clear hbad hz t0 t1 k2 hn hN hC hKn hTn hkt2 htt2 hdf hKI hTI hDI hlo hn64
          go_wp2_with (go_at_call 47; refine HR6.out.mono ?_; rintro r w5 ⟨rfl, rfl⟩)
          go_quiet (fail)
          have hbq : Below wr.heap.size wr (wr.drewN nq) := below_drewN (Below.refl _ _) _
          obtain ⟨w6, hw6⟩ : ∃ w6, wr.drewN nq = w6 := ⟨_, rfl⟩
          rw [hw6] at hbq ⊢
          have HB := Bx.mk (HBADW.out w6 hbq HNO.out)
          obtain ⟨x5, z5⟩ := HC5.out w6 hbq
          clear hw6 hbq t2 k2' k0 k3 k4 k5 e0 hz5
          go_wp2_with fail
          go_ret
          exact ⟨by rw [HB.out.1]; rfl, [c], (fun h => absurd (HB.out.1.symm.trans h) (by decide)), HB.out.2⟩
      · have g1 : decide (0 < N) = true := decide_eq_true (by omega)
        have g2 : decide (N ≤ DI) = true := decide_eq_true (by omega)
        have HYES : Bx (one1 E c = some (E.setK (Kn + n))) := ⟨by rw [HONE.out, HINC.out, if_neg hbad]⟩
        obtain ⟨sn, hsn⟩ : ∃ sn, Kn + n = sn := ⟨_, rfl⟩
        have hadd : IntKind.u64.wrap (KI + N) = (sn : Int) := by rw [show KI + N = (sn : Int) from by omega]; exact u64_keep (by omega) (by omega)
        rw [hsn] at HYES
        clear hbad t0 t1 k2 hn hN hC hKn hTn hkt2 htt2 hdf hKI hTI hDI hlo hn64 hsn
        go_wp2_with (go_at_call 47; refine HR6.out.mono ?_; rintro r w5 ⟨rfl, rfl⟩)
        go_quiet (fail)
        have hbq : Below wr.heap.size wr (wr.drewN nq) := below_drewN (Below.refl _ _) _
        obtain ⟨w6, hw6⟩ : ∃ w6, wr.drewN nq = w6 := ⟨_, rfl⟩
        rw [hw6] at hbq ⊢
        have he6 := (Wd.e8 q t (E.setRest [c])).keep HE8.out hbq
        have HT7 := Bx.mk (Turn.before hbq (he6.putK sn))
        have y2 : w6.cell? ⟨q, 2, none⟩ = some (.int .u64 KI) := (hbq.cell (World.block_lt_of_cell? _ _ k2')).trans k2'
        have y4 : w6.cell? ⟨q, 4, none⟩ = some vR2 := (hbq.cell (World.block_lt_of_cell? _ _ k4)).trans k4
        have y4' : (w6.setCell ⟨q, 2, none⟩ (.int .u64 (sn : Int))).cell? ⟨q, 4, none⟩ = some vR2 := (World.cell?_setCell_other _ ⟨q, 2, none⟩ ⟨q, 4, none⟩ _ (by intro h; injection h with _ h; cases h)).trans y4
        obtain ⟨_, _, _, _, _, _, _, _, _, _, _, _, _, xf⟩ := he6.cells
        have z2 : w6.frozen? ⟨q, 2, none⟩ = false := xf 2
        clear hw6 hbq t2 k2' k0 k3 k4 k5 e0 hz5 he6 xf y4
        go_upto_region 35 with fail
        obtain ⟨w7, hw7⟩ : ∃ w7, w6.setCell ⟨q, 2, none⟩ (.int .u64 (sn : Int)) = w7 := ⟨_, rfl⟩
        rw [hw7] at HT7 y4' ⊢
        clear hw7 y2 z2
        obtain ⟨e7, he7, hes7, hfp7⟩ := HT7.out
        obtain ⟨vR3, hsl3, hbs3⟩ := HBS3.out.from_ (1 : Int) (by omega) (by simp)
        obtain ⟨A7, n7, c7, rfl⟩ : ∃ A n c, vR3 = .slice A n c := by
          obtain ⟨A2, n2, c2, e, _⟩ := (hbs3 wr HBS3.out).open_
          exact ⟨_, _, _, e⟩
        obtain ⟨_, _, _, _, _, _, _, _, _, _, _, _, _, kf7⟩ := he7.cells
        have fd4 : w7.frozen? ⟨q, 4, none⟩ = false := kf7 4
        have HT8 := Bx.mk (HSTEP.out _ _ (Turn.step hes7 hfp7 (he7.putRest y4' (r := []) (fun W h => hbs3 W h))))
        have HF : Bx ((E.feed [c]).2 = 0 ∧ (E.feed [c]).1.setRest [] = ((E.setRest [c]).setK sn).setRest []) := ⟨by
          rw [HFE.out, HYES.out]
          exact ⟨rfl, rfl⟩⟩
        clear he7 hes7 hfp7 kf7 HT7 hbs3
        go_wp2_with fail
        go_roundg 0
        case measure => omega
        case rel => exact ⟨.inr ⟨rfl, HF.out.1, by rw [HF.out.2]; exact HT8.out⟩⟩
end
end Go.Proofs.YtebakjdeighdnaaGreat
