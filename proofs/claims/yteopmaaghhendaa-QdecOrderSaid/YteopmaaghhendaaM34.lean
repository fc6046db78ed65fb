/-
  Texts put together: QwB.
-/
import Derived.Test.YteopmaaghhendaaM30
import Derived.Test.YteopmaaghhendaaM31
import Derived.BigRegion
import Derived.Deep.RegionLaw
import Derived.BigQuiet
import Derived.Deep.RegionHeld
import Derived.Handy

/-
  Contract of the document's Feed (of the encoder): the acknowledgments of all that is open, in order, and a count of what was inserted beyond.
-/
namespace Go.Proofs.Yteopmaaghhendaa
open Go.RowKit Go.Maps
set_option linter.unusedVariables false
set_option linter.unusedSimpArgs false

theorem and_highB (x : Nat) (h1 : 128 ≤ x) (h2 : x < 256) : bits .and .u8 (x : Int) 128 = 128 := by
  have key : ∀ y : Fin 256, 128 ≤ y.val → y.val &&& 128 = 128 := by decide +kernel
  have := key ⟨x, h2⟩ h1
  rw [show (128 : Int) = ((128 : Nat) : Int) from rfl, u8_and_nat _ _ h2 (by omega)]
  simp only at this
  rw [this]
/-- v[:0:0] and v[1:] of some sections, and the second appended to the first: a row of its own. -/
theorem Sr.cutN {vO : Value} {p : Qs × Value} {ps : List (Qs × Value)} {w : World} (h : Sr w vO (p :: ps)) (hne : 0 < ps.length) (hl : ps.length ≤ 100000) :
    ∃ A A' n' c', (∀ W : World, (Instr.slice 82 vO none (some (.int .i64 0)) (some (.int .i64 0))).run Try.prog W = .ok (.slice A 0 0) W) ∧
      (∀ W : World, (Instr.slice 82 vO (some (.int .i64 1)) none none).run Try.prog W = .ok (.slice A' n' c') W) ∧
      ∀ (W : World) (ty : TypeId), Sr W vO (p :: ps) → ∃ v' w', (Builtin.append_ #[82, 82] ty #[.slice A 0 0, .slice A' n' c']).run Try.prog W = .ok v' w' ∧
        w'.ownsRow W.heap.size 102 3 v' ps.length (ps.flatMap scl) ∧ Below W.heap.size W w' := by
  obtain ⟨⟨A, c, rfl, h1, h2, h3, h4⟩, _⟩ := h
  simp only [List.length_cons] at h1 h4
  rcases h4 with ⟨rfl, h0⟩ | ⟨x, rfl, hx⟩
  · omega
  have hm : c ≤ maxLen := h2
  have h63 : c ≤ 9223372036854775807 := by simp only [maxLen] at hm; omega
  obtain ⟨i, z, i1, i2, i3, i4, i5⟩ := infoS
  have hA' : sliced (some x) 1 (ps.length + 1) c 3 = .slice (some (x.add 3)) ps.length (c - 1) := by
    unfold sliced
    rw [if_neg (show ¬ c = 1 by omega)]
    rfl
  refine ⟨some x, some (x.add 3), ps.length, c - 1, fun W => ?_, fun W => ?_, fun W ty hW => ?_⟩
  · rw [run_slice_hm W 82 (some x) _ c elemS .i64 .i64 0 0 (by omega) (by omega) (by omega), sizeS]
    simp [Result.andThen, sliced]
  · rw [run_slice_l W 82 (some x) _ c elemS .i64 1 (by omega) (by simp; omega), sizeS]
    exact congrArg (fun v => Result.ok v W) hA'
  · obtain ⟨⟨A2, c2, e, _, _, _, r4⟩, _⟩ := hW
    injection e with e1 e2 e3
    subst e1; subst e3
    rcases r4 with ⟨r0, _⟩ | ⟨y, ey, hy⟩
    · cases r0
    injection ey with ey
    subst ey
    have hnews : ∀ (j : Nat) (u : Value), (ps.flatMap scl)[j]? = some u → W.cell? ((x.add 3).add j) = some u := fun j u hu => by
      rw [Addr.add_add]
      refine hy (3 + j) u ?_
      rw [List.flatMap_cons, List.getElem?_append_right (by simp [scl])]
      simpa [scl] using hu
    obtain ⟨v', w', hrun, q1, q2⟩ := run_append_arg_grows (P := Try.prog) W 82 ty 102 i z 3 40 Try.underlying82 i1 i2 i4 i5 i3 (by omega) x 0 0 [] rfl (fun j u hu => by simp at hu) (x.add 3) ps.length (c - 1) (ps.flatMap scl) (scl_length ps) hnews (by omega) (by unfold maxLen; omega) (by omega)
    rw [Nat.zero_add, List.nil_append] at q1
    exact ⟨v', w', hrun, q1, (Below.refl _ _).grown q2 (Nat.le_refl _) (by simp)⟩
section
variable {q t : Nat} {E : Qe} {w w' : World} {S : Nat → Prop}
/-- What is open, and what a row of its own makes of it. -/
theorem E8.row (h : E8 q t E w S) : ∃ vO ps, w.cell? ⟨q, 3, none⟩ = some vO ∧ ps.map Prod.fst = E.op ∧ Sr w vO ps ∧
    ∀ ps' : List (Qs × Value), (∀ p ∈ ps', p ∈ ps) → ∀ (wa w6 : World) (v' : Value), Below w.heap.size w wa → Below wa.heap.size wa w6 → w6.ownsRow wa.heap.size 102 3 v' ps'.length (ps'.flatMap scl) → Turn (E8 q t (E.setOp (ps'.map Prod.fst))) S w (w6.setCell ⟨q, 3, none⟩ v') := by
  obtain ⟨vO, vR, ps, S1, S2, hps, h1, a, b, c, d1, d2, hS⟩ := h.open_
  refine ⟨vO, ps, h1.cell (i := 3) (by omega), hps, b.get.1, fun ps' hin wa w6 v' hba hb6 hr => ?_⟩
  have hb : Below w.heap.size w w6 := hba.trans (hb6.mono hba.size)
  have hb6 := (Wd.ob _).keep b hb
  have hob : Ob (fun W => Sr W v' ps' ∧ Bs W vR E.rest) w6 (fun k => S2 k ∨ v'.ownBlock = some k) := (hb6.and (Ob.own hr)).map fun W hW => ⟨⟨hW.2, fun p hp => hW.1.1.2 _ (hin p hp)⟩, hW.1.2⟩
  exact E8.put (E' := E.setOp (ps'.map Prod.fst)) (vO' := v') (vR' := vR) (ps' := ps') hS h1 a b c d1 d2 hb hob (fun k hk => hk.elim .inl fun hk => .inr (Nat.le_trans hba.size (hr.lt k hk).1)) 3 _ (e8P_3 t E vO v' vR (ps'.map Prod.fst)) rfl rfl
end
/-- The encoder, behind some of the acknowledgments. -/
structure Sg (F : Qe) : Prop where
  err : F.err = 0
  rest : F.rest = sendW (acksW F.op) (opMax F.K F.op) F.T.tot
  op : F.op.length ≤ 64
  small : ∀ x ∈ F.op, x.s ≤ 60
  tot : F.T.tot ≤ 60
  mx : opMax F.K F.op ≤ F.T.tot
theorem Sg.len {F : Qe} (h : Sg F) : F.rest.length ≤ 2000 := by
  have h2 := acksW_len F.op
  have h4 := h.op
  rw [h.rest]
  unfold sendW
  rw [List.length_append]
  have hp := (pre_len 0 6 (F.T.tot - opMax F.K F.op)).2
  split
  · omega
  · simp only [List.length_nil]; omega
def Qe.end_ (F : Qe) : Qe := ((F.setOp []).setK F.T.tot).setRest []
theorem Sg.nil {F : Qe} (h : Sg F) (hr : F.rest = []) : F.end_ = F := by
  have h1 := h.rest
  rw [hr] at h1
  unfold sendW at h1
  have h2 := List.append_eq_nil_iff.1 h1.symm
  have ho : F.op = [] := by
    cases hop : F.op with
    | nil => rfl
    | cons x op =>
      exfalso
      have h3 := h2.1
      rw [hop] at h3
      unfold acksW at h3
      rw [List.flatMap_cons] at h3
      have := (List.append_eq_nil_iff.1 h3).1
      have hl := (pre_len 128 7 x.s).1
      rw [this] at hl
      simp at hl
  have hk : F.K = F.T.tot := by
    have h3 := h2.2
    have hm := h.mx
    rw [ho] at h3 hm
    have e : opMax F.K [] = F.K := rfl
    rw [e] at h3 hm
    by_cases hlt : F.K < F.T.tot
    · rw [if_pos hlt] at h3
      have hl := (pre_len 0 6 (F.T.tot - F.K)).1
      rw [h3] at hl
      simp at hl
    · omega
  unfold Qe.end_ Qe.setOp Qe.setK Qe.setRest
  cases F
  simp only at *
  subst ho
  subst hr
  subst hk
  rfl
theorem pre_ack (s : Nat) (h : s ≤ 60) : pre 128 7 s = [UInt8.ofNat (128 + s)] := by
  have key : ∀ x : Fin 61, pre 128 7 x.val = [UInt8.ofNat (128 + x.val)] := by decide +kernel
  exact key ⟨s, by omega⟩
theorem pre_inc (n : Nat) (h : n ≤ 60) : pre 0 6 n = [UInt8.ofNat n] := by
  have key : ∀ x : Fin 61, pre 0 6 x.val = [UInt8.ofNat x.val] := by decide +kernel
  exact key ⟨n, by omega⟩
/-- An acknowledgment is the next byte. -/
theorem Sg.ack {F : Qe} (h : Sg F) {x : Qs} {op : List Qs} (ho : F.op = x :: op) : ∃ r, F.rest = UInt8.ofNat (128 + x.s) :: r ∧ Sg (((F.setK (max F.K x.c)).setOp op).setRest r) ∧ (((F.setK (max F.K x.c)).setOp op).setRest r).end_ = F.end_ := by
  have hs := h.small x (by rw [ho]; exact List.mem_cons_self)
  have hr := h.rest
  have hm := h.mx
  rw [ho] at hr hm
  have e : opMax F.K (x :: op) = opMax (max F.K x.c) op := rfl
  rw [e] at hr hm
  unfold sendW acksW at hr
  rw [List.flatMap_cons, pre_ack x.s hs, List.append_assoc] at hr
  refine ⟨_, hr, ⟨h.err, rfl, ?_, fun y hy => h.small y (by rw [ho]; exact List.mem_cons_of_mem _ hy), h.tot, hm⟩, rfl⟩
  have := h.op
  rw [ho] at this
  simp only [List.length_cons] at this
  show op.length ≤ 64
  omega
/-- The count is the next byte. -/
theorem Sg.inc {F : Qe} (h : Sg F) (ho : F.op = []) (hne : F.rest ≠ []) : F.K < F.T.tot ∧ F.rest = [UInt8.ofNat (F.T.tot - F.K)] ∧ Sg ((F.setK F.T.tot).setRest []) ∧ ((F.setK F.T.tot).setRest []).end_ = F.end_ := by
  have hr := h.rest
  rw [ho] at hr
  unfold sendW at hr
  have e : opMax F.K [] = F.K := rfl
  have e2 : acksW [] = [] := rfl
  rw [e, e2, List.nil_append] at hr
  by_cases hlt : F.K < F.T.tot
  · rw [if_pos hlt] at hr
    have ht := h.tot
    rw [pre_inc _ (by omega)] at hr
    refine ⟨hlt, hr, ⟨h.err, ?_, h.op, h.small, h.tot, ?_⟩, rfl⟩
    · show ([] : List UInt8) = sendW (acksW F.op) (opMax F.T.tot F.op) F.T.tot
      rw [ho]
      unfold sendW
      show [] = [] ++ (if F.T.tot < F.T.tot then _ else [])
      rw [if_neg (Nat.lt_irrefl _)]
      rfl
    · show opMax F.T.tot F.op ≤ F.T.tot
      rw [ho]
      exact Nat.le_refl _
  · rw [if_neg hlt] at hr
    exact absurd hr hne
theorem rp_ack (s : Nat) (h : s ≤ 60) (r : List UInt8) : rp 7 (UInt8.ofNat (128 + s) :: r) = ((s : Int), 1, 0) := by
  have hm := rp_pre 128 7 s (by omega) (by omega) (by omega) r
  rw [pre_ack s h, if_pos (by unfold maxVar; omega)] at hm
  exact hm
theorem rp_inc (n : Nat) (h : n ≤ 60) : rp 6 [UInt8.ofNat n] = ((n : Int), 1, 0) := by
  have hm := rp_pre 0 6 n (by omega) (by omega) (by omega) []
  rw [pre_inc n h, if_pos (by unfold maxVar; omega)] at hm
  exact hm
section
variable {q t : Nat} {E : Qe} {w w' : World} {S : Nat → Prop}
set_option maxRecDepth 100000 in
set_option maxHeartbeats 40000000 in
theorem feed8_send (h : E8 q t E w S) (hr : E.rest = []) {b : List UInt8} (hg : Sg (E.setRest b)) {bV : Value} (hb : ∀ W, Fp S w W → Bs W bV b) :
    Calls Try.prog 22 #[.pointer (some ⟨q, 0, none⟩), bV] w fun r w' => r = .returned (.int .i64 0) ∧ Turn (E8 q t E.end_) S w w' := by
  have he : E.err = 0 := hg.err
  have HG := Bx.mk hg
  have hbl : b.length ≤ 2000 := hg.len
  obtain ⟨vO, vR, ps, S1, S2, hps, h1, a, bb, cc, d1, d2, hS⟩ := h.open_
  have bbR : Ob (fun W => Bs W vR E.rest) w S2 := bb.map fun W hW => hW.2
  have hrs := bbR.get
  obtain ⟨A, hslice, hpush⟩ := bs_push hrs (by rw [hr]; simp)
  have hlen := fun ty W => hrs.run_len ty W
  have hbw := hb w.drew (Fp.of_below (Below.refl _ _).drew)
  obtain ⟨v1, w1, hrun, hb1, S4, hob, hs4⟩ := hpush w.drew bV b 23 S2 ((Wd.ob _).keep bbR (Below.refl _ _).drew) hbw (by omega)
  have hbx1 : Below w.heap.size w w1 := (Below.refl _ _).drew.trans hb1
  have hq := h1.lt
  have c3 : w.cell? ⟨q, 4, none⟩ = some vR := h1.cell (i := 4) (by omega)
  have c4 : w.cell? ⟨q, 5, none⟩ = some (.int .i64 (E.err : Int)) := h1.cell (i := 5) (by omega)
  rw [he] at c4
  have d0 : w.drew.cell? ⟨q, 4, none⟩ = some vR := c3
  have d6 : w1.cell? ⟨q, 4, none⟩ = some vR := (hbx1.cell hq).trans c3
  have df : w1.frozen? ⟨q, 4, none⟩ = false := (h1.of_block (hbx1.block q hq)).frozen 4
  rw [hr, List.nil_append] at hob
  have bbO : Ob (fun W => Sr W vO ps) w S2 := bb.map fun W hW => hW.1
  have hT := Bx.mk (E8.put (E' := E.setRest b) (vO' := vO) (vR' := v1) (ps' := ps) (S4 := fun k => S2 k ∨ S4 k) hS h1 a bb cc d1 d2 hbx1 (((Wd.ob _).keep bbO hbx1).and hob) (fun k hk => hk.elim .inl (hs4 k)) 4 v1 (e8P_4 t E vO vR v1 b) rfl hps)
  obtain ⟨A1, n1, m1, hv1⟩ : ∃ A n m, v1 = .slice A n m := by
    obtain ⟨A2, n2, c2, e, _⟩ := (hob.get).open_
    exact ⟨_, _, _, e⟩
  subst hv1
  have hnr : E.rest.length = 0 := by rw [hr]; rfl
  rw [hnr] at hslice hlen hrun
  have z0 : ((0 : Nat) : Int) = 0 := rfl
  simp only [z0] at hslice hlen c4
  clear z0
  have HBL := Bx.mk hbl
  clear h hb h1 a bb bbR bbO cc d1 d2 hS hrs hpush hbw hob hs4 hb1 c3 he hr hps hnr hg hbl
  go_enter Try.func22, Try.ntmps22
  go_upto_region 3 with fail
  -- REGION A
  refine wp_region_x 20 (fun W => W.cell? ⟨q, 4, none⟩ = some vR) (by kernel_rfl) (d0) (fun hHeld => ?_)
  refine wpAnyX_take0 (i := 0) (oi := ⟨some 22, Op.move (Operand.tmp 0), 44, _, _, none⟩) (v := ?v0) rfl (by omega) (by kernel_rfl) (by kernel_rfl) (by kernel_rfl) (fun _ _ _ h => h) (Or.inl ⟨by rfl, ?y0⟩) (by assumption) ?r0
  case y0 =>
    intro W hSw
    try dsimp only at hSw
    go_simp
    try with_reducible rfl
  case r0 =>
  try simp only [Act.put, List.setIfInBounds_toArray, List.set_cons_zero, List.set_cons_succ]
  refine wpAnyX_take0 (i := 1) (oi := ⟨some 23, Op.move (Operand.tmp 0), 44, _, _, none⟩) (v := ?v1) rfl (by omega) (by kernel_rfl) (by kernel_rfl) (by kernel_rfl) (fun _ _ _ h => h) (Or.inl ⟨by rfl, ?y1⟩) (by assumption) ?r1
  case y1 =>
    intro W hSw
    try dsimp only at hSw
    go_simp
    try with_reducible rfl
  case r1 =>
  try simp only [Act.put, List.setIfInBounds_toArray, List.set_cons_zero, List.set_cons_succ]
  refine wpAnyX_take0 (i := 2) (oi := ⟨some 24, Op.nilCheck (Operand.tmp 23), 0, _, _, none⟩) (v := ?v2) rfl (by omega) (by kernel_rfl) (by kernel_rfl) (by kernel_rfl) (fun _ _ _ h => h) (Or.inl ⟨by rfl, ?y2⟩) (by assumption) ?r2
  case y2 =>
    intro W hSw
    try dsimp only at hSw
    go_simp
    try with_reducible rfl
  case r2 =>
  try simp only [Act.put, List.setIfInBounds_toArray, List.set_cons_zero, List.set_cons_succ]
  refine wpAnyX_take0 (i := 3) (oi := ⟨some 25, Op.fieldAddr 84 (Operand.tmp 24) 4, 0, _, _, none⟩) (v := ?v3) rfl (by omega) (by kernel_rfl) (by kernel_rfl) (by kernel_rfl) (fun _ _ _ h => h) (Or.inl ⟨by rfl, ?y3⟩) (by assumption) ?r3
  case y3 =>
    intro W hSw
    try dsimp only at hSw
    go_simp
    try with_reducible rfl
  case r3 =>
  try simp only [Act.put, List.setIfInBounds_toArray, List.set_cons_zero, List.set_cons_succ]
  refine wpAnyX_take (i := 4) (oi := ⟨some 26, Op.load 23 (Operand.tmp 25), 23, _, _, none⟩) (v := ?v4) rfl (by omega) (by kernel_rfl) (by kernel_rfl) (by kernel_rfl) (by kernel_rfl) (by kernel_rfl) (fun _ _ _ h => h) (Or.inl ⟨by rfl, ?y4⟩) (by assumption) ?r4
  case y4 =>
    intro W hSw
    try dsimp only at hSw
    go_simp
    try with_reducible rfl
  case r4 =>
  try simp only [Act.put, List.setIfInBounds_toArray, List.set_cons_zero, List.set_cons_succ]
  refine wpAnyX_take0 (i := 5) (oi := ⟨some 27, Op.move (Operand.tmp 0), 44, _, _, none⟩) (v := ?v5) rfl (by omega) (by kernel_rfl) (by kernel_rfl) (by kernel_rfl) (fun _ _ _ h => h) (Or.inl ⟨by rfl, ?y5⟩) (by assumption) ?r5
  case y5 =>
    intro W hSw
    try dsimp only at hSw
    go_simp
    try with_reducible rfl
  case r5 =>
  try simp only [Act.put, List.setIfInBounds_toArray, List.set_cons_zero, List.set_cons_succ]
  refine wpAnyX_take0 (i := 6) (oi := ⟨some 28, Op.nilCheck (Operand.tmp 27), 0, _, _, none⟩) (v := ?v6) rfl (by omega) (by kernel_rfl) (by kernel_rfl) (by kernel_rfl) (fun _ _ _ h => h) (Or.inl ⟨by rfl, ?y6⟩) (by assumption) ?r6
  case y6 =>
    intro W hSw
    try dsimp only at hSw
    go_simp
    try with_reducible rfl
  case r6 =>
  try simp only [Act.put, List.setIfInBounds_toArray, List.set_cons_zero, List.set_cons_succ]
  refine wpAnyX_take0 (i := 7) (oi := ⟨some 29, Op.fieldAddr 84 (Operand.tmp 28) 4, 0, _, _, none⟩) (v := ?v7) rfl (by omega) (by kernel_rfl) (by kernel_rfl) (by kernel_rfl) (fun _ _ _ h => h) (Or.inl ⟨by rfl, ?y7⟩) (by assumption) ?r7
  case y7 =>
    intro W hSw
    try dsimp only at hSw
    go_simp
    try with_reducible rfl
  case r7 =>
  try simp only [Act.put, List.setIfInBounds_toArray, List.set_cons_zero, List.set_cons_succ]
  refine wpAnyX_take (i := 8) (oi := ⟨some 30, Op.load 23 (Operand.tmp 29), 23, _, _, none⟩) (v := ?v8) rfl (by omega) (by kernel_rfl) (by kernel_rfl) (by kernel_rfl) (by kernel_rfl) (by kernel_rfl) (fun _ _ _ h => h) (Or.inl ⟨by rfl, ?y8⟩) (by assumption) ?r8
  case y8 =>
    intro W hSw
    try dsimp only at hSw
    go_simp
    try with_reducible rfl
  case r8 =>
  try simp only [Act.put, List.setIfInBounds_toArray, List.set_cons_zero, List.set_cons_succ]
  refine wpAnyX_take (i := 9) (oi := ⟨some 31, Op.call { callee := Callee.builtin Builtin.len, args := #[Operand.tmp 30], argTypes := #[23] }, 3, _, _, none⟩) (v := ?v9) rfl (by omega) (by kernel_rfl) (by kernel_rfl) (by kernel_rfl) (by kernel_rfl) (by kernel_rfl) (fun _ _ _ h => h) (Or.inl ⟨by rfl, ?y9⟩) (by assumption) ?r9
  case y9 =>
    intro W hSw
    try dsimp only at hSw
    go_simp
    try with_reducible rfl
  case r9 =>
  try simp only [Act.put, List.setIfInBounds_toArray, List.set_cons_zero, List.set_cons_succ]
  refine wpAnyX_take0 (i := 10) (oi := ⟨some 32, Op.move (Operand.tmp 0), 44, _, _, none⟩) (v := ?v10) rfl (by omega) (by kernel_rfl) (by kernel_rfl) (by kernel_rfl) (fun _ _ _ h => h) (Or.inl ⟨by rfl, ?y10⟩) (by assumption) ?r10
  case y10 =>
    intro W hSw
    try dsimp only at hSw
    go_simp
    try with_reducible rfl
  case r10 =>
  try simp only [Act.put, List.setIfInBounds_toArray, List.set_cons_zero, List.set_cons_succ]
  refine wpAnyX_take0 (i := 11) (oi := ⟨some 33, Op.nilCheck (Operand.tmp 32), 0, _, _, none⟩) (v := ?v11) rfl (by omega) (by kernel_rfl) (by kernel_rfl) (by kernel_rfl) (fun _ _ _ h => h) (Or.inl ⟨by rfl, ?y11⟩) (by assumption) ?r11
  case y11 =>
    intro W hSw
    try dsimp only at hSw
    go_simp
    try with_reducible rfl
  case r11 =>
  try simp only [Act.put, List.setIfInBounds_toArray, List.set_cons_zero, List.set_cons_succ]
  refine wpAnyX_take0 (i := 12) (oi := ⟨some 34, Op.fieldAddr 84 (Operand.tmp 33) 4, 0, _, _, none⟩) (v := ?v12) rfl (by omega) (by kernel_rfl) (by kernel_rfl) (by kernel_rfl) (fun _ _ _ h => h) (Or.inl ⟨by rfl, ?y12⟩) (by assumption) ?r12
  case y12 =>
    intro W hSw
    try dsimp only at hSw
    go_simp
    try with_reducible rfl
  case r12 =>
  try simp only [Act.put, List.setIfInBounds_toArray, List.set_cons_zero, List.set_cons_succ]
  refine wpAnyX_take (i := 13) (oi := ⟨some 35, Op.load 23 (Operand.tmp 34), 23, _, _, none⟩) (v := ?v13) rfl (by omega) (by kernel_rfl) (by kernel_rfl) (by kernel_rfl) (by kernel_rfl) (by kernel_rfl) (fun _ _ _ h => h) (Or.inl ⟨by rfl, ?y13⟩) (by assumption) ?r13
  case y13 =>
    intro W hSw
    try dsimp only at hSw
    go_simp
    try with_reducible rfl
  case r13 =>
  try simp only [Act.put, List.setIfInBounds_toArray, List.set_cons_zero, List.set_cons_succ]
  refine wpAnyX_take (i := 14) (oi := ⟨some 36, Op.call { callee := Callee.builtin Builtin.len, args := #[Operand.tmp 35], argTypes := #[23] }, 3, _, _, none⟩) (v := ?v14) rfl (by omega) (by kernel_rfl) (by kernel_rfl) (by kernel_rfl) (by kernel_rfl) (by kernel_rfl) (fun _ _ _ h => h) (Or.inl ⟨by rfl, ?y14⟩) (by assumption) ?r14
  case y14 =>
    intro W hSw
    try dsimp only at hSw
    go_simp
    try with_reducible rfl
  case r14 =>
  try simp only [Act.put, List.setIfInBounds_toArray, List.set_cons_zero, List.set_cons_succ]
  refine wpAnyX_take0 (i := 15) (oi := ⟨some 37, Op.slice 23 (Operand.tmp 26) none (some (Operand.tmp 31)) (some (Operand.tmp 36)), 23, _, _, none⟩) (v := ?v15) rfl (by omega) (by kernel_rfl) (by kernel_rfl) (by kernel_rfl) (fun _ _ _ h => h) (Or.inl ⟨by rfl, ?y15⟩) (by assumption) ?r15
  case y15 =>
    intro W hSw
    try dsimp only at hSw
    go_simp
    try with_reducible rfl
  case r15 =>
  try simp only [Act.put, List.setIfInBounds_toArray, List.set_cons_zero, List.set_cons_succ]
  refine wpAnyX_take0 (i := 16) (oi := ⟨some 38, Op.move (Operand.tmp 1), 23, _, _, none⟩) (v := ?v16) rfl (by omega) (by kernel_rfl) (by kernel_rfl) (by kernel_rfl) (fun _ _ _ h => h) (Or.inl ⟨by rfl, ?y16⟩) (by assumption) ?r16
  case y16 =>
    intro W hSw
    try dsimp only at hSw
    go_simp
    try with_reducible rfl
  case r16 =>
  try simp only [Act.put, List.setIfInBounds_toArray, List.set_cons_zero, List.set_cons_succ]
  refine wpAnyX_one (i := 17) (by kernel_rfl) rfl (fun K hK => ?_)
  refine step_append_run rfl (.tmp 37) (.tmp 38) 23 rfl (.slice A 0 0) _ rfl rfl hrun ?_
  refine hK.out _ _ (fun _ => d6) ?_
  clear hK K
  try simp only [Act.put, List.setIfInBounds_toArray, List.set_cons_zero, List.set_cons_succ]
  refine wpAnyX_take0 (i := 18) (oi := ⟨some 40, Op.nilCheck (Operand.tmp 22), 0, _, _, none⟩) (v := ?v18) rfl (by omega) (by kernel_rfl) (by kernel_rfl) (by kernel_rfl) (fun _ _ _ h => h) (Or.inl ⟨by rfl, ?y18⟩) (by assumption) ?r18
  case y18 =>
    intro W hSw
    try dsimp only at hSw
    go_simp
    try with_reducible rfl
  case r18 =>
  try simp only [Act.put, List.setIfInBounds_toArray, List.set_cons_zero, List.set_cons_succ]
  refine wpAnyX_take0 (i := 19) (oi := ⟨some 41, Op.fieldAddr 84 (Operand.tmp 40) 4, 0, _, _, none⟩) (v := ?v19) rfl (by omega) (by kernel_rfl) (by kernel_rfl) (by kernel_rfl) (fun _ _ _ h => h) (Or.inl ⟨by rfl, ?y19⟩) (by assumption) ?r19
  case y19 =>
    intro W hSw
    try dsimp only at hSw
    go_simp
    try with_reducible rfl
  case r19 =>
  try simp only [Act.put, List.setIfInBounds_toArray, List.set_cons_zero, List.set_cons_succ]
  refine wpAnyX_one (i := 20) (by kernel_rfl) rfl (fun K hK => ?_)
  go_simp
  refine hK.out _ _ (fun h => absurd h (by decide)) ?_
  clear hK K
  try simp only [Act.put, List.setIfInBounds_toArray, List.set_cons_zero, List.set_cons_succ]
  refine wpAnyX_done (by kernel_rfl) ?_ _
  -- END A
  clear hrun hlen hslice d0 d6 df hbx1 c4 hHeld
  obtain ⟨w2, hw2⟩ : ∃ w2, w1.setCell ⟨q, 4, none⟩ (.slice A1 n1 m1) = w2 := ⟨_, rfl⟩
  rw [hw2] at hT ⊢
  clear hw2 hq
  go_wp2_with fail
  go_loopg [5] b.length (fun g s5 wx => ∃ F : Qe, Bx (F.rest.length = g) ∧ Bx (Sg F) ∧ Bx (F.end_ = E.end_) ∧ Bx (Turn (E8 q t F) S w wx))
  case atStart => exact ⟨E.setRest b, ⟨rfl⟩, HG, ⟨rfl⟩, hT⟩
  case round =>
    obtain ⟨F, HL, HSG, HEND, HTN⟩ := hrel
    obtain ⟨e, he, hes, hfp⟩ := HTN.out
    have HE8 := Bx.mk he
    obtain ⟨vO2, vR2, ps2, f1, f2, f3, k0, k1, k2, k3, k4, k5, k6, kf⟩ := he.cells
    have HBS3 := Bx.mk f3
    have hlen3 := fun ty W => f3.run_len ty W
    rw [HL.out] at hlen3
    have HSTEP : Bx (∀ (E' : Qe) w', Turn (E8 q t E') e wr w' → Turn (E8 q t E') S w w') := ⟨fun E' w' h => Turn.step (S := S) (S1 := e) hes hfp h⟩
    have HOP : Bx (ps2.map Prod.fst = F.op) := ⟨f1⟩
    have HSR := Bx.mk f2
    have hkf := kf 2
    clear hT he hes hfp f1 f2 f3 k1 k6
    cases gk with
    | zero =>
      have HF : Bx (Turn (E8 q t E.end_) S w wr) := ⟨by
        have := HSG.out.nil (List.eq_nil_of_length_eq_zero HL.out)
        rw [← HEND.out, this]
        exact HTN.out⟩
      clear k0 k2 k3 k5 kf hkf
      rw [show ((0 : Nat) : Int) = 0 from rfl] at hlen3
      go_wp2_with fail
      go_ret
      exact ⟨rfl, HF.out⟩
    | succ g =>
      have hgd : decide (0 < ((g + 1 : Nat) : Int)) = true := decide_eq_true (by omega)
      obtain ⟨pa, hix, hcs⟩ := HBS3.out.at_ 0 (by rw [HL.out]; omega)
      have e0 := hcs wr HBS3.out
      rw [show ((0 : Nat) : Int) = 0 from rfl] at hix
      clear hcs
      cases hop : F.op with
      | nil =>
        obtain ⟨hlt, hrest, hsg, hend⟩ := HSG.out.inc hop (fun h => by have := HL.out; rw [h] at this; simp at this)
        have htt := HSG.out.tot
        obtain ⟨vL, _, t0, t1, t2⟩ := HE8.out.tcells
        obtain ⟨n, hn⟩ : ∃ n, F.T.tot - F.K = n := ⟨_, rfl⟩
        have hn60 : n ≤ 60 := by omega
        have hg0 : g = 0 := by have := HL.out; rw [hrest] at this; simp at this; omega
        subst hg0
        rw [hn] at hrest
        have hC : (F.rest[0]'(by rw [hrest]; simp)).toNat = n := by
          simp only [hrest, List.getElem_cons_zero, UInt8.toNat_ofNat']
          omega
        have e0' : wr.cell? pa = some (.int .u8 (n : Int)) := by rw [e0, hC]
        have HR6 := Bx.mk (refReadPrefix_any vR2 F.rest 6 wr HBS3.out (by rw [HL.out]; omega))
        rw [show bitsOf 6 = 6 from rfl, hrest, rp_inc n hn60] at HR6
        simp only [Ans3] at HR6
        obtain ⟨Kn, hKn⟩ : ∃ Kn, F.K = Kn := ⟨_, rfl⟩
        obtain ⟨Tn, hTn⟩ : ∃ Tn, F.T.tot = Tn := ⟨_, rfl⟩
        have k2' : wr.cell? ⟨q, 2, none⟩ = some (.int .u64 (Kn : Int)) := by rw [← hKn]; exact k2
        rw [hTn] at t2 hn htt hlt hsg hend
        rw [hKn] at hn hlt
        obtain ⟨N, hN⟩ := letter n
        obtain ⟨KI, hKI⟩ := letter Kn
        obtain ⟨TI, hTI⟩ := letter Tn
        have hand : bits .and .u8 N 128 = 0 := by
          rw [← hN, show bits .and .u8 (n : Int) 128 = ((n &&& 128 : Nat) : Int) from u8_and_nat _ 128 (by omega) (by decide), (qmask n (by omega)).2.1 (by omega)]
          rfl
        have hand64 : bits .and .u8 N 64 = 0 := by
          rw [← hN, show bits .and .u8 (n : Int) 64 = ((n &&& 64 : Nat) : Int) from u8_and_nat _ 64 (by omega) (by decide), (qmask n (by omega)).2.2.1 (by omega)]
          rfl
        have hsub : IntKind.u64.wrap (TI - KI) = N := by rw [show TI - KI = N from by omega]; exact u64_keep (by omega) (by omega)
        have hadd : IntKind.u64.wrap (KI + N) = TI := by rw [show KI + N = TI from by omega]; exact u64_keep (by omega) (by omega)
        have g1 : decide (0 < N) = true := decide_eq_true (by omega)
        have g2 : decide (N ≤ N) = true := decide_eq_true (Int.le_refl _)
        rw [hN] at e0' HR6
        rw [hKI] at k2'
        rw [hTI] at t2
        have HSG2 := Bx.mk hsg
        have HEND2 := Bx.mk hend
        have HREST := Bx.mk hrest
        have HTI := Bx.mk hTI
        clear e0 k2 k5 t0 t1 hn hn60 hrest hC hKn hTn hN hKI hTI htt hlt hsg hend hop hgd kf
        go_wp2_with (go_at_call 46; refine HR6.out.mono ?_; rintro r w5 ⟨rfl, rfl⟩)
        go_quiet (fail)
        have hbq : Below wr.heap.size wr (wr.drewN nq) := below_drewN (Below.refl _ _) _
        obtain ⟨w6, hw6⟩ : ∃ w6, wr.drewN nq = w6 := ⟨_, rfl⟩
        rw [hw6] at hbq ⊢
        have he6 := (Wd.e8 q t F).keep HE8.out hbq
        have HT7 := Bx.mk (Turn.before hbq (he6.putK Tn))
        rw [HTI.out] at HT7
        have y2 : w6.cell? ⟨q, 2, none⟩ = some (.int .u64 KI) := (hbq.cell (World.block_lt_of_cell? _ _ k2')).trans k2'
        have y4 : w6.cell? ⟨q, 4, none⟩ = some vR2 := (hbq.cell (World.block_lt_of_cell? _ _ k4)).trans k4
        have y4' : (w6.setCell ⟨q, 2, none⟩ (.int .u64 TI)).cell? ⟨q, 4, none⟩ = some vR2 := (World.cell?_setCell_other _ ⟨q, 2, none⟩ ⟨q, 4, none⟩ _ (by intro h; injection h with _ h; cases h)).trans y4
        obtain ⟨_, _, _, _, _, _, _, _, _, _, _, _, _, xf⟩ := he6.cells
        have z2 : w6.frozen? ⟨q, 2, none⟩ = false := xf 2
        clear hw6 hbq t2 k2' k0 k3 k4 e0' he6 xf y4 hkf
        go_upto_region 35 with fail
        obtain ⟨w7, hw7⟩ : ∃ w7, w6.setCell ⟨q, 2, none⟩ (.int .u64 TI) = w7 := ⟨_, rfl⟩
        rw [hw7] at HT7 y4' ⊢
        clear hw7 y2 z2
        obtain ⟨e7, he7, hes7, hfp7⟩ := HT7.out
        obtain ⟨vR3, hsl3, hbs3⟩ := HBS3.out.from_ (1 : Int) (by omega) (by rw [HL.out]; omega)
        obtain ⟨A7, n7, c7, rfl⟩ : ∃ A n c, vR3 = .slice A n c := by
          obtain ⟨A2, n2, c2, e, _⟩ := (hbs3 wr HBS3.out).open_
          exact ⟨_, _, _, e⟩
        obtain ⟨_, _, _, _, _, _, _, _, _, _, _, _, _, kf7⟩ := he7.cells
        have fd4 : w7.frozen? ⟨q, 4, none⟩ = false := kf7 4
        have HT8 := Bx.mk (HSTEP.out _ _ (Turn.step hes7 hfp7 (he7.putRest y4' (r := []) (fun W h => by have := hbs3 W h; rw [HREST.out] at this; exact this))))
        clear he7 hes7 hfp7 kf7 HT7 hbs3
        go_wp2_with fail
        go_roundg 0
        case measure => omega
        case rel => exact ⟨_, ⟨rfl⟩, HSG2, ⟨HEND2.out.trans HEND.out⟩, HT8⟩
      | cons x op =>
        obtain ⟨r, hrest, hsg, hend⟩ := HSG.out.ack hop
        have hxs := HSG.out.small x (by rw [hop]; exact List.mem_cons_self)
        have hlenO := fun ty W => HSR.out.run_len ty W
        obtain ⟨s0, s1, b1, o1, hix1, hlenL, hcs1⟩ : wr.cell? pa = wr.cell? pa ∧ True ∧ ∃ b1 o1 : Nat, (∀ W : World, (Instr.indexAt 82 vO2 (.int .i64 0)).run Try.prog W = .ok (.pointer (some ⟨b1, o1, none⟩)) W) ∧ 0 < ps2.length ∧ (∀ W, Sr W vO2 ps2 → W.cell? ⟨b1, o1, none⟩ = some (.int .u64 (x.s : Int)) ∧ W.cell? ⟨b1, o1 + 1, none⟩ = some (.int .u64 (x.c : Int))) := by
          have hO := HOP.out
          rw [hop] at hO
          have hl : 0 < ps2.length := by
            have := congrArg List.length hO
            simp only [List.length_map, List.length_cons] at this
            omega
          obtain ⟨b1, o1, hix1, hcs1⟩ := HSR.out.at_ 0 hl
          have hp : (ps2[0]'hl).1 = x := by
            cases ps2 with
            | nil => simp at hl
            | cons p ps => simp only [List.map_cons, List.cons.injEq] at hO; exact hO.1
          refine ⟨rfl, trivial, b1, o1, hix1, hl, fun W hW => ?_⟩
          obtain ⟨c0, c1, _⟩ := hcs1 W hW
          rw [hp] at c0 c1
          exact ⟨c0, c1⟩
        clear s0 s1
        obtain ⟨s0, s1⟩ := hcs1 wr HSR.out
        obtain ⟨LO, hLO⟩ := letter ps2.length
        rw [hLO] at hlenO
        have hgo : decide (0 < LO) = true := decide_eq_true (by omega)
        have hC0 : (F.rest[0]'(by rw [hrest]; simp)).toNat = 128 + x.s := by
          simp only [hrest, List.getElem_cons_zero, UInt8.toNat_ofNat']
          omega
        have e0' : wr.cell? pa = some (.int .u8 ((128 + x.s : Nat) : Int)) := by rw [e0, hC0]
        have hand0 := and_highB (128 + x.s) (by omega) (by omega)
        obtain ⟨C, hC⟩ := letter (128 + x.s)
        rw [hC] at e0' hand0
        have HR7 := Bx.mk (refReadPrefix_any vR2 F.rest 7 wr HBS3.out (by have := HSG.out.len; omega))
        rw [show bitsOf 7 = 7 from rfl, hrest, rp_ack x.s hxs r] at HR7
        simp only [Ans3] at HR7
        obtain ⟨N, hN⟩ := letter x.s
        rw [hN] at HR7 s0
        obtain ⟨Kn, hKn⟩ : ∃ Kn, F.K = Kn := ⟨_, rfl⟩
        obtain ⟨xc, hxc⟩ : ∃ xc, x.c = xc := ⟨_, rfl⟩
        rw [hxc] at s1
        have k2' : wr.cell? ⟨q, 2, none⟩ = some (.int .u64 (Kn : Int)) := by rw [← hKn]; exact k2
        have HREST := Bx.mk hrest
        have HLR : Bx (r.length = g) := ⟨by have := HL.out; rw [hrest] at this; simpa using this⟩
        have kd2 : wr.drew.cell? ⟨q, 2, none⟩ = some (.int .u64 (Kn : Int)) := k2'
        have kd3 : wr.drew.cell? ⟨q, 3, none⟩ = some vO2 := k3
        have sd1 : wr.drew.cell? ⟨b1, o1 + 1, none⟩ = some (.int .u64 (xc : Int)) := s1
        have fd2 : wr.drew.frozen? ⟨q, 2, none⟩ = false := hkf
        obtain ⟨MX, hMX⟩ : ∃ MX : Nat, max Kn xc = MX := ⟨_, rfl⟩
        have hmx : max (Kn : Int) (xc : Int) = (MX : Int) := by omega
        rw [hKn, hxc, hMX] at hsg hend
        have HSG2 := Bx.mk hsg
        have HEND2 := Bx.mk hend
        have HT6 := Bx.mk ((Wd.e8 q t (F.setK MX)).after (HE8.out.putK MX) (Below.refl _ _).drew)
        have k3' : (wr.setCell ⟨q, 2, none⟩ (.int .u64 (MX : Int))).drew.cell? ⟨q, 3, none⟩ = some vO2 := (World.cell?_setCell_other _ ⟨q, 2, none⟩ ⟨q, 3, none⟩ _ (by intro h; injection h with _ h; cases h)).trans k3
        have k4' : (wr.setCell ⟨q, 2, none⟩ (.int .u64 (MX : Int))).drew.cell? ⟨q, 4, none⟩ = some vR2 := (World.cell?_setCell_other _ ⟨q, 2, none⟩ ⟨q, 4, none⟩ _ (by intro h; injection h with _ h; cases h)).trans k4
        have HOPX : Bx ((F.setK MX).op = x :: op) := ⟨hop⟩
        clear hMX k2 hKn hxc hsg hend hC0 e0 hC hN hrest hlenL hcs1 kf hop hgd hLO hxs
        go_wp2_with (go_at_call 46; refine HR7.out.mono ?_; rintro r w5 ⟨rfl, rfl⟩)
        refine wp_loop_rounds 1 ?_
        rw [rounds_succ]
        go_upto_region 24 with fail
        go_region
        all_goals go_upto_region 25 with fail
        all_goals
          (clear kd2 kd3 sd1 fd2 hmx s0 s1 k0 k2' k3 k4 k5 hix hlen3 hlenO e0' hand0 hgo hix1
           obtain ⟨w6, hw6⟩ : ∃ w6, (wr.setCell ⟨q, 2, none⟩ (.int .u64 (MX : Int))).drew = w6 := ⟨_, rfl⟩
           rw [hw6] at HT6 k3' k4' ⊢
           clear hw6
           obtain ⟨e6, he6, hes6, hfp6⟩ := HT6.out
           have kd3 : w6.drew.cell? ⟨q, 3, none⟩ = some vO2 := k3'
           obtain ⟨_, _, _, _, _, _, _, _, _, _, _, _, _, kf6⟩ := he6.cells
           obtain ⟨vO6, ps6, r1, r2, r3, r4⟩ := he6.row
           rw [k3'] at r1
           injection r1 with r1
           subst r1
           rw [HOPX.out] at r2
           have hw1 : IntKind.i64.wrap 1 = 1 := by simp [IntKind.wrap, IntKind.signed, IntKind.bits]
           cases ps6 with
           | nil => exact absurd r2 (by simp)
           | cons p6 pt =>
             simp only [List.map_cons, List.cons.injEq] at r2
             cases pt with
             | nil =>
               obtain ⟨A5, A6, c6, hcut1, hcut2, hcut3, hcutS⟩ := r3.cut1
               have ho0 : op = [] := r2.2.symm
               have fd3 : w6.drew.frozen? ⟨q, 3, none⟩ = false := kf6 3
               have HT7 := Bx.mk (Turn.step hes6 hfp6 ((Wd.e8 q t ((F.setK MX).setOp [])).after (he6.putOp k3' (v' := .slice A5 0 0) (op := []) (fun ps' h => ⟨[], rfl, fun W _ => hcutS W⟩)) (Below.refl _ _).drew))
               have k4'' : (w6.setCell ⟨q, 3, none⟩ (.slice A5 0 0)).drew.cell? ⟨q, 4, none⟩ = some vR2 := (World.cell?_setCell_other _ ⟨q, 3, none⟩ ⟨q, 4, none⟩ _ (by intro h; injection h with _ h; cases h)).trans k4'
               rw [ho0] at HSG2 HEND2
               clear he6 hes6 hfp6 kf6 HT6 r2 r3 r4 hcutS
               go_region_law (refine step_append_run rfl (.tmp 147) (.tmp 154) 82 rfl (.slice A5 0 0) _ rfl rfl (hcut3 _ _) ?_)
               all_goals
                (clear kd3 fd3 k3' k4'
                 obtain ⟨w7, hw7⟩ : ∃ w7, (w6.setCell ⟨q, 3, none⟩ (.slice A5 0 0)).drew = w7 := ⟨_, rfl⟩
                 rw [hw7] at HT7 k4'' ⊢
                 clear hw7
                 obtain ⟨e7, he7, hes7, hfp7⟩ := HT7.out
                 obtain ⟨vR3, hsl3, hbs3⟩ := HBS3.out.from_ (1 : Int) (by omega) (by rw [HL.out]; omega)
                 obtain ⟨A7, n7, c7, rfl⟩ : ∃ A n c, vR3 = .slice A n c := by
                   obtain ⟨A2, n2, c2, e, _⟩ := (hbs3 wr HBS3.out).open_
                   exact ⟨_, _, _, e⟩
                 obtain ⟨_, _, _, _, _, _, _, _, _, _, _, _, _, kf7⟩ := he7.cells
                 have fd4 : w7.frozen? ⟨q, 4, none⟩ = false := kf7 4
                 have HT8 := Bx.mk (HSTEP.out _ _ (Turn.step hes7 hfp7 (he7.putRest k4'' (r := r) (fun W h => by have := hbs3 W h; rw [HREST.out] at this; exact this))))
                 clear he7 hes7 hfp7 kf7 HT7 hbs3
                 go_wp2_with fail
                 go_roundg g
                 case measure => omega
                 case rel => exact ⟨_, ⟨HLR.out⟩, HSG2, ⟨HEND2.out.trans HEND.out⟩, HT8⟩)
             | cons p7 pt =>
               obtain ⟨A5, A6, n6, c6, hcut1, hcut2, happ⟩ := r3.cutN (by simp) (by have := HSG2.out.op; have h7 := congrArg List.length r2.2; simp only [List.length_map] at h7; rw [h7]; show op.length ≤ 100000; have h8 : op.length ≤ 64 := HSG2.out.op; omega)
               obtain ⟨v7, wa, hrun, hown, hba⟩ := happ w6.drew 82 (r3.keep (Below.refl _ _).drew)
               have hb6a : Below w6.heap.size w6 wa := (Below.refl _ _).drew.trans hba
               have ht7 := r4 (p7 :: pt) (fun p hp => List.mem_cons_of_mem _ hp) w6.drew wa v7 (Below.refl _ _).drew hba hown
               rw [r2.2] at ht7
               have HT7 := Bx.mk (Turn.step hes6 hfp6 ht7)
               obtain ⟨A8, n8, c8, hv8⟩ : ∃ A n c, v7 = .slice A n c := by
                 obtain ⟨A, c, e, _⟩ := Rn.of_own hown
                 exact ⟨_, _, _, e⟩
               subst hv8
               have kd7 : wa.cell? ⟨q, 3, none⟩ = some vO2 := (hb6a.cell (World.block_lt_of_cell? _ _ k3')).trans k3'
               have k4a : wa.cell? ⟨q, 4, none⟩ = some vR2 := (hb6a.cell (World.block_lt_of_cell? _ _ k4')).trans k4'
               obtain ⟨_, _, _, _, _, _, _, _, _, _, _, _, _, kfa⟩ := ((Wd.e8 q t (F.setK MX)).keep he6 hb6a).cells
               have fd7 : wa.frozen? ⟨q, 3, none⟩ = false := kfa 3
               have k4'' : (wa.setCell ⟨q, 3, none⟩ (.slice A8 n8 c8)).cell? ⟨q, 4, none⟩ = some vR2 := (World.cell?_setCell_other _ ⟨q, 3, none⟩ ⟨q, 4, none⟩ _ (by intro h; injection h with _ h; cases h)).trans k4a
               clear he6 hes6 hfp6 kf6 kfa HT6 r2 r3 r4 happ hown hba hb6a ht7 k4a
               go_region_law (refine step_append_run rfl (.tmp 147) (.tmp 154) 82 rfl (.slice A5 0 0) _ rfl rfl hrun ?_)
               all_goals
                (clear kd7 fd7 k3' k4' kd3
                 obtain ⟨w7, hw7⟩ : ∃ w7, wa.setCell ⟨q, 3, none⟩ (.slice A8 n8 c8) = w7 := ⟨_, rfl⟩
                 rw [hw7] at HT7 k4'' ⊢
                 clear hw7
                 obtain ⟨e7, he7, hes7, hfp7⟩ := HT7.out
                 obtain ⟨vR3, hsl3, hbs3⟩ := HBS3.out.from_ (1 : Int) (by omega) (by rw [HL.out]; omega)
                 obtain ⟨A7, n7, c7, rfl⟩ : ∃ A n c, vR3 = .slice A n c := by
                   obtain ⟨A2, n2, c2, e, _⟩ := (hbs3 wr HBS3.out).open_
                   exact ⟨_, _, _, e⟩
                 obtain ⟨_, _, _, _, _, _, _, _, _, _, _, _, _, kf7⟩ := he7.cells
                 have fd4 : w7.frozen? ⟨q, 4, none⟩ = false := kf7 4
                 have HT8 := Bx.mk (HSTEP.out _ _ (Turn.step hes7 hfp7 (he7.putRest k4'' (r := r) (fun W h => by have := hbs3 W h; rw [HREST.out] at this; exact this))))
                 clear he7 hes7 hfp7 kf7 HT7 hbs3
                 go_wp2_with fail
                 go_roundg g
                 case measure => omega
                 case rel => exact ⟨_, ⟨HLR.out⟩, HSG2, ⟨HEND2.out.trans HEND.out⟩, HT8⟩))
end
end Go.Proofs.Yteopmaaghhendaa
