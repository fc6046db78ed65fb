/-
  Texts put together: QnP, QnQ, QnR.
-/
import Derived.Test.YtebakjdeighdnaaGreatM40

/-
  Contract of the document's Encode of QPACK.
-/
namespace Go.Proofs.YtebakjdeighdnaaGreat
open Go.RowKit Go.Maps
set_option linter.unusedVariables false

section
variable {q t s : Nat} {E : Qe} {S : Nat → Prop} {w : World} {lV : Value} {l : List Fd} {fb : Bool}
/-- Where the run stands behind k fields. -/
def accK (E : Qe) (fb : Bool) (l : List Fd) (k : Nat) : Qa := qrun E.op E.K fb (l.take k) ⟨E.T, capW E.said E.T.cap, [], [], 0⟩
theorem accK_next (E : Qe) (fb : Bool) (l : List Fd) (k : Nat) (hk : k < l.length) : accK E fb l (k + 1) = qstep E.op E.K fb (accK E fb l k) l[k] := qrun_take _ _ _ _ _ _ hk
theorem accK_bd (hg : E.T.gq) (hl : l.length ≤ 100) (hz : wsz l ≤ 6000) (ht : E.T.tot + l.length ≤ 800000) (k : Nat) : Bd (accK E fb l k) ∧ (accK E fb l k).ins.length ≤ 20000 ∧ (accK E fb l k).T.tot ≤ 800000 ∧ QInv E.T.cap (accK E fb l k) ∧ (accK E fb l k).all.map (·.f) = l.take k := by
  obtain ⟨h1, h2, h3, h4, h5⟩ := qrun_len E.op E.K fb (l.take k) ⟨E.T, capW E.said E.T.cap, [], [], 0⟩
  obtain ⟨i1, i2⟩ := QInv.run E.op E.K fb (l.take k) (QInv.start hg (capW E.said E.T.cap))
  have h6 := wsz_take l k
  have h7 := capW_len E.said E.T.cap
  have h8 := i1.window.1
  simp only [List.length_take, List.length_nil] at h1 h2 h3 h4
  refine ⟨⟨?_, ?_, ?_, ?_, h8⟩, ?_, ?_, i1, by unfold accK; simpa using i2⟩
  · show (qrun _ _ _ _ _).ins.length ≤ _
    omega
  · show (qrun _ _ _ _ _).all.length ≤ _
    omega
  · show (qrun _ _ _ _ _).u.length ≤ _
    omega
  · show (qrun _ _ _ _ _).T.tot ≤ _
    omega
  · show (qrun _ _ _ _ _).ins.length ≤ _
    omega
  · show (qrun _ _ _ _ _).T.tot ≤ _
    omega
theorem accK_line (hg : E.T.gq) (hl : l.length ≤ 100) (hz : wsz l ≤ 6000) (ht : E.T.tot + l.length ≤ 800000) (hf : ∀ f ∈ l, fsz f ≤ 3000) (k : Nat) (j : Nat) (hj : j < (accK E fb l k).all.length) :
    (accK E fb l k).all[j].k ≤ 3 ∧ ((accK E fb l k).all[j].k ≠ 3 → (accK E fb l k).all[j].i < 1000000) ∧ ((accK E fb l k).all[j].k = 1 → (accK E fb l k).all[j].i < (accK E fb l k).c) ∧ fsz (accK E fb l k).all[j].f ≤ 3000 := by
  obtain ⟨hB, _, h2, h3, h4⟩ := accK_bd (E := E) (fb := fb) hg hl hz ht k
  generalize accK E fb l k = a at *
  have hok := h3.ok a.all[j] (List.getElem_mem hj)
  have hm : a.all[j].f ∈ l := by
    have : a.all[j].f ∈ a.all.map (·.f) := List.mem_map.2 ⟨_, List.getElem_mem hj, rfl⟩
    rw [h4] at this
    exact List.mem_of_mem_take this
  have hc := hB.c
  have ht3 : ∀ i g, T3[i]? = some g → i < 1000000 := fun i g h => by
    have := (List.getElem?_eq_some_iff.1 h).1
    rw [t3_len] at this
    omega
  generalize a.all[j] = x at *
  rcases hok with ⟨e, h⟩ | ⟨e, _, h, _⟩ | ⟨e, g, h, _⟩ | e
  · exact ⟨by omega, fun _ => ht3 _ _ h, fun h1 => by omega, hf _ hm⟩
  · exact ⟨by omega, fun _ => by omega, fun _ => h, hf _ hm⟩
  · exact ⟨by omega, fun _ => ht3 _ _ h, fun h1 => by omega, hf _ hm⟩
  · exact ⟨by omega, fun h => absurd e h, fun h1 => by omega, hf _ hm⟩

theorem accK_secs (hg : E.T.gq) (k : Nat) : (accK E fb l k).T.cap = E.T.cap := (qrun_len E.op E.K fb (l.take k) ⟨E.T, capW E.said E.T.cap, [], [], 0⟩).2.2.2.2

set_option maxRecDepth 100000 in
set_option maxHeartbeats 40000000 in
/-- Behind the fields. -/
theorem mid3_any {wx : World} {lV : Value} {g0 k : Nat} {a : Qa} (ac : Act) (hN : Nx q t s E S w lV fb g0 k a ac wx) (hB : Bd a) (hl : ∀ j (hj : j < a.all.length), a.all[j].k ≤ 3 ∧ (a.all[j].k ≠ 3 → a.all[j].i < 1000000) ∧ (a.all[j].k = 1 → a.all[j].i < a.c) ∧ fsz a.all[j].f ≤ 3000)
    (hz : wsz (a.all.map (·.f)) ≤ 6000) (hop : E.op.length ≤ 100000) (hc : a.T.cap = E.T.cap) :
    Code.wp Tryz.prog (efrom 36) (Kx (fun _ _ => False) (ERet q t s (E.at a.T) S w a.c a.u a.ins (qpre a.c a.c (E.T.cap / 32) ++ linesW a.c a.all)) (fun _ _ _ => False)) ac wx := by
  obtain ⟨iV, uV, aV, hA, hQ⟩ := hN
  have HQ := Bx.mk hQ
  have HB := Bx.mk hB
  have HL := Bx.mk hl
  have HZ := Bx.mk hz
  have HOP := Bx.mk hop
  have hcl := hB.c
  have htl := hB.tot
  obtain ⟨e, he⟩ := hQ.e8
  obtain ⟨_, _, _, _, _, _, c0, _⟩ := he.cells
  obtain ⟨_, _, t0, t1, _⟩ := he.tcells
  have hcap : E.T.cap ≤ 1000000 := by have := he.ok.cap; rw [show (E.at a.T).T.cap = E.T.cap from hc] at this; exact this
  rw [show (E.at a.T).T.cap = E.T.cap from hc] at t1
  obtain ⟨cap, hcp⟩ : ∃ cap, E.T.cap = cap := ⟨_, rfl⟩
  rw [hcp] at t1 hcap ⊢
  have HPRE := Bx.mk (refQPrefix_own wx.heap.size (.slice none 0 0) [] a.c a.c (cap : Int) wx (OwB.nil _ _) (Nat.le_refl _) (by simp) (by omega) (by omega) (by omega))
  rw [List.nil_append, show mostN (cap : Int) = cap / 32 from by unfold mostN; omega] at HPRE
  obtain ⟨P, hP⟩ : ∃ P, qpre a.c a.c (cap / 32) = P := ⟨_, rfl⟩
  have hPl : P.length ≤ 22 := by
    rw [← hP]
    unfold qpre
    have h1 := (pre_len 0 8 (ecN a.c (cap / 32))).2
    have h2 := (pre_len 0 7 (a.c - a.c)).2
    have h3 := (pre_len 128 7 (a.c - a.c - 1)).2
    rw [List.length_append]
    split <;> omega
  rw [hP] at HPRE ⊢
  have HPL := Bx.mk hPl
  obtain ⟨u, hu, hac⟩ := eframe ac hA.z hA.d
  have h0 := (hu 0).symm.trans hA.t0
  have h1 := (hu 1).symm.trans hA.t1
  have h8 := (hu 8).symm.trans hA.t8
  have h12 := (hu 12).symm.trans hA.t12
  have h13 := (hu 13).symm.trans hA.t13
  have h14 := (hu 14).symm.trans hA.t14
  rw [hac]
  clear hac hA
  rw [h0, h1, h8, h12, h13, h14]
  clear h0 h1 h8 h12 h13 h14 hu
  conv => arg 2; whnf
  clear hQ hB hl hz hop hc he hcp hP hPl hcl htl hcap
  go_wp2_with (go_at_call 45; refine HPRE.out.mono ?_; rintro r w2 ⟨v2, rfl, ho2, b2, n2⟩; have HO2 := Bx.mk (And.intro ho2 b2); clear ho2 b2 n2 c0 t0 t1)
  rename_i hKq
  refine wp_loop_ghost (fun n ac2 wy => ∃ k, k + n = a.all.length ∧ Mx q s iV uV aV a.c wx k (P ++ linesW a.c (a.all.take k)) ac2 wy) a.all.length ?_ ?_
  · refine ⟨0, by omega, _, ⟨rfl, rfl, rfl, rfl, rfl, rfl, rfl, rfl, rfl, rfl⟩, ?_, HO2.out.2⟩
    rw [List.take_zero, show linesW a.c [] = [] from rfl, List.append_nil]
    exact HO2.out.1
  · rintro n ac2 wy ⟨k, hk, hM⟩
    have hlw := linesW_len a.c (a.all.take k)
    have hlw2 := wsz_take (a.all.map (·.f)) k
    rw [← List.map_take] at hlw2
    have hls : (P ++ linesW a.c (a.all.take k)).length ≤ 20000 := by rw [List.length_append]; have := HPL.out; have := HZ.out; omega
    cases n with
    | zero =>
      obtain rfl : k = a.all.length := by omega
      refine Kx.use (round2E_any ac2 hM HQ.out.lines) ?_ ?_ ?_
      · intro a3 w3 h; exact h.elim
      · intro a3 w3 h; exact h.elim
      · rintro i a3 w3 ⟨rfl, lv, hA3, ho3, hb3⟩
        rw [List.take_length] at ho3
        refine hKq _ _ ?_
        refine Kx.use (tail_any8 (E := E.at a.T) a3 hA3 (HQ.out.keep hb3) (ho3.mono HQ.out.size) HOP.out) ?_ ?_ ?_
        · intro a4 w4 h; exact h.elim
        · intro a4 w4 h; exact h
        · intro i a4 w4 h; exact h.elim
    | succ n =>
      have hk2 : k < a.all.length := by omega
      refine Kx.use (round2_any ac2 hM HQ.out.lines hk2 HB.out.all (HL.out k hk2) (by have := HB.out.c; have := HB.out.tot; omega) hls) ?_ ?_ ?_
      · intro a3 w3 h
        refine ⟨n, by omega, k + 1, by omega, ?_⟩
        rw [linesW_take _ _ _ hk2, ← List.append_assoc]
        exact h
      · intro a3 w3 h; exact h.elim
      · intro i a3 w3 h; exact h.elim
end
end Go.Proofs.YtebakjdeighdnaaGreat

/-
  Contract of the document's Encode of QPACK.
-/
namespace Go.Proofs.YtebakjdeighdnaaGreat
open Go.RowKit Go.Maps
set_option linter.unusedVariables false
set_option linter.unusedSimpArgs false

section
variable {q t s : Nat} {E : Qe} {S : Nat → Prop} {w wx : World} {lV iV : Value} {l : List Fd} {fb : Bool}
/-- The slots ahead of the fields. -/
structure At0 (a : Act) (q s : Nat) (lV iV : Value) : Prop where
  d : a.defers = []
  z : a.tmps.size = 288
  t0 : a.tmps.getD 0 undef = .pointer (some ⟨q, 0, none⟩)
  t1 : a.tmps.getD 1 undef = .int .u64 (s : Int)
  t2 : a.tmps.getD 2 undef = lV
  t8 : a.tmps.getD 8 undef = iV

set_option maxRecDepth 100000 in
set_option maxHeartbeats 40000000 in
/-- From the static table on. -/
theorem mid2_any (ac : Act) (hA : At0 ac q s lV iV) (h10 : ac.tmps.getD 10 undef = .bool fb) (hQ : QS q t (E.at E.T) S w [] iV (capW E.said E.T.cap) (.slice none 0 0) [] (.slice none 0 0) [] wx) (hg : E.T.gq) (hv : ∀ W, Fp S w W → Fs W lV l) (hl : l.length ≤ 100) (hz : wsz l ≤ 6000) (ht : E.T.tot + l.length ≤ 800000) (hf : ∀ f ∈ l, fsz f ≤ 3000) (hop : E.op.length ≤ 100000) :
    Code.wp Tryz.prog (efrom 6) (Kx (fun _ _ => False) (ERet q t s (E.at (accK E fb l l.length).T) S w (accK E fb l l.length).c (accK E fb l l.length).u (accK E fb l l.length).ins (qpre (accK E fb l l.length).c (accK E fb l l.length).c (E.T.cap / 32) ++ linesW (accK E fb l l.length).c (accK E fb l l.length).all)) (fun _ _ _ => False)) ac wx := by
  have HBD := Bx.mk (fun k => accK_bd (E := E) (fb := fb) hg hl hz ht k)
  have HLN := Bx.mk (fun k j hj => accK_line (E := E) (fb := fb) hg hl hz ht hf k j hj)
  have HL := Bx.mk (And.intro hl (And.intro hz hf))
  have HV := Bx.mk hv
  have HOP := Bx.mk hop
  have HCS := Bx.mk (accK_secs (E := E) (fb := fb) (l := l) hg l.length)
  have hq2 := hQ.new C3
  obtain ⟨g0, hg0⟩ : ∃ g0, wx.heap.size = g0 := ⟨_, rfl⟩
  rw [hg0] at hq2
  obtain ⟨w2, hw2⟩ : ∃ w2, wx.alloc (.cells C3 53) = w2 := ⟨_, rfl⟩
  rw [hw2] at hq2
  have HQ2 := Bx.mk hq2
  have HH := Bx.mk (h3s_row wx)
  rw [hg0, hw2] at HH
  obtain ⟨u, hu, hac⟩ := eframe ac hA.z hA.d
  have h0 := (hu 0).symm.trans hA.t0
  have h1 := (hu 1).symm.trans hA.t1
  have h2 := (hu 2).symm.trans hA.t2
  have h8 := (hu 8).symm.trans hA.t8
  have h10' := (hu 10).symm.trans h10
  rw [hac]
  clear hac hA h10
  rw [h0, h1, h2, h8, h10']
  clear h0 h1 h2 h8 h10' hu
  conv => arg 2; whnf
  clear hQ hg hv hl hz ht hf hop hq2
  go_wp2_with (go_at_call 39; refine HH.out.mono ?_; rintro r w9 ⟨rfl, rfl⟩)
  rename_i hKq
  refine wp_loop_ghost (fun n ac2 wy => ∃ k, k + n = l.length ∧ Nx q t s E S w lV fb g0 k (accK E fb l k) ac2 wy) l.length ?_ ?_
  · exact ⟨0, by omega, _, _, _, ⟨rfl, rfl, rfl, rfl, rfl, rfl, rfl, rfl, rfl, rfl, rfl, rfl⟩, HQ2.out⟩
  · rintro n ac2 wy ⟨k, hk, hM⟩
    obtain ⟨b1, b2, b3, b4, b5⟩ := HBD.out k
    have hFS : Fs wy lV l := by
      obtain ⟨_, _, _, _, hq⟩ := hM
      exact HV.out wy hq.fp
    cases n with
    | zero =>
      obtain rfl : k = l.length := by omega
      refine Kx.use (roundE_any ac2 hM hFS) ?_ ?_ ?_
      · intro a3 w3 h; exact h.elim
      · intro a3 w3 h; exact h.elim
      · rintro i a3 w3 ⟨rfl, hM3⟩
        refine hKq _ _ ?_
        refine Kx.use (mid3_any a3 hM3 b1 (HLN.out l.length) (by rw [b5, List.take_length]; exact HL.out.2.1) HOP.out HCS.out) ?_ ?_ ?_
        · intro a4 w4 h; exact h.elim
        · intro a4 w4 h; exact h
        · intro i a4 w4 h; exact h.elim
    | succ n =>
      have hk2 : k < l.length := by omega
      refine Kx.use (round_any ac2 hM hFS hk2 HL.out.1 (HL.out.2.2 _ (List.getElem_mem hk2)) b1 b2 (by omega)) ?_ ?_ ?_
      · intro a3 w3 h
        refine ⟨n, by omega, k + 1, by omega, ?_⟩
        rw [accK_next E fb l k hk2]
        exact h
      · intro a3 w3 h; exact h.elim
      · intro i a3 w3 h; exact h.elim

set_option maxRecDepth 100000 in
set_option maxHeartbeats 40000000 in
/-- Behind the table's capacity. -/
theorem mid1_any (ac : Act) (hA : At0 ac q s lV iV) (hQ : QS q t E S w [] iV (capW E.said E.T.cap) (.slice none 0 0) [] (.slice none 0 0) [] wx) (hg : E.T.gq) (hv : ∀ W, Fp S w W → Fs W lV l) (hl : l.length ≤ 100) (hz : wsz l ≤ 6000) (ht : E.T.tot + l.length ≤ 800000) (hf : ∀ f ∈ l, fsz f ≤ 3000) (hop : E.op.length ≤ 100000) (hfb : freeQ E.op E.K E.B s = fb) :
    Code.wp Tryz.prog (efrom 4) (Kx (fun _ _ => False) (ERet q t s (E.at (accK E fb l l.length).T) S w (accK E fb l l.length).c (accK E fb l l.length).u (accK E fb l l.length).ins (qpre (accK E fb l l.length).c (accK E fb l l.length).c (E.T.cap / 32) ++ linesW (accK E fb l l.length).c (accK E fb l l.length).all)) (fun _ _ _ => False)) ac wx := by
  obtain ⟨ww, hww⟩ : ∃ ww, wx.setCell ⟨q, 6, none⟩ (.bool true) = ww := ⟨_, rfl⟩
  have hQ2 : QS q t (E.at E.T) S w [] iV (capW E.said E.T.cap) (.slice none 0 0) [] (.slice none 0 0) [] ww := by
    rw [← hww]
    exact hQ.said true
  obtain ⟨e, he⟩ := hQ.e8
  obtain ⟨_, _, _, _, _, _, c0, _, _, _, _, _, c6, hfz⟩ := he.cells
  have f6 := hfz 6
  have HMID := Bx.mk (fun (ac : Act) (wy : World) hA h10 (hQ : QS q t (E.at E.T) S w [] iV (capW E.said E.T.cap) (.slice none 0 0) [] (.slice none 0 0) [] wy) => mid2_any (fb := fb) (s := s) ac hA h10 hQ hg hv hl hz ht hf hop)
  have HQ2 := Bx.mk hQ2
  have HB : Bx (∀ W, Below ww.heap.size ww W → W.cell? ⟨q, 1, none⟩ = some (.int .i64 (E.B : Int))) := ⟨fun W hW => by
    obtain ⟨e2, he2⟩ := (HQ2.out.keep hW).e8
    obtain ⟨_, _, _, _, _, _, _, c1, _⟩ := he2.cells
    exact c1⟩
  have HBLK : Bx (∀ W, Below ww.heap.size ww W → Calls Tryz.prog 37 #[.pointer (some ⟨q, 0, none⟩), .int .u64 (s : Int)] W fun e w' => e = .returned (.bool (blkQ E.op E.K s)) ∧ Below W.heap.size W w') := ⟨fun W hW => by
    obtain ⟨e2, he2⟩ := (HQ2.out.keep hW).e8
    exact blocked_any (E := E.at E.T) he2 s⟩
  have HMANY : Bx (∀ W, Below ww.heap.size ww W → Calls Tryz.prog 38 #[.pointer (some ⟨q, 0, none⟩)] W fun e w' => e = .returned (.int .i64 (manyQ E.op E.K E.op.length : Int)) ∧ Below W.heap.size W w') := ⟨fun W hW => by
    obtain ⟨e2, he2⟩ := (HQ2.out.keep hW).e8
    exact many_any (E := E.at E.T) he2⟩
  obtain ⟨bb, hbb⟩ : ∃ bb, blkQ E.op E.K s = bb := ⟨_, rfl⟩
  obtain ⟨BI, hBI⟩ := letter E.B
  obtain ⟨MI, hMI⟩ := letter (manyQ E.op E.K E.op.length)
  rw [hbb] at HBLK
  rw [hBI] at HB
  rw [hMI] at HMANY
  have HFB : Bx ((bb || decide (MI < BI)) = fb) := ⟨by rw [← hfb, ← hbb, ← hBI, ← hMI]; unfold freeQ; congr 1; rw [decide_eq_decide]; exact Int.ofNat_lt⟩
  obtain ⟨u, hu, hac⟩ := eframe ac hA.z hA.d
  have h0 := (hu 0).symm.trans hA.t0
  have h1 := (hu 1).symm.trans hA.t1
  have h2 := (hu 2).symm.trans hA.t2
  have h8 := (hu 8).symm.trans hA.t8
  rw [hac]
  clear hac hA
  rw [h0, h1, h2, h8]
  clear h0 h1 h2 h8 hu
  conv => arg 2; whnf
  clear hQ hg hv hl hz ht hf hop hQ2 he hfz hfb hbb hBI hMI
  have hb1 := HB.out ww.drew (Below.refl _ _).drew
  have hB0 : Below ww.heap.size ww ww.drew := (Below.refl _ _).drew
  have hcl := HB.out
  clear hb1
  cases bb with
  | true =>
    obtain rfl : true = fb := HFB.out
    go_wp2_with fail
    clear hww c0 c6 f6
    -- REGION
    refine wp_region_x 12 (fun W => Below ww.heap.size ww W) (by kernel_rfl) (hB0) (fun hHeld => ?_)
    refine wpAnyX_take0 (i := 0) (oi := ⟨some 55, Op.move (Operand.tmp 0), 43, _, _, none⟩) (v := ?v0) rfl (by omega) (by kernel_rfl) (by kernel_rfl) (by kernel_rfl) (fun _ _ _ h => h) (Or.inl ⟨by rfl, ?y0⟩) (by assumption) ?r0
    case y0 =>
      intro W hSw
      try dsimp only at hSw
      go_simp
      try with_reducible rfl
    case r0 =>
    try simp only [Act.put, List.setIfInBounds_toArray, List.set_cons_zero, List.set_cons_succ]
    refine wpAnyX_take0 (i := 1) (oi := ⟨some 56, Op.move (Operand.tmp 1), 32, _, _, none⟩) (v := ?v1) rfl (by omega) (by kernel_rfl) (by kernel_rfl) (by kernel_rfl) (fun _ _ _ h => h) (Or.inl ⟨by rfl, ?y1⟩) (by assumption) ?r1
    case y1 =>
      intro W hSw
      try dsimp only at hSw
      go_simp
      try with_reducible rfl
    case r1 =>
    try simp only [Act.put, List.setIfInBounds_toArray, List.set_cons_zero, List.set_cons_succ]
    refine wpAnyX_one (i := 2) (by kernel_rfl) rfl (fun K hK => ?_)
    go_simp
    go_wp2_with (go_at_call 37; refine (HBLK.out _ hB0).mono ?_; rintro r w3 ⟨rfl, b3⟩; have hB3 : Below ww.heap.size ww w3 := below_next hB0 b3)
    refine hK.out _ _ (fun _ => hB3) ?_
    clear hK K
    try simp only [Act.put, List.setIfInBounds_toArray, List.set_cons_zero, List.set_cons_succ]
    refine wpAnyX_take0 (i := 3) (oi := ⟨some 58, Op.move (Operand.tmp 57), 4, _, _, none⟩) (v := ?v3) rfl (by omega) (by kernel_rfl) (by kernel_rfl) (by kernel_rfl) (fun _ _ _ h => h) (Or.inl ⟨by rfl, ?y3⟩) (by assumption) ?r3
    case y3 =>
      intro W hSw
      try dsimp only at hSw
      go_simp
      try with_reducible rfl
    case r3 =>
    try simp only [Act.put, List.setIfInBounds_toArray, List.set_cons_zero, List.set_cons_succ]
    refine wpAnyX_take0 (i := 4) (oi := ⟨some 59, Op.move (Operand.tmp 0), 43, _, _, some (3, false)⟩) (v := undef) rfl (by omega) (by kernel_rfl) (by kernel_rfl) (by kernel_rfl) (fun _ _ _ h => h) (Or.inr ⟨by rfl, rfl⟩) (by assumption) ?r4
    case r4 =>
    try simp only [Act.put, List.setIfInBounds_toArray, List.set_cons_zero, List.set_cons_succ]
    refine wpAnyX_take0 (i := 5) (oi := ⟨some 60, Op.call { callee := Callee.value (Operand.func 38), args := #[Operand.tmp 59], argTypes := #[43] }, 3, _, _, some (3, false)⟩) (v := undef) rfl (by omega) (by kernel_rfl) (by kernel_rfl) (by kernel_rfl) (fun _ _ _ h => h) (Or.inr ⟨by rfl, rfl⟩) (by assumption) ?r5
    case r5 =>
    try simp only [Act.put, List.setIfInBounds_toArray, List.set_cons_zero, List.set_cons_succ]
    refine wpAnyX_take0 (i := 6) (oi := ⟨some 61, Op.move (Operand.tmp 0), 43, _, _, some (3, false)⟩) (v := undef) rfl (by omega) (by kernel_rfl) (by kernel_rfl) (by kernel_rfl) (fun _ _ _ h => h) (Or.inr ⟨by rfl, rfl⟩) (by assumption) ?r6
    case r6 =>
    try simp only [Act.put, List.setIfInBounds_toArray, List.set_cons_zero, List.set_cons_succ]
    refine wpAnyX_take0 (i := 7) (oi := ⟨some 62, Op.nilCheck (Operand.tmp 61), 0, _, _, some (3, false)⟩) (v := undef) rfl (by omega) (by kernel_rfl) (by kernel_rfl) (by kernel_rfl) (fun _ _ _ h => h) (Or.inr ⟨by rfl, rfl⟩) (by assumption) ?r7
    case r7 =>
    try simp only [Act.put, List.setIfInBounds_toArray, List.set_cons_zero, List.set_cons_succ]
    refine wpAnyX_take0 (i := 8) (oi := ⟨some 63, Op.fieldAddr 50 (Operand.tmp 62) 1, 0, _, _, some (3, false)⟩) (v := undef) rfl (by omega) (by kernel_rfl) (by kernel_rfl) (by kernel_rfl) (fun _ _ _ h => h) (Or.inr ⟨by rfl, rfl⟩) (by assumption) ?r8
    case r8 =>
    try simp only [Act.put, List.setIfInBounds_toArray, List.set_cons_zero, List.set_cons_succ]
    refine wpAnyX_take0 (i := 9) (oi := ⟨some 64, Op.load 3 (Operand.tmp 63), 3, _, _, some (3, false)⟩) (v := undef) rfl (by omega) (by kernel_rfl) (by kernel_rfl) (by kernel_rfl) (fun _ _ _ h => h) (Or.inr ⟨by rfl, rfl⟩) (by assumption) ?r9
    case r9 =>
    try simp only [Act.put, List.setIfInBounds_toArray, List.set_cons_zero, List.set_cons_succ]
    refine wpAnyX_take0 (i := 10) (oi := ⟨some 65, Op.binOp BinOp.lss 3 (Operand.tmp 60) (Operand.tmp 64) 3, 4, _, _, some (3, false)⟩) (v := undef) rfl (by omega) (by kernel_rfl) (by kernel_rfl) (by kernel_rfl) (fun _ _ _ h => h) (Or.inr ⟨by rfl, rfl⟩) (by assumption) ?r10
    case r10 =>
    try simp only [Act.put, List.setIfInBounds_toArray, List.set_cons_zero, List.set_cons_succ]
    refine wpAnyX_take0 (i := 11) (oi := ⟨some 66, Op.pick (Operand.tmp 58) (Operand.const (Value.bool true)) (Operand.tmp 65), 4, _, _, none⟩) (v := ?v11) rfl (by omega) (by kernel_rfl) (by kernel_rfl) (by kernel_rfl) (fun _ _ _ h => h) (Or.inl ⟨by rfl, ?y11⟩) (by assumption) ?r11
    case y11 =>
      intro W hSw
      try dsimp only at hSw
      go_simp
      try with_reducible rfl
    case r11 =>
    try simp only [Act.put, List.setIfInBounds_toArray, List.set_cons_zero, List.set_cons_succ]
    refine wpAnyX_one (i := 12) (by kernel_rfl) rfl (fun K hK => ?_)
    go_simp
    refine hK.out _ _ (fun h => absurd h (by decide)) ?_
    clear hK K
    try simp only [Act.put, List.setIfInBounds_toArray, List.set_cons_zero, List.set_cons_succ]
    refine wpAnyX_done (by kernel_rfl) ?_ _
    -- END
    have HQ3 := Bx.mk (HQ2.out.keep hB3)
    rename_i hKq
    refine hKq _ _ ?_
    refine Kx.use (HMID.out _ _ ⟨rfl, rfl, rfl, rfl, rfl, rfl⟩ rfl HQ3.out) ?_ ?_ ?_
    · intro a4 w4 h; exact h
    · intro a4 w4 h; exact h
    · intro i a4 w4 h; exact h
  | false =>
    obtain rfl : decide (MI < BI) = fb := HFB.out
    go_wp2_with fail
    clear hww c0 c6 f6
    go_region_held (fun W => Below ww.heap.size ww W) (assumption) (first
      | (go_at_call 37; refine (HBLK.out _ hB0).mono ?_; rintro r w3 ⟨rfl, b3⟩; have hB3 : Below ww.heap.size ww w3 := below_next hB0 b3)
      | (go_at_call 38; refine (HMANY.out _ hB3).mono ?_; rintro r w4 ⟨rfl, b4⟩; have hB4 : Below ww.heap.size ww w4 := below_next hB3 b4))
    have HQ3 := Bx.mk (HQ2.out.keep hB4)
    clear HBLK HMANY hcl hB0 hB3 hB4 b3 b4 HB
    rename_i hKq hHeld
    refine hKq _ _ ?_
    refine Kx.use (HMID.out _ _ ⟨rfl, rfl, rfl, rfl, rfl, rfl⟩ rfl HQ3.out) ?_ ?_ ?_
    · intro a4 w4 h; exact h
    · intro a4 w4 h; exact h
    · intro i a4 w4 h; exact h
end
end Go.Proofs.YtebakjdeighdnaaGreat

/-
  Contract of the document's Encode of QPACK: the whole.
-/
namespace Go.Proofs.YtebakjdeighdnaaGreat
open Go.RowKit Go.Maps
set_option linter.unusedVariables false

section
variable {q t s : Nat} {E : Qe} {S : Nat → Prop} {w wx : World} {lV iV : Value} {l : List Fd} {fb : Bool}
theorem capW_yes {cap : Nat} (h : 0 < cap) : capW false cap = pre 32 5 cap := by unfold capW; simp [h]
theorem capW_no {sd : Bool} {cap : Nat} (h : sd = true ∨ cap = 0) : capW sd cap = [] := by
  unfold capW
  rcases h with rfl | rfl
  · rfl
  · simp

set_option maxRecDepth 100000 in
set_option maxHeartbeats 40000000 in
/-- The table's capacity. -/
theorem pre8_any (ac : Act) (hA : At0 ac q s lV (.slice none 0 0)) (hQ : QS q t E S w [] (.slice none 0 0) [] (.slice none 0 0) [] (.slice none 0 0) [] wx) (hsd : E.said = false) (hc : 0 < E.T.cap) :
    Code.wp Tryz.prog (efrom 3) (Kx (fun ac' w' => ∃ iV, At0 ac' q s lV iV ∧ QS q t E S w [] iV (capW E.said E.T.cap) (.slice none 0 0) [] (.slice none 0 0) [] w') (fun _ _ => False) (fun _ _ _ => False)) ac wx := by
  obtain ⟨e, he⟩ := hQ.e8
  obtain ⟨_, _, _, _, _, _, c0, _⟩ := he.cells
  obtain ⟨_, _, _, t1, _⟩ := he.tcells
  have hcap := he.ok.cap
  have HQ := Bx.mk hQ
  obtain ⟨cap, hcp⟩ : ∃ cap, E.T.cap = cap := ⟨_, rfl⟩
  rw [hcp] at t1 hcap hc
  have HW : Bx (capW E.said E.T.cap = pre 32 5 cap) := ⟨by rw [hsd, hcp]; exact capW_yes hc⟩
  obtain ⟨CP, hCP⟩ := letter cap
  rw [hCP] at t1
  have hwc : IntKind.u64.wrap CP = CP := u64_keep (by omega) (by omega)
  have HPRE := Bx.mk (refPrefix_at w.heap.size (.slice none 0 0) [] 32 32 rfl 5 5 rfl cap CP hCP wx hQ.bytes hQ.size (by simp) (by omega))
  rw [List.nil_append] at HPRE
  obtain ⟨u, hu, hac⟩ := eframe ac hA.z hA.d
  have h0 := (hu 0).symm.trans hA.t0
  have h1 := (hu 1).symm.trans hA.t1
  have h2 := (hu 2).symm.trans hA.t2
  have h8 := (hu 8).symm.trans hA.t8
  rw [hac]
  clear hac hA
  rw [h0, h1, h2, h8]
  clear h0 h1 h2 h8 hu
  conv => arg 2; whnf
  clear hQ he hsd hcap hcp hCP hc
  go_wp2_with (go_at_call 33; refine HPRE.out.mono ?_; rintro r w2 ⟨v2, rfl, ho2, b2, n2⟩; have HQ2 := Bx.mk (HQ.out.byte ho2 b2 n2); clear ho2 b2 n2)
  exact Kx.norm ⟨_, ⟨rfl, rfl, rfl, rfl, rfl, rfl⟩, by rw [HW.out]; exact HQ2.out⟩

set_option maxRecDepth 100000 in
set_option maxHeartbeats 40000000 in
theorem encode8_any (h : E8 q t E w S) (hg : E.T.gq) (hv : ∀ W, Fp S w W → Fs W lV l) (hl : l.length ≤ 100) (hz : wsz l ≤ 6000) (ht : E.T.tot + l.length ≤ 800000) (hf : ∀ f ∈ l, fsz f ≤ 3000) (hop : E.op.length ≤ 100000) (hs : s < 18446744073709551616) :
    Calls Tryz.prog 16 #[.pointer (some ⟨q, 0, none⟩), .int .u64 (s : Int), lV] w fun r w' => ∃ a b, r = .returned (.tuple #[a, b]) ∧
      EFin q t s (E.at (E.acc s l).T) S w (E.acc s l).c (E.acc s l).u (E.acc s l).ins (E.sec s l) a b w' := by
  have HQ0 := Bx.mk (QS.start h)
  have hEK : E.acc s l = accK E (freeQ E.op E.K E.B s) l l.length := by unfold accK; rw [List.take_length]; rfl
  have hsec : E.sec s l = qpre (E.acc s l).c (E.acc s l).c (E.T.cap / 32) ++ linesW (E.acc s l).c (E.acc s l).all := rfl
  rw [hsec, hEK]
  have HMID := Bx.mk (fun (ac : Act) (iV : Value) (wy : World) hA (hQ : QS q t E S w [] iV (capW E.said E.T.cap) (.slice none 0 0) [] (.slice none 0 0) [] wy) => mid1_any (fb := freeQ E.op E.K E.B s) ac hA hQ hg hv hl hz ht hf hop rfl)
  have HPRE := Bx.mk (fun (ac : Act) (wy : World) hA (hQ : QS q t E S w [] (.slice none 0 0) [] (.slice none 0 0) [] (.slice none 0 0) [] wy) hsd hc => pre8_any (lV := lV) (s := s) ac hA hQ hsd hc)
  generalize accK E (freeQ E.op E.K E.B s) l l.length = A0 at HMID ⊢
  obtain ⟨_, _, _, _, _, _, c0, _, _, _, _, _, c6, _⟩ := h.cells
  obtain ⟨_, _, _, t1, _⟩ := h.tcells
  obtain ⟨sd, hsd⟩ : ∃ sd, E.said = sd := ⟨_, rfl⟩
  obtain ⟨CP, hCP⟩ := letter E.T.cap
  rw [hsd] at c6
  rw [hCP] at t1
  obtain ⟨zb, hzb⟩ : ∃ zb, decide (0 < CP) = zb := ⟨_, rfl⟩
  have HSD := Bx.mk (And.intro hsd hCP)
  clear h hg hv hl hz ht hf hop hs hEK hsec hsd hCP
  go_enter Tryz.func16, Tryz.ntmps16
  cases sd with
  | true =>
    have HW : Bx (capW E.said E.T.cap = []) := ⟨by rw [HSD.out.1]; exact capW_no (.inl rfl)⟩
    clear hzb
    go_upto_if 41 with fail
    rename_i hKq
    refine wp_cond_false rfl ?_
    refine wp_skip ?_
    refine hKq _ _ ?_
    refine Kx.use (HMID.out _ (.slice none 0 0) _ ⟨rfl, rfl, rfl, rfl, rfl, rfl⟩ (by rw [HW.out]; exact HQ0.out)) ?_ ?_ ?_
    · intro a4 w4 h; exact h.elim
    · intro a4 w4 h; exact ⟨h.1, _, results_tmp2 Tryz.results16 _ _ _, _, _, rfl, h.2⟩
    · intro i a4 w4 h; exact h.elim
  | false =>
    cases zb with
    | false =>
      have HW : Bx (capW E.said E.T.cap = []) := ⟨by rw [HSD.out.1]; exact capW_no (.inr (by have h := of_decide_eq_false hzb; have := HSD.out.2; omega))⟩
      go_upto_if 41 with fail
      rename_i hKq
      refine wp_cond_false rfl ?_
      refine wp_skip ?_
      refine hKq _ _ ?_
      refine Kx.use (HMID.out _ (.slice none 0 0) _ ⟨rfl, rfl, rfl, rfl, rfl, rfl⟩ (by rw [HW.out]; exact HQ0.out)) ?_ ?_ ?_
      · intro a4 w4 h; exact h.elim
      · intro a4 w4 h; exact ⟨h.1, _, results_tmp2 Tryz.results16 _ _ _, _, _, rfl, h.2⟩
      · intro i a4 w4 h; exact h.elim
    | true =>
      have HC : Bx (0 < E.T.cap) := ⟨by have h := of_decide_eq_true hzb; have := HSD.out.2; omega⟩
      go_upto_if 41 with fail
      rename_i hKq
      refine wp_cond_true rfl ?_
      refine Kx.use (HPRE.out _ _ ⟨rfl, rfl, rfl, rfl, rfl, rfl⟩ HQ0.out HSD.out.1 HC.out) ?_ ?_ ?_
      · rintro a3 w3 ⟨iV, hA3, hQ3⟩
        refine hKq _ _ ?_
        refine Kx.use (HMID.out _ iV _ hA3 hQ3) ?_ ?_ ?_
        · intro a4 w4 h; exact h.elim
        · intro a4 w4 h; exact ⟨h.1, _, results_tmp2 Tryz.results16 _ _ _, _, _, rfl, h.2⟩
        · intro i a4 w4 h; exact h.elim
      · intro a3 w3 h; exact h.elim
      · intro i a3 w3 h; exact h.elim
end
end Go.Proofs.YtebakjdeighdnaaGreat
