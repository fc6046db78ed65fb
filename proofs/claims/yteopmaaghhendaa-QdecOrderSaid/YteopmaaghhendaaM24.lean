/-
  Texts put together: QnQ, QnR.
-/
import Derived.Test.YteopmaaghhendaaM21

/-
  Contract of the document's Encode of QPACK.
-/
namespace Go.Proofs.Yteopmaaghhendaa
open Go.RowKit Go.Maps
set_option linter.unusedVariables false
set_option linter.unusedSimpArgs false

section
variable {q t s : Nat} {E : Qe} {S : Nat → Prop} {w wx : World} {lV iV : Value} {l : List Fd} {fb : Bool}
/-- The slots ahead of the fields. -/
structure At0 (a : Act) (q s : Nat) (lV iV : Value) : Prop where
  d : a.defers = []
  z : a.tmps.size = 288
  t0 : a.tmps.getD 0 undef = .pointer (some ⟨q, 0, none⟩)
  t1 : a.tmps.getD 1 undef = .int .u64 (s : Int)
  t2 : a.tmps.getD 2 undef = lV
  t8 : a.tmps.getD 8 undef = iV

set_option maxRecDepth 100000 in
set_option maxHeartbeats 40000000 in
/-- From the static table on. -/
theorem mid2_any (ac : Act) (hA : At0 ac q s lV iV) (h10 : ac.tmps.getD 10 undef = .bool fb) (hQ : QS q t (E.at E.T) S w [] iV (capW E.said E.T.cap) (.slice none 0 0) [] (.slice none 0 0) [] wx) (hg : E.T.gq) (hv : ∀ W, Fp S w W → Fs W lV l) (hl : l.length ≤ 100) (hz : wsz l ≤ 6000) (ht : E.T.tot + l.length ≤ 800000) (hf : ∀ f ∈ l, fsz f ≤ 3000) (hop : E.op.length ≤ 100000) :
    Code.wp Try.prog (efrom 6) (Kx (fun _ _ => False) (ERet q t s (E.at (accK E fb l l.length).T) S w (accK E fb l l.length).c (accK E fb l l.length).u (accK E fb l l.length).ins (qpre (accK E fb l l.length).c (accK E fb l l.length).c (E.T.cap / 32) ++ linesW (accK E fb l l.length).c (accK E fb l l.length).all)) (fun _ _ _ => False)) ac wx := by
  have HBD := Bx.mk (fun k => accK_bd (E := E) (fb := fb) hg hl hz ht k)
  have HLN := Bx.mk (fun k j hj => accK_line (E := E) (fb := fb) hg hl hz ht hf k j hj)
  have HL := Bx.mk (And.intro hl (And.intro hz hf))
  have HV := Bx.mk hv
  have HOP := Bx.mk hop
  have HCS := Bx.mk (accK_secs (E := E) (fb := fb) (l := l) hg l.length)
  have hq2 := hQ.new C3
  obtain ⟨g0, hg0⟩ : ∃ g0, wx.heap.size = g0 := ⟨_, rfl⟩
  rw [hg0] at hq2
  obtain ⟨w2, hw2⟩ : ∃ w2, wx.alloc (.cells C3 56) = w2 := ⟨_, rfl⟩
  rw [hw2] at hq2
  have HQ2 := Bx.mk hq2
  have HH := Bx.mk (h3s_row wx)
  rw [hg0, hw2] at HH
  obtain ⟨u, hu, hac⟩ := eframe ac hA.z hA.d
  have h0 := (hu 0).symm.trans hA.t0
  have h1 := (hu 1).symm.trans hA.t1
  have h2 := (hu 2).symm.trans hA.t2
  have h8 := (hu 8).symm.trans hA.t8
  have h10' := (hu 10).symm.trans h10
  rw [hac]
  clear hac hA h10
  rw [h0, h1, h2, h8, h10']
  clear h0 h1 h2 h8 h10' hu
  conv => arg 2; whnf
  clear hQ hg hv hl hz ht hf hop hq2
  go_wp2_with (go_at_call 40; refine HH.out.mono ?_; rintro r w9 ⟨rfl, rfl⟩)
  rename_i hKq
  refine wp_loop_ghost (fun n ac2 wy => ∃ k, k + n = l.length ∧ Nx q t s E S w lV fb g0 k (accK E fb l k) ac2 wy) l.length ?_ ?_
  · exact ⟨0, by omega, _, _, _, ⟨rfl, rfl, rfl, rfl, rfl, rfl, rfl, rfl, rfl, rfl, rfl, rfl⟩, HQ2.out⟩
  · rintro n ac2 wy ⟨k, hk, hM⟩
    obtain ⟨b1, b2, b3, b4, b5⟩ := HBD.out k
    have hFS : Fs wy lV l := by
      obtain ⟨_, _, _, _, hq⟩ := hM
      exact HV.out wy hq.fp
    cases n with
    | zero =>
      obtain rfl : k = l.length := by omega
      refine Kx.use (roundE_any ac2 hM hFS) ?_ ?_ ?_
      · intro a3 w3 h; exact h.elim
      · intro a3 w3 h; exact h.elim
      · rintro i a3 w3 ⟨rfl, hM3⟩
        refine hKq _ _ ?_
        refine Kx.use (mid3_any a3 hM3 b1 (HLN.out l.length) (by rw [b5, List.take_length]; exact HL.out.2.1) HOP.out HCS.out) ?_ ?_ ?_
        · intro a4 w4 h; exact h.elim
        · intro a4 w4 h; exact h
        · intro i a4 w4 h; exact h.elim
    | succ n =>
      have hk2 : k < l.length := by omega
      refine Kx.use (round_any ac2 hM hFS hk2 HL.out.1 (HL.out.2.2 _ (List.getElem_mem hk2)) b1 b2 (by omega)) ?_ ?_ ?_
      · intro a3 w3 h
        refine ⟨n, by omega, k + 1, by omega, ?_⟩
        rw [accK_next E fb l k hk2]
        exact h
      · intro a3 w3 h; exact h.elim
      · intro i a3 w3 h; exact h.elim

set_option maxRecDepth 100000 in
set_option maxHeartbeats 40000000 in
/-- Behind the table's capacity. -/
theorem mid1_any (ac : Act) (hA : At0 ac q s lV iV) (hQ : QS q t E S w [] iV (capW E.said E.T.cap) (.slice none 0 0) [] (.slice none 0 0) [] wx) (hg : E.T.gq) (hv : ∀ W, Fp S w W → Fs W lV l) (hl : l.length ≤ 100) (hz : wsz l ≤ 6000) (ht : E.T.tot + l.length ≤ 800000) (hf : ∀ f ∈ l, fsz f ≤ 3000) (hop : E.op.length ≤ 100000) (hfb : freeQ E.op E.K E.B s = fb) :
    Code.wp Try.prog (efrom 4) (Kx (fun _ _ => False) (ERet q t s (E.at (accK E fb l l.length).T) S w (accK E fb l l.length).c (accK E fb l l.length).u (accK E fb l l.length).ins (qpre (accK E fb l l.length).c (accK E fb l l.length).c (E.T.cap / 32) ++ linesW (accK E fb l l.length).c (accK E fb l l.length).all)) (fun _ _ _ => False)) ac wx := by
  obtain ⟨ww, hww⟩ : ∃ ww, wx.setCell ⟨q, 6, none⟩ (.bool true) = ww := ⟨_, rfl⟩
  have hQ2 : QS q t (E.at E.T) S w [] iV (capW E.said E.T.cap) (.slice none 0 0) [] (.slice none 0 0) [] ww := by
    rw [← hww]
    exact hQ.said true
  obtain ⟨e, he⟩ := hQ.e8
  obtain ⟨_, _, _, _, _, _, c0, _, _, _, _, _, c6, hfz⟩ := he.cells
  have f6 := hfz 6
  have HMID := Bx.mk (fun (ac : Act) (wy : World) hA h10 (hQ : QS q t (E.at E.T) S w [] iV (capW E.said E.T.cap) (.slice none 0 0) [] (.slice none 0 0) [] wy) => mid2_any (fb := fb) (s := s) ac hA h10 hQ hg hv hl hz ht hf hop)
  have HQ2 := Bx.mk hQ2
  have HB : Bx (∀ W, Below ww.heap.size ww W → W.cell? ⟨q, 1, none⟩ = some (.int .i64 (E.B : Int))) := ⟨fun W hW => by
    obtain ⟨e2, he2⟩ := (HQ2.out.keep hW).e8
    obtain ⟨_, _, _, _, _, _, _, c1, _⟩ := he2.cells
    exact c1⟩
  have HBLK : Bx (∀ W, Below ww.heap.size ww W → Calls Try.prog 38 #[.pointer (some ⟨q, 0, none⟩), .int .u64 (s : Int)] W fun e w' => e = .returned (.bool (blkQ E.op E.K s)) ∧ Below W.heap.size W w') := ⟨fun W hW => by
    obtain ⟨e2, he2⟩ := (HQ2.out.keep hW).e8
    exact blocked_any (E := E.at E.T) he2 s⟩
  have HMANY : Bx (∀ W, Below ww.heap.size ww W → Calls Try.prog 39 #[.pointer (some ⟨q, 0, none⟩)] W fun e w' => e = .returned (.int .i64 (manyQ E.op E.K E.op.length : Int)) ∧ Below W.heap.size W w') := ⟨fun W hW => by
    obtain ⟨e2, he2⟩ := (HQ2.out.keep hW).e8
    exact many_any (E := E.at E.T) he2⟩
  obtain ⟨bb, hbb⟩ : ∃ bb, blkQ E.op E.K s = bb := ⟨_, rfl⟩
  obtain ⟨BI, hBI⟩ := letter E.B
  obtain ⟨MI, hMI⟩ := letter (manyQ E.op E.K E.op.length)
  rw [hbb] at HBLK
  rw [hBI] at HB
  rw [hMI] at HMANY
  have HFB : Bx ((bb || decide (MI < BI)) = fb) := ⟨by rw [← hfb, ← hbb, ← hBI, ← hMI]; unfold freeQ; congr 1; rw [decide_eq_decide]; exact Int.ofNat_lt⟩
  obtain ⟨u, hu, hac⟩ := eframe ac hA.z hA.d
  have h0 := (hu 0).symm.trans hA.t0
  have h1 := (hu 1).symm.trans hA.t1
  have h2 := (hu 2).symm.trans hA.t2
  have h8 := (hu 8).symm.trans hA.t8
  rw [hac]
  clear hac hA
  rw [h0, h1, h2, h8]
  clear h0 h1 h2 h8 hu
  conv => arg 2; whnf
  clear hQ hg hv hl hz ht hf hop hQ2 he hfz hfb hbb hBI hMI
  have hb1 := HB.out ww.drew (Below.refl _ _).drew
  have hB0 : Below ww.heap.size ww ww.drew := (Below.refl _ _).drew
  have hcl := HB.out
  clear hb1
  cases bb with
  | true =>
    obtain rfl : true = fb := HFB.out
    go_wp2_with fail
    clear hww c0 c6 f6
    -- REGION
    refine wp_region_x 12 (fun W => Below ww.heap.size ww W) (by kernel_rfl) (hB0) (fun hHeld => ?_)
    refine wpAnyX_take0 (i := 0) (oi := ⟨some 55, Op.move (Operand.tmp 0), 44, _, _, none⟩) (v := ?v0) rfl (by omega) (by kernel_rfl) (by kernel_rfl) (by kernel_rfl) (fun _ _ _ h => h) (Or.inl ⟨by rfl, ?y0⟩) (by assumption) ?r0
    case y0 =>
      intro W hSw
      try dsimp only at hSw
      go_simp
      try with_reducible rfl
    case r0 =>
    try simp only [Act.put, List.setIfInBounds_toArray, List.set_cons_zero, List.set_cons_succ]
    refine wpAnyX_take0 (i := 1) (oi := ⟨some 56, Op.move (Operand.tmp 1), 27, _, _, none⟩) (v := ?v1) rfl (by omega) (by kernel_rfl) (by kernel_rfl) (by kernel_rfl) (fun _ _ _ h => h) (Or.inl ⟨by rfl, ?y1⟩) (by assumption) ?r1
    case y1 =>
      intro W hSw
      try dsimp only at hSw
      go_simp
      try with_reducible rfl
    case r1 =>
    try simp only [Act.put, List.setIfInBounds_toArray, List.set_cons_zero, List.set_cons_succ]
    refine wpAnyX_one (i := 2) (by kernel_rfl) rfl (fun K hK => ?_)
    go_simp
    go_wp2_with (go_at_call 38; refine (HBLK.out _ hB0).mono ?_; rintro r w3 ⟨rfl, b3⟩; have hB3 : Below ww.heap.size ww w3 := below_next hB0 b3)
    refine hK.out _ _ (fun _ => hB3) ?_
    clear hK K
    try simp only [Act.put, List.setIfInBounds_toArray, List.set_cons_zero, List.set_cons_succ]
    refine wpAnyX_take0 (i := 3) (oi := ⟨some 58, Op.move (Operand.tmp 57), 4, _, _, none⟩) (v := ?v3) rfl (by omega) (by kernel_rfl) (by kernel_rfl) (by kernel_rfl) (fun _ _ _ h => h) (Or.inl ⟨by rfl, ?y3⟩) (by assumption) ?r3
    case y3 =>
      intro W hSw
      try dsimp only at hSw
      go_simp
      try with_reducible rfl
    case r3 =>
    try simp only [Act.put, List.setIfInBounds_toArray, List.set_cons_zero, List.set_cons_succ]
    refine wpAnyX_take0 (i := 4) (oi := ⟨some 59, Op.move (Operand.tmp 0), 44, _, _, some (3, false)⟩) (v := undef) rfl (by omega) (by kernel_rfl) (by kernel_rfl) (by kernel_rfl) (fun _ _ _ h => h) (Or.inr ⟨by rfl, rfl⟩) (by assumption) ?r4
    case r4 =>
    try simp only [Act.put, List.setIfInBounds_toArray, List.set_cons_zero, List.set_cons_succ]
    refine wpAnyX_take0 (i := 5) (oi := ⟨some 60, Op.call { callee := Callee.value (Operand.func 39), args := #[Operand.tmp 59], argTypes := #[44] }, 3, _, _, some (3, false)⟩) (v := undef) rfl (by omega) (by kernel_rfl) (by kernel_rfl) (by kernel_rfl) (fun _ _ _ h => h) (Or.inr ⟨by rfl, rfl⟩) (by assumption) ?r5
    case r5 =>
    try simp only [Act.put, List.setIfInBounds_toArray, List.set_cons_zero, List.set_cons_succ]
    refine wpAnyX_take0 (i := 6) (oi := ⟨some 61, Op.move (Operand.tmp 0), 44, _, _, some (3, false)⟩) (v := undef) rfl (by omega) (by kernel_rfl) (by kernel_rfl) (by kernel_rfl) (fun _ _ _ h => h) (Or.inr ⟨by rfl, rfl⟩) (by assumption) ?r6
    case r6 =>
    try simp only [Act.put, List.setIfInBounds_toArray, List.set_cons_zero, List.set_cons_succ]
    refine wpAnyX_take0 (i := 7) (oi := ⟨some 62, Op.nilCheck (Operand.tmp 61), 0, _, _, some (3, false)⟩) (v := undef) rfl (by omega) (by kernel_rfl) (by kernel_rfl) (by kernel_rfl) (fun _ _ _ h => h) (Or.inr ⟨by rfl, rfl⟩) (by assumption) ?r7
    case r7 =>
    try simp only [Act.put, List.setIfInBounds_toArray, List.set_cons_zero, List.set_cons_succ]
    refine wpAnyX_take0 (i := 8) (oi := ⟨some 63, Op.fieldAddr 84 (Operand.tmp 62) 1, 0, _, _, some (3, false)⟩) (v := undef) rfl (by omega) (by kernel_rfl) (by kernel_rfl) (by kernel_rfl) (fun _ _ _ h => h) (Or.inr ⟨by rfl, rfl⟩) (by assumption) ?r8
    case r8 =>
    try simp only [Act.put, List.setIfInBounds_toArray, List.set_cons_zero, List.set_cons_succ]
    refine wpAnyX_take0 (i := 9) (oi := ⟨some 64, Op.load 3 (Operand.tmp 63), 3, _, _, some (3, false)⟩) (v := undef) rfl (by omega) (by kernel_rfl) (by kernel_rfl) (by kernel_rfl) (fun _ _ _ h => h) (Or.inr ⟨by rfl, rfl⟩) (by assumption) ?r9
    case r9 =>
    try simp only [Act.put, List.setIfInBounds_toArray, List.set_cons_zero, List.set_cons_succ]
    refine wpAnyX_take0 (i := 10) (oi := ⟨some 65, Op.binOp BinOp.lss 3 (Operand.tmp 60) (Operand.tmp 64) 3, 4, _, _, some (3, false)⟩) (v := undef) rfl (by omega) (by kernel_rfl) (by kernel_rfl) (by kernel_rfl) (fun _ _ _ h => h) (Or.inr ⟨by rfl, rfl⟩) (by assumption) ?r10
    case r10 =>
    try simp only [Act.put, List.setIfInBounds_toArray, List.set_cons_zero, List.set_cons_succ]
    refine wpAnyX_take0 (i := 11) (oi := ⟨some 66, Op.pick (Operand.tmp 58) (Operand.const (Value.bool true)) (Operand.tmp 65), 4, _, _, none⟩) (v := ?v11) rfl (by omega) (by kernel_rfl) (by kernel_rfl) (by kernel_rfl) (fun _ _ _ h => h) (Or.inl ⟨by rfl, ?y11⟩) (by assumption) ?r11
    case y11 =>
      intro W hSw
      try dsimp only at hSw
      go_simp
      try with_reducible rfl
    case r11 =>
    try simp only [Act.put, List.setIfInBounds_toArray, List.set_cons_zero, List.set_cons_succ]
    refine wpAnyX_one (i := 12) (by kernel_rfl) rfl (fun K hK => ?_)
    go_simp
    refine hK.out _ _ (fun h => absurd h (by decide)) ?_
    clear hK K
    try simp only [Act.put, List.setIfInBounds_toArray, List.set_cons_zero, List.set_cons_succ]
    refine wpAnyX_done (by kernel_rfl) ?_ _
    -- END
    have HQ3 := Bx.mk (HQ2.out.keep hB3)
    rename_i hKq
    refine hKq _ _ ?_
    refine Kx.use (HMID.out _ _ ⟨rfl, rfl, rfl, rfl, rfl, rfl⟩ rfl HQ3.out) ?_ ?_ ?_
    · intro a4 w4 h; exact h
    · intro a4 w4 h; exact h
    · intro i a4 w4 h; exact h
  | false =>
    obtain rfl : decide (MI < BI) = fb := HFB.out
    go_wp2_with fail
    clear hww c0 c6 f6
    go_region_held (fun W => Below ww.heap.size ww W) (assumption) (first
      | (go_at_call 38; refine (HBLK.out _ hB0).mono ?_; rintro r w3 ⟨rfl, b3⟩; have hB3 : Below ww.heap.size ww w3 := below_next hB0 b3)
      | (go_at_call 39; refine (HMANY.out _ hB3).mono ?_; rintro r w4 ⟨rfl, b4⟩; have hB4 : Below ww.heap.size ww w4 := below_next hB3 b4))
    have HQ3 := Bx.mk (HQ2.out.keep hB4)
    clear HBLK HMANY hcl hB0 hB3 hB4 b3 b4 HB
    rename_i hKq hHeld
    refine hKq _ _ ?_
    refine Kx.use (HMID.out _ _ ⟨rfl, rfl, rfl, rfl, rfl, rfl⟩ rfl HQ3.out) ?_ ?_ ?_
    · intro a4 w4 h; exact h
    · intro a4 w4 h; exact h
    · intro i a4 w4 h; exact h
end
end Go.Proofs.Yteopmaaghhendaa

/-
  Contract of the document's Encode of QPACK: the whole.
-/
namespace Go.Proofs.Yteopmaaghhendaa
open Go.RowKit Go.Maps
set_option linter.unusedVariables false

section
variable {q t s : Nat} {E : Qe} {S : Nat → Prop} {w wx : World} {lV iV : Value} {l : List Fd} {fb : Bool}
theorem capW_yes {cap : Nat} (h : 0 < cap) : capW false cap = pre 32 5 cap := by unfold capW; simp [h]
theorem capW_no {sd : Bool} {cap : Nat} (h : sd = true ∨ cap = 0) : capW sd cap = [] := by
  unfold capW
  rcases h with rfl | rfl
  · rfl
  · simp

set_option maxRecDepth 100000 in
set_option maxHeartbeats 40000000 in
/-- The table's capacity. -/
theorem pre8_any (ac : Act) (hA : At0 ac q s lV (.slice none 0 0)) (hQ : QS q t E S w [] (.slice none 0 0) [] (.slice none 0 0) [] (.slice none 0 0) [] wx) (hsd : E.said = false) (hc : 0 < E.T.cap) :
    Code.wp Try.prog (efrom 3) (Kx (fun ac' w' => ∃ iV, At0 ac' q s lV iV ∧ QS q t E S w [] iV (capW E.said E.T.cap) (.slice none 0 0) [] (.slice none 0 0) [] w') (fun _ _ => False) (fun _ _ _ => False)) ac wx := by
  obtain ⟨e, he⟩ := hQ.e8
  obtain ⟨_, _, _, _, _, _, c0, _⟩ := he.cells
  obtain ⟨_, _, _, t1, _⟩ := he.tcells
  have hcap := he.ok.cap
  have HQ := Bx.mk hQ
  obtain ⟨cap, hcp⟩ : ∃ cap, E.T.cap = cap := ⟨_, rfl⟩
  rw [hcp] at t1 hcap hc
  have HW : Bx (capW E.said E.T.cap = pre 32 5 cap) := ⟨by rw [hsd, hcp]; exact capW_yes hc⟩
  obtain ⟨CP, hCP⟩ := letter cap
  rw [hCP] at t1
  have hwc : IntKind.u64.wrap CP = CP := u64_keep (by omega) (by omega)
  have HPRE := Bx.mk (refPrefix_at w.heap.size (.slice none 0 0) [] 32 32 rfl 5 5 rfl cap CP hCP wx hQ.bytes hQ.size (by simp) (by omega))
  rw [List.nil_append] at HPRE
  obtain ⟨u, hu, hac⟩ := eframe ac hA.z hA.d
  have h0 := (hu 0).symm.trans hA.t0
  have h1 := (hu 1).symm.trans hA.t1
  have h2 := (hu 2).symm.trans hA.t2
  have h8 := (hu 8).symm.trans hA.t8
  rw [hac]
  clear hac hA
  rw [h0, h1, h2, h8]
  clear h0 h1 h2 h8 hu
  conv => arg 2; whnf
  clear hQ he hsd hcap hcp hCP hc
  go_wp2_with (go_at_call 23; refine HPRE.out.mono ?_; rintro r w2 ⟨v2, rfl, ho2, b2, n2⟩; have HQ2 := Bx.mk (HQ.out.byte ho2 b2 n2); clear ho2 b2 n2)
  exact Kx.norm ⟨_, ⟨rfl, rfl, rfl, rfl, rfl, rfl⟩, by rw [HW.out]; exact HQ2.out⟩

set_option maxRecDepth 100000 in
set_option maxHeartbeats 40000000 in
theorem encode8_any (h : E8 q t E w S) (hg : E.T.gq) (hv : ∀ W, Fp S w W → Fs W lV l) (hl : l.length ≤ 100) (hz : wsz l ≤ 6000) (ht : E.T.tot + l.length ≤ 800000) (hf : ∀ f ∈ l, fsz f ≤ 3000) (hop : E.op.length ≤ 100000) (hs : s < 18446744073709551616) :
    Calls Try.prog 20 #[.pointer (some ⟨q, 0, none⟩), .int .u64 (s : Int), lV] w fun r w' => ∃ a b, r = .returned (.tuple #[a, b]) ∧
      EFin q t s (E.at (E.acc s l).T) S w (E.acc s l).c (E.acc s l).u (E.acc s l).ins (E.sec s l) a b w' := by
  have HQ0 := Bx.mk (QS.start h)
  have hEK : E.acc s l = accK E (freeQ E.op E.K E.B s) l l.length := by unfold accK; rw [List.take_length]; rfl
  have hsec : E.sec s l = qpre (E.acc s l).c (E.acc s l).c (E.T.cap / 32) ++ linesW (E.acc s l).c (E.acc s l).all := rfl
  rw [hsec, hEK]
  have HMID := Bx.mk (fun (ac : Act) (iV : Value) (wy : World) hA (hQ : QS q t E S w [] iV (capW E.said E.T.cap) (.slice none 0 0) [] (.slice none 0 0) [] wy) => mid1_any (fb := freeQ E.op E.K E.B s) ac hA hQ hg hv hl hz ht hf hop rfl)
  have HPRE := Bx.mk (fun (ac : Act) (wy : World) hA (hQ : QS q t E S w [] (.slice none 0 0) [] (.slice none 0 0) [] (.slice none 0 0) [] wy) hsd hc => pre8_any (lV := lV) (s := s) ac hA hQ hsd hc)
  generalize accK E (freeQ E.op E.K E.B s) l l.length = A0 at HMID ⊢
  obtain ⟨_, _, _, _, _, _, c0, _, _, _, _, _, c6, _⟩ := h.cells
  obtain ⟨_, _, _, t1, _⟩ := h.tcells
  obtain ⟨sd, hsd⟩ : ∃ sd, E.said = sd := ⟨_, rfl⟩
  obtain ⟨CP, hCP⟩ := letter E.T.cap
  rw [hsd] at c6
  rw [hCP] at t1
  obtain ⟨zb, hzb⟩ : ∃ zb, decide (0 < CP) = zb := ⟨_, rfl⟩
  have HSD := Bx.mk (And.intro hsd hCP)
  clear h hg hv hl hz ht hf hop hs hEK hsec hsd hCP
  go_enter Try.func20, Try.ntmps20
  cases sd with
  | true =>
    have HW : Bx (capW E.said E.T.cap = []) := ⟨by rw [HSD.out.1]; exact capW_no (.inl rfl)⟩
    clear hzb
    go_upto_if 41 with fail
    rename_i hKq
    refine wp_cond_false rfl ?_
    refine wp_skip ?_
    refine hKq _ _ ?_
    refine Kx.use (HMID.out _ (.slice none 0 0) _ ⟨rfl, rfl, rfl, rfl, rfl, rfl⟩ (by rw [HW.out]; exact HQ0.out)) ?_ ?_ ?_
    · intro a4 w4 h; exact h.elim
    · intro a4 w4 h; exact ⟨h.1, _, results_tmp2 Try.results20 _ _ _, _, _, rfl, h.2⟩
    · intro i a4 w4 h; exact h.elim
  | false =>
    cases zb with
    | false =>
      have HW : Bx (capW E.said E.T.cap = []) := ⟨by rw [HSD.out.1]; exact capW_no (.inr (by have h := of_decide_eq_false hzb; have := HSD.out.2; omega))⟩
      go_upto_if 41 with fail
      rename_i hKq
      refine wp_cond_false rfl ?_
      refine wp_skip ?_
      refine hKq _ _ ?_
      refine Kx.use (HMID.out _ (.slice none 0 0) _ ⟨rfl, rfl, rfl, rfl, rfl, rfl⟩ (by rw [HW.out]; exact HQ0.out)) ?_ ?_ ?_
      · intro a4 w4 h; exact h.elim
      · intro a4 w4 h; exact ⟨h.1, _, results_tmp2 Try.results20 _ _ _, _, _, rfl, h.2⟩
      · intro i a4 w4 h; exact h.elim
    | true =>
      have HC : Bx (0 < E.T.cap) := ⟨by have h := of_decide_eq_true hzb; have := HSD.out.2; omega⟩
      go_upto_if 41 with fail
      rename_i hKq
      refine wp_cond_true rfl ?_
      refine Kx.use (HPRE.out _ _ ⟨rfl, rfl, rfl, rfl, rfl, rfl⟩ HQ0.out HSD.out.1 HC.out) ?_ ?_ ?_
      · rintro a3 w3 ⟨iV, hA3, hQ3⟩
        refine hKq _ _ ?_
        refine Kx.use (HMID.out _ iV _ hA3 hQ3) ?_ ?_ ?_
        · intro a4 w4 h; exact h.elim
        · intro a4 w4 h; exact ⟨h.1, _, results_tmp2 Try.results20 _ _ _, _, _, rfl, h.2⟩
        · intro i a4 w4 h; exact h.elim
      · intro a3 w3 h; exact h.elim
      · intro i a3 w3 h; exact h.elim
end
end Go.Proofs.Yteopmaaghhendaa
