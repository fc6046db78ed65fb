/-
  Texts put together: DnH.
-/
import Derived.Test.YtebakjdeighdnaaGreatM17

/-
  Contract of the document's Add.
-/
namespace Go.Proofs.YtebakjdeighdnaaGreat
open Go.RowKit Go.Maps
set_option linter.unusedVariables false
set_option linter.unusedSimpArgs false

set_option maxRecDepth 100000 in
/-- v[:n:n] -/
theorem St.tight {w : World} {v : Value} {L : List Fd} (h : St w v L) :
    ∃ A, (∀ W : World, (Instr.slice 30 v none (some (.int .i64 (L.length : Int))) (some (.int .i64 (L.length : Int)))).run Tryz.prog W = .ok (.slice A L.length L.length) W) ∧ (Value.slice A L.length L.length).ownBlock = v.ownBlock ∧ ∀ W : World, St W v L → St W (.slice A L.length L.length) L := by
  have helem : Tryz.prog.underlying 30 = some (.slice (Tryz.prog.elem 30)) := by kernel_rfl
  have hsz : ∀ W : World, (sizeOf (Tryz.prog.elem 30)).run Tryz.prog W = .ok 2 W := fun W => by kernel_rfl
  rcases h with ⟨rfl, rfl⟩ | ⟨g, o, cap, m, F, rfl, hr, h1, h2, h3, h4⟩
  · refine ⟨none, fun W => ?_, rfl, fun W hW => St.nil W⟩
    rw [run_slice_hm W 30 none 0 0 helem .i64 .i64 _ _ (by simp) (by simp) (by simp), hsz]
    rfl
  · refine ⟨some ⟨g, o, none⟩, fun W => ?_, rfl, fun W hW => ?_⟩
    · rw [run_slice_hm W 30 (some ⟨g, o, none⟩) L.length cap helem .i64 .i64 _ _ (by omega) (by omega) (by omega), hsz]
      simp only [Result.andThen, sliced, Int.toNat_natCast, Nat.sub_zero, Option.map_some, Nat.zero_mul]
      congr 2
      split
      · rfl
      · simp [Addr.add]
    · rcases hW with ⟨e, _⟩ | ⟨g', o', cap', m', F', e, hr', _, _, h3', h4'⟩
      · cases e
      · injection e with e1 e2 e3
        injection e1 with e1
        injection e1 with e1 e4
        subst e1; subst e4; subst e3
        exact .inr ⟨g, o, L.length, m', F', rfl, hr', Nat.le_refl _, by omega, by omega, h4'⟩

set_option maxRecDepth 100000 in
set_option maxHeartbeats 4000000 in
theorem refAdd_any {q : Nat} {T : Tab} {w : World} {S : Nat → Prop} (h : Rt q T w S) (f : Fd) (hf : fsz f ≤ 1000000) (ht : T.tot + 1 ≤ 1000000) :
    Calls Tryz.prog 44 #[.pointer (some ⟨q, 0, none⟩), .agg #[.string f.1, .string f.2]] w fun e w' => e = .returned (.int .i64 (T.went (T.room f) : Int)) ∧ Turn (Rt q (T.add f)) S w w' := by
  obtain ⟨f1, f2⟩ := f
  have HT := Bx.mk h
  have HTT := Bx.mk ht
  obtain ⟨n1, hn1⟩ : ∃ n1, fsz (f1, f2) + 32 = n1 := ⟨_, rfl⟩
  have HSZC : Bx (∀ W, Calls Tryz.prog 81 #[.agg #[.string f1, .string f2]] W fun e w' => e = .returned (.int .i64 (n1 : Int)) ∧ Below W.heap.size W w') := ⟨fun W => hn1 ▸ refsize_any (f1, f2) W hf⟩
  have HN1 := Bx.mk hn1
  have hnb : n1 ≤ 1000032 := by omega
  have hcap := h.ok.cap
  obtain ⟨cp, hcp⟩ : ∃ cp, T.cap = cp := ⟨_, rfl⟩
  rw [hcp] at hcap
  have hroom : (cp : Int) - (n1 : Int) = T.room (f1, f2) := by unfold Tab.room; rw [hcp, hn1]
  obtain ⟨rm, hrm⟩ : ∃ rm, T.room (f1, f2) = rm := ⟨_, rfl⟩
  rw [hrm] at hroom
  have hws : IntKind.i64.wrap ((cp : Int) - (n1 : Int)) = rm := by rw [← hroom]; simp only [IntKind.wrap_i64]; omega
  obtain ⟨R, hR⟩ : ∃ R, T.went rm = R := ⟨_, rfl⟩
  rw [hrm, hR]
  have HCP := Bx.mk hcp
  have HRM := Bx.mk hrm
  have HRR := Bx.mk hR
  have HF1 := Bx.mk (Fb.new 53 w (f1, f2))
  have HT1 := Bx.mk (h.keep ((Below.refl w.heap.size w).alloc (Nat.le_refl _) (.cells #[.string f1, .string f2] 53)))
  have hG : ¬ S w.heap.size := fun hc => Nat.lt_irrefl _ (h.lt _ hc)
  have HG := Bx.mk hG
  have hwt : IntKind.u64.wrap ((T.tot : Int) + 1) = ((T.tot + 1 : Nat) : Int) := by simp [IntKind.wrap, IntKind.signed, IntKind.bits]; omega
  have HWT := Bx.mk hwt
  have HNB := Bx.mk hnb
  have HCA := Bx.mk hcap
  clear h hf ht hn1 hcp hrm hroom hR hG hwt hnb hcap
  go_enter Tryz.func44, Tryz.ntmps44
  go_upto_region 1 with fail
  obtain ⟨_, _, c4, _, df, _⟩ := (HT1.out.keep (Below.refl _ _).drew).cells
  rw [HCP.out] at c4
  obtain ⟨e1, e2⟩ := (HF1.out.keep (Below.refl _ _).drew).cells
  go_cut [3, 5] from 6 to 14 (fun s3 s5 wx => s3 = .pointer (some ⟨w.heap.size, 0, none⟩) ∧ s5 = .int .i64 (R : Int) ∧ Bx (Turn (Rt q ⟨fits rm T.l, T.cap, T.tot⟩) S w wx) ∧ Bx (Fb 53 wx w.heap.size (f1, f2)))
  case first =>
    go_region_held (fun W => W.cell? ⟨q, 1, none⟩ = some (.int .i64 (cp : Int)) ∧ W.cell? ⟨w.heap.size, 0, none⟩ = some (.string f1) ∧ W.cell? ⟨w.heap.size, 1, none⟩ = some (.string f2)) (first | assumption | exact ⟨c4, e1, e2⟩) (first
      | (go_at_call 81; refine (HSZC.out _).mono ?_; rintro e w2 ⟨rfl, hb2⟩; have HT2 := Bx.mk ((HT1.out.keep (Below.refl _ _).drew).keep hb2); have HF2 := Bx.mk ((HF1.out.keep (Below.refl _ _).drew).keep hb2); obtain ⟨_, _, k4, _, _, _⟩ := HT2.out.cells; rw [HCP.out] at k4; have hS2 : w2.cell? ⟨q, 1, none⟩ = some (.int .i64 (cp : Int)) ∧ w2.cell? ⟨w.heap.size, 0, none⟩ = some (.string f1) ∧ w2.cell? ⟨w.heap.size, 1, none⟩ = some (.string f2) := ⟨k4, HF2.out.cells⟩)
      | (go_at_call 80; refine (fit_any HT2.out rm).mono ?_; rintro e w3 ⟨rfl, ht3⟩; rw [HRR.out]; obtain ⟨S3, x3, s3, g3⟩ := ht3; have HF3 := Bx.mk (HF2.out.besides g3 HG.out); obtain ⟨_, _, m4, _, _, _⟩ := x3.cells; rw [show T.cap = cp from HCP.out] at m4; have hS3 : w3.cell? ⟨q, 1, none⟩ = some (.int .i64 (cp : Int)) ∧ w3.cell? ⟨w.heap.size, 0, none⟩ = some (.string f1) ∧ w3.cell? ⟨w.heap.size, 1, none⟩ = some (.string f2) := ⟨m4, HF3.out.cells⟩))
    all_goals go_wp2_with fail
    all_goals go_meet
    all_goals
      have hB2 : Below w.heap.size w w2 := (((Below.refl w.heap.size w).alloc (Nat.le_refl _) _).drew).trans (hb2.mono (by simp))
      exact ⟨rfl, rfl, ⟨Turn.step (fun k hk => .inl hk) (Fp.of_below hB2) ⟨S3, x3, s3, g3⟩⟩, HF3⟩
  case rest =>
    obtain ⟨rfl, rfl, HT3, HF3⟩ := hcut
    clear c4 df e1 e2 HT1 HF1
    obtain ⟨G, hG⟩ : ∃ G, w.heap.size = G := ⟨_, rfl⟩
    rw [hG] at HF3 HG ⊢
    have HGG := Bx.mk hG
    clear hG
    obtain ⟨S3, x3, s3, g3⟩ := HT3.out
    have HX3 := Bx.mk x3
    have HS3 := Bx.mk s3
    have HG3 := Bx.mk g3
    obtain ⟨_, _, c4, _, _, _⟩ := (x3.keep (Below.refl _ _).drew).cells
    rw [show T.cap = cp from HCP.out] at c4
    obtain ⟨e1, e2⟩ := (HF3.out.keep (Below.refl _ _).drew).cells
    clear x3 s3 g3
    have htl : sizeF (fits rm T.l) ≤ 1000000 := Nat.le_trans (fits_size _ _) HT.out.ok.size
    have HTL := Bx.mk htl
    clear htl
    by_cases hle : n1 ≤ cp
    case' neg =>
      have hd1 : decide ((n1 : Int) ≤ (cp : Int)) = false := decide_eq_false (by omega)
      have hd2 : decide (n1 ≤ cp) = false := decide_eq_false hle
      have HAD : Bx (T.add (f1, f2) = ⟨fits rm T.l, T.cap, T.tot⟩) := ⟨by unfold Tab.add; rw [if_neg (by rw [HN1.out, HCP.out]; exact hle), HRM.out]⟩
    case' pos =>
      have hd1 : decide ((n1 : Int) ≤ (cp : Int)) = true := decide_eq_true (by omega)
      have hd2 : decide (n1 ≤ cp) = true := decide_eq_true hle
      have HAD : Bx (T.add (f1, f2) = ⟨fits rm T.l ++ [(f1, f2)], T.cap, T.tot + 1⟩) := ⟨by unfold Tab.add; rw [if_pos (by rw [HN1.out, HCP.out]; exact hle), HRM.out]⟩
      have HFI : Bx (sizeF (fits rm T.l) + n1 ≤ 1000000) := ⟨by have := T.add_fit (f1, f2) (by rw [HN1.out, HCP.out]; exact hle); rw [HRM.out, HN1.out, HCP.out] at this; have := HCA.out; omega⟩
    all_goals
      clear hle
      go_wp2_with fail
      go_region_held (fun W => W.cell? ⟨q, 1, none⟩ = some (.int .i64 (cp : Int)) ∧ W.cell? ⟨G, 0, none⟩ = some (.string f1) ∧ W.cell? ⟨G, 1, none⟩ = some (.string f2)) (first | assumption | exact ⟨c4, e1, e2⟩) (first
        | (go_at_call 81; refine (HSZC.out _).mono ?_; rintro e w4 ⟨rfl, hb4⟩; have HX4 := Bx.mk ((HX3.out.keep (Below.refl _ _).drew).keep hb4); have HF4 := Bx.mk ((HF3.out.keep (Below.refl _ _).drew).keep hb4); obtain ⟨_, _, k4, _, _, _⟩ := HX4.out.cells; rw [show T.cap = cp from HCP.out] at k4; have hS4 : w4.cell? ⟨q, 1, none⟩ = some (.int .i64 (cp : Int)) ∧ w4.cell? ⟨G, 0, none⟩ = some (.string f1) ∧ w4.cell? ⟨G, 1, none⟩ = some (.string f2) := ⟨k4, HF4.out.cells⟩))
      have HB4 : Bx (Below wc.heap.size wc w4) := ⟨((Below.refl wc.heap.size wc).drew).trans (hb4.mono (by simp))⟩
      have HT4 : Bx (Turn (Rt q ⟨fits rm T.l, T.cap, T.tot⟩) S w w4) := ⟨Turn.step HS3.out HG3.out (Turn.refl HX4.out HB4.out)⟩
      clear c4 e1 e2 hS4 k4 hb4 HT3 HF3
      go_wp2_with fail
    all_goals try (go_ret; rw [HAD.out]; exact ⟨rfl, HT4.out⟩)
    clear hd1 hd2 hws
    obtain ⟨S4, x4, s4, g4⟩ := HT4.out
    have HX5 := Bx.mk (x4.keep (((Below.refl w4.heap.size w4).drew).alloc (Nat.le_refl _) (.cells #[.string f1, .string f2] 53)))
    obtain ⟨vb, rowb, stb, nvb, Sb, ltb, okb⟩ := HX5.out
    obtain ⟨A, htight, hown, hst⟩ := stb.tight
    have hst5 := hst _ stb
    have hlen4 : (fits rm T.l).length ≤ 1000000 := by have := fits_len rm T.l; have := HT.out.ok.short; omega
    obtain ⟨v', w6, hrun, hstv, hgr, hown6, hfresh⟩ := hst5.append (Fs.one w4.drew _ rfl (f1, f2)) hlen4 30
    obtain ⟨hgn, gf, hgf, hgl⟩ := hfresh A _ rfl
    obtain ⟨av, nv, cv, rfl⟩ := hstv.shape
    have hrow6 := rowb.of_block (hgn.block q rowb.lt (by simp))
    have k0 : w6.cell? ⟨q, 0, none⟩ = some vb := hrow6.cell (by omega)
    have kf0 : w6.frozen? ⟨q, 0, none⟩ = false := hrow6.frozen 0
    have d0 : w4.drew.cell? ⟨q, 0, none⟩ = some vb := by
      have h5 := rowb.cell (i := 0) (by omega)
      rw [World.cell?_alloc_lt _ _ _ (by show q < w4.heap.size; exact x4.lt q (by obtain ⟨_, _, _, _, hq, _⟩ := x4; exact hq.1))] at h5
      exact h5
    have hd0 : (w4.alloc (.cells #[.string f1, .string f2] 53)).drew.cell? ⟨q, 0, none⟩ = some vb := rowb.cell (by omega)
    have hlenb := fun ty W => stb.fs.run_len ty W
    obtain ⟨m, hm⟩ : ∃ m, (fits rm T.l).length = m := ⟨_, rfl⟩
    have HM := Bx.mk hm
    simp only [hm] at htight hrun hlenb hstv hlen4
    obtain ⟨e1, e2⟩ := (HF4.out.keep (Below.refl _ _).drew).cells
    obtain ⟨e3, e4⟩ := (HF4.out.keep (((Below.refl w4.heap.size w4).drew).alloc (Nat.le_refl _) (.cells #[.string f1, .string f2] 53))).cells
    have HSV := Bx.mk hstv
    have HGR := Bx.mk hgn
    have HFR := Bx.mk (show ∃ g, (Value.slice av nv cv).ownBlock = some g ∧ w4.heap.size ≤ g from ⟨gf, hgf, Nat.le_trans (by simp) hgl⟩)
    have HR6 := Bx.mk hrow6
    have HF6 := Bx.mk ((HF4.out.keep (((Below.refl w4.heap.size w4).drew).alloc (Nat.le_refl _) (.cells #[.string f1, .string f2] 53))).grown hgn (by simp))
    have HX4' := Bx.mk x4
    have HS4 := Bx.mk s4
    have HG4 := Bx.mk g4
    have HSB := Bx.mk Sb
    clear x4 s4 g4 rowb stb nvb Sb ltb okb hst hst5 hown hstv hgr hown6 hfresh hgn hgf hgl hrow6 hm hlen4
    go_upto_region 3 with fail
    go_cut [3, 5] from 22 to 42 (fun s3 s5 wx => s3 = .pointer (some ⟨G, 0, none⟩) ∧ s5 = .int .i64 (R : Int) ∧ wx = w6.setCell ⟨q, 0, none⟩ (.slice av nv cv))
    case first =>
      obtain ⟨g1, g2⟩ := HF6.out.cells
      refine wp_region_x 21 (fun W => W.cell? ⟨q, 0, none⟩ = some vb ∧ W.cell? ⟨G, 0, none⟩ = some (.string f1) ∧ W.cell? ⟨G, 1, none⟩ = some (.string f2)) (by kernel_rfl) (⟨d0, e1, e2⟩) (fun hHeld => ?_)
      refine wpAnyX_take0 (i := 0) (oi := ⟨some 22, Op.move (Operand.tmp 0), 47, _, _, none⟩) (v := ?v0) rfl (by omega) (by kernel_rfl) (by kernel_rfl) (by kernel_rfl) (fun _ _ _ h => h) (Or.inl ⟨by rfl, ?y0⟩) (by assumption) ?r0
      case y0 =>
        intro W hSw
        try dsimp only at hSw
        go_simp
        try with_reducible rfl
      case r0 =>
      try simp only [Act.put, List.setIfInBounds_toArray, List.set_cons_zero, List.set_cons_succ]
      refine wpAnyX_take0 (i := 1) (oi := ⟨some 23, Op.move (Operand.tmp 0), 47, _, _, none⟩) (v := ?v1) rfl (by omega) (by kernel_rfl) (by kernel_rfl) (by kernel_rfl) (fun _ _ _ h => h) (Or.inl ⟨by rfl, ?y1⟩) (by assumption) ?r1
      case y1 =>
        intro W hSw
        try dsimp only at hSw
        go_simp
        try with_reducible rfl
      case r1 =>
      try simp only [Act.put, List.setIfInBounds_toArray, List.set_cons_zero, List.set_cons_succ]
      refine wpAnyX_take0 (i := 2) (oi := ⟨some 24, Op.nilCheck (Operand.tmp 23), 0, _, _, none⟩) (v := ?v2) rfl (by omega) (by kernel_rfl) (by kernel_rfl) (by kernel_rfl) (fun _ _ _ h => h) (Or.inl ⟨by rfl, ?y2⟩) (by assumption) ?r2
      case y2 =>
        intro W hSw
        try dsimp only at hSw
        go_simp
        try with_reducible rfl
      case r2 =>
      try simp only [Act.put, List.setIfInBounds_toArray, List.set_cons_zero, List.set_cons_succ]
      refine wpAnyX_take0 (i := 3) (oi := ⟨some 25, Op.fieldAddr 79 (Operand.tmp 24) 0, 0, _, _, none⟩) (v := ?v3) rfl (by omega) (by kernel_rfl) (by kernel_rfl) (by kernel_rfl) (fun _ _ _ h => h) (Or.inl ⟨by rfl, ?y3⟩) (by assumption) ?r3
      case y3 =>
        intro W hSw
        try dsimp only at hSw
        go_simp
        try with_reducible rfl
      case r3 =>
      try simp only [Act.put, List.setIfInBounds_toArray, List.set_cons_zero, List.set_cons_succ]
      refine wpAnyX_take (i := 4) (oi := ⟨some 26, Op.load 30 (Operand.tmp 25), 30, _, _, none⟩) (v := ?v4) rfl (by omega) (by kernel_rfl) (by kernel_rfl) (by kernel_rfl) (by kernel_rfl) (by kernel_rfl) (fun _ _ _ h => h) (Or.inl ⟨by rfl, ?y4⟩) (by assumption) ?r4
      case y4 =>
        intro W hSw
        try dsimp only at hSw
        go_simp
        try with_reducible rfl
      case r4 =>
      try simp only [Act.put, List.setIfInBounds_toArray, List.set_cons_zero, List.set_cons_succ]
      refine wpAnyX_take0 (i := 5) (oi := ⟨some 27, Op.move (Operand.tmp 0), 47, _, _, none⟩) (v := ?v5) rfl (by omega) (by kernel_rfl) (by kernel_rfl) (by kernel_rfl) (fun _ _ _ h => h) (Or.inl ⟨by rfl, ?y5⟩) (by assumption) ?r5
      case y5 =>
        intro W hSw
        try dsimp only at hSw
        go_simp
        try with_reducible rfl
      case r5 =>
      try simp only [Act.put, List.setIfInBounds_toArray, List.set_cons_zero, List.set_cons_succ]
      refine wpAnyX_take0 (i := 6) (oi := ⟨some 28, Op.nilCheck (Operand.tmp 27), 0, _, _, none⟩) (v := ?v6) rfl (by omega) (by kernel_rfl) (by kernel_rfl) (by kernel_rfl) (fun _ _ _ h => h) (Or.inl ⟨by rfl, ?y6⟩) (by assumption) ?r6
      case y6 =>
        intro W hSw
        try dsimp only at hSw
        go_simp
        try with_reducible rfl
      case r6 =>
      try simp only [Act.put, List.setIfInBounds_toArray, List.set_cons_zero, List.set_cons_succ]
      refine wpAnyX_take0 (i := 7) (oi := ⟨some 29, Op.fieldAddr 79 (Operand.tmp 28) 0, 0, _, _, none⟩) (v := ?v7) rfl (by omega) (by kernel_rfl) (by kernel_rfl) (by kernel_rfl) (fun _ _ _ h => h) (Or.inl ⟨by rfl, ?y7⟩) (by assumption) ?r7
      case y7 =>
        intro W hSw
        try dsimp only at hSw
        go_simp
        try with_reducible rfl
      case r7 =>
      try simp only [Act.put, List.setIfInBounds_toArray, List.set_cons_zero, List.set_cons_succ]
      refine wpAnyX_take (i := 8) (oi := ⟨some 30, Op.load 30 (Operand.tmp 29), 30, _, _, none⟩) (v := ?v8) rfl (by omega) (by kernel_rfl) (by kernel_rfl) (by kernel_rfl) (by kernel_rfl) (by kernel_rfl) (fun _ _ _ h => h) (Or.inl ⟨by rfl, ?y8⟩) (by assumption) ?r8
      case y8 =>
        intro W hSw
        try dsimp only at hSw
        go_simp
        try with_reducible rfl
      case r8 =>
      try simp only [Act.put, List.setIfInBounds_toArray, List.set_cons_zero, List.set_cons_succ]
      refine wpAnyX_take (i := 9) (oi := ⟨some 31, Op.call { callee := Callee.builtin Builtin.len, args := #[Operand.tmp 30], argTypes := #[30] }, 3, _, _, none⟩) (v := ?v9) rfl (by omega) (by kernel_rfl) (by kernel_rfl) (by kernel_rfl) (by kernel_rfl) (by kernel_rfl) (fun _ _ _ h => h) (Or.inl ⟨by rfl, ?y9⟩) (by assumption) ?r9
      case y9 =>
        intro W hSw
        try dsimp only at hSw
        go_simp
        try with_reducible rfl
      case r9 =>
      try simp only [Act.put, List.setIfInBounds_toArray, List.set_cons_zero, List.set_cons_succ]
      refine wpAnyX_take0 (i := 10) (oi := ⟨some 32, Op.move (Operand.tmp 0), 47, _, _, none⟩) (v := ?v10) rfl (by omega) (by kernel_rfl) (by kernel_rfl) (by kernel_rfl) (fun _ _ _ h => h) (Or.inl ⟨by rfl, ?y10⟩) (by assumption) ?r10
      case y10 =>
        intro W hSw
        try dsimp only at hSw
        go_simp
        try with_reducible rfl
      case r10 =>
      try simp only [Act.put, List.setIfInBounds_toArray, List.set_cons_zero, List.set_cons_succ]
      refine wpAnyX_take0 (i := 11) (oi := ⟨some 33, Op.nilCheck (Operand.tmp 32), 0, _, _, none⟩) (v := ?v11) rfl (by omega) (by kernel_rfl) (by kernel_rfl) (by kernel_rfl) (fun _ _ _ h => h) (Or.inl ⟨by rfl, ?y11⟩) (by assumption) ?r11
      case y11 =>
        intro W hSw
        try dsimp only at hSw
        go_simp
        try with_reducible rfl
      case r11 =>
      try simp only [Act.put, List.setIfInBounds_toArray, List.set_cons_zero, List.set_cons_succ]
      refine wpAnyX_take0 (i := 12) (oi := ⟨some 34, Op.fieldAddr 79 (Operand.tmp 33) 0, 0, _, _, none⟩) (v := ?v12) rfl (by omega) (by kernel_rfl) (by kernel_rfl) (by kernel_rfl) (fun _ _ _ h => h) (Or.inl ⟨by rfl, ?y12⟩) (by assumption) ?r12
      case y12 =>
        intro W hSw
        try dsimp only at hSw
        go_simp
        try with_reducible rfl
      case r12 =>
      try simp only [Act.put, List.setIfInBounds_toArray, List.set_cons_zero, List.set_cons_succ]
      refine wpAnyX_take (i := 13) (oi := ⟨some 35, Op.load 30 (Operand.tmp 34), 30, _, _, none⟩) (v := ?v13) rfl (by omega) (by kernel_rfl) (by kernel_rfl) (by kernel_rfl) (by kernel_rfl) (by kernel_rfl) (fun _ _ _ h => h) (Or.inl ⟨by rfl, ?y13⟩) (by assumption) ?r13
      case y13 =>
        intro W hSw
        try dsimp only at hSw
        go_simp
        try with_reducible rfl
      case r13 =>
      try simp only [Act.put, List.setIfInBounds_toArray, List.set_cons_zero, List.set_cons_succ]
      refine wpAnyX_take (i := 14) (oi := ⟨some 36, Op.call { callee := Callee.builtin Builtin.len, args := #[Operand.tmp 35], argTypes := #[30] }, 3, _, _, none⟩) (v := ?v14) rfl (by omega) (by kernel_rfl) (by kernel_rfl) (by kernel_rfl) (by kernel_rfl) (by kernel_rfl) (fun _ _ _ h => h) (Or.inl ⟨by rfl, ?y14⟩) (by assumption) ?r14
      case y14 =>
        intro W hSw
        try dsimp only at hSw
        go_simp
        try with_reducible rfl
      case r14 =>
      try simp only [Act.put, List.setIfInBounds_toArray, List.set_cons_zero, List.set_cons_succ]
      refine wpAnyX_take0 (i := 15) (oi := ⟨some 37, Op.slice 30 (Operand.tmp 26) none (some (Operand.tmp 31)) (some (Operand.tmp 36)), 30, _, _, none⟩) (v := ?v15) rfl (by omega) (by kernel_rfl) (by kernel_rfl) (by kernel_rfl) (fun _ _ _ h => h) (Or.inl ⟨by rfl, ?y15⟩) (by assumption) ?r15
      case y15 =>
        intro W hSw
        try dsimp only at hSw
        go_simp
        try with_reducible rfl
      case r15 =>
      try simp only [Act.put, List.setIfInBounds_toArray, List.set_cons_zero, List.set_cons_succ]
      refine wpAnyX_take (i := 16) (oi := ⟨some 38, Op.load 53 (Operand.tmp 3), 53, _, _, none⟩) (v := ?v16) rfl (by omega) (by kernel_rfl) (by kernel_rfl) (by kernel_rfl) (by kernel_rfl) (by kernel_rfl) (fun _ _ _ h => h) (Or.inl ⟨by rfl, ?y16⟩) (by assumption) ?r16
      case y16 =>
        intro W hSw
        try dsimp only at hSw
        go_simp
        try with_reducible rfl
      case r16 =>
      try simp only [Act.put, List.setIfInBounds_toArray, List.set_cons_zero, List.set_cons_succ]
      refine wpAnyX_one (i := 17) (by kernel_rfl) rfl (fun K hK => ?_)
      go_simp
      refine hK.out _ _ (fun _ => ⟨hd0, e3, e4⟩) ?_
      clear hK K
      try simp only [Act.put, List.setIfInBounds_toArray, List.set_cons_zero, List.set_cons_succ]
      refine wpAnyX_one (i := 18) (by kernel_rfl) rfl (fun K hK => ?_)
      refine step_append_run rfl (.tmp 37) (.tmp 39) 30 rfl (.slice A m m) _ rfl rfl hrun ?_
      have hS6 : w6.cell? ⟨q, 0, none⟩ = some vb ∧ w6.cell? ⟨G, 0, none⟩ = some (.string f1) ∧ w6.cell? ⟨G, 1, none⟩ = some (.string f2) := ⟨k0, g1, g2⟩
      refine hK.out _ _ (fun _ => hS6) ?_
      clear hK K
      try simp only [Act.put, List.setIfInBounds_toArray, List.set_cons_zero, List.set_cons_succ]
      refine wpAnyX_take0 (i := 19) (oi := ⟨some 41, Op.nilCheck (Operand.tmp 22), 0, _, _, none⟩) (v := ?v19) rfl (by omega) (by kernel_rfl) (by kernel_rfl) (by kernel_rfl) (fun _ _ _ h => h) (Or.inl ⟨by rfl, ?y19⟩) (by assumption) ?r19
      case y19 =>
        intro W hSw
        try dsimp only at hSw
        go_simp
        try with_reducible rfl
      case r19 =>
      try simp only [Act.put, List.setIfInBounds_toArray, List.set_cons_zero, List.set_cons_succ]
      refine wpAnyX_take0 (i := 20) (oi := ⟨some 42, Op.fieldAddr 79 (Operand.tmp 41) 0, 0, _, _, none⟩) (v := ?v20) rfl (by omega) (by kernel_rfl) (by kernel_rfl) (by kernel_rfl) (fun _ _ _ h => h) (Or.inl ⟨by rfl, ?y20⟩) (by assumption) ?r20
      case y20 =>
        intro W hSw
        try dsimp only at hSw
        go_simp
        try with_reducible rfl
      case r20 =>
      try simp only [Act.put, List.setIfInBounds_toArray, List.set_cons_zero, List.set_cons_succ]
      refine wpAnyX_one (i := 21) (by kernel_rfl) rfl (fun K hK => ?_)
      go_simp
      refine hK.out _ _ (fun h => absurd h (by decide)) ?_
      clear hK K
      try simp only [Act.put, List.setIfInBounds_toArray, List.set_cons_zero, List.set_cons_succ]
      refine wpAnyX_done (by kernel_rfl) ?_ _
      go_wp2_with fail
      go_meet
      exact ⟨rfl, rfl, rfl⟩
    case rest =>
      obtain ⟨rfl, rfl, rfl⟩ := hcut
      have HT7 : Bx (Turn (Rt q ⟨fits rm T.l ++ [(f1, f2)], T.cap, T.tot + 1⟩) S w ((w6.setCell ⟨q, 0, none⟩ (.slice av nv cv)).setCell ⟨q, 2, none⟩ (.int .u64 ((T.tot + 1 : Nat) : Int)))) := ⟨by
        obtain ⟨g, hg1, hg2⟩ := HFR.out
        have hq4 := HSB.out.1
        have hqlt : q < w4.heap.size := HX4'.out.lt q hq4
        have hne : ∀ k, (Value.slice av nv cv).ownBlock = some k → some k ≠ some q := fun k hk e => by
          rw [hg1] at hk
          injection hk with hk
          injection e with e
          omega
        have hf6 : Fp S4 w4 w6 := (Fp.of_below (((Below.refl w4.heap.size w4).drew).alloc (Nat.le_refl _) (.cells #[.string f1, .string f2] 53))).then (Fp.of_grown HGR.out (by simp))
        have hf7 := hf6.then ((Fp.set S4 w6 ⟨q, 0, none⟩ (.slice av nv cv) hq4).then (Fp.set S4 _ ⟨q, 2, none⟩ (.int .u64 ((T.tot + 1 : Nat) : Int)) hq4))
        have hst1 := (HSV.out.grown (grown_set w6 q 0 (.slice av nv cv)) hne).grown (grown_set _ q 2 (.int .u64 ((T.tot + 1 : Nat) : Int))) hne
        have hokk := HX4'.out.ok
        have hsz7 : ((w6.setCell ⟨q, 0, none⟩ (.slice av nv cv)).setCell ⟨q, 2, none⟩ (.int .u64 ((T.tot + 1 : Nat) : Int))).heap.size = w6.heap.size := by simp [World.setCell]
        refine Turn.step HS4.out HG4.out ⟨fun k => S4 k ∨ (w4.heap.size ≤ k ∧ k < w6.heap.size), ⟨.slice av nv cv, ((HR6.out.set 0 _).set 2 _).congr (fun j hj => by unfold rF; match j, hj with | 0, _ => rfl | 1, _ => rfl | 2, _ => rfl), hst1, fun k hk e => hne k hk (by rw [e]), ⟨.inl hq4, fun k hk => ?_⟩, fun k hk => ?_, ⟨?_, ?_, hokk.cap, HTT.out⟩⟩, fun k hk => ?_, hf7⟩
        · have hlt := HSV.out.lt hk
          rw [hg1] at hk
          injection hk with hk
          subst hk
          exact .inr ⟨hg2, hlt⟩
        · rw [hsz7]
          rcases hk with hk | hk
          · exact Nat.lt_of_lt_of_le (HX4'.out.lt k hk) hf6.size
          · exact hk.2
        · have := hokk.len
          show (fits rm T.l ++ [(f1, f2)]).length ≤ T.tot + 1
          rw [List.length_append, List.length_singleton]
          simp only at this
          omega
        · show sizeF (fits rm T.l ++ [(f1, f2)]) ≤ _
          have := HFI.out
          rw [sizeF_append]
          have h1 := HN1.out
          simp only [sizeF]
          omega
        · rcases hk with hk | hk
          · exact .inl hk
          · exact .inr hk.1⟩
      have j2 : (w6.setCell ⟨q, 0, none⟩ (.slice av nv cv)).cell? ⟨q, 2, none⟩ = some (.int .u64 (T.tot : Int)) := (HR6.out.set 0 _).cell (i := 2) (by omega)
      have jf2 : (w6.setCell ⟨q, 0, none⟩ (.slice av nv cv)).frozen? ⟨q, 2, none⟩ = false := (HR6.out.set 0 _).frozen 2
      have hwt := HWT.out
      go_wp2
      go_ret
      rw [HAD.out]
      exact ⟨rfl, HT7.out⟩

end Go.Proofs.YtebakjdeighdnaaGreat
