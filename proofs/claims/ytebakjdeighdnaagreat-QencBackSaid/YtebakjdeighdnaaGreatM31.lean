/-
  Texts put together: QdC, QdD, QdE, QdF, QdG.
-/
import Derived.Test.YtebakjdeighdnaaGreatM27
import Derived.Deep.QuietTactic
import Derived.BigQuiet
import Derived.Deep.CutBlock
import Derived.Test.YtebakjdeighdnaaGreatM13
import Derived.Test.YtebakjdeighdnaaGreatM01

/-
  The document's one instruction of the encoder stream: an entry again; the whole.
-/
namespace Go.Proofs.YtebakjdeighdnaaGreat
open Go.RowKit Go.Maps
set_option linter.unusedVariables false

/-- What an entry again comes to. -/
def dupP (T : Tab) (b : List UInt8) : Nat × Int × Tab :=
  if (rp 5 b).2.2 ≠ 0 then (0, (rp 5 b).2.2, T)
  else if isN T.l (rp 5 b).1.toNat then (if T.cap < fsz (entN T.l (rp 5 b).1.toNat) + 32 then (0, 26, T) else ((rp 5 b).2.1.toNat, 0, T.add (entN T.l (rp 5 b).1.toNat)))
  else (0, 26, T)
section
variable {q t mx : Nat} {T : Tab} {S1 : Nat → Prop} {w wx : World} {bV : Value} {b : List UInt8} {G : Nat}
set_option maxRecDepth 100000 in
set_option maxHeartbeats 40000000 in
/-- An entry again. -/
theorem dup_any (ac : Act) (hA : Aw ac q G (headN b) bV) (hO : Oi q t mx T S1 w bV b) (hb : Below w.heap.size w wx) :
    Code.wp Tryz.prog (ostmt 4) (Kx (fun _ _ => False) (OneR t S1 w (dupP T b)) (fun _ _ _ => False)) ac wx := by
  have HO := Bx.mk hO
  have HB := Bx.mk hb
  have hcall := refReadPrefix_any bV b 5 wx (hO.bs wx (Fp.of_below hb)) (by have := hO.len; omega)
  rw [show bitsOf 5 = 5 from rfl] at hcall
  obtain ⟨c0, c1⟩ := hO.hd wx (Fp.of_below hb)
  obtain ⟨x, hx⟩ : ∃ x, dupP T b = x := ⟨_, rfl⟩
  rw [hx]
  obtain ⟨u, hu, hac⟩ := oframe ac hA.z hA.d
  have h0 := (hu 0).symm.trans hA.t0
  have h1 := (hu 1).symm.trans hA.t1
  have h6 := (hu 6).symm.trans hA.t6
  have h7 := (hu 7).symm.trans hA.t7
  rw [hac]
  clear hac hA
  rw [h0, h1, h6, h7]
  clear h0 h1 h6 h7 hu
  conv => arg 2; whnf
  rcases rp_cases 5 b with hr | hr | ⟨n, m, hr, hm1, hm2, hn⟩
  · have HX : Bx (x = (0, 20, T)) := ⟨by rw [← hx]; unfold dupP; rw [hr]; simp⟩
    rw [hr] at hcall
    unfold Ans3 at hcall
    simp only at hcall
    have HCALL := Bx.mk hcall
    clear hcall hO hb hr hx
    go_wp2_with (go_at_call 47; refine HCALL.out.mono ?_; rintro r w2 ⟨rfl, rfl⟩)
    refine Kx.ret ?_
    rw [HX.out]
    exact ⟨rfl, rfl, rfl, (Wd.rt t T).turned HO.out.rt HB.out⟩
  · have HX : Bx (x = (0, 21, T)) := ⟨by rw [← hx]; unfold dupP; rw [hr]; simp⟩
    rw [hr] at hcall
    unfold Ans3 at hcall
    simp only at hcall
    have HCALL := Bx.mk hcall
    clear hcall hO hb hr hx
    go_wp2_with (go_at_call 47; refine HCALL.out.mono ?_; rintro r w2 ⟨rfl, rfl⟩)
    refine Kx.ret ?_
    rw [HX.out]
    exact ⟨rfl, rfl, rfl, (Wd.rt t T).turned HO.out.rt HB.out⟩
  · have hn64 : n < 18446744073709551616 := by unfold maxVar at hn; omega
    obtain ⟨eb, heb⟩ : ∃ eb, entN T.l n = eb := ⟨_, rfl⟩
    obtain ⟨ib, hib⟩ : ∃ ib, isN T.l n = ib := ⟨_, rfl⟩
    have HX : Bx (x = if ib then (if T.cap < fsz eb + 32 then (0, 26, T) else (m, 0, T.add eb)) else (0, 26, T)) := ⟨by rw [← hx]; unfold dupP; rw [hr]; simp [heb, hib]⟩
    rw [hr] at hcall
    unfold Ans3 at hcall
    simp only at hcall
    have HCALL := Bx.mk hcall
    have hnew := refNewest_any ((Wd.rt t T).keep hO.rt hb) n hn64
    rw [heb, hib] at hnew
    unfold aggF at hnew
    have HNEW := Bx.mk hnew
    have HSZE := Bx.mk (entN_name (T := T) (i := n) hO.size)
    rw [heb] at HSZE
    obtain ⟨f1, f2⟩ := eb
    simp only at HNEW
    clear hcall hO hb hr hx hm1 hm2 hn hn64 heb hib hnew
    go_upto_region 8 with (first
      | (go_at_call 47; refine HCALL.out.mono ?_; rintro r w2 ⟨rfl, rfl⟩)
      | (go_at_call 63; refine HNEW.out.mono ?_; rintro r w3 ⟨rfl, b3⟩; have HB3 := Bx.mk (below_next HB.out b3); clear b3))
    obtain ⟨G2, hG2⟩ : ∃ G2, w3.heap.size = G2 := ⟨_, rfl⟩
    obtain ⟨w4, hw4⟩ : ∃ w4, w3.alloc (.cells #[.string f1, .string f2] 53) = w4 := ⟨_, rfl⟩
    have HB4 : Bx (Below w.heap.size w w4) := ⟨by rw [← hw4]; exact below_next HB3.out ((Below.refl _ _).alloc (Nat.le_refl _) _)⟩
    have HF4 : Bx (Fb 53 w4 G2 (f1, f2)) := ⟨by rw [← hw4, ← hG2]; exact Fb.new _ w3 (f1, f2)⟩
    rw [hw4, hG2]
    clear hw4 hG2 c0 c1 HCALL HNEW
    have HHD : Bx (∀ W, Below w.heap.size w W → W.cell? ⟨q, 0, none⟩ = some (.pointer (some ⟨t, 0, none⟩)) ∧ W.cell? ⟨t, 1, none⟩ = some (.int .i64 (T.cap : Int))) := ⟨fun W hW => by
      obtain ⟨v, _, cc, _, _, _⟩ := ((Wd.rt t T).keep HO.out.rt hW).cells
      exact ⟨(HO.out.hd W (Fp.of_below hW)).1, cc⟩⟩
    cases ib with
    | false =>
      have HXX : Bx (x = (0, 26, T)) := ⟨by rw [HX.out]; simp⟩
      go_quiet (fail)
      go_wp2_with fail
      refine Kx.ret ?_
      rw [HXX.out]
      exact ⟨rfl, rfl, rfl, (Wd.rt t T).turned HO.out.rt (below_drewN HB4.out _)⟩
    | true =>
      obtain ⟨cap, hcap⟩ : ∃ cap, T.cap = cap := ⟨_, rfl⟩
      obtain ⟨nz, hnz⟩ : ∃ nz, fsz (f1, f2) + 32 = nz := ⟨_, rfl⟩
      rw [hcap] at HHD
      have HCN := Bx.mk (And.intro hcap hnz)
      have HRD : Bx (∀ W, Below w4.heap.size w4 W → W.cell? ⟨q, 0, none⟩ = some (.pointer (some ⟨t, 0, none⟩)) ∧ W.cell? ⟨t, 1, none⟩ = some (.int .i64 (cap : Int)) ∧ W.cell? ⟨G2, 0, none⟩ = some (.string f1) ∧ W.cell? ⟨G2, 1, none⟩ = some (.string f2)) := ⟨fun W hW => by
        obtain ⟨a1, a2⟩ := HHD.out W (below_next HB4.out hW)
        obtain ⟨a3, a4⟩ := (HF4.out.keep hW).cells
        exact ⟨a1, a2, a3, a4⟩⟩
      have hb5 : Below w4.heap.size w4 (w4.drew.alloc (.cells #[.string f1, .string f2] 53)) := (Below.refl _ _).drew.alloc (Nat.le_refl _) _
      have HB5 := Bx.mk hb5
      have HSIZE : Bx (Calls Tryz.prog 66 #[.slice (some ⟨w4.heap.size, 0, none⟩) 1 1] (w4.drew.alloc (.cells #[.string f1, .string f2] 53)) fun e w' => e = .returned (.int .i64 (nz : Int)) ∧ Below (w4.drew.alloc (.cells #[.string f1, .string f2] 53)).heap.size (w4.drew.alloc (.cells #[.string f1, .string f2] 53)) w') := ⟨by
        have h := refSize_any _ [(f1, f2)] _ (Fs.one w4.drew _ rfl (f1, f2)) (by have := HSZE.out; simp only [sizeF, fsz]; omega)
        rw [show sizeF [(f1, f2)] = nz by rw [← HCN.out.2]; simp [sizeF]] at h
        exact h⟩
      have hS0 := HRD.out w4.drew (Below.refl _ _).drew
      have hS1 := HRD.out _ hb5
      obtain ⟨CP, hCP⟩ := letter cap
      obtain ⟨NZ, hNZ⟩ := letter nz
      simp only [hCP] at HRD hS0 hS1
      simp only [hNZ] at HSIZE
      obtain ⟨zz, hzz⟩ : ∃ zz, decide (CP < NZ) = zz := ⟨_, rfl⟩
      have HZZ : Bx (zz = decide (cap < nz)) := ⟨by rw [← hzz, decide_eq_decide]; omega⟩
      clear hb5 hCP hNZ hcap hnz
      go_region_held (fun W => W.cell? ⟨q, 0, none⟩ = some (.pointer (some ⟨t, 0, none⟩)) ∧ W.cell? ⟨t, 1, none⟩ = some (.int .i64 CP) ∧ W.cell? ⟨G2, 0, none⟩ = some (.string f1) ∧ W.cell? ⟨G2, 1, none⟩ = some (.string f2)) (first | assumption) (first
        | (go_at_call 66; refine (HSIZE.out).mono ?_; rintro r w6 ⟨rfl, b6⟩; have HB6 := Bx.mk (below_next HB5.out b6); have hS6 := HRD.out w6 HB6.out))
      clear hS0 hS1
      obtain ⟨e0, e1, e2, e3⟩ := hS6
      have HBW := Bx.mk (below_next HB4.out HB6.out)
      cases zz with
      | true =>
        have hlt : cap < nz := of_decide_eq_true HZZ.out.symm
        have HTR := Bx.mk ((Wd.rt t T).turned HO.out.rt HBW.out)
        have HXX : Bx (x = (0, 26, T)) := ⟨by rw [HX.out, HCN.out.1, HCN.out.2, if_pos hlt]; simp⟩
        clear hlt HSIZE HRD
        go_wp2_with fail
        refine Kx.ret ?_
        rw [HXX.out]
        exact ⟨rfl, rfl, rfl, HTR.out⟩
      | false =>
        have hlt : ¬ cap < nz := of_decide_eq_false HZZ.out.symm
        have HXX : Bx (x = (m, 0, T.add (f1, f2))) := ⟨by rw [HX.out, HCN.out.1, HCN.out.2, if_neg hlt]; simp⟩
        have HADD : Bx (Calls Tryz.prog 44 #[.pointer (some ⟨t, 0, none⟩), .agg #[.string f1, .string f2]] w6.drew fun r w' => (∃ x, r = .returned x) ∧ Turn (Rt t (T.add (f1, f2))) S1 w w') := ⟨by
          have hbb := HBW.out.trans (((Below.refl w6.heap.size w6).drew).mono HBW.out.size)
          refine (refAdd_any ((Wd.rt t T).keep HO.out.rt hbb) (f1, f2) (by have := HCN.out; have := HO.out.rt.ok.cap; omega) HO.out.tot).mono ?_
          rintro r w' ⟨rfl, ht⟩
          exact ⟨⟨_, rfl⟩, Turn.before hbb ht⟩⟩
        clear hlt HSIZE HRD e1
        go_wp2_with fail
        go_region_with (first
          | (go_at_call 44; refine (HADD.out).mono ?_; rintro r w9 ⟨⟨r9, rfl⟩, h9⟩; have HT9 := Bx.mk h9))
        all_goals go_wp2_with fail
        all_goals refine Kx.ret ?_
        all_goals rw [HXX.out]
        all_goals exact ⟨rfl, rfl, rfl, HT9.out⟩
end
end Go.Proofs.YtebakjdeighdnaaGreat

/-
  Contract of the document's one instruction of the encoder stream.
-/
namespace Go.Proofs.YtebakjdeighdnaaGreat
open Go.RowKit Go.Maps
set_option linter.unusedVariables false

section
variable {q t mx : Nat} {T : Tab} {S1 : Nat → Prop} {w wx : World} {bV : Value} {b : List UInt8} {G : Nat}
/-- What it comes to. -/
def OneP (t : Nat) (S1 : Nat → Prop) (w : World) (x : Nat × Int × Tab) (e : Ending) (w' : World) : Prop := e = .returned (.tuple #[.int .i64 (x.1 : Int), .int .i64 x.2.1]) ∧ Turn (Rt t x.2.2) S1 w w'
theorem OneR.post {x : Nat × Int × Tab} {ac : Act} {w' : World} (h : OneR t S1 w x ac w') : OneP t S1 w x (.returned (.tuple #[ac.tmps.getD 4 undef, ac.tmps.getD 5 undef])) w' := ⟨by rw [h.2.1, h.2.2.1], h.2.2.2⟩
set_option maxRecDepth 100000 in
set_option maxHeartbeats 40000000 in
theorem one_any8 (hO : Oi q t mx T S1 w bV b) (hne : b ≠ []) :
    Calls Tryz.prog 28 #[.pointer (some ⟨q, 0, none⟩), bV] w fun e w' => OneP t S1 w (insP mx T b) e w' := by
  have HO := Bx.mk hO
  obtain ⟨c, r, rfl⟩ : ∃ c r, b = c :: r := by cases b with
    | nil => exact absurd rfl hne
    | cons c r => exact ⟨c, r, rfl⟩
  have hc256 := c.toNat_lt
  obtain ⟨p, hix, hcp⟩ := (hO.bs w (Fp.refl _ _)).at_ 0 (by simp)
  have hcell := hcp w (hO.bs w (Fp.refl _ _))
  simp only [List.getElem_cons_zero] at hcell
  have hix0 : ∀ W : World, (Instr.indexAt 23 bV (.int .i64 0)).run Tryz.prog W = .ok (.pointer (some p)) W := hix
  have HHN : Bx (headN (c :: r) = c.toNat) := ⟨rfl⟩
  obtain ⟨w1, hw1⟩ : ∃ w1, w.alloc (.cells #[.string ⟨#[]⟩, .string ⟨#[]⟩] 53) = w1 := ⟨_, rfl⟩
  obtain ⟨G, hG⟩ : ∃ G, w.heap.size = G := ⟨_, rfl⟩
  have HB1 : Bx (Below w.heap.size w w1) := ⟨by rw [← hw1]; exact (Below.refl _ _).alloc (Nat.le_refl _) _⟩
  have HF1 : Bx (Fb 53 w1 G (⟨#[]⟩, ⟨#[]⟩)) := ⟨by rw [← hw1, ← hG]; exact Fb.new _ w (⟨#[]⟩, ⟨#[]⟩)⟩
  have HGG : Bx (w.heap.size ≤ G) := ⟨by omega⟩
  obtain ⟨q1, q2, q3, q4, q5, q6⟩ := qmask c.toNat hc256
  obtain ⟨C, hC⟩ := letter c.toNat
  rw [hC] at hcell
  obtain ⟨k1, hk1⟩ : ∃ k1, c.toNat &&& 128 = k1 := ⟨_, rfl⟩
  obtain ⟨k2, hk2⟩ : ∃ k2, c.toNat &&& 64 = k2 := ⟨_, rfl⟩
  obtain ⟨k3, hk3⟩ : ∃ k3, c.toNat &&& 32 = k3 := ⟨_, rfl⟩
  obtain ⟨K1, hK1⟩ := letter k1
  obtain ⟨K2, hK2⟩ := letter k2
  obtain ⟨K3, hK3⟩ := letter k3
  have hb1 : bits .and .u8 C 128 = K1 := by rw [← hC, ← hK1, ← hk1]; exact u8_and_nat _ 128 (by omega) (by decide)
  have hb2 : bits .and .u8 C 64 = K2 := by rw [← hC, ← hK2, ← hk2]; exact u8_and_nat _ 64 (by omega) (by decide)
  have hb3 : bits .and .u8 C 32 = K3 := by rw [← hC, ← hK3, ← hk3]; exact u8_and_nat _ 32 (by omega) (by decide)
  rw [hk1] at q1 q2
  rw [hk2] at q3 q4
  rw [hk3] at q5 q6
  obtain ⟨z1, hz1⟩ : ∃ z, (K1 != 0) = z := ⟨_, rfl⟩
  obtain ⟨z2, hz2⟩ : ∃ z, (K2 != 0) = z := ⟨_, rfl⟩
  obtain ⟨z3, hz3⟩ : ∃ z, (K3 != 0) = z := ⟨_, rfl⟩
  have Z1 : Bx (z1 = decide (128 ≤ c.toNat)) := ⟨by
    rw [← hz1]
    by_cases h : 128 ≤ c.toNat
    · have := q1 h; rw [decide_eq_true h, bne_iff_ne]; omega
    · have := q2 (by omega); rw [decide_eq_false h, bne_eq_false_iff_eq]; omega⟩
  have Z2 : Bx (c.toNat < 128 → z2 = decide (64 ≤ c.toNat)) := ⟨fun h128 => by
    rw [← hz2]
    by_cases h : 64 ≤ c.toNat
    · have := q4 (.inr ⟨h, h128⟩); rw [decide_eq_true h, bne_iff_ne]; omega
    · have := q3 (.inr (by omega)); rw [decide_eq_false h, bne_eq_false_iff_eq]; omega⟩
  have Z3 : Bx (c.toNat < 64 → z3 = decide (32 ≤ c.toNat)) := ⟨fun h64 => by
    rw [← hz3]
    by_cases h : 32 ≤ c.toNat
    · have := q6 ⟨h, h64⟩; rw [decide_eq_true h, bne_iff_ne]; omega
    · have := q5 (by omega); rw [decide_eq_false h, bne_eq_false_iff_eq]; omega⟩
  have HC256 := Bx.mk hc256
  have HCC := Bx.mk (show ((headN (c :: r) : Nat) : Int) = C from hC)
  have HTN : Bx (∀ (ac2 : Act) (w2 : World), Tn q G T w bV (c :: r) (insP mx T (c :: r)) ac2 w2 → Code.wp Tryz.prog (ofrom 35) (Kx (fun _ _ => False) (OneR t S1 w (insP mx T (c :: r))) (fun _ _ _ => False)) ac2 w2) := ⟨fun ac2 w2 h => by
    obtain ⟨k, name, hA, hF, hb, hk, hs, hx⟩ := h
    rw [hx]
    exact tailO_any ac2 hA HO.out hb HGG.out hF hk hs⟩
  have XA : Bx (128 ≤ c.toNat → insP mx T (c :: r) = placeP T (c :: r)) := ⟨fun h => by unfold insP placeP; rw [if_pos (show 128 ≤ headN (c :: r) from h)]⟩
  have XB : Bx (c.toNat < 128 → 64 ≤ c.toNat → insP mx T (c :: r) = if (sb 5 (c :: r)).2.2 ≠ 0 then (0, (sb 5 (c :: r)).2.2, T) else tailP T (bstr (sb 5 (c :: r)).1) (sb 5 (c :: r)).2.1.toNat (c :: r)) := ⟨fun h h2 => by unfold insP; rw [if_neg (show ¬ 128 ≤ headN (c :: r) from by show ¬ 128 ≤ c.toNat; omega), if_pos (show 64 ≤ headN (c :: r) from h2)]⟩
  have XC : Bx (c.toNat < 64 → 32 ≤ c.toNat → insP mx T (c :: r) = if (rp 5 (c :: r)).2.2 ≠ 0 then (0, (rp 5 (c :: r)).2.2, T) else if mx < (rp 5 (c :: r)).1.toNat then (0, 26, T) else ((rp 5 (c :: r)).2.1.toNat, 0, T.resize (rp 5 (c :: r)).1)) := ⟨fun h h2 => by unfold insP; rw [if_neg (show ¬ 128 ≤ headN (c :: r) from by show ¬ 128 ≤ c.toNat; omega), if_neg (show ¬ 64 ≤ headN (c :: r) from by show ¬ 64 ≤ c.toNat; omega), if_pos (show 32 ≤ headN (c :: r) from h2)]⟩
  have XD : Bx (c.toNat < 32 → insP mx T (c :: r) = dupP T (c :: r)) := ⟨fun h => by unfold insP dupP; rw [if_neg (show ¬ 128 ≤ headN (c :: r) from by show ¬ 128 ≤ c.toNat; omega), if_neg (show ¬ 64 ≤ headN (c :: r) from by show ¬ 64 ≤ c.toNat; omega), if_neg (show ¬ 32 ≤ headN (c :: r) from by show ¬ 32 ≤ c.toNat; omega)]⟩
  clear hO hne hcp hix hC hk1 hk2 hk3 hK1 hK2 hK3 q1 q2 q3 q4 q5 q6 hc256
  go_enter Tryz.func28, Tryz.ntmps28
  go_upto_block 0 with fail
  rename_i hKq
  refine wp_block ?_
  cases z1 with
  | true =>
    have h1 : 128 ≤ c.toNat := of_decide_eq_true Z1.out.symm
    have HP := Bx.mk (fun ac hA => place_any (q := q) (t := t) (mx := mx) (T := T) (S1 := S1) (w := w) (wx := w1) (bV := bV) (b := c :: r) (G := G) ac hA HO.out HB1.out HGG.out HF1.out h1 HC256.out)
    rw [← XA.out h1] at HP
    clear h1 hz2 hz3 Z2 Z3 hb2 hb3
    go_upto_if 71 with fail
    refine wp_cond_true rfl ?_
    refine Kx.use (HP.out _ ⟨rfl, rfl, rfl, rfl, by rw [HCC.out]; rfl, rfl⟩) ?_ ?_ ?_
    · intro a2 w2 h
      refine hKq _ _ ?_
      refine Kx.use (HTN.out a2 w2 h) ?_ ?_ ?_
      · intro a3 w3 h; exact h.elim
      · intro a3 w3 h; exact ⟨h.1, _, results_tmp2 Tryz.results28 _ _ _, h.post⟩
      · intro i a3 w3 h; exact h.elim
    · intro a3 w3 h; exact ⟨h.1, _, results_tmp2 Tryz.results28 _ _ _, h.post⟩
    · intro i a2 w2 h; exact h.elim
  | false =>
    have h1 : c.toNat < 128 := by have := of_decide_eq_false Z1.out.symm; omega
    cases z2 with
    | true =>
      have h2 : 64 ≤ c.toNat := of_decide_eq_true (Z2.out h1).symm
      have HP := Bx.mk (fun ac hA => namedq_any (q := q) (t := t) (mx := mx) (T := T) (S1 := S1) (w := w) (wx := w1) (bV := bV) (b := c :: r) (G := G) ac hA HO.out HB1.out HGG.out HF1.out)
      rw [← XB.out h1 h2] at HP
      clear h1 h2 hz3 Z3 hb3
      go_upto_if 108 with fail
      refine wp_cond_true rfl ?_
      refine Kx.use (HP.out _ ⟨rfl, rfl, rfl, rfl, by rw [HCC.out]; rfl, rfl⟩) ?_ ?_ ?_
      · intro a2 w2 h
        refine hKq _ _ ?_
        refine Kx.use (HTN.out a2 w2 h) ?_ ?_ ?_
        · intro a3 w3 h; exact h.elim
        · intro a3 w3 h; exact ⟨h.1, _, results_tmp2 Tryz.results28 _ _ _, h.post⟩
        · intro i a3 w3 h; exact h.elim
      · intro a3 w3 h; exact ⟨h.1, _, results_tmp2 Tryz.results28 _ _ _, h.post⟩
      · intro i a2 w2 h; exact h.elim
    | false =>
      have h2 : c.toNat < 64 := by have := of_decide_eq_false (Z2.out h1).symm; omega
      cases z3 with
      | true =>
        have h3 : 32 ≤ c.toNat := of_decide_eq_true (Z3.out h2).symm
        have HP := Bx.mk (fun ac hA => capq_any (q := q) (t := t) (mx := mx) (T := T) (S1 := S1) (w := w) (wx := w1) (bV := bV) (b := c :: r) (G := G) ac hA HO.out HB1.out)
        rw [← XC.out h2 h3] at HP
        clear h1 h2 h3
        go_upto_if 124 with fail
        refine wp_cond_true rfl ?_
        refine Kx.use (HP.out _ ⟨rfl, rfl, rfl, rfl, by rw [HCC.out]; rfl, rfl⟩) ?_ ?_ ?_
        · intro a2 w2 h; exact h.elim
        · intro a3 w3 h; exact ⟨h.1, _, results_tmp2 Tryz.results28 _ _ _, h.post⟩
        · intro i a2 w2 h; exact h.elim
      | false =>
        have h3 : c.toNat < 32 := by have := of_decide_eq_false (Z3.out h2).symm; omega
        have HP := Bx.mk (fun ac hA => dup_any (q := q) (t := t) (mx := mx) (T := T) (S1 := S1) (w := w) (wx := w1) (bV := bV) (b := c :: r) (G := G) ac hA HO.out HB1.out)
        rw [← XD.out h3] at HP
        clear h1 h2 h3
        go_upto_if 124 with fail
        refine wp_cond_false rfl ?_
        refine Kx.use (HP.out _ ⟨rfl, rfl, rfl, rfl, by rw [HCC.out]; rfl, rfl⟩) ?_ ?_ ?_
        · intro a2 w2 h; exact h.elim
        · intro a3 w3 h; exact ⟨h.1, _, results_tmp2 Tryz.results28 _ _ _, h.post⟩
        · intro i a2 w2 h; exact h.elim
end
end Go.Proofs.YtebakjdeighdnaaGreat

/-
  Bytes that are appended to a slice cut tight; the document's decoder as a word; its making.
-/
namespace Go.Proofs.YtebakjdeighdnaaGreat
open Go.RowKit Go.Maps
set_option linter.unusedVariables false

theorem infoB8 : ∃ i z, Tryz.prog.info? 5 = some i ∧ i.zero = some z ∧ z.cells.size = 1 ∧ i.size = 1 ∧ i.bytes = 1 := by
  obtain ⟨i0, hi, hz, hz1, hz2⟩ := info_parts infoU8n
  exact ⟨i0, _, hi, hz, rfl, hz1, hz2⟩
/-- append(v[:n:n], b...) -/
theorem bs_push {w : World} {vR : Value} {rest : List UInt8} (h : Bs w vR rest) (hl : rest.length ≤ 100000) :
    ∃ A, (∀ W : World, (Instr.slice 23 vR none (some (.int .i64 (rest.length : Int))) (some (.int .i64 (rest.length : Int)))).run Tryz.prog W = .ok (.slice A rest.length rest.length) W) ∧
      ∀ (W : World) (bV : Value) (b : List UInt8) (ty : TypeId) (S2 : Nat → Prop), Ob (fun W => Bs W vR rest) W S2 → Bs W bV b → b.length ≤ 100000 →
        ∃ v' w', (Builtin.append_ #[23, 23] ty #[.slice A rest.length rest.length, bV]).run Tryz.prog W = .ok v' w' ∧ Below W.heap.size W w' ∧
          ∃ S3, Ob (fun W => Bs W v' (rest ++ b)) w' S3 ∧ ∀ k, S3 k → S2 k ∨ W.heap.size ≤ k := by
  obtain ⟨A, n, c, rfl, hn, h1, h2, h3, h4⟩ := h.open_
  have hnl : n = rest.length := hn.out
  subst hnl
  have hs : sliced A 0 rest.length rest.length 1 = .slice A rest.length rest.length := by
    have hA : (if rest.length = 0 then A else A.map (·.add (0 * 1))) = A := by
      split
      · rfl
      · cases A with
        | none => rfl
        | some x => simp [Addr.add]
    unfold sliced
    rw [hA]
    rfl
  have htight : ∀ W, Bs W (.slice A rest.length c) rest → Bs W (.slice A rest.length rest.length) rest := fun W hW => by
    obtain ⟨A', c', e, r1, r2, r3⟩ := hW
    injection e with e1 e2 e3
    subst e1; subst e3
    refine ⟨A, rest.length, by rw [List.length_map], by rw [List.length_map]; omega, by unfold maxLen; omega, ?_⟩
    rcases r3 with ⟨rfl, hc⟩ | ⟨x, rfl, hx⟩
    · exact .inl ⟨rfl, by omega⟩
    · exact .inr ⟨x, rfl, hx⟩
  refine ⟨A, fun W => ?_, ?_⟩
  · rw [run_slice_hm W 23 A rest.length c elemB .i64 .i64 (rest.length : Int) (rest.length : Int) (by omega) (by omega) (by omega), sizeB]
    simp only [Result.andThen, Int.toNat_natCast, hs]
  · intro W bV b ty S2 hob hb hbl
    obtain ⟨i, z, i1, i2, i3, i4, i5⟩ := infoB8
    have hW := hob.get
    have hbl2 : (b.map bv).length = b.length := by simp
    have hrl : (rest.map bv).length = rest.length := by simp
    obtain ⟨Au, cu, rfl, c1, c2, c3⟩ := hb
    rw [hbl2] at *
    by_cases hb0 : b = []
    · subst hb0
      have hrun : ∃ v', (Builtin.append_ #[23, 23] ty #[.slice A rest.length rest.length, .slice Au 0 cu]).run Tryz.prog W = .ok v' W ∧ v' = .slice A rest.length rest.length := by
        obtain ⟨A', c', e, r1, r2, r3⟩ := hW
        injection e with e1 e2 e3
        subst e1; subst e3
        refine ⟨_, ?_, rfl⟩
        rcases r3 with ⟨rfl, hc⟩ | ⟨x, rfl, _⟩
        · have : rest.length = 0 := by omega
          rcases c3 with ⟨rfl, hc2⟩ | ⟨y, rfl, _⟩ <;> simp [Builtin.append_, run_underlying Tryz.underlying23, sizeOf, typeInfo, i1, Builtin.lenOf, Builtin.firstCells, this, loadCells, loadCellsFrom]
        · rcases c3 with ⟨rfl, hc2⟩ | ⟨y, rfl, _⟩ <;> simp [Builtin.append_, run_underlying Tryz.underlying23, sizeOf, typeInfo, i1, Builtin.lenOf, Builtin.firstCells, storeCells, loadCells, loadCellsFrom]
      obtain ⟨v', hr, rfl⟩ := hrun
      exact ⟨_, W, hr, Below.refl _ _, S2, hob.map fun W' h' => by rw [List.append_nil]; exact htight W' h', fun k hk => .inl hk⟩
    · have hbpos : 0 < b.length := List.length_pos_iff.2 hb0
      obtain ⟨x, rfl, hx⟩ : ∃ x, Au = some x ∧ ∀ j u, (b.map bv)[j]? = some u → W.cell? (x.add j) = some u := by
        rcases c3 with ⟨_, hc2⟩ | ⟨x, e, hx⟩
        · omega
        · exact ⟨x, e, hx⟩
      have hfin : ∀ v' w', w'.ownsRow W.heap.size 5 1 v' (rest.length + b.length) (rest.map bv ++ b.map bv) → Ob (fun W => Bs W v' (rest ++ b)) w' (fun g => v'.ownBlock = some g) := fun v' w' hown => (Ob.own hown).map fun W' h' => by
        have : Rn 1 W' v' ((rest ++ b).map bv).length ((rest ++ b).map bv) := by rw [List.length_map, List.length_append, List.map_append]; exact h'
        exact Rd.of_rn this
      obtain ⟨A', c', e, r1, r2, r3⟩ := hW
      injection e with e1 e2 e3
      subst e1; subst e3
      rcases r3 with ⟨rfl, hc⟩ | ⟨y, rfl, hy⟩
      · have h0 : rest.length = 0 := by omega
        obtain rfl : rest = [] := List.eq_nil_of_length_eq_zero h0
        obtain ⟨v', w', hrun, q1, q2, _⟩ := run_append_own (P := Tryz.prog) W W.heap.size 23 ty 5 i z 1 1 Tryz.underlying23 i1 i2 i4 i5 i3 (by omega) (.slice none 0 0) 0 [] (World.ownsRow_nil W _ _ _) x b.length cu (b.map bv) (by simp) hx one_bv (by unfold maxLen; omega) (by omega) (Nat.le_refl _)
        exact ⟨v', w', hrun, (Below.refl _ _).grown q2 (Nat.le_refl _) (by simp [Value.ownBlock]), _, hfin v' w' q1, fun k hk => .inr (q1.lt k hk).1⟩
      · obtain ⟨v', w', hrun, q1, q2⟩ := run_append_arg_grows (P := Tryz.prog) W 23 ty 5 i z 1 1 Tryz.underlying23 i1 i2 i4 i5 i3 (by omega) y rest.length rest.length (rest.map bv) (by simp) hy x b.length cu (b.map bv) (by simp) hx (by omega) (by unfold maxLen; omega) (by omega)
        exact ⟨v', w', hrun, (Below.refl _ _).grown q2 (Nat.le_refl _) (by simp), _, hfin v' w' q1, fun k hk => .inr (q1.lt k hk).1⟩

/-! ### the decoder -/
/-- A row of bytes of its own, by its block. -/
def Owb (v : Value) (l : List UInt8) : Wx := fun w S => OwB w 0 v l ∧ ∀ k, S k ↔ v.ownBlock = some k
theorem Wd.owb (v : Value) (l : List UInt8) : Wd (Owb v l) := by
  constructor
  · rintro w S ⟨h1, h2⟩ k hk
    exact h1.lt ((h2 k).1 hk)
  · rintro w w' S ⟨h1, h2⟩ hs hb
    exact ⟨h1.kept fun k hk => hb k ((h2 k).2 hk), h2⟩
/-- The decoder behind the pointer to block q, its table at block t; no stream waits. -/
def D8 (q t : Nat) (T : Tab) (mx B : Nat) (rest out : List UInt8) (told : Nat) : Wx := fun w S => ∃ vR vO, Hd q 68 8 (d8F t mx B vR false (.slice none 0 0) vO told) (Both (Rt t T) (Both (Ob fun W => Bs W vR rest) (Owb vO out))) w S
section
variable {q t : Nat} {T T' : Tab} {mx B told : Nat} {rest out : List UInt8} {w w' : World} {S : Nat → Prop}
theorem Wd.d8 (q t : Nat) (T : Tab) (mx B : Nat) (rest out : List UInt8) (told : Nat) : Wd (D8 q t T mx B rest out told) := by
  have hX : ∀ vR vO, Wd (Hd q 68 8 (d8F t mx B vR false (.slice none 0 0) vO told) (Both (Rt t T) (Both (Ob fun W => Bs W vR rest) (Owb vO out)))) := fun vR vO => ((Wd.rt t T).both ((Wd.ob _).both (Wd.owb _ _))).hd
  constructor
  · rintro w S ⟨vR, vO, h⟩ k hk
    exact (hX vR vO).lt h k hk
  · rintro w w' S ⟨vR, vO, h⟩ hs hb
    exact ⟨vR, vO, (hX vR vO).kept h hs hb⟩
theorem D8.open_ (h : D8 q t T mx B rest out told w S) : ∃ vR vO S1 S2 S3, w.rowIs q 68 8 (d8F t mx B vR false (.slice none 0 0) vO told) ∧ Rt t T w S1 ∧ Ob (fun W => Bs W vR rest) w S2 ∧ Owb vO out w S3 ∧
    (∀ k, S1 k → ¬ S2 k ∧ ¬ S3 k) ∧ (∀ k, S2 k → ¬ S3 k) ∧ ¬ S1 q ∧ ¬ S2 q ∧ ¬ S3 q ∧ ∀ k, S k ↔ S1 k ∨ S2 k ∨ S3 k ∨ k = q := by
  obtain ⟨vR, vO, S', h1, ⟨S1, S4, a, ⟨S2, S3, b, c, d, e⟩, f, g⟩, h3, h4⟩ := h
  exact ⟨vR, vO, S1, S2, S3, h1, a, b, c, fun k hk => ⟨fun hs => f k hk ((e k).2 (.inl hs)), fun hs => f k hk ((e k).2 (.inr hs))⟩, d, fun h => h3 ((g q).2 (.inl h)), fun h => h3 ((g q).2 (.inr ((e q).2 (.inl h)))), fun h => h3 ((g q).2 (.inr ((e q).2 (.inr h)))),
    fun k => by rw [h4 k, g k, e k]; simp only [or_assoc]⟩
theorem D8.shut_ {vR vO : Value} {S1 S2 S3 : Nat → Prop} (h1 : w.rowIs q 68 8 (d8F t mx B vR false (.slice none 0 0) vO told)) (a : Rt t T w S1) (b : Ob (fun W => Bs W vR rest) w S2) (c : Owb vO out w S3)
    (d1 : ∀ k, S1 k → ¬ S2 k ∧ ¬ S3 k) (d2 : ∀ k, S2 k → ¬ S3 k) (e1 : ¬ S1 q) (e2 : ¬ S2 q) (e3 : ¬ S3 q) : D8 q t T mx B rest out told w (fun k => S1 k ∨ S2 k ∨ S3 k ∨ k = q) :=
  ⟨vR, vO, fun k => S1 k ∨ S2 k ∨ S3 k, h1, ⟨S1, fun k => S2 k ∨ S3 k, a, ⟨S2, S3, b, c, d2, fun k => Iff.rfl⟩, fun k hk hs => hs.elim (d1 k hk).1 (d1 k hk).2, fun k => Iff.rfl⟩, fun h => h.elim e1 fun h => h.elim e2 e3, fun k => by simp only [or_assoc]⟩
end
end Go.Proofs.YtebakjdeighdnaaGreat

/-
  Whole instructions, one behind another; contract of the document's Feed (of the decoder) for these.
-/
namespace Go.Proofs.YtebakjdeighdnaaGreat
open Go.RowKit Go.Maps
set_option linter.unusedVariables false
set_option linter.unusedSimpArgs false

/-- The bytes are at most n whole instructions, and lead from one table to the other. -/
def Feeds (mx : Nat) : Nat → Tab → List UInt8 → Tab → Prop
  | 0, T, b, T' => b = [] ∧ T = T'
  | n + 1, T, b, T' => (b = [] ∧ T = T') ∨ ∃ k T1, b ≠ [] ∧ insP mx T b = (k, 0, T1) ∧ 1 ≤ k ∧ k ≤ b.length ∧ Feeds mx n T1 (b.drop k) T'
theorem Feeds.nil {mx n : Nat} {T T' : Tab} (h : Feeds mx n T [] T') : T = T' := by
  cases n with
  | zero => exact h.2
  | succ n =>
    rcases h with h | ⟨k, T1, h, _⟩
    · exact h.2
    · exact absurd rfl h
theorem Feeds.cons {mx n : Nat} {T T' : Tab} {b : List UInt8} (h : Feeds mx n T b T') (hb : b ≠ []) : ∃ m k T1, n = m + 1 ∧ insP mx T b = (k, 0, T1) ∧ 1 ≤ k ∧ k ≤ b.length ∧ Feeds mx m T1 (b.drop k) T' := by
  cases n with
  | zero => exact absurd h.1 hb
  | succ n =>
    rcases h with h | ⟨k, T1, _, h1, h2, h3, h4⟩
    · exact absurd h.1 hb
    · exact ⟨n, k, T1, rfl, h1, h2, h3, h4⟩
theorem tailP_ok {T T1 : Tab} {name : ByteArray} {k m : Nat} {b : List UInt8} (h : tailP T name k b = (m, 0, T1)) (hg : T.gd) : T1.gd ∧ T1.tot ≤ T.tot + 1 := by
  unfold tailP at h
  split at h
  · rename_i he
    injection h with _ h
    injection h with h _
    exact absurd h he
  · split at h
    · injection h with _ h
      injection h with h _
      exact absurd h (by decide)
    · injection h with _ h
      injection h with _ h
      subst h
      exact ⟨hg.add _, T.add_tot_le _⟩
theorem insP_ok {mx : Nat} {T T1 : Tab} {b : List UInt8} {k : Nat} (hmx : mx ≤ 4096) (h : insP mx T b = (k, 0, T1)) (hg : T.gd) : T1.gd ∧ T1.tot ≤ T.tot + 1 := by
  have bad : ∀ {e : Int} {T2 : Tab}, e ≠ 0 → ((0 : Nat), e, T2) = (k, 0, T1) → False := fun he h => by
    injection h with _ h
    injection h with h _
    exact he h
  unfold insP at h
  split at h
  · split at h
    · rename_i he; exact (bad he h).elim
    · split at h
      · split at h
        · exact tailP_ok h hg
        · exact (bad (by decide) h).elim
      · split at h
        · exact tailP_ok h hg
        · exact (bad (by decide) h).elim
  · split at h
    · split at h
      · rename_i he; exact (bad he h).elim
      · exact tailP_ok h hg
    · split at h
      · split at h
        · rename_i he; exact (bad he h).elim
        · split at h
          · exact (bad (by decide) h).elim
          · rename_i he hn
            injection h with _ h
            injection h with _ h
            subst h
            rcases rp_cases 5 b with hr | hr | ⟨n, m, hr, _⟩
            · rw [hr] at he; simp at he
            · rw [hr] at he; simp at he
            · rw [hr] at hn ⊢
              simp only [Int.toNat_natCast] at hn
              exact ⟨Tab.gd.resize (by omega), Nat.le_succ _⟩
      · split at h
        · rename_i he; exact (bad he h).elim
        · split at h
          · split at h
            · exact (bad (by decide) h).elim
            · injection h with _ h
              injection h with _ h
              subst h
              exact ⟨hg.add _, T.add_tot_le _⟩
          · exact (bad (by decide) h).elim

theorem d8F_3 (t mx B : Nat) (vR v' : Value) (vO : Value) (told : Nat) : ∀ j, j < 8 → (if j = 3 then v' else d8F t mx B vR false (.slice none 0 0) vO told j) = d8F t mx B v' false (.slice none 0 0) vO told j := fun j hj => by
  unfold d8F
  match j, hj with
  | 0, _ => rfl
  | 1, _ => rfl
  | 2, _ => rfl
  | 3, _ => rfl
  | 4, _ => rfl
  | 5, _ => rfl
  | 6, _ => rfl
  | 7, _ => rfl
section
variable {q t : Nat} {T T' : Tab} {mx B told : Nat} {rest rest' out : List UInt8} {w w' : World} {S : Nat → Prop} {v' : Value}
/-- Another rest. -/
theorem D8.rest_ {vR vO : Value} {S1 S2 S3 S4 : Nat → Prop} {w6 : World} (hS : ∀ k, S k ↔ S1 k ∨ S2 k ∨ S3 k ∨ k = q) (h1 : w.rowIs q 68 8 (d8F t mx B vR false (.slice none 0 0) vO told)) (a : Rt t T w S1) (b : Ob (fun W => Bs W vR rest) w S2) (c : Owb vO out w S3)
    (d1 : ∀ k, S1 k → ¬ S2 k ∧ ¬ S3 k) (d2 : ∀ k, S2 k → ¬ S3 k) (e1 : ¬ S1 q) (e2 : ¬ S2 q) (e3 : ¬ S3 q) (hb : Below w.heap.size w w6) (hob : Ob (fun W => Bs W v' rest') w6 S4) (hs4 : ∀ k, S4 k → S2 k ∨ w.heap.size ≤ k) :
    Turn (D8 q t T mx B rest' out told) S w (w6.setCell ⟨q, 3, none⟩ v') := by
  have hq := h1.lt
  have hf : Fp (fun k => k = q) w6 (w6.setCell ⟨q, 3, none⟩ v') := Fp.set _ _ _ _ rfl
  have hrow := ((h1.of_block (hb.block q hq)).set 3 v').congr (d8F_3 t mx B vR v' vO told)
  have l1 := (Wd.rt t T).lt a
  have l3 := (Wd.owb vO out).lt c
  have n4 : ¬ S4 q := by
    intro h
    rcases hs4 q h with h | h
    · exact e2 h
    · omega
  have n41 : ∀ k, S1 k → ¬ S4 k := by
    intro k hk h
    rcases hs4 k h with h | h
    · exact (d1 k hk).1 h
    · have := l1 k hk; omega
  have n43 : ∀ k, S4 k → ¬ S3 k := by
    intro k hk h
    rcases hs4 k hk with h4 | h4
    · exact d2 k h4 h
    · have := l3 k h; omega
  have h8 := D8.shut_ (T := T) (rest := rest') (out := out) hrow ((Wd.rt t T).besides ((Wd.rt t T).keep a hb) hf fun k hk e => e1 (e ▸ hk)) ((Wd.ob _).besides hob hf fun k hk e => n4 (e ▸ hk)) ((Wd.owb vO out).besides ((Wd.owb vO out).keep c hb) hf fun k hk e => e3 (e ▸ hk))
    (fun k hk => ⟨n41 k hk, (d1 k hk).2⟩) n43 e1 n4 e3
  refine ⟨_, h8, fun k hk => ?_, (Fp.of_below hb).then (hf.mono fun k hk => (hS k).2 (.inr (.inr (.inr hk))))⟩
  rcases hk with hk | hk | hk | hk
  · exact .inl ((hS k).2 (.inl hk))
  · exact (hs4 k hk).imp (fun h => (hS k).2 (.inr (.inl h))) id
  · exact .inl ((hS k).2 (.inr (.inr (.inl hk))))
  · exact .inl ((hS k).2 (.inr (.inr (.inr hk))))
end
end Go.Proofs.YtebakjdeighdnaaGreat

/-
  Contract of the document's Feed (of the decoder), of whole instructions.
-/
namespace Go.Proofs.YtebakjdeighdnaaGreat
open Go.RowKit Go.Maps
set_option linter.unusedVariables false
set_option linter.unusedSimpArgs false

section
variable {q t : Nat} {T T' : Tab} {mx B told : Nat} {rest rest' out : List UInt8} {w w' : World} {S : Nat → Prop} {v' : Value}
/-- One instruction further. -/
theorem D8.step_ {T1 : Tab} {vR vO : Value} {S1 S2 S3 : Nat → Prop} {w2 : World} (hS : ∀ k, S k ↔ S1 k ∨ S2 k ∨ S3 k ∨ k = q) (h1 : w.rowIs q 68 8 (d8F t mx B vR false (.slice none 0 0) vO told)) (b : Ob (fun W => Bs W vR rest) w S2) (c : Owb vO out w S3)
    (d1 : ∀ k, S1 k → ¬ S2 k ∧ ¬ S3 k) (d2 : ∀ k, S2 k → ¬ S3 k) (e1 : ¬ S1 q) (e2 : ¬ S2 q) (e3 : ¬ S3 q) (ht : Turn (Rt t T1) S1 w w2) (hm : ∀ W, Bs W vR rest → Bs W v' rest') :
    Turn (D8 q t T1 mx B rest' out told) S w (w2.setCell ⟨q, 3, none⟩ v') := by
  obtain ⟨S1', x, s, f⟩ := ht
  have l2 := (Wd.ob _).lt b
  have l3 := (Wd.owb vO out).lt c
  have hq := h1.lt
  have n1 : ∀ k, S1' k → ¬ S2 k ∧ ¬ S3 k := by
    intro k hk
    rcases s k hk with h | h
    · exact d1 k h
    · exact ⟨fun h2 => by have := l2 k h2; omega, fun h3 => by have := l3 k h3; omega⟩
  have n2 : ¬ S1' q := by
    intro h
    rcases s q h with h | h
    · exact e1 h
    · omega
  have hr := D8.rest_ (T := T1) (S := fun k => S1' k ∨ S2 k ∨ S3 k ∨ k = q) (v' := v') (fun k => Iff.rfl) (h1.of_block (f.block q hq e1)) x ((Wd.ob _).besides b f fun k hk h => (d1 k h).1 hk) ((Wd.owb vO out).besides c f fun k hk h => (d1 k h).2 hk) n1 d2 n2 e2 e3 (Below.refl _ _) (((Wd.ob _).besides b f fun k hk h => (d1 k h).1 hk).map hm) (fun k hk => .inl hk)
  refine Turn.step (S := S) (S1 := fun k => S1' k ∨ S2 k ∨ S3 k ∨ k = q) ?_ (f.mono fun k hk => (hS k).2 (.inl hk)) hr
  rintro k (hk | hk | hk | hk)
  · exact (s k hk).imp (fun h => (hS k).2 (.inl h)) id
  · exact .inl ((hS k).2 (.inr (.inl hk)))
  · exact .inl ((hS k).2 (.inr (.inr (.inl hk))))
  · exact .inl ((hS k).2 (.inr (.inr (.inr hk))))

set_option maxRecDepth 100000 in
set_option maxHeartbeats 40000000 in
theorem dfeed8_any (h : D8 q t T mx B rest out told w S) {bV : Value} {b : List UInt8} (hb : ∀ W, Fp S w W → Bs W bV b) (hl : rest.length ≤ 40000) (hbl : b.length ≤ 40000) (hmx : mx ≤ 4096) (hg : T.gd) (ht : T.tot ≤ 800000) {n : Nat} (hf : Feeds mx n T (rest ++ b) T') :
    Calls Tryz.prog 10 #[.pointer (some ⟨q, 0, none⟩), bV] w fun e w' => e = .returned (.int .i64 0) ∧ Turn (D8 q t T' mx B [] out told) S w w' := by
  obtain ⟨vR, vO, S1, S2, S3, h1, a, bb, c, d1, d2, e1, e2, e3, hS⟩ := h.open_
  have hrs := bb.get
  obtain ⟨A, hslice, hpush⟩ := bs_push hrs (by omega)
  have hlen := fun ty W => hrs.run_len ty W
  have hbw := hb w.drew (Fp.of_below (Below.refl _ _).drew)
  obtain ⟨v1, w1, hrun, hb1, S4, hob, hs4⟩ := hpush w.drew bV b 23 S2 ((Wd.ob _).keep bb (Below.refl _ _).drew) hbw (by omega)
  have hbx1 : Below w.heap.size w w1 := (Below.refl _ _).drew.trans hb1
  have hq := h1.lt
  have c3 : w.cell? ⟨q, 3, none⟩ = some vR := h1.cell (i := 3) (by omega)
  have c4 : w.cell? ⟨q, 4, none⟩ = some (.bool false) := h1.cell (i := 4) (by omega)
  have d0 : w.drew.cell? ⟨q, 3, none⟩ = some vR := c3
  have d6 : w1.cell? ⟨q, 3, none⟩ = some vR := (hbx1.cell hq).trans c3
  have df : w1.frozen? ⟨q, 3, none⟩ = false := (h1.of_block (hbx1.block q hq)).frozen 3
  have hT := Bx.mk (D8.rest_ (v' := v1) hS h1 a bb c d1 d2 e1 e2 e3 hbx1 hob hs4)
  have HFE := Bx.mk hf
  have HBD := Bx.mk (show mx ≤ 4096 ∧ T.gd ∧ T.tot ≤ 800000 ∧ (rest ++ b).length ≤ 80000 from ⟨hmx, hg, ht, by rw [List.length_append]; omega⟩)
  obtain ⟨A1, n1, m1, hv1⟩ : ∃ A n m, v1 = .slice A n m := by
    obtain ⟨A2, n2, c2, e, _⟩ := (hob.get).open_
    exact ⟨_, _, _, e⟩
  subst hv1
  obtain ⟨nr, hnr⟩ : ∃ nr, rest.length = nr := ⟨_, rfl⟩
  rw [hnr] at hslice hlen hrun
  clear h hb hl hbl hmx hg ht hf h1 a bb c d1 d2 e1 e2 e3 hS hrs hpush hbw hob hs4 hb1 c3
  go_enter Tryz.func10, Tryz.ntmps10
  go_upto_region 3 with fail
  -- REGION A
  refine wp_region_x 20 (fun W => W.cell? ⟨q, 3, none⟩ = some vR) (by kernel_rfl) (d0) (fun hHeld => ?_)
  refine wpAnyX_take0 (i := 0) (oi := ⟨some 11, Op.move (Operand.tmp 0), 28, _, _, none⟩) (v := ?v0) rfl (by omega) (by kernel_rfl) (by kernel_rfl) (by kernel_rfl) (fun _ _ _ h => h) (Or.inl ⟨by rfl, ?y0⟩) (by assumption) ?r0
  case y0 =>
    intro W hSw
    try dsimp only at hSw
    go_simp
    try with_reducible rfl
  case r0 =>
  try simp only [Act.put, List.setIfInBounds_toArray, List.set_cons_zero, List.set_cons_succ]
  refine wpAnyX_take0 (i := 1) (oi := ⟨some 12, Op.move (Operand.tmp 0), 28, _, _, none⟩) (v := ?v1) rfl (by omega) (by kernel_rfl) (by kernel_rfl) (by kernel_rfl) (fun _ _ _ h => h) (Or.inl ⟨by rfl, ?y1⟩) (by assumption) ?r1
  case y1 =>
    intro W hSw
    try dsimp only at hSw
    go_simp
    try with_reducible rfl
  case r1 =>
  try simp only [Act.put, List.setIfInBounds_toArray, List.set_cons_zero, List.set_cons_succ]
  refine wpAnyX_take0 (i := 2) (oi := ⟨some 13, Op.nilCheck (Operand.tmp 12), 0, _, _, none⟩) (v := ?v2) rfl (by omega) (by kernel_rfl) (by kernel_rfl) (by kernel_rfl) (fun _ _ _ h => h) (Or.inl ⟨by rfl, ?y2⟩) (by assumption) ?r2
  case y2 =>
    intro W hSw
    try dsimp only at hSw
    go_simp
    try with_reducible rfl
  case r2 =>
  try simp only [Act.put, List.setIfInBounds_toArray, List.set_cons_zero, List.set_cons_succ]
  refine wpAnyX_take0 (i := 3) (oi := ⟨some 14, Op.fieldAddr 68 (Operand.tmp 13) 3, 0, _, _, none⟩) (v := ?v3) rfl (by omega) (by kernel_rfl) (by kernel_rfl) (by kernel_rfl) (fun _ _ _ h => h) (Or.inl ⟨by rfl, ?y3⟩) (by assumption) ?r3
  case y3 =>
    intro W hSw
    try dsimp only at hSw
    go_simp
    try with_reducible rfl
  case r3 =>
  try simp only [Act.put, List.setIfInBounds_toArray, List.set_cons_zero, List.set_cons_succ]
  refine wpAnyX_take (i := 4) (oi := ⟨some 15, Op.load 23 (Operand.tmp 14), 23, _, _, none⟩) (v := ?v4) rfl (by omega) (by kernel_rfl) (by kernel_rfl) (by kernel_rfl) (by kernel_rfl) (by kernel_rfl) (fun _ _ _ h => h) (Or.inl ⟨by rfl, ?y4⟩) (by assumption) ?r4
  case y4 =>
    intro W hSw
    try dsimp only at hSw
    go_simp
    try with_reducible rfl
  case r4 =>
  try simp only [Act.put, List.setIfInBounds_toArray, List.set_cons_zero, List.set_cons_succ]
  refine wpAnyX_take0 (i := 5) (oi := ⟨some 16, Op.move (Operand.tmp 0), 28, _, _, none⟩) (v := ?v5) rfl (by omega) (by kernel_rfl) (by kernel_rfl) (by kernel_rfl) (fun _ _ _ h => h) (Or.inl ⟨by rfl, ?y5⟩) (by assumption) ?r5
  case y5 =>
    intro W hSw
    try dsimp only at hSw
    go_simp
    try with_reducible rfl
  case r5 =>
  try simp only [Act.put, List.setIfInBounds_toArray, List.set_cons_zero, List.set_cons_succ]
  refine wpAnyX_take0 (i := 6) (oi := ⟨some 17, Op.nilCheck (Operand.tmp 16), 0, _, _, none⟩) (v := ?v6) rfl (by omega) (by kernel_rfl) (by kernel_rfl) (by kernel_rfl) (fun _ _ _ h => h) (Or.inl ⟨by rfl, ?y6⟩) (by assumption) ?r6
  case y6 =>
    intro W hSw
    try dsimp only at hSw
    go_simp
    try with_reducible rfl
  case r6 =>
  try simp only [Act.put, List.setIfInBounds_toArray, List.set_cons_zero, List.set_cons_succ]
  refine wpAnyX_take0 (i := 7) (oi := ⟨some 18, Op.fieldAddr 68 (Operand.tmp 17) 3, 0, _, _, none⟩) (v := ?v7) rfl (by omega) (by kernel_rfl) (by kernel_rfl) (by kernel_rfl) (fun _ _ _ h => h) (Or.inl ⟨by rfl, ?y7⟩) (by assumption) ?r7
  case y7 =>
    intro W hSw
    try dsimp only at hSw
    go_simp
    try with_reducible rfl
  case r7 =>
  try simp only [Act.put, List.setIfInBounds_toArray, List.set_cons_zero, List.set_cons_succ]
  refine wpAnyX_take (i := 8) (oi := ⟨some 19, Op.load 23 (Operand.tmp 18), 23, _, _, none⟩) (v := ?v8) rfl (by omega) (by kernel_rfl) (by kernel_rfl) (by kernel_rfl) (by kernel_rfl) (by kernel_rfl) (fun _ _ _ h => h) (Or.inl ⟨by rfl, ?y8⟩) (by assumption) ?r8
  case y8 =>
    intro W hSw
    try dsimp only at hSw
    go_simp
    try with_reducible rfl
  case r8 =>
  try simp only [Act.put, List.setIfInBounds_toArray, List.set_cons_zero, List.set_cons_succ]
  refine wpAnyX_take (i := 9) (oi := ⟨some 20, Op.call { callee := Callee.builtin Builtin.len, args := #[Operand.tmp 19], argTypes := #[23] }, 3, _, _, none⟩) (v := ?v9) rfl (by omega) (by kernel_rfl) (by kernel_rfl) (by kernel_rfl) (by kernel_rfl) (by kernel_rfl) (fun _ _ _ h => h) (Or.inl ⟨by rfl, ?y9⟩) (by assumption) ?r9
  case y9 =>
    intro W hSw
    try dsimp only at hSw
    go_simp
    try with_reducible rfl
  case r9 =>
  try simp only [Act.put, List.setIfInBounds_toArray, List.set_cons_zero, List.set_cons_succ]
  refine wpAnyX_take0 (i := 10) (oi := ⟨some 21, Op.move (Operand.tmp 0), 28, _, _, none⟩) (v := ?v10) rfl (by omega) (by kernel_rfl) (by kernel_rfl) (by kernel_rfl) (fun _ _ _ h => h) (Or.inl ⟨by rfl, ?y10⟩) (by assumption) ?r10
  case y10 =>
    intro W hSw
    try dsimp only at hSw
    go_simp
    try with_reducible rfl
  case r10 =>
  try simp only [Act.put, List.setIfInBounds_toArray, List.set_cons_zero, List.set_cons_succ]
  refine wpAnyX_take0 (i := 11) (oi := ⟨some 22, Op.nilCheck (Operand.tmp 21), 0, _, _, none⟩) (v := ?v11) rfl (by omega) (by kernel_rfl) (by kernel_rfl) (by kernel_rfl) (fun _ _ _ h => h) (Or.inl ⟨by rfl, ?y11⟩) (by assumption) ?r11
  case y11 =>
    intro W hSw
    try dsimp only at hSw
    go_simp
    try with_reducible rfl
  case r11 =>
  try simp only [Act.put, List.setIfInBounds_toArray, List.set_cons_zero, List.set_cons_succ]
  refine wpAnyX_take0 (i := 12) (oi := ⟨some 23, Op.fieldAddr 68 (Operand.tmp 22) 3, 0, _, _, none⟩) (v := ?v12) rfl (by omega) (by kernel_rfl) (by kernel_rfl) (by kernel_rfl) (fun _ _ _ h => h) (Or.inl ⟨by rfl, ?y12⟩) (by assumption) ?r12
  case y12 =>
    intro W hSw
    try dsimp only at hSw
    go_simp
    try with_reducible rfl
  case r12 =>
  try simp only [Act.put, List.setIfInBounds_toArray, List.set_cons_zero, List.set_cons_succ]
  refine wpAnyX_take (i := 13) (oi := ⟨some 24, Op.load 23 (Operand.tmp 23), 23, _, _, none⟩) (v := ?v13) rfl (by omega) (by kernel_rfl) (by kernel_rfl) (by kernel_rfl) (by kernel_rfl) (by kernel_rfl) (fun _ _ _ h => h) (Or.inl ⟨by rfl, ?y13⟩) (by assumption) ?r13
  case y13 =>
    intro W hSw
    try dsimp only at hSw
    go_simp
    try with_reducible rfl
  case r13 =>
  try simp only [Act.put, List.setIfInBounds_toArray, List.set_cons_zero, List.set_cons_succ]
  refine wpAnyX_take (i := 14) (oi := ⟨some 25, Op.call { callee := Callee.builtin Builtin.len, args := #[Operand.tmp 24], argTypes := #[23] }, 3, _, _, none⟩) (v := ?v14) rfl (by omega) (by kernel_rfl) (by kernel_rfl) (by kernel_rfl) (by kernel_rfl) (by kernel_rfl) (fun _ _ _ h => h) (Or.inl ⟨by rfl, ?y14⟩) (by assumption) ?r14
  case y14 =>
    intro W hSw
    try dsimp only at hSw
    go_simp
    try with_reducible rfl
  case r14 =>
  try simp only [Act.put, List.setIfInBounds_toArray, List.set_cons_zero, List.set_cons_succ]
  refine wpAnyX_take0 (i := 15) (oi := ⟨some 26, Op.slice 23 (Operand.tmp 15) none (some (Operand.tmp 20)) (some (Operand.tmp 25)), 23, _, _, none⟩) (v := ?v15) rfl (by omega) (by kernel_rfl) (by kernel_rfl) (by kernel_rfl) (fun _ _ _ h => h) (Or.inl ⟨by rfl, ?y15⟩) (by assumption) ?r15
  case y15 =>
    intro W hSw
    try dsimp only at hSw
    go_simp
    try with_reducible rfl
  case r15 =>
  try simp only [Act.put, List.setIfInBounds_toArray, List.set_cons_zero, List.set_cons_succ]
  refine wpAnyX_take0 (i := 16) (oi := ⟨some 27, Op.move (Operand.tmp 1), 23, _, _, none⟩) (v := ?v16) rfl (by omega) (by kernel_rfl) (by kernel_rfl) (by kernel_rfl) (fun _ _ _ h => h) (Or.inl ⟨by rfl, ?y16⟩) (by assumption) ?r16
  case y16 =>
    intro W hSw
    try dsimp only at hSw
    go_simp
    try with_reducible rfl
  case r16 =>
  try simp only [Act.put, List.setIfInBounds_toArray, List.set_cons_zero, List.set_cons_succ]
  refine wpAnyX_one (i := 17) (by kernel_rfl) rfl (fun K hK => ?_)
  refine step_append_run rfl (.tmp 26) (.tmp 27) 23 rfl (.slice A nr nr) _ rfl rfl hrun ?_
  refine hK.out _ _ (fun _ => d6) ?_
  clear hK K
  try simp only [Act.put, List.setIfInBounds_toArray, List.set_cons_zero, List.set_cons_succ]
  refine wpAnyX_take0 (i := 18) (oi := ⟨some 29, Op.nilCheck (Operand.tmp 11), 0, _, _, none⟩) (v := ?v18) rfl (by omega) (by kernel_rfl) (by kernel_rfl) (by kernel_rfl) (fun _ _ _ h => h) (Or.inl ⟨by rfl, ?y18⟩) (by assumption) ?r18
  case y18 =>
    intro W hSw
    try dsimp only at hSw
    go_simp
    try with_reducible rfl
  case r18 =>
  try simp only [Act.put, List.setIfInBounds_toArray, List.set_cons_zero, List.set_cons_succ]
  refine wpAnyX_take0 (i := 19) (oi := ⟨some 30, Op.fieldAddr 68 (Operand.tmp 29) 3, 0, _, _, none⟩) (v := ?v19) rfl (by omega) (by kernel_rfl) (by kernel_rfl) (by kernel_rfl) (fun _ _ _ h => h) (Or.inl ⟨by rfl, ?y19⟩) (by assumption) ?r19
  case y19 =>
    intro W hSw
    try dsimp only at hSw
    go_simp
    try with_reducible rfl
  case r19 =>
  try simp only [Act.put, List.setIfInBounds_toArray, List.set_cons_zero, List.set_cons_succ]
  refine wpAnyX_one (i := 20) (by kernel_rfl) rfl (fun K hK => ?_)
  go_simp
  refine hK.out _ _ (fun h => absurd h (by decide)) ?_
  clear hK K
  try simp only [Act.put, List.setIfInBounds_toArray, List.set_cons_zero, List.set_cons_succ]
  refine wpAnyX_done (by kernel_rfl) ?_ _
  -- END A
  clear hrun hlen hslice d0 d6 df hbx1 c4 hHeld
  obtain ⟨w2, hw2⟩ : ∃ w2, w1.setCell ⟨q, 3, none⟩ (.slice A1 n1 m1) = w2 := ⟨_, rfl⟩
  rw [hw2] at hT ⊢
  obtain ⟨r0, hr0⟩ : ∃ r0, rest ++ b = r0 := ⟨_, rfl⟩
  rw [hr0] at hT HFE HBD
  clear hw2 hnr hr0 hq
  have HST : Bx (∃ n Tc, Turn (D8 q t Tc mx B r0 out told) S w w2 ∧ Feeds mx n Tc r0 T' ∧ Tc.gd ∧ Tc.tot + r0.length ≤ 900000) := ⟨n, T, hT.out, HFE.out, HBD.out.2.1, by have := HBD.out.2.2; omega⟩
  have HMX := Bx.mk HBD.out.1
  have HRL := Bx.mk HBD.out.2.2.2
  clear hT HFE HBD
  go_wp2_with fail
  go_loopg [5, 6] r0.length (fun g s5 s6 wx => Bx (∃ n Tc rc, rc.length = g ∧ rc.length ≤ 80000 ∧ Turn (D8 q t Tc mx B rc out told) S w wx ∧ Feeds mx n Tc rc T' ∧ Tc.gd ∧ Tc.tot + rc.length ≤ 900000))
  case atStart => exact ⟨by obtain ⟨n, Tc, h1, h2, h3, h4⟩ := HST.out; exact ⟨n, Tc, r0, rfl, HRL.out, h1, h2, h3, h4⟩⟩
  case round =>
    clear HST
    obtain ⟨m, Tc, rc, hrc, hrl, hturn, hfeed, hgd, htot⟩ := hrel.out
    clear hrel
    obtain ⟨e, he, hes, hfp⟩ := hturn
    obtain ⟨vR, vO, S1, S2, S3, h1, a, bb, c, d1, d2, e1, e2, e3, hS⟩ := he.open_
    have hrs := bb.get
    have hlen := fun ty W => hrs.run_len ty W
    have c3 : wr.cell? ⟨q, 3, none⟩ = some vR := h1.cell (i := 3) (by omega)
    have hq := h1.lt
    cases gk with
    | zero =>
      obtain rfl : rc = [] := List.eq_nil_of_length_eq_zero hrc
      obtain rfl := hfeed.nil
      have HFIN : Bx (Turn (D8 q t Tc mx B [] out told) S w wr) := ⟨e, he, hes, hfp⟩
      rw [show (([] : List UInt8).length : Int) = 0 from rfl] at hlen
      clear he hes hfp h1 a bb c d1 d2 e1 e2 e3 hS hrs hgd htot hq hrc hrl hfeed
      go_wp2_with fail
      go_ret
      exact ⟨rfl, HFIN.out⟩
    | succ g =>
      have hne : rc ≠ [] := by intro h; rw [h] at hrc; simp at hrc
      obtain ⟨m', k, T1, rfl, hins, hk1, hk2, hfe⟩ := hfeed.cons hne
      have hOi : Oi q t mx Tc S1 wr vR rc := ⟨a, fun W hW => ⟨(h1.of_block (hW.block q hq e1)).cell (i := 0) (by omega), (h1.of_block (hW.block q hq e1)).cell (i := 1) (by omega)⟩, fun W hW => ((Wd.ob _).besides bb hW fun k hk h => (d1 k h).1 hk).get, by omega, HMX.out, by have : rc.length = g + 1 := hrc; omega, by have := hgd.1; have := hgd.2; omega⟩
      have HONE := Bx.mk (one_any8 hOi hne)
      rw [hins] at HONE
      obtain ⟨vR2, hsl, hbs⟩ := hrs.from_ (k : Int) (by omega) (by omega)
      rw [Int.toNat_natCast] at hbs
      obtain ⟨hgd1, htot1⟩ := insP_ok HMX.out hins hgd
      have HNEXT : Bx (∀ w2, Turn (Rt t T1) S1 wr w2 → (w2.cell? ⟨q, 3, none⟩ = some vR ∧ w2.frozen? ⟨q, 3, none⟩ = false) ∧ Turn (D8 q t T1 mx B (rc.drop k) out told) S w (w2.setCell ⟨q, 3, none⟩ vR2)) := ⟨fun w2 ht => by
        have hst := D8.step_ (rest' := rc.drop k) (v' := vR2) hS h1 bb c d1 d2 e1 e2 e3 ht hbs
        obtain ⟨_, _, _, f⟩ := ht
        have hrow := h1.of_block (f.block q hq e1)
        exact ⟨⟨hrow.cell (i := 3) (by omega), hrow.frozen 3⟩, Turn.step (S := S) (S1 := e) hes hfp hst⟩⟩
      have HREL : Bx (Feeds mx m' T1 (rc.drop k) T' ∧ T1.gd ∧ T1.tot + (rc.drop k).length ≤ 900000 ∧ (rc.drop k).length ≤ g) := ⟨hfe, hgd1, by rw [List.length_drop]; omega, by rw [List.length_drop]; omega⟩
      have HGL := Bx.mk (show g + 1 ≤ 80000 from by omega)
      obtain ⟨nl, hnl⟩ : ∃ nl, rc.length = nl := ⟨_, rfl⟩
      rw [hnl] at hlen
      have hdl : decide ((0 : Int) < (nl : Int)) = true := decide_eq_true (by omega)
      have hdl' : decide (0 < nl) = true := decide_eq_true (by omega)
      have hvs : ∃ A n c, vR2 = .slice A n c := by
        obtain ⟨A2, n2, c2, e, _⟩ := (hbs wr hrs).open_
        exact ⟨_, _, _, e⟩
      obtain ⟨A2, n2, c2, rfl⟩ := hvs
      clear he hes hfp h1 a bb c d1 d2 e1 e2 e3 hS hrs hgd htot hq hrc hrl hfe hOi hins hbs hgd1 htot1 hne hk1 hk2 hnl hfeed
      go_wp2_with (go_at_call 28; refine HONE.out.mono ?_; rintro r w3 ⟨rfl, ht3⟩; obtain ⟨⟨x3, xf⟩, hT3⟩ := HNEXT.out w3 ht3; have HT3 := Bx.mk hT3; clear ht3 hT3)
      go_roundg ((rc.drop k).length)
      case measure => have := HREL.out.2.2.2; omega
      case rel => exact ⟨m', T1, rc.drop k, rfl, by have := HREL.out.2.2.2; have := HGL.out; omega, HT3.out, HREL.out.1, HREL.out.2.1, HREL.out.2.2.1⟩
end
end Go.Proofs.YtebakjdeighdnaaGreat
