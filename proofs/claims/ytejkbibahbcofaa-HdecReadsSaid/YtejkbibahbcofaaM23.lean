/-
  Texts put together: PdM, HdE, HdF1.
-/
import Derived.Test.YtejkbibahbcofaaM22
import Derived.Test.YtejkbibahbcofaaM18
import Derived.Test.YtejkbibahbcofaaM11
import Derived.Test.YtejkbibahbcofaaM15

/-
  Contracts of Limit, Decode.
-/
namespace Go.Proofs.Ytejkbibahbcofaa
open Go.RowKit Go.Maps
set_option linter.unusedVariables false

set_option maxRecDepth 100000 in
set_option maxHeartbeats 1000000 in
theorem plimit_any {q t mx : Nat} {T : Tab} {mu bd : Bool} {w : World} {S : Nat → Prop} (h : Pc q t T mx mu bd w S) (n : Int) :
    Calls Try.prog 18 #[.pointer (some ⟨q, 0, none⟩), .int .i64 n] w fun e w' => e = .returned (.tuple #[]) ∧ Turn (Pc q t (limT T (clampN n)) (clampN n) (mu || decide (clampN n < T.cap)) bd) S w w' := by
  have hle := clampN_le n
  have HC := Bx.mk (nearest_any n)
  generalize clampN n = c at HC hle ⊢
  obtain ⟨c0, c1, c2, c3⟩ := h.cells
  have f1 := h.free 1
  have HT0 := Bx.mk h
  obtain ⟨S1, x1, s1, g1⟩ := h.setMax c
  obtain ⟨d0, d1, d2, d3⟩ := x1.cells
  have HX := Bx.mk x1
  have HS := Bx.mk s1
  have HG := Bx.mk g1
  clear h x1 s1 g1
  by_cases hlt : c < T.cap
  · have hd : decide (c < T.cap) = true := by rw [decide_eq_true_iff]; omega
    have HL : Bx (limT T c = T.resize (c : Int) ∧ (mu || decide (c < T.cap)) = true) := ⟨by unfold limT; rw [if_pos hlt], by simp [hlt]⟩
    rw [HL.out.1, HL.out.2]
    clear hlt
    go_enter Try.func18, Try.ntmps18
    go_wp2_with (go_at_call 29; refine (HC.out _).mono ?_; rintro e w1 ⟨rfl, rfl⟩)
    go_upto_region 1 with fail
    clear c0 c1 c2 c3 f1 d0 d1 d2 d3
    generalize w.setCell ⟨q, 1, none⟩ (.int .i64 (c : Int)) = w4 at HX HG ⊢
    obtain ⟨d0, d1, d2, d3⟩ := (HX.out.keep (Below.refl _ _).drew).cells
    have HCAP := Bx.mk (fun W (hW : Below w4.heap.size w4 W) => (HX.out.keep hW).cap_)
    go_cut [18] from 9 to 18 (fun s18 wx => s18 = .bool true ∧ Bx (Below w4.heap.size w4 wx))
    case first =>
      go_region_with (go_at_call 25
                      refine (HCAP.out _ (Below.refl _ _).drew).mono ?_
                      rintro e w6 ⟨rfl, hb6⟩
                      have hb7 : Below w4.heap.size w4 w6 := (Below.refl _ _).drew.trans hb6
                      obtain ⟨e0, e1, e2, e3⟩ := (HX.out.keep hb7).cells)
      all_goals go_wp2_with fail
      all_goals go_meet
      all_goals exact ⟨by first | rfl | simp [hd], ⟨hb7⟩⟩
    case rest =>
      obtain ⟨rfl, HB5⟩ := hcut
      clear d0 d1 d2 d3
      have HX' := Bx.mk (HX.out.keep HB5.out)
      obtain ⟨d0, d1, d2, d3⟩ := (HX'.out.keep (Below.refl _ _).drew).cells
      obtain ⟨S2, k1, k2, k3, k4, k5⟩ := HX'.out
      have HRS := Bx.mk (fun W (hW : Below wc.heap.size wc W) => resize_any (k2.keep hW) (c : Int) (by omega))
      have HD := Bx.mk (fun W (hW : Below wc.heap.size wc W) => HX'.out.keep hW)
      have HTR : Bx (∀ W wx, Below wc.heap.size wc W → Turn (Tb t (T.resize (c : Int))) S2 W wx → Turn (Pc q t (T.resize (c : Int)) c mu bd) S1 wc wx) := ⟨fun W wx hW hwx => by
        refine Turn.step (fun k hk => .inl hk) (Fp.of_below hW) ?_
        have hk5 := Nat.lt_of_lt_of_le k5 hW.size
        obtain ⟨S3, r2, q2, f2⟩ := hwx
        have hsz := f2.size
        have k1 := k1.of_block (hW.block q k5)
        refine ⟨fun k => S3 k ∨ k = q, ⟨S3, k1.of_block (f2.block q hk5 k3), r2, fun hq => ?_, fun k => Iff.rfl, by omega⟩, fun k hk => ?_, f2.mono fun k hk => (k4 k).2 (.inl hk)⟩
        · rcases q2 q hq with h | h
          · exact k3 h
          · omega
        · rcases hk with hk | rfl
          · rcases q2 k hk with h | h
            · exact .inl ((k4 k).2 (.inl h))
            · exact .inr h
          · exact .inl ((k4 k).2 (.inr rfl))⟩
      clear k1 k2 k3 k4 k5
      go_wp2_with fail

      go_region_with (go_at_call 43
                      refine (HRS.out _ (Below.refl _ _).drew).mono ?_
                      rintro e w2 ⟨rfl, ht⟩
                      obtain ⟨S3, y3, s3, g3⟩ := HTR.out _ _ (Below.refl _ _).drew ht
                      obtain ⟨e0, e1, e2, e3⟩ := y3.cells
                      have f2 := y3.free 2
                      have HY := Bx.mk (y3.setMust true)
                      have HS3 := Bx.mk s3
                      have HG3 := Bx.mk g3
                      clear ht y3 s3 g3)
      all_goals go_wp2_with fail
      all_goals go_end0
      all_goals exact ⟨rfl, Turn.step HS.out (HG.out.then (Fp.of_below HB5.out)) (Turn.step (S := S1) HS3.out HG3.out HY.out)⟩
  · have hd : decide (c < T.cap) = false := by rw [decide_eq_false_iff_not]; omega
    have HL : Bx (limT T c = T ∧ (mu || decide (c < T.cap)) = mu) := ⟨by unfold limT; rw [if_neg hlt], by simp [hlt]⟩
    rw [HL.out.1, HL.out.2]
    clear hlt
    go_enter Try.func18, Try.ntmps18
    go_wp2_with (go_at_call 29; refine (HC.out _).mono ?_; rintro e w1 ⟨rfl, rfl⟩)
    go_upto_region 1 with fail
    clear c0 c1 c2 c3 f1 d0 d1 d2 d3
    generalize w.setCell ⟨q, 1, none⟩ (.int .i64 (c : Int)) = w4 at HX HG ⊢
    obtain ⟨d0, d1, d2, d3⟩ := (HX.out.keep (Below.refl _ _).drew).cells
    have HCAP := Bx.mk (fun W (hW : Below w4.heap.size w4 W) => (HX.out.keep hW).cap_)
    go_cut [18] from 9 to 18 (fun s18 wx => s18 = .bool false ∧ Bx (Below w4.heap.size w4 wx))
    case first =>
      go_region_with (go_at_call 25
                      refine (HCAP.out _ (Below.refl _ _).drew).mono ?_
                      rintro e w6 ⟨rfl, hb6⟩
                      have hb7 : Below w4.heap.size w4 w6 := (Below.refl _ _).drew.trans hb6
                      obtain ⟨e0, e1, e2, e3⟩ := (HX.out.keep hb7).cells)
      all_goals go_wp2_with fail
      all_goals go_meet
      all_goals exact ⟨by first | rfl | simp [hd], ⟨hb7⟩⟩
    case rest =>
      obtain ⟨rfl, HB5⟩ := hcut
      clear d0 d1 d2 d3
      go_wp2_with fail
      go_end0
      exact ⟨rfl, S1, HX.out.keep HB5.out, HS.out, HG.out.then (Fp.of_below HB5.out)⟩

theorem cell_other (w : World) (a b : Addr) (v : Value) (h : b.block ≠ a.block) : (w.setCell a v).cell? b = w.cell? b := by
  unfold World.cell?
  rw [Go.Deep.blk_setCell_other _ _ _ _ h]
/-- What Decode comes to. -/
def PPost (q t mx : Nat) (mu : Bool) (T : Tab) (S : Nat → Prop) (w : World) (l : List UInt8) (e : Ending) (w' : World) : Prop :=
  (ldec mx mu T l = none ∧ e = .returned (.tuple #[.slice none 0 0, .int .i64 26]) ∧ Turn (Pc q t T mx mu true) S w w') ∨
  ∃ s v, ldec mx mu T l = some s ∧ e = .returned (.tuple #[v, .int .i64 0]) ∧ Fs w' v s.out ∧ ∃ S', (∀ k, v.ownBlock = some k → w.heap.size ≤ k ∧ ¬ S' k ∧ k < w'.heap.size) ∧ Pc q t s.T mx false false w' S' ∧ (∀ k, S' k → S k ∨ w.heap.size ≤ k) ∧ Fp S w w'

set_option maxRecDepth 100000 in
set_option maxHeartbeats 4000000 in
theorem pdecode_any {q t mx : Nat} {mu : Bool} {T : Tab} {w : World} {S : Nat → Prop} (h : Pc q t T mx mu false w S) (hgd : T.gd) (htot : T.tot + 300 ≤ 1000000) (hmx : mx ≤ 4096) {bV : Value} {l : List UInt8} (hb : Bs w bV l) (hl : l.length ≤ 100000) :
    Calls Try.prog 14 #[.pointer (some ⟨q, 0, none⟩), bV] w fun e w' => PPost q t mx mu T S w l e w' := by
  have HD := Bx.mk h
  obtain ⟨c0, c1, c2, c3⟩ := h.cells
  obtain ⟨d0, d1, d2, d3⟩ := (h.keep (Below.refl _ _).drew).cells
  obtain ⟨e0, e1, e2, e3⟩ := (h.keep ((Below.refl w.heap.size w).alloc (Nat.le_refl _) (.cells #[.slice none 0 0, .int .i64 0, .pointer none, .slice none 0 0, .slice none 0 0, .slice none 0 0] 77)).drew).cells
  have HB := Bx.mk hb
  have HC : Bx (T.gd ∧ T.tot + 300 ≤ 1000000 ∧ mx ≤ 4096 ∧ l.length ≤ 100000) := ⟨hgd, htot, hmx, hl⟩
  obtain ⟨A, nA, cA, rfl⟩ : ∃ A n c, bV = .slice A n c := by
    obtain ⟨A, c, e, _⟩ := hb
    exact ⟨_, _, _, e⟩
  clear h hgd htot hmx hb hl
  go_enter Try.func14, Try.ntmps14
  go_wp2_with fail
  go_region
  have HP : Bx (Df w w.heap.size t T mx false T [] [] [] l (w.alloc (.cells #[.slice A nA cA, .int .i64 (mx : Int), .pointer (some ⟨t, 0, none⟩), .slice none 0 0, .slice none 0 0, .slice none 0 0] 77)).drew) := ⟨by
    have hb1 : Below w.heap.size w (w.alloc (.cells #[.slice A nA cA, .int .i64 (mx : Int), .pointer (some ⟨t, 0, none⟩), .slice none 0 0, .slice none 0 0, .slice none 0 0] 77)).drew := ((Below.refl w.heap.size w).alloc (Nat.le_refl _) _).drew
    have hrow := (World.rowIs_alloc w #[.slice A nA cA, .int .i64 (mx : Int), .pointer (some ⟨t, 0, none⟩), .slice none 0 0, .slice none 0 0, .slice none 0 0] 77 (dfF (.slice A nA cA) mx t (.slice none 0 0) (.slice none 0 0) (.slice none 0 0)) (fun j hj => by
      have : j < 6 := hj
      unfold dfF
      match j, this with
      | 0, _ => rfl
      | 1, _ => rfl
      | 2, _ => rfl
      | 3, _ => rfl
      | 4, _ => rfl
      | 5, _ => rfl))
    obtain ⟨S', h1, h2, h3, h4, h5⟩ := HD.out
    have hlt := h2.lt
    have hnil : ∀ (P : Nat → Prop) k, (Value.slice none 0 0).ownBlock = some k → P k := fun P k hk => by simp [Value.ownBlock] at hk
    refine ⟨.slice A nA cA, t, .slice none 0 0, .slice none 0 0, .slice none 0 0, S', hrow.of_block rfl, Nat.le_refl _, hb1, fun W hW => HB.out.keep hW, St.nil _, St.nil _, Si.nil _, hnil _, hnil _, hnil _, fun hs => Nat.lt_irrefl _ (hlt _ hs),
      ⟨T, h2.keep hb1, rfl, rfl, by omega⟩, .inl ⟨rfl, rfl, hlt⟩⟩⟩
  clear d0 d1 d2 d3 e0 e1 e2 e3 c0 c1 c2 c3
  have hb1 : Below w.heap.size w (w.alloc (.cells #[.slice A nA cA, .int .i64 (mx : Int), .pointer (some ⟨t, 0, none⟩), .slice none 0 0, .slice none 0 0, .slice none 0 0] 77)).drew := HP.out.bel
  have HPC := Bx.mk (HD.out.keep hb1)
  obtain ⟨c0, c1, c2, c3⟩ := HPC.out.cells
  generalize (w.alloc (.cells #[.slice A nA cA, .int .i64 (mx : Int), .pointer (some ⟨t, 0, none⟩), .slice none 0 0, .slice none 0 0, .slice none 0 0] 77)).drew = wq at HP HPC c0 c1 c2 c3 ⊢
  have HQP : Bx (w.heap.size ≠ q) := ⟨by
    obtain ⟨S', h1, h2, h3, h4, h5⟩ := HD.out
    omega⟩
  have HSZ : Bx (∀ k, S k → k < w.heap.size) := ⟨HD.out.lt⟩
  generalize hpp : w.heap.size = p at HP HQP ⊢
  have HPP := Bx.mk hpp
  clear hb1 hpp
  go_wp2_with fail
  refine (read_any HP.out HC.out.1 HC.out.2.2.2 HC.out.2.2.1 HC.out.2.1).mono ?_
  rintro e w2 hp2
  obtain rfl := hp2.bool
  have hm2 := hp2.mem
  clear hp2 c0 c1 c2 c3
  obtain ⟨x, hx⟩ : ∃ x, ldec mx mu T l = x := ⟨_, rfl⟩
  rw [hx] at hm2 ⊢
  have HX := Bx.mk hx
  clear hx
  cases x with
  | none =>
    have HB2 : Bx (Below w.heap.size w w2) := ⟨hm2⟩
    have HP2 := Bx.mk (HD.out.keep HB2.out)
    obtain ⟨c0, c1, c2, c3⟩ := HP2.out.cells
    have f3 := HP2.out.free 3
    have HT : Bx (Turn (Pc q t T mx mu true) S w (w2.setCell ⟨q, 3, none⟩ (.bool true))) := ⟨Turn.step (fun k h => .inl h) (Fp.of_below HB2.out) (HP2.out.setBad true)⟩
    rw [show (none : Option Ls).isSome = false from rfl]
    clear hm2
    go_wp2_with fail
    go_ret2
    exact .inl ⟨HX.out, rfl, HT.out⟩
  | some s =>
    obtain ⟨rv, tp, fv, sv, av, S1, hd2⟩ := (show Df w p t T mx (owned s.ss s.ad) s.T s.ss s.ad s.out s.b w2 from hm2)
    have HI := Bx.mk (ldec_inv HC.out.2.2.1 HC.out.1 HX.out)
    have HP2 := Bx.mk (HD.out.keep hd2.bel)
    have HB2 := Bx.mk hd2.bel
    obtain ⟨c0, c1, c2, c3⟩ := HP2.out.cells
    obtain ⟨S0, k1, k2, k3, k4, k5⟩ := HP2.out
    have hS0 : ∀ k, S0 k → k < w.heap.size := fun k hk => HSZ.out k ((k4 k).2 (.inl hk))
    have HAP := Bx.mk (apply_any hd2 k2 hS0 (fun n hn => Nat.le_trans (HI.out.les n hn) HC.out.2.2.1) HI.out.two HI.out.small (by have := HC.out.2.1; have h1 := HI.out.adds; have h2 := HI.out.outs; omega))
    have HTAB : Bx ((T.sizes s.ss).adds s.ad = s.T) := ⟨HI.out.tab.symm⟩
    have HTP : Bx (∀ w3, Turn (Tb t s.T) S0 w2 w3 → Turn (Pc q t s.T mx mu false) S w2 w3) := ⟨fun w3 ht => Pc.tab1 k1 k2 k3 k4 k5 ht⟩
    have HFV : Bx (∀ k, fv.ownBlock = some k → w.heap.size ≤ k ∧ k < w2.heap.size) := ⟨fun k hk => ⟨(hd2.fb k hk).1, hd2.f.lt hk⟩⟩
    rw [show (some s : Option Ls).isSome = true from rfl]
    clear hm2 hd2 k1 k2 k3 k4 k5 hS0
    go_wp2_with fail
    refine HAP.out.mono ?_
    rintro e w3 ⟨rfl, ht3, hda⟩
    rw [HTAB.out] at ht3
    have hpc := HTP.out w3 ht3
    obtain ⟨S3, x3, s3, f3⟩ := hpc
    have HX3 := Bx.mk x3
    have HS3 := Bx.mk s3
    have HF3 := Bx.mk f3
    have hq2 := x3.free 2
    clear c0 c1 c2 c3
    obtain ⟨c0, c1, c2, c3⟩ := x3.cells
    have k3 := cell_other w3 ⟨q, 2, none⟩ ⟨p, 3, none⟩ (.bool false) HQP.out
    rw [hda.c3] at k3
    have hqS : ∀ k, fv.ownBlock = some k → k ≠ q := fun k hk e => by
      have h1 := (HFV.out k hk).1
      have h2 := HPP.out
      obtain ⟨_, _, _, _, _, h5⟩ := HD.out
      omega
    have HFS : Bx (Fs (w3.setCell ⟨q, 2, none⟩ (.bool false)) fv s.out) := ⟨(hda.f.kept fun k hk => Go.Deep.blk_setCell_other _ _ _ _ (hqS k hk)).fs⟩
    have HT : Bx (∃ S', (∀ k, fv.ownBlock = some k → w.heap.size ≤ k ∧ ¬ S' k ∧ k < (w3.setCell ⟨q, 2, none⟩ (.bool false)).heap.size) ∧ Pc q t s.T mx false false (w3.setCell ⟨q, 2, none⟩ (.bool false)) S' ∧ (∀ k, S' k → S k ∨ w.heap.size ≤ k) ∧ Fp S w (w3.setCell ⟨q, 2, none⟩ (.bool false))) := ⟨by
      obtain ⟨S4, x4, s4, f4⟩ := HX3.out.setMust false
      have h34 : ∀ k, S4 k → S k ∨ w2.heap.size ≤ k := fun k hk => (s4 k hk).elim (HS3.out k) fun h => .inr (Nat.le_trans HF3.out.size h)
      refine ⟨S4, fun k hk => ⟨(HFV.out k hk).1, fun hs => ?_, Nat.lt_of_lt_of_le (HFV.out k hk).2 (Nat.le_trans HF3.out.size f4.size)⟩, x4, fun k hk => (h34 k hk).elim .inl fun h => .inr (Nat.le_trans HB2.out.size h), ((Fp.of_below HB2.out).then HF3.out).trans f4 fun k hk => (HS3.out k hk).elim .inl fun h => .inr (Nat.le_trans HB2.out.size h)⟩
      obtain ⟨h1, h2⟩ := HFV.out k hk
      rcases h34 k hs with h | h
      · have := HSZ.out k h
        have := HPP.out
        omega
      · omega⟩
    clear hda x3 s3 f3 ht3 hqS
    go_wp2_with fail
    go_ret2
    exact .inr ⟨s, fv, HX.out, rfl, HFS.out, HT.out⟩

end Go.Proofs.Ytejkbibahbcofaa

/-
  What holds of the document's decoder while it reads a block; the calls that a line makes.
-/
namespace Go.Proofs.Ytejkbibahbcofaa
open Go.RowKit Go.Maps
set_option linter.unusedVariables false

/-- The memory: the decoder, the fields so far, what is left of the block. -/
structure Dr (q t mx : Nat) (mu : Bool) (S : Nat → Prop) (w : World) (T : Tab) (out : List Fd) (b : List UInt8) (bv ov : Value) (wx : World) : Prop where
  dc : ∃ S', Dc q t T mx mu false wx S' ∧ (∀ k, S' k → S k ∨ w.heap.size ≤ k) ∧ ∀ k, ov.ownBlock = some k → w.heap.size ≤ k ∧ ¬ S' k
  fp : Fp S w wx
  st : St wx ov out
  bs : ∀ W, Fp S w W → Bs W bv b
/-- What Decode comes to. -/
def DPost (q t mx : Nat) (mu : Bool) (T : Tab) (S : Nat → Prop) (w : World) (l : List UInt8) (e : Ending) (w' : World) : Prop :=
  (ldec mx mu T l = none ∧ e = .returned (.tuple #[.slice none 0 0, .int .i64 26]) ∧ ∃ T', Turn (Dc q t T' mx mu true) S w w') ∨
  ∃ s v, ldec mx mu T l = some s ∧ e = .returned (.tuple #[v, .int .i64 0]) ∧ Fs w' v s.out ∧ (∀ k, v.ownBlock = some k → w.heap.size ≤ k) ∧ Turn (Dc q t s.T mx false false) S w w'

section
variable {q t mx : Nat} {mu : Bool} {S : Nat → Prop} {w : World} {T : Tab} {out : List Fd} {b : List UInt8} {bv ov : Value} {wx wy : World}
theorem Dr.keep (h : Dr q t mx mu S w T out b bv ov wx) (hb : Below wx.heap.size wx wy) : Dr q t mx mu S w T out b bv ov wy := by
  obtain ⟨⟨S', h1, h2, h3⟩, h4, h5, h6⟩ := h
  exact ⟨⟨S', h1.keep hb, h2, h3⟩, h4.then (Fp.of_below hb), h5.keep hb, h6⟩
theorem Dr.bytes (h : Dr q t mx mu S w T out b bv ov wx) : Bs wx bv b := h.bs wx h.fp
theorem Dr.cells (h : Dr q t mx mu S w T out b bv ov wx) : wx.cell? ⟨q, 0, none⟩ = some (.pointer (some ⟨t, 0, none⟩)) ∧ wx.cell? ⟨q, 1, none⟩ = some (.int .i64 (mx : Int)) ∧ wx.cell? ⟨q, 2, none⟩ = some (.bool mu) ∧ wx.cell? ⟨q, 3, none⟩ = some (.bool false) := by
  obtain ⟨⟨S', h1, _⟩, _⟩ := h
  exact h1.cells
theorem Dr.free (h : Dr q t mx mu S w T out b bv ov wx) (i : Nat) : wx.frozen? ⟨q, i, none⟩ = false := by
  obtain ⟨⟨S', h1, _⟩, _⟩ := h
  exact h1.free i
theorem Dr.ok (h : Dr q t mx mu S w T out b bv ov wx) : T.ok := by
  obtain ⟨⟨S', h1, _⟩, _⟩ := h
  exact h1.ok
theorem Dr.rest (h : Dr q t mx mu S w T out b bv ov wx) {b' : List UInt8} {bv' : Value} (hb : ∀ W, Bs W bv b → Bs W bv' b') : Dr q t mx mu S w T out b' bv' ov wx :=
  ⟨h.dc, h.fp, h.st, fun W hW => hb W (h.bs W hW)⟩
theorem Dr.bad {T0 : Tab} {l : List UInt8} (h : Dr q t mx mu S w T out b bv ov wx) (hn : ldec mx mu T0 l = none) :
    Calls Try.prog 36 #[.pointer (some ⟨q, 0, none⟩)] wx fun e w' => e = .returned (.tuple #[.slice none 0 0, .int .i64 26]) ∧ DPost q t mx mu T0 S w l (.returned (.tuple #[.slice none 0 0, .int .i64 26])) w' := by
  obtain ⟨⟨S', h1, h2, h3⟩, h4, h5, h6⟩ := h
  refine (bad_any h1).mono ?_
  rintro e w2 ⟨rfl, ht⟩
  exact ⟨rfl, .inl ⟨hn, rfl, T, Turn.step h2 h4 ht⟩⟩
theorem Dc.tab1 {bd : Bool} {S S1 : Nat → Prop} {w w' : World} {T T' : Tab} (k1 : w.rowIs q 75 4 (dF t mx mu bd)) (k2 : Rt t T w S1) (k3 : ¬ S1 q) (k4 : ∀ k, S k ↔ S1 k ∨ k = q) (k5 : q < w.heap.size) (ht : Turn (Rt t T') S1 w w') :
    Turn (Dc q t T' mx mu bd) S w w' := by
  obtain ⟨S2, r2, s2, f2⟩ := ht
  have hsz := f2.size
  refine ⟨fun k => S2 k ∨ k = q, ⟨S2, k1.of_block (f2.block q k5 k3), r2, fun hq => ?_, fun k => Iff.rfl, by omega⟩, fun k hk => ?_, f2.mono fun k hk => (k4 k).2 (.inl hk)⟩
  · rcases s2 q hq with h | h
    · exact k3 h
    · omega
  · rcases hk with hk | rfl
    · rcases s2 k hk with h | h
      · exact .inl ((k4 k).2 (.inl h))
      · exact .inr h
    · exact .inl ((k4 k).2 (.inr rfl))
theorem Dr.of_turn {S' : Nat → Prop} {T' : Tab} (h2 : ∀ k, S' k → S k ∨ w.heap.size ≤ k) (h3 : ∀ k, ov.ownBlock = some k → w.heap.size ≤ k ∧ ¬ S' k) (h4 : Fp S w wx) (h5 : St wx ov out) (h6 : ∀ W, Fp S w W → Bs W bv b) (ht : Turn (Dc q t T' mx mu false) S' wx wy) :
    Dr q t mx mu S w T' out b bv ov wy := by
  obtain ⟨S2, x2, s2, f2⟩ := ht
  refine ⟨⟨S2, x2, fun k hk => ?_, fun k hk => ⟨(h3 k hk).1, fun hs => ?_⟩⟩, h4.trans f2 h2, h5.kept fun k hk => f2.block k (h5.lt hk) (h3 k hk).2, h6⟩
  · rcases s2 k hk with h | h
    · exact h2 k h
    · exact .inr (Nat.le_trans h4.size h)
  · rcases s2 k hs with h | h
    · exact (h3 k hk).2 h
    · have := h5.lt hk; omega
theorem Dr.resize (h : Dr q t mx mu S w T out b bv ov wx) (n : Nat) (hn : n ≤ 4096) :
    Calls Try.prog 37 #[.pointer (some ⟨t, 0, none⟩), .int .i64 (n : Int)] wx fun e w' => (∃ g : Nat, e = .returned (.int .i64 (g : Int))) ∧ Dr q t mx mu S w (T.resize (n : Int)) out b bv ov w' := by
  obtain ⟨⟨S', h1, h2, h3⟩, h4, h5, h6⟩ := h
  obtain ⟨S1, k1, k2, k3, k4, k5⟩ := h1
  refine (refResize_any k2 (n : Int) (by omega)).mono ?_
  rintro e w2 ⟨rfl, ht⟩
  exact ⟨⟨_, rfl⟩, Dr.of_turn h2 h3 h4 h5 h6 (Dc.tab1 k1 k2 k3 k4 k5 ht)⟩
theorem Dr.add (h : Dr q t mx mu S w T out b bv ov wx) (f1 f2 : ByteArray) (hf : fsz (f1, f2) ≤ 8192) (ht : T.tot + 1 ≤ 1000000) :
    Calls Try.prog 39 #[.pointer (some ⟨t, 0, none⟩), .agg #[.string f1, .string f2]] wx fun e w' => (∃ g : Nat, e = .returned (.int .i64 (g : Int))) ∧ Dr q t mx mu S w (T.add (f1, f2)) out b bv ov w' := by
  obtain ⟨⟨S', h1, h2, h3⟩, h4, h5, h6⟩ := h
  obtain ⟨S1, k1, k2, k3, k4, k5⟩ := h1
  refine (refAdd_any k2 (f1, f2) (by omega) ht).mono ?_
  rintro e w2 ⟨rfl, ht⟩
  exact ⟨⟨_, rfl⟩, Dr.of_turn h2 h3 h4 h5 h6 (Dc.tab1 k1 k2 k3 k4 k5 ht)⟩
theorem Dr.entry (h : Dr q t mx mu S w T out b bv ov wx) (i : Nat) (hi : i ≤ maxVar) :
    Calls Try.prog 38 #[.pointer (some ⟨q, 0, none⟩), .int .u64 (i : Int)] wx fun e w' => e = .returned (.tuple #[aggF (idxF T.l i), .bool (idxB T.l i)]) ∧ Below wx.heap.size wx w' := by
  obtain ⟨⟨S', h1, h2, h3⟩, h4, h5, h6⟩ := h
  exact dentry_any h1 i (by unfold maxVar at hi; omega)
/-- One field more. -/
theorem Dr.push (h : Dr q t mx mu S w T out b bv ov wx) {u : Value} {f : Fd} (hu : Fs wx u [f]) (hl : out.length ≤ 64) (ty : TypeId) :
    ∃ A n c w', (Builtin.append_ #[36, 36] ty #[ov, u]).run Try.prog wx = .ok (.slice A n c) w' ∧ Dr q t mx mu S w T (out ++ [f]) b bv (.slice A n c) w' ∧ ∀ g, w.heap.size ≤ g → ov.ownBlock ≠ some g → g < wx.heap.size → w'.heap[g]? = wx.heap[g]? := by
  obtain ⟨⟨S', h1, h2, h3⟩, h4, h5, h6⟩ := h
  obtain ⟨v', w', hrun, r1, r2, r3, _⟩ := h5.append hu (by omega) ty
  obtain ⟨A, n, c, rfl⟩ : ∃ A n c, v' = .slice A n c := by
    rcases r1 with ⟨rfl, _⟩ | ⟨g, o, cap, m, F, rfl, _⟩
    · exact ⟨_, _, _, rfl⟩
    · exact ⟨_, _, _, rfl⟩
  have hn : ∀ k, S' k → some k ≠ ov.ownBlock := fun k hk e => (h3 k e.symm).2 hk
  refine ⟨A, n, c, w', hrun, ⟨⟨S', h1.kept r2.size fun k hk => r2.block k (h1.lt k hk) (hn k hk), h2, fun k hk => ?_⟩, ?_, r1, h6⟩, fun g hg hne hlt => r2.block g hlt fun e => hne e.symm⟩
  · rcases r3 with e | ⟨g, e, hg⟩
    · exact h3 k (e ▸ hk)
    · rw [e] at hk
      injection hk with hk
      subst hk
      exact ⟨Nat.le_trans h4.size hg, fun hs => by have := h1.lt _ hs; omega⟩
  · refine ⟨r2.os.trans h4.os, r2.tape.trans h4.tape, r2.output.trans h4.output, Nat.le_trans h4.size r2.size, fun k hk hs => ?_⟩
    rw [r2.block k (Nat.lt_of_lt_of_le hk h4.size) fun e => by have := (h3 k e.symm).1; omega]
    exact h4.block k hk hs

/-- The same, beside a block G of the call's own that holds the field f. -/
def Dg (q t mx : Nat) (mu : Bool) (S : Nat → Prop) (w : World) (T : Tab) (out : List Fd) (b : List UInt8) (bv ov : Value) (G : Nat) (f : Fd) (wx : World) : Prop :=
  ∃ S', Dc q t T mx mu false wx S' ∧ (∀ k, S' k → S k ∨ w.heap.size ≤ k) ∧ (∀ k, ov.ownBlock = some k → w.heap.size ≤ k ∧ ¬ S' k) ∧ ¬ S' G ∧ ov.ownBlock ≠ some G ∧ w.heap.size ≤ G ∧ Fb 61 wx G f ∧ Fp S w wx ∧ St wx ov out ∧ ∀ W, Fp S w W → Bs W bv b
variable {G : Nat} {f : Fd}
theorem Dg.of (h : Dr q t mx mu S w T out b bv ov wx) : Dg q t mx mu S w T out b bv ov wx.heap.size emp (wx.alloc (.cells #[.string ⟨#[]⟩, .string ⟨#[]⟩] 61)) := by
  have hb := (Below.refl wx.heap.size wx).alloc (Nat.le_refl _) (.cells #[.string ⟨#[]⟩, .string ⟨#[]⟩] 61)
  obtain ⟨⟨S', h1, h2, h3⟩, h4, h5, h6⟩ := h
  exact ⟨S', h1.keep hb, h2, h3, fun hs => Nat.lt_irrefl _ (h1.lt _ hs), fun e => Nat.lt_irrefl _ (h5.lt e), h4.size, Fb.new _ wx emp, h4.then (Fp.of_below hb), h5.keep hb, h6⟩
theorem Dg.dr (h : Dg q t mx mu S w T out b bv ov G f wx) : Dr q t mx mu S w T out b bv ov wx := by
  obtain ⟨S', h1, h2, h3, _, _, _, _, h4, h5, h6⟩ := h
  exact ⟨⟨S', h1, h2, h3⟩, h4, h5, h6⟩
theorem Dg.fb (h : Dg q t mx mu S w T out b bv ov G f wx) : Fb 61 wx G f := by
  obtain ⟨S', _, _, _, _, _, _, h, _⟩ := h
  exact h
theorem Dg.keep (h : Dg q t mx mu S w T out b bv ov G f wx) (hb : Below wx.heap.size wx wy) : Dg q t mx mu S w T out b bv ov G f wy := by
  obtain ⟨S', h1, h2, h3, h7, h8, h9, h10, h4, h5, h6⟩ := h
  exact ⟨S', h1.keep hb, h2, h3, h7, h8, h9, h10.keep hb, h4.then (Fp.of_below hb), h5.keep hb, h6⟩
theorem Dg.rest (h : Dg q t mx mu S w T out b bv ov G f wx) {b' : List UInt8} {bv' : Value} (hb : ∀ W, Bs W bv b → Bs W bv' b') : Dg q t mx mu S w T out b' bv' ov G f wx := by
  obtain ⟨S', h1, h2, h3, h7, h8, h9, h10, h4, h5, h6⟩ := h
  exact ⟨S', h1, h2, h3, h7, h8, h9, h10, h4, h5, fun W hW => hb W (h6 W hW)⟩
theorem Dg.put (h : Dg q t mx mu S w T out b bv ov G f wx) (i : Nat) (a : ByteArray) {f' : Fd} (hf : Fb 61 (wx.setCell ⟨G, i, none⟩ (.string a)) G f') : Dg q t mx mu S w T out b bv ov G f' (wx.setCell ⟨G, i, none⟩ (.string a)) := by
  obtain ⟨S', h1, h2, h3, h7, h8, h9, h10, h4, h5, h6⟩ := h
  have hg := grown_set wx G i (.string a)
  refine ⟨S', h1.kept hg.size fun k hk => hg.block k (h1.lt k hk) (fun e => h7 (Option.some.inj e ▸ hk)), h2, h3, h7, h8, h9, hf, ?_, h5.grown hg (fun k hk e => h8 (by rw [hk, e])), h6⟩
  refine ⟨hg.os.trans h4.os, hg.tape.trans h4.tape, hg.output.trans h4.output, Nat.le_trans h4.size hg.size, fun k hk hs => ?_⟩
  rw [hg.block k (Nat.lt_of_lt_of_le hk h4.size) fun e => by injection e with e; omega]
  exact h4.block k hk hs
theorem Fb.put0 {ty : TypeId} {w : World} {g : Nat} {f : Fd} (h : Fb ty w g f) (a : ByteArray) : Fb ty (w.setCell ⟨g, 0, none⟩ (.string a)) g (a, f.2) := by
  unfold Fb at *
  simp [World.setCell, Array.getElem?_modify, h]
theorem Fb.put1 {ty : TypeId} {w : World} {g : Nat} {f : Fd} (h : Fb ty w g f) (a : ByteArray) : Fb ty (w.setCell ⟨g, 1, none⟩ (.string a)) g (f.1, a) := by
  unfold Fb at *
  simp [World.setCell, Array.getElem?_modify, h]
theorem Dg.put0 (h : Dg q t mx mu S w T out b bv ov G f wx) (a : ByteArray) : Dg q t mx mu S w T out b bv ov G (a, f.2) (wx.setCell ⟨G, 0, none⟩ (.string a)) := h.put 0 a (h.fb.put0 a)
theorem Dg.put1 (h : Dg q t mx mu S w T out b bv ov G f wx) (a : ByteArray) : Dg q t mx mu S w T out b bv ov G (f.1, a) (wx.setCell ⟨G, 1, none⟩ (.string a)) := h.put 1 a (h.fb.put1 a)
theorem Dg.push (h : Dg q t mx mu S w T out b bv ov G f wx) {u : Value} {x : Fd} (hu : Fs wx u [x]) (hl : out.length ≤ 64) (ty : TypeId) :
    ∃ A n c w', (Builtin.append_ #[36, 36] ty #[ov, u]).run Try.prog wx = .ok (.slice A n c) w' ∧ Dg q t mx mu S w T (out ++ [x]) b bv (.slice A n c) G f w' := by
  obtain ⟨S', h1, h2, h3, h7, h8, h9, h10, h4, h5, h6⟩ := h
  obtain ⟨v', w', hrun, r1, r2, r3, _⟩ := h5.append hu (by omega) ty
  obtain ⟨A, n, c, rfl⟩ : ∃ A n c, v' = .slice A n c := by
    rcases r1 with ⟨rfl, _⟩ | ⟨g, o, cap, m, F, rfl, _⟩
    · exact ⟨_, _, _, rfl⟩
    · exact ⟨_, _, _, rfl⟩
  have hn : ∀ k, S' k → some k ≠ ov.ownBlock := fun k hk e => (h3 k e.symm).2 hk
  refine ⟨A, n, c, w', hrun, S', h1.kept r2.size fun k hk => r2.block k (h1.lt k hk) (hn k hk), h2, fun k hk => ?_, h7, fun e => ?_, h9, h10.grown r2 (fun e => h8 e.symm), ?_, r1, h6⟩
  · rcases r3 with e | ⟨g, e, hg⟩
    · exact h3 k (e ▸ hk)
    · rw [e] at hk
      injection hk with hk
      subst hk
      exact ⟨Nat.le_trans h4.size hg, fun hs => by have := h1.lt _ hs; omega⟩
  · rcases r3 with e' | ⟨g, e', hg⟩
    · exact h8 (e' ▸ e)
    · rw [e'] at e
      injection e with e
      have := h10.lt
      omega
  · refine ⟨r2.os.trans h4.os, r2.tape.trans h4.tape, r2.output.trans h4.output, Nat.le_trans h4.size r2.size, fun k hk hs => ?_⟩
    rw [r2.block k (Nat.lt_of_lt_of_le hk h4.size) fun e => by have := (h3 k e.symm).1; omega]
    exact h4.block k hk hs

end

end Go.Proofs.Ytejkbibahbcofaa

/-
  The document's Decode, in pieces: its code, its frame; what holds between two lines.
-/
namespace Go.Proofs.Ytejkbibahbcofaa
open Go.RowKit Go.Maps
set_option linter.unusedVariables false

noncomputable def dcode : Code := (Try.f15).body.getD .skip
noncomputable def dfrom (n : Nat) : Code := (fromR n dcode).getD .skip
noncomputable def dstmt (n : Nat) : Code := (fromS n dcode).getD .skip
noncomputable def dcond (n : Nat) : Code := (condAt n dcode).getD .skip
noncomputable def dloop : Code := ((loopAt 0 dcode).1).getD .skip

set_option maxRecDepth 1000000 in
theorem dframe (a : Act) (hs : a.tmps.size = 232) (hd : a.defers = []) : ∃ u : Nat → Value, (∀ i, a.tmps.getD i undef = u i) ∧ a = ⟨#[u 0, u 1, u 2, u 3, u 4, u 5, u 6, u 7, u 8, u 9, u 10, u 11, u 12, u 13, u 14, u 15, u 16, u 17, u 18, u 19, u 20, u 21, u 22, u 23, u 24, u 25, u 26, u 27, u 28, u 29, u 30, u 31, u 32, u 33, u 34, u 35, u 36, u 37, u 38, u 39, u 40, u 41, u 42, u 43, u 44, u 45, u 46, u 47, u 48, u 49, u 50, u 51, u 52, u 53, u 54, u 55, u 56, u 57, u 58, u 59, u 60, u 61, u 62, u 63, u 64, u 65, u 66, u 67, u 68, u 69, u 70, u 71, u 72, u 73, u 74, u 75, u 76, u 77, u 78, u 79, u 80, u 81, u 82, u 83, u 84, u 85, u 86, u 87, u 88, u 89, u 90, u 91, u 92, u 93, u 94, u 95, u 96, u 97, u 98, u 99, u 100, u 101, u 102, u 103, u 104, u 105, u 106, u 107, u 108, u 109, u 110, u 111, u 112, u 113, u 114, u 115, u 116, u 117, u 118, u 119, u 120, u 121, u 122, u 123, u 124, u 125, u 126, u 127, u 128, u 129, u 130, u 131, u 132, u 133, u 134, u 135, u 136, u 137, u 138, u 139, u 140, u 141, u 142, u 143, u 144, u 145, u 146, u 147, u 148, u 149, u 150, u 151, u 152, u 153, u 154, u 155, u 156, u 157, u 158, u 159, u 160, u 161, u 162, u 163, u 164, u 165, u 166, u 167, u 168, u 169, u 170, u 171, u 172, u 173, u 174, u 175, u 176, u 177, u 178, u 179, u 180, u 181, u 182, u 183, u 184, u 185, u 186, u 187, u 188, u 189, u 190, u 191, u 192, u 193, u 194, u 195, u 196, u 197, u 198, u 199, u 200, u 201, u 202, u 203, u 204, u 205, u 206, u 207, u 208, u 209, u 210, u 211, u 212, u 213, u 214, u 215, u 216, u 217, u 218, u 219, u 220, u 221, u 222, u 223, u 224, u 225, u 226, u 227, u 228, u 229, u 230, u 231], []⟩ :=
  ⟨fun i => a.tmps.getD i undef, fun _ => rfl, frame_eta 232 a hs hd⟩

/-- The slots that are read on: the decoder, the block, the fields, how many sizes. -/
structure At15 (a : Act) (q : Nat) (bw ow : Value) (ns : Nat) : Prop where
  d : a.defers = []
  s : a.tmps.size = 232
  t0 : a.tmps.getD 0 undef = .pointer (some ⟨q, 0, none⟩)
  t1 : a.tmps.getD 1 undef = bw
  t6 : a.tmps.getD 6 undef = ow
  t7 : a.tmps.getD 7 undef = .int .i64 (ns : Int)
theorem mask_facts : ∀ c, c < 256 → (c &&& 224 = 32 ↔ c / 32 = 1) ∧ (c &&& 128 = 0 ↔ c < 128) ∧ (c < 128 → (c &&& 64 = 0 ↔ c < 64)) := by decide +kernel
theorem and_128 : ∀ c, c < 256 → 128 ≤ c → c &&& 128 = 128 := by decide +kernel
theorem and_64 : ∀ c, c < 128 → 64 ≤ c → c &&& 64 = 64 := by decide +kernel
theorem and_128' : ∀ c, c < 128 → c &&& 128 = 0 := by decide +kernel
theorem and_64' : ∀ c, c < 64 → c &&& 64 = 0 := by decide +kernel
theorem idx_zero (L : List Fd) : idxF L 0 = emp := by unfold idxF; rw [if_pos (by omega)]; unfold entF; rw [dif_neg (by omega)]
theorem idxB_zero (L : List Fd) : idxB L 0 = false := by unfold idxB; rw [if_pos (by omega)]; unfold isF; simp
theorem u8_mask (c m : Nat) (hc : c < 256) (hm : m < 256) : bits .and .u8 (c : Int) (m : Int) = ((c &&& m : Nat) : Int) := u8_and_nat _ _ (by omega) (by omega)

section
variable {mx : Nat} {mu : Bool} {T0 T1 : Tab} {ss : List Nat} {ad out : List Fd} {b l : List UInt8}
theorem ldec_end (h : lrun mx mu ⟨T1, ss, ad, out, []⟩ = lrun mx mu ⟨T0, [], [], [], l⟩) : ldec mx mu T0 l = if mu = true ∧ ss = [] then none else some ⟨T1, ss, ad, out, []⟩ := by
  unfold ldec
  rw [← h, lrun_nil rfl]
theorem ldec_bad (h : lrun mx mu ⟨T1, ss, ad, out, b⟩ = lrun mx mu ⟨T0, [], [], [], l⟩) (hb : b ≠ []) (hn : lstep mx mu ⟨T1, ss, ad, out, b⟩ = none) : ldec mx mu T0 l = none := by
  unfold ldec
  rw [← h, lrun_bad hb hn]
theorem lit_step {s : Ls} {cn kb : Nat} (hh : headN s.b = cn) (hc : ¬ 128 ≤ cn) (hk : (if 64 ≤ cn then 6 else 4) = kb) : fdStep s = match litP kb s.T.l s.b with
    | none => none
    | some (f, r') => if 64 ≤ cn then some ⟨s.T.add f, s.ss, s.ad ++ [f], s.out ++ [f], r'⟩ else some ⟨s.T, s.ss, s.ad, s.out ++ [f], r'⟩ := by
  unfold fdStep
  rw [hh, if_neg hc]
  by_cases h : 64 ≤ cn
  · rw [if_pos h] at hk ⊢
    subst hk
    unfold adStep
    cases litP 6 s.T.l s.b <;> simp [h]
  · rw [if_neg h] at hk ⊢
    subst hk
    unfold plStep
    cases litP 4 s.T.l s.b <;> simp [h]
theorem next_of (hmx : mx ≤ 4096) {s s' : Ls} {R : Option Ls} (hi : s.inv mx T0) (hr : lrun mx mu s = R) (hb : s.b ≠ []) (hs : lstep mx mu s = some s') : s'.inv mx T0 ∧ s'.b.length < s.b.length ∧ lrun mx mu s' = R := by
  obtain ⟨h1, h2⟩ := inv_step hmx hi hs
  exact ⟨h1, h2, by rw [← hr, lrun_next hb hs h2]⟩
end

section
variable {q t mx : Nat} {mu : Bool} {T0 : Tab} {S : Nat → Prop} {w : World} {l : List UInt8}
/-- Between two lines. -/
structure Rel (q t mx : Nat) (mu : Bool) (T0 : Tab) (S : Nat → Prop) (w : World) (l : List UInt8) (T1 : Tab) (ss : List Nat) (ad out : List Fd) (b : List UInt8) (bw ow : Value) (wx : World) : Prop where
  dr : Dr q t mx mu S w T1 out b bw ow wx
  inv : Ls.inv mx T0 ⟨T1, ss, ad, out, b⟩
  run : lrun mx mu ⟨T1, ss, ad, out, b⟩ = lrun mx mu ⟨T0, [], [], [], l⟩
  len : b.length ≤ 100000
  mx4 : mx ≤ 4096
  tot : T0.tot + 64 ≤ 1000000
/-- A return with the error. -/
def Fails (q t mx : Nat) (mu : Bool) (T0 : Tab) (S : Nat → Prop) (w : World) (l : List UInt8) (a : Act) (w' : World) : Prop :=
  a.defers = [] ∧ a.tmps.getD 4 undef = .slice none 0 0 ∧ a.tmps.getD 5 undef = .int .i64 26 ∧ DPost q t mx mu T0 S w l (.returned (.tuple #[.slice none 0 0, .int .i64 26])) w'
/-- The next line, shorter than n. -/
def Goes (q t mx : Nat) (mu : Bool) (T0 : Tab) (S : Nat → Prop) (w : World) (l : List UInt8) (n : Nat) (a : Act) (w' : World) : Prop :=
  ∃ T1 ss ad out b bw ow, At15 a q bw ow ss.length ∧ Rel q t mx mu T0 S w l T1 ss ad out b bw ow w' ∧ b.length < n
theorem Rel.next {T1 T2 : Tab} {ss ss2 : List Nat} {ad ad2 out out2 : List Fd} {b b2 : List UInt8} {bw ow bw2 ow2 : Value} {wx wy : World} (h : Rel q t mx mu T0 S w l T1 ss ad out b bw ow wx) (hb : b ≠ [])
    (hs : lstep mx mu ⟨T1, ss, ad, out, b⟩ = some ⟨T2, ss2, ad2, out2, b2⟩) (hd : Dr q t mx mu S w T2 out2 b2 bw2 ow2 wy) : Rel q t mx mu T0 S w l T2 ss2 ad2 out2 b2 bw2 ow2 wy ∧ b2.length < b.length := by
  obtain ⟨h1, h2, h3⟩ := next_of h.mx4 h.inv h.run hb hs
  simp only at h2
  exact ⟨⟨hd, h1, h3, by have := h.len; omega, h.mx4, h.tot⟩, h2⟩
theorem Rel.none_ {T1 : Tab} {ss : List Nat} {ad out : List Fd} {b : List UInt8} {bw ow : Value} {wx : World} (h : Rel q t mx mu T0 S w l T1 ss ad out b bw ow wx) (hb : b ≠ [])
    (hs : lstep mx mu ⟨T1, ss, ad, out, b⟩ = none) : ldec mx mu T0 l = none := ldec_bad h.run hb hs
end

end Go.Proofs.Ytejkbibahbcofaa
