/-
  Texts put together: QqD, QqE, QqF.
-/
import Derived.Test.YtebakjdeighdnaaGreatM42

/-
  The draft's field: an entry stands.
-/
namespace Go.Proofs.YtebakjdeighdnaaGreat
open Go.RowKit Go.Maps
set_option linter.unusedVariables false

section
variable {q p N N' s d : Nat} {E : Qe} {S : Nat → Prop} {w wx wy : World} {a a' : Qa} {ins ins' : List UInt8} {pl pl' : List Nat} {ln ln' : List (Ql × Value)} {oV pV lV oV' pV' lV' : Value} {e T : Nat → Prop}
set_option maxRecDepth 100000 in
set_option maxHeartbeats 8000000 in
theorem dfield_lit2 (h : Dr q p N s d E S w a ins pl ln oV pV lV e T wx) (f : Fd) (hf : SizedS f) (hz1 : f.1.size ≤ 20000) (hz2 : f.2.size ≤ 20000) (hW : (findS T3 f).2.2 = false) (hSt : (findT a.T.l a.T.first f).2.2 = true) (hs : okU s) (hji : okU (findT a.T.l a.T.first f).1) (hinv : E.K < a.c → freeQ E.op E.K E.B s = true) (hop : ∀ x ∈ E.op, x.s < 18446744073709551616) (hU : (decide ((findT a.T.l a.T.first f).1 < E.K) || freeQ E.op E.K E.B s) = false) (hln : ln.length ≤ 100000) :
    Calls Tryz.prog 25 #[.pointer (some ⟨d, 0, none⟩), .agg #[.string f.1, .string f.2]] wx fun r w' => r = .returned (.tuple #[]) ∧
      ∃ v lV' T', Dr q p N s d E S w (a.line (litQ f)) ins pl (ln ++ [(litQ f, v)]) oV pV lV' e T' w' := by
  have hlt := findS_lt3 f
  have HFIND : Bx (∀ W, Calls Tryz.prog 50 #[.agg #[.string f.1, .string f.2]] W fun e w' => e = .returned (.tuple #[.int .u64 ((findS T3 f).1 : Int), .bool (findS T3 f).2.1, .bool false]) ∧ Below W.heap.size W w') := ⟨fun W => by rw [← hW, ← findP_S]; exact findH3_any f W hf⟩
  have HLIT := Bx.mk (fun W => qliteral_any (findS T3 f).1 (findS T3 f).2.1 f hlt hz1 hz2 W)
  rw [litB_W] at HLIT
  have HFT : Bx (∀ W, Below wx.heap.size wx W → Calls Tryz.prog 52 #[.pointer (some ⟨p, 0, none⟩), .agg #[.string f.1, .string f.2]] W fun r w' => r = .returned (.tuple #[.int .u64 ((findT a.T.l a.T.first f).1 : Int), .bool (findT a.T.l a.T.first f).2.1, .bool true]) ∧ Below W.heap.size W w') := ⟨fun W hW => by rw [← hSt]; exact pdfind (h.keep hW).enc f hf⟩
  have HMU : Bx (∀ W, Below wx.heap.size wx W → Calls Tryz.prog 57 #[.pointer (some ⟨q, 0, none⟩), .int .u64 (s : Int), .int .u64 ((findT a.T.l a.T.first f).1 : Int)] W fun r w' => r = .returned (.bool false) ∧ Below W.heap.size W w') := ⟨fun W hW => by rw [← hU]; exact pdmayUse (h.keep hW).enc hs hji hinv hop⟩
  have HPUSH := Bx.mk (fun (wz w4 : World) (v : Value) (hz : Below wx.heap.size wx wz) (hb : Below wz.heap.size wz w4) (ho : OwB w4 wz.heap.size v (lineW 0 (litQ f))) (ty : TypeId) => (h.keep hz).pushO hb ho (litQ_k f) (by omega) ty)
  have HC := Bx.mk (fun (wz : World) (hz : Below wx.heap.size wx wz) => (h.keep hz).cells)
  have HE := Bx.mk (fun (wz : World) (hz : Below wx.heap.size wx wz) => (h.keep hz).ecell)
  obtain ⟨y, hy⟩ : ∃ y, litQ f = y := ⟨_, rfl⟩
  obtain ⟨i, hi⟩ : ∃ i, (findS T3 f).1 = i := ⟨_, rfl⟩
  obtain ⟨nm, hnm⟩ : ∃ nm, (findS T3 f).2.1 = nm := ⟨_, rfl⟩
  obtain ⟨j, hj⟩ : ∃ j, (findT a.T.l a.T.first f).1 = j := ⟨_, rfl⟩
  obtain ⟨jn, hjn⟩ : ∃ jn, (findT a.T.l a.T.first f).2.1 = jn := ⟨_, rfl⟩
  simp only [hi, hnm, hj, hjn, hy] at HFIND HLIT HFT HPUSH HMU ⊢
  obtain ⟨I, hI⟩ := letter i
  obtain ⟨J, hJ⟩ := letter j
  obtain ⟨SS, hSS⟩ := letter s
  obtain ⟨f1, f2⟩ := f
  simp only [hI, hJ, hSS] at HFIND HPUSH HLIT HFT HMU HC
  have HB0 := Bx.mk ((Below.refl wx.heap.size wx).alloc (Nat.le_refl _) (.cells #[.string f1, .string f2] 53))
  have HF0 := Bx.mk (Fb.new 53 wx (f1, f2))
  obtain ⟨g, hg⟩ : ∃ g, wx.heap.size = g := ⟨_, rfl⟩
  rw [hg] at HF0
  obtain ⟨e1, e2⟩ := HF0.out.cells
  simp only at e1 e2
  clear h hf hW hln hlt hi hnm hI hJ hSS hj hjn hy hz1 hz2 hSt hs hji hinv hop hU
  go_enter Tryz.func25, Tryz.ntmps25
  go_wp2_with (first
    | (go_at_call 50; refine (HFIND.out _).mono ?_; rintro r w1 ⟨rfl, hb1⟩; have HB1 := Bx.mk (HB0.out.trans (hb1.mono HB0.out.size)); have HF1 := Bx.mk (HF0.out.keep hb1); have c0 := (HC.out w1 HB1.out).1; have c1 := HE.out w1 HB1.out; obtain ⟨e1, e2⟩ := HF1.out.cells; simp only at e1 e2; clear hb1)
    | (go_at_call 52; refine (HFT.out _ HB1.out).mono ?_; rintro r w2 ⟨rfl, hb2⟩; have HB2 := Bx.mk (HB1.out.trans (hb2.mono HB1.out.size)); have HF2 := Bx.mk (HF1.out.keep hb2); clear hb2 c0 c1 e1 e2))
  go_quiet (fail)
  go_wp2_with fail
  have HB4 := Bx.mk (below_drewN HB2.out nq)
  have HF4 : Bx (Fb 53 (w2.drewN nq) g (f1, f2)) := ⟨HF2.out⟩
  generalize w2.drewN nq = w4 at HB4 HF4 ⊢
  clear HF2 HB2 HB1 HF1
  have hS4 : Below wx.heap.size wx w4 ∧ w4.cell? ⟨d, 0, none⟩ = some (.pointer (some ⟨q, 0, none⟩)) ∧ w4.cell? ⟨d, 1, none⟩ = some (.int .u64 SS) := ⟨HB4.out, (HC.out w4 HB4.out).1, (HC.out w4 HB4.out).2.1⟩
  go_region_held (fun W => Below wx.heap.size wx W ∧ W.cell? ⟨d, 0, none⟩ = some (.pointer (some ⟨q, 0, none⟩)) ∧ W.cell? ⟨d, 1, none⟩ = some (.int .u64 SS)) (first | assumption | exact ⟨HB4.out.drew, hS4.2.1, hS4.2.2⟩) (first
    | (go_at_call 57; refine (HMU.out _ (HB4.out.drew)).mono ?_; rintro r w3 ⟨rfl, hb3⟩; have HB3 := Bx.mk (HB4.out.drew.trans (hb3.mono HB4.out.drew.size)); have HF3 := Bx.mk ((HF4.out.keep (Below.refl _ _).drew).keep hb3); have hS3 : Below wx.heap.size wx w3 ∧ w3.cell? ⟨d, 0, none⟩ = some (.pointer (some ⟨q, 0, none⟩)) ∧ w3.cell? ⟨d, 1, none⟩ = some (.int .u64 SS) := ⟨HB3.out, (HC.out w3 HB3.out).1, (HC.out w3 HB3.out).2.1⟩; clear hb3))
  clear hS3 hS4 HF4 HB4
  obtain ⟨k0, _, _, _, k4, _⟩ := HC.out w3 HB3.out
  obtain ⟨e5, e6⟩ := HF3.out.cells
  simp only at e5 e6
  go_wp2_with fail
  go_region_law (first
    | (refine step_append_run rfl (.tmp 92) (.tmp 98) 69 rfl lV _ rfl rfl r6 ?_)
    | (go_simp; go_at_call 59; refine (HLIT.out _).mono ?_; rintro r w5 ⟨v5, rfl, ho5, b5⟩; obtain ⟨vA, vn, vc, rfl⟩ := ho5.shape; have HB5 := Bx.mk (((Below.refl w3.heap.size w3).drew).trans b5); obtain ⟨m0, _, _, _, m4, _⟩ := HC.out w5 (HB3.out.trans (HB5.out.mono HB3.out.size)); obtain ⟨lA, lc, w6, r6, n4, kk4, kf, kk0, lV', T', hd6⟩ := HPUSH.out w3 w5 _ HB3.out HB5.out ho5 69; have HD6 := Bx.mk hd6; clear hd6))
  all_goals go_wp2_with fail
  all_goals go_end0
  all_goals exact ⟨rfl, _, _, _, HD6.out⟩
end
end Go.Proofs.YtebakjdeighdnaaGreat

/-
  The draft's field: an entry stands.
-/
namespace Go.Proofs.YtebakjdeighdnaaGreat
open Go.RowKit Go.Maps
set_option linter.unusedVariables false

section
variable {q p N N' s d : Nat} {E : Qe} {S : Nat → Prop} {w wx wy : World} {a a' : Qa} {ins ins' : List UInt8} {pl pl' : List Nat} {ln ln' : List (Ql × Value)} {oV pV lV oV' pV' lV' : Value} {e T : Nat → Prop}
set_option maxRecDepth 100000 in
set_option maxHeartbeats 8000000 in
theorem dfield_use1 (h : Dr q p N s d E S w a ins (uq a.u) ln oV pV lV e T wx) (f : Fd) (hf : SizedS f) (hz1 : f.1.size ≤ 20000) (hz2 : f.2.size ≤ 20000) (hW : (findS T3 f).2.2 = false) (hSt : (findT a.T.l a.T.first f).2.2 = true) (hs : okU s) (hji : okU (findT a.T.l a.T.first f).1) (hinv : E.K < a.c → freeQ E.op E.K E.B s = true) (hop : ∀ x ∈ E.op, x.s < 18446744073709551616) (hU : (decide ((findT a.T.l a.T.first f).1 < E.K) || freeQ E.op E.K E.B s) = true) (hln : ln.length ≤ 100000) (hN : N + 2 ≤ 1000000000) (hop2 : E.op.length ≤ 100000) (hUc : ∀ x ∈ E.op ++ [⟨s, a.c, a.u⟩], x.c ≤ 1000000) (hpl : (uq a.u).length ≤ 100000) (hj6 : (findT a.T.l a.T.first f).1 ≤ 1000000) :
    Calls Tryz.prog 25 #[.pointer (some ⟨d, 0, none⟩), .agg #[.string f.1, .string f.2]] wx fun r w' => r = .returned (.tuple #[]) ∧
      ∃ pV' lV' e' T', Dr q p (N + 2) s d E S w (a.ref f (findT a.T.l a.T.first f).1) ins (uq (a.u ++ [(findT a.T.l a.T.first f).1])) (ln ++ [(⟨1, (findT a.T.l a.T.first f).1, f⟩, .slice none 0 0)]) oV pV' lV' e' T' w' := by
  have hlt := findS_lt3 f
  have HFIND : Bx (∀ W, Calls Tryz.prog 50 #[.agg #[.string f.1, .string f.2]] W fun e w' => e = .returned (.tuple #[.int .u64 ((findS T3 f).1 : Int), .bool (findS T3 f).2.1, .bool false]) ∧ Below W.heap.size W w') := ⟨fun W => by rw [← hW, ← findP_S]; exact findH3_any f W hf⟩
  have HLIT := Bx.mk (fun W => qliteral_any (findS T3 f).1 (findS T3 f).2.1 f hlt hz1 hz2 W)
  rw [litB_W] at HLIT
  have HFT : Bx (∀ W, Below wx.heap.size wx W → Calls Tryz.prog 52 #[.pointer (some ⟨p, 0, none⟩), .agg #[.string f.1, .string f.2]] W fun r w' => r = .returned (.tuple #[.int .u64 ((findT a.T.l a.T.first f).1 : Int), .bool (findT a.T.l a.T.first f).2.1, .bool true]) ∧ Below W.heap.size W w') := ⟨fun W hW => by rw [← hSt]; exact pdfind (h.keep hW).enc f hf⟩
  have HMU : Bx (∀ W, Below wx.heap.size wx W → Calls Tryz.prog 57 #[.pointer (some ⟨q, 0, none⟩), .int .u64 (s : Int), .int .u64 ((findT a.T.l a.T.first f).1 : Int)] W fun r w' => r = .returned (.bool true) ∧ Below W.heap.size W w') := ⟨fun W hW => by rw [← hU]; exact pdmayUse (h.keep hW).enc hs hji hinv hop⟩
  have HUSE := Bx.mk (fun (W : World) (hW : Below wx.heap.size wx W) => duse_any (h.keep hW) hN hs hj6 hop2 hUc hpl hln f)
  have HC := Bx.mk (fun (wz : World) (hz : Below wx.heap.size wx wz) => (h.keep hz).cells)
  have HE := Bx.mk (fun (wz : World) (hz : Below wx.heap.size wx wz) => (h.keep hz).ecell)
  obtain ⟨y, hy⟩ : ∃ y, litQ f = y := ⟨_, rfl⟩
  obtain ⟨i, hi⟩ : ∃ i, (findS T3 f).1 = i := ⟨_, rfl⟩
  obtain ⟨nm, hnm⟩ : ∃ nm, (findS T3 f).2.1 = nm := ⟨_, rfl⟩
  obtain ⟨j, hj⟩ : ∃ j, (findT a.T.l a.T.first f).1 = j := ⟨_, rfl⟩
  obtain ⟨jn, hjn⟩ : ∃ jn, (findT a.T.l a.T.first f).2.1 = jn := ⟨_, rfl⟩
  simp only [hi, hnm, hj, hjn, hy] at HFIND HLIT HFT HUSE HMU ⊢
  obtain ⟨I, hI⟩ := letter i
  obtain ⟨J, hJ⟩ := letter j
  obtain ⟨SS, hSS⟩ := letter s
  obtain ⟨f1, f2⟩ := f
  simp only [hI, hJ, hSS] at HFIND HUSE HLIT HFT HMU HC
  have HB0 := Bx.mk ((Below.refl wx.heap.size wx).alloc (Nat.le_refl _) (.cells #[.string f1, .string f2] 53))
  have HF0 := Bx.mk (Fb.new 53 wx (f1, f2))
  obtain ⟨g, hg⟩ : ∃ g, wx.heap.size = g := ⟨_, rfl⟩
  rw [hg] at HF0
  obtain ⟨e1, e2⟩ := HF0.out.cells
  simp only at e1 e2
  clear h hf hW hln hlt hi hnm hI hJ hSS hj hjn hy hz1 hz2 hSt hs hji hinv hop hU hN hop2 hUc hpl hj6
  go_enter Tryz.func25, Tryz.ntmps25
  go_wp2_with (first
    | (go_at_call 50; refine (HFIND.out _).mono ?_; rintro r w1 ⟨rfl, hb1⟩; have HB1 := Bx.mk (HB0.out.trans (hb1.mono HB0.out.size)); have HF1 := Bx.mk (HF0.out.keep hb1); have c0 := (HC.out w1 HB1.out).1; have c1 := HE.out w1 HB1.out; obtain ⟨e1, e2⟩ := HF1.out.cells; simp only at e1 e2; clear hb1)
    | (go_at_call 52; refine (HFT.out _ HB1.out).mono ?_; rintro r w2 ⟨rfl, hb2⟩; have HB2 := Bx.mk (HB1.out.trans (hb2.mono HB1.out.size)); have HF2 := Bx.mk (HF1.out.keep hb2); clear hb2 c0 c1 e1 e2))
  go_quiet (fail)
  go_wp2_with fail
  have HB4 := Bx.mk (below_drewN HB2.out nq)
  have HF4 : Bx (Fb 53 (w2.drewN nq) g (f1, f2)) := ⟨HF2.out⟩
  generalize w2.drewN nq = w4 at HB4 HF4 ⊢
  clear HF2 HB2 HB1 HF1
  have hS4 : Below wx.heap.size wx w4 ∧ w4.cell? ⟨d, 0, none⟩ = some (.pointer (some ⟨q, 0, none⟩)) ∧ w4.cell? ⟨d, 1, none⟩ = some (.int .u64 SS) := ⟨HB4.out, (HC.out w4 HB4.out).1, (HC.out w4 HB4.out).2.1⟩
  go_region_held (fun W => Below wx.heap.size wx W ∧ W.cell? ⟨d, 0, none⟩ = some (.pointer (some ⟨q, 0, none⟩)) ∧ W.cell? ⟨d, 1, none⟩ = some (.int .u64 SS)) (first | assumption | exact ⟨HB4.out.drew, hS4.2.1, hS4.2.2⟩) (first
    | (go_at_call 57; refine (HMU.out _ (HB4.out.drew)).mono ?_; rintro r w3 ⟨rfl, hb3⟩; have HB3 := Bx.mk (HB4.out.drew.trans (hb3.mono HB4.out.drew.size)); have HF3 := Bx.mk ((HF4.out.keep (Below.refl _ _).drew).keep hb3); have hS3 : Below wx.heap.size wx w3 ∧ w3.cell? ⟨d, 0, none⟩ = some (.pointer (some ⟨q, 0, none⟩)) ∧ w3.cell? ⟨d, 1, none⟩ = some (.int .u64 SS) := ⟨HB3.out, (HC.out w3 HB3.out).1, (HC.out w3 HB3.out).2.1⟩; clear hb3))
  clear hS3 hS4 HF4 HB4
  go_wp2_with (go_at_call 58; refine (HUSE.out w3 HB3.out).mono ?_; rintro r w9 ⟨rfl, hd9⟩; have HD9 := Bx.mk hd9; clear hd9)
  refine bodyPost_ret (results_none rfl _ _ _) rfl ?_
  exact ⟨rfl, HD9.out⟩
end
end Go.Proofs.YtebakjdeighdnaaGreat

/-
  The draft's field: an order more, an entry more.
-/
namespace Go.Proofs.YtebakjdeighdnaaGreat
open Go.RowKit Go.Maps
set_option linter.unusedVariables false

section
variable {q p N N' s d : Nat} {E : Qe} {S : Nat → Prop} {w wx wy : World} {a a' : Qa} {ins ins' : List UInt8} {pl pl' : List Nat} {ln ln' : List (Ql × Value)} {oV pV lV oV' pV' lV' : Value} {e T : Nat → Prop}
/-- A field's own block is none of the draft's. -/
theorem Dr.fbo (h : Dr q p N s d E S w a ins pl ln oV pV lV e T wx) {g : Nat} {f : Fd} (hf : Fb 53 wx g f) : oV.ownBlock ≠ some g ∧ g ≠ d := by
  unfold Fb at hf
  constructor
  · intro hh
    obtain ⟨c, hc⟩ := own_blk h.o hh
    rw [hc] at hf
    injection hf with hf
    injection hf with _ e _
    exact absurd e (by decide)
  · rintro rfl
    obtain ⟨c, hc, _⟩ := h.row
    rw [hc] at hf
    injection hf with hf
    injection hf with _ e _
    exact absurd e (by decide)
theorem Dr.order {w4 : World} (h : Dr q p N s d E S w a ins pl ln oV pV lV e T wx) (hb : Below wx.heap.size wx w4) {v : Value} {l : List UInt8} {B : Nat} (ho : OwB w4 B v l) (hl : ins.length + l.length ≤ 1000000000) (ty : TypeId) :
    ∃ A n c w6, (Builtin.append_ #[23, 23] ty #[oV, v]).run Tryz.prog w4 = .ok (.slice A n c) w6 ∧
      w6.cell? ⟨d, 2, none⟩ = some oV ∧ w6.frozen? ⟨d, 2, none⟩ = false ∧ w6.cell? ⟨d, 0, none⟩ = some (.pointer (some ⟨q, 0, none⟩)) ∧
      Dr q p N s d E S w a (ins ++ l) pl ln (.slice A n c) pV lV e T (w6.setCell ⟨d, 2, none⟩ (.slice A n c)) ∧
      ∀ g f, Fb 53 w4 g f → Fb 53 (w6.setCell ⟨d, 2, none⟩ (.slice A n c)) g f := by
  have h4 := h.keep hb
  obtain ⟨i0, hi, hz, hz1, hz2⟩ := info_parts infoU8
  have hrn : Rn 1 w4 v (l.map bv).length (l.map bv) := (Ob.own ho).get
  have hfp := h4.fp.size
  obtain ⟨A, c, w6, r1, r2, r3, r4, r5⟩ := run_append_full (P := Tryz.prog) w4 1 (by omega) w.heap.size 23 ty 5 i0 (.int .u8 0) 1 Tryz.underlying23 hi hz hz1 hz2 rfl oV v (ins.map bv).length (l.map bv).length _ _ h4.o hrn
    (by intro x hx; exact one_bv x hx) (by simp only [List.length_map]; omega) (by simp only [List.length_map]; unfold maxLen; omega) hfp
  have hrow := h4.at2 r4
  have ho2 : OwB w6 w.heap.size (.slice A ((ins.map bv).length + (l.map bv).length) c) (ins ++ l) := OwB.cat (by rw [List.length_append]; exact r2)
  refine ⟨A, _, c, w6, r1, hrow.cell (i := 2) (by omega), hrow.frozen 2, hrow.cell (i := 0) (by omega), h4.ord r4 r5 ho2, fun g f hf => ?_⟩
  obtain ⟨n1, n2⟩ := h4.fbo hf
  exact (hf.grown r4 (fun hh => n1 hh.symm)).besides (fp_set d 2 _ w6) n2
theorem Dr.add {w4 : World} (h : Dr q p N s d E S w a ins pl ln oV pV lV e T wx) (hb : Below wx.heap.size wx w4) (f : Fd) (ht : a.T.tot + 1 ≤ 1000000) (hz : fsz f ≤ 1000000) :
    Calls Tryz.prog 55 #[.pointer (some ⟨p, 0, none⟩), .slice (some ⟨w4.heap.size, 0, none⟩) 1 1] (w4.alloc (.cells #[.string f.1, .string f.2] 53)) fun r w' => (∃ x, r = .returned x) ∧ (∃ e', Dr q p N s d E S w (a.insd f) ins pl ln oV pV lV e' T w') ∧ ∀ g f', ¬ e g → Fb 53 (w4.alloc (.cells #[.string f.1, .string f.2] 53)) g f' → Fb 53 w' g f' := by
  have hb5 := (Below.refl w4.heap.size w4).alloc (Nat.le_refl _) (.cells #[.string f.1, .string f.2] 53)
  have h4 := h.keep hb
  have h5 := h4.keep hb5
  refine (pdadd h5.enc (Fs.one w4 _ rfl f) (fun g hg => ?_) ht hz).mono ?_
  · simp only [Value.ownBlock, Option.some.injEq] at hg
    subst hg
    exact ⟨by simp, fun hh => by have := h4.elt _ hh; omega⟩
  · rintro r w' ⟨hr, ht'⟩
    refine ⟨hr, h5.encT ht', fun g f' hg hf => ?_⟩
    obtain ⟨_, _, _, f0⟩ := ht'
    exact hf.besides f0 hg
end
end Go.Proofs.YtebakjdeighdnaaGreat
