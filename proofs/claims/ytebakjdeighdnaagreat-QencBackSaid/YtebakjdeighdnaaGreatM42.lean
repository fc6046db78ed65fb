/-
  Texts put together: QqC.
-/
import Derived.Test.YtebakjdeighdnaaGreatM39

/-
  The draft's field: a line in full, nothing ordered.
-/
namespace Go.Proofs.YtebakjdeighdnaaGreat
open Go.RowKit Go.Maps
set_option linter.unusedVariables false

section
variable {q p N N' s d : Nat} {E : Qe} {S : Nat → Prop} {w wx wy : World} {a a' : Qa} {ins ins' : List UInt8} {pl pl' : List Nat} {ln ln' : List (Ql × Value)} {oV pV lV oV' pV' lV' : Value} {e T : Nat → Prop}
set_option maxRecDepth 100000 in
set_option maxHeartbeats 8000000 in
theorem dfield_lit1 (h : Dr q p N s d E S w a ins pl ln oV pV lV e T wx) (f : Fd) (hf : SizedS f) (hz1 : f.1.size ≤ 20000) (hz2 : f.2.size ≤ 20000) (hW : (findS T3 f).2.2 = false) (hSt : (findT a.T.l a.T.first f).2.2 = false) (hR : roomQ E.op E.K a.T f a.u = false) (hgq : a.T.gq) (hop : E.op.length ≤ 100000) (hfz : fsz f ≤ 100000) (hln : ln.length ≤ 100000) :
    Calls Tryz.prog 25 #[.pointer (some ⟨d, 0, none⟩), .agg #[.string f.1, .string f.2]] wx fun r w' => r = .returned (.tuple #[]) ∧
      ∃ v lV' T', Dr q p N s d E S w (a.line (litQ f)) ins pl (ln ++ [(litQ f, v)]) oV pV lV' e T' w' := by
  have hlt := findS_lt3 f
  have HFIND : Bx (∀ W, Calls Tryz.prog 50 #[.agg #[.string f.1, .string f.2]] W fun e w' => e = .returned (.tuple #[.int .u64 ((findS T3 f).1 : Int), .bool (findS T3 f).2.1, .bool false]) ∧ Below W.heap.size W w') := ⟨fun W => by rw [← hW, ← findP_S]; exact findH3_any f W hf⟩
  have HLIT := Bx.mk (fun W => qliteral_any (findS T3 f).1 (findS T3 f).2.1 f hlt hz1 hz2 W)
  rw [litB_W] at HLIT
  have HFT : Bx (∀ W, Below wx.heap.size wx W → Calls Tryz.prog 52 #[.pointer (some ⟨p, 0, none⟩), .agg #[.string f.1, .string f.2]] W fun r w' => r = .returned (.tuple #[.int .u64 ((findT a.T.l a.T.first f).1 : Int), .bool (findT a.T.l a.T.first f).2.1, .bool false]) ∧ Below W.heap.size W w') := ⟨fun W hW => by rw [← hSt]; exact pdfind (h.keep hW).enc f hf⟩
  have HMI : Bx (∀ W, Below wx.heap.size wx W → Calls Tryz.prog 53 #[.pointer (some ⟨q, 0, none⟩), .agg #[.string f.1, .string f.2]] W fun r w' => r = .returned (.bool false) ∧ Below W.heap.size W w') := ⟨fun W hW => by rw [← hR]; exact pdmayInsert (h.keep hW).enc hgq hop f hfz⟩
  have HPUSH := Bx.mk (fun (wz w4 : World) (v : Value) (hz : Below wx.heap.size wx wz) (hb : Below wz.heap.size wz w4) (ho : OwB w4 wz.heap.size v (lineW 0 (litQ f))) (ty : TypeId) => (h.keep hz).pushO hb ho (litQ_k f) (by omega) ty)
  have HC := Bx.mk (fun (wz : World) (hz : Below wx.heap.size wx wz) => (h.keep hz).cells)
  have HE := Bx.mk (fun (wz : World) (hz : Below wx.heap.size wx wz) => (h.keep hz).ecell)
  obtain ⟨y, hy⟩ : ∃ y, litQ f = y := ⟨_, rfl⟩
  obtain ⟨i, hi⟩ : ∃ i, (findS T3 f).1 = i := ⟨_, rfl⟩
  obtain ⟨nm, hnm⟩ : ∃ nm, (findS T3 f).2.1 = nm := ⟨_, rfl⟩
  obtain ⟨j, hj⟩ : ∃ j, (findT a.T.l a.T.first f).1 = j := ⟨_, rfl⟩
  obtain ⟨jn, hjn⟩ : ∃ jn, (findT a.T.l a.T.first f).2.1 = jn := ⟨_, rfl⟩
  simp only [hi, hnm, hj, hjn, hy] at HFIND HLIT HFT HPUSH
  rw [hy]
  obtain ⟨I, hI⟩ := letter i
  obtain ⟨J, hJ⟩ := letter j
  obtain ⟨f1, f2⟩ := f
  simp only [hI, hJ] at HFIND HPUSH HLIT HFT HMI
  have HB0 := Bx.mk ((Below.refl wx.heap.size wx).alloc (Nat.le_refl _) (.cells #[.string f1, .string f2] 53))
  have HF0 := Bx.mk (Fb.new 53 wx (f1, f2))
  obtain ⟨g, hg⟩ : ∃ g, wx.heap.size = g := ⟨_, rfl⟩
  rw [hg] at HF0
  obtain ⟨e1, e2⟩ := HF0.out.cells
  simp only at e1 e2
  clear h hf hW hln hlt hi hnm hI hJ hj hjn hy hz1 hz2 hSt hR hgq hop hfz
  go_enter Tryz.func25, Tryz.ntmps25
  go_wp2_with (first
    | (go_at_call 50; refine (HFIND.out _).mono ?_; rintro r w1 ⟨rfl, hb1⟩; have HB1 := Bx.mk (HB0.out.trans (hb1.mono HB0.out.size)); have HF1 := Bx.mk (HF0.out.keep hb1); have c0 := (HC.out w1 HB1.out).1; have c1 := HE.out w1 HB1.out; obtain ⟨e1, e2⟩ := HF1.out.cells; simp only at e1 e2; clear hb1)
    | (go_at_call 52; refine (HFT.out _ HB1.out).mono ?_; rintro r w2 ⟨rfl, hb2⟩; have HB2 := Bx.mk (HB1.out.trans (hb2.mono HB1.out.size)); have HF2 := Bx.mk (HF1.out.keep hb2); have m0 := (HC.out w2 HB2.out).1; obtain ⟨e3, e4⟩ := HF2.out.cells; simp only at e3 e4; clear hb2 c0 c1 e1 e2))
  go_region_held (fun W => Below wx.heap.size wx W ∧ W.cell? ⟨d, 0, none⟩ = some (.pointer (some ⟨q, 0, none⟩)) ∧ W.cell? ⟨g, 0, none⟩ = some (.string f1) ∧ W.cell? ⟨g, 1, none⟩ = some (.string f2)) (first | assumption | exact ⟨HB2.out.drew, m0, e3, e4⟩) (first
    | (go_at_call 53; refine (HMI.out _ (HB2.out.drew)).mono ?_; rintro r w3 ⟨rfl, hb3⟩; have HB3 := Bx.mk (HB2.out.drew.trans (hb3.mono HB2.out.drew.size)); have HF3 := Bx.mk ((HF2.out.keep (Below.refl _ _).drew).keep hb3); have hS3 : Below wx.heap.size wx w3 ∧ w3.cell? ⟨d, 0, none⟩ = some (.pointer (some ⟨q, 0, none⟩)) ∧ w3.cell? ⟨g, 0, none⟩ = some (.string f1) ∧ w3.cell? ⟨g, 1, none⟩ = some (.string f2) := ⟨HB3.out, (HC.out w3 HB3.out).1, HF3.out.cells.1, HF3.out.cells.2⟩; clear hb3))
  clear m0 e3 e4 HF2 HB0 HF0 HF1 e1 e2
  obtain ⟨_, k0, e5, e6⟩ := hS3
  go_wp2_with fail
  go_quiet (fail)
  go_wp2_with fail
  have HB4 := Bx.mk (below_drewN HB3.out nq)
  have HF4 : Bx (Fb 53 (w3.drewN nq) g (f1, f2)) := ⟨HF3.out⟩
  generalize w3.drewN nq = w4 at HB4 HF4 ⊢
  clear k0 e5 e6 HF3 HB3 HB2 HB1
  obtain ⟨k0, _, _, _, k4, _⟩ := HC.out w4 HB4.out
  obtain ⟨e5, e6⟩ := HF4.out.cells
  simp only at e5 e6
  go_region_law (first
    | (refine step_append_run rfl (.tmp 92) (.tmp 98) 69 rfl lV _ rfl rfl r6 ?_)
    | (go_simp; go_at_call 59; refine (HLIT.out _).mono ?_; rintro r w5 ⟨v5, rfl, ho5, b5⟩; obtain ⟨vA, vn, vc, rfl⟩ := ho5.shape; have HB5 := Bx.mk (((Below.refl w4.heap.size w4).drew).trans b5); obtain ⟨m0, _, _, _, m4, _⟩ := HC.out w5 (HB4.out.trans (HB5.out.mono HB4.out.size)); obtain ⟨lA, lc, w6, r6, n4, kk4, kf, kk0, lV', T', hd6⟩ := HPUSH.out w4 w5 _ HB4.out HB5.out ho5 69; have HD6 := Bx.mk hd6; clear hd6))
  all_goals go_wp2_with fail
  all_goals go_end0
  all_goals exact ⟨rfl, _, _, _, HD6.out⟩
end
end Go.Proofs.YtebakjdeighdnaaGreat
