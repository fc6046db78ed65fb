/-
  Texts put together: QqG.
-/
import Derived.Test.YtebakjdeighdnaaGreatM45

/-
  The draft's field: an entry is ordered.
-/
namespace Go.Proofs.YtebakjdeighdnaaGreat
open Go.RowKit Go.Maps
set_option linter.unusedVariables false

section
variable {q p N N' s d : Nat} {E : Qe} {S : Nat → Prop} {w wx wy : World} {a a' : Qa} {ins ins' : List UInt8} {pl pl' : List Nat} {ln ln' : List (Ql × Value)} {oV pV lV oV' pV' lV' : Value} {e T : Nat → Prop}
set_option maxRecDepth 100000 in
set_option maxHeartbeats 8000000 in
theorem dfield_lit3 (h : Dr q p N s d E S w a ins pl ln oV pV lV e T wx) (f : Fd) (hf : SizedS f) (hz1 : f.1.size ≤ 20000) (hz2 : f.2.size ≤ 20000) (hW : (findS T3 f).2.2 = false) (hSt : (findT a.T.l a.T.first f).2.2 = false) (hR : roomQ E.op E.K a.T f a.u = true) (hgq : a.T.gq) (hop2 : E.op.length ≤ 100000) (hfz : fsz f ≤ 100000) (htot : a.T.tot + 1 ≤ 1000000) (hins : ins.length ≤ 900000000) (hiw : (insW f).length ≤ 1000000) (hs : okU s) (hinv : E.K < a.c → freeQ E.op E.K E.B s = true) (hop : ∀ x ∈ E.op, x.s < 18446744073709551616) (hU : (decide (a.T.tot < E.K) || freeQ E.op E.K E.B s) = false) (hln : ln.length ≤ 100000) :
    Calls Tryz.prog 25 #[.pointer (some ⟨d, 0, none⟩), .agg #[.string f.1, .string f.2]] wx fun r w' => r = .returned (.tuple #[]) ∧
      ∃ v oV' lV' e' T', Dr q p N s d E S w ((a.insd f).line (litQ f)) (ins ++ insW f) pl (ln ++ [(litQ f, v)]) oV' pV lV' e' T' w' := by
  have hlt := findS_lt3 f
  have hji : okU a.T.tot := by unfold okU; omega
  have HG := Bx.mk (fun hh : e wx.heap.size => Nat.lt_irrefl _ (h.elt _ hh))
  have HFIND : Bx (∀ W, Calls Tryz.prog 50 #[.agg #[.string f.1, .string f.2]] W fun e w' => e = .returned (.tuple #[.int .u64 ((findS T3 f).1 : Int), .bool (findS T3 f).2.1, .bool false]) ∧ Below W.heap.size W w') := ⟨fun W => by rw [← hW, ← findP_S]; exact findH3_any f W hf⟩
  have HLIT := Bx.mk (fun W => qliteral_any (findS T3 f).1 (findS T3 f).2.1 f hlt hz1 hz2 W)
  rw [litB_W] at HLIT
  have HINS := Bx.mk (fun W => insertion_any (findS T3 f).1 (findS T3 f).2.1 f hlt hz1 hz2 W)
  rw [insB_W] at HINS
  have HFT : Bx (∀ W, Below wx.heap.size wx W → Calls Tryz.prog 52 #[.pointer (some ⟨p, 0, none⟩), .agg #[.string f.1, .string f.2]] W fun r w' => r = .returned (.tuple #[.int .u64 ((findT a.T.l a.T.first f).1 : Int), .bool (findT a.T.l a.T.first f).2.1, .bool false]) ∧ Below W.heap.size W w') := ⟨fun W hW => by rw [← hSt]; exact pdfind (h.keep hW).enc f hf⟩
  have HMI : Bx (∀ W, Below wx.heap.size wx W → Calls Tryz.prog 53 #[.pointer (some ⟨q, 0, none⟩), .agg #[.string f.1, .string f.2]] W fun r w' => r = .returned (.bool true) ∧ Below W.heap.size W w') := ⟨fun W hW => by rw [← hR]; exact pdmayInsert (h.keep hW).enc hgq hop2 f hfz⟩
  have HCT := Bx.mk (fun (W : World) (hW : Below wx.heap.size wx W) => pdcount (h.keep hW).enc)
  have HADD := Bx.mk (fun (W : World) (hW : Below wx.heap.size wx W) => h.add hW f htot (by omega))
  have HORD := Bx.mk (fun (e5 : Nat → Prop) (wz w4 : World) (h5 : Dr q p N s d E S w (a.insd f) ins pl ln oV pV lV e5 T wz) (v : Value) (hb : Below wz.heap.size wz w4) (ho : OwB w4 wz.heap.size v (insW f)) (ty : TypeId) => h5.order hb ho (by omega) ty)
  have HMU : Bx (∀ (oV5 : Value) (e5 : Nat → Prop) (w5 : World), Dr q p N s d E S w (a.insd f) (ins ++ insW f) pl ln oV5 pV lV e5 T w5 → Calls Tryz.prog 57 #[.pointer (some ⟨q, 0, none⟩), .int .u64 (s : Int), .int .u64 (a.T.tot : Int)] w5 fun r w' => r = .returned (.bool false) ∧ Below w5.heap.size w5 w') := ⟨fun oV5 e5 w5 h5 => by rw [← hU]; exact pdmayUse (a := a.insd f) h5.enc hs hji hinv hop⟩
  have HPUSH := Bx.mk (fun (oV5 : Value) (e5 : Nat → Prop) (w5 w4 : World) (h5 : Dr q p N s d E S w (a.insd f) (ins ++ insW f) pl ln oV5 pV lV e5 T w5) (v : Value) (hb : Below w5.heap.size w5 w4) (ho : OwB w4 w5.heap.size v (lineW 0 (litQ f))) (ty : TypeId) => h5.pushO hb ho (litQ_k f) (by omega) ty)
  have HC := Bx.mk (fun (wz : World) (hz : Below wx.heap.size wx wz) => (h.keep hz).cells)
  have HE := Bx.mk (fun (wz : World) (hz : Below wx.heap.size wx wz) => (h.keep hz).ecell)
  have HC5 := Bx.mk (fun (e5 : Nat → Prop) (w5 : World) (h5 : Dr q p N s d E S w (a.insd f) ins pl ln oV pV lV e5 T w5) => h5.cells)
  have HC6 := Bx.mk (fun (oV5 : Value) (e5 : Nat → Prop) (w5 : World) (h5 : Dr q p N s d E S w (a.insd f) (ins ++ insW f) pl ln oV5 pV lV e5 T w5) => h5.cells)
  have HE5 := Bx.mk (fun (e5 : Nat → Prop) (w5 : World) (h5 : Dr q p N s d E S w (a.insd f) ins pl ln oV pV lV e5 T w5) => h5.ecell)
  have HK6 := Bx.mk (fun (oV5 : Value) (e5 : Nat → Prop) (w5 w4 : World) (h5 : Dr q p N s d E S w (a.insd f) (ins ++ insW f) pl ln oV5 pV lV e5 T w5) (hb : Below w5.heap.size w5 w4) => h5.keep hb)
  have HK5 := Bx.mk (fun (e5 : Nat → Prop) (w5 w4 : World) (h5 : Dr q p N s d E S w (a.insd f) ins pl ln oV pV lV e5 T w5) (hb : Below w5.heap.size w5 w4) => h5.keep hb)
  obtain ⟨y, hy⟩ : ∃ y, litQ f = y := ⟨_, rfl⟩
  obtain ⟨i, hi⟩ : ∃ i, (findS T3 f).1 = i := ⟨_, rfl⟩
  obtain ⟨nm, hnm⟩ : ∃ nm, (findS T3 f).2.1 = nm := ⟨_, rfl⟩
  obtain ⟨j, hj⟩ : ∃ j, (findT a.T.l a.T.first f).1 = j := ⟨_, rfl⟩
  obtain ⟨jn, hjn⟩ : ∃ jn, (findT a.T.l a.T.first f).2.1 = jn := ⟨_, rfl⟩
  obtain ⟨tot, htt⟩ : ∃ tot, a.T.tot = tot := ⟨_, rfl⟩
  simp only [hi, hnm, hj, hjn, hy, htt] at HFIND HLIT HINS HFT HCT HPUSH HMU ⊢
  obtain ⟨I, hI⟩ := letter i
  obtain ⟨J, hJ⟩ := letter j
  obtain ⟨TT, hTT⟩ := letter tot
  obtain ⟨SS, hSS⟩ := letter s
  obtain ⟨f1, f2⟩ := f
  simp only [hI, hJ, hSS, hTT] at HFIND HPUSH HLIT HINS HFT HMU HC HC5 HC6 HCT HADD
  have HB0 := Bx.mk ((Below.refl wx.heap.size wx).alloc (Nat.le_refl _) (.cells #[.string f1, .string f2] 53))
  have HF0 := Bx.mk (Fb.new 53 wx (f1, f2))
  obtain ⟨g, hg⟩ : ∃ g, wx.heap.size = g := ⟨_, rfl⟩
  rw [hg] at HF0 HG
  obtain ⟨e1, e2⟩ := HF0.out.cells
  simp only at e1 e2
  clear h hf hW hln hlt hi hnm hI hJ hSS hTT htt hj hjn hy hz1 hz2 hSt hs hji hinv hop hU hR hgq hop2 hfz htot hins hiw
  go_enter Tryz.func25, Tryz.ntmps25
  go_wp2_with (first
    | (go_at_call 50; refine (HFIND.out _).mono ?_; rintro r w1 ⟨rfl, hb1⟩; have HB1 := Bx.mk (HB0.out.trans (hb1.mono HB0.out.size)); have HF1 := Bx.mk (HF0.out.keep hb1); have c0 := (HC.out w1 HB1.out).1; have c1 := HE.out w1 HB1.out; obtain ⟨e1, e2⟩ := HF1.out.cells; simp only at e1 e2; clear hb1)
    | (go_at_call 52; refine (HFT.out _ HB1.out).mono ?_; rintro r w2 ⟨rfl, hb2⟩; have HB2 := Bx.mk (HB1.out.trans (hb2.mono HB1.out.size)); have HF2 := Bx.mk (HF1.out.keep hb2); have m0 := (HC.out w2 HB2.out).1; obtain ⟨e3, e4⟩ := HF2.out.cells; simp only at e3 e4; clear hb2 c0 c1 e1 e2))
  go_region_held (fun W => Below wx.heap.size wx W ∧ W.cell? ⟨d, 0, none⟩ = some (.pointer (some ⟨q, 0, none⟩)) ∧ W.cell? ⟨g, 0, none⟩ = some (.string f1) ∧ W.cell? ⟨g, 1, none⟩ = some (.string f2)) (first | assumption | exact ⟨HB2.out.drew, m0, e3, e4⟩) (first
    | (go_at_call 53; refine (HMI.out _ (HB2.out.drew)).mono ?_; rintro r w3 ⟨rfl, hb3⟩; have HB3 := Bx.mk (HB2.out.drew.trans (hb3.mono HB2.out.drew.size)); have HF3 := Bx.mk ((HF2.out.keep (Below.refl _ _).drew).keep hb3); have hS3 : Below wx.heap.size wx w3 ∧ w3.cell? ⟨d, 0, none⟩ = some (.pointer (some ⟨q, 0, none⟩)) ∧ w3.cell? ⟨g, 0, none⟩ = some (.string f1) ∧ w3.cell? ⟨g, 1, none⟩ = some (.string f2) := ⟨HB3.out, (HC.out w3 HB3.out).1, HF3.out.cells.1, HF3.out.cells.2⟩; clear hb3))
  clear m0 e3 e4 HF2 HB0 HF0 HF1 e1 e2
  clear hS3
  go_upto_region 9 with (first
    | (go_at_call 54; refine (HCT.out _ HB3.out).mono ?_; rintro r w4 ⟨rfl, hb4⟩; have HB4 := Bx.mk (HB3.out.trans (hb4.mono HB3.out.size)); have HF4 := Bx.mk (HF3.out.keep hb4); obtain ⟨e3, e4⟩ := HF4.out.cells; simp only at e3 e4; clear hb4)
    | (go_at_call 55; refine (HADD.out _ HB4.out).mono ?_; rintro r w5 ⟨⟨x, rfl⟩, ⟨e5, hd5⟩, hf5⟩; have HD5 := Bx.mk hd5; have HF5 := Bx.mk (hf5 g (f1, f2) HG.out (HF4.out.alloc _)); clear hd5 hf5 e3 e4))
  obtain ⟨k0, _, k2, _⟩ := HC5.out e5 w5 HD5.out
  obtain ⟨e5a, e5b⟩ := HF5.out.cells
  simp only at e5a e5b
  go_cut [8] from 60 to 71 (fun s8 wk => s8 = .int .u64 TT ∧ Bx (∃ oV9, Dr q p N s d E S w (a.insd (f1, f2)) (ins ++ insW (f1, f2)) pl ln oV9 pV lV e5 T wk) ∧ Bx (Fb 53 wk g (f1, f2)))
  case first =>
    go_region_law (first
      | (refine step_append_run rfl (.tmp 64) (.tmp 68) 23 rfl oV _ rfl rfl r6 ?_)
      | (go_simp; go_at_call 56; refine (HINS.out _).mono ?_; rintro r w6 ⟨v6, rfl, ho6, b6⟩; have HB6 := Bx.mk (((Below.refl w5.heap.size w5).drew).trans b6); have m2 := (HC5.out e5 w6 (HK5.out e5 w5 w6 HD5.out HB6.out)).2.2.1; obtain ⟨oA, on, oc, w7, r6, k2', kf, k0', hd7, hf7⟩ := HORD.out e5 w5 w6 HD5.out _ HB6.out ho6 23; have HD7 := Bx.mk hd7; have HF7 := Bx.mk (hf7 g (f1, f2) (HF5.out.keep HB6.out)); clear hd7 hf7))
    all_goals go_wp2_with fail
    all_goals go_meet
    all_goals exact ⟨rfl, ⟨_, HD7.out⟩, HF7⟩
  case rest =>
    obtain ⟨rfl, HD8, HF8⟩ := hcut
    obtain ⟨oV9, hd9⟩ := HD8.out
    have HD9 := Bx.mk hd9
    clear hd9 HD8 HD5 HF5 HB4 HB3 HB2 HB1 k0 k2 e5a e5b HF3 HF4
    have hS4 : Below wc.heap.size wc wc ∧ wc.cell? ⟨d, 0, none⟩ = some (.pointer (some ⟨q, 0, none⟩)) ∧ wc.cell? ⟨d, 1, none⟩ = some (.int .u64 SS) := ⟨Below.refl _ _, (HC6.out oV9 e5 wc HD9.out).1, (HC6.out oV9 e5 wc HD9.out).2.1⟩
    have HB9 := Bx.mk ((Below.refl wc.heap.size wc).drew)
    go_wp2_with fail
    go_region_held (fun W => Below wc.heap.size wc W ∧ W.cell? ⟨d, 0, none⟩ = some (.pointer (some ⟨q, 0, none⟩)) ∧ W.cell? ⟨d, 1, none⟩ = some (.int .u64 SS)) (first | assumption | exact ⟨HB9.out, hS4.2.1, hS4.2.2⟩) (first
      | (go_at_call 57; refine (HMU.out _ _ _ (HK6.out oV9 e5 wc wc.drew HD9.out HB9.out)).mono ?_; rintro r wz ⟨rfl, hb3⟩; have HBZ := Bx.mk (HB9.out.trans (hb3.mono HB9.out.size)); have HDZ := Bx.mk (HK6.out oV9 e5 wc wz HD9.out HBZ.out); have HFZ := Bx.mk (HF8.out.keep HBZ.out); have hSZ : Below wc.heap.size wc wz ∧ wz.cell? ⟨d, 0, none⟩ = some (.pointer (some ⟨q, 0, none⟩)) ∧ wz.cell? ⟨d, 1, none⟩ = some (.int .u64 SS) := ⟨HBZ.out, (HC6.out oV9 e5 wz HDZ.out).1, (HC6.out oV9 e5 wz HDZ.out).2.1⟩; clear hb3))
    clear hSZ hS4 HF8 HD9 HB9 HBZ
    obtain ⟨k0, _, _, _, k4, _⟩ := HC6.out oV9 e5 wz HDZ.out
    obtain ⟨e5a, e5b⟩ := HFZ.out.cells
    simp only at e5a e5b
    go_wp2_with fail
    go_region_law (first
      | (refine step_append_run rfl (.tmp 92) (.tmp 98) 69 rfl lV _ rfl rfl r6 ?_)
      | (go_simp; go_at_call 59; refine (HLIT.out _).mono ?_; rintro r wy ⟨v5, rfl, ho5, b5⟩; obtain ⟨vA, vn, vc, rfl⟩ := ho5.shape; have HB5 := Bx.mk (((Below.refl wz.heap.size wz).drew).trans b5); have m4 := (HC6.out oV9 e5 wy (HK6.out oV9 e5 wz wy HDZ.out HB5.out)).2.2.2.2.1; obtain ⟨lA, lc, w6, r6, n4, kk4, kf, kk0, lV', T', hd6⟩ := HPUSH.out oV9 e5 wz wy HDZ.out _ HB5.out ho5 69; have HD6 := Bx.mk hd6; clear hd6))
    all_goals go_wp2_with fail
    all_goals go_end0
    all_goals exact ⟨rfl, _, _, _, _, _, HD6.out⟩
end
end Go.Proofs.YtebakjdeighdnaaGreat
