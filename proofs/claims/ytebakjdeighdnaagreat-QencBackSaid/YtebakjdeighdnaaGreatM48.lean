/-
  Texts put together: QqH, QqI, QqJ, QqK, QqL, QqM.
-/
import Derived.Test.YtebakjdeighdnaaGreatM47
import Derived.Test.YtebakjdeighdnaaGreatM32

/-
  The draft's field: an entry is ordered.
-/
namespace Go.Proofs.YtebakjdeighdnaaGreat
open Go.RowKit Go.Maps
set_option linter.unusedVariables false

section
variable {q p N N' s d : Nat} {E : Qe} {S : Nat → Prop} {w wx wy : World} {a a' : Qa} {ins ins' : List UInt8} {pl pl' : List Nat} {ln ln' : List (Ql × Value)} {oV pV lV oV' pV' lV' : Value} {e T : Nat → Prop}
set_option maxRecDepth 100000 in
set_option maxHeartbeats 8000000 in
theorem dfield_use2 (h : Dr q p N s d E S w a ins (uq a.u) ln oV pV lV e T wx) (f : Fd) (hf : SizedS f) (hz1 : f.1.size ≤ 20000) (hz2 : f.2.size ≤ 20000) (hW : (findS T3 f).2.2 = false) (hSt : (findT a.T.l a.T.first f).2.2 = false) (hR : roomQ E.op E.K a.T f a.u = true) (hgq : a.T.gq) (hop2 : E.op.length ≤ 100000) (hfz : fsz f ≤ 100000) (htot : a.T.tot + 1 ≤ 1000000) (hins : ins.length ≤ 900000000) (hiw : (insW f).length ≤ 1000000) (hs : okU s) (hinv : E.K < a.c → freeQ E.op E.K E.B s = true) (hop : ∀ x ∈ E.op, x.s < 18446744073709551616) (hU : (decide (a.T.tot < E.K) || freeQ E.op E.K E.B s) = true) (hln : ln.length ≤ 100000) (hN : N + 2 ≤ 1000000000) (hUc : ∀ x ∈ E.op ++ [⟨s, a.c, a.u⟩], x.c ≤ 1000000) (hpl : (uq a.u).length ≤ 100000) :
    Calls Tryz.prog 25 #[.pointer (some ⟨d, 0, none⟩), .agg #[.string f.1, .string f.2]] wx fun r w' => r = .returned (.tuple #[]) ∧
      ∃ oV' pV' lV' e' T', Dr q p (N + 2) s d E S w ((a.insd f).ref f a.T.tot) (ins ++ insW f) (uq (a.u ++ [a.T.tot])) (ln ++ [(⟨1, a.T.tot, f⟩, .slice none 0 0)]) oV' pV' lV' e' T' w' := by
  have hlt := findS_lt3 f
  have hji : okU a.T.tot := by unfold okU; omega
  have HG := Bx.mk (fun hh : e wx.heap.size => Nat.lt_irrefl _ (h.elt _ hh))
  have HFIND : Bx (∀ W, Calls Tryz.prog 50 #[.agg #[.string f.1, .string f.2]] W fun e w' => e = .returned (.tuple #[.int .u64 ((findS T3 f).1 : Int), .bool (findS T3 f).2.1, .bool false]) ∧ Below W.heap.size W w') := ⟨fun W => by rw [← hW, ← findP_S]; exact findH3_any f W hf⟩
  have HLIT := Bx.mk (fun W => qliteral_any (findS T3 f).1 (findS T3 f).2.1 f hlt hz1 hz2 W)
  rw [litB_W] at HLIT
  have HINS := Bx.mk (fun W => insertion_any (findS T3 f).1 (findS T3 f).2.1 f hlt hz1 hz2 W)
  rw [insB_W] at HINS
  have HFT : Bx (∀ W, Below wx.heap.size wx W → Calls Tryz.prog 52 #[.pointer (some ⟨p, 0, none⟩), .agg #[.string f.1, .string f.2]] W fun r w' => r = .returned (.tuple #[.int .u64 ((findT a.T.l a.T.first f).1 : Int), .bool (findT a.T.l a.T.first f).2.1, .bool false]) ∧ Below W.heap.size W w') := ⟨fun W hW => by rw [← hSt]; exact pdfind (h.keep hW).enc f hf⟩
  have HMI : Bx (∀ W, Below wx.heap.size wx W → Calls Tryz.prog 53 #[.pointer (some ⟨q, 0, none⟩), .agg #[.string f.1, .string f.2]] W fun r w' => r = .returned (.bool true) ∧ Below W.heap.size W w') := ⟨fun W hW => by rw [← hR]; exact pdmayInsert (h.keep hW).enc hgq hop2 f hfz⟩
  have HCT := Bx.mk (fun (W : World) (hW : Below wx.heap.size wx W) => pdcount (h.keep hW).enc)
  have HADD := Bx.mk (fun (W : World) (hW : Below wx.heap.size wx W) => h.add hW f htot (by omega))
  have HORD := Bx.mk (fun (e5 : Nat → Prop) (wz w4 : World) (h5 : Dr q p N s d E S w (a.insd f) ins (uq a.u) ln oV pV lV e5 T wz) (v : Value) (hb : Below wz.heap.size wz w4) (ho : OwB w4 wz.heap.size v (insW f)) (ty : TypeId) => h5.order hb ho (by omega) ty)
  have HMU : Bx (∀ (oV5 : Value) (e5 : Nat → Prop) (w5 : World), Dr q p N s d E S w (a.insd f) (ins ++ insW f) (uq a.u) ln oV5 pV lV e5 T w5 → Calls Tryz.prog 57 #[.pointer (some ⟨q, 0, none⟩), .int .u64 (s : Int), .int .u64 (a.T.tot : Int)] w5 fun r w' => r = .returned (.bool true) ∧ Below w5.heap.size w5 w') := ⟨fun oV5 e5 w5 h5 => by rw [← hU]; exact pdmayUse (a := a.insd f) h5.enc hs hji hinv hop⟩
  have HUSE := Bx.mk (fun (oV5 : Value) (e5 : Nat → Prop) (w5 : World) (h5 : Dr q p N s d E S w (a.insd f) (ins ++ insW f) (uq a.u) ln oV5 pV lV e5 T w5) => duse_any (a := a.insd f) h5 hN hs (show a.T.tot ≤ 1000000 by omega) hop2 hUc hpl hln f)
  have HC := Bx.mk (fun (wz : World) (hz : Below wx.heap.size wx wz) => (h.keep hz).cells)
  have HE := Bx.mk (fun (wz : World) (hz : Below wx.heap.size wx wz) => (h.keep hz).ecell)
  have HC5 := Bx.mk (fun (e5 : Nat → Prop) (w5 : World) (h5 : Dr q p N s d E S w (a.insd f) ins (uq a.u) ln oV pV lV e5 T w5) => h5.cells)
  have HC6 := Bx.mk (fun (oV5 : Value) (e5 : Nat → Prop) (w5 : World) (h5 : Dr q p N s d E S w (a.insd f) (ins ++ insW f) (uq a.u) ln oV5 pV lV e5 T w5) => h5.cells)
  have HE5 := Bx.mk (fun (e5 : Nat → Prop) (w5 : World) (h5 : Dr q p N s d E S w (a.insd f) ins (uq a.u) ln oV pV lV e5 T w5) => h5.ecell)
  have HK6 := Bx.mk (fun (oV5 : Value) (e5 : Nat → Prop) (w5 w4 : World) (h5 : Dr q p N s d E S w (a.insd f) (ins ++ insW f) (uq a.u) ln oV5 pV lV e5 T w5) (hb : Below w5.heap.size w5 w4) => h5.keep hb)
  have HK5 := Bx.mk (fun (e5 : Nat → Prop) (w5 w4 : World) (h5 : Dr q p N s d E S w (a.insd f) ins (uq a.u) ln oV pV lV e5 T w5) (hb : Below w5.heap.size w5 w4) => h5.keep hb)
  obtain ⟨y, hy⟩ : ∃ y, litQ f = y := ⟨_, rfl⟩
  obtain ⟨i, hi⟩ : ∃ i, (findS T3 f).1 = i := ⟨_, rfl⟩
  obtain ⟨nm, hnm⟩ : ∃ nm, (findS T3 f).2.1 = nm := ⟨_, rfl⟩
  obtain ⟨j, hj⟩ : ∃ j, (findT a.T.l a.T.first f).1 = j := ⟨_, rfl⟩
  obtain ⟨jn, hjn⟩ : ∃ jn, (findT a.T.l a.T.first f).2.1 = jn := ⟨_, rfl⟩
  obtain ⟨tot, htt⟩ : ∃ tot, a.T.tot = tot := ⟨_, rfl⟩
  simp only [hi, hnm, hj, hjn, hy, htt] at HFIND HLIT HINS HFT HCT HUSE HMU ⊢
  obtain ⟨I, hI⟩ := letter i
  obtain ⟨J, hJ⟩ := letter j
  obtain ⟨TT, hTT⟩ := letter tot
  obtain ⟨SS, hSS⟩ := letter s
  obtain ⟨f1, f2⟩ := f
  simp only [hI, hJ, hSS, hTT] at HFIND HUSE HLIT HINS HFT HMU HC HC5 HC6 HCT HADD
  have HB0 := Bx.mk ((Below.refl wx.heap.size wx).alloc (Nat.le_refl _) (.cells #[.string f1, .string f2] 53))
  have HF0 := Bx.mk (Fb.new 53 wx (f1, f2))
  obtain ⟨g, hg⟩ : ∃ g, wx.heap.size = g := ⟨_, rfl⟩
  rw [hg] at HF0 HG
  obtain ⟨e1, e2⟩ := HF0.out.cells
  simp only at e1 e2
  clear h hf hW hln hlt hi hnm hI hJ hSS hTT htt hj hjn hy hz1 hz2 hSt hs hji hinv hop hU hR hgq hop2 hfz htot hins hiw hN hUc hpl
  go_enter Tryz.func25, Tryz.ntmps25
  go_wp2_with (first
    | (go_at_call 50; refine (HFIND.out _).mono ?_; rintro r w1 ⟨rfl, hb1⟩; have HB1 := Bx.mk (HB0.out.trans (hb1.mono HB0.out.size)); have HF1 := Bx.mk (HF0.out.keep hb1); have c0 := (HC.out w1 HB1.out).1; have c1 := HE.out w1 HB1.out; obtain ⟨e1, e2⟩ := HF1.out.cells; simp only at e1 e2; clear hb1)
    | (go_at_call 52; refine (HFT.out _ HB1.out).mono ?_; rintro r w2 ⟨rfl, hb2⟩; have HB2 := Bx.mk (HB1.out.trans (hb2.mono HB1.out.size)); have HF2 := Bx.mk (HF1.out.keep hb2); have m0 := (HC.out w2 HB2.out).1; obtain ⟨e3, e4⟩ := HF2.out.cells; simp only at e3 e4; clear hb2 c0 c1 e1 e2))
  go_region_held (fun W => Below wx.heap.size wx W ∧ W.cell? ⟨d, 0, none⟩ = some (.pointer (some ⟨q, 0, none⟩)) ∧ W.cell? ⟨g, 0, none⟩ = some (.string f1) ∧ W.cell? ⟨g, 1, none⟩ = some (.string f2)) (first | assumption | exact ⟨HB2.out.drew, m0, e3, e4⟩) (first
    | (go_at_call 53; refine (HMI.out _ (HB2.out.drew)).mono ?_; rintro r w3 ⟨rfl, hb3⟩; have HB3 := Bx.mk (HB2.out.drew.trans (hb3.mono HB2.out.drew.size)); have HF3 := Bx.mk ((HF2.out.keep (Below.refl _ _).drew).keep hb3); have hS3 : Below wx.heap.size wx w3 ∧ w3.cell? ⟨d, 0, none⟩ = some (.pointer (some ⟨q, 0, none⟩)) ∧ w3.cell? ⟨g, 0, none⟩ = some (.string f1) ∧ w3.cell? ⟨g, 1, none⟩ = some (.string f2) := ⟨HB3.out, (HC.out w3 HB3.out).1, HF3.out.cells.1, HF3.out.cells.2⟩; clear hb3))
  clear m0 e3 e4 HF2 HB0 HF0 HF1 e1 e2
  clear hS3
  go_upto_region 9 with (first
    | (go_at_call 54; refine (HCT.out _ HB3.out).mono ?_; rintro r w4 ⟨rfl, hb4⟩; have HB4 := Bx.mk (HB3.out.trans (hb4.mono HB3.out.size)); have HF4 := Bx.mk (HF3.out.keep hb4); obtain ⟨e3, e4⟩ := HF4.out.cells; simp only at e3 e4; clear hb4)
    | (go_at_call 55; refine (HADD.out _ HB4.out).mono ?_; rintro r w5 ⟨⟨x, rfl⟩, ⟨e5, hd5⟩, hf5⟩; have HD5 := Bx.mk hd5; have HF5 := Bx.mk (hf5 g (f1, f2) HG.out (HF4.out.alloc _)); clear hd5 hf5 e3 e4))
  obtain ⟨k0, _, k2, _⟩ := HC5.out e5 w5 HD5.out
  obtain ⟨e5a, e5b⟩ := HF5.out.cells
  simp only at e5a e5b
  go_cut [8] from 60 to 71 (fun s8 wk => s8 = .int .u64 TT ∧ Bx (∃ oV9, Dr q p N s d E S w (a.insd (f1, f2)) (ins ++ insW (f1, f2)) (uq a.u) ln oV9 pV lV e5 T wk) ∧ Bx (Fb 53 wk g (f1, f2)))
  case first =>
    go_region_law (first
      | (refine step_append_run rfl (.tmp 64) (.tmp 68) 23 rfl oV _ rfl rfl r6 ?_)
      | (go_simp; go_at_call 56; refine (HINS.out _).mono ?_; rintro r w6 ⟨v6, rfl, ho6, b6⟩; have HB6 := Bx.mk (((Below.refl w5.heap.size w5).drew).trans b6); have m2 := (HC5.out e5 w6 (HK5.out e5 w5 w6 HD5.out HB6.out)).2.2.1; obtain ⟨oA, on, oc, w7, r6, k2', kf, k0', hd7, hf7⟩ := HORD.out e5 w5 w6 HD5.out _ HB6.out ho6 23; have HD7 := Bx.mk hd7; have HF7 := Bx.mk (hf7 g (f1, f2) (HF5.out.keep HB6.out)); clear hd7 hf7))
    all_goals go_wp2_with fail
    all_goals go_meet
    all_goals exact ⟨rfl, ⟨_, HD7.out⟩, HF7⟩
  case rest =>
    obtain ⟨rfl, HD8, HF8⟩ := hcut
    obtain ⟨oV9, hd9⟩ := HD8.out
    have HD9 := Bx.mk hd9
    clear hd9 HD8 HD5 HF5 HB4 HB3 HB2 HB1 k0 k2 e5a e5b HF3 HF4
    have hS4 : Below wc.heap.size wc wc ∧ wc.cell? ⟨d, 0, none⟩ = some (.pointer (some ⟨q, 0, none⟩)) ∧ wc.cell? ⟨d, 1, none⟩ = some (.int .u64 SS) := ⟨Below.refl _ _, (HC6.out oV9 e5 wc HD9.out).1, (HC6.out oV9 e5 wc HD9.out).2.1⟩
    have HB9 := Bx.mk ((Below.refl wc.heap.size wc).drew)
    go_wp2_with fail
    go_region_held (fun W => Below wc.heap.size wc W ∧ W.cell? ⟨d, 0, none⟩ = some (.pointer (some ⟨q, 0, none⟩)) ∧ W.cell? ⟨d, 1, none⟩ = some (.int .u64 SS)) (first | assumption | exact ⟨HB9.out, hS4.2.1, hS4.2.2⟩) (first
      | (go_at_call 57; refine (HMU.out _ _ _ (HK6.out oV9 e5 wc wc.drew HD9.out HB9.out)).mono ?_; rintro r wz ⟨rfl, hb3⟩; have HBZ := Bx.mk (HB9.out.trans (hb3.mono HB9.out.size)); have HDZ := Bx.mk (HK6.out oV9 e5 wc wz HD9.out HBZ.out); have HFZ := Bx.mk (HF8.out.keep HBZ.out); have hSZ : Below wc.heap.size wc wz ∧ wz.cell? ⟨d, 0, none⟩ = some (.pointer (some ⟨q, 0, none⟩)) ∧ wz.cell? ⟨d, 1, none⟩ = some (.int .u64 SS) := ⟨HBZ.out, (HC6.out oV9 e5 wz HDZ.out).1, (HC6.out oV9 e5 wz HDZ.out).2.1⟩; clear hb3))
    clear hSZ hS4 HF8 HD9 HB9 HBZ
    go_wp2_with (go_at_call 58; refine (HUSE.out _ _ _ HDZ.out).mono ?_; rintro r wt ⟨rfl, hd9⟩; have HDT := Bx.mk hd9; clear hd9)
    refine bodyPost_ret (results_none rfl _ _ _) rfl ?_
    exact ⟨rfl, _, HDT.out⟩
end
end Go.Proofs.YtebakjdeighdnaaGreat

/-
  The draft's field: its contract.
-/
namespace Go.Proofs.YtebakjdeighdnaaGreat
open Go.RowKit Go.Maps
set_option linter.unusedVariables false

theorem uqGo_len : ∀ (l r : List Nat), (uqGo r l).length ≤ r.length + l.length
  | [], r => by simp [uqGo]
  | a :: l, r => by
    show (uqGo (if a ∈ r then r else r ++ [a]) l).length ≤ _
    have := uqGo_len l (if a ∈ r then r else r ++ [a])
    have h2 : (if a ∈ r then r else r ++ [a]).length ≤ r.length + 1 := by split <;> simp
    simp only [List.length_cons]
    omega
theorem uq_len (l : List Nat) : (uq l).length ≤ l.length := by
  have := uqGo_len l []
  rw [List.length_nil, Nat.zero_add] at this
  exact this
/-- What holds behind k fields of a section. -/
structure Gd (E : Qe) (s k : Nat) (a : Qa) : Prop where
  inv : QInv E.T.cap a
  lo : E.T.tot ≤ a.T.tot
  hi : a.T.tot ≤ E.T.tot + k
  ins : a.ins.length ≤ 11 + k * 45000
  u : a.u.length ≤ k
  all : a.all.length = k
  fr : E.K < a.c → freeQ E.op E.K E.B s = true
theorem add_tot {T : Tab} {op : List Qs} {K : Nat} {f : Fd} {u : List Nat} (hl : T.l.length ≤ T.tot) (h : roomQ op K T f u = true) : (T.add f).tot = T.tot + 1 := by
  obtain ⟨_, h1, _⟩ := roomQ_size h
  exact (add_has hl (by omega)).2
theorem bumpA {x k : Nat} (h : x ≤ 11 + k * 45000) : x ≤ 11 + (k + 1) * 45000 := Nat.le_trans h (Nat.add_le_add_left (Nat.mul_le_mul_right _ (Nat.le_succ k)) 11)
theorem bumpB {x y k : Nat} (h : x ≤ 11 + k * 45000) (h2 : y ≤ 40022) : x + y ≤ 11 + (k + 1) * 45000 := by
  rw [Nat.succ_mul]
  generalize k * 45000 = z at *
  omega
theorem Gd.step {E : Qe} {s k : Nat} {a : Qa} (h : Gd E s k a) (f : Fd) (hf : fsz f ≤ 40000) : Gd E s (k + 1) (qstep E.op E.K (freeQ E.op E.K E.B s) a f) := by
  obtain ⟨i1, i2⟩ := h.inv.step E.op E.K (freeQ E.op E.K E.B s) f
  have hlen : (qstep E.op E.K (freeQ E.op E.K E.B s) a f).all.length = k + 1 := by
    have := congrArg List.length i2
    rw [List.length_map, List.length_append, List.length_map, h.all] at this
    exact this
  have HL := Bx.mk hlen
  have HI := Bx.mk i1
  clear hlen i1 i2
  have h1 := h.lo
  have h2 := h.hi
  have h3 := h.ins
  have h4 := h.u
  have h5 := h.fr
  have hi1 : a.ins.length ≤ 11 + (k + 1) * 45000 := bumpA h3
  have hu1 : a.u.length ≤ k + 1 := Nat.le_succ_of_le h4
  have ht1 : a.T.tot ≤ E.T.tot + (k + 1) := Nat.le_succ_of_le h2
  have hu2 : ∀ i, (a.u ++ [i]).length ≤ k + 1 := fun i => by rw [List.length_append, List.length_singleton]; exact Nat.succ_le_succ h4
  have hi2 : (a.ins ++ insW f).length ≤ 11 + (k + 1) * 45000 := by
    rw [List.length_append]
    exact bumpB h3 (Nat.le_trans (insW_len f) (Nat.add_le_add_right hf 22))
  have HI2 := Bx.mk hi2
  clear hi2
  have key : E.T.tot ≤ (qstep E.op E.K (freeQ E.op E.K E.B s) a f).T.tot ∧ (qstep E.op E.K (freeQ E.op E.K E.B s) a f).T.tot ≤ E.T.tot + (k + 1) ∧ (qstep E.op E.K (freeQ E.op E.K E.B s) a f).ins.length ≤ 11 + (k + 1) * 45000 ∧ (qstep E.op E.K (freeQ E.op E.K E.B s) a f).u.length ≤ k + 1 ∧ (E.K < (qstep E.op E.K (freeQ E.op E.K E.B s) a f).c → freeQ E.op E.K E.B s = true) := by
    unfold qstep
    split
    · exact ⟨h1, ht1, hi1, hu1, h5⟩
    · split
      · rename_i hc
        simp only [Bool.and_eq_true, Bool.or_eq_true, decide_eq_true_eq] at hc
        refine ⟨h1, ht1, hi1, hu2 _, fun hk => ?_⟩
        have hk' : E.K < max a.c ((findT a.T.l a.T.first f).1 + 1) := hk
        rcases hc.2 with hc | hc
        · exact h5 (by omega)
        · exact hc
      · split
        · rename_i hr
          simp only [Bool.and_eq_true] at hr
          have hT := add_tot h.inv.gq.len hr.2
          split
          · rename_i hfr
            exact ⟨by show _ ≤ (a.T.add f).tot; omega, by show (a.T.add f).tot ≤ _; omega, HI2.out, hu2 _, fun _ => hfr⟩
          · exact ⟨by show _ ≤ (a.T.add f).tot; omega, by show (a.T.add f).tot ≤ _; omega, HI2.out, hu1, h5⟩
        · exact ⟨h1, ht1, hi1, hu1, h5⟩
  exact ⟨HI.out, key.1, key.2.1, key.2.2.1, key.2.2.2.1, HL.out, key.2.2.2.2⟩
/-- A section under way. -/
def DrA (q p N s d : Nat) (E : Qe) (S : Nat → Prop) (w : World) (a : Qa) (wx : World) : Prop :=
  ∃ ln oV pV lV e T, Dr q p N s d E S w a a.ins (uq a.u) ln oV pV lV e T wx ∧ ln.map (·.1) = a.all
section
variable {q p N N' s d k : Nat} {E : Qe} {S : Nat → Prop} {w wx wy : World} {a a' : Qa}
theorem map_snoc1 {ln : List (Ql × Value)} {y : Ql} {v : Value} {l : List Ql} (h : ln.map (·.1) = l) : (ln ++ [(y, v)]).map (·.1) = l ++ [y] := by
  rw [List.map_append, h]; rfl
theorem dfield_any (h : DrA q p N s d E S w a wx) (hg : E.good) (hG : Gd E s k a) (hs : okU s) (hk : k ≤ 10000) (htot : E.T.tot + 20000 ≤ 1000000) (hN : N + 2 ≤ 1000000000) (f : Fd) (hz1 : f.1.size ≤ 20000) (hz2 : f.2.size ≤ 20000) :
    Calls Tryz.prog 25 #[.pointer (some ⟨d, 0, none⟩), .agg #[.string f.1, .string f.2]] wx fun r w' => r = .returned (.tuple #[]) ∧ ∃ N', N' ≤ N + 2 ∧ DrA q p N' s d E S w (qstep E.op E.K (freeQ E.op E.K E.B s) a f) w' := by
  obtain ⟨ln, oV, pV, lV, e, T, h, hln⟩ := h
  have hf : SizedS f := ⟨by unfold maxLen; omega, by unfold maxLen; omega⟩
  have hfz : fsz f ≤ 40000 := by unfold fsz; omega
  have h1 := hG.lo
  have h2 := hG.hi
  have h3 := hG.ins
  have h4 := hG.u
  have h6 := insW_len f
  have hl : ln.length = k := by
    have := congrArg List.length hln
    rw [List.length_map, hG.all] at this
    exact this
  have hpl := uq_len a.u
  have hkn := hg.kn
  have hop := hg.len
  have hopS : ∀ x ∈ E.op, x.s < 18446744073709551616 := fun x hx => (hg.sec x hx).1
  have hwin := hG.inv.window.1
  have hUc : ∀ x ∈ E.op ++ [⟨s, a.c, a.u⟩], x.c ≤ 1000000 := fun x hx => by
    rcases List.mem_append.1 hx with hx | hx
    · have := (hg.sec x hx).2.2.2.2; omega
    · rw [List.mem_singleton.1 hx]; show a.c ≤ _; omega
  have hji : (findT a.T.l a.T.first f).2.2 = true → (findT a.T.l a.T.first f).1 < a.T.tot := fun hh => (findT_has hh).below hG.inv.gq.len
  cases hW : (findS T3 f).2.2 with
  | true =>
    refine (dfield_whole h f hf hW (by omega)).mono ?_
    rintro r w' ⟨rfl, v, lV', T', hd⟩
    refine ⟨rfl, N, by omega, ?_⟩
    rw [show qstep E.op E.K (freeQ E.op E.K E.B s) a f = a.line ⟨0, (findS T3 f).1, f⟩ by unfold qstep; rw [if_pos hW]]
    exact ⟨_, _, _, _, _, _, hd, map_snoc1 hln⟩
  | false =>
    cases hSt : (findT a.T.l a.T.first f).2.2 with
    | true =>
      have hj := hji hSt
      cases hU : (decide ((findT a.T.l a.T.first f).1 < E.K) || freeQ E.op E.K E.B s) with
      | true =>
        refine (dfield_use1 h f hf hz1 hz2 hW hSt hs (by unfold okU; omega) hG.fr hopS hU (by omega) hN hop hUc (by omega) (by omega)).mono ?_
        rintro r w' ⟨rfl, pV', lV', e', T', hd⟩
        refine ⟨rfl, N + 2, by omega, ?_⟩
        rw [show qstep E.op E.K (freeQ E.op E.K E.B s) a f = a.ref f (findT a.T.l a.T.first f).1 by unfold qstep; rw [if_neg (by rw [hW]; exact Bool.false_ne_true), if_pos (by rw [hSt, hU]; rfl)]]
        exact ⟨_, _, _, _, _, _, hd, map_snoc1 hln⟩
      | false =>
        refine (dfield_lit2 h f hf hz1 hz2 hW hSt hs (by unfold okU; omega) hG.fr hopS hU (by omega)).mono ?_
        rintro r w' ⟨rfl, v, lV', T', hd⟩
        refine ⟨rfl, N, by omega, ?_⟩
        rw [show qstep E.op E.K (freeQ E.op E.K E.B s) a f = a.line (litQ f) by unfold qstep; rw [if_neg (by rw [hW]; exact Bool.false_ne_true), if_neg (by rw [hSt, hU]; exact Bool.false_ne_true), if_neg (by rw [hSt]; exact Bool.false_ne_true)]]
        exact ⟨_, _, _, _, _, _, hd, map_snoc1 hln⟩
    | false =>
      cases hR : roomQ E.op E.K a.T f a.u with
      | true =>
        have hT := add_tot hG.inv.gq.len hR
        have hd0 : decide (a.T.tot < E.K) = false := decide_eq_false (by omega)
        cases hF : freeQ E.op E.K E.B s with
        | true =>
          refine (dfield_use2 h f hf hz1 hz2 hW hSt hR hG.inv.gq hop (by omega) (by omega) (by omega) (by omega) hs hG.fr hopS (by rw [hF, Bool.or_true]) (by omega) hN hUc (by omega)).mono ?_
          rintro r w' ⟨rfl, oV', pV', lV', e', T', hd⟩
          refine ⟨rfl, N + 2, by omega, ?_⟩
          rw [show qstep E.op E.K true a f = (a.insd f).ref f a.T.tot by
            unfold qstep
            rw [if_neg (by rw [hW]; exact Bool.false_ne_true), if_neg (by rw [hSt]; exact Bool.false_ne_true), if_pos (by rw [hSt, hR]; rfl), if_pos rfl]
            show (a.insd f).ref f ((a.T.add f).tot - 1) = _
            rw [hT, Nat.add_sub_cancel]]
          exact ⟨_, _, _, _, _, _, hd, map_snoc1 hln⟩
        | false =>
          refine (dfield_lit3 h f hf hz1 hz2 hW hSt hR hG.inv.gq hop (by omega) (by omega) (by omega) (by omega) hs hG.fr hopS (by rw [hd0, hF]; rfl) (by omega)).mono ?_
          rintro r w' ⟨rfl, v, oV', lV', e', T', hd⟩
          refine ⟨rfl, N, by omega, ?_⟩
          rw [show qstep E.op E.K false a f = (a.insd f).line (litQ f) by
            unfold qstep
            rw [if_neg (by rw [hW]; exact Bool.false_ne_true), if_neg (by rw [hSt]; exact Bool.false_ne_true), if_pos (by rw [hSt, hR]; rfl), if_neg Bool.false_ne_true]]
          exact ⟨_, _, _, _, _, _, hd, map_snoc1 hln⟩
      | false =>
        refine (dfield_lit1 h f hf hz1 hz2 hW hSt hR hG.inv.gq hop (by omega) (by omega)).mono ?_
        rintro r w' ⟨rfl, v, lV', T', hd⟩
        refine ⟨rfl, N, by omega, ?_⟩
        rw [show qstep E.op E.K (freeQ E.op E.K E.B s) a f = a.line (litQ f) by unfold qstep; rw [if_neg (by rw [hW]; exact Bool.false_ne_true), if_neg (by rw [hSt]; exact Bool.false_ne_true), if_neg (by rw [hR]; simp)]]
        exact ⟨_, _, _, _, _, _, hd, map_snoc1 hln⟩
end
end Go.Proofs.YtebakjdeighdnaaGreat

/-
  Contract of the encoder's begin.
-/
namespace Go.Proofs.YtebakjdeighdnaaGreat
open Go.RowKit Go.Maps
set_option linter.unusedVariables false

/-- The first section has been written. -/
def Qe.tell (E : Qe) : Qe := ⟨E.T, E.B, E.K, E.op, E.rest, E.err, true⟩
theorem pF_1 (p : Nat) (sd : Bool) (B K bs bq bu bb : Nat) (vR : Value) (er : Nat) : ∀ j, j < 10 → (if j = 1 then .bool true else pF p sd B K bs bq bu bb vR er j) = pF p true B K bs bq bu bb vR er j := fun j hj => by
  unfold pF
  match j, hj with
  | 0, _ => rfl
  | 1, _ => rfl
  | 2, _ => rfl
  | 3, _ => rfl
  | 4, _ => rfl
  | 5, _ => rfl
  | 6, _ => rfl
  | 7, _ => rfl
  | 8, _ => rfl
  | 9, _ => rfl
section
variable {q p N : Nat} {E : Qe} {S : Nat → Prop} {w w' : World}
theorem Pq.keepB (h : Pq q p N E w S) (hb : Below w.heap.size w w') : Pq q p N E w' S := (Wd.pqB _ _ _ _ _).keep h hb
theorem Pq.ecells (h : Pq q p N E w S) : w.cell? ⟨q, 0, none⟩ = some (.pointer (some ⟨p, 0, none⟩)) ∧ w.cell? ⟨q, 1, none⟩ = some (.bool E.said) ∧ w.frozen? ⟨q, 1, none⟩ = false := by
  obtain ⟨a, LV, hlv, bs, bq, bu, bb, vR, S1, S2, hp, hS⟩ := h
  exact ⟨hp.cells.1, hp.cells.2.1, hp.cells.2.2.2.2.2.2.2.2.2.2 1⟩
theorem Pq.putSaid (h : Pq q p N E w S) : Pq q p N E.tell (w.setCell ⟨q, 1, none⟩ (.bool true)) S ∧ Fp S w (w.setCell ⟨q, 1, none⟩ (.bool true)) := by
  obtain ⟨a, LV, hlv, bs, bq, bu, bb, vR, S1, S2, hp, hS⟩ := h
  obtain ⟨h1, h2⟩ := hp.set (sd := true) (K := E.K) (er := E.err) 1 (.bool true) (pF_1 _ _ _ _ _ _ _ _ _ _)
  exact ⟨⟨a, LV, hlv, bs, bq, bu, bb, vR, S1, S2, h1, hS⟩, h2.mono fun k hk => (hS k).2 hk⟩
theorem pqcap (h : Pq q p N E w S) : Calls Tryz.prog 48 #[.pointer (some ⟨p, 0, none⟩)] w fun r w' => r = .returned (.int .i64 (E.T.cap : Int)) ∧ Below w.heap.size w w' := by
  obtain ⟨a, LV, hlv, hraw⟩ := h
  obtain ⟨S1, h1⟩ := hraw.tb
  exact cap_any h1
theorem Pq.tellT (h : Pq q p N E w S) (hs : E.said = true) : Pq q p N E.tell w S := by
  unfold Qe.tell
  rw [← hs]
  exact h
set_option maxRecDepth 100000 in
set_option maxHeartbeats 4000000 in
theorem begin_any (h : Pq q p N E w S) (hc : E.T.cap ≤ 1000000) :
    Calls Tryz.prog 24 #[.pointer (some ⟨q, 0, none⟩)] w fun r w' => ∃ v, r = .returned v ∧ OwB w' w.heap.size v (capW E.said E.T.cap) ∧ Pq q p N E.tell w' S ∧ Fp S w w' := by
  obtain ⟨c0, c1, f1⟩ := h.ecells
  cases hs : E.said with
  | true =>
    rw [hs] at c1
    have HT := Bx.mk (h.tellT hs)
    clear h hs f1
    go_enter Tryz.func24, Tryz.ntmps24
    go_wp2_with fail
    go_ret
    exact ⟨_, rfl, OwB.nil _ _, HT.out, Fp.refl _ _⟩
  | false =>
    rw [hs] at c1
    obtain ⟨h2, hf2⟩ := h.putSaid
    have HT := Bx.mk h2
    have HF := Bx.mk hf2
    have HC := Bx.mk (Pq.ecells h2).1
    have HCAP := Bx.mk (fun (W : World) (hW : Below (w.setCell ⟨q, 1, none⟩ (.bool true)).heap.size (w.setCell ⟨q, 1, none⟩ (.bool true)) W) => pqcap (Pq.keepB h2 hW))
    have HCE := Bx.mk (fun (W : World) (hW : Below (w.setCell ⟨q, 1, none⟩ (.bool true)).heap.size (w.setCell ⟨q, 1, none⟩ (.bool true)) W) => (Pq.ecells (Pq.keepB h2 hW)).1)
    have HK := Bx.mk (fun (W : World) (hW : Below (w.setCell ⟨q, 1, none⟩ (.bool true)).heap.size (w.setCell ⟨q, 1, none⟩ (.bool true)) W) => Pq.keepB h2 hW)
    have HSET := Bx.mk (fun W => setCap_any E.T.cap W hc)
    have hcap : E.tell.T.cap = E.T.cap := rfl
    simp only [hcap] at HCAP
    have HSZ : Bx ((w.setCell ⟨q, 1, none⟩ (.bool true)).heap.size = w.heap.size) := ⟨by simp [World.setCell]⟩
    obtain ⟨w2, hw2⟩ : ∃ w2, w.setCell ⟨q, 1, none⟩ (.bool true) = w2 := ⟨_, rfl⟩
    rw [hw2] at HT HF HC HSZ
    simp only [hw2] at HCAP HCE HK
    have HW := Bx.mk hw2
    have c2 := HC.out
    by_cases h0 : E.T.cap = 0
    · have hd : decide ((E.T.cap : Int) = 0) = true := decide_eq_true (by omega)
      have HW0 : Bx (capW false E.T.cap = []) := ⟨by unfold capW; rw [h0]; rfl⟩
      obtain ⟨CAP, hCAP⟩ := letter E.T.cap
      rw [hCAP] at hd
      have hd2 : (CAP == 0) = decide (CAP = 0) := rfl
      rw [hd] at hd2
      simp only [hCAP] at HCAP
      clear h hs h2 hf2 hc hcap h0 hCAP
      go_enter Tryz.func24, Tryz.ntmps24
      go_wp2_with (go_at_call 48; refine (HCAP.out w2 (Below.refl _ _)).mono ?_; rintro r w3 ⟨rfl, hb3⟩; have HB3 := Bx.mk hb3; clear hb3)
      go_ret
      refine ⟨_, rfl, ?_, HK.out _ HB3.out, ?_⟩
      · rw [HW0.out]; exact OwB.nil _ _
      · exact HF.out.then (Fp.of_below HB3.out)
    · have hd : decide ((E.T.cap : Int) = 0) = false := decide_eq_false (by omega)
      have HW0 : Bx (capW false E.T.cap = pre 32 5 E.T.cap) := ⟨by unfold capW; rw [if_pos (by simp; omega)]⟩
      obtain ⟨CAP, hCAP⟩ := letter E.T.cap
      rw [hCAP] at hd
      have hd2 : (CAP == 0) = decide (CAP = 0) := rfl
      rw [hd] at hd2
      simp only [hCAP] at HCAP HSET
      clear h hs h2 hf2 hc hcap h0 hCAP
      go_enter Tryz.func24, Tryz.ntmps24
      go_wp2_with (first
        | (go_at_call 48; refine (HCAP.out w2 (Below.refl _ _)).mono ?_; rintro r w3 ⟨rfl, hb3⟩; have HB3 := Bx.mk hb3; have c3 := HCE.out _ hb3; clear hb3)
        | (go_at_call 48; refine (HCAP.out w3 HB3.out).mono ?_; rintro r w4 ⟨rfl, hb4⟩; have HB4 := Bx.mk (HB3.out.trans (hb4.mono HB3.out.size)); clear hb4)
        | (go_at_call 49; refine (HSET.out _).mono ?_; rintro r w5 ⟨v5, rfl, ho5, hb5⟩; have HO5 := Bx.mk ho5; have HB5 := Bx.mk (HB4.out.trans (hb5.mono HB4.out.size)); clear ho5 hb5))
      go_ret
      refine ⟨_, rfl, ?_, HK.out _ HB5.out, ?_⟩
      · rw [HW0.out]; exact HO5.out.mono (by rw [← HSZ.out]; exact HB4.out.size)
      · exact HF.out.then (Fp.of_below HB5.out)
end
end Go.Proofs.YtebakjdeighdnaaGreat

/-
  Contract of the draft's section.
-/
namespace Go.Proofs.YtebakjdeighdnaaGreat
open Go.RowKit Go.Maps
set_option linter.unusedVariables false

theorem lnc_at : ∀ (l : List (Ql × Value)) (k : Nat) (hk : k < l.length),
    (l.flatMap lnc)[k * 3]? = some l[k].2 ∧ (l.flatMap lnc)[k * 3 + 1]? = some (.bool (decide (l[k].1.k = 1))) ∧ (l.flatMap lnc)[k * 3 + 2]? = some (.int .u64 ((if l[k].1.k = 1 then l[k].1.i else 0 : Nat) : Int))
  | a :: l, 0, _ => by simp [List.flatMap_cons, lnc]
  | a :: l, k + 1, hk => by
    have hk' : k < l.length := by simpa using hk
    obtain ⟨h1, h2, h3⟩ := lnc_at l k hk'
    have h3l : (lnc a).length = 3 := rfl
    rw [List.flatMap_cons]
    refine ⟨?_, ?_, ?_⟩
    · rw [List.getElem?_append_right (by omega), h3l, show (k + 1) * 3 - 3 = k * 3 by omega]; exact h1
    · rw [List.getElem?_append_right (by omega), h3l, show (k + 1) * 3 + 1 - 3 = k * 3 + 1 by omega]; exact h2
    · rw [List.getElem?_append_right (by omega), h3l, show (k + 1) * 3 + 2 - 3 = k * 3 + 2 by omega]; exact h3
theorem ln_at {w : World} {v : Value} {l : List (Ql × Value)} (h : Rn 3 w v l.length (l.flatMap lnc)) (i : Nat) (hi : i < l.length) :
    ∃ b o : Nat, (∀ W : World, (Instr.indexAt 69 v (.int .i64 (i : Int))).run Tryz.prog W = .ok (.pointer (some ⟨b, o, none⟩)) W) ∧
      ∀ W : World, Rn 3 W v l.length (l.flatMap lnc) → W.cell? ⟨b, o, none⟩ = some l[i].2 ∧ W.cell? ⟨b, o + 1, none⟩ = some (.bool (decide (l[i].1.k = 1))) ∧ W.cell? ⟨b, o + 2, none⟩ = some (.int .u64 ((if l[i].1.k = 1 then l[i].1.i else 0 : Nat) : Int)) := by
  obtain ⟨b, o, c, rfl, h1, h2, h3, hc⟩ := Rn.at_ h (by omega) (by omega)
  have hsz : ∀ W : World, (sizeOf (Tryz.prog.elem 69)).run Tryz.prog W = .ok 3 W := fun W => by kernel_rfl
  refine ⟨b, o + i * 3, fun W => ?_, fun W hW => ?_⟩
  · simp [Instr.indexAt, asIntOf, run_underlying Tryz.underlying69, Sem.run_bind, hi, Result.andThen]
    simp [Addr.add]
  · obtain ⟨b', o', c', e, _, _, _, hc'⟩ := Rn.at_ hW (by omega) (by omega)
    injection e with e1 e2 e3
    injection e1 with e1
    injection e1 with e1 e4
    subst e1; subst e4
    obtain ⟨f1, f2, f3⟩ := lnc_at l i hi
    exact ⟨hc' _ _ f1, hc' _ _ f2, hc' _ _ f3⟩
theorem ln_len {w : World} {v : Value} {n : Nat} {xs : List Value} (h : Rn 3 w v n xs) (ty : TypeId) (W : World) : (Builtin.len_ #[69] ty #[v]).run Tryz.prog W = .ok (.int .i64 (n : Int)) W := by
  obtain ⟨A, c, rfl, h1, h2, h3⟩ := h
  simp [Builtin.len_, run_underlying Tryz.underlying69, goInt]
theorem lineW_dyn {c : Nat} {y : Ql} (h : y.k = 1) : lineW c y = pre 128 6 (c - 1 - y.i) := by unfold lineW; rw [if_neg (by omega), if_pos h]
theorem lineW_own {c : Nat} {y : Ql} (h : y.k ≠ 1) : lineW c y = lineW 0 y := by unfold lineW; rw [if_neg h, if_neg h]
theorem linesV_take (c : Nat) (l : List (Ql × Value)) (k : Nat) (hk : k < l.length) : linesW c ((l.take (k + 1)).map (·.1)) = linesW c ((l.take k).map (·.1)) ++ lineW c l[k].1 := by
  rw [List.take_succ_eq_append_getElem hk, List.map_append]
  unfold linesW
  rw [List.flatMap_append]
  simp
theorem linesV_le (c : Nat) (l : List (Ql × Value)) (k : Nat) : (linesW c ((l.take k).map (·.1))).length ≤ (linesW c (l.map (·.1))).length := by
  conv => rhs; rw [← List.take_append_drop k l]
  rw [List.map_append]
  unfold linesW
  rw [List.flatMap_append, List.length_append]
  omega
theorem own_setX {w : World} {B G : Nat} {x v : Value} {l : List UInt8} (ho : OwB w B x l) (hne : ∀ k, x.ownBlock = some k → k ≠ G) : OwB (w.setCell ⟨G, 0, none⟩ v) B x l :=
  ho.kept fun k hk => (fp_set G 0 v w).block k (ho.lt hk) (hne k hk)
/-- What the section reads. -/
structure Sv (q s d : Nat) (oV pV lV : Value) (u : List Nat) (ln : List (Ql × Value)) (w : World) : Prop where
  row : w.rowIs d 71 5 (drF q s oV pV lV)
  un : Un w pV u
  rn : Rn 3 w lV ln.length (ln.flatMap lnc)
  z : ∃ T, Ob (Zd ln) w T
section
variable {q p s d : Nat} {oV pV lV : Value} {u : List Nat} {ln : List (Ql × Value)} {w w' : World}
theorem Sv.keep (h : Sv q s d oV pV lV u ln w) (hb : Below w.heap.size w w') : Sv q s d oV pV lV u ln w' := by
  obtain ⟨T, hT⟩ := h.z
  exact ⟨h.row.of_block (hb.block d h.row.lt), h.un.keep hb, h.rn.keep hb, T, (Wd.ob _).keep hT hb⟩
theorem Sv.cells (h : Sv q s d oV pV lV u ln w) : w.cell? ⟨d, 0, none⟩ = some (.pointer (some ⟨q, 0, none⟩)) ∧ w.cell? ⟨d, 3, none⟩ = some pV ∧ w.cell? ⟨d, 4, none⟩ = some lV :=
  ⟨h.row.cell (i := 0) (by omega), h.row.cell (i := 3) (by omega), h.row.cell (i := 4) (by omega)⟩
theorem Sv.zz (h : Sv q s d oV pV lV u ln w) : Zd ln w := by obtain ⟨T, hT⟩ := h.z; exact hT.get
set_option maxRecDepth 100000 in
set_option maxHeartbeats 8000000 in
theorem dsection_any (h : Sv q s d oV pV lV u ln w) (cap : Nat) (hcp : cap ≤ 1000000) (hcap : ∀ W, Below w.heap.size w W → Calls Tryz.prog 48 #[.pointer (some ⟨p, 0, none⟩)] W fun r w' => r = .returned (.int .i64 (cap : Int)) ∧ Below W.heap.size W w')
    (hq0 : ∀ W, Below w.heap.size w W → W.cell? ⟨q, 0, none⟩ = some (.pointer (some ⟨p, 0, none⟩))) (hu : ∀ i ∈ u, i ≤ 1000000) (hi : ∀ y ∈ ln, y.1.k = 1 → y.1.i < ctN u) (hln : ln.length ≤ 100000) (hL : (linesW (ctN u) (ln.map (·.1))).length ≤ 900000000) :
    Calls Tryz.prog 27 #[.pointer (some ⟨d, 0, none⟩)] w fun r w' => ∃ v', r = .returned v' ∧ OwB w' w.heap.size v' (qpre (ctN u) (ctN u) (cap / 32) ++ linesW (ctN u) (ln.map (·.1))) ∧ Below w.heap.size w w' := by
  have hcu : ctN u ≤ 1000001 := by
    unfold ctN
    split
    · omega
    · have := mxN_le hu; omega
  have HCNT := Bx.mk (fun (W : World) (hW : Sv q s d oV pV lV u ln W) => count_any8 hW.un hu)
  obtain ⟨c, hc⟩ : ∃ c, ctN u = c := ⟨_, rfl⟩
  simp only [hc] at hcu hi hL HCNT
  rw [hc]
  have HCAP := Bx.mk hcap
  have HQ0 := Bx.mk hq0
  have hmost : mostN (cap : Int) = cap / 32 := by unfold mostN; omega
  have HPRE := Bx.mk (fun (W : World) => qPrefix_any (.slice none 0 0) [] c c (cap : Int) W (Rd.nil W) (by simp) (by omega) (by omega) (by omega))
  simp only [hmost, List.nil_append] at HPRE
  have hpl : (qpre c c (cap / 32)).length ≤ 22 := by
    unfold qpre
    rw [List.length_append, if_pos (Nat.le_refl _)]
    have h1 := pre_len11 0 8 (ecN c (cap / 32))
    have h2 := pre_len11 0 7 (c - c)
    omega
  obtain ⟨P, hP⟩ : ∃ P, qpre c c (cap / 32) = P := ⟨_, rfl⟩
  rw [hP] at hpl
  simp only [hP] at HPRE
  rw [hP]
  obtain ⟨n, hn⟩ : ∃ n, ln.length = n := ⟨_, rfl⟩
  have HN := Bx.mk hn
  have hlen := fun ty W => ln_len h.rn ty W
  rw [hn] at hlen hln
  have HBK : Bx (∀ k, (P ++ linesW c ((ln.take k).map (·.1))).length ≤ 1000000000) := ⟨fun k => by
    have := linesV_le c ln k
    rw [List.length_append]
    omega⟩
  have HI := Bx.mk hi
  have HSV := Bx.mk h
  obtain ⟨i0, hi0, hz, hz1, hz2⟩ := info_parts infoU8
  have HINF : Bx (Tryz.prog.info? 5 = some i0 ∧ i0.zero = some (.int .u8 0) ∧ i0.size = 1 ∧ i0.bytes = 1) := ⟨hi0, hz, hz1, hz2⟩
  have HCU := Bx.mk hcu
  obtain ⟨c0, c3, c4⟩ := h.cells
  obtain ⟨C, hC⟩ := letter c
  obtain ⟨CAP, hCAP⟩ := letter cap
  simp only [hC, hCAP] at HCNT HPRE HCAP
  have HC := Bx.mk hC
  have HSVC := Bx.mk (fun (W : World) (hb : Below w.heap.size w W) => (h.keep hb).cells)
  clear h hcap hq0 hu hi hL hcu hc hmost hpl hP hi0 hz hz1 hz2 hcp hC hCAP hn
  go_enter Tryz.func27, Tryz.ntmps27
  go_wp2_with (first
    | (go_at_call 60; refine (HCNT.out _ HSV.out).mono ?_; rintro r w1 ⟨rfl, rfl⟩; have q0 := HQ0.out w (Below.refl _ _))
    | (go_at_call 48; refine (HCAP.out _ (Below.refl _ _)).mono ?_; rintro r w2 ⟨rfl, hb2⟩; have HB2 := Bx.mk hb2; clear hb2)
    | (go_at_call 61; refine (HPRE.out _).mono ?_; rintro r w3 ⟨v3, rfl, ho3, hb3⟩; have HB3 := Bx.mk (HB2.out.trans (hb3.mono HB2.out.size)); have HO3 := Bx.mk (ho3.mono HB2.out.size); obtain ⟨k0, k3, k4⟩ := HSVC.out w3 HB3.out; clear ho3 hb3))
  clear c0 c3 c4 q0 k0 k3 k4
  go_loopg [4, 28] n (fun g s4 s28 wx => ∃ k : Nat, k + g = n ∧ s28 = .int .i64 k ∧ Bx (OwB wx w.heap.size s4 (P ++ linesW c ((ln.take k).map (·.1)))) ∧ Bx (Below w.heap.size w wx))
  case atStart => exact ⟨0, by omega, rfl, ⟨by simpa [linesW] using HO3.out⟩, HB3⟩
  case round =>
    obtain ⟨k, hkg, rfl, HP, HB⟩ := hrel
    cases gk with
    | zero =>
      obtain rfl : k = n := by omega
      go_wp2_with fail
      go_ret
      have := HP.out
      rw [← HN.out, List.take_length] at this
      exact ⟨_, rfl, this, HB.out⟩
    | succ g =>
      have hk : k < n := by omega
      have hkn : k < ln.length := by rw [HN.out]; exact hk
      have hkz : (k : Int) < (n : Int) := by omega
      obtain ⟨b, o, hix, hcs⟩ := ln_at HSV.out.rn k hkn
      obtain ⟨x0, x1, x2⟩ := hcs wr (HSV.out.keep HB.out).rn
      have HTK := Bx.mk (linesV_take c ln k hkn)
      have hbk := HBK.out (k + 1)
      rw [HTK.out, ← List.append_assoc] at hbk
      have HZ := Bx.mk ((HSV.out.keep HB.out).zz _ (List.getElem_mem hkn))
      have HI1 := Bx.mk (HI.out _ (List.getElem_mem hkn))
      generalize ln[k] = yv at x0 x1 x2 HTK hbk HZ HI1
      obtain ⟨y, v⟩ := yv
      simp only at x0 x1 x2 HTK hbk HZ HI1
      obtain ⟨⟨A, nn, cc, rfl⟩, hz1, hz2⟩ := HZ.out
      have HBK2 := Bx.mk hbk
      obtain ⟨G, hG⟩ : ∃ G, wr.heap.size = G := ⟨_, rfl⟩
      have HWS : Bx (w.heap.size ≤ wr.heap.size) := ⟨HB.out.size⟩
      have HGG := Bx.mk hG
      clear hcs hbk
      by_cases hy : y.k = 1
      · obtain ⟨rfl, rfl, rfl⟩ : A = none ∧ nn = 0 ∧ cc = 0 := by have := hz1 hy; injection this with e1 e2 e3; exact ⟨e1, e2, e3⟩
        rw [decide_eq_true hy] at x1
        rw [if_pos hy] at x2
        have hlt := HI1.out hy
        have HLW := Bx.mk (lineW_dyn (c := c) hy)
        have hcc := HCU.out
        have HNUM := Bx.mk (fun W V hV => qnumber_at 2 128 6 (by omega) (by omega) (by decide) (c - 1 - y.i) 2 6 V rfl rfl hV (by omega) W)
        obtain ⟨V, hV⟩ := letter (c - 1 - y.i)
        have HNUM2 := Bx.mk (fun W => HNUM.out W V hV)
        have hCC := HC.out
        obtain ⟨I, hI⟩ := letter y.i
        rw [hI] at x2
        obtain ⟨C1, hC1⟩ : ∃ C1 : Int, C - 1 = C1 := ⟨_, rfl⟩
        have q1 : 0 ≤ C - 1 ∧ C - 1 < 18446744073709551616 ∧ 0 ≤ C1 - I ∧ C1 - I < 18446744073709551616 ∧ C1 - I = V := by omega
        have hw1 : IntKind.u64.wrap (C - 1) = C1 := (u64_keep q1.1 q1.2.1).trans hC1
        have hw2 : IntKind.u64.wrap (C1 - I) = V := (u64_keep q1.2.2.1 q1.2.2.2.1).trans q1.2.2.2.2
        clear q1 hC1 hI hCC hV hcc hlt hz1 hz2 hy HZ HI1 HNUM
        go_wp2_with fail
        refine (HNUM2.out _).mono ?_
        rintro r w6 ⟨v6, rfl, ho6, hb6⟩
        obtain ⟨vA, vn, vc, rfl⟩ := ho6.shape
        have hblk : w6.heap[G]? = some (.cells #[.slice none 0 0, .bool true, .int .u64 I] 115 (0, 0)) := by
          rw [← hG, hb6.block wr.heap.size (by simp)]
          exact heap_alloc_last wr _
        have m0 : w6.cell? ⟨G, 0, none⟩ = some (.slice none 0 0) := by simp [World.cell?, hblk]
        have m1 : w6.frozen? ⟨G, 0, none⟩ = false := by simp [World.frozen?, hblk]
        have hsz6 : wr.heap.size + 1 ≤ w6.heap.size := by have := hb6.size; simp at this; omega
        have HOW := Bx.mk (own_setX (G := G) (v := .slice vA vn vc) ((HP.out.keep ((Below.refl wr.heap.size wr).alloc (Nat.le_refl _) _)).keep hb6) (fun k' hk' => by have := HP.out.lt hk'; omega))
        have HON := Bx.mk (own_setX (G := G) (v := .slice vA vn vc) ho6 (fun k' hk' => by have := ho6.ge hk'; simp at this; omega))
        have HBS : Bx (Below w.heap.size w (w6.setCell ⟨G, 0, none⟩ (.slice vA vn vc))) := ⟨((HB.out.alloc HWS.out _).trans (hb6.mono (by have := HWS.out; simp; omega))).trans ((fp_set G 0 (.slice vA vn vc) w6).below (by have := HWS.out; omega) (fun k' hk' => by have := HWS.out; omega))⟩
        have HWB : Bx (w.heap.size ≤ (w6.setCell ⟨G, 0, none⟩ (.slice vA vn vc)).heap.size) := ⟨HBS.out.size⟩
        clear hblk hb6 ho6 hsz6
        go_wp2_with (at_builtin; refine wpList_append_og _ rfl _ _ 23 rfl w.heap.size 5 i0 (.int .u8 0) 1 Tryz.underlying23 HINF.out.1 HINF.out.2.1 HINF.out.2.2.1 HINF.out.2.2.2 rfl _ _ _ _ rfl rfl HOW.out HON.out.bs one_bv (by have := HBK2.out; rw [HLW.out] at this; simp only [List.length_map, List.length_append] at this ⊢; omega) (by have := HBK2.out; rw [HLW.out] at this; simp only [List.length_map, List.length_append, maxLen] at this ⊢; omega) HWB.out ?_; intro v5 w5 ho5 hb5 hg5)
        have HP5 : Bx (OwB w5 w.heap.size v5 (P ++ linesW c ((ln.take (k + 1)).map (·.1)))) := ⟨by rw [HTK.out, HLW.out, ← List.append_assoc]; exact OwB.cat ho5⟩
        have HB5 := Bx.mk (HBS.out.trans hb5)
        clear ho5 hb5 hg5
        go_roundg g
        case measure => omega
        case rel => exact ⟨k + 1, by omega, by go_num, HP5, HB5⟩
      · rw [decide_eq_false hy] at x1
        rw [if_neg hy] at x2
        have HBY := Bx.mk (hz2 hy)
        have HLW := Bx.mk (lineW_own (c := c) hy)
        clear hz1 hz2 hy HZ HI1
        go_wp2_with (at_builtin; refine wpList_append_og _ rfl _ _ 23 rfl w.heap.size 5 i0 (.int .u8 0) 1 Tryz.underlying23 HINF.out.1 HINF.out.2.1 HINF.out.2.2.1 HINF.out.2.2.2 rfl _ _ _ _ rfl rfl (HP.out.keep ((Below.refl wr.heap.size wr).alloc (Nat.le_refl _) _)) (HBY.out.keep ((Below.refl wr.heap.size wr).alloc (Nat.le_refl _) _)) one_bv (by have := HBK2.out; rw [HLW.out] at this; simp only [List.length_map, List.length_append] at this ⊢; omega) (by have := HBK2.out; rw [HLW.out] at this; simp only [List.length_map, List.length_append, maxLen] at this ⊢; omega) (by have := HWS.out; simp; omega) ?_; intro v5 w5 ho5 hb5 hg5)
        have HP5 : Bx (OwB w5 w.heap.size v5 (P ++ linesW c ((ln.take (k + 1)).map (·.1)))) := ⟨by rw [HTK.out, HLW.out, ← List.append_assoc]; exact OwB.cat ho5⟩
        have HB5 := Bx.mk ((HB.out.alloc HWS.out _).trans hb5)
        clear ho5 hb5 hg5
        go_roundg g
        case measure => omega
        case rel => exact ⟨k + 1, by omega, by go_num, HP5, HB5⟩
end
end Go.Proofs.YtebakjdeighdnaaGreat

/-
  The section is kept.
-/
namespace Go.Proofs.YtebakjdeighdnaaGreat
open Go.RowKit Go.Maps
set_option linter.unusedVariables false

theorem Lv.more {op : List Qs} {a : Nat → Nat} {LV : LvT} {N M : Nat} (h : Lv op a LV N) (hm : N ≤ M) : Lv op a LV M := ⟨h.op, fun s => Nat.le_trans (h.bd s) hm, h.sl⟩
/-- The encoder behind a section. -/
def Qe.fin (E : Qe) (s : Nat) (a : Qa) : Qe := ⟨a.T, E.B, E.K, if 0 < a.c then E.op ++ [⟨s, a.c, a.u⟩] else E.op, E.rest, E.err, E.said⟩
theorem cntU_nil (op : List Qs) (s c : Nat) : cntU (op ++ [⟨s, c, []⟩]) = cntU op := funext fun x => by
  rw [cntU_snoc]
  simp
theorem owU_slice {w : World} {B : Nat} {v : Value} {ns : List Nat} (h : OwU w B v ns) (hn : 0 < ns.length) : ∃ b o n c, v = .slice (some ⟨b, o, none⟩) n c := by
  rcases h.2 with ⟨rfl, h0⟩ | ⟨g, cap, cur, rfl, _⟩
  · omega
  · exact ⟨_, _, _, _, rfl⟩
set_option maxRecDepth 100000 in
theorem keep_nil {v : Value} {w : World} (h : Un w v []) (q s : Nat) :
    Calls Tryz.prog 26 #[.pointer (some ⟨q, 0, none⟩), .int .u64 (s : Int), v] w fun r w' => r = .returned (.tuple #[]) ∧ w = w' := by
  have hlen := fun ty W => h.run_len ty W
  simp only [List.length_nil] at hlen
  clear h
  go_enter Tryz.func26, Tryz.ntmps26
  go_wp2_with fail
  refine bodyPost_ret (results_none rfl _ _ _) rfl ?_
  exact ⟨rfl, rfl⟩
section
variable {q p N s d : Nat} {E : Qe} {S : Nat → Prop} {w wx : World} {a : Qa} {ins : List UInt8} {ln : List (Ql × Value)} {oV pV lV : Value} {e T : Nat → Prop}
theorem dkeep_any (h : Dr q p N s d E S w a ins (uq a.u) ln oV pV lV e T wx) (hc : 0 < a.c ↔ a.u ≠ []) (hs : okU s) (hN : N + 1 < 1000000000) :
    Calls Tryz.prog 26 #[.pointer (some ⟨q, 0, none⟩), .int .u64 (s : Int), pV] wx fun r w' => r = .returned (.tuple #[]) ∧
      ∃ e', Pq q p (N + 2) (E.fin s a) w' e' ∧ Sv q s d oV pV lV (uq a.u) ln w' ∧ OwB w' w.heap.size oV ins ∧ Fp S w w' ∧ (∀ k, e' k → S k ∨ w.heap.size ≤ k) ∧ ∀ k, oV.ownBlock = some k → ¬ e' k := by
  obtain ⟨aa, LV, hlv, hraw⟩ := h.enc
  have hun : Un wx pV (uq a.u) := h.p.un
  by_cases hu : a.u = []
  · have hc0 : a.c = 0 := by
      rcases Nat.eq_zero_or_pos a.c with h0 | h0
      · exact h0
      · exact absurd hu (hc.1 h0)
    have hun0 := hun
    rw [hu, uq_nil] at hun0
    refine (keep_nil hun0 q s).mono ?_
    rintro r w' ⟨rfl, rfl⟩
    refine ⟨rfl, e, ⟨aa, LV, ?_, ?_⟩, ⟨h.row, hun, Rn.of_own h.l, T, h.z⟩, h.o, h.fp, h.es, h.eo⟩
    · have : (E.fin s a).op = E.op := by unfold Qe.fin; rw [hc0]; rfl
      rw [this]
      exact hlv.more (by omega)
    · have hr := hraw.more (N := N + 2) (by show N ≤ N + 2; omega)
      have e1 : cntU (E.op ++ [⟨s, a.c, a.u⟩]) = cntU E.op := by rw [hu]; exact cntU_nil _ _ _
      have e2 : blkF (E.op ++ [⟨s, a.c, a.u⟩]) E.K = blkF E.op E.K := funext fun x => by rw [hc0]; exact blkF_none _ _ _ _ _
      have e3 : (E.fin s a).op = E.op := by unfold Qe.fin; rw [hc0]; rfl
      unfold qcD at hr
      simp only [e1, e2] at hr
      unfold qcOf
      rw [e3]
      exact hr
  · have hc0 : 0 < a.c := hc.2 hu
    have hne : 0 < (uq a.u).length := by
      cases hh : a.u with
      | nil => exact absurd hh hu
      | cons x l =>
        have : x ∈ uq (x :: l) := mem_uq.2 (List.mem_cons_self ..)
        exact List.length_pos_of_mem this
    have hob : Ob (fun W => Un W pV (uq a.u)) wx (fun k => pV.ownBlock = some k) := ⟨fun k hk => (h.p.lt k hk).2, fun W hW hk => (show OwU W w.heap.size pV (uq a.u) from own_kept h.p hk).un⟩
    refine (keep_any hraw hlv rfl rfl (by show N + 1 < _; exact hN) (x := ⟨s, a.c, a.u⟩) hs (owU_slice h.p hne) hne hob (fun k hk hh => h.ep k hk hh)).mono ?_
    rintro r w' ⟨rfl, S', hr, hsub, hf⟩
    have e3 : (E.fin s a).op = E.op ++ [⟨s, a.c, a.u⟩] := by unfold Qe.fin; simp only; rw [if_pos hc0]
    have hp' := own_ne h.o h.p (by decide)
    refine ⟨rfl, S', ⟨addA aa LV s, addV LV s (pV, ⟨s, a.c, a.u⟩), ?_, ?_⟩, ⟨h.row.of_block (hf.block d h.row.lt h.ed), (show OwU w' w.heap.size pV (uq a.u) from own_keep8 h.p hf h.ep).un, Rn.of_own (own_keep8 h.l hf h.el), T, (Wd.ob _).besides h.z hf fun k hk => (h.et k hk).2.1⟩, h.o.kept (fun k hk => hf.block k (h.o.lt hk) (h.eo k hk)), h.fp.trans hf h.es, fun k hk => ?_, fun k hk hh => ?_⟩
    · rw [e3]
      exact (hlv.add (y := (pV, ⟨s, a.c, a.u⟩)) (owU_slice h.p hne)).more (by omega)
    · unfold qcOf
      rw [e3]
      exact hr
    · rcases hsub k hk with hk | hk
      · exact h.es k hk
      · exact .inr (h.p.lt k hk).1
    · rcases hsub k hh with hh | hh
      · exact h.eo k hk hh
      · exact hp' k hk hh
end
end Go.Proofs.YtebakjdeighdnaaGreat

/-
  A section: its start, its end.
-/
namespace Go.Proofs.YtebakjdeighdnaaGreat
open Go.RowKit Go.Maps
set_option linter.unusedVariables false

theorem lineV_len (c : Nat) (x : Ql) : (lineW c x).length ≤ fsz x.f + 22 := by
  have h1 : ∀ f k v, (pre f k v).length ≤ 11 := fun f k v => pre_len11 f k v
  have h2 := fun f k => putSk_len f k x.f.1.data.toList
  have h3 := fun f k => putSk_len f k x.f.2.data.toList
  have s1 : x.f.1.data.toList.length = x.f.1.size := by simp
  have s2 : x.f.2.data.toList.length = x.f.2.size := by simp
  simp only [s1, s2] at h2 h3
  unfold lineW fsz
  split
  · have := h1 192 6 x.i; omega
  · split
    · have := h1 128 6 (c - 1 - x.i); omega
    · split
      · have a1 := h1 (if secN x.f.1 then 112 else 80) 4 x.i
        have a2 := h3 0 7
        rw [List.length_append]; omega
      · have a1 := h2 (if secN x.f.1 then 48 else 32) 3
        have a2 := h3 0 7
        rw [List.length_append]; omega
theorem linesV_len (c M : Nat) : ∀ all : List Ql, (∀ x ∈ all, fsz x.f + 22 ≤ M) → (linesW c all).length ≤ all.length * M
  | [], _ => by simp [linesW]
  | x :: all, h => by
    have ih := linesV_len c M all fun y hy => h y (List.mem_cons_of_mem _ hy)
    have h1 := lineV_len c x
    have h2 := h x (List.mem_cons_self ..)
    show ((x :: all).flatMap (lineW c)).length ≤ (all.length + 1) * M
    rw [List.flatMap_cons, List.length_append, Nat.succ_mul]
    unfold linesW at ih
    omega
/-- What is so of all lines at a section's end. -/
theorem Gd.ends {E : Qe} {s k : Nat} {a : Qa} (h : Gd E s k a) : (0 < a.c ↔ a.u ≠ []) ∧ ctN (uq a.u) = a.c ∧ a.c ≤ a.T.tot ∧ (∀ i ∈ uq a.u, i < a.c) ∧ ∀ y ∈ a.all, y.k = 1 → y.i < a.c := by
  have hlt : ∀ i ∈ a.u, i < a.c := fun i hi => (h.inv.use i hi).1
  refine ⟨⟨fun hc hu => ?_, fun hu => ?_⟩, ?_, h.inv.window.1, fun i hi => hlt i (mem_uq.1 hi), fun y hy hk => ?_⟩
  · rcases h.inv.cnt with h0 | ⟨i, hi, _⟩
    · omega
    · rw [hu] at hi; cases hi
  · cases hh : a.u with
    | nil => exact absurd hh hu
    | cons x l => have := hlt x (by rw [hh]; exact List.mem_cons_self ..); omega
  · rcases h.inv.cnt with h0 | ⟨i, hi, e⟩
    · have hu : a.u = [] := by
        cases hh : a.u with
        | nil => rfl
        | cons x l => have := hlt x (by rw [hh]; exact List.mem_cons_self ..); omega
      rw [hu, h0]; rfl
    · exact ctN_of hlt (by rw [e, Nat.add_sub_cancel]; exact hi)
  · rcases h.inv.ok y hy with h1 | h1 | h1 | h1
    · omega
    · exact h1.2.2.1
    · omega
    · omega
theorem Gd.zero {E : Qe} (hg : E.good) (s : Nat) (said : Bool) : Gd E s 0 ⟨E.T, capW said E.T.cap, [], [], 0⟩ := by
  refine ⟨⟨hg.gq, rfl, fun x hx => (by cases hx), fun x hx => (by cases hx), .inl rfl⟩, Nat.le_refl _, Nat.le_refl _, ?_, Nat.le_refl _, rfl, fun h => absurd h (Nat.not_lt_zero _)⟩
  show (capW said E.T.cap).length ≤ 11 + 0 * 45000
  unfold capW
  split
  · exact pre_len11 _ _ _
  · exact Nat.zero_le _
section
variable {q p N s d : Nat} {E : Qe} {S : Nat → Prop} {w w1 wx wy : World} {a : Qa}
theorem DrA.keep (h : DrA q p N s d E S w a wx) (hb : Below wx.heap.size wx wy) : DrA q p N s d E S w a wy := by
  obtain ⟨ln, oV, pV, lV, e, T, h, hl⟩ := h
  exact ⟨ln, oV, pV, lV, e, T, h.keep hb, hl⟩
theorem DrA.fp (h : DrA q p N s d E S w a wx) : Fp S w wx := by
  obtain ⟨ln, oV, pV, lV, e, T, h, hl⟩ := h
  exact h.fp
/-- A draft is made. -/
theorem Dr.start (h : Pq q p N E w1 S) (hS : ∀ k, S k → k < w.heap.size) (hf : Fp S w w1) {v0 : Value} {ins : List UInt8} (hv : OwB w1 w.heap.size v0 ins) :
    DrA q p N s w1.heap.size E S w ⟨E.T, ins, [], [], 0⟩ (w1.alloc (.cells #[.pointer (some ⟨q, 0, none⟩), .int .u64 (s : Int), v0, .slice none 0 0, .slice none 0 0] 71)) := by
  have hb := (Below.refl w1.heap.size w1).alloc (Nat.le_refl _) (.cells #[.pointer (some ⟨q, 0, none⟩), .int .u64 (s : Int), v0, .slice none 0 0, .slice none 0 0] 71)
  have h2 := Pq.keepB h hb
  have hsz := hf.size
  obtain ⟨aa, LV, hlv, hraw⟩ := h2
  have e1 : cntU (E.op ++ [⟨s, 0, []⟩]) = cntU E.op := cntU_nil _ _ _
  have e2 : blkF (E.op ++ [⟨s, 0, []⟩]) E.K = blkF E.op E.K := funext fun x => blkF_none _ _ _ _ _
  refine ⟨[], v0, .slice none 0 0, .slice none 0 0, S, fun _ => False, ⟨⟨aa, LV, hlv, ?_⟩, ⟨_, heap_alloc_last w1 _, rfl, fun i hi => ?_⟩, hv.keep hb, OwU.nil _ _, World.ownsRow_nil _ _ _ _, Ob.none fun W y hy => (by cases hy), hsz, fun hh => (by have := hS _ hh; omega), fun k hk hh => (by have := hS k hh; have := hv.ge hk; omega), fun k hk => (by cases hk), fun k hk => (by cases hk), fun k hk => hk.elim, fun k hk => .inl hk, hf.then (Fp.of_below hb)⟩, rfl⟩
  · unfold qcD
    simp only [e1, e2]
    unfold qcOf at hraw
    exact hraw
  · match i, hi with
    | 0, _ => rfl
    | 1, _ => rfl
    | 2, _ => rfl
    | 3, _ => rfl
    | 4, _ => rfl
end
end Go.Proofs.YtebakjdeighdnaaGreat
