/-
  Texts put together: PdH.
-/
import Derived.Test.YtejkbibahbcofaaM20

/-
  Contracts of the draft's literal.
-/
namespace Go.Proofs.Ytejkbibahbcofaa
open Go.RowKit Go.Maps
set_option linter.unusedVariables false

theorem Tab.add_same {C T : Tab} (hl : C.l = T.l) (hc : C.cap = T.cap) (f : Fd) : (C.add f).l = (T.add f).l ∧ (C.add f).cap = (T.add f).cap := by
  have hr : C.room f = T.room f := by unfold Tab.room; rw [hc]
  unfold Tab.add
  rw [hr, hl, hc]
  split <;> exact ⟨rfl, rfl⟩

section
variable {w0 w w' : World} {p t0 mx : Nat} {T0 T : Tab} {o : Bool} {ss : List Nat} {ad out : List Fd} {b : List UInt8}

set_option maxRecDepth 100000 in
set_option maxHeartbeats 1000000 in
theorem literal_none (h : Df w0 p t0 T0 mx o T ss ad out b w) (hl : b.length ≤ 100000) (hL : sizeF T.l ≤ 4096) (k : Nat) (hk : 1 ≤ k ∧ k ≤ 8) (add : Bool) (hn : litP k T.l b = none) :
    Calls Try.prog 66 #[.pointer (some ⟨p, 0, none⟩), .int .i64 (k : Int), .bool add] w fun e w' => e = .returned (.bool false) ∧ Below w0.heap.size w0 w' := by
  have HP := Bx.mk h
  have HL := Bx.mk hl
  have HK := Bx.mk hk
  have HLS := Bx.mk hL
  unfold litP at hn
  clear h hl hk hL
  cases hnm : nameP k T.l b with
  | none =>
    have HNM := Bx.mk hnm
    clear hn hnm
    go_enter Try.func66, Try.ntmps66
    go_wp2_with fail
    refine (name_none HP.out k HK.out HL.out HNM.out).mono ?_
    rintro e w1 ⟨x, rfl, hb1⟩
    have HB1 := Bx.mk hb1
    clear hb1
    go_wp2_with fail
    go_ret
    exact ⟨rfl, HB1.out⟩
  | some pr =>
    obtain ⟨nm, r⟩ := pr
    rw [hnm] at hn
    simp only at hn
    have ht : txtP r = none := by
      cases ht : txtP r with
      | none => rfl
      | some q => rw [ht] at hn; cases hn
    have HNM := Bx.mk hnm
    have HT := Bx.mk ht
    have HLR : Bx (r.length ≤ 100000) := ⟨by have := (nameP_some HLS.out hnm).2; have := HL.out; omega⟩
    clear hn hnm ht
    go_enter Try.func66, Try.ntmps66
    go_wp2_with fail
    refine (name_some HP.out k HK.out HL.out HNM.out).mono ?_
    rintro e w1 ⟨rfl, h1⟩
    go_wp2_with fail
    refine (text_none h1 HLR.out HT.out).mono ?_
    rintro e w2 ⟨rfl, hb2⟩
    have HB2 := Bx.mk hb2
    clear h1 hb2
    go_wp2_with fail
    go_ret
    exact ⟨rfl, HB2.out⟩

theorem litP_parts {k : Nat} {L : List Fd} {f : Fd} {r' : List UInt8} (hn : litP k L b = some (f, r')) : ∃ nm r vl, nameP k L b = some (nm, r) ∧ txtP r = some (vl, r') ∧ f = (nm, vl) := by
  unfold litP at hn
  cases hnm : nameP k L b with
  | none => rw [hnm] at hn; cases hn
  | some pr =>
    obtain ⟨nm, r⟩ := pr
    rw [hnm] at hn
    simp only at hn
    cases ht : txtP r with
    | none => rw [ht] at hn; cases hn
    | some q =>
      obtain ⟨vl, r2⟩ := q
      rw [ht] at hn
      simp only [Option.some.injEq, Prod.mk.injEq] at hn
      obtain ⟨rfl, rfl⟩ := hn
      exact ⟨nm, r, vl, rfl, ht, rfl⟩

set_option maxRecDepth 100000 in
set_option maxHeartbeats 1000000 in
theorem literal_plain (h : Df w0 p t0 T0 mx o T ss ad out b w) (hl : b.length ≤ 100000) (hL : sizeF T.l ≤ 4096) (ho : out.length < 64) (k : Nat) (hk : 1 ≤ k ∧ k ≤ 8) {f : Fd} {r' : List UInt8} (hn : litP k T.l b = some (f, r')) :
    Calls Try.prog 66 #[.pointer (some ⟨p, 0, none⟩), .int .i64 (k : Int), .bool false] w fun e w' => e = .returned (.bool true) ∧ Df w0 p t0 T0 mx o T ss ad (out ++ [f]) r' w' := by
  obtain ⟨f1, r, f2, hnm, ht, rfl⟩ := litP_parts hn
  have HP := Bx.mk h
  have HL := Bx.mk hl
  have HK := Bx.mk hk
  have HO := Bx.mk ho
  have HNM := Bx.mk hnm
  have HT := Bx.mk ht
  have HLR : Bx (r.length ≤ 100000) := ⟨by have := (nameP_some hL hnm).2; omega⟩
  clear h hl hk hL ho hn hnm ht
  go_enter Try.func66, Try.ntmps66
  go_wp2_with fail
  refine (name_some HP.out k HK.out HL.out HNM.out).mono ?_
  rintro e w1 ⟨rfl, h1⟩
  go_wp2_with fail
  refine (text_some h1 HLR.out HT.out).mono ?_
  rintro e w2 ⟨rfl, h2⟩
  have HQ := Bx.mk (h2.keep ((Below.refl w2.heap.size w2).alloc (Nat.le_refl _) (.cells #[.string f1, .string f2] 61)))
  have HFQ := Bx.mk (Fb.new 61 w2 (f1, f2))
  clear h1 h2
  go_wp2_with fail
  generalize w2.alloc (.cells #[.string f1, .string f2] 61) = wq at HQ HFQ ⊢
  generalize w2.heap.size = G at HFQ ⊢
  obtain ⟨rv, tp, fv, sv, av, S, h3⟩ := HQ.out.keep (Below.refl _ _).drew
  obtain ⟨A, nA, cA, w5, hrun, k3, kf3, hd, _⟩ := h3.pushF (by have := HO.out; omega) (f1, f2)
  have HD := Bx.mk hd
  obtain ⟨d0, d1, d2, d3, d4, d5⟩ := h3.cells
  have hd3 : (wq.alloc (.cells #[.string f1, .string f2] 61)).drew.cell? ⟨p, 3, none⟩ = some fv := (h3.keep ((Below.refl _ _).alloc (Nat.le_refl _) (.cells #[.string f1, .string f2] 61))).cells.2.2.2.1
  obtain ⟨e1, e2⟩ := (HFQ.out.keep (Below.refl _ _).drew).cells
  clear h3 hd d0 d1 d2 d4 d5
  go_region_law (refine step_append_run rfl (.tmp 33) (.tmp 35) 36 rfl fv _ rfl rfl hrun ?_)
  all_goals go_wp2_with fail
  all_goals go_ret
  all_goals exact ⟨rfl, HD.out.df (by simp)⟩

theorem Fb.fs {w : World} {g : Nat} {f : Fd} (h : Fb 61 w g f) : Fs w (.slice (some ⟨g, 0, none⟩) 1 1) [f] := by
  obtain ⟨h1, h2⟩ := h.cells
  refine ⟨_, 1, rfl, Nat.le_refl _, by simp [maxLen], rfl, .inr ⟨_, rfl, fun j u hu => ?_⟩⟩
  have hj : j < 2 := (List.getElem?_eq_some_iff.1 hu).1
  rw [Addr.add_lit]
  rcases Nat.lt_or_ge j 1 with h0 | h0
  · obtain rfl : j = 0 := by omega
    rw [h1]; simpa [fvl] using hu
  · obtain rfl : j = 1 := by omega
    rw [h2]; simpa [fvl] using hu
/-- The draft has its own table, beside block G that holds the field f. -/
def OwG (w0 : World) (p t0 : Nat) (nt mx : Nat) (T : Tab) (ss : List Nat) (ad out : List Fd) (b : List UInt8) (tp : Nat) (sv av : Value) (f : Fd) (G : Nat) (w : World) : Prop :=
  ∃ rv fv S, Dp w0 p t0 nt mx true T ss ad out b rv tp fv sv av S w ∧ Fb 61 w G f ∧ ¬ S G ∧ G ≠ p ∧ av.ownBlock ≠ some G
/-- And beside another block N that holds it. -/
def OwN (w0 : World) (p t0 : Nat) (nt mx : Nat) (T : Tab) (ss : List Nat) (ad out : List Fd) (b : List UInt8) (tp : Nat) (sv av : Value) (f : Fd) (G N : Nat) (w : World) : Prop :=
  ∃ rv fv S, Dp w0 p t0 nt mx true T ss ad out b rv tp fv sv av S w ∧ Fb 61 w G f ∧ ¬ S G ∧ G ≠ p ∧ av.ownBlock ≠ some G ∧ Fb 61 w N f ∧ ¬ S N
section
variable {tp nt : Nat} {rv fv sv av : Value} {S : Nat → Prop} {G N : Nat} {f : Fd}
theorem OwG.cells (h : OwG w0 p t0 nt mx T ss ad out b tp sv av f G w) : w.cell? ⟨G, 0, none⟩ = some (.string f.1) ∧ w.cell? ⟨G, 1, none⟩ = some (.string f.2) := by
  obtain ⟨_, _, _, _, h, _⟩ := h
  exact h.cells
theorem OwG.other (h : OwG w0 p t0 nt mx T ss ad out b tp sv av f G w) : OwN w0 p t0 nt mx T ss ad out b tp sv av f G w.heap.size (w.alloc (.cells #[.string f.1, .string f.2] 61)) := by
  obtain ⟨rv, fv, S, h1, h2, h3, h4, h5⟩ := h
  have hb := (Below.refl w.heap.size w).alloc (Nat.le_refl _) (.cells #[.string f.1, .string f.2] 61)
  obtain ⟨C, hc, _⟩ := h1.tb
  exact ⟨rv, fv, S, h1.keep hb, h2.keep hb, h3, h4, h5, Fb.new _ w f, fun hs => Nat.lt_irrefl _ (hc.lt _ hs)⟩
theorem ownG_any (h : Dp w0 p t0 nt mx (owned ss ad) T ss ad out b rv tp fv sv av S w) (hnt : 128 ≤ nt) (hg : T.gd) (h2 : ss.length ≤ 2) (h3 : ad.length ≤ 64) (hG : Fb 61 w G f) (h4 : ¬ S G) (h5 : G ≠ p) (h6 : av.ownBlock ≠ some G) :
    Calls Try.prog 64 #[.pointer (some ⟨p, 0, none⟩)] w fun e w' => ∃ tp', e = .returned (.pointer (some ⟨tp', 0, none⟩)) ∧ OwG w0 p t0 nt mx T ss ad out b tp' sv av f G w' ∧ (∀ N, Fb 61 w N f → ¬ S N → N ≠ p → OwN w0 p t0 nt mx T ss ad out b tp' sv av f G N w') := by
  refine (own_any h hnt hg h2 h3).mono ?_
  rintro e w' ⟨tp', S', rfl, hd, hs, hf⟩
  have hn : ∀ N, Fb 61 w N f → ¬ S N → ¬ S' N := fun N hN hn hs' => (hs N hs').elim hn fun h => by have := hN.lt; omega
  exact ⟨tp', rfl, ⟨_, _, S', hd, hG.besides hf h5, hn G hG h4, h5, h6⟩, fun N hN h7 h8 => ⟨_, _, S', hd, hG.besides hf h5, hn G hG h4, h5, h6, hN.besides hf h8, hn N hN h7⟩⟩
theorem addN_any (h : OwN w0 p t0 nt mx T ss ad out b tp sv av f G N w) (hf : fsz f ≤ 8192) (ht : nt + 1 ≤ 1000000) :
    Calls Try.prog 52 #[.pointer (some ⟨tp, 0, none⟩), .slice (some ⟨N, 0, none⟩) 1 1] w fun e w' => (∃ g : Nat, e = .returned (.int .i64 (g : Int))) ∧ OwG w0 p t0 (nt + 1) mx (T.add f) ss ad out b tp sv av f G w' := by
  obtain ⟨rv, fv, S, h1, h2, h3, h4, h5, h6, h7⟩ := h
  obtain ⟨C, hc, hcl, hcc, hct⟩ := h1.tb
  refine (add_any (fs := [f]) hc (Fb.fs h6) (fun g hg => ?_) (by simp only [List.length_singleton]; omega) (fun x hx => by simp at hx; subst hx; omega)).mono ?_
  · simp only [Value.ownBlock, Option.some.injEq] at hg
    subst hg
    exact ⟨h6.lt, h7⟩
  · rintro e w' ⟨rfl, ht⟩
    have hf := ht
    obtain ⟨_, _, _, hfp⟩ := hf
    have hsame := Tab.add_same hcl hcc f
    have htot := C.add_tot_le f
    obtain ⟨S', hd, hs⟩ := h1.turned (T' := T.add f) (nt' := nt + 1) ht hsame.1 hsame.2 (by show (C.add f).tot ≤ nt + 1; omega)
    exact ⟨⟨_, rfl⟩, rv, fv, S', hd, h2.besides hfp h3, fun hs' => (hs G hs').elim h3 fun h => by have := h2.lt; omega, h4, h5⟩
end
set_option maxRecDepth 100000 in
set_option maxHeartbeats 4000000 in
theorem literal_add (h : Df w0 p t0 T0 mx (owned ss ad) T ss ad out b w) (hl : b.length ≤ 100000) (hg : T.gd) (hss : ss.length ≤ 2) (had : ad.length ≤ 64) (ho : out.length < 64) (htot : T0.tot + 300 ≤ 1000000) (k : Nat) (hk : 1 ≤ k ∧ k ≤ 8) {f : Fd} {r' : List UInt8} (hn : litP k T.l b = some (f, r')) :
    Calls Try.prog 66 #[.pointer (some ⟨p, 0, none⟩), .int .i64 (k : Int), .bool true] w fun e w' => e = .returned (.bool true) ∧ Df w0 p t0 T0 mx true (T.add f) ss (ad ++ [f]) (out ++ [f]) r' w' := by
  have hL : sizeF T.l ≤ 4096 := Nat.le_trans hg.2 hg.1
  have hfs := (litP_some hL hn).1
  obtain ⟨f1, r, f2, hnm, ht, rfl⟩ := litP_parts hn
  have HP := Bx.mk h
  have HL := Bx.mk hl
  have HK := Bx.mk hk
  have HO := Bx.mk ho
  have HNM := Bx.mk hnm
  have HT := Bx.mk ht
  have HLR : Bx (r.length ≤ 100000) := ⟨by have := (nameP_some hL hnm).2; omega⟩
  have HCO : Bx (T.gd ∧ ss.length ≤ 2 ∧ ad.length ≤ 64 ∧ T0.tot + 300 ≤ 1000000 ∧ fsz (f1, f2) ≤ 8192) := ⟨hg, hss, had, htot, hfs⟩
  clear h hl hk hL ho hn hnm ht hg hss had htot hfs
  go_enter Try.func66, Try.ntmps66
  go_wp2_with fail
  refine (name_some HP.out k HK.out HL.out HNM.out).mono ?_
  rintro e w1 ⟨rfl, h1⟩
  go_wp2_with fail
  refine (text_some h1 HLR.out HT.out).mono ?_
  rintro e w2 ⟨rfl, h2⟩
  obtain ⟨rv, tp, fv, sv, av, S, h2⟩ := h2
  have HGN : Bx (¬ S w2.heap.size ∧ (∀ v, v = fv ∨ v = sv ∨ v = av → v.ownBlock ≠ some w2.heap.size) ∧ w2.heap.size ≠ p) := ⟨by
    refine ⟨fun hs => ?_, ?_, ?_⟩
    · obtain ⟨C, hc, _⟩ := h2.tb
      exact Nat.lt_irrefl _ (hc.lt _ hs)
    · rintro v (rfl | rfl | rfl) e
      · exact Nat.lt_irrefl _ (h2.f.lt e)
      · exact Nat.lt_irrefl _ (h2.n.lt e)
      · exact Nat.lt_irrefl _ (h2.a.lt e)
    · have := h2.row.lt; omega⟩
  have HQ := Bx.mk (h2.keep ((Below.refl w2.heap.size w2).alloc (Nat.le_refl _) (.cells #[.string f1, .string f2] 61)))
  have HFQ := Bx.mk (Fb.new 61 w2 (f1, f2))
  clear h1 h2
  go_wp2_with fail
  generalize w2.alloc (.cells #[.string f1, .string f2] 61) = wq at HQ HFQ ⊢
  generalize w2.heap.size = G at HFQ HGN ⊢
  have h3 := HQ.out.keep (Below.refl _ _).drew
  obtain ⟨A, nA, cA, w5, hrun, k3, kf3, hd, hfb⟩ := h3.pushF (by have := HO.out; omega) (f1, f2)
  have HD := Bx.mk hd
  have HFD := Bx.mk (hfb G (f1, f2) (HFQ.out.keep (Below.refl _ _).drew) (HGN.out.2.1 fv (.inl rfl)) HGN.out.2.2)
  obtain ⟨d0, d1, d2, d3, d4, d5⟩ := h3.cells
  have hd3 : (wq.alloc (.cells #[.string f1, .string f2] 61)).drew.cell? ⟨p, 3, none⟩ = some fv := (h3.keep ((Below.refl _ _).alloc (Nat.le_refl _) (.cells #[.string f1, .string f2] 61))).cells.2.2.2.1
  obtain ⟨e1, e2⟩ := (HFQ.out.keep (Below.refl _ _).drew).cells
  clear h3 hd hfb d0 d1 d2 d4 d5
  go_cut [2] from 29 to 38 (fun s2 wx => s2 = .bool true ∧ wx = w5.setCell ⟨p, 3, none⟩ (.slice A nA cA))
  case first =>
    go_region_law (refine step_append_run rfl (.tmp 33) (.tmp 35) 36 rfl fv _ rfl rfl hrun ?_)
    all_goals go_wp2_with fail
    all_goals go_meet
    all_goals exact ⟨rfl, rfl⟩
  case rest =>
    obtain ⟨rfl, rfl⟩ := hcut
    clear hrun k3 kf3 hd3 e1 e2 HQ HFQ
    generalize w5.setCell ⟨p, 3, none⟩ (.slice A nA cA) = wq at HD HFD ⊢
    generalize Value.slice A nA cA = fw at HD ⊢
    go_upto_region 10 with fail
    obtain ⟨q1, q2⟩ := (HFD.out.keep (Below.refl _ _).drew).cells
    have HAV : Bx (av.ownBlock ≠ some G) := ⟨HGN.out.2.1 av (.inr (.inr rfl))⟩
    go_cut [2] from 40 to 44 (fun s2 wx => s2 = .bool true ∧ Bx (∃ tp', OwG w0 p t0 (T0.tot + 200 + out.length + 1) mx (T.add (f1, f2)) ss ad (out ++ [(f1, f2)]) r' tp' sv av (f1, f2) G wx))
    case first =>
      go_region_with (first
        | (go_at_call 64
           refine (ownG_any (HD.out.keep (Below.refl _ _).drew) (by omega) HCO.out.1 HCO.out.2.1 HCO.out.2.2.1 (HFD.out.keep (Below.refl _ _).drew) HGN.out.1 HGN.out.2.2 HAV.out).mono ?_
           rintro e w6 ⟨tp6, rfl, ho6, _⟩
           have HO6 := Bx.mk ho6
           obtain ⟨l1, l2⟩ := ho6.cells
           clear ho6)
        | (go_at_call 64
           refine (ownG_any (HD.out.keep ((Below.refl wq.heap.size wq).alloc (Nat.le_refl _) (.cells #[.string f1, .string f2] 61)).drew) (by omega) HCO.out.1 HCO.out.2.1 HCO.out.2.2.1 (HFD.out.keep ((Below.refl wq.heap.size wq).alloc (Nat.le_refl _) (.cells #[.string f1, .string f2] 61)).drew) HGN.out.1 HGN.out.2.2 HAV.out).mono ?_
           rintro e w6 ⟨tp6, rfl, ho6, hn6⟩
           have HN6 := Bx.mk (hn6 wq.heap.size ((Fb.new _ wq (f1, f2)).keep (Below.refl _ _).drew) (fun hs => by obtain ⟨C, hc, _⟩ := HD.out.tb; exact Nat.lt_irrefl _ (hc.lt _ hs)) (fun e => by have := HD.out.row.lt; omega))
           clear ho6 hn6)
        | (go_at_call 52
           refine (addN_any HO6.out.other HCO.out.2.2.2.2 (by have := HCO.out.2.2.2.1; have := HO.out; omega)).mono ?_
           rintro e w7 ⟨⟨gg, rfl⟩, ho7⟩)
        | (go_at_call 52
           refine (addN_any HN6.out HCO.out.2.2.2.2 (by have := HCO.out.2.2.2.1; have := HO.out; omega)).mono ?_
           rintro e w7 ⟨⟨gg, rfl⟩, ho7⟩))
      all_goals go_wp2_with fail
      all_goals go_meet
      all_goals exact ⟨rfl, ⟨_, ho7⟩⟩
    case rest =>
      obtain ⟨rfl, HO7⟩ := hcut
      obtain ⟨tp7, rv7, fv7, S7, hd7, hf7, hn7, hp7, ha7⟩ := HO7.out
      have hd8 := hd7.keep (Below.refl _ _).drew
      obtain ⟨A2, nA2, cA2, w8, hrun, k5, kf5, hd9⟩ := hd8.pushA HCO.out.2.2.1 (f1, f2)
      have HD9 := Bx.mk hd9
      obtain ⟨d0, d1, d2, d3, d4, d5⟩ := hd8.cells
      have hd5 : (wc.alloc (.cells #[.string f1, .string f2] 61)).drew.cell? ⟨p, 5, none⟩ = some av := (hd8.keep ((Below.refl _ _).alloc (Nat.le_refl _) (.cells #[.string f1, .string f2] 61))).cells.2.2.2.2.2
      obtain ⟨e1, e2⟩ := (hf7.keep (Below.refl _ _).drew).cells
      clear hd7 hf7 hn7 hp7 ha7 hd8 hd9 d0 d1 d2 d3 d4 HO7 HD HFD q1 q2
      go_wp2_with fail
      go_region_law (refine step_append_run rfl (.tmp 49) (.tmp 51) 36 rfl av _ rfl rfl hrun ?_)
      all_goals go_wp2_with fail
      all_goals go_ret
      all_goals exact ⟨rfl, HD9.out.df (by simp; omega)⟩
end

end Go.Proofs.Ytejkbibahbcofaa
