/-
  Texts put together: DnC, DnD, DnE, DnF, DnG, Wd, Up.
-/
import Derived.Test.YtebakjdeighdnaaGreatM11
import Derived.WalkArith
import Derived.Lib.MinMax
import Derived.Test.YtebakjdeighdnaaGreatM01

/-
  Contract of the table's enter.
-/
namespace Go.Proofs.YtebakjdeighdnaaGreat
open Go.RowKit Go.Maps
set_option linter.unusedVariables false

theorem Tr.cellGrew {w w' : World} {p : Nat} {v : Value} {bw bn sz cp ct na nb : Nat} {L : List Fd} {Dw Dn : DataW Unit} (h : Tr w p v bw bn sz cp ct na nb L Dw Dn) (hg : w.grownBy w' v.ownBlock) :
    w'.cell? ⟨p, 0, none⟩ = some v ∧ w'.frozen? ⟨p, 0, none⟩ = false := by
  have hr := h.row.of_block (hg.block p h.row.lt (fun e => (h.nv p e.symm).1 rfl))
  exact ⟨hr.cell (by omega), hr.frozen 0⟩

set_option maxRecDepth 100000 in
set_option maxHeartbeats 1000000 in
theorem enter_any {w : World} {p : Nat} {v : Value} {bw bn cp ct na nb b : Nat} {f : Fd} {L : List Fd} {Dw Dn : DataW Unit} (h : Tr w p v bw bn (sizeF L) cp ct na nb L Dw Dn)
    (hw : Mp kf Sized id b L Dw) (hn : Mp ks Short Prod.fst b L Dn) (hb : b + L.length = ct) (ht : ct ≤ 1000000) (hs : sizeF L + (fsz f + 32) ≤ 1000000) (hna : na ≤ 1000000) (hnb : nb ≤ 1000000) :
    Calls Tryz.prog 90 #[.pointer (some ⟨p, 0, none⟩), .agg #[.string f.1, .string f.2]] w fun e w' => e = .returned (.tuple #[]) ∧ ∃ v' Dw' Dn', Tr w' p v' bw bn (sizeF (L ++ [f])) cp (ct + 1) (na + 1) (nb + 1) (L ++ [f]) Dw' Dn' ∧
      (v'.ownBlock = v.ownBlock ∨ ∃ g, v'.ownBlock = some g ∧ w.heap.size ≤ g) ∧ Mp kf Sized id b (L ++ [f]) Dw' ∧ Mp ks Short Prod.fst b (L ++ [f]) Dn' ∧ Fp (Own p bw bn v) w w' := by
  obtain ⟨f1, f2⟩ := f
  have HT := Bx.mk h
  have HW := Bx.mk hw
  have HN := Bx.mk hn
  unfold fsz at hs
  simp only at hs
  have HSF : Bx (Sized (f1, f2)) := ⟨by unfold Sized maxLen; simp only; omega⟩
  have HSS : Bx (Short f1) := ⟨HSF.out.1⟩
  obtain ⟨n1, hn1⟩ : ∃ n1, f1.size + f2.size + 32 = n1 := ⟨_, rfl⟩
  have HSZC : Bx (∀ W u, Fs W u [(f1, f2)] → Calls Tryz.prog 86 #[u] W fun e w' => e = .returned (.int .i64 (n1 : Int)) ∧ Below W.heap.size W w') := ⟨fun W u hu => hn1 ▸ size_any u [(f1, f2)] W hu (by simp only [sizeF, fsz]; omega)⟩
  have hsz : sizeF (L ++ [(f1, f2)]) = sizeF L + n1 := by rw [sizeF_append, ← hn1]; simp [sizeF, fsz]
  have HL : Bx (L.length ≤ 1000000) := ⟨by omega⟩
  have HSS2 : Bx (sizeF L + n1 ≤ 1000000) := ⟨by omega⟩
  have HC1 : Bx (f1.size ≤ 1000000) := ⟨by omega⟩
  have HC2 : Bx (f2.size ≤ 1000000) := ⟨by omega⟩
  have HB := Bx.mk hb
  have HTT := Bx.mk ht
  have HNA := Bx.mk hna
  have HNB := Bx.mk hnb
  rw [hsz]
  have HSZ := Bx.mk hsz
  have HF0 := Bx.mk (Fb.new 53 w (f1, f2))
  clear h hw hn hb ht hs hsz hn1 hna hnb
  go_enter Tryz.func90, Tryz.ntmps90
  go_upto_region 1 with fail
  obtain ⟨e1, e2⟩ := HF0.out.cells
  go_cut [3] from 4 to 10 (fun s3 wx => s3 = .pointer (some ⟨w.heap.size, 0, none⟩) ∧ Bx (Fb 53 wx w.heap.size (f1, f2)) ∧ Bx (Below w.heap.size w wx))
  case first =>
    go_region_held (fun W => W.cell? ⟨w.heap.size, 0, none⟩ = some (.string f1) ∧ W.cell? ⟨w.heap.size, 1, none⟩ = some (.string f2)) (first | assumption | exact (HF0.out.keep (Below.refl _ _).drew).cells) (first
      | (go_at_call 111; refine (clone_any f1 _ HC1.out).mono ?_; rintro e w2 ⟨rfl, hb2⟩; have HF2 := Bx.mk ((HF0.out.keep (Below.refl _ _).drew).keep hb2); have hS2 := HF2.out.cells)
      | (go_at_call 111; refine (clone_any f2 _ HC2.out).mono ?_; rintro e w3 ⟨rfl, hb3⟩; have HF3 := Bx.mk (HF2.out.keep hb3); have hS3 := HF3.out.cells; have HF4 := Bx.mk (HF3.out.set2 f1 f2); have hS4 := HF4.out.cells; obtain ⟨kf1, kf2⟩ := HF3.out.free))
    all_goals go_wp2_with fail
    all_goals go_meet
    all_goals
      have hB2 : Below w.heap.size w w2 := (((Below.refl w.heap.size w).alloc (Nat.le_refl _) _).drew).trans (hb2.mono (by simp))
      have hB3 : Below w.heap.size w w3 := hB2.trans (hb3.mono hB2.size)
      exact ⟨rfl, HF4, ⟨below_set2 hB3 _ (Nat.le_refl _) _ _⟩⟩
  case rest =>
    obtain ⟨rfl, HF1, HB1⟩ := hcut
    have HT1 := Bx.mk (HT.out.keep HB1.out)
    have HP1 : Bx (Fp (Own p bw bn v) w wc) := ⟨Fp.of_below HB1.out⟩
    have HLT := Bx.mk HB1.out.size
    have HGN : Bx (w.heap.size ≠ p ∧ w.heap.size ≠ bw ∧ w.heap.size ≠ bn ∧ v.ownBlock ≠ some w.heap.size) := ⟨by
      have h1 := HT.out.row.lt
      have h2 := HT.out.mw.lt
      have h3 := HT.out.mn.lt
      exact ⟨by omega, by omega, by omega, fun e => by have := HT.out.st.lt e; omega⟩⟩
    clear HB1 HF0 e1 e2
    obtain ⟨G, hG⟩ : ∃ G, w.heap.size = G := ⟨_, rfl⟩
    rw [hG] at HF1 HGN HLT ⊢
    go_upto_region 2 with fail
    have HT2 := Bx.mk (HT1.out.drew.alloc (.cells #[.string f1, .string f2] 53))
    obtain ⟨v', w3, hrun, hst, hgr, hown, _⟩ := HT2.out.st.append (Fs.one wc.drew _ rfl (f1, f2)) HL.out 30
    obtain ⟨av, nv, cv, rfl⟩ := hst.shape
    obtain ⟨k0, kf0⟩ := HT2.out.cellGrew hgr
    go_cut [3] from 11 to 20 (fun s3 wx => s3 = .pointer (some ⟨G, 0, none⟩) ∧ wx = w3.setCell ⟨p, 0, none⟩ (.slice av nv cv))
    case first =>
      obtain ⟨d0, d1, d2, d3, d4, d5⟩ := HT1.out.drew.cells
      have hd0 : (wc.alloc (.cells #[.string f1, .string f2] 53)).drew.cell? ⟨p, 0, none⟩ = some v := HT2.out.cells.1
      obtain ⟨e1, e2⟩ := (HF1.out.keep (Below.refl _ _).drew).cells
      go_region_law (refine step_append_run rfl (.tmp 15) (.tmp 17) 30 rfl v _ rfl rfl hrun ?_)
      all_goals go_wp2_with fail
      all_goals go_meet
      all_goals exact ⟨rfl, rfl⟩
    case rest =>
      obtain ⟨rfl, rfl⟩ := hcut
      have HT4 := Bx.mk (HT2.out.grew hgr hst hown)
      have hB2 : Below wc.heap.size wc (wc.drew.alloc (.cells #[.string f1, .string f2] 53)) := (Below.refl wc.heap.size wc).drew.alloc (Nat.le_refl _) _
      have hfp : Fp (Own p bw bn v) (wc.drew.alloc (.cells #[.string f1, .string f2] 53)) w3 := Fp.of_grown hgr (fun k e => .inr (.inr (.inr e)))
      have HP4 : Bx (Fp (Own p bw bn v) w (w3.setCell ⟨p, 0, none⟩ (.slice av nv cv))) := ⟨HP1.out.then ((Fp.of_below hB2).then (hfp.then (Fp.set _ _ _ _ (.inl rfl))))⟩
      have HF4 : Bx (Fb 53 (w3.setCell ⟨p, 0, none⟩ (.slice av nv cv)) G (f1, f2)) := ⟨((HF1.out.keep hB2).grown hgr (fun e => HGN.out.2.2.2 e.symm)).grown (grown_set _ p 0 _) (fun e => HGN.out.1 (Option.some.inj e))⟩
      have HOW : Bx ((Value.slice av nv cv).ownBlock = v.ownBlock ∨ ∃ g, (Value.slice av nv cv).ownBlock = some g ∧ G ≤ g) := ⟨hown.imp id fun ⟨g, h1, h2⟩ => ⟨g, h1, Nat.le_trans HLT.out (Nat.le_trans (by simp) h2)⟩⟩
      generalize (w3.setCell ⟨p, 0, none⟩ (.slice av nv cv)) = w4 at *
      clear hrun hst hgr hown k0 kf0 hB2 hfp HT1 HF1 HP1 HT2
      obtain ⟨d0, d1, d2, d3, d4, d5⟩ := HT4.out.drew.cells
      obtain ⟨e1, e2⟩ := (HF4.out.keep (Below.refl _ _).drew).cells
      obtain ⟨w5, hrun5, ho5, hg5⟩ := HT4.out.drew.mw.update fdLaw Tryz.underlying107 (by have := HNA.out; unfold maxLen; omega) (keyOf_fd (f1, f2) HSF.out) (plainElem_int (H := Unit) (a := (ct : Int)) Tryz.underlying32 (WalkArith.wf_u64 (by have := HTT.out; omega)))
      go_wp2_with fail
      go_region
      go_wp2_with fail
      have HT5 := Bx.mk (HT4.out.drew.turnW hg5 ho5)
      have HF5 := Bx.mk ((HF4.out.keep (Below.refl _ _).drew).grown hg5 (fun e => HGN.out.2.1 (Option.some.inj e)))
      have HP5 : Bx (Fp (Own p bw bn v) w w5) := ⟨HP4.out.then ((Fp.of_below (Below.refl _ _).drew).then (Fp.of_grown hg5 (fun k e => .inr (.inl (Option.some.inj e).symm))))⟩
      have HW5 : Bx (Mp kf Sized id b (L ++ [(f1, f2)]) (Dw.put (kf (f1, f2)) (.lit (.int .u64 (ct : Int))))) := ⟨HW.out.put kf_inj kf_key HSF.out HB.out.symm⟩
      generalize Dw.put (kf (f1, f2)) (.lit (.int .u64 (ct : Int))) = Dw5 at HT5 HW5
      clear hrun5 ho5 hg5 d0 d1 d2 d3 d4 d5 e1 e2 HT4 HF4 HP4
      obtain ⟨d0, d1, d2, d3, d4, d5⟩ := HT5.out.drew.cells
      obtain ⟨e1, e2⟩ := (HF5.out.keep (Below.refl _ _).drew).cells
      obtain ⟨w6, hrun6, ho6, hg6⟩ := HT5.out.drew.mn.update stLaw Tryz.underlying108 (by have := HNB.out; unfold maxLen; omega) (keyOf_st f1 HSS.out) (plainElem_int (H := Unit) (a := (ct : Int)) Tryz.underlying32 (WalkArith.wf_u64 (by have := HTT.out; omega)))
      go_region
      go_wp2_with fail
      have HT6 := Bx.mk (HT5.out.drew.turnN hg6 ho6)
      have HF6 := Bx.mk ((HF5.out.keep (Below.refl _ _).drew).grown hg6 (fun e => HGN.out.2.2.1 (Option.some.inj e)))
      have HP6 : Bx (Fp (Own p bw bn v) w w6) := ⟨HP5.out.then ((Fp.of_below (Below.refl _ _).drew).then (Fp.of_grown hg6 (fun k e => .inr (.inr (.inl (Option.some.inj e).symm)))))⟩
      have HN6 : Bx (Mp ks Short Prod.fst b (L ++ [(f1, f2)]) (Dn.put (ks f1) (.lit (.int .u64 (ct : Int))))) := ⟨HN.out.put (f := (f1, f2)) ks_inj ks_key HSS.out HB.out.symm⟩
      generalize Dn.put (ks f1) (.lit (.int .u64 (ct : Int))) = Dn6 at HT6 HN6
      clear hrun6 ho6 hg6 d0 d1 d2 d3 d4 d5 e1 e2 HT5 HF5 HP5
      have hw5 : IntKind.i64.wrap ((sizeF L : Int) + (n1 : Int)) = ((sizeF L + n1 : Nat) : Int) := by
        have h2 := HSS2.out
        simp [IntKind.wrap, IntKind.signed, IntKind.bits]; omega
      go_upto_region 5 with fail
      go_cut [3] from 40 to 49 (fun s3 wx => s3 = .pointer (some ⟨G, 0, none⟩) ∧ Bx (Tr wx p (.slice av nv cv) bw bn (sizeF L + n1) cp ct (na + 1) (nb + 1) (L ++ [(f1, f2)]) Dw5 Dn6) ∧ Bx (Fp (Own p bw bn v) w wx))
      case first =>
        obtain ⟨d0, d1, d2, d3, d4, d5⟩ := HT6.out.drew.cells
        obtain ⟨e1, e2⟩ := (HF6.out.keep (Below.refl _ _).drew).cells
        have hd3 := (HT6.out.alloc (.cells #[.string f1, .string f2] 53)).drew.cells.2.2.2.1
        go_region_law (first
          | (go_simp; go_at_call 86; refine (HSZC.out _ _ (Fs.one w6.drew _ rfl (f1, f2))).mono ?_; rintro e w7 ⟨rfl, hb7⟩; have HT7 := Bx.mk ((HT6.out.drew.alloc _).keep hb7); obtain ⟨k0, k1, k2, k3, k4, k5⟩ := HT7.out.cells; have kf3 := HT7.out.free 3; have hB7 : Below w6.heap.size w6 w7 := (((Below.refl w6.heap.size w6).drew.alloc (Nat.le_refl _) _)).trans (hb7.mono (by simp))))
        all_goals go_wp2_with fail
        all_goals go_meet
        all_goals exact ⟨rfl, ⟨HT7.out.setSz (sizeF L + n1)⟩, ⟨HP6.out.then ((Fp.of_below hB7).then (Fp.set _ _ _ _ (.inl rfl)))⟩⟩
      case rest =>
        obtain ⟨rfl, HT8, HP8⟩ := hcut
        obtain ⟨d0, d1, d2, d3, d4, d5⟩ := HT8.out.cells
        have kf5 := HT8.out.free 5
        have hw6 : IntKind.u64.wrap ((ct : Int) + 1) = ((ct + 1 : Nat) : Int) := by
          have := HTT.out
          simp [IntKind.wrap, IntKind.signed, IntKind.bits]; omega
        go_wp2
        go_end0
        exact ⟨rfl, _, Dw5, Dn6, HT8.out.setCt (ct + 1), by rw [hG]; exact HOW.out, HW5.out, HN6.out, HP8.out.then (Fp.set _ _ _ _ (.inl rfl))⟩

end Go.Proofs.YtebakjdeighdnaaGreat

/-
  Contracts of the table's shrink, and of drop and enter as turns of the table.
-/
namespace Go.Proofs.YtebakjdeighdnaaGreat
open Go.RowKit Go.Maps
set_option linter.unusedVariables false

theorem Fp.mono {S S' : Nat → Prop} {w w' : World} (h : Fp S w w') (hs : ∀ k, S k → S' k) : Fp S' w w' := ⟨h.os, h.tape, h.output, h.size, fun k hk hn => h.block k hk fun hk => hn (hs k hk)⟩

theorem Turn.step {Y : World → (Nat → Prop) → Prop} {S S1 : Nat → Prop} {a b c : World} (s1 : ∀ k, S1 k → S k ∨ a.heap.size ≤ k) (f1 : Fp S a b) (ht : Turn Y S1 b c) : Turn Y S a c := by
  obtain ⟨S2, y2, s2, f2⟩ := ht
  refine ⟨S2, y2, fun i hi => ?_, f1.trans f2 s1⟩
  rcases s2 i hi with h | h
  · exact s1 i h
  · exact .inr (Nat.le_trans f1.size h)

theorem drop_turn {p : Nat} {T : Tab} {w : World} {S : Nat → Prop} {f : Fd} {l : List Fd} (h : Tb p T w S) (hl : T.l = f :: l) :
    Calls Tryz.prog 110 #[.pointer (some ⟨p, 0, none⟩)] w fun e w' => e = .returned (.tuple #[]) ∧ Turn (Tb p ⟨l, T.cap, T.tot⟩) S w w' := by
  obtain ⟨v, bw, bn, Dw, Dn, h1, h2, h3, h4, h5, h6⟩ := h
  obtain ⟨L, cap, tot⟩ := T
  simp only at hl
  subst hl
  have hlen := h6.len
  simp only [List.length_cons] at hlen
  have hfi : Tab.first ⟨f :: l, cap, tot⟩ = tot - (l.length + 1) := rfl
  rw [hfi] at h2 h3
  refine (drop_any h1 h2 h3 (by show tot - (l.length + 1) + (l.length + 1) = tot; omega) h6.tot h6.size).mono ?_
  rintro e w' ⟨rfl, v', Dw', Dn', t1, t2, t3, t4, t5⟩
  have hs : sizeF (f :: l) = fsz f + 32 + sizeF l := rfl
  have hsz := h6.size
  have hcap := h6.cap
  have htot := h6.tot
  simp only at hsz hcap htot
  have hfi2 : Tab.first ⟨l, cap, tot⟩ = tot - (l.length + 1) + 1 := by show tot - l.length = _; omega
  refine ⟨rfl, S, ⟨v', bw, bn, Dw', Dn', t1, ?_, ?_, ⟨h4.1, h4.2.1, h4.2.2.1, fun k hk => h4.2.2.2 k (t2 ▸ hk)⟩, fun k hk => Nat.lt_of_lt_of_le (h5 k hk) t5.size, ⟨by show l.length ≤ tot; omega, by show sizeF l ≤ _; omega, hcap, htot⟩⟩, fun k hk => .inl hk, t5.mono ?_⟩
  · rw [hfi2]; exact t3
  · rw [hfi2]; exact t4
  · rintro k (rfl | rfl | rfl | hk)
    · exact h4.1
    · exact h4.2.1
    · exact h4.2.2.1
    · exact h4.2.2.2 k hk

theorem enter_turn {p : Nat} {T : Tab} {w : World} {S : Nat → Prop} {f : Fd} (h : Tb p T w S) (ht : T.tot + 1 ≤ 1000000) (hs : sizeF T.l + (fsz f + 32) ≤ 1000000) :
    Calls Tryz.prog 90 #[.pointer (some ⟨p, 0, none⟩), .agg #[.string f.1, .string f.2]] w fun e w' => e = .returned (.tuple #[]) ∧ Turn (Tb p ⟨T.l ++ [f], T.cap, T.tot + 1⟩) S w w' := by
  obtain ⟨v, bw, bn, Dw, Dn, h1, h2, h3, h4, h5, h6⟩ := h
  have hlen := h6.len
  refine (enter_any h1 h2 h3 (show T.tot - T.l.length + T.l.length = T.tot by omega) h6.tot hs h6.tot h6.tot).mono ?_
  rintro e w' ⟨rfl, v', Dw', Dn', t1, t2, t3, t4, t5⟩
  have hfi2 : Tab.first ⟨T.l ++ [f], T.cap, T.tot + 1⟩ = T.first := by show T.tot + 1 - (T.l ++ [f]).length = T.tot - T.l.length; rw [List.length_append, List.length_singleton]; omega
  refine ⟨rfl, fun k => S k ∨ (w.heap.size ≤ k ∧ k < w'.heap.size), ⟨v', bw, bn, Dw', Dn', t1, ?_, ?_, ⟨.inl h4.1, .inl h4.2.1, .inl h4.2.2.1, fun k hk => ?_⟩, ?_, ⟨?_, ?_, h6.cap, ht⟩⟩, ?_, t5.mono ?_⟩
  · rw [hfi2]; exact t3
  · rw [hfi2]; exact t4
  · rcases t2 with e | ⟨g, e, hg⟩
    · exact .inl (h4.2.2.2 k (e ▸ hk))
    · have := t1.st.lt hk
      rw [e] at hk
      injection hk with hk
      subst hk
      exact .inr ⟨hg, this⟩
  · rintro k (hk | hk)
    · exact Nat.lt_of_lt_of_le (h5 k hk) t5.size
    · exact hk.2
  · show (T.l ++ [f]).length ≤ T.tot + 1
    rw [List.length_append, List.length_singleton]; omega
  · show sizeF (T.l ++ [f]) ≤ _
    rw [sizeF_append]
    simp only [sizeF]
    omega
  · rintro k (hk | hk)
    · exact .inl hk
    · exact .inr hk.1
  · rintro k (rfl | rfl | rfl | hk)
    · exact h4.1
    · exact h4.2.1
    · exact h4.2.2.1
    · exact h4.2.2.2 k hk

set_option maxRecDepth 100000 in
set_option maxHeartbeats 1000000 in
theorem shrink_any {p : Nat} {T : Tab} {w : World} {S : Nat → Prop} (h : Tb p T w S) (room : Int) :
    Calls Tryz.prog 89 #[.pointer (some ⟨p, 0, none⟩), .int .i64 room] w fun e w' => e = .returned (.int .i64 (T.went room : Int)) ∧ Turn (Tb p ⟨fits room T.l, T.cap, T.tot⟩) S w w' := by
  have HT := Bx.mk h
  obtain ⟨L0, cap, tot⟩ := T
  have HLEN : Bx (L0.length ≤ 31250) := ⟨h.ok.short⟩
  obtain ⟨R, hR⟩ : ∃ R, Tab.went ⟨L0, cap, tot⟩ room = R := ⟨_, rfl⟩
  rw [hR]
  have HR : Bx (L0.length - (fits room L0).length = R) := ⟨hR⟩
  clear h hR
  go_enter Tryz.func89, Tryz.ntmps89
  go_wp2
  go_loopg [5] L0.length (fun g s5 wx => ∃ (k : Nat) (L : List Fd), k + L.length = L0.length ∧ L.length = g ∧ s5 = .int .i64 k ∧ Bx (fits room L = fits room L0) ∧ Bx (Turn (Tb p ⟨L, cap, tot⟩) S w wx))
  case atStart => exact ⟨0, L0, by omega, rfl, rfl, ⟨rfl⟩, ⟨Turn.refl HT.out (Below.refl _ _)⟩⟩
  case round =>
    obtain ⟨k, L, hk, hg, rfl, HFI, HTU⟩ := hrel
    obtain ⟨S1, hX, hs1, hf1⟩ := HTU.out
    have HX := Bx.mk hX
    have HS1 := Bx.mk hs1
    have HF1 := Bx.mk hf1
    obtain ⟨v, bw, bn, Dw, Dn, h1, _⟩ := hX
    obtain ⟨d0, d1, d2, d3, d4, d5⟩ := h1.cells
    have hlen := fun ty W => h1.st.fs.run_len ty W
    clear h1 hs1 hf1
    simp only at d0 d1 d2 d3 d4 d5 hlen
    obtain ⟨m, hm⟩ : ∃ m, L.length = m := ⟨_, rfl⟩
    rw [hm] at hlen
    have HM := Bx.mk hm
    clear hm
    by_cases hgo : room < (sizeF L : Int) ∧ L ≠ []
    · obtain ⟨hgt, hne⟩ := hgo
      obtain ⟨f, l, rfl⟩ : ∃ f l, L = f :: l := List.exists_cons_of_ne_nil hne
      have HGO := Bx.mk (fits_cons_go hgt)
      have hd1 : decide (room < (sizeF (f :: l) : Int)) = true := by simpa using hgt
      have hm0 : 0 < m := by have := HM.out; simp only [List.length_cons] at this; omega
      have hd2 : decide ((0 : Int) < (m : Int)) = true := decide_eq_true (by omega)
      have hd3 : decide (0 < m) = true := decide_eq_true hm0
      clear hgt hne
      go_wp2_with fail
      refine (drop_turn HX.out rfl).mono ?_
      rintro e w2 ⟨rfl, ht⟩
      have HT2 : Bx (Turn (Tb p ⟨l, cap, tot⟩) S w w2) := ⟨Turn.step HS1.out HF1.out ht⟩
      obtain ⟨g', rfl⟩ : ∃ g', gk = g' + 1 := ⟨l.length, by rw [← hg]; rfl⟩
      have hkk : k ≤ 31250 := by have := HLEN.out; omega
      clear ht hd1 hd2 hd3 hm0 hlen d0 d1 d2 d3 d4 d5
      go_wp2
      go_roundg g'
      case measure => omega
      case rel => exact ⟨k + 1, l, by simp only [List.length_cons] at hk; omega, by simp only [List.length_cons] at hg; omega, by go_num, ⟨by rw [← HGO.out]; exact HFI.out⟩, HT2⟩
    · have hfin : fits room L = L := by
        cases L with
        | nil => rfl
        | cons f l => exact fits_all (by have : ¬ room < (sizeF (f :: l) : Int) := fun h => hgo ⟨h, by simp⟩; omega)
      have HFI2 : Bx (L = fits room L0) := ⟨by rw [← hfin]; exact HFI.out⟩
      have HKR : Bx (k = R) := ⟨by have := HR.out; rw [← HFI2.out] at this; omega⟩
      rw [HFI2.out] at HTU
      by_cases hr : room < (sizeF L : Int)
      case' pos =>
        have hL : L = [] := Classical.byContradiction fun hne => hgo ⟨hr, hne⟩
        have hd1 : decide (room < (sizeF L : Int)) = true := decide_eq_true hr
        have hm0 : m = 0 := by have := HM.out; rw [hL] at this; exact this.symm
        have hd2 : decide ((0 : Int) < (m : Int)) = false := decide_eq_false (by omega)
        have hd3 : decide (0 < m) = false := decide_eq_false (by omega)
        clear hm0
        clear hr hL hgo hfin
      case' neg =>
        have hd1 : decide (room < (sizeF L : Int)) = false := decide_eq_false hr
        clear hr hgo hfin
      all_goals
        go_wp2_with fail
        go_ret
        exact ⟨by have := HKR.out; subst this; rfl, HTU.out⟩

end Go.Proofs.YtebakjdeighdnaaGreat

/-
  Contracts of the table's New, Resize, Add.
-/
namespace Go.Proofs.YtebakjdeighdnaaGreat
open Go.RowKit Go.Maps
set_option linter.unusedVariables false
set_option linter.unusedSimpArgs false

theorem Rn.keepB {k : Nat} {w w' : World} {v : Value} {n : Nat} {xs : List Value} (h : Rn k w v n xs) (hb : ∀ g, v.ownBlock = some g → w'.heap[g]? = w.heap[g]?) : Rn k w' v n xs := by
  obtain ⟨A, c, rfl, h1, h2, hl, h3⟩ := h
  refine ⟨A, c, rfl, h1, h2, hl, h3.imp id ?_⟩
  rintro ⟨x, rfl, hc⟩
  refine ⟨x, rfl, fun j u hu => ?_⟩
  rw [World.cell?_of_block (w := w) (by
    have : (x.add j).block = x.block := by unfold Addr.add; split <;> rfl
    rw [this]
    exact hb x.block rfl)]
  exact hc j u hu
theorem Fs.besides {S : Nat → Prop} {w w' : World} {v : Value} {l : List Fd} (h : Fs w v l) (hf : Fp S w w') (hs : ∀ g, v.ownBlock = some g → g < w.heap.size ∧ ¬ S g) : Fs w' v l :=
  Rn.keepB h fun g hg => hf.block g (hs g hg).1 (hs g hg).2
theorem Fb.besides {S : Nat → Prop} {t : TypeId} {w w' : World} {g : Nat} {f : Fd} (h : Fb t w g f) (hf : Fp S w w') (hs : ¬ S g) : Fb t w' g f := by
  unfold Fb; rw [hf.block g h.lt hs]; exact h
theorem Tb.cells {p : Nat} {T : Tab} {w : World} {S : Nat → Prop} (h : Tb p T w S) : w.cell? ⟨p, 4, none⟩ = some (.int .i64 (T.cap : Int)) ∧ w.frozen? ⟨p, 4, none⟩ = false := by
  obtain ⟨v, bw, bn, Dw, Dn, h1, _⟩ := h
  exact ⟨h1.cells.2.2.2.2.1, h1.free 4⟩
def Tab.adds : Tab → List Fd → Tab
  | T, [] => T
  | T, f :: l => (T.add f).adds l
def Tab.wents : Tab → List Fd → Nat
  | T, [] => 0
  | T, f :: l => T.went (T.room f) + (T.add f).wents l
theorem Tab.went_le {T : Tab} (h : T.ok) (r : Int) : T.went r ≤ 31250 := by have := h.short; unfold Tab.went; omega

set_option maxRecDepth 100000 in
set_option maxHeartbeats 1000000 in
theorem new_any (n : Int) (w : World) (hn : n ≤ 1000000) :
    Calls Tryz.prog 21 #[.int .i64 n] w fun e w' => ∃ p S, e = .returned (.pointer (some ⟨p, 0, none⟩)) ∧ Tb p (Tab.new n) w' S ∧ (∀ k, S k → w.heap.size ≤ k) ∧ Below w.heap.size w w' := by
  have hmw : ∀ (W : World), (Instr.makeMap 107 none).run Tryz.prog W = .ok (.map (some W.heap.size)) (W.alloc (.map #[] 0)) := fun W => by
    simp [Instr.makeMap, run_underlying Tryz.underlying107, Sem.run_bind, asInt, asIntOf, Result.andThen]
  have hmn : ∀ (W : World), (Instr.makeMap 108 none).run Tryz.prog W = .ok (.map (some W.heap.size)) (W.alloc (.map #[] 0)) := fun W => by
    simp [Instr.makeMap, run_underlying Tryz.underlying108, Sem.run_bind, asInt, asIntOf, Result.andThen]
  have HN := Bx.mk hn
  clear hn
  go_enter Tryz.func21, Tryz.ntmps21
  go_wp2
  go_ret
  have hmx : max n 0 = ((n.toNat : Nat) : Int) := by omega
  rw [hmx]
  generalize hw1 : (w.alloc (.map #[] 0)).alloc (.map #[] 0) = w1
  have hsz : w1.heap.size = w.heap.size + 1 + 1 := by rw [← hw1]; simp
  have hB1 : Below w.heap.size w w1 := by rw [← hw1]; exact ((Below.refl w.heap.size w).alloc (Nat.le_refl _) _).alloc (by simp) _
  have ho1 : w1.ownsMap Tryz.prog 53 (plainElem Tryz.prog 32) w.heap.size 0 (.map [] : DataW Unit) := by rw [← hw1]; exact (World.ownsMap_made w _ _ _).alloc _
  have ho2 : w1.ownsMap Tryz.prog 9 (plainElem Tryz.prog 32) (w.heap.size + 1) 0 (.map [] : DataW Unit) := by
    have := World.ownsMap_made (H := Unit) (w.alloc (.map #[] 0)) Tryz.prog 9 (plainElem Tryz.prog 32)
    rw [← hw1]
    simpa using this
  have hrow := World.rowIs_alloc w1 #[.slice none 0 0, .map (some w.heap.size), .map (some (w.heap.size + 1)), .int .i64 0, .int .i64 (n.toNat : Int), .int .u64 0] 110 (tF (.slice none 0 0) w.heap.size (w.heap.size + 1) 0 n.toNat 0) (fun j hj => by
    have : j < 6 := hj
    unfold tF
    match j, this with
    | 0, _ => rfl
    | 1, _ => rfl
    | 2, _ => rfl
    | 3, _ => rfl
    | 4, _ => rfl
    | 5, _ => rfl)
  rw [hsz] at hrow
  have HN := HN.out
  refine ⟨w.heap.size + 1 + 1, fun k => w.heap.size ≤ k ∧ k < w.heap.size + 1 + 1 + 1, rfl, ⟨.slice none 0 0, w.heap.size, w.heap.size + 1, .map [], .map [], ⟨hrow, St.nil _, ho1.alloc _, ho2.alloc _, by omega, fun k hk => by simp [Value.ownBlock] at hk⟩, Mp.nil _ _ _ _, Mp.nil _ _ _ _,
    ⟨by omega, by omega, by omega, fun k hk => by simp [Value.ownBlock] at hk⟩, fun k hk => by simp [hsz]; omega, Tab.new_ok HN⟩, fun k hk => hk.1, hB1.alloc hB1.size _⟩

theorem Tab.add_fit (T : Tab) (f : Fd) (hc : fsz f + 32 ≤ T.cap) : sizeF (fits (T.room f) T.l) + (fsz f + 32) ≤ T.cap := by
  have := T.add_size f hc
  rw [sizeF_append] at this
  simpa [sizeF] using this

set_option maxRecDepth 100000 in
set_option maxHeartbeats 1000000 in
theorem add_gen {p : Nat} {T : Tab} {w : World} {S : Nat → Prop} {v : Value} {fs : List Fd} (h : Tb p T w S) (hv0 : ∀ W, Fp S w W → Fs W v fs) (ht : T.tot + fs.length ≤ 1000000) (hz : ∀ f ∈ fs, fsz f ≤ 1000000) :
    Calls Tryz.prog 55 #[.pointer (some ⟨p, 0, none⟩), v] w fun e w' => e = .returned (.int .i64 (T.wents fs : Int)) ∧ Turn (Tb p (T.adds fs)) S w w' := by
  have HT := Bx.mk h
  have HV := Bx.mk hv0
  have hv := hv0 w (Fp.refl _ _)
  have HV0 := Bx.mk hv
  have HTT := Bx.mk ht
  have HZ := Bx.mk hz
  have hlen := fun ty W => hv.run_len ty W
  clear h hv hv0 ht hz
  go_enter Tryz.func55, Tryz.ntmps55
  go_wp2
  go_loopg [5, 11] fs.length (fun g s5 s11 wx => ∃ (k r : Nat) (T1 : Tab), k + g = fs.length ∧ s11 = .int .i64 k ∧ s5 = .int .i64 r ∧ Bx (r + T1.wents (fs.drop k) = T.wents fs) ∧ r ≤ 31250 * k ∧ Bx (T1.adds (fs.drop k) = T.adds fs) ∧ Bx (T1.tot + (fs.drop k).length ≤ 1000000) ∧ Bx (Turn (Tb p T1) S w wx))
  case atStart => exact ⟨0, 0, T, by omega, rfl, rfl, ⟨by simp⟩, by omega, ⟨rfl⟩, HTT, ⟨Turn.refl HT.out (Below.refl _ _)⟩⟩
  case round =>
    obtain ⟨k, r, T1, hkg, rfl, rfl, HR, hrk, HA, HTO, HTU⟩ := hrel
    cases gk with
    | zero =>
      obtain rfl : k = fs.length := by omega
      have HR2 : Bx (r = T.wents fs) := ⟨by have := HR.out; rw [List.drop_length] at this; simpa [Tab.wents] using this⟩
      have HA2 : Bx (T1 = T.adds fs) := ⟨by have := HA.out; rw [List.drop_length] at this; simpa [Tab.adds] using this⟩
      go_wp2
      go_ret
      rw [← HR2.out, ← HA2.out]
      exact ⟨rfl, HTU.out⟩
    | succ g =>
      have hk : k < fs.length := by omega
      obtain ⟨S1, x1, s1, g1⟩ := HTU.out
      obtain ⟨b, o, hix, hcs⟩ := HV0.out.at_ k hk
      obtain ⟨hc1, hc2⟩ := hcs wr (HV.out wr g1)
      have hdrop : fs.drop k = fs[k] :: fs.drop (k + 1) := List.drop_eq_getElem_cons hk
      have HFZ := Bx.mk (HZ.out fs[k] (List.getElem_mem hk))
      rw [hdrop] at HR HA HTO
      obtain ⟨f1, hf1⟩ : ∃ f1, fs[k].1 = f1 := ⟨_, rfl⟩
      obtain ⟨f2, hf2⟩ : ∃ f2, fs[k].2 = f2 := ⟨_, rfl⟩
      rw [hf1] at hc1
      rw [hf2] at hc2
      rw [show fs[k] = (f1, f2) from by rw [← hf1, ← hf2]] at HR HA HTO HFZ
      have HX1 := Bx.mk x1
      have HS1 := Bx.mk s1
      have HG1 := Bx.mk g1
      have hkl : k ≤ 1000000 := by have := HTT.out; omega
      clear hf1 hf2 hcs hdrop x1 s1 g1
      go_wp2_with fail
      obtain ⟨n1, hn1⟩ : ∃ n1, fsz (f1, f2) + 32 = n1 := ⟨_, rfl⟩
      refine (size_any _ [(f1, f2)] _ (Fs.one (wr.alloc (.cells #[.string f1, .string f2] 53)) _ (by simp) (f1, f2)) (by have := HFZ.out; simp only [sizeF]; omega)).mono ?_
      rintro e w2 ⟨rfl, hb2⟩
      rw [show sizeF [(f1, f2)] = n1 by rw [← hn1]; simp [sizeF]]
      have HN1 := Bx.mk hn1
      have hB2 : Below wr.heap.size wr w2 := (((Below.refl wr.heap.size wr).alloc (Nat.le_refl _) _).alloc (by simp) _).trans (hb2.mono (by simp; omega))
      have HF2 := Bx.mk (((Fb.new 53 wr (f1, f2)).alloc (.cells #[.string f1, .string f2] 53)).keep hb2)
      have HX2 := Bx.mk (HX1.out.keep hB2)
      have HB2 := Bx.mk hB2
      obtain ⟨c4, f4⟩ := HX2.out.cells
      have hcap := HX2.out.ok.cap
      have hnb : n1 ≤ 1000032 := by have := HFZ.out; have := HN1.out; omega
      have hws : IntKind.i64.wrap ((T1.cap : Int) - (n1 : Int)) = (T1.cap : Int) - (n1 : Int) := by simp only [IntKind.wrap_i64]; omega
      clear hn1 hb2 hB2 hc1 hc2
      go_wp2_with fail
      have hroom : (T1.cap : Int) - (n1 : Int) = T1.room (f1, f2) := by unfold Tab.room; rw [← HN1.out]
      rw [hroom]
      refine (shrink_any HX2.out (T1.room (f1, f2))).mono ?_
      rintro e w3 ⟨rfl, ht3⟩
      obtain ⟨q, hq⟩ : ∃ q, T1.went (T1.room (f1, f2)) = q := ⟨_, rfl⟩
      have hqle : q ≤ 31250 := by rw [← hq]; exact Tab.went_le HX2.out.ok _
      rw [hq]
      have HQ := Bx.mk hq
      obtain ⟨S3, x3, s3, g3⟩ := ht3
      have hnS : ¬ S1 wr.heap.size := fun hc => Nat.lt_irrefl _ (HX1.out.lt _ hc)
      have HF3 := Bx.mk (HF2.out.besides g3 hnS)
      have HX3 := Bx.mk x3
      have hT3 : Turn (Tb p ⟨fits (T1.room (f1, f2)) T1.l, T1.cap, T1.tot⟩) S w w3 := Turn.step HS1.out (HG1.out.then (Fp.of_below HB2.out)) ⟨S3, x3, s3, g3⟩
      have HT3 := Bx.mk hT3
      have hs3 : ∀ k, S3 k → S k ∨ w.heap.size ≤ k := fun k hk => (s3 k hk).elim (HS1.out k) fun h => .inr (Nat.le_trans HG1.out.size (Nat.le_trans HB2.out.size h))
      have hg3 : Fp S w w3 := (HG1.out.then (Fp.of_below HB2.out)).trans g3 HS1.out
      have HS3 := Bx.mk hs3
      have HG3 := Bx.mk hg3
      obtain ⟨c4', f4'⟩ := HX3.out.cells
      obtain ⟨e1, e2⟩ := HF3.out.cells
      have hwr : IntKind.i64.wrap ((r : Int) + (q : Int)) = ((r + q : Nat) : Int) := by simp only [IntKind.wrap_i64]; omega
      have HTO2 : Bx ((T1.add (f1, f2)).tot + (fs.drop (k + 1)).length ≤ 1000000) := ⟨by have h1 := HTO.out; have h2 := T1.add_tot_le (f1, f2); simp only [List.length_cons] at h1; omega⟩
      have HR2 : Bx (r + q + (T1.add (f1, f2)).wents (fs.drop (k + 1)) = T.wents fs) := ⟨by have h := HR.out; rw [Tab.wents, HQ.out] at h; omega⟩
      have HA2 : Bx ((T1.add (f1, f2)).adds (fs.drop (k + 1)) = T.adds fs) := ⟨by have h := HA.out; rw [Tab.adds] at h; exact h⟩
      have HT1O := Bx.mk (show T1.tot + 1 ≤ 1000000 by have h1 := HTO.out; simp only [List.length_cons] at h1; omega)
      clear hq hT3 x3 s3 g3 hs3 hg3 HR HA HTO HTU HX1 HS1 HG1 HX2 HF2 HB2 c4 f4 hws hroom hnS
      by_cases hle : n1 ≤ T1.cap
      · have hd1 : decide ((n1 : Int) ≤ (T1.cap : Int)) = true := decide_eq_true (by omega)
        have hd2 : decide (n1 ≤ T1.cap) = true := decide_eq_true hle
        have hc : fsz (f1, f2) + 32 ≤ T1.cap := by rw [HN1.out]; exact hle
        have hadd : T1.add (f1, f2) = ⟨fits (T1.room (f1, f2)) T1.l ++ [(f1, f2)], T1.cap, T1.tot + 1⟩ := by unfold Tab.add; rw [if_pos hc]
        have HAD := Bx.mk hadd
        have HFI := Bx.mk (T1.add_fit (f1, f2) hc)
        have HCAP := Bx.mk hcap
        clear hadd hle hc hcap
        go_wp2_with fail
        refine (enter_turn (f := (f1, f2)) HX3.out HT1O.out (by have h1 := HFI.out; have h2 := HCAP.out; show sizeF (fits (T1.room (f1, f2)) T1.l) + _ ≤ _; omega)).mono ?_
        rintro e w4 ⟨rfl, ht4⟩
        have HT4 : Bx (Turn (Tb p (T1.add (f1, f2))) S w w4) := ⟨by rw [HAD.out]; exact Turn.step HS3.out HG3.out ht4⟩
        clear ht4
        go_wp2
        go_roundg g
        case measure => omega
        case rel => exact ⟨k + 1, r + q, _, by omega, by go_num, rfl, HR2, by omega, HA2, HTO2, HT4⟩
      · have hd1 : decide ((n1 : Int) ≤ (T1.cap : Int)) = false := decide_eq_false (by omega)
        have hd2 : decide (n1 ≤ T1.cap) = false := decide_eq_false hle
        have hadd : T1.add (f1, f2) = ⟨fits (T1.room (f1, f2)) T1.l, T1.cap, T1.tot⟩ := by unfold Tab.add; rw [if_neg (by rw [HN1.out]; exact hle)]
        have HT4 : Bx (Turn (Tb p (T1.add (f1, f2))) S w w3) := ⟨by rw [hadd]; exact HT3.out⟩
        clear hadd hle hcap
        go_wp2_with fail
        go_roundg g
        case measure => omega
        case rel => exact ⟨k + 1, r + q, _, by omega, by go_num, rfl, HR2, by omega, HA2, HTO2, HT4⟩

theorem add_any {p : Nat} {T : Tab} {w : World} {S : Nat → Prop} {v : Value} {fs : List Fd} (h : Tb p T w S) (hv : Fs w v fs) (hs : ∀ g, v.ownBlock = some g → g < w.heap.size ∧ ¬ S g) (ht : T.tot + fs.length ≤ 1000000) (hz : ∀ f ∈ fs, fsz f ≤ 1000000) :
    Calls Tryz.prog 55 #[.pointer (some ⟨p, 0, none⟩), v] w fun e w' => e = .returned (.int .i64 (T.wents fs : Int)) ∧ Turn (Tb p (T.adds fs)) S w w' :=
  add_gen h (fun W hf => hv.besides hf hs) ht hz

end Go.Proofs.YtebakjdeighdnaaGreat

/-
  Contracts of the table's At, Newest, Find and its numbers.
-/
namespace Go.Proofs.YtebakjdeighdnaaGreat
open Go.RowKit Go.Maps
set_option linter.unusedVariables false

/-- The i-th from the end. -/
def entN (l : List Fd) (i : Nat) : Fd := if h : i < l.length then l[l.length - 1 - i]'(by omega) else emp
def isN (l : List Fd) (i : Nat) : Bool := decide (i < l.length)
/-- What is found of a field. -/
def findT (l : List Fd) (b : Nat) (f : Fd) : Nat × Bool × Bool :=
  match nw (hasF f) b l with
  | some a => (a, true, true)
  | none => match nw (hasN f.1) b l with
    | some a => (a, true, false)
    | none => (0, false, false)
def find3 (x : Nat × Bool × Bool) : Value := .tuple #[.int .u64 (x.1 : Int), .bool x.2.1, .bool x.2.2]

theorem Tb.tr {p : Nat} {T : Tab} {w : World} {S : Nat → Prop} (h : Tb p T w S) : ∃ v bw bn Dw Dn, Tr w p v bw bn (sizeF T.l) T.cap T.tot T.tot T.tot T.l Dw Dn ∧ Mp kf Sized id T.first T.l Dw ∧ Mp ks Short Prod.fst T.first T.l Dn := by
  obtain ⟨v, bw, bn, Dw, Dn, h1, h2, h3, _⟩ := h
  exact ⟨v, bw, bn, Dw, Dn, h1, h2, h3⟩
theorem size_any' {p : Nat} {T : Tab} {w : World} {S : Nat → Prop} (h : Tb p T w S) : Calls Tryz.prog 108 #[.pointer (some ⟨p, 0, none⟩)] w fun e w' => e = .returned (.int .i64 (sizeF T.l : Int)) ∧ Below w.heap.size w w' := by
  obtain ⟨v, bw, bn, Dw, Dn, h1, _⟩ := h.tr; exact size0_any h1
theorem cap_any {p : Nat} {T : Tab} {w : World} {S : Nat → Prop} (h : Tb p T w S) : Calls Tryz.prog 48 #[.pointer (some ⟨p, 0, none⟩)] w fun e w' => e = .returned (.int .i64 (T.cap : Int)) ∧ Below w.heap.size w w' := by
  obtain ⟨v, bw, bn, Dw, Dn, h1, _⟩ := h.tr; exact cap0_any h1
theorem dlen_any {p : Nat} {T : Tab} {w : World} {S : Nat → Prop} (h : Tb p T w S) : Calls Tryz.prog 20 #[.pointer (some ⟨p, 0, none⟩)] w fun e w' => e = .returned (.int .i64 (T.l.length : Int)) ∧ Below w.heap.size w w' := by
  obtain ⟨v, bw, bn, Dw, Dn, h1, _⟩ := h.tr; exact len0_any h1
theorem count_any {p : Nat} {T : Tab} {w : World} {S : Nat → Prop} (h : Tb p T w S) : Calls Tryz.prog 54 #[.pointer (some ⟨p, 0, none⟩)] w fun e w' => e = .returned (.int .u64 (T.tot : Int)) ∧ Below w.heap.size w w' := by
  obtain ⟨v, bw, bn, Dw, Dn, h1, _⟩ := h.tr; exact count0_any h1

set_option maxRecDepth 100000 in
set_option maxHeartbeats 1000000 in
theorem at_any {p : Nat} {T : Tab} {w : World} {S : Nat → Prop} (h : Tb p T w S) (i : Nat) (hi : i < 18446744073709551616) :
    Calls Tryz.prog 109 #[.pointer (some ⟨p, 0, none⟩), .int .u64 (i : Int)] w fun e w' => e = .returned (.tuple #[aggF (entF T.l T.first i), .bool (isF T.l T.first i)]) ∧ Below w.heap.size w w' := by
  obtain ⟨v, bw, bn, Dw, Dn, h1, h2, h3⟩ := h.tr
  have hok := h.ok
  obtain ⟨L, cap, tot⟩ := T
  obtain ⟨fr, hfr⟩ : ∃ fr, tot - L.length = fr := ⟨_, rfl⟩
  rw [show Tab.first ⟨L, cap, tot⟩ = fr from hfr]
  simp only at h1 ⊢
  have htot : tot ≤ 1000000 := hok.tot
  have hlen : L.length ≤ tot := hok.len
  have HI := Bx.mk hi
  have HFR : Bx (fr + L.length = tot) := ⟨by omega⟩
  have HTT := Bx.mk htot
  have HOLD : Bx (∀ W, Tr W p v bw bn (sizeF L) cap tot tot tot L Dw Dn → Calls Tryz.prog 123 #[.pointer (some ⟨p, 0, none⟩)] W fun e w' => e = .returned (.int .u64 (fr : Int)) ∧ Below W.heap.size W w') := ⟨fun W hW => hfr ▸ oldest_any hW hlen htot⟩
  obtain ⟨e0, he0⟩ : ∃ e0, entF L fr i = e0 := ⟨_, rfl⟩
  obtain ⟨b0, hb0⟩ : ∃ b0, isF L fr i = b0 := ⟨_, rfl⟩
  rw [he0, hb0]
  have HE0 := Bx.mk he0
  have HB0 := Bx.mk hb0
  have HT := Bx.mk h1
  have HTA := Bx.mk (h1.alloc (.cells #[.string ⟨#[]⟩, .string ⟨#[]⟩] 53))
  clear h h1 h2 h3 hok htot hlen hi hfr he0 hb0
  have enter : True := trivial
  go_enter Tryz.func109, Tryz.ntmps109
  go_wp2_with fail
  refine (HOLD.out _ HTA.out).mono ?_
  rintro e w2 ⟨rfl, hb2⟩
  have HT2 := Bx.mk (HTA.out.keep hb2)
  have HF2 := Bx.mk ((Fb.new 53 w emp).keep hb2)
  have HB2 : Bx (Below w.heap.size w w2) := ⟨((Below.refl w.heap.size w).alloc (Nat.le_refl _) _).trans (hb2.mono (by simp))⟩
  clear hb2 enter
  obtain ⟨d0, d1, d2, d3, d4, d5⟩ := HT2.out.cells
  obtain ⟨e1, e2⟩ := HF2.out.cells
  obtain ⟨ef1, ef2⟩ := HF2.out.free
  by_cases h1 : i < fr
  · have hd1 : decide ((i : Int) < (fr : Int)) = true := decide_eq_true (by omega)
    have hd2 : decide (i < fr) = true := decide_eq_true h1
    obtain rfl : emp = e0 := by rw [← HE0.out]; unfold entF; rw [dif_neg (by omega)]
    obtain rfl : false = b0 := by rw [← HB0.out]; unfold isF; simp; omega
    have HF3 := Bx.mk (HF2.out.set2 ⟨#[]⟩ ⟨#[]⟩)
    clear h1
    go_wp2_with fail
    exact bodyPost_ret (ret_field Tryz.results109 _ _ w.heap.size emp false rfl rfl HF3.out) rfl ⟨rfl, below_set2 HB2.out _ (Nat.le_refl _) _ _⟩
  · have hd1 : decide ((i : Int) < (fr : Int)) = false := decide_eq_false (by omega)
    have hd2 : decide (i < fr) = false := decide_eq_false h1
    by_cases h2 : tot ≤ i
    · have hd3 : decide ((tot : Int) ≤ (i : Int)) = true := decide_eq_true (by omega)
      have hd4 : decide (tot ≤ i) = true := decide_eq_true h2
      obtain rfl : emp = e0 := by rw [← HE0.out]; unfold entF; rw [dif_neg (by have := HFR.out; omega)]
      obtain rfl : false = b0 := by rw [← HB0.out]; unfold isF; simp; have := HFR.out; omega
      have HF3 := Bx.mk (HF2.out.set2 ⟨#[]⟩ ⟨#[]⟩)
      clear h1 h2
      go_wp2_with fail
      exact bodyPost_ret (ret_field Tryz.results109 _ _ w.heap.size emp false rfl rfl HF3.out) rfl ⟨rfl, below_set2 HB2.out _ (Nat.le_refl _) _ _⟩
    · have hd3 : decide ((tot : Int) ≤ (i : Int)) = false := decide_eq_false (by omega)
      have hd4 : decide (tot ≤ i) = false := decide_eq_false h2
      have hlt : i - fr < L.length := by have := HFR.out; omega
      obtain ⟨f1, hf1⟩ : ∃ f1, L[i - fr].1 = f1 := ⟨_, rfl⟩
      obtain ⟨f2, hf2⟩ : ∃ f2, L[i - fr].2 = f2 := ⟨_, rfl⟩
      obtain rfl : (f1, f2) = e0 := by rw [← HE0.out]; unfold entF; rw [dif_pos ⟨by omega, hlt⟩, ← hf1, ← hf2]
      obtain rfl : true = b0 := by rw [← HB0.out]; unfold isF; simp; omega
      obtain ⟨b, o, hix, hcs⟩ := HT2.out.st.fs.at_ (i - fr) hlt
      have hws : IntKind.u64.wrap ((i : Int) - (fr : Int)) = ((i - fr : Nat) : Int) := by have := HI.out; simp [IntKind.wrap, IntKind.signed, IntKind.bits]; omega
      rw [hf1, hf2] at hcs
      have HCS := Bx.mk hcs
      have hX0 : ∀ W, Tr W p v bw bn (sizeF L) cap tot tot tot L Dw Dn → W.cell? ⟨p, 0, none⟩ = some v := fun W h => h.cells.1
      have hX1 : ∀ W, Tr W p v bw bn (sizeF L) cap tot tot tot L Dw Dn → W.cell? ⟨b, o, none⟩ = some (.string f1) := fun W h => (HCS.out W h.st.fs).1
      have hX2 : ∀ W, Tr W p v bw bn (sizeF L) cap tot tot tot L Dw Dn → W.cell? ⟨b, o + 1, none⟩ = some (.string f2) := fun W h => (HCS.out W h.st.fs).2
      have hS0 := HT2.out.drew
      clear h1 h2 hlt hf1 hf2 hcs
      go_wp2_with fail
      go_region_held (fun W => Tr W p v bw bn (sizeF L) cap tot tot tot L Dw Dn) (first | assumption) (first
        | (go_at_call 123; refine (HOLD.out _ ?_).mono ?_; (with_reducible exact hS0); rintro e w3 ⟨rfl, hb3⟩; have hT3 := hS0.keep hb3; have HF3 := Bx.mk ((HF2.out.keep (Below.refl _ _).drew).keep hb3); obtain ⟨r1, r2⟩ := HF3.out.cells; obtain ⟨r3, r4⟩ := HF3.out.free; have hT4 := HT.out.away (HT.out.away hT3 w.heap.size (Nat.le_refl _) 0 (.string f1)) w.heap.size (Nat.le_refl _) 1 (.string f2)))
      all_goals go_wp2_with fail
      exact bodyPost_ret (ret_field Tryz.results109 _ _ w.heap.size (f1, f2) true rfl rfl (HF3.out.set2 f1 f2)) rfl ⟨rfl, below_set2 (HB2.out.trans (((Below.refl w2.heap.size w2).drew.trans hb3).mono HB2.out.size)) _ (Nat.le_refl _) _ _⟩

set_option maxRecDepth 100000 in
set_option maxHeartbeats 1000000 in
theorem find_any {p : Nat} {T : Tab} {w : World} {S : Nat → Prop} (h : Tb p T w S) (f : Fd) (hf : Sized f) :
    Calls Tryz.prog 52 #[.pointer (some ⟨p, 0, none⟩), .agg #[.string f.1, .string f.2]] w fun e w' => e = .returned (find3 (findT T.l T.first f)) ∧ Below w.heap.size w w' := by
  obtain ⟨f1, f2⟩ := f
  obtain ⟨v, bw, bn, Dw, Dn, h1, h2, h3⟩ := h.tr
  have HSF := Bx.mk hf
  have HSS : Bx (Short f1) := ⟨hf.1⟩
  have HT1 := Bx.mk (h1.alloc (.cells #[.string f1, .string f2] 53))
  have HF1 := Bx.mk (Fb.new 53 w (f1, f2))
  have HW := Bx.mk h2
  have HN := Bx.mk h3
  obtain ⟨fr, hfr⟩ : ∃ fr, T.first = fr := ⟨_, rfl⟩
  rw [hfr] at HW HN ⊢
  clear h h1 h2 h3 hf hfr
  obtain ⟨d0, d1, d2, d3, d4, d5⟩ := HT1.out.drew.cells
  obtain ⟨e1, e2⟩ := (HF1.out.keep (Below.refl _ _).drew).cells
  have hlk := lookWok HT1.out.drew.mw HW.out HSF.out
  cases hx : nw (hasF (f1, f2)) fr T.l with
  | some a =>
    rw [hx] at hlk
    have HFT : Bx (findT T.l fr (f1, f2) = (a, true, true)) := ⟨by unfold findT; rw [hx]⟩
    rw [HFT.out]
    clear hx
    simp only [Option.getD_some, Option.isSome_some] at hlk
    go_enter Tryz.func52, Tryz.ntmps52
    go_wp2_with fail
    go_region
    go_wp2_with fail
    go_ret3
    exact ⟨rfl, ((Below.refl w.heap.size w).alloc (Nat.le_refl _) _).drew⟩
  | none =>
    rw [hx] at hlk
    simp only [Option.getD_none, Option.isSome_none] at hlk
    have hlk2 := lookNok HT1.out.drew.drew.mn HN.out HSS.out
    cases hy : nw (hasN f1) fr T.l with
    | some a =>
      rw [hy] at hlk2
      simp only [Option.getD_some, Option.isSome_some] at hlk2
      have HFT : Bx (findT T.l fr (f1, f2) = (a, true, false)) := ⟨by unfold findT; rw [hx, hy]⟩
      rw [HFT.out]
      clear hx hy
      go_enter Tryz.func52, Tryz.ntmps52
      go_wp2_with fail
      go_region
      go_wp2_with fail
      go_region
      go_wp2_with fail
      go_ret3
      exact ⟨rfl, ((Below.refl w.heap.size w).alloc (Nat.le_refl _) _).drew.drew⟩
    | none =>
      rw [hy] at hlk2
      simp only [Option.getD_none, Option.isSome_none] at hlk2
      have HFT : Bx (findT T.l fr (f1, f2) = (0, false, false)) := ⟨by unfold findT; rw [hx, hy]⟩
      rw [HFT.out]
      clear hx hy
      go_enter Tryz.func52, Tryz.ntmps52
      go_wp2_with fail
      go_region
      go_wp2_with fail
      go_region
      go_wp2_with fail
      go_ret3
      exact ⟨rfl, ((Below.refl w.heap.size w).alloc (Nat.le_refl _) _).drew.drew⟩

end Go.Proofs.YtebakjdeighdnaaGreat

/-
  Contracts of the document's table: NewTable, fit, Resize, Add.
-/
namespace Go.Proofs.YtebakjdeighdnaaGreat
open Go.RowKit Go.Maps
set_option linter.unusedVariables false

section
variable {q : Nat} {T : Tab} {w : World} {S : Nat → Prop}
theorem Rt.cells (h : Rt q T w S) : ∃ v, w.cell? ⟨q, 0, none⟩ = some v ∧ w.cell? ⟨q, 1, none⟩ = some (.int .i64 (T.cap : Int)) ∧ w.cell? ⟨q, 2, none⟩ = some (.int .u64 (T.tot : Int)) ∧ (∀ i, w.frozen? ⟨q, i, none⟩ = false) ∧ St w v T.l := by
  obtain ⟨v, h1, h2, _⟩ := h
  exact ⟨v, h1.cell (by omega), h1.cell (by omega), h1.cell (by omega), fun i => h1.frozen i, h2⟩
theorem Rt.setCap (h : Rt q T w S) (n : Nat) (hn : n ≤ 1000000) : Turn (Rt q ⟨T.l, n, T.tot⟩) S w (w.setCell ⟨q, 1, none⟩ (.int .i64 (n : Int))) := by
  obtain ⟨v, h1, h2, h3, h4, h5, h6⟩ := h
  exact ⟨S, ⟨v, (h1.set 1 _).congr (fun j hj => by unfold rF; match j, hj with | 0, _ => rfl | 1, _ => rfl | 2, _ => rfl), h2.grown (grown_set w q 1 _) (fun k hk e => h3 k hk (Option.some.inj e)), h3, h4, fun k hk => by simp [World.setCell]; exact h5 k hk, ⟨h6.len, h6.size, hn, h6.tot⟩⟩, fun k hk => .inl hk, Fp.set _ _ _ _ h4.1⟩
/-- The oldest one gone. -/
theorem Rt.cut {f : Fd} {l : List Fd} (h : Rt q T w S) (hl : T.l = f :: l) : ∃ v v', w.cell? ⟨q, 0, none⟩ = some v ∧ (∃ A n c, v' = .slice A n c) ∧ (∀ (k : IntKind) (W : World), (Instr.slice 30 v (some (.int k 1)) none none).run Tryz.prog W = .ok v' W) ∧ Turn (Rt q ⟨l, T.cap, T.tot⟩) S w (w.setCell ⟨q, 0, none⟩ v') := by
  obtain ⟨v, h1, h2, h3, h4, h5, h6⟩ := h
  obtain ⟨L, cap, tot⟩ := T
  simp only at hl
  subst hl
  obtain ⟨g, o, hvo, _, _, _, v', hsl, htl, hvo'⟩ := h2.head
  have hlen := h6.len
  have hsz := h6.size
  simp only [List.length_cons, sizeF] at hlen hsz
  have hsv : ∀ k, v'.ownBlock = some k → v.ownBlock = some k := fun k hk => by rw [hvo, ← hvo', hk]
  obtain ⟨av, nv, cv, rfl⟩ := slice_of_own hvo'
  refine ⟨v, _, h1.cell (by omega), ⟨_, _, _, rfl⟩, hsl, S, ⟨_, (h1.set 0 _).congr (fun j hj => by unfold rF; match j, hj with | 0, _ => rfl | 1, _ => rfl | 2, _ => rfl), (htl w f h2).grown (grown_set w q 0 _) (fun k hk e => h3 k (hsv k hk) (Option.some.inj e)), fun k hk => h3 k (hsv k hk), ⟨h4.1, fun k hk => h4.2 k (hsv k hk)⟩, fun k hk => by simp [World.setCell]; exact h5 k hk, ⟨by show l.length ≤ tot; omega, by show sizeF l ≤ _; omega, h6.cap, h6.tot⟩⟩, fun k hk => .inl hk, Fp.set _ _ _ _ h4.1⟩
end

set_option maxRecDepth 100000 in
set_option maxHeartbeats 1000000 in
theorem newTable_any (n : Int) (w : World) (hn : n ≤ 1000000) :
    Calls Tryz.prog 22 #[.int .i64 n] w fun e w' => ∃ q S, e = .returned (.pointer (some ⟨q, 0, none⟩)) ∧ Rt q (Tab.new n) w' S ∧ (∀ k, S k → w.heap.size ≤ k) ∧ Below w.heap.size w w' := by
  have HN := Bx.mk hn
  clear hn
  go_enter Tryz.func22, Tryz.ntmps22
  go_wp2
  go_ret
  have hmx : max n 0 = ((n.toNat : Nat) : Int) := by omega
  rw [hmx]
  have hrow := World.rowIs_alloc w #[.slice none 0 0, .int .i64 (n.toNat : Int), .int .u64 0] 79 (rF (.slice none 0 0) n.toNat 0) (fun j hj => by
    have : j < 3 := hj
    unfold rF
    match j, this with
    | 0, _ => rfl
    | 1, _ => rfl
    | 2, _ => rfl)
  have HN := HN.out
  exact ⟨w.heap.size, fun k => k = w.heap.size, rfl, ⟨.slice none 0 0, hrow, St.nil _, fun k hk => by simp [Value.ownBlock] at hk, ⟨rfl, fun k hk => by simp [Value.ownBlock] at hk⟩, fun k hk => by subst hk; simp, Tab.new_ok HN⟩, fun k hk => by subst hk; exact Nat.le_refl _, (Below.refl _ _).alloc (Nat.le_refl _) _⟩

set_option maxRecDepth 100000 in
set_option maxHeartbeats 1000000 in
theorem fit_any {q : Nat} {T : Tab} {w : World} {S : Nat → Prop} (h : Rt q T w S) (room : Int) :
    Calls Tryz.prog 80 #[.pointer (some ⟨q, 0, none⟩), .int .i64 room] w fun e w' => e = .returned (.int .i64 (T.went room : Int)) ∧ Turn (Rt q ⟨fits room T.l, T.cap, T.tot⟩) S w w' := by
  have HT := Bx.mk h
  obtain ⟨L0, cap, tot⟩ := T
  have HLEN : Bx (L0.length ≤ 31250) := ⟨h.ok.short⟩
  obtain ⟨R, hR⟩ : ∃ R, Tab.went ⟨L0, cap, tot⟩ room = R := ⟨_, rfl⟩
  rw [hR]
  have HR : Bx (L0.length - (fits room L0).length = R) := ⟨hR⟩
  clear h hR
  go_enter Tryz.func80, Tryz.ntmps80
  go_wp2
  go_loopg [5] L0.length (fun g s5 wx => ∃ (k : Nat) (L : List Fd), k + L.length = L0.length ∧ L.length = g ∧ s5 = .int .i64 k ∧ Bx (fits room L = fits room L0) ∧ Bx (Turn (Rt q ⟨L, cap, tot⟩) S w wx))
  case atStart => exact ⟨0, L0, by omega, rfl, rfl, ⟨rfl⟩, ⟨Turn.refl HT.out (Below.refl _ _)⟩⟩
  case round =>
    obtain ⟨k, L, hk, hg, rfl, HFI, HTU⟩ := hrel
    obtain ⟨S1, hX, hs1, hf1⟩ := HTU.out
    have HX := Bx.mk hX
    have HS1 := Bx.mk hs1
    have HF1 := Bx.mk hf1
    obtain ⟨v, d0, _, _, df, hst⟩ := hX.cells
    have hlen := fun ty W => hst.fs.run_len ty W
    have HFS := Bx.mk hst.fs
    have hsz := hX.ok.size
    clear hs1 hf1 hst df hX
    simp only at hlen hsz
    obtain ⟨m, hm⟩ : ∃ m, L.length = m := ⟨_, rfl⟩
    rw [hm] at hlen
    have HM := Bx.mk hm
    clear hm
    cases L with
    | nil =>
      obtain rfl : 0 = m := HM.out
      have HFI2 : Bx (([] : List Fd) = fits room L0) := ⟨HFI.out⟩
      have HKR : Bx (k = R) := ⟨by have := HR.out; rw [← HFI2.out] at this; simp only [List.length_nil] at *; omega⟩
      rw [HFI2.out] at HTU
      go_wp2_with fail
      go_ret
      exact ⟨by have := HKR.out; subst this; rfl, HTU.out⟩
    | cons f l =>
      have hm0 : 0 < m := by have := HM.out; simp only [List.length_cons] at this; omega
      have hd2 : decide ((0 : Int) < (m : Int)) = true := decide_eq_true (by omega)
      have hd3 : decide (0 < m) = true := decide_eq_true hm0
      obtain ⟨z, hz⟩ : ∃ z, sizeF (f :: l) = z := ⟨_, rfl⟩
      have HZ := Bx.mk hz
      have HSZ := Bx.mk hsz
      clear hsz hz
      go_wp2_with fail
      refine (refSize_any v (f :: l) _ HFS.out (by have := HSZ.out; omega)).mono ?_
      rintro e w2 ⟨rfl, hb2⟩
      rw [HZ.out]
      have HX2 := Bx.mk (HX.out.keep hb2)
      have HB2 := Bx.mk hb2
      clear hb2 d0
      by_cases hgt : room < (z : Int)
      · have hd4 : decide (room < (z : Int)) = true := decide_eq_true hgt
        have HGO := Bx.mk (fits_cons_go (show room < (sizeF (f :: l) : Int) by rw [HZ.out]; exact hgt))
        obtain ⟨v0, v', c0, ⟨A, n, c, rfl⟩, hsl, ht⟩ := HX2.out.cut rfl
        have hsl0 := hsl .i64
        obtain ⟨_, _, _, _, df, _⟩ := HX2.out.cells
        have df0 := df 0
        have HT3 : Bx (Turn (Rt q ⟨l, cap, tot⟩) S w (w2.setCell ⟨q, 0, none⟩ (.slice A n c))) := ⟨Turn.step HS1.out (HF1.out.then (Fp.of_below HB2.out)) ht⟩
        obtain ⟨g', rfl⟩ : ∃ g', gk = g' + 1 := ⟨l.length, by rw [← hg]; rfl⟩
        have hkk : k ≤ 31250 := by have := HLEN.out; omega
        clear ht hsl df hgt hm0
        go_wp2_with fail
        go_roundg g'
        case measure => omega
        case rel => exact ⟨k + 1, l, by simp only [List.length_cons] at hk; omega, by simp only [List.length_cons] at hg; omega, by go_num, ⟨by rw [← HGO.out]; exact HFI.out⟩, HT3⟩
      · have hd4 : decide (room < (z : Int)) = false := decide_eq_false hgt
        have hfin : fits room (f :: l) = f :: l := fits_all (by rw [HZ.out]; omega)
        have HFI2 : Bx (f :: l = fits room L0) := ⟨by rw [← hfin]; exact HFI.out⟩
        have HKR : Bx (k = R) := ⟨by have := HR.out; rw [← HFI2.out] at this; simp only [List.length_cons] at *; omega⟩
        have HT3 : Bx (Turn (Rt q ⟨fits room L0, cap, tot⟩) S w w2) := ⟨by rw [← HFI2.out]; exact Turn.step HS1.out HF1.out (Turn.refl HX2.out HB2.out)⟩
        clear hgt hfin
        go_wp2_with fail
        go_ret
        exact ⟨by have := HKR.out; subst this; rfl, HT3.out⟩

set_option maxRecDepth 100000 in
set_option maxHeartbeats 1000000 in
theorem refResize_any {q : Nat} {T : Tab} {w : World} {S : Nat → Prop} (h : Rt q T w S) (n : Int) (hn : n ≤ 1000000) :
    Calls Tryz.prog 65 #[.pointer (some ⟨q, 0, none⟩), .int .i64 n] w fun e w' => e = .returned (.int .i64 (T.went (n.toNat : Int) : Int)) ∧ Turn (Rt q (T.resize n)) S w w' := by
  have HT := Bx.mk h
  obtain ⟨_, _, c4, _, df, _⟩ := h.cells
  have f4 := df 1
  have HN := Bx.mk hn
  clear h hn df
  have hmx : max n 0 = ((n.toNat : Nat) : Int) := by omega
  have HMX := Bx.mk hmx
  obtain ⟨R, hR⟩ : ∃ R, T.went (n.toNat : Int) = R := ⟨_, rfl⟩
  rw [hR]
  have HRR := Bx.mk hR
  clear hmx hR
  go_enter Tryz.func65, Tryz.ntmps65
  go_wp2_with fail
  rw [HMX.out]
  have HT1 := HT.out.setCap n.toNat (by have := HN.out; omega)
  obtain ⟨S1, x1, s1, g1⟩ := HT1
  refine (fit_any x1 (n.toNat : Int)).mono ?_
  rintro e w2 ⟨rfl, ht⟩
  rw [show Tab.went ⟨T.l, n.toNat, T.tot⟩ (n.toNat : Int) = R from HRR.out]
  have HT2 := Bx.mk (Turn.step s1 g1 ht)
  clear ht x1 s1 g1 c4 f4
  go_wp2
  go_ret
  exact ⟨rfl, HT2.out⟩

end Go.Proofs.YtebakjdeighdnaaGreat

/-
  Words of what stands in memory, by the blocks that they hold: side by side, behind a head block; what a call does to one of several. No type of the program is named here.
-/
namespace Go.Proofs.YtebakjdeighdnaaGreat
open Go.RowKit
set_option linter.unusedVariables false

theorem below_next {wA W w' : World} (h : Below wA.heap.size wA W) (hb : Below W.heap.size W w') : Below wA.heap.size wA w' := h.trans (hb.mono h.size)
theorem Fp.up {B : Nat} {w w' : World} (h : Below B w w') : Fp (fun k => B ≤ k) w w' := ⟨h.os, h.tape, h.output, h.size, fun k _ hn => h.block k (Nat.lt_of_not_le hn)⟩
theorem OwB.cat {w : World} {B : Nat} {x : Value} {l m : List UInt8} (h : w.ownsRow B 5 1 x (l.map bv ++ m.map bv).length (l.map bv ++ m.map bv)) : OwB w B x (l ++ m) := by
  unfold OwB
  rw [List.map_append]
  exact h
/-- A word: what stands, and a set of blocks that holds all of it. -/
abbrev Wx := World → (Nat → Prop) → Prop
/-- The word tells of its blocks alone. -/
structure Wd (X : Wx) : Prop where
  lt : ∀ {w : World} {S : Nat → Prop}, X w S → ∀ k, S k → k < w.heap.size
  kept : ∀ {w w' : World} {S : Nat → Prop}, X w S → w.heap.size ≤ w'.heap.size → (∀ k, S k → w'.heap[k]? = w.heap[k]?) → X w' S
section
variable {X X' Y Y' : Wx} {w w' : World} {S S' : Nat → Prop} {B : Nat}
theorem Wd.keep (hX : Wd X) (h : X w S) (hb : Below w.heap.size w w') : X w' S := hX.kept h hb.size fun k hk => hb.block k (hX.lt h k hk)
theorem Wd.besides (hX : Wd X) (h : X w S) (hf : Fp S' w w') (hd : ∀ k, S k → ¬ S' k) : X w' S := hX.kept h hf.size fun k hk => hf.block k (hX.lt h k hk) (hd k hk)
theorem Wd.turned (hX : Wd X) (h : X w S) (hb : Below w.heap.size w w') : Turn X S w w' := ⟨S, hX.keep h hb, fun k hk => .inl hk, Fp.of_below hb⟩

theorem Wd.after (hX : Wd X) {a b c : World} (ht : Turn X S a b) (hb : Below b.heap.size b c) : Turn X S a c := by
  obtain ⟨S', x, s, f⟩ := ht
  exact ⟨S', hX.keep x hb, s, f.then (Fp.of_below hb)⟩
theorem Turn.before {a b c : World} (hb : Below a.heap.size a b) (ht : Turn X S b c) : Turn X S a c := Turn.step (fun k hk => .inl hk) (Fp.of_below hb) ht
/-- Both, apart from one another. -/
def Both (X Y : Wx) : Wx := fun w S => ∃ S1 S2, X w S1 ∧ Y w S2 ∧ (∀ k, S1 k → ¬ S2 k) ∧ ∀ k, S k ↔ S1 k ∨ S2 k
theorem Wd.both (hX : Wd X) (hY : Wd Y) : Wd (Both X Y) := by
  constructor
  · rintro w S ⟨S1, S2, h1, h2, h3, h4⟩ k hk
    rcases (h4 k).1 hk with h | h
    · exact hX.lt h1 k h
    · exact hY.lt h2 k h
  · rintro w w' S ⟨S1, S2, h1, h2, h3, h4⟩ hs hb
    exact ⟨S1, S2, hX.kept h1 hs fun k hk => hb k ((h4 k).2 (.inl hk)), hY.kept h2 hs fun k hk => hb k ((h4 k).2 (.inr hk)), h3, h4⟩
theorem Both.swap (h : Both X Y w S) : Both Y X w S := by
  obtain ⟨S1, S2, h1, h2, h3, h4⟩ := h
  exact ⟨S2, S1, h2, h1, fun k a b => h3 k b a, fun k => (h4 k).trans Or.comm⟩
/-- The first one turns. -/
theorem Both.left (hY : Wd Y) {S1 S2 : Nat → Prop} (h2 : Y w S2) (h3 : ∀ k, S1 k → ¬ S2 k) (h4 : ∀ k, S k ↔ S1 k ∨ S2 k) (ht : Turn X' S1 w w') : Turn (Both X' Y) S w w' := by
  obtain ⟨S', x, s, f⟩ := ht
  refine ⟨fun k => S' k ∨ S2 k, ⟨S', S2, x, hY.besides h2 f (fun k hk hs => h3 k hs hk), fun k hk hs => ?_, fun k => Iff.rfl⟩, fun k hk => ?_, f.mono fun k hk => (h4 k).2 (.inl hk)⟩
  · rcases s k hk with h | h
    · exact h3 k h hs
    · have := hY.lt h2 k hs; omega
  · rcases hk with hk | hk
    · rcases s k hk with h | h
      · exact .inl ((h4 k).2 (.inl h))
      · exact .inr h
    · exact .inl ((h4 k).2 (.inr hk))
theorem Both.right (hX : Wd X) {S1 S2 : Nat → Prop} (h1 : X w S1) (h3 : ∀ k, S1 k → ¬ S2 k) (h4 : ∀ k, S k ↔ S1 k ∨ S2 k) (ht : Turn Y' S2 w w') : Turn (Both X Y') S w w' := by
  obtain ⟨S', x, s, f⟩ := Both.left hX h1 (fun k a b => h3 k b a) (fun k => (h4 k).trans Or.comm) ht
  exact ⟨S', x.swap, s, f⟩
theorem Both.fst (h : Both X Y w S) : ∃ S1, X w S1 ∧ ∀ k, S1 k → S k := by
  obtain ⟨S1, S2, h1, h2, h3, h4⟩ := h
  exact ⟨S1, h1, fun k hk => (h4 k).2 (.inl hk)⟩
theorem Both.snd (h : Both X Y w S) : ∃ S2, Y w S2 ∧ ∀ k, S2 k → S k := by
  obtain ⟨S1, S2, h1, h2, h3, h4⟩ := h
  exact ⟨S2, h2, fun k hk => (h4 k).2 (.inr hk)⟩

/-- A head block q of n cells, and what it holds. -/
def Hd (q : Nat) (ty : TypeId) (n : Nat) (F : Nat → Value) (X : Wx) : Wx := fun w S => ∃ S', w.rowIs q ty n F ∧ X w S' ∧ ¬ S' q ∧ ∀ k, S k ↔ S' k ∨ k = q
section
variable {q n : Nat} {ty : TypeId} {F F' : Nat → Value}
theorem Wd.hd (hX : Wd X) : Wd (Hd q ty n F X) := by
  constructor
  · rintro w S ⟨S', h1, h2, h3, h4⟩ k hk
    rcases (h4 k).1 hk with h | rfl
    · exact hX.lt h2 k h
    · exact h1.lt
  · rintro w w' S ⟨S', h1, h2, h3, h4⟩ hs hb
    exact ⟨S', h1.of_block (hb q ((h4 q).2 (.inr rfl))), hX.kept h2 hs (fun k hk => hb k ((h4 k).2 (.inl hk))), h3, h4⟩
theorem Hd.row (h : Hd q ty n F X w S) : w.rowIs q ty n F := by obtain ⟨_, h1, _⟩ := h; exact h1
theorem Hd.sub (h : Hd q ty n F X w S) : ∃ S', X w S' ∧ ¬ S' q ∧ ∀ k, S' k → S k := by obtain ⟨S', _, h2, h3, h4⟩ := h; exact ⟨S', h2, h3, fun k hk => (h4 k).2 (.inl hk)⟩
/-- A store into one of the head's cells. -/
theorem Hd.put (hX : Wd X) (h : Hd q ty n F X w S) (i : Nat) (v : Value) (hF : ∀ j, j < n → (if j = i then v else F j) = F' j) : Hd q ty n F' X (w.setCell ⟨q, i, none⟩ v) S ∧ Fp S w (w.setCell ⟨q, i, none⟩ v) := by
  obtain ⟨S', h1, h2, h3, h4⟩ := h
  have hf : Fp (fun k => k = q) w (w.setCell ⟨q, i, none⟩ v) := Fp.set _ _ _ _ rfl
  exact ⟨⟨S', (h1.set i v).congr hF, hX.besides h2 hf (fun k hk e => h3 (e ▸ hk)), h3, h4⟩, hf.mono fun k hk => (h4 k).2 (.inr hk)⟩
theorem Hd.set (hX : Wd X) (h : Hd q ty n F X w S) (i : Nat) (v : Value) (hF : ∀ j, j < n → (if j = i then v else F j) = F' j) : Turn (Hd q ty n F' X) S w (w.setCell ⟨q, i, none⟩ v) :=
  ⟨S, (h.put hX i v hF).1, fun k hk => .inl hk, (h.put hX i v hF).2⟩
/-- A head that is made. -/
theorem Hd.new (hX : Wd X) (h : X w S) (c : Array Value) (hc : ∀ i, i < c.size → c[i]? = some (F i)) : Hd w.heap.size ty c.size F X (w.alloc (.cells c ty)) (fun k => S k ∨ k = w.heap.size) :=
  ⟨S, World.rowIs_alloc w c ty F hc, hX.keep h ((Below.refl _ _).alloc (Nat.le_refl _) _), fun hs => by have := hX.lt h _ hs; omega, fun k => Iff.rfl⟩
end

/-- All that the word tells of, made since block B. -/
def Up (B : Nat) (X : Wx) (w : World) : Prop := ∃ S, X w S ∧ ∀ k, S k → B ≤ k
theorem Up.keep (hX : Wd X) (h : Up B X w) (hb : Below w.heap.size w w') : Up B X w' := by
  obtain ⟨S, h1, h2⟩ := h
  exact ⟨S, hX.keep h1 hb, h2⟩
theorem Up.turn (hs : ∀ k, S k → B ≤ k) (hB : B ≤ w.heap.size) (ht : Turn X' S w w') : Up B X' w' ∧ Below B w w' := by
  obtain ⟨S1, x, s, f⟩ := ht
  exact ⟨⟨S1, x, fun k hk => (s k hk).elim (hs k) fun h => Nat.le_trans hB h⟩, f.below hB hs⟩
theorem Up.swap (h : Up B (Both X Y) w) : Up B (Both Y X) w := by
  obtain ⟨S, h1, h2⟩ := h
  exact ⟨S, h1.swap, h2⟩
theorem Up.fst (h : Up B (Both X Y) w) : Up B X w := by
  obtain ⟨S, h1, h2⟩ := h
  obtain ⟨S1, a, b⟩ := h1.fst
  exact ⟨S1, a, fun k hk => h2 k (b k hk)⟩
theorem Up.snd (h : Up B (Both X Y) w) : Up B Y w := h.swap.fst
/-- One more, made behind. -/
theorem Up.add (hX : Wd X) (h : Up B X w) (hB : B ≤ w.heap.size) (hb : Below w.heap.size w w') (hn : Up w.heap.size Y w') : Up B (Both X Y) w' := by
  obtain ⟨S, h1, h2⟩ := h
  obtain ⟨S', k1, k2⟩ := hn
  exact ⟨fun k => S k ∨ S' k, ⟨S, S', hX.keep h1 hb, k1, fun k a b => by have := hX.lt h1 k a; have := k2 k b; omega, fun k => Iff.rfl⟩, fun k hk => hk.elim (h2 k) fun h => Nat.le_trans hB (k2 k h)⟩
theorem Up.assoc {Z : Wx} (h : Up B (Both X (Both Y Z)) w) : Up B (Both (Both X Y) Z) w := by
  obtain ⟨S, ⟨S1, S2, h1, ⟨S3, S4, k1, k2, k3, k4⟩, h3, h4⟩, h5⟩ := h
  refine ⟨S, ⟨fun k => S1 k ∨ S3 k, S4, ⟨S1, S3, h1, k1, fun k a b => h3 k a ((k4 k).2 (.inl b)), fun k => Iff.rfl⟩, k2, fun k a b => ?_, fun k => ?_⟩, h5⟩
  · rcases a with a | a
    · exact h3 k a ((k4 k).2 (.inr b))
    · exact k3 k a b
  · rw [h4 k, k4 k, or_assoc]

/-! ### what is no row of bytes -/
end
end Go.Proofs.YtebakjdeighdnaaGreat

/-
  Calls that turn one of several words; rows of bytes stand beside them.
-/
namespace Go.Proofs.YtebakjdeighdnaaGreat
open Go.RowKit
set_option linter.unusedVariables false

section
variable {α : Type} {X Y : Wx} {X' Y' : α → Wx} {R : α → Ending → World → Prop} {P : Program} {f : FuncId} {args : Array Value} {w wA : World} {B : Nat} {C : Nat → Prop}
end
end Go.Proofs.YtebakjdeighdnaaGreat
