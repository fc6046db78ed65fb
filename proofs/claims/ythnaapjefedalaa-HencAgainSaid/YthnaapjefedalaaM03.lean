/-
  Texts put together: DnC, DnD.
-/
import Derived.Test.YthnaapjefedalaaM02
import Derived.WalkArith

/-
  Contract of the table's enter.
-/
namespace Go.Proofs.Ythnaapjefedalaa
open Go.RowKit Go.Maps
set_option linter.unusedVariables false

theorem Tr.cellGrew {w w' : World} {p : Nat} {v : Value} {bw bn sz cp ct na nb : Nat} {L : List Fd} {Dw Dn : DataW Unit} (h : Tr w p v bw bn sz cp ct na nb L Dw Dn) (hg : w.grownBy w' v.ownBlock) :
    w'.cell? ⟨p, 0, none⟩ = some v ∧ w'.frozen? ⟨p, 0, none⟩ = false := by
  have hr := h.row.of_block (hg.block p h.row.lt (fun e => (h.nv p e.symm).1 rfl))
  exact ⟨hr.cell (by omega), hr.frozen 0⟩

set_option maxRecDepth 100000 in
set_option maxHeartbeats 1000000 in
theorem enter_any {w : World} {p : Nat} {v : Value} {bw bn cp ct na nb b : Nat} {f : Fd} {L : List Fd} {Dw Dn : DataW Unit} (h : Tr w p v bw bn (sizeF L) cp ct na nb L Dw Dn)
    (hw : Mp kf Sized id b L Dw) (hn : Mp ks Short Prod.fst b L Dn) (hb : b + L.length = ct) (ht : ct ≤ 1000000) (hs : sizeF L + (fsz f + 32) ≤ 1000000) (hna : na ≤ 1000000) (hnb : nb ≤ 1000000) :
    Calls Try.prog 71 #[.pointer (some ⟨p, 0, none⟩), .agg #[.string f.1, .string f.2]] w fun e w' => e = .returned (.tuple #[]) ∧ ∃ v' Dw' Dn', Tr w' p v' bw bn (sizeF (L ++ [f])) cp (ct + 1) (na + 1) (nb + 1) (L ++ [f]) Dw' Dn' ∧
      (v'.ownBlock = v.ownBlock ∨ ∃ g, v'.ownBlock = some g ∧ w.heap.size ≤ g) ∧ Mp kf Sized id b (L ++ [f]) Dw' ∧ Mp ks Short Prod.fst b (L ++ [f]) Dn' ∧ Fp (Own p bw bn v) w w' := by
  obtain ⟨f1, f2⟩ := f
  have HT := Bx.mk h
  have HW := Bx.mk hw
  have HN := Bx.mk hn
  unfold fsz at hs
  simp only at hs
  have HSF : Bx (Sized (f1, f2)) := ⟨by unfold Sized maxLen; simp only; omega⟩
  have HSS : Bx (Short f1) := ⟨HSF.out.1⟩
  obtain ⟨n1, hn1⟩ : ∃ n1, f1.size + f2.size + 32 = n1 := ⟨_, rfl⟩
  have HSZC : Bx (∀ W u, Fs W u [(f1, f2)] → Calls Try.prog 70 #[u] W fun e w' => e = .returned (.int .i64 (n1 : Int)) ∧ Below W.heap.size W w') := ⟨fun W u hu => hn1 ▸ size_any u [(f1, f2)] W hu (by simp only [sizeF, fsz]; omega)⟩
  have hsz : sizeF (L ++ [(f1, f2)]) = sizeF L + n1 := by rw [sizeF_append, ← hn1]; simp [sizeF, fsz]
  have HL : Bx (L.length ≤ 1000000) := ⟨by omega⟩
  have HSS2 : Bx (sizeF L + n1 ≤ 1000000) := ⟨by omega⟩
  have HC1 : Bx (f1.size ≤ 1000000) := ⟨by omega⟩
  have HC2 : Bx (f2.size ≤ 1000000) := ⟨by omega⟩
  have HB := Bx.mk hb
  have HTT := Bx.mk ht
  have HNA := Bx.mk hna
  have HNB := Bx.mk hnb
  rw [hsz]
  have HSZ := Bx.mk hsz
  have HF0 := Bx.mk (Fb.new 58 w (f1, f2))
  clear h hw hn hb ht hs hsz hn1 hna hnb
  go_enter Try.func71, Try.ntmps71
  go_upto_region 1 with fail
  obtain ⟨e1, e2⟩ := HF0.out.cells
  go_cut [3] from 4 to 10 (fun s3 wx => s3 = .pointer (some ⟨w.heap.size, 0, none⟩) ∧ Bx (Fb 58 wx w.heap.size (f1, f2)) ∧ Bx (Below w.heap.size w wx))
  case first =>
    go_region_held (fun W => W.cell? ⟨w.heap.size, 0, none⟩ = some (.string f1) ∧ W.cell? ⟨w.heap.size, 1, none⟩ = some (.string f2)) (first | assumption | exact (HF0.out.keep (Below.refl _ _).drew).cells) (first
      | (go_at_call 79; refine (clone_any f1 _ HC1.out).mono ?_; rintro e w2 ⟨rfl, hb2⟩; have HF2 := Bx.mk ((HF0.out.keep (Below.refl _ _).drew).keep hb2); have hS2 := HF2.out.cells)
      | (go_at_call 79; refine (clone_any f2 _ HC2.out).mono ?_; rintro e w3 ⟨rfl, hb3⟩; have HF3 := Bx.mk (HF2.out.keep hb3); have hS3 := HF3.out.cells; have HF4 := Bx.mk (HF3.out.set2 f1 f2); have hS4 := HF4.out.cells; obtain ⟨kf1, kf2⟩ := HF3.out.free))
    all_goals go_wp2_with fail
    all_goals go_meet
    all_goals
      have hB2 : Below w.heap.size w w2 := (((Below.refl w.heap.size w).alloc (Nat.le_refl _) _).drew).trans (hb2.mono (by simp))
      have hB3 : Below w.heap.size w w3 := hB2.trans (hb3.mono hB2.size)
      exact ⟨rfl, HF4, ⟨below_set2 hB3 _ (Nat.le_refl _) _ _⟩⟩
  case rest =>
    obtain ⟨rfl, HF1, HB1⟩ := hcut
    have HT1 := Bx.mk (HT.out.keep HB1.out)
    have HP1 : Bx (Fp (Own p bw bn v) w wc) := ⟨Fp.of_below HB1.out⟩
    have HLT := Bx.mk HB1.out.size
    have HGN : Bx (w.heap.size ≠ p ∧ w.heap.size ≠ bw ∧ w.heap.size ≠ bn ∧ v.ownBlock ≠ some w.heap.size) := ⟨by
      have h1 := HT.out.row.lt
      have h2 := HT.out.mw.lt
      have h3 := HT.out.mn.lt
      exact ⟨by omega, by omega, by omega, fun e => by have := HT.out.st.lt e; omega⟩⟩
    clear HB1 HF0 e1 e2
    obtain ⟨G, hG⟩ : ∃ G, w.heap.size = G := ⟨_, rfl⟩
    rw [hG] at HF1 HGN HLT ⊢
    go_upto_region 2 with fail
    have HT2 := Bx.mk (HT1.out.drew.alloc (.cells #[.string f1, .string f2] 58))
    obtain ⟨v', w3, hrun, hst, hgr, hown, _⟩ := HT2.out.st.append (Fs.one wc.drew _ rfl (f1, f2)) HL.out 31
    obtain ⟨av, nv, cv, rfl⟩ := hst.shape
    obtain ⟨k0, kf0⟩ := HT2.out.cellGrew hgr
    go_cut [3] from 11 to 20 (fun s3 wx => s3 = .pointer (some ⟨G, 0, none⟩) ∧ wx = w3.setCell ⟨p, 0, none⟩ (.slice av nv cv))
    case first =>
      obtain ⟨d0, d1, d2, d3, d4, d5⟩ := HT1.out.drew.cells
      have hd0 : (wc.alloc (.cells #[.string f1, .string f2] 58)).drew.cell? ⟨p, 0, none⟩ = some v := HT2.out.cells.1
      obtain ⟨e1, e2⟩ := (HF1.out.keep (Below.refl _ _).drew).cells
      go_region_law (refine step_append_run rfl (.tmp 15) (.tmp 17) 31 rfl v _ rfl rfl hrun ?_)
      all_goals go_wp2_with fail
      all_goals go_meet
      all_goals exact ⟨rfl, rfl⟩
    case rest =>
      obtain ⟨rfl, rfl⟩ := hcut
      have HT4 := Bx.mk (HT2.out.grew hgr hst hown)
      have hB2 : Below wc.heap.size wc (wc.drew.alloc (.cells #[.string f1, .string f2] 58)) := (Below.refl wc.heap.size wc).drew.alloc (Nat.le_refl _) _
      have hfp : Fp (Own p bw bn v) (wc.drew.alloc (.cells #[.string f1, .string f2] 58)) w3 := Fp.of_grown hgr (fun k e => .inr (.inr (.inr e)))
      have HP4 : Bx (Fp (Own p bw bn v) w (w3.setCell ⟨p, 0, none⟩ (.slice av nv cv))) := ⟨HP1.out.then ((Fp.of_below hB2).then (hfp.then (Fp.set _ _ _ _ (.inl rfl))))⟩
      have HF4 : Bx (Fb 58 (w3.setCell ⟨p, 0, none⟩ (.slice av nv cv)) G (f1, f2)) := ⟨((HF1.out.keep hB2).grown hgr (fun e => HGN.out.2.2.2 e.symm)).grown (grown_set _ p 0 _) (fun e => HGN.out.1 (Option.some.inj e))⟩
      have HOW : Bx ((Value.slice av nv cv).ownBlock = v.ownBlock ∨ ∃ g, (Value.slice av nv cv).ownBlock = some g ∧ G ≤ g) := ⟨hown.imp id fun ⟨g, h1, h2⟩ => ⟨g, h1, Nat.le_trans HLT.out (Nat.le_trans (by simp) h2)⟩⟩
      generalize (w3.setCell ⟨p, 0, none⟩ (.slice av nv cv)) = w4 at *
      clear hrun hst hgr hown k0 kf0 hB2 hfp HT1 HF1 HP1 HT2
      obtain ⟨d0, d1, d2, d3, d4, d5⟩ := HT4.out.drew.cells
      obtain ⟨e1, e2⟩ := (HF4.out.keep (Below.refl _ _).drew).cells
      obtain ⟨w5, hrun5, ho5, hg5⟩ := HT4.out.drew.mw.update fdLaw Try.underlying81 (by have := HNA.out; unfold maxLen; omega) (keyOf_fd (f1, f2) HSF.out) (plainElem_int (H := Unit) (a := (ct : Int)) Try.underlying39 (WalkArith.wf_u64 (by have := HTT.out; omega)))
      go_wp2_with fail
      go_region
      go_wp2_with fail
      have HT5 := Bx.mk (HT4.out.drew.turnW hg5 ho5)
      have HF5 := Bx.mk ((HF4.out.keep (Below.refl _ _).drew).grown hg5 (fun e => HGN.out.2.1 (Option.some.inj e)))
      have HP5 : Bx (Fp (Own p bw bn v) w w5) := ⟨HP4.out.then ((Fp.of_below (Below.refl _ _).drew).then (Fp.of_grown hg5 (fun k e => .inr (.inl (Option.some.inj e).symm))))⟩
      have HW5 : Bx (Mp kf Sized id b (L ++ [(f1, f2)]) (Dw.put (kf (f1, f2)) (.lit (.int .u64 (ct : Int))))) := ⟨HW.out.put kf_inj kf_key HSF.out HB.out.symm⟩
      generalize Dw.put (kf (f1, f2)) (.lit (.int .u64 (ct : Int))) = Dw5 at HT5 HW5
      clear hrun5 ho5 hg5 d0 d1 d2 d3 d4 d5 e1 e2 HT4 HF4 HP4
      obtain ⟨d0, d1, d2, d3, d4, d5⟩ := HT5.out.drew.cells
      obtain ⟨e1, e2⟩ := (HF5.out.keep (Below.refl _ _).drew).cells
      obtain ⟨w6, hrun6, ho6, hg6⟩ := HT5.out.drew.mn.update stLaw Try.underlying82 (by have := HNB.out; unfold maxLen; omega) (keyOf_st f1 HSS.out) (plainElem_int (H := Unit) (a := (ct : Int)) Try.underlying39 (WalkArith.wf_u64 (by have := HTT.out; omega)))
      go_region
      go_wp2_with fail
      have HT6 := Bx.mk (HT5.out.drew.turnN hg6 ho6)
      have HF6 := Bx.mk ((HF5.out.keep (Below.refl _ _).drew).grown hg6 (fun e => HGN.out.2.2.1 (Option.some.inj e)))
      have HP6 : Bx (Fp (Own p bw bn v) w w6) := ⟨HP5.out.then ((Fp.of_below (Below.refl _ _).drew).then (Fp.of_grown hg6 (fun k e => .inr (.inr (.inl (Option.some.inj e).symm)))))⟩
      have HN6 : Bx (Mp ks Short Prod.fst b (L ++ [(f1, f2)]) (Dn.put (ks f1) (.lit (.int .u64 (ct : Int))))) := ⟨HN.out.put (f := (f1, f2)) ks_inj ks_key HSS.out HB.out.symm⟩
      generalize Dn.put (ks f1) (.lit (.int .u64 (ct : Int))) = Dn6 at HT6 HN6
      clear hrun6 ho6 hg6 d0 d1 d2 d3 d4 d5 e1 e2 HT5 HF5 HP5
      have hw5 : IntKind.i64.wrap ((sizeF L : Int) + (n1 : Int)) = ((sizeF L + n1 : Nat) : Int) := by
        have h2 := HSS2.out
        simp [IntKind.wrap, IntKind.signed, IntKind.bits]; omega
      go_upto_region 5 with fail
      go_cut [3] from 40 to 49 (fun s3 wx => s3 = .pointer (some ⟨G, 0, none⟩) ∧ Bx (Tr wx p (.slice av nv cv) bw bn (sizeF L + n1) cp ct (na + 1) (nb + 1) (L ++ [(f1, f2)]) Dw5 Dn6) ∧ Bx (Fp (Own p bw bn v) w wx))
      case first =>
        obtain ⟨d0, d1, d2, d3, d4, d5⟩ := HT6.out.drew.cells
        obtain ⟨e1, e2⟩ := (HF6.out.keep (Below.refl _ _).drew).cells
        have hd3 := (HT6.out.alloc (.cells #[.string f1, .string f2] 58)).drew.cells.2.2.2.1
        go_region_law (first
          | (go_simp; go_at_call 70; refine (HSZC.out _ _ (Fs.one w6.drew _ rfl (f1, f2))).mono ?_; rintro e w7 ⟨rfl, hb7⟩; have HT7 := Bx.mk ((HT6.out.drew.alloc _).keep hb7); obtain ⟨k0, k1, k2, k3, k4, k5⟩ := HT7.out.cells; have kf3 := HT7.out.free 3; have hB7 : Below w6.heap.size w6 w7 := (((Below.refl w6.heap.size w6).drew.alloc (Nat.le_refl _) _)).trans (hb7.mono (by simp))))
        all_goals go_wp2_with fail
        all_goals go_meet
        all_goals exact ⟨rfl, ⟨HT7.out.setSz (sizeF L + n1)⟩, ⟨HP6.out.then ((Fp.of_below hB7).then (Fp.set _ _ _ _ (.inl rfl)))⟩⟩
      case rest =>
        obtain ⟨rfl, HT8, HP8⟩ := hcut
        obtain ⟨d0, d1, d2, d3, d4, d5⟩ := HT8.out.cells
        have kf5 := HT8.out.free 5
        have hw6 : IntKind.u64.wrap ((ct : Int) + 1) = ((ct + 1 : Nat) : Int) := by
          have := HTT.out
          simp [IntKind.wrap, IntKind.signed, IntKind.bits]; omega
        go_wp2
        go_end0
        exact ⟨rfl, _, Dw5, Dn6, HT8.out.setCt (ct + 1), by rw [hG]; exact HOW.out, HW5.out, HN6.out, HP8.out.then (Fp.set _ _ _ _ (.inl rfl))⟩

end Go.Proofs.Ythnaapjefedalaa

/-
  Contracts of the table's shrink, and of drop and enter as turns of the table.
-/
namespace Go.Proofs.Ythnaapjefedalaa
open Go.RowKit Go.Maps
set_option linter.unusedVariables false

theorem Fp.mono {S S' : Nat → Prop} {w w' : World} (h : Fp S w w') (hs : ∀ k, S k → S' k) : Fp S' w w' := ⟨h.os, h.tape, h.output, h.size, fun k hk hn => h.block k hk fun hk => hn (hs k hk)⟩

theorem Turn.step {Y : World → (Nat → Prop) → Prop} {S S1 : Nat → Prop} {a b c : World} (s1 : ∀ k, S1 k → S k ∨ a.heap.size ≤ k) (f1 : Fp S a b) (ht : Turn Y S1 b c) : Turn Y S a c := by
  obtain ⟨S2, y2, s2, f2⟩ := ht
  refine ⟨S2, y2, fun i hi => ?_, f1.trans f2 s1⟩
  rcases s2 i hi with h | h
  · exact s1 i h
  · exact .inr (Nat.le_trans f1.size h)

theorem drop_turn {p : Nat} {T : Tab} {w : World} {S : Nat → Prop} {f : Fd} {l : List Fd} (h : Tb p T w S) (hl : T.l = f :: l) :
    Calls Try.prog 73 #[.pointer (some ⟨p, 0, none⟩)] w fun e w' => e = .returned (.tuple #[]) ∧ Turn (Tb p ⟨l, T.cap, T.tot⟩) S w w' := by
  obtain ⟨v, bw, bn, Dw, Dn, h1, h2, h3, h4, h5, h6⟩ := h
  obtain ⟨L, cap, tot⟩ := T
  simp only at hl
  subst hl
  have hlen := h6.len
  simp only [List.length_cons] at hlen
  have hfi : Tab.first ⟨f :: l, cap, tot⟩ = tot - (l.length + 1) := rfl
  rw [hfi] at h2 h3
  refine (drop_any h1 h2 h3 (by show tot - (l.length + 1) + (l.length + 1) = tot; omega) h6.tot h6.size).mono ?_
  rintro e w' ⟨rfl, v', Dw', Dn', t1, t2, t3, t4, t5⟩
  have hs : sizeF (f :: l) = fsz f + 32 + sizeF l := rfl
  have hsz := h6.size
  have hcap := h6.cap
  have htot := h6.tot
  simp only at hsz hcap htot
  have hfi2 : Tab.first ⟨l, cap, tot⟩ = tot - (l.length + 1) + 1 := by show tot - l.length = _; omega
  refine ⟨rfl, S, ⟨v', bw, bn, Dw', Dn', t1, ?_, ?_, ⟨h4.1, h4.2.1, h4.2.2.1, fun k hk => h4.2.2.2 k (t2 ▸ hk)⟩, fun k hk => Nat.lt_of_lt_of_le (h5 k hk) t5.size, ⟨by show l.length ≤ tot; omega, by show sizeF l ≤ _; omega, hcap, htot⟩⟩, fun k hk => .inl hk, t5.mono ?_⟩
  · rw [hfi2]; exact t3
  · rw [hfi2]; exact t4
  · rintro k (rfl | rfl | rfl | hk)
    · exact h4.1
    · exact h4.2.1
    · exact h4.2.2.1
    · exact h4.2.2.2 k hk

theorem enter_turn {p : Nat} {T : Tab} {w : World} {S : Nat → Prop} {f : Fd} (h : Tb p T w S) (ht : T.tot + 1 ≤ 1000000) (hs : sizeF T.l + (fsz f + 32) ≤ 1000000) :
    Calls Try.prog 71 #[.pointer (some ⟨p, 0, none⟩), .agg #[.string f.1, .string f.2]] w fun e w' => e = .returned (.tuple #[]) ∧ Turn (Tb p ⟨T.l ++ [f], T.cap, T.tot + 1⟩) S w w' := by
  obtain ⟨v, bw, bn, Dw, Dn, h1, h2, h3, h4, h5, h6⟩ := h
  have hlen := h6.len
  refine (enter_any h1 h2 h3 (show T.tot - T.l.length + T.l.length = T.tot by omega) h6.tot hs h6.tot h6.tot).mono ?_
  rintro e w' ⟨rfl, v', Dw', Dn', t1, t2, t3, t4, t5⟩
  have hfi2 : Tab.first ⟨T.l ++ [f], T.cap, T.tot + 1⟩ = T.first := by show T.tot + 1 - (T.l ++ [f]).length = T.tot - T.l.length; rw [List.length_append, List.length_singleton]; omega
  refine ⟨rfl, fun k => S k ∨ (w.heap.size ≤ k ∧ k < w'.heap.size), ⟨v', bw, bn, Dw', Dn', t1, ?_, ?_, ⟨.inl h4.1, .inl h4.2.1, .inl h4.2.2.1, fun k hk => ?_⟩, ?_, ⟨?_, ?_, h6.cap, ht⟩⟩, ?_, t5.mono ?_⟩
  · rw [hfi2]; exact t3
  · rw [hfi2]; exact t4
  · rcases t2 with e | ⟨g, e, hg⟩
    · exact .inl (h4.2.2.2 k (e ▸ hk))
    · have := t1.st.lt hk
      rw [e] at hk
      injection hk with hk
      subst hk
      exact .inr ⟨hg, this⟩
  · rintro k (hk | hk)
    · exact Nat.lt_of_lt_of_le (h5 k hk) t5.size
    · exact hk.2
  · show (T.l ++ [f]).length ≤ T.tot + 1
    rw [List.length_append, List.length_singleton]; omega
  · show sizeF (T.l ++ [f]) ≤ _
    rw [sizeF_append]
    simp only [sizeF]
    omega
  · rintro k (hk | hk)
    · exact .inl hk
    · exact .inr hk.1
  · rintro k (rfl | rfl | rfl | hk)
    · exact h4.1
    · exact h4.2.1
    · exact h4.2.2.1
    · exact h4.2.2.2 k hk

set_option maxRecDepth 100000 in
set_option maxHeartbeats 1000000 in
theorem shrink_any {p : Nat} {T : Tab} {w : World} {S : Nat → Prop} (h : Tb p T w S) (room : Int) :
    Calls Try.prog 61 #[.pointer (some ⟨p, 0, none⟩), .int .i64 room] w fun e w' => e = .returned (.int .i64 (T.went room : Int)) ∧ Turn (Tb p ⟨fits room T.l, T.cap, T.tot⟩) S w w' := by
  have HT := Bx.mk h
  obtain ⟨L0, cap, tot⟩ := T
  have HLEN : Bx (L0.length ≤ 31250) := ⟨h.ok.short⟩
  obtain ⟨R, hR⟩ : ∃ R, Tab.went ⟨L0, cap, tot⟩ room = R := ⟨_, rfl⟩
  rw [hR]
  have HR : Bx (L0.length - (fits room L0).length = R) := ⟨hR⟩
  clear h hR
  go_enter Try.func61, Try.ntmps61
  go_wp2
  go_loopg [5] L0.length (fun g s5 wx => ∃ (k : Nat) (L : List Fd), k + L.length = L0.length ∧ L.length = g ∧ s5 = .int .i64 k ∧ Bx (fits room L = fits room L0) ∧ Bx (Turn (Tb p ⟨L, cap, tot⟩) S w wx))
  case atStart => exact ⟨0, L0, by omega, rfl, rfl, ⟨rfl⟩, ⟨Turn.refl HT.out (Below.refl _ _)⟩⟩
  case round =>
    obtain ⟨k, L, hk, hg, rfl, HFI, HTU⟩ := hrel
    obtain ⟨S1, hX, hs1, hf1⟩ := HTU.out
    have HX := Bx.mk hX
    have HS1 := Bx.mk hs1
    have HF1 := Bx.mk hf1
    obtain ⟨v, bw, bn, Dw, Dn, h1, _⟩ := hX
    obtain ⟨d0, d1, d2, d3, d4, d5⟩ := h1.cells
    have hlen := fun ty W => h1.st.fs.run_len ty W
    clear h1 hs1 hf1
    simp only at d0 d1 d2 d3 d4 d5 hlen
    obtain ⟨m, hm⟩ : ∃ m, L.length = m := ⟨_, rfl⟩
    rw [hm] at hlen
    have HM := Bx.mk hm
    clear hm
    by_cases hgo : room < (sizeF L : Int) ∧ L ≠ []
    · obtain ⟨hgt, hne⟩ := hgo
      obtain ⟨f, l, rfl⟩ : ∃ f l, L = f :: l := List.exists_cons_of_ne_nil hne
      have HGO := Bx.mk (fits_cons_go hgt)
      have hd1 : decide (room < (sizeF (f :: l) : Int)) = true := by simpa using hgt
      have hm0 : 0 < m := by have := HM.out; simp only [List.length_cons] at this; omega
      have hd2 : decide ((0 : Int) < (m : Int)) = true := decide_eq_true (by omega)
      have hd3 : decide (0 < m) = true := decide_eq_true hm0
      clear hgt hne
      go_wp2_with fail
      refine (drop_turn HX.out rfl).mono ?_
      rintro e w2 ⟨rfl, ht⟩
      have HT2 : Bx (Turn (Tb p ⟨l, cap, tot⟩) S w w2) := ⟨Turn.step HS1.out HF1.out ht⟩
      obtain ⟨g', rfl⟩ : ∃ g', gk = g' + 1 := ⟨l.length, by rw [← hg]; rfl⟩
      have hkk : k ≤ 31250 := by have := HLEN.out; omega
      clear ht hd1 hd2 hd3 hm0 hlen d0 d1 d2 d3 d4 d5
      go_wp2
      go_roundg g'
      case measure => omega
      case rel => exact ⟨k + 1, l, by simp only [List.length_cons] at hk; omega, by simp only [List.length_cons] at hg; omega, by go_num, ⟨by rw [← HGO.out]; exact HFI.out⟩, HT2⟩
    · have hfin : fits room L = L := by
        cases L with
        | nil => rfl
        | cons f l => exact fits_all (by have : ¬ room < (sizeF (f :: l) : Int) := fun h => hgo ⟨h, by simp⟩; omega)
      have HFI2 : Bx (L = fits room L0) := ⟨by rw [← hfin]; exact HFI.out⟩
      have HKR : Bx (k = R) := ⟨by have := HR.out; rw [← HFI2.out] at this; omega⟩
      rw [HFI2.out] at HTU
      by_cases hr : room < (sizeF L : Int)
      case' pos =>
        have hL : L = [] := Classical.byContradiction fun hne => hgo ⟨hr, hne⟩
        have hd1 : decide (room < (sizeF L : Int)) = true := decide_eq_true hr
        have hm0 : m = 0 := by have := HM.out; rw [hL] at this; exact this.symm
        have hd2 : decide ((0 : Int) < (m : Int)) = false := decide_eq_false (by omega)
        have hd3 : decide (0 < m) = false := decide_eq_false (by omega)
        clear hm0
        clear hr hL hgo hfin
      case' neg =>
        have hd1 : decide (room < (sizeF L : Int)) = false := decide_eq_false hr
        clear hr hgo hfin
      all_goals
        go_wp2_with fail
        go_ret
        exact ⟨by have := HKR.out; subst this; rfl, HTU.out⟩

end Go.Proofs.Ythnaapjefedalaa
