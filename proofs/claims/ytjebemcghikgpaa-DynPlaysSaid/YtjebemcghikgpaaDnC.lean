/-
  Contract of the table's enter.
-/
import Derived.Test.YtjebemcghikgpaaDnB
import Derived.WalkArith
namespace Go.Proofs.Ytjebemcghikgpaa
open Go.RowKit Go.Maps
set_option linter.unusedVariables false

theorem Tr.cellGrew {w w' : World} {p : Nat} {v : Value} {bw bn sz cp ct na nb : Nat} {L : List Fd} {Dw Dn : DataW Unit} (h : Tr w p v bw bn sz cp ct na nb L Dw Dn) (hg : w.grownBy w' v.ownBlock) :
    w'.cell? ⟨p, 0, none⟩ = some v ∧ w'.frozen? ⟨p, 0, none⟩ = false := by
  have hr := h.row.of_block (hg.block p h.row.lt (fun e => (h.nv p e.symm).1 rfl))
  exact ⟨hr.cell (by omega), hr.frozen 0⟩

set_option maxRecDepth 100000 in
set_option maxHeartbeats 1000000 in
theorem enter_any {w : World} {p : Nat} {v : Value} {bw bn cp ct na nb b : Nat} {f : Fd} {L : List Fd} {Dw Dn : DataW Unit} (h : Tr w p v bw bn (sizeF L) cp ct na nb L Dw Dn)
    (hw : Mp kf Sized id b L Dw) (hn : Mp ks Short Prod.fst b L Dn) (hb : b + L.length = ct) (ht : ct ≤ 1000000) (hs : sizeF L + (fsz f + 32) ≤ 1000000) (hna : na ≤ 1000000) (hnb : nb ≤ 1000000) :
    Calls Try.prog 27 #[.pointer (some ⟨p, 0, none⟩), .agg #[.string f.1, .string f.2]] w fun e w' => e = .returned (.tuple #[]) ∧ ∃ v' Dw' Dn', Tr w' p v' bw bn (sizeF (L ++ [f])) cp (ct + 1) (na + 1) (nb + 1) (L ++ [f]) Dw' Dn' ∧
      (v'.ownBlock = v.ownBlock ∨ ∃ g, v'.ownBlock = some g ∧ w.heap.size ≤ g) ∧ Mp kf Sized id b (L ++ [f]) Dw' ∧ Mp ks Short Prod.fst b (L ++ [f]) Dn' ∧ Fp (Own p bw bn v) w w' := by
  obtain ⟨f1, f2⟩ := f
  have HT := Bx.mk h
  have HW := Bx.mk hw
  have HN := Bx.mk hn
  unfold fsz at hs
  simp only at hs
  have HSF : Bx (Sized (f1, f2)) := ⟨by unfold Sized maxLen; simp only; omega⟩
  have HSS : Bx (Short f1) := ⟨HSF.out.1⟩
  obtain ⟨n1, hn1⟩ : ∃ n1, f1.size + f2.size + 32 = n1 := ⟨_, rfl⟩
  have HSZC : Bx (∀ W u, Fs W u [(f1, f2)] → Calls Try.prog 26 #[u] W fun e w' => e = .returned (.int .i64 (n1 : Int)) ∧ Below W.heap.size W w') := ⟨fun W u hu => hn1 ▸ size_any u [(f1, f2)] W hu (by simp only [sizeF, fsz]; omega)⟩
  have hsz : sizeF (L ++ [(f1, f2)]) = sizeF L + n1 := by rw [sizeF_append, ← hn1]; simp [sizeF, fsz]
  have HL : Bx (L.length ≤ 1000000) := ⟨by omega⟩
  have HSS2 : Bx (sizeF L + n1 ≤ 1000000) := ⟨by omega⟩
  have HC1 : Bx (f1.size ≤ 1000000) := ⟨by omega⟩
  have HC2 : Bx (f2.size ≤ 1000000) := ⟨by omega⟩
  have HB := Bx.mk hb
  have HTT := Bx.mk ht
  have HNA := Bx.mk hna
  have HNB := Bx.mk hnb
  rw [hsz]
  have HSZ := Bx.mk hsz
  have HF0 := Bx.mk (Fb.new 24 w (f1, f2))
  clear h hw hn hb ht hs hsz hn1 hna hnb
  go_enter Try.func27, Try.ntmps27
  go_upto_region 1 with fail
  obtain ⟨e1, e2⟩ := HF0.out.cells
  go_cut [3] from 4 to 10 (fun s3 wx => s3 = .pointer (some ⟨w.heap.size, 0, none⟩) ∧ Bx (Fb 24 wx w.heap.size (f1, f2)) ∧ Bx (Below w.heap.size w wx))
  case first =>
    go_region_held (fun W => W.cell? ⟨w.heap.size, 0, none⟩ = some (.string f1) ∧ W.cell? ⟨w.heap.size, 1, none⟩ = some (.string f2)) (first | assumption | exact (HF0.out.keep (Below.refl _ _).drew).cells) (first
      | (go_at_call 35; refine (clone_any f1 _ HC1.out).mono ?_; rintro e w2 ⟨rfl, hb2⟩; have HF2 := Bx.mk ((HF0.out.keep (Below.refl _ _).drew).keep hb2); have hS2 := HF2.out.cells)
      | (go_at_call 35; refine (clone_any f2 _ HC2.out).mono ?_; rintro e w3 ⟨rfl, hb3⟩; have HF3 := Bx.mk (HF2.out.keep hb3); have hS3 := HF3.out.cells; have HF4 := Bx.mk (HF3.out.set2 f1 f2); have hS4 := HF4.out.cells; obtain ⟨kf1, kf2⟩ := HF3.out.free))
    all_goals go_wp2_with fail
    all_goals go_meet
    all_goals
      have hB2 : Below w.heap.size w w2 := (((Below.refl w.heap.size w).alloc (Nat.le_refl _) _).drew).trans (hb2.mono (by simp))
      have hB3 : Below w.heap.size w w3 := hB2.trans (hb3.mono hB2.size)
      exact ⟨rfl, HF4, ⟨below_set2 hB3 _ (Nat.le_refl _) _ _⟩⟩
  case rest =>
    obtain ⟨rfl, HF1, HB1⟩ := hcut
    have HT1 := Bx.mk (HT.out.keep HB1.out)
    have HP1 : Bx (Fp (Own p bw bn v) w wc) := ⟨Fp.of_below HB1.out⟩
    have HLT := Bx.mk HB1.out.size
    have HGN : Bx (w.heap.size ≠ p ∧ w.heap.size ≠ bw ∧ w.heap.size ≠ bn ∧ v.ownBlock ≠ some w.heap.size) := ⟨by
      have h1 := HT.out.row.lt
      have h2 := HT.out.mw.lt
      have h3 := HT.out.mn.lt
      exact ⟨by omega, by omega, by omega, fun e => by have := HT.out.st.lt e; omega⟩⟩
    clear HB1 HF0 e1 e2
    obtain ⟨G, hG⟩ : ∃ G, w.heap.size = G := ⟨_, rfl⟩
    rw [hG] at HF1 HGN HLT ⊢
    go_upto_region 2 with fail
    have HT2 := Bx.mk (HT1.out.drew.alloc (.cells #[.string f1, .string f2] 24))
    obtain ⟨v', w3, hrun, hst, hgr, hown, _⟩ := HT2.out.st.append (Fs.one wc.drew _ rfl (f1, f2)) HL.out 40
    obtain ⟨av, nv, cv, rfl⟩ := hst.shape
    obtain ⟨k0, kf0⟩ := HT2.out.cellGrew hgr
    go_cut [3] from 11 to 20 (fun s3 wx => s3 = .pointer (some ⟨G, 0, none⟩) ∧ wx = w3.setCell ⟨p, 0, none⟩ (.slice av nv cv))
    case first =>
      obtain ⟨d0, d1, d2, d3, d4, d5⟩ := HT1.out.drew.cells
      have hd0 : (wc.alloc (.cells #[.string f1, .string f2] 24)).drew.cell? ⟨p, 0, none⟩ = some v := HT2.out.cells.1
      obtain ⟨e1, e2⟩ := (HF1.out.keep (Below.refl _ _).drew).cells
      go_region_law (refine step_append_run rfl (.tmp 15) (.tmp 17) 40 rfl v _ rfl rfl hrun ?_)
      all_goals go_wp2_with fail
      all_goals go_meet
      all_goals exact ⟨rfl, rfl⟩
    case rest =>
      obtain ⟨rfl, rfl⟩ := hcut
      have HT4 := Bx.mk (HT2.out.grew hgr hst hown)
      have hB2 : Below wc.heap.size wc (wc.drew.alloc (.cells #[.string f1, .string f2] 24)) := (Below.refl wc.heap.size wc).drew.alloc (Nat.le_refl _) _
      have hfp : Fp (Own p bw bn v) (wc.drew.alloc (.cells #[.string f1, .string f2] 24)) w3 := Fp.of_grown hgr (fun k e => .inr (.inr (.inr e)))
      have HP4 : Bx (Fp (Own p bw bn v) w (w3.setCell ⟨p, 0, none⟩ (.slice av nv cv))) := ⟨HP1.out.then ((Fp.of_below hB2).then (hfp.then (Fp.set _ _ _ _ (.inl rfl))))⟩
      have HF4 : Bx (Fb 24 (w3.setCell ⟨p, 0, none⟩ (.slice av nv cv)) G (f1, f2)) := ⟨((HF1.out.keep hB2).grown hgr (fun e => HGN.out.2.2.2 e.symm)).grown (grown_set _ p 0 _) (fun e => HGN.out.1 (Option.some.inj e))⟩
      have HOW : Bx ((Value.slice av nv cv).ownBlock = v.ownBlock ∨ ∃ g, (Value.slice av nv cv).ownBlock = some g ∧ G ≤ g) := ⟨hown.imp id fun ⟨g, h1, h2⟩ => ⟨g, h1, Nat.le_trans HLT.out (Nat.le_trans (by simp) h2)⟩⟩
      generalize (w3.setCell ⟨p, 0, none⟩ (.slice av nv cv)) = w4 at *
      clear hrun hst hgr hown k0 kf0 hB2 hfp HT1 HF1 HP1 HT2
      obtain ⟨d0, d1, d2, d3, d4, d5⟩ := HT4.out.drew.cells
      obtain ⟨e1, e2⟩ := (HF4.out.keep (Below.refl _ _).drew).cells
      obtain ⟨w5, hrun5, ho5, hg5⟩ := HT4.out.drew.mw.update fdLaw Try.underlying53 (by have := HNA.out; unfold maxLen; omega) (keyOf_fd (f1, f2) HSF.out) (plainElem_int (H := Unit) (a := (ct : Int)) Try.underlying25 (WalkArith.wf_u64 (by have := HTT.out; omega)))
      go_wp2_with fail
      go_region
      go_wp2_with fail
      have HT5 := Bx.mk (HT4.out.drew.turnW hg5 ho5)
      have HF5 := Bx.mk ((HF4.out.keep (Below.refl _ _).drew).grown hg5 (fun e => HGN.out.2.1 (Option.some.inj e)))
      have HP5 : Bx (Fp (Own p bw bn v) w w5) := ⟨HP4.out.then ((Fp.of_below (Below.refl _ _).drew).then (Fp.of_grown hg5 (fun k e => .inr (.inl (Option.some.inj e).symm))))⟩
      have HW5 : Bx (Mp kf Sized id b (L ++ [(f1, f2)]) (Dw.put (kf (f1, f2)) (.lit (.int .u64 (ct : Int))))) := ⟨HW.out.put kf_inj kf_key HSF.out HB.out.symm⟩
      generalize Dw.put (kf (f1, f2)) (.lit (.int .u64 (ct : Int))) = Dw5 at HT5 HW5
      clear hrun5 ho5 hg5 d0 d1 d2 d3 d4 d5 e1 e2 HT4 HF4 HP4
      obtain ⟨d0, d1, d2, d3, d4, d5⟩ := HT5.out.drew.cells
      obtain ⟨e1, e2⟩ := (HF5.out.keep (Below.refl _ _).drew).cells
      obtain ⟨w6, hrun6, ho6, hg6⟩ := HT5.out.drew.mn.update stLaw Try.underlying54 (by have := HNB.out; unfold maxLen; omega) (keyOf_st f1 HSS.out) (plainElem_int (H := Unit) (a := (ct : Int)) Try.underlying25 (WalkArith.wf_u64 (by have := HTT.out; omega)))
      go_region
      go_wp2_with fail
      have HT6 := Bx.mk (HT5.out.drew.turnN hg6 ho6)
      have HF6 := Bx.mk ((HF5.out.keep (Below.refl _ _).drew).grown hg6 (fun e => HGN.out.2.2.1 (Option.some.inj e)))
      have HP6 : Bx (Fp (Own p bw bn v) w w6) := ⟨HP5.out.then ((Fp.of_below (Below.refl _ _).drew).then (Fp.of_grown hg6 (fun k e => .inr (.inr (.inl (Option.some.inj e).symm)))))⟩
      have HN6 : Bx (Mp ks Short Prod.fst b (L ++ [(f1, f2)]) (Dn.put (ks f1) (.lit (.int .u64 (ct : Int))))) := ⟨HN.out.put (f := (f1, f2)) ks_inj ks_key HSS.out HB.out.symm⟩
      generalize Dn.put (ks f1) (.lit (.int .u64 (ct : Int))) = Dn6 at HT6 HN6
      clear hrun6 ho6 hg6 d0 d1 d2 d3 d4 d5 e1 e2 HT5 HF5 HP5
      have hw5 : IntKind.i64.wrap ((sizeF L : Int) + (n1 : Int)) = ((sizeF L + n1 : Nat) : Int) := by
        have h2 := HSS2.out
        simp [IntKind.wrap, IntKind.signed, IntKind.bits]; omega
      go_upto_region 5 with fail
      go_cut [3] from 40 to 49 (fun s3 wx => s3 = .pointer (some ⟨G, 0, none⟩) ∧ Bx (Tr wx p (.slice av nv cv) bw bn (sizeF L + n1) cp ct (na + 1) (nb + 1) (L ++ [(f1, f2)]) Dw5 Dn6) ∧ Bx (Fp (Own p bw bn v) w wx))
      case first =>
        obtain ⟨d0, d1, d2, d3, d4, d5⟩ := HT6.out.drew.cells
        obtain ⟨e1, e2⟩ := (HF6.out.keep (Below.refl _ _).drew).cells
        have hd3 := (HT6.out.alloc (.cells #[.string f1, .string f2] 24)).drew.cells.2.2.2.1
        go_region_law (first
          | (go_simp; go_at_call 26; refine (HSZC.out _ _ (Fs.one w6.drew _ rfl (f1, f2))).mono ?_; rintro e w7 ⟨rfl, hb7⟩; have HT7 := Bx.mk ((HT6.out.drew.alloc _).keep hb7); obtain ⟨k0, k1, k2, k3, k4, k5⟩ := HT7.out.cells; have kf3 := HT7.out.free 3; have hB7 : Below w6.heap.size w6 w7 := (((Below.refl w6.heap.size w6).drew.alloc (Nat.le_refl _) _)).trans (hb7.mono (by simp))))
        all_goals go_wp2_with fail
        all_goals go_meet
        all_goals exact ⟨rfl, ⟨HT7.out.setSz (sizeF L + n1)⟩, ⟨HP6.out.then ((Fp.of_below hB7).then (Fp.set _ _ _ _ (.inl rfl)))⟩⟩
      case rest =>
        obtain ⟨rfl, HT8, HP8⟩ := hcut
        obtain ⟨d0, d1, d2, d3, d4, d5⟩ := HT8.out.cells
        have kf5 := HT8.out.free 5
        have hw6 : IntKind.u64.wrap ((ct : Int) + 1) = ((ct + 1 : Nat) : Int) := by
          have := HTT.out
          simp [IntKind.wrap, IntKind.signed, IntKind.bits]; omega
        go_wp2
        go_end0
        exact ⟨rfl, _, Dw5, Dn6, HT8.out.setCt (ct + 1), by rw [hG]; exact HOW.out, HW5.out, HN6.out, HP8.out.then (Fp.set _ _ _ _ (.inl rfl))⟩

end Go.Proofs.Ytjebemcghikgpaa
