/-
  Texts put together: DnB, QtC.
-/
import Derived.Test.YtebakjdeighdnaaGreatM06
import Derived.Deep.RegionWith
import Derived.Deep.RegionLaw
import Derived.Deep.RegionHeld
import Derived.Deep.RegionHeldLaw
import Derived.Deep.Cut
import Derived.Deep.CutRange
import Derived.Test.YtebakjdeighdnaaGreatM01

/-
  Contract of the table's drop.
-/
namespace Go.Proofs.YtebakjdeighdnaaGreat
open Go.RowKit Go.Maps
set_option linter.unusedVariables false

theorem Fb.set2 {t : TypeId} {w : World} {g : Nat} {f : Fd} (h : Fb t w g f) (a b : ByteArray) : Fb t ((w.setCell ⟨g, 0, none⟩ (.string a)).setCell ⟨g, 1, none⟩ (.string b)) g (a, b) := by
  unfold Fb at *
  simp [World.setCell, Array.getElem?_modify, h]
theorem Tr.away {w0 w : World} {p : Nat} {v : Value} {bw bn sz cp ct na nb : Nat} {L : List Fd} {Dw Dn : DataW Unit} (h0 : Tr w0 p v bw bn sz cp ct na nb L Dw Dn) (h : Tr w p v bw bn sz cp ct na nb L Dw Dn) (b : Nat) (hb : w0.heap.size ≤ b) (i : Nat) (x : Value) :
    Tr (w.setCell ⟨b, i, none⟩ x) p v bw bn sz cp ct na nb L Dw Dn := h.kept fun k _ hk => Go.Deep.blk_setCell_other _ _ _ _ (by
  have h1 := h0.row.lt
  have h2 := h0.mw.lt
  have h3 := h0.mn.lt
  rcases hk with rfl | rfl | rfl | hk
  · show k ≠ b; omega
  · show k ≠ b; omega
  · show k ≠ b; omega
  · have := h0.st.lt hk; show k ≠ b; omega)
theorem Fs.one (w : World) (g : Nat) (hg : w.heap.size = g) (f : Fd) : Fs (w.alloc (.cells #[.string f.1, .string f.2] 53)) (.slice (some ⟨g, 0, none⟩) 1 1) [f] := by
  subst hg
  exact (An.lit (k := 2) w 53 #[.string f.1, .string f.2] 1 rfl (by simp [maxLen])).rd
theorem slice_of_own {v : Value} {g : Nat} (h : v.ownBlock = some g) : ∃ A n c, v = .slice (some A) n c := by
  cases v with
  | slice A n c =>
    cases A with
    | none => simp [Value.ownBlock] at h
    | some a => exact ⟨a, n, c, rfl⟩
  | _ => simp [Value.ownBlock] at h
theorem St.shape {w : World} {v : Value} {L : List Fd} (h : St w v L) : ∃ A n c, v = .slice A n c := by
  rcases h with ⟨rfl, _⟩ | ⟨g, o, cap, m, F, rfl, _⟩
  · exact ⟨_, _, _, rfl⟩
  · exact ⟨_, _, _, rfl⟩
theorem below_set2 {B : Nat} {w w' : World} (h : Below B w w') (g : Nat) (hg : B ≤ g) (a b : Value) : Below B w ((w'.setCell ⟨g, 0, none⟩ a).setCell ⟨g, 1, none⟩ b) :=
  ⟨h.os, h.tape, h.output, by have := h.size; simp [World.setCell]; exact this, fun k hk => by
    rw [Go.Deep.blk_setCell_other _ _ _ _ (by show k ≠ g; omega), Go.Deep.blk_setCell_other _ _ _ _ (by show k ≠ g; omega)]; exact h.block k hk⟩

/-- The blocks of a table. -/
def Own (p bw bn : Nat) (v : Value) (k : Nat) : Prop := k = p ∨ k = bw ∨ k = bn ∨ v.ownBlock = some k

set_option maxRecDepth 100000 in
set_option maxHeartbeats 1000000 in
theorem drop_any {w : World} {p : Nat} {v : Value} {bw bn cp ct na nb b : Nat} {f : Fd} {L : List Fd} {Dw Dn : DataW Unit} (h : Tr w p v bw bn (sizeF (f :: L)) cp ct na nb (f :: L) Dw Dn)
    (hw : Mp kf Sized id b (f :: L) Dw) (hn : Mp ks Short Prod.fst b (f :: L) Dn) (hb : b + (L.length + 1) = ct) (ht : ct ≤ 1000000) (hs : sizeF (f :: L) ≤ 1000000) :
    Calls Tryz.prog 110 #[.pointer (some ⟨p, 0, none⟩)] w fun e w' => e = .returned (.tuple #[]) ∧ ∃ v' Dw' Dn', Tr w' p v' bw bn (sizeF L) cp ct na nb L Dw' Dn' ∧ v'.ownBlock = v.ownBlock ∧
      Mp kf Sized id (b + 1) L Dw' ∧ Mp ks Short Prod.fst (b + 1) L Dn' ∧ Fp (Own p bw bn v) w w' := by
  have HT := Bx.mk h
  have HW := Bx.mk hw
  have HN := Bx.mk hn
  obtain ⟨f1, f2⟩ := f
  obtain ⟨n1, hn1⟩ : ∃ n1, f1.size + f2.size + 32 = n1 := ⟨_, rfl⟩
  have HSZC : Bx (∀ W u, Fs W u [(f1, f2)] → Calls Tryz.prog 86 #[u] W fun e w' => e = .returned (.int .i64 (n1 : Int)) ∧ Below W.heap.size W w') := ⟨fun W u hu => hn1 ▸ size_any u [(f1, f2)] W hu (by simp only [sizeF, fsz] at *; omega)⟩
  have HN1 := Bx.mk hn1
  clear hn1
  have hsz : sizeF ((f1, f2) :: L) = f1.size + f2.size + 32 + sizeF L := rfl
  have HSF : Bx (Sized (f1, f2)) := ⟨by unfold Sized maxLen; simp only; omega⟩
  have HSS : Bx (Short f1) := ⟨HSF.out.1⟩
  obtain ⟨g, o, hvo, hix, hcs, hzero, v', hsl, htl, hvo'⟩ := h.st.head
  obtain ⟨av, nv, cv, rfl⟩ := slice_of_own hvo'
  obtain ⟨c0, c1, c2, c3, c4, c5⟩ := h.cells
  obtain ⟨s1, s2, s3, s4⟩ := hcs w h.st
  have hix0 := hix .i64
  have HCS := Bx.mk hcs
  have HZ := Bx.mk hzero
  have HSL := Bx.mk hsl
  have HTL := Bx.mk htl
  have HVO := Bx.mk hvo
  have HVO' := Bx.mk hvo'
  have HB := Bx.mk hb
  have HTT := Bx.mk ht
  have HSZ := Bx.mk hsz
  have HSS2 := Bx.mk hs
  clear h hw hn hix hcs hzero hsl htl hvo hvo' hb ht hsz hs
  have HOLD : Bx (∀ W, Tr W p v bw bn (sizeF ((f1, f2) :: L)) cp ct na nb ((f1, f2) :: L) Dw Dn → Calls Tryz.prog 123 #[.pointer (some ⟨p, 0, none⟩)] W fun e w' => e = .returned (.int .u64 (b : Int)) ∧ Below W.heap.size W w') := ⟨fun W hW => by
    have := oldest_any hW (by have := HB.out; simp only [List.length_cons]; omega) HTT.out
    rwa [show ct - ((f1, f2) :: L).length = b by have := HB.out; simp only [List.length_cons]; omega] at this⟩
  go_enter Tryz.func110, Tryz.ntmps110
  go_upto_region 0 with fail
  go_cut [2, 3] from 4 to 11 (fun s2 s3 wx => ∃ G : Nat, s2 = .int .u64 (b : Int) ∧ s3 = .pointer (some ⟨G, 0, none⟩) ∧ Bx (Tr wx p v bw bn (sizeF ((f1, f2) :: L)) cp ct na nb ((f1, f2) :: L) Dw Dn) ∧ Bx (Fb 53 wx G (f1, f2)) ∧ Bx (Below w.heap.size w wx) ∧ Bx (w.heap.size ≤ G))
  case first =>
    have hX0 : ∀ W, Tr W p v bw bn (sizeF ((f1, f2) :: L)) cp ct na nb ((f1, f2) :: L) Dw Dn → W.cell? ⟨p, 0, none⟩ = some v := fun W h => h.cells.1
    have hX1 : ∀ W, Tr W p v bw bn (sizeF ((f1, f2) :: L)) cp ct na nb ((f1, f2) :: L) Dw Dn → W.cell? ⟨g, o, none⟩ = some (.string f1) := fun W h => (HCS.out W h.st).1
    have hX2 : ∀ W, Tr W p v bw bn (sizeF ((f1, f2) :: L)) cp ct na nb ((f1, f2) :: L) Dw Dn → W.cell? ⟨g, o + 1, none⟩ = some (.string f2) := fun W h => (HCS.out W h.st).2.1
    have hS0 := HT.out.drew
    go_region_held (fun W => Tr W p v bw bn (sizeF ((f1, f2) :: L)) cp ct na nb ((f1, f2) :: L) Dw Dn) (first | assumption | exact (HT.out.alloc _).drew | exact Tr.alloc (by assumption) _ | exact HT.out.away (HT.out.away hT3 w.heap.size (Nat.le_refl _) 0 _) w.heap.size (Nat.le_refl _) 1 _) (first
      | (go_at_call 123; refine (HOLD.out _ ?_).mono ?_; (with_reducible exact hS0); rintro e w3 ⟨rfl, hb3⟩; have hT3 := hS0.keep hb3)
      | (go_at_call 123; refine (HOLD.out _ ?_).mono ?_; (with_reducible exact (HT.out.alloc _).drew); rintro e w3 ⟨rfl, hb3⟩; have hT3 := (HT.out.alloc _).drew.keep hb3; have HF3 := Bx.mk (((Fb.new 53 w emp).keep (Below.refl _ _).drew).keep hb3); obtain ⟨r1, r2⟩ := HF3.out.cells; obtain ⟨r3, r4⟩ := HF3.out.free))
    all_goals go_wp2_with fail
    all_goals go_meet
    · exact ⟨_, rfl, rfl, ⟨hT3.alloc _⟩, ⟨Fb.new _ _ (f1, f2)⟩, ⟨((Below.refl _ _).drew.trans hb3).alloc ((Below.refl _ _).drew.trans hb3).size _⟩, ⟨((Below.refl _ _).drew.trans hb3).size⟩⟩
    · have hbel : Below w.heap.size w w3 := (((Below.refl w.heap.size w).alloc (Nat.le_refl _) _).drew).trans (hb3.mono (by simp))
      exact ⟨_, rfl, rfl, ⟨by assumption⟩, ⟨HF3.out.set2 f1 f2⟩, ⟨below_set2 hbel _ (Nat.le_refl _) _ _⟩, ⟨Nat.le_refl _⟩⟩
  case rest =>
    obtain ⟨G, rfl, rfl, HT1, HF1, HB1, HG1⟩ := hcut
    have HP1 : Bx (Fp (Own p bw bn v) w wc) := ⟨Fp.of_below HB1.out⟩
    have HGN : Bx (G ≠ p ∧ G ≠ bw ∧ G ≠ bn ∧ v.ownBlock ≠ some G) := ⟨by
      have h1 := HT.out.row.lt
      have h2 := HT.out.mw.lt
      have h3 := HT.out.mn.lt
      have h4 := HG1.out
      exact ⟨by omega, by omega, by omega, fun e => by have := HT.out.st.lt e; omega⟩⟩
    clear c0 c1 c2 c3 c4 c5 s1 s2 s3 s4 HB1 HG1 HOLD
    obtain ⟨d0, d1, d2, d3, d4, d5⟩ := HT1.out.drew.cells
    obtain ⟨e1, e2⟩ := (HF1.out.keep (Below.refl _ _).drew).cells
    have hlk := lookW HT1.out.drew.mw HW.out HSF.out
    obtain ⟨x, hx⟩ : ∃ x, (nw (hasF (f1, f2)) b ((f1, f2) :: L)).getD 0 = x := ⟨_, rfl⟩
    rw [hx] at hlk
    have HX := Bx.mk hx
    clear hx
    by_cases hxb : x = b
    case' pos =>
      have hxb2 : b = x := hxb.symm
      subst hxb2
      go_wp2_with fail
      go_region
      go_wp2_with fail
      go_region_held_law (fun W => W.cell? ⟨p, 1, none⟩ = some (.map (some bw)) ∧ W.cell? ⟨G, 0, none⟩ = some (.string f1) ∧ W.cell? ⟨G, 1, none⟩ = some (.string f2)) (first | assumption | exact ⟨d1, e1, e2⟩) ((refine step_delete_own rfl rfl (.tmp 23) (.tmp 24) 107 53 rfl 32 fdLaw Tryz.underlying107 _ bw na Dw rfl HT1.out.drew.drew.mw _ _ rfl (keyOf_fd (f1, f2) HSF.out) ?_; intro w2 hown2 hturn2; have HT2 := Bx.mk (HT1.out.drew.drew.turnW hturn2.grown hown2); have HF2 := Bx.mk ((HF1.out.keep (below_drewN (Below.refl _ _) 2)).grown hturn2.grown (fun e => HGN.out.2.1 (Option.some.inj e))); have hS2 : w2.cell? ⟨p, 1, none⟩ = some (.map (some bw)) ∧ w2.cell? ⟨G, 0, none⟩ = some (.string f1) ∧ w2.cell? ⟨G, 1, none⟩ = some (.string f2) := ⟨HT2.out.cells.2.1, HF2.out.cells.1, HF2.out.cells.2⟩))
      go_wp2_with fail
      have HP2 : Bx (Fp (Own p bw bn v) w w2) := ⟨HP1.out.then ((Fp.of_below (below_drewN (Below.refl _ _) 2)).then (Fp.of_grown hturn2.grown (fun k e => .inr (.inl (Option.some.inj e).symm))))⟩
      have HW2 : Bx (Mp kf Sized id (b + 1) L (Dw.del (kf (f1, f2)))) := ⟨HW.out.last kf_inj HSF.out HX.out⟩
      generalize Dw.del (kf (f1, f2)) = Dw2 at HW2 HT2
      clear hown2 hturn2 hlk d0 d1 d2 d3 d4 d5 e1 e2 hS2 hxb
    case' neg =>
      have hxb' : ((x : Int) == (b : Int)) = false := by simp; omega
      go_wp2_with fail
      go_region
      go_wp2_with fail
      have HW2 := Bx.mk (HW.out.more (by rw [show (nw (fun g => decide (id g = id (f1, f2))) b ((f1, f2) :: L)).getD 0 = x from HX.out]; exact hxb))
      have HT2 := Bx.mk HT1.out.drew
      have HF2 := Bx.mk (HF1.out.keep (Below.refl _ _).drew)
      have HP2 : Bx (Fp (Own p bw bn v) w wc.drew) := ⟨HP1.out.then (Fp.of_below (Below.refl _ _).drew)⟩
      generalize wc.drew = w2 at *
      clear hlk d0 d1 d2 d3 d4 d5 e1 e2
      obtain ⟨Dw2, hDw2⟩ : ∃ Dw2, Dw = Dw2 := ⟨_, rfl⟩
      rw [hDw2] at HW2 HT2
      clear hxb hxb' hDw2
    all_goals
      obtain ⟨d0, d1, d2, d3, d4, d5⟩ := HT2.out.drew.cells
      obtain ⟨e1, e2⟩ := (HF2.out.keep (Below.refl _ _).drew).cells
      have hlk := lookN HT2.out.drew.mn HN.out HSS.out
      obtain ⟨y, hy⟩ : ∃ y, (nw (hasN f1) b ((f1, f2) :: L)).getD 0 = y := ⟨_, rfl⟩
      rw [hy] at hlk
      have HY := Bx.mk hy
      clear hy HX
      by_cases hyb : y = b
      case' pos =>
        have hyb2 : b = y := hyb.symm
        subst hyb2
        go_wp2_with fail
        go_region
        go_wp2_with fail
        go_region_held_law (fun W => W.cell? ⟨p, 2, none⟩ = some (.map (some bn)) ∧ W.cell? ⟨G, 0, none⟩ = some (.string f1)) (first | assumption | exact ⟨d2, e1⟩) ((refine step_delete_own rfl rfl (.tmp 37) (.tmp 39) 108 9 rfl 32 stLaw Tryz.underlying108 _ bn nb Dn rfl HT2.out.drew.drew.mn _ _ rfl (keyOf_st f1 HSS.out) ?_; intro w3 hown3 hturn3; have HT3 := Bx.mk (HT2.out.drew.drew.turnN hturn3.grown hown3); have HF3 := Bx.mk ((HF2.out.keep (below_drewN (Below.refl _ _) 2)).grown hturn3.grown (fun e => HGN.out.2.2.1 (Option.some.inj e))); have hS3 : w3.cell? ⟨p, 2, none⟩ = some (.map (some bn)) ∧ w3.cell? ⟨G, 0, none⟩ = some (.string f1) := ⟨HT3.out.cells.2.2.1, HF3.out.cells.1⟩))
        go_wp2_with fail
        have HP3 : Bx (Fp (Own p bw bn v) w w3) := ⟨HP2.out.then ((Fp.of_below (below_drewN (Below.refl _ _) 2)).then (Fp.of_grown hturn3.grown (fun k e => .inr (.inr (.inl (Option.some.inj e).symm)))))⟩
        have HN3 : Bx (Mp ks Short Prod.fst (b + 1) L (Dn.del (ks f1))) := ⟨HN.out.last ks_inj HSS.out HY.out⟩
        generalize Dn.del (ks f1) = Dn2 at HN3 HT3
        clear hown3 hturn3 hlk d0 d1 d2 d3 d4 d5 e1 e2 hS3 hyb
      case' neg =>
        have hyb' : ((y : Int) == (b : Int)) = false := by simp; omega
        go_wp2_with fail
        go_region
        go_wp2_with fail
        have HN3 := Bx.mk (HN.out.more (by rw [show (nw (fun g => decide (Prod.fst g = Prod.fst (f1, f2))) b ((f1, f2) :: L)).getD 0 = y from HY.out]; exact hyb))
        have HT3 := Bx.mk HT2.out.drew
        have HF3 := Bx.mk (HF2.out.keep (Below.refl _ _).drew)
        have HP3 : Bx (Fp (Own p bw bn v) w w2.drew) := ⟨HP2.out.then (Fp.of_below (Below.refl _ _).drew)⟩
        generalize w2.drew = w3 at *
        clear hlk d0 d1 d2 d3 d4 d5 e1 e2
        obtain ⟨Dn2, hDn2⟩ : ∃ Dn2, Dn = Dn2 := ⟨_, rfl⟩
        rw [hDn2] at HN3 HT3
        clear hyb hyb' hDn2
      all_goals
        have hw5 : IntKind.i64.wrap ((sizeF ((f1, f2) :: L) : Int) - (n1 : Int)) = (sizeF L : Int) := by
          have h1 := HSZ.out
          have h2 := HSS2.out
          have h3 := HN1.out
          rw [h1]
          simp [IntKind.wrap, IntKind.signed, IntKind.bits]; omega
        go_upto_region 5 with fail
        go_cut [3] from 40 to 49 (fun s3 wx => s3 = .pointer (some ⟨G, 0, none⟩) ∧ Bx (Tr wx p v bw bn (sizeF L) cp ct na nb ((f1, f2) :: L) Dw2 Dn2) ∧ Bx (Fp (Own p bw bn v) w wx))
        case first =>
          obtain ⟨d0, d1, d2, d3, d4, d5⟩ := HT3.out.drew.cells
          obtain ⟨e1, e2⟩ := (HF3.out.keep (Below.refl _ _).drew).cells
          have hd3 := (HT3.out.alloc (.cells #[.string f1, .string f2] 53)).drew.cells.2.2.2.1
          go_region_law (first
            | (go_simp; go_at_call 86; refine (HSZC.out _ _ (Fs.one w3.drew _ rfl (f1, f2))).mono ?_; rintro e w4 ⟨rfl, hb4⟩; have HT4 := Bx.mk ((HT3.out.drew.alloc _).keep hb4); obtain ⟨k0, k1, k2, k3, k4, k5⟩ := HT4.out.cells; have kf3 := HT4.out.free 3; have hB4 : Below w3.heap.size w3 w4 := (((Below.refl w3.heap.size w3).drew.alloc (Nat.le_refl _) _)).trans (hb4.mono (by simp))))
          all_goals go_wp2_with fail
          all_goals go_meet
          all_goals exact ⟨rfl, ⟨HT4.out.setSz (sizeF L)⟩, ⟨HP3.out.then ((Fp.of_below hB4).then (Fp.set _ _ _ _ (.inl rfl)))⟩⟩
        case rest =>
          clear HT1 HF1 HP1 HT2 HF2 HP2 HT3 HF3 HP3
          obtain ⟨rfl, HT5, HP5⟩ := hcut
          obtain ⟨d0, d1, d2, d3, d4, d5⟩ := HT5.out.cells
          obtain ⟨q1, q2, q3, q4⟩ := HCS.out _ HT5.out.st
          have hsl0 := HSL.out .i64
          have HT6 := Bx.mk (HT5.out.slice (by rw [HVO.out]; exact grown_trans (grown_set _ g o (.string ⟨#[]⟩)) (grown_set _ g (o + 1) (.string ⟨#[]⟩))) (HZ.out _ HT5.out.st))
          have HP6 := Bx.mk (HP5.out.then (Fp.of_grown (grown_trans (grown_set _ g o (.string ⟨#[]⟩)) (grown_set _ g (o + 1) (.string ⟨#[]⟩))) (fun k e => .inr (.inr (.inr (by rw [HVO.out]; exact e))))))
          obtain ⟨m0, m1, m2, m3, m4, m5⟩ := HT6.out.cells
          have mf0 := HT6.out.free 0
          go_wp2
          go_end0
          exact ⟨rfl, _, Dw2, Dn2, HT6.out.setV (HTL.out _ emp HT6.out.st) (fun k hk => HT6.out.nv k (by rw [HVO.out, ← HVO'.out]; exact hk)), by rw [HVO.out, HVO'.out], HW2.out, HN3.out, HP6.out.then (Fp.set _ _ _ _ (.inl rfl))⟩

end Go.Proofs.YtebakjdeighdnaaGreat

/-
  Contracts of qtab.DecodeCount and of the document's DecodeCount.
-/
namespace Go.Proofs.YtebakjdeighdnaaGreat
open Go.RowKit
set_option linter.unusedVariables false

theorem dc_zero (t m : Nat) : dcN 0 t m = some 0 := by unfold dcN; rw [if_pos rfl]
theorem dc_out {e m : Nat} (t : Nat) (h : 2 * m < e) : dcN e t m = none := dcN_far h
/-- A count, or the error of a place. -/
def Dec : Option Nat → Ending
  | some n => .returned (.tuple #[.int .u64 (n : Int), .int .i64 0])
  | none => .returned (.tuple #[.int .u64 0, .int .i64 24])
theorem Dec_some (n : Nat) : Dec (some n) = .returned (.tuple #[.int .u64 (n : Int), .int .i64 0]) := rfl
theorem Dec_none : Dec none = .returned (.tuple #[.int .u64 0, .int .i64 24]) := rfl

end Go.Proofs.YtebakjdeighdnaaGreat
