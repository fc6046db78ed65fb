/-
  Texts put together: DnA, DnB, DnC.
-/
import Derived.Test.YteopmaaghhendaaP01
import Derived.Test.YteopmaaghhendaaP02
import Derived.IntWalk
import Derived.Handy
import Derived.Deep.LoopGhost
import Derived.BigRegion
import Derived.RegionTactic
import Derived.Deep.RegionWith
import Derived.Deep.RegionLaw
import Derived.Deep.RegionHeld
import Derived.Deep.RegionHeldLaw
import Derived.Deep.Cut
import Derived.Deep.CutRange
import Derived.WalkArith

/-
  Small contracts: field.Size, the document's Size and size, strings.Clone, the tables' numbers.
-/
namespace Go.Proofs.Yteopmaaghhendaa
open Go.RowKit Go.Maps
set_option linter.unusedVariables false

set_option maxRecDepth 100000 in
set_option maxHeartbeats 1000000 in
theorem size_any (v : Value) (l : List Fd) (w : World) (hv : Fs w v l) (hm : sizeF l ≤ 9223372036854775807) :
    Calls Try.prog 86 #[v] w fun e w' => e = .returned (.int .i64 (sizeF l : Int)) ∧ Below w.heap.size w w' := by
  have HV := Bx.mk hv
  have hlen := fun ty W => hv.run_len ty W
  have hlm := hv.len
  unfold maxLen at hlm
  clear hv
  go_enter Try.func86, Try.ntmps86
  go_wp2
  go_loopg [3, 8] l.length (fun g s3 s8 wx => ∃ k : Nat, k + g = l.length ∧ s8 = .int .i64 k ∧ s3 = .int .i64 (sizeF (l.take k) : Int) ∧ Bx (Below w.heap.size w wx))
  case atStart => exact ⟨0, by omega, rfl, rfl, ⟨Below.refl _ _⟩⟩
  case round =>
    obtain ⟨k, hkg, rfl, rfl, HB⟩ := hrel
    cases gk with
    | zero =>
      obtain rfl : k = l.length := by omega
      go_wp2
      go_ret
      rw [List.take_length]
      exact ⟨rfl, HB.out⟩
    | succ g =>
      have hk : k < l.length := by omega
      have hkz : (k : Int) < (l.length : Int) := by omega
      obtain ⟨b, o, hix, hcs⟩ := HV.out.at_ k hk
      obtain ⟨hc1, hc2⟩ := hcs wr (HV.out.keep HB.out)
      have hst := sizeF_take_succ l k hk
      have hle : sizeF (l.take (k + 1)) ≤ 9223372036854775807 := by
        have := sizeF_append (l.take (k + 1)) (l.drop (k + 1))
        rw [List.take_append_drop] at this
        omega
      have HST := Bx.mk hst
      unfold fsz at hst
      obtain ⟨f1, hf1⟩ : ∃ f1, l[k].1 = f1 := ⟨_, rfl⟩
      obtain ⟨f2, hf2⟩ : ∃ f2, l[k].2 = f2 := ⟨_, rfl⟩
      rw [hf1] at hc1 hst
      rw [hf2] at hc2 hst
      clear hcs
      have hb1 : sizeF (l.take k) + (f1.size + f2.size + 32) ≤ 9223372036854775807 := by omega
      clear hst hle
      go_wp2
      go_roundg g
      case measure => omega
      case rel => exact ⟨k + 1, by omega, by go_num, by rw [HST.out]; unfold fsz; rw [hf1, hf2]; go_num, ⟨HB.out.alloc HB.out.size _⟩⟩

theorem clone_any (s : ByteArray) (w : World) (hs : s.size ≤ 1000000) :
    Calls Try.prog 100 #[.string s] w fun e w' => e = .returned (.string s) ∧ Below w.heap.size w w' := by
  go_enter Try.func100, Try.ntmps100
  go_wp2_with fail
  refine (stringslite_Clone s _ (by omega)).mono ?_
  rintro e w2 ⟨rfl, hb⟩
  go_wp2
  go_ret
  exact ⟨rfl, hb⟩

set_option maxRecDepth 100000 in
set_option maxHeartbeats 1000000 in
theorem oldest_any {w : World} {p : Nat} {v : Value} {bw bn sz cp ct na nb : Nat} {L : List Fd} {Dw Dn : DataW Unit} (h : Tr w p v bw bn sz cp ct na nb L Dw Dn) (hl : L.length ≤ ct) (ht : ct ≤ 1000000) :
    Calls Try.prog 101 #[.pointer (some ⟨p, 0, none⟩)] w fun e w' => e = .returned (.int .u64 ((ct - L.length : Nat) : Int)) ∧ Below w.heap.size w w' := by
  have hlen := fun ty W => h.st.fs.run_len ty W
  obtain ⟨c0, c1, c2, c3, c4, c5⟩ := h.cells
  have hw1 : IntKind.u64.wrap (L.length : Int) = (L.length : Int) := by simp [IntKind.wrap, IntKind.signed, IntKind.bits]; omega
  have hw2 : IntKind.u64.wrap ((ct : Int) - (L.length : Int)) = ((ct - L.length : Nat) : Int) := by simp [IntKind.wrap, IntKind.signed, IntKind.bits]; omega
  clear h c1 c2 c3 c4
  go_enter Try.func101, Try.ntmps101
  go_wp2
  go_region
  go_wp2
  go_ret
  exact ⟨rfl, (Below.refl _ _).drew⟩

end Go.Proofs.Yteopmaaghhendaa

/-
  Contract of the table's drop.
-/
namespace Go.Proofs.Yteopmaaghhendaa
open Go.RowKit Go.Maps
set_option linter.unusedVariables false

theorem Fb.set2 {t : TypeId} {w : World} {g : Nat} {f : Fd} (h : Fb t w g f) (a b : ByteArray) : Fb t ((w.setCell ⟨g, 0, none⟩ (.string a)).setCell ⟨g, 1, none⟩ (.string b)) g (a, b) := by
  unfold Fb at *
  simp [World.setCell, Array.getElem?_modify, h]
theorem Tr.away {w0 w : World} {p : Nat} {v : Value} {bw bn sz cp ct na nb : Nat} {L : List Fd} {Dw Dn : DataW Unit} (h0 : Tr w0 p v bw bn sz cp ct na nb L Dw Dn) (h : Tr w p v bw bn sz cp ct na nb L Dw Dn) (b : Nat) (hb : w0.heap.size ≤ b) (i : Nat) (x : Value) :
    Tr (w.setCell ⟨b, i, none⟩ x) p v bw bn sz cp ct na nb L Dw Dn := h.kept fun k _ hk => Go.Deep.blk_setCell_other _ _ _ _ (by
  have h1 := h0.row.lt
  have h2 := h0.mw.lt
  have h3 := h0.mn.lt
  rcases hk with rfl | rfl | rfl | hk
  · show k ≠ b; omega
  · show k ≠ b; omega
  · show k ≠ b; omega
  · have := h0.st.lt hk; show k ≠ b; omega)
theorem Fs.one (w : World) (g : Nat) (hg : w.heap.size = g) (f : Fd) : Fs (w.alloc (.cells #[.string f.1, .string f.2] 56)) (.slice (some ⟨g, 0, none⟩) 1 1) [f] := by
  subst hg
  exact (An.lit (k := 2) w 56 #[.string f.1, .string f.2] 1 rfl (by simp [maxLen])).rd
theorem slice_of_own {v : Value} {g : Nat} (h : v.ownBlock = some g) : ∃ A n c, v = .slice (some A) n c := by
  cases v with
  | slice A n c =>
    cases A with
    | none => simp [Value.ownBlock] at h
    | some a => exact ⟨a, n, c, rfl⟩
  | _ => simp [Value.ownBlock] at h
theorem St.shape {w : World} {v : Value} {L : List Fd} (h : St w v L) : ∃ A n c, v = .slice A n c := by
  rcases h with ⟨rfl, _⟩ | ⟨g, o, cap, m, F, rfl, _⟩
  · exact ⟨_, _, _, rfl⟩
  · exact ⟨_, _, _, rfl⟩
theorem below_set2 {B : Nat} {w w' : World} (h : Below B w w') (g : Nat) (hg : B ≤ g) (a b : Value) : Below B w ((w'.setCell ⟨g, 0, none⟩ a).setCell ⟨g, 1, none⟩ b) :=
  ⟨h.os, h.tape, h.output, by have := h.size; simp [World.setCell]; exact this, fun k hk => by
    rw [Go.Deep.blk_setCell_other _ _ _ _ (by show k ≠ g; omega), Go.Deep.blk_setCell_other _ _ _ _ (by show k ≠ g; omega)]; exact h.block k hk⟩

/-- The blocks of a table. -/
def Own (p bw bn : Nat) (v : Value) (k : Nat) : Prop := k = p ∨ k = bw ∨ k = bn ∨ v.ownBlock = some k

set_option maxRecDepth 100000 in
set_option maxHeartbeats 1000000 in
theorem drop_any {w : World} {p : Nat} {v : Value} {bw bn cp ct na nb b : Nat} {f : Fd} {L : List Fd} {Dw Dn : DataW Unit} (h : Tr w p v bw bn (sizeF (f :: L)) cp ct na nb (f :: L) Dw Dn)
    (hw : Mp kf Sized id b (f :: L) Dw) (hn : Mp ks Short Prod.fst b (f :: L) Dn) (hb : b + (L.length + 1) = ct) (ht : ct ≤ 1000000) (hs : sizeF (f :: L) ≤ 1000000) :
    Calls Try.prog 99 #[.pointer (some ⟨p, 0, none⟩)] w fun e w' => e = .returned (.tuple #[]) ∧ ∃ v' Dw' Dn', Tr w' p v' bw bn (sizeF L) cp ct na nb L Dw' Dn' ∧ v'.ownBlock = v.ownBlock ∧
      Mp kf Sized id (b + 1) L Dw' ∧ Mp ks Short Prod.fst (b + 1) L Dn' ∧ Fp (Own p bw bn v) w w' := by
  have HT := Bx.mk h
  have HW := Bx.mk hw
  have HN := Bx.mk hn
  obtain ⟨f1, f2⟩ := f
  obtain ⟨n1, hn1⟩ : ∃ n1, f1.size + f2.size + 32 = n1 := ⟨_, rfl⟩
  have HSZC : Bx (∀ W u, Fs W u [(f1, f2)] → Calls Try.prog 86 #[u] W fun e w' => e = .returned (.int .i64 (n1 : Int)) ∧ Below W.heap.size W w') := ⟨fun W u hu => hn1 ▸ size_any u [(f1, f2)] W hu (by simp only [sizeF, fsz] at *; omega)⟩
  have HN1 := Bx.mk hn1
  clear hn1
  have hsz : sizeF ((f1, f2) :: L) = f1.size + f2.size + 32 + sizeF L := rfl
  have HSF : Bx (Sized (f1, f2)) := ⟨by unfold Sized maxLen; simp only; omega⟩
  have HSS : Bx (Short f1) := ⟨HSF.out.1⟩
  obtain ⟨g, o, hvo, hix, hcs, hzero, v', hsl, htl, hvo'⟩ := h.st.head
  obtain ⟨av, nv, cv, rfl⟩ := slice_of_own hvo'
  obtain ⟨c0, c1, c2, c3, c4, c5⟩ := h.cells
  obtain ⟨s1, s2, s3, s4⟩ := hcs w h.st
  have hix0 := hix .i64
  have HCS := Bx.mk hcs
  have HZ := Bx.mk hzero
  have HSL := Bx.mk hsl
  have HTL := Bx.mk htl
  have HVO := Bx.mk hvo
  have HVO' := Bx.mk hvo'
  have HB := Bx.mk hb
  have HTT := Bx.mk ht
  have HSZ := Bx.mk hsz
  have HSS2 := Bx.mk hs
  clear h hw hn hix hcs hzero hsl htl hvo hvo' hb ht hsz hs
  have HOLD : Bx (∀ W, Tr W p v bw bn (sizeF ((f1, f2) :: L)) cp ct na nb ((f1, f2) :: L) Dw Dn → Calls Try.prog 101 #[.pointer (some ⟨p, 0, none⟩)] W fun e w' => e = .returned (.int .u64 (b : Int)) ∧ Below W.heap.size W w') := ⟨fun W hW => by
    have := oldest_any hW (by have := HB.out; simp only [List.length_cons]; omega) HTT.out
    rwa [show ct - ((f1, f2) :: L).length = b by have := HB.out; simp only [List.length_cons]; omega] at this⟩
  go_enter Try.func99, Try.ntmps99
  go_upto_region 0 with fail
  go_cut [2, 3] from 4 to 11 (fun s2 s3 wx => ∃ G : Nat, s2 = .int .u64 (b : Int) ∧ s3 = .pointer (some ⟨G, 0, none⟩) ∧ Bx (Tr wx p v bw bn (sizeF ((f1, f2) :: L)) cp ct na nb ((f1, f2) :: L) Dw Dn) ∧ Bx (Fb 56 wx G (f1, f2)) ∧ Bx (Below w.heap.size w wx) ∧ Bx (w.heap.size ≤ G))
  case first =>
    have hX0 : ∀ W, Tr W p v bw bn (sizeF ((f1, f2) :: L)) cp ct na nb ((f1, f2) :: L) Dw Dn → W.cell? ⟨p, 0, none⟩ = some v := fun W h => h.cells.1
    have hX1 : ∀ W, Tr W p v bw bn (sizeF ((f1, f2) :: L)) cp ct na nb ((f1, f2) :: L) Dw Dn → W.cell? ⟨g, o, none⟩ = some (.string f1) := fun W h => (HCS.out W h.st).1
    have hX2 : ∀ W, Tr W p v bw bn (sizeF ((f1, f2) :: L)) cp ct na nb ((f1, f2) :: L) Dw Dn → W.cell? ⟨g, o + 1, none⟩ = some (.string f2) := fun W h => (HCS.out W h.st).2.1
    have hS0 := HT.out.drew
    go_region_held (fun W => Tr W p v bw bn (sizeF ((f1, f2) :: L)) cp ct na nb ((f1, f2) :: L) Dw Dn) (first | assumption | exact (HT.out.alloc _).drew | exact Tr.alloc (by assumption) _ | exact HT.out.away (HT.out.away hT3 w.heap.size (Nat.le_refl _) 0 _) w.heap.size (Nat.le_refl _) 1 _) (first
      | (go_at_call 101; refine (HOLD.out _ ?_).mono ?_; (with_reducible exact hS0); rintro e w3 ⟨rfl, hb3⟩; have hT3 := hS0.keep hb3)
      | (go_at_call 101; refine (HOLD.out _ ?_).mono ?_; (with_reducible exact (HT.out.alloc _).drew); rintro e w3 ⟨rfl, hb3⟩; have hT3 := (HT.out.alloc _).drew.keep hb3; have HF3 := Bx.mk (((Fb.new 56 w emp).keep (Below.refl _ _).drew).keep hb3); obtain ⟨r1, r2⟩ := HF3.out.cells; obtain ⟨r3, r4⟩ := HF3.out.free))
    all_goals go_wp2_with fail
    all_goals go_meet
    · exact ⟨_, rfl, rfl, ⟨hT3.alloc _⟩, ⟨Fb.new _ _ (f1, f2)⟩, ⟨((Below.refl _ _).drew.trans hb3).alloc ((Below.refl _ _).drew.trans hb3).size _⟩, ⟨((Below.refl _ _).drew.trans hb3).size⟩⟩
    · have hbel : Below w.heap.size w w3 := (((Below.refl w.heap.size w).alloc (Nat.le_refl _) _).drew).trans (hb3.mono (by simp))
      exact ⟨_, rfl, rfl, ⟨by assumption⟩, ⟨HF3.out.set2 f1 f2⟩, ⟨below_set2 hbel _ (Nat.le_refl _) _ _⟩, ⟨Nat.le_refl _⟩⟩
  case rest =>
    obtain ⟨G, rfl, rfl, HT1, HF1, HB1, HG1⟩ := hcut
    have HP1 : Bx (Fp (Own p bw bn v) w wc) := ⟨Fp.of_below HB1.out⟩
    have HGN : Bx (G ≠ p ∧ G ≠ bw ∧ G ≠ bn ∧ v.ownBlock ≠ some G) := ⟨by
      have h1 := HT.out.row.lt
      have h2 := HT.out.mw.lt
      have h3 := HT.out.mn.lt
      have h4 := HG1.out
      exact ⟨by omega, by omega, by omega, fun e => by have := HT.out.st.lt e; omega⟩⟩
    clear c0 c1 c2 c3 c4 c5 s1 s2 s3 s4 HB1 HG1 HOLD
    obtain ⟨d0, d1, d2, d3, d4, d5⟩ := HT1.out.drew.cells
    obtain ⟨e1, e2⟩ := (HF1.out.keep (Below.refl _ _).drew).cells
    have hlk := lookW HT1.out.drew.mw HW.out HSF.out
    obtain ⟨x, hx⟩ : ∃ x, (nw (hasF (f1, f2)) b ((f1, f2) :: L)).getD 0 = x := ⟨_, rfl⟩
    rw [hx] at hlk
    have HX := Bx.mk hx
    clear hx
    by_cases hxb : x = b
    case' pos =>
      have hxb2 : b = x := hxb.symm
      subst hxb2
      go_wp2_with fail
      go_region
      go_wp2_with fail
      go_region_held_law (fun W => W.cell? ⟨p, 1, none⟩ = some (.map (some bw)) ∧ W.cell? ⟨G, 0, none⟩ = some (.string f1) ∧ W.cell? ⟨G, 1, none⟩ = some (.string f2)) (first | assumption | exact ⟨d1, e1, e2⟩) ((refine step_delete_own rfl rfl (.tmp 23) (.tmp 24) 66 56 rfl 27 fdLaw Try.underlying66 _ bw na Dw rfl HT1.out.drew.drew.mw _ _ rfl (keyOf_fd (f1, f2) HSF.out) ?_; intro w2 hown2 hturn2; have HT2 := Bx.mk (HT1.out.drew.drew.turnW hturn2.grown hown2); have HF2 := Bx.mk ((HF1.out.keep (below_drewN (Below.refl _ _) 2)).grown hturn2.grown (fun e => HGN.out.2.1 (Option.some.inj e))); have hS2 : w2.cell? ⟨p, 1, none⟩ = some (.map (some bw)) ∧ w2.cell? ⟨G, 0, none⟩ = some (.string f1) ∧ w2.cell? ⟨G, 1, none⟩ = some (.string f2) := ⟨HT2.out.cells.2.1, HF2.out.cells.1, HF2.out.cells.2⟩))
      go_wp2_with fail
      have HP2 : Bx (Fp (Own p bw bn v) w w2) := ⟨HP1.out.then ((Fp.of_below (below_drewN (Below.refl _ _) 2)).then (Fp.of_grown hturn2.grown (fun k e => .inr (.inl (Option.some.inj e).symm))))⟩
      have HW2 : Bx (Mp kf Sized id (b + 1) L (Dw.del (kf (f1, f2)))) := ⟨HW.out.last kf_inj HSF.out HX.out⟩
      generalize Dw.del (kf (f1, f2)) = Dw2 at HW2 HT2
      clear hown2 hturn2 hlk d0 d1 d2 d3 d4 d5 e1 e2 hS2 hxb
    case' neg =>
      have hxb' : ((x : Int) == (b : Int)) = false := by simp; omega
      go_wp2_with fail
      go_region
      go_wp2_with fail
      have HW2 := Bx.mk (HW.out.more (by rw [show (nw (fun g => decide (id g = id (f1, f2))) b ((f1, f2) :: L)).getD 0 = x from HX.out]; exact hxb))
      have HT2 := Bx.mk HT1.out.drew
      have HF2 := Bx.mk (HF1.out.keep (Below.refl _ _).drew)
      have HP2 : Bx (Fp (Own p bw bn v) w wc.drew) := ⟨HP1.out.then (Fp.of_below (Below.refl _ _).drew)⟩
      generalize wc.drew = w2 at *
      clear hlk d0 d1 d2 d3 d4 d5 e1 e2
      obtain ⟨Dw2, hDw2⟩ : ∃ Dw2, Dw = Dw2 := ⟨_, rfl⟩
      rw [hDw2] at HW2 HT2
      clear hxb hxb' hDw2
    all_goals
      obtain ⟨d0, d1, d2, d3, d4, d5⟩ := HT2.out.drew.cells
      obtain ⟨e1, e2⟩ := (HF2.out.keep (Below.refl _ _).drew).cells
      have hlk := lookN HT2.out.drew.mn HN.out HSS.out
      obtain ⟨y, hy⟩ : ∃ y, (nw (hasN f1) b ((f1, f2) :: L)).getD 0 = y := ⟨_, rfl⟩
      rw [hy] at hlk
      have HY := Bx.mk hy
      clear hy HX
      by_cases hyb : y = b
      case' pos =>
        have hyb2 : b = y := hyb.symm
        subst hyb2
        go_wp2_with fail
        go_region
        go_wp2_with fail
        go_region_held_law (fun W => W.cell? ⟨p, 2, none⟩ = some (.map (some bn)) ∧ W.cell? ⟨G, 0, none⟩ = some (.string f1)) (first | assumption | exact ⟨d2, e1⟩) ((refine step_delete_own rfl rfl (.tmp 37) (.tmp 39) 67 9 rfl 27 stLaw Try.underlying67 _ bn nb Dn rfl HT2.out.drew.drew.mn _ _ rfl (keyOf_st f1 HSS.out) ?_; intro w3 hown3 hturn3; have HT3 := Bx.mk (HT2.out.drew.drew.turnN hturn3.grown hown3); have HF3 := Bx.mk ((HF2.out.keep (below_drewN (Below.refl _ _) 2)).grown hturn3.grown (fun e => HGN.out.2.2.1 (Option.some.inj e))); have hS3 : w3.cell? ⟨p, 2, none⟩ = some (.map (some bn)) ∧ w3.cell? ⟨G, 0, none⟩ = some (.string f1) := ⟨HT3.out.cells.2.2.1, HF3.out.cells.1⟩))
        go_wp2_with fail
        have HP3 : Bx (Fp (Own p bw bn v) w w3) := ⟨HP2.out.then ((Fp.of_below (below_drewN (Below.refl _ _) 2)).then (Fp.of_grown hturn3.grown (fun k e => .inr (.inr (.inl (Option.some.inj e).symm)))))⟩
        have HN3 : Bx (Mp ks Short Prod.fst (b + 1) L (Dn.del (ks f1))) := ⟨HN.out.last ks_inj HSS.out HY.out⟩
        generalize Dn.del (ks f1) = Dn2 at HN3 HT3
        clear hown3 hturn3 hlk d0 d1 d2 d3 d4 d5 e1 e2 hS3 hyb
      case' neg =>
        have hyb' : ((y : Int) == (b : Int)) = false := by simp; omega
        go_wp2_with fail
        go_region
        go_wp2_with fail
        have HN3 := Bx.mk (HN.out.more (by rw [show (nw (fun g => decide (Prod.fst g = Prod.fst (f1, f2))) b ((f1, f2) :: L)).getD 0 = y from HY.out]; exact hyb))
        have HT3 := Bx.mk HT2.out.drew
        have HF3 := Bx.mk (HF2.out.keep (Below.refl _ _).drew)
        have HP3 : Bx (Fp (Own p bw bn v) w w2.drew) := ⟨HP2.out.then (Fp.of_below (Below.refl _ _).drew)⟩
        generalize w2.drew = w3 at *
        clear hlk d0 d1 d2 d3 d4 d5 e1 e2
        obtain ⟨Dn2, hDn2⟩ : ∃ Dn2, Dn = Dn2 := ⟨_, rfl⟩
        rw [hDn2] at HN3 HT3
        clear hyb hyb' hDn2
      all_goals
        have hw5 : IntKind.i64.wrap ((sizeF ((f1, f2) :: L) : Int) - (n1 : Int)) = (sizeF L : Int) := by
          have h1 := HSZ.out
          have h2 := HSS2.out
          have h3 := HN1.out
          rw [h1]
          simp [IntKind.wrap, IntKind.signed, IntKind.bits]; omega
        go_upto_region 5 with fail
        go_cut [3] from 40 to 49 (fun s3 wx => s3 = .pointer (some ⟨G, 0, none⟩) ∧ Bx (Tr wx p v bw bn (sizeF L) cp ct na nb ((f1, f2) :: L) Dw2 Dn2) ∧ Bx (Fp (Own p bw bn v) w wx))
        case first =>
          obtain ⟨d0, d1, d2, d3, d4, d5⟩ := HT3.out.drew.cells
          obtain ⟨e1, e2⟩ := (HF3.out.keep (Below.refl _ _).drew).cells
          have hd3 := (HT3.out.alloc (.cells #[.string f1, .string f2] 56)).drew.cells.2.2.2.1
          go_region_law (first
            | (go_simp; go_at_call 86; refine (HSZC.out _ _ (Fs.one w3.drew _ rfl (f1, f2))).mono ?_; rintro e w4 ⟨rfl, hb4⟩; have HT4 := Bx.mk ((HT3.out.drew.alloc _).keep hb4); obtain ⟨k0, k1, k2, k3, k4, k5⟩ := HT4.out.cells; have kf3 := HT4.out.free 3; have hB4 : Below w3.heap.size w3 w4 := (((Below.refl w3.heap.size w3).drew.alloc (Nat.le_refl _) _)).trans (hb4.mono (by simp))))
          all_goals go_wp2_with fail
          all_goals go_meet
          all_goals exact ⟨rfl, ⟨HT4.out.setSz (sizeF L)⟩, ⟨HP3.out.then ((Fp.of_below hB4).then (Fp.set _ _ _ _ (.inl rfl)))⟩⟩
        case rest =>
          clear HT1 HF1 HP1 HT2 HF2 HP2 HT3 HF3 HP3
          obtain ⟨rfl, HT5, HP5⟩ := hcut
          obtain ⟨d0, d1, d2, d3, d4, d5⟩ := HT5.out.cells
          obtain ⟨q1, q2, q3, q4⟩ := HCS.out _ HT5.out.st
          have hsl0 := HSL.out .i64
          have HT6 := Bx.mk (HT5.out.slice (by rw [HVO.out]; exact grown_trans (grown_set _ g o (.string ⟨#[]⟩)) (grown_set _ g (o + 1) (.string ⟨#[]⟩))) (HZ.out _ HT5.out.st))
          have HP6 := Bx.mk (HP5.out.then (Fp.of_grown (grown_trans (grown_set _ g o (.string ⟨#[]⟩)) (grown_set _ g (o + 1) (.string ⟨#[]⟩))) (fun k e => .inr (.inr (.inr (by rw [HVO.out]; exact e))))))
          obtain ⟨m0, m1, m2, m3, m4, m5⟩ := HT6.out.cells
          have mf0 := HT6.out.free 0
          go_wp2
          go_end0
          exact ⟨rfl, _, Dw2, Dn2, HT6.out.setV (HTL.out _ emp HT6.out.st) (fun k hk => HT6.out.nv k (by rw [HVO.out, ← HVO'.out]; exact hk)), by rw [HVO.out, HVO'.out], HW2.out, HN3.out, HP6.out.then (Fp.set _ _ _ _ (.inl rfl))⟩

end Go.Proofs.Yteopmaaghhendaa

/-
  Contract of the table's enter.
-/
namespace Go.Proofs.Yteopmaaghhendaa
open Go.RowKit Go.Maps
set_option linter.unusedVariables false

theorem Tr.cellGrew {w w' : World} {p : Nat} {v : Value} {bw bn sz cp ct na nb : Nat} {L : List Fd} {Dw Dn : DataW Unit} (h : Tr w p v bw bn sz cp ct na nb L Dw Dn) (hg : w.grownBy w' v.ownBlock) :
    w'.cell? ⟨p, 0, none⟩ = some v ∧ w'.frozen? ⟨p, 0, none⟩ = false := by
  have hr := h.row.of_block (hg.block p h.row.lt (fun e => (h.nv p e.symm).1 rfl))
  exact ⟨hr.cell (by omega), hr.frozen 0⟩

set_option maxRecDepth 100000 in
set_option maxHeartbeats 1000000 in
theorem enter_any {w : World} {p : Nat} {v : Value} {bw bn cp ct na nb b : Nat} {f : Fd} {L : List Fd} {Dw Dn : DataW Unit} (h : Tr w p v bw bn (sizeF L) cp ct na nb L Dw Dn)
    (hw : Mp kf Sized id b L Dw) (hn : Mp ks Short Prod.fst b L Dn) (hb : b + L.length = ct) (ht : ct ≤ 1000000) (hs : sizeF L + (fsz f + 32) ≤ 1000000) (hna : na ≤ 1000000) (hnb : nb ≤ 1000000) :
    Calls Try.prog 88 #[.pointer (some ⟨p, 0, none⟩), .agg #[.string f.1, .string f.2]] w fun e w' => e = .returned (.tuple #[]) ∧ ∃ v' Dw' Dn', Tr w' p v' bw bn (sizeF (L ++ [f])) cp (ct + 1) (na + 1) (nb + 1) (L ++ [f]) Dw' Dn' ∧
      (v'.ownBlock = v.ownBlock ∨ ∃ g, v'.ownBlock = some g ∧ w.heap.size ≤ g) ∧ Mp kf Sized id b (L ++ [f]) Dw' ∧ Mp ks Short Prod.fst b (L ++ [f]) Dn' ∧ Fp (Own p bw bn v) w w' := by
  obtain ⟨f1, f2⟩ := f
  have HT := Bx.mk h
  have HW := Bx.mk hw
  have HN := Bx.mk hn
  unfold fsz at hs
  simp only at hs
  have HSF : Bx (Sized (f1, f2)) := ⟨by unfold Sized maxLen; simp only; omega⟩
  have HSS : Bx (Short f1) := ⟨HSF.out.1⟩
  obtain ⟨n1, hn1⟩ : ∃ n1, f1.size + f2.size + 32 = n1 := ⟨_, rfl⟩
  have HSZC : Bx (∀ W u, Fs W u [(f1, f2)] → Calls Try.prog 86 #[u] W fun e w' => e = .returned (.int .i64 (n1 : Int)) ∧ Below W.heap.size W w') := ⟨fun W u hu => hn1 ▸ size_any u [(f1, f2)] W hu (by simp only [sizeF, fsz]; omega)⟩
  have hsz : sizeF (L ++ [(f1, f2)]) = sizeF L + n1 := by rw [sizeF_append, ← hn1]; simp [sizeF, fsz]
  have HL : Bx (L.length ≤ 1000000) := ⟨by omega⟩
  have HSS2 : Bx (sizeF L + n1 ≤ 1000000) := ⟨by omega⟩
  have HC1 : Bx (f1.size ≤ 1000000) := ⟨by omega⟩
  have HC2 : Bx (f2.size ≤ 1000000) := ⟨by omega⟩
  have HB := Bx.mk hb
  have HTT := Bx.mk ht
  have HNA := Bx.mk hna
  have HNB := Bx.mk hnb
  rw [hsz]
  have HSZ := Bx.mk hsz
  have HF0 := Bx.mk (Fb.new 56 w (f1, f2))
  clear h hw hn hb ht hs hsz hn1 hna hnb
  go_enter Try.func88, Try.ntmps88
  go_upto_region 1 with fail
  obtain ⟨e1, e2⟩ := HF0.out.cells
  go_cut [3] from 4 to 10 (fun s3 wx => s3 = .pointer (some ⟨w.heap.size, 0, none⟩) ∧ Bx (Fb 56 wx w.heap.size (f1, f2)) ∧ Bx (Below w.heap.size w wx))
  case first =>
    go_region_held (fun W => W.cell? ⟨w.heap.size, 0, none⟩ = some (.string f1) ∧ W.cell? ⟨w.heap.size, 1, none⟩ = some (.string f2)) (first | assumption | exact (HF0.out.keep (Below.refl _ _).drew).cells) (first
      | (go_at_call 100; refine (clone_any f1 _ HC1.out).mono ?_; rintro e w2 ⟨rfl, hb2⟩; have HF2 := Bx.mk ((HF0.out.keep (Below.refl _ _).drew).keep hb2); have hS2 := HF2.out.cells)
      | (go_at_call 100; refine (clone_any f2 _ HC2.out).mono ?_; rintro e w3 ⟨rfl, hb3⟩; have HF3 := Bx.mk (HF2.out.keep hb3); have hS3 := HF3.out.cells; have HF4 := Bx.mk (HF3.out.set2 f1 f2); have hS4 := HF4.out.cells; obtain ⟨kf1, kf2⟩ := HF3.out.free))
    all_goals go_wp2_with fail
    all_goals go_meet
    all_goals
      have hB2 : Below w.heap.size w w2 := (((Below.refl w.heap.size w).alloc (Nat.le_refl _) _).drew).trans (hb2.mono (by simp))
      have hB3 : Below w.heap.size w w3 := hB2.trans (hb3.mono hB2.size)
      exact ⟨rfl, HF4, ⟨below_set2 hB3 _ (Nat.le_refl _) _ _⟩⟩
  case rest =>
    obtain ⟨rfl, HF1, HB1⟩ := hcut
    have HT1 := Bx.mk (HT.out.keep HB1.out)
    have HP1 : Bx (Fp (Own p bw bn v) w wc) := ⟨Fp.of_below HB1.out⟩
    have HLT := Bx.mk HB1.out.size
    have HGN : Bx (w.heap.size ≠ p ∧ w.heap.size ≠ bw ∧ w.heap.size ≠ bn ∧ v.ownBlock ≠ some w.heap.size) := ⟨by
      have h1 := HT.out.row.lt
      have h2 := HT.out.mw.lt
      have h3 := HT.out.mn.lt
      exact ⟨by omega, by omega, by omega, fun e => by have := HT.out.st.lt e; omega⟩⟩
    clear HB1 HF0 e1 e2
    obtain ⟨G, hG⟩ : ∃ G, w.heap.size = G := ⟨_, rfl⟩
    rw [hG] at HF1 HGN HLT ⊢
    go_upto_region 2 with fail
    have HT2 := Bx.mk (HT1.out.drew.alloc (.cells #[.string f1, .string f2] 56))
    obtain ⟨v', w3, hrun, hst, hgr, hown, _⟩ := HT2.out.st.append (Fs.one wc.drew _ rfl (f1, f2)) HL.out 38
    obtain ⟨av, nv, cv, rfl⟩ := hst.shape
    obtain ⟨k0, kf0⟩ := HT2.out.cellGrew hgr
    go_cut [3] from 11 to 20 (fun s3 wx => s3 = .pointer (some ⟨G, 0, none⟩) ∧ wx = w3.setCell ⟨p, 0, none⟩ (.slice av nv cv))
    case first =>
      obtain ⟨d0, d1, d2, d3, d4, d5⟩ := HT1.out.drew.cells
      have hd0 : (wc.alloc (.cells #[.string f1, .string f2] 56)).drew.cell? ⟨p, 0, none⟩ = some v := HT2.out.cells.1
      obtain ⟨e1, e2⟩ := (HF1.out.keep (Below.refl _ _).drew).cells
      go_region_law (refine step_append_run rfl (.tmp 15) (.tmp 17) 38 rfl v _ rfl rfl hrun ?_)
      all_goals go_wp2_with fail
      all_goals go_meet
      all_goals exact ⟨rfl, rfl⟩
    case rest =>
      obtain ⟨rfl, rfl⟩ := hcut
      have HT4 := Bx.mk (HT2.out.grew hgr hst hown)
      have hB2 : Below wc.heap.size wc (wc.drew.alloc (.cells #[.string f1, .string f2] 56)) := (Below.refl wc.heap.size wc).drew.alloc (Nat.le_refl _) _
      have hfp : Fp (Own p bw bn v) (wc.drew.alloc (.cells #[.string f1, .string f2] 56)) w3 := Fp.of_grown hgr (fun k e => .inr (.inr (.inr e)))
      have HP4 : Bx (Fp (Own p bw bn v) w (w3.setCell ⟨p, 0, none⟩ (.slice av nv cv))) := ⟨HP1.out.then ((Fp.of_below hB2).then (hfp.then (Fp.set _ _ _ _ (.inl rfl))))⟩
      have HF4 : Bx (Fb 56 (w3.setCell ⟨p, 0, none⟩ (.slice av nv cv)) G (f1, f2)) := ⟨((HF1.out.keep hB2).grown hgr (fun e => HGN.out.2.2.2 e.symm)).grown (grown_set _ p 0 _) (fun e => HGN.out.1 (Option.some.inj e))⟩
      have HOW : Bx ((Value.slice av nv cv).ownBlock = v.ownBlock ∨ ∃ g, (Value.slice av nv cv).ownBlock = some g ∧ G ≤ g) := ⟨hown.imp id fun ⟨g, h1, h2⟩ => ⟨g, h1, Nat.le_trans HLT.out (Nat.le_trans (by simp) h2)⟩⟩
      generalize (w3.setCell ⟨p, 0, none⟩ (.slice av nv cv)) = w4 at *
      clear hrun hst hgr hown k0 kf0 hB2 hfp HT1 HF1 HP1 HT2
      obtain ⟨d0, d1, d2, d3, d4, d5⟩ := HT4.out.drew.cells
      obtain ⟨e1, e2⟩ := (HF4.out.keep (Below.refl _ _).drew).cells
      obtain ⟨w5, hrun5, ho5, hg5⟩ := HT4.out.drew.mw.update fdLaw Try.underlying66 (by have := HNA.out; unfold maxLen; omega) (keyOf_fd (f1, f2) HSF.out) (plainElem_int (H := Unit) (a := (ct : Int)) Try.underlying27 (WalkArith.wf_u64 (by have := HTT.out; omega)))
      go_wp2_with fail
      go_region
      go_wp2_with fail
      have HT5 := Bx.mk (HT4.out.drew.turnW hg5 ho5)
      have HF5 := Bx.mk ((HF4.out.keep (Below.refl _ _).drew).grown hg5 (fun e => HGN.out.2.1 (Option.some.inj e)))
      have HP5 : Bx (Fp (Own p bw bn v) w w5) := ⟨HP4.out.then ((Fp.of_below (Below.refl _ _).drew).then (Fp.of_grown hg5 (fun k e => .inr (.inl (Option.some.inj e).symm))))⟩
      have HW5 : Bx (Mp kf Sized id b (L ++ [(f1, f2)]) (Dw.put (kf (f1, f2)) (.lit (.int .u64 (ct : Int))))) := ⟨HW.out.put kf_inj kf_key HSF.out HB.out.symm⟩
      generalize Dw.put (kf (f1, f2)) (.lit (.int .u64 (ct : Int))) = Dw5 at HT5 HW5
      clear hrun5 ho5 hg5 d0 d1 d2 d3 d4 d5 e1 e2 HT4 HF4 HP4
      obtain ⟨d0, d1, d2, d3, d4, d5⟩ := HT5.out.drew.cells
      obtain ⟨e1, e2⟩ := (HF5.out.keep (Below.refl _ _).drew).cells
      obtain ⟨w6, hrun6, ho6, hg6⟩ := HT5.out.drew.mn.update stLaw Try.underlying67 (by have := HNB.out; unfold maxLen; omega) (keyOf_st f1 HSS.out) (plainElem_int (H := Unit) (a := (ct : Int)) Try.underlying27 (WalkArith.wf_u64 (by have := HTT.out; omega)))
      go_region
      go_wp2_with fail
      have HT6 := Bx.mk (HT5.out.drew.turnN hg6 ho6)
      have HF6 := Bx.mk ((HF5.out.keep (Below.refl _ _).drew).grown hg6 (fun e => HGN.out.2.2.1 (Option.some.inj e)))
      have HP6 : Bx (Fp (Own p bw bn v) w w6) := ⟨HP5.out.then ((Fp.of_below (Below.refl _ _).drew).then (Fp.of_grown hg6 (fun k e => .inr (.inr (.inl (Option.some.inj e).symm)))))⟩
      have HN6 : Bx (Mp ks Short Prod.fst b (L ++ [(f1, f2)]) (Dn.put (ks f1) (.lit (.int .u64 (ct : Int))))) := ⟨HN.out.put (f := (f1, f2)) ks_inj ks_key HSS.out HB.out.symm⟩
      generalize Dn.put (ks f1) (.lit (.int .u64 (ct : Int))) = Dn6 at HT6 HN6
      clear hrun6 ho6 hg6 d0 d1 d2 d3 d4 d5 e1 e2 HT5 HF5 HP5
      have hw5 : IntKind.i64.wrap ((sizeF L : Int) + (n1 : Int)) = ((sizeF L + n1 : Nat) : Int) := by
        have h2 := HSS2.out
        simp [IntKind.wrap, IntKind.signed, IntKind.bits]; omega
      go_upto_region 5 with fail
      go_cut [3] from 40 to 49 (fun s3 wx => s3 = .pointer (some ⟨G, 0, none⟩) ∧ Bx (Tr wx p (.slice av nv cv) bw bn (sizeF L + n1) cp ct (na + 1) (nb + 1) (L ++ [(f1, f2)]) Dw5 Dn6) ∧ Bx (Fp (Own p bw bn v) w wx))
      case first =>
        obtain ⟨d0, d1, d2, d3, d4, d5⟩ := HT6.out.drew.cells
        obtain ⟨e1, e2⟩ := (HF6.out.keep (Below.refl _ _).drew).cells
        have hd3 := (HT6.out.alloc (.cells #[.string f1, .string f2] 56)).drew.cells.2.2.2.1
        go_region_law (first
          | (go_simp; go_at_call 86; refine (HSZC.out _ _ (Fs.one w6.drew _ rfl (f1, f2))).mono ?_; rintro e w7 ⟨rfl, hb7⟩; have HT7 := Bx.mk ((HT6.out.drew.alloc _).keep hb7); obtain ⟨k0, k1, k2, k3, k4, k5⟩ := HT7.out.cells; have kf3 := HT7.out.free 3; have hB7 : Below w6.heap.size w6 w7 := (((Below.refl w6.heap.size w6).drew.alloc (Nat.le_refl _) _)).trans (hb7.mono (by simp))))
        all_goals go_wp2_with fail
        all_goals go_meet
        all_goals exact ⟨rfl, ⟨HT7.out.setSz (sizeF L + n1)⟩, ⟨HP6.out.then ((Fp.of_below hB7).then (Fp.set _ _ _ _ (.inl rfl)))⟩⟩
      case rest =>
        obtain ⟨rfl, HT8, HP8⟩ := hcut
        obtain ⟨d0, d1, d2, d3, d4, d5⟩ := HT8.out.cells
        have kf5 := HT8.out.free 5
        have hw6 : IntKind.u64.wrap ((ct : Int) + 1) = ((ct + 1 : Nat) : Int) := by
          have := HTT.out
          simp [IntKind.wrap, IntKind.signed, IntKind.bits]; omega
        go_wp2
        go_end0
        exact ⟨rfl, _, Dw5, Dn6, HT8.out.setCt (ct + 1), by rw [hG]; exact HOW.out, HW5.out, HN6.out, HP8.out.then (Fp.set _ _ _ _ (.inl rfl))⟩

end Go.Proofs.Yteopmaaghhendaa
