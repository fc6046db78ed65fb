/-
  Texts put together: QqP, QqQ, QqR, Ff, Up, FdQ, FdL2, DnOpenF, FfO.
-/
import Derived.Test.YtebakjdeighdnaaM18
import Derived.Test.YtebakjdeighdnaaM08
import Derived.Test.YtebakjdeighdnaaM12
import Derived.Test.YtebakjdeighdnaaM04
import Derived.Test.YtebakjdeighdnaaM06
import Derived.BigRegion
import Derived.IntWalk
import Derived.RegionTactic
import Derived.Deep.Slices
import Derived.SizedLaws

/-
  Contract of New.
-/
namespace Go.Proofs.Ytebakjdeighdnaa
open Go.RowKit Go.Maps
set_option linter.unusedVariables false

set_option maxRecDepth 100000 in
set_option maxHeartbeats 4000000 in
theorem pqnew_any (n b : Int) (hb : -9223372036854775808 ≤ b ∧ b < 9223372036854775808) (w : World) :
    Calls Try.prog 5 #[.int .i64 n, .int .i64 b] w fun r w' => ∃ q p S, r = .returned (.pointer (some ⟨q, 0, none⟩)) ∧ Pq q p 0 (Qe.new (clampN n) b.toNat) w' S ∧ (∀ k, S k → w.heap.size ≤ k) ∧ Below w.heap.size w w' := by
  have h58 : ∀ (W : World), (Instr.makeMap 42 none).run Try.prog W = .ok (.map (some W.heap.size)) (W.alloc (.map #[] 0)) := fun W => by
    simp [Instr.makeMap, Result.andThen]
  have h59 : ∀ (W : World), (Instr.makeMap 43 none).run Try.prog W = .ok (.map (some W.heap.size)) (W.alloc (.map #[] 0)) := fun W => by
    simp [Instr.makeMap, Result.andThen]
  have h60 : ∀ (W : World), (Instr.makeMap 44 none).run Try.prog W = .ok (.map (some W.heap.size)) (W.alloc (.map #[] 0)) := fun W => by
    simp [Instr.makeMap, Result.andThen]
  have h61 : ∀ (W : World), (Instr.makeMap 45 none).run Try.prog W = .ok (.map (some W.heap.size)) (W.alloc (.map #[] 0)) := fun W => by
    simp [Instr.makeMap, Result.andThen]
  have hle := clampN_le n
  have hcl := clampN_eq n
  have HN := Bx.mk (fun W => new_any (clampN n : Int) W (by omega))
  have HMX : Bx (max b 0 = ((b.toNat : Nat) : Int)) := ⟨by omega⟩
  generalize clampN n = c at HN hle hcl ⊢
  have HT : Bx (Tab.new (c : Int) = ⟨[], c, 0⟩) := ⟨by unfold Tab.new; simp⟩
  simp only [HT.out] at HN
  clear hb hle
  go_enter Try.func5, Try.ntmps5
  go_wp2_with (go_at_call 12; refine (HN.out _).mono ?_; rintro e w1 ⟨t, S, rfl, hrt, hS, hb⟩; have HRT := Bx.mk hrt; have HS := Bx.mk hS; have HB := Bx.mk hb; clear hrt hS hb)
  go_ret
  rw [HMX.out]
  have hsz := HB.out.size
  refine ⟨w1.heap.size + 4, t, _, rfl, Pq.made HRT.out, ?_, ?_⟩
  · rintro k (hk | hk | hk | hk | hk | hk | hk)
    · exact HS.out k hk
    · exact hk.elim
    all_goals omega
  · exact HB.out.trans ((((((Below.refl w1.heap.size w1).alloc (Nat.le_refl _) _).alloc (by simp; try omega) _).alloc (by simp; try omega) _).alloc (by simp; try omega) _).alloc (by simp; try omega) _ |>.mono hsz)
end Go.Proofs.Ytebakjdeighdnaa

/-
  bifoldlaw9.known answers true.
-/
namespace Go.Proofs.Ytebakjdeighdnaa
open Go.RowKit Go.Maps
set_option linter.unusedVariables false

def kF1 : Fd := (⟨#[58, 109, 101, 116, 104, 111, 100]⟩, ⟨#[71, 69, 84]⟩)
def kF2 : Fd := (⟨#[120]⟩, ⟨#[121]⟩)
def kE0 : Qe := Qe.new 400 1
def kE1 : Qe := kE0.enc 0 [kF1]
def kE2 : Qe := kE1.enc 4 [kF2]
theorem kn_ins1 : (kE0.acc 0 [kF1]).ins = [63, 241, 2] := by decide +kernel
theorem kn_sec1 : kE0.sec 0 [kF1] = [0, 0, 209] := by decide +kernel
theorem kn_sec2 : kE1.sec 4 [kF2] = [2, 0, 128] := by decide +kernel
theorem kn_len2 : (kE1.acc 4 [kF2]).ins.length = 4 := by decide +kernel
theorem kn_feed : (kE2.feed [132]).2 = 0 ∧ (kE2.feed [132]).1.K = 1 ∧ (kE2.feed [132]).1.T.l.length = 1 := by decide +kernel
theorem kn_rest : kE2.rest = [] := by decide +kernel
theorem kn_cap : kE1.T.cap = 400 ∧ kE1.T.tot = 0 := by decide +kernel
theorem kn_s1 : ((bstr [63, 241, 2]).toList == [63, 241, 2]) = true := by decide +kernel
theorem kn_s2 : ((bstr [0, 0, 209]).toList == [0, 0, 209]) = true := by decide +kernel
theorem kn_s3 : ((bstr [2, 0, 128]).toList == [2, 0, 128]) = true := by decide +kernel
theorem Qe.good.new (cap B : Nat) : (Qe.new cap B).good := ⟨⟨Nat.le_refl _, Nat.zero_le _⟩, fun x hx => (by cases hx), Nat.le_refl _, Nat.zero_le _⟩
theorem kn_g1 : kE1.good := (Qe.good.enc (Qe.good.new 400 1) 0 (by omega) [kF1] (Nat.le_add_left _ _) (by intro f hf; rw [List.mem_singleton.1 hf]; decide)).1
theorem kn_g2 : kE2.good := (Qe.good.enc kn_g1 4 (by omega) [kF2] (by decide +kernel) (by intro f hf; rw [List.mem_singleton.1 hf]; decide)).1
theorem OwB.beside {w w' : World} {B : Nat} {x : Value} {l : List UInt8} {S : Nat → Prop} (ho : OwB w B x l) (hf : Fp S w w') (hn : ∀ k, x.ownBlock = some k → ¬ S k) : OwB w' B x l := ho.kept fun k hk => hf.block k (ho.lt hk) (hn k hk)
set_option maxRecDepth 100000 in
set_option maxHeartbeats 8000000 in
theorem known9_any (w : World) : Calls Try.prog 4 #[] w fun e w' => e = .returned (.bool true) ∧ Below w.heap.size w w' := by
  go_enter Try.func4, Try.ntmps4
  go_wp2_with fail
  refine (pqnew_any 400 1 (by omega) w).mono ?_
  rintro e w1 ⟨q, p, S, rfl, h1, h2, b1⟩
  rw [show Qe.new (clampN 400) (1 : Int).toNat = kE0 from rfl] at h1
  have hA := (Below.refl w1.heap.size w1).alloc (Nat.le_refl _) (.cells #[.string kF1.1, .string kF1.2] 35)
  have hfs := Fs.one w1 _ rfl kF1
  have hlt := (Wd.pqB _ _ _ _ _).lt h1
  have HENC := Bx.mk (pqencode_any (s := 0) (Pq.keepB h1 hA) (Qe.good.new 400 1) (by unfold okU; omega) (l := [kF1]) (fun W hf => hfs.besides hf (fun g hg => by
    simp only [Value.ownBlock, Option.some.injEq] at hg
    subst hg
    exact ⟨by simp, fun hs => Nat.lt_irrefl _ (hlt _ hs)⟩)) (by simp) (by intro f hf; rw [List.mem_singleton.1 hf]; decide) (by decide) (by decide) (by omega))
  have HB1 := Bx.mk b1
  have HA := Bx.mk hA
  have HH2 := Bx.mk h2
  clear h1 h2 b1 hA hfs hlt
  go_wp2_with fail
  refine HENC.out.mono ?_
  rintro e w2 ⟨a1, s1, rfl, N1, S1, hN1, hq1, hoa, hob, hsub1, hf1, hda1, hdb1⟩
  rw [kn_ins1] at hoa
  rw [kn_sec1] at hob
  have HB2 : Bx (Below w.heap.size w w2) := ⟨(HB1.out.trans (HA.out.mono HB1.out.size)).trans (hf1.below (Nat.le_trans HB1.out.size HA.out.size) HH2.out)⟩
  have HH3 : Bx (∀ k, S1 k → w.heap.size ≤ k) := ⟨fun k hk => (hsub1 k hk).elim (HH2.out k) fun h => Nat.le_trans (Nat.le_trans HB1.out.size HA.out.size) h⟩
  have hq1' : Pq q p N1 kE1 w2 S1 := hq1
  have hA2 := (Below.refl w2.heap.size w2).alloc (Nat.le_refl _) (.cells #[.string kF2.1, .string kF2.2] 35)
  have hfs2 := Fs.one w2 _ rfl kF2
  have hlt2 := (Wd.pqB _ _ _ _ _).lt hq1'
  have HENC2 := Bx.mk (pqencode_any (s := 4) (Pq.keepB hq1' hA2) kn_g1 (by unfold okU; omega) (l := [kF2]) (fun W hf => hfs2.besides hf (fun g hg => by
    simp only [Value.ownBlock, Option.some.injEq] at hg
    subst hg
    exact ⟨by simp, fun hs => Nat.lt_irrefl _ (hlt2 _ hs)⟩)) (by simp) (by intro f hf; rw [List.mem_singleton.1 hf]; decide) (by rw [kn_cap.1]; decide) (by rw [kn_cap.2]; decide) (by simp at hN1; omega))
  have HA2 := Bx.mk hA2
  have HOA := Bx.mk (hoa.keep hA2)
  have HOB := Bx.mk (hob.keep hA2)
  have HDA := Bx.mk hda1
  have HDB := Bx.mk hdb1
  have HN1 := Bx.mk hN1
  clear hq1 hq1' hoa hob hsub1 hf1 hda1 hdb1 hN1 hA2 hfs2 hlt2 HENC
  go_wp2_with fail
  refine HENC2.out.mono ?_
  rintro e w3 ⟨a2, s2, rfl, N2, S2, hN2, hq2, hoa2, hob2, hsub2, hf2, hda2, hdb2⟩
  rw [kn_sec2] at hob2
  have hq2' : Pq q p N2 kE2 w3 S2 := hq2
  have HB3 : Bx (Below w.heap.size w w3) := ⟨(HB2.out.trans (HA2.out.mono HB2.out.size)).trans (hf2.below (Nat.le_trans HB2.out.size HA2.out.size) HH3.out)⟩
  have HH4 : Bx (∀ k, S2 k → w.heap.size ≤ k) := ⟨fun k hk => (hsub2 k hk).elim (HH3.out k) fun h => Nat.le_trans (Nat.le_trans HB2.out.size HA2.out.size) h⟩
  have hA3 := (Below.refl w3.heap.size w3).alloc (Nat.le_refl _) (.cells #[.int .u8 132] 5)
  have hO1 := (HOA.out.beside hf2 HDA.out).keep hA3
  have hO2 := (HOB.out.beside hf2 (fun k hk => (HDB.out k hk).1)).keep hA3
  have hO3 := hob2.keep hA3
  have hO4 := hoa2.keep hA3
  have hn1 : ∀ k, a1.ownBlock = some k → ¬ S2 k := fun k hk hh => (hsub2 k hh).elim (HDA.out k hk) fun hge => by have := HOA.out.lt hk; omega
  have hn2 : ∀ k, s1.ownBlock = some k → ¬ S2 k := fun k hk hh => (hsub2 k hh).elim (HDB.out k hk).1 fun hge => by have := HOB.out.lt hk; omega
  have HFEED := Bx.mk (feed_any (Pq.keepB hq2' hA3) kn_g2 (by have := HN1.out; simp at this hN2; omega) (bV := .slice (some ⟨w3.heap.size, 0, none⟩) 1 1) (b := [132]) (Rd.lit w3 5 #[.int .u8 132] 1 rfl (by simp [maxLen])) (by simp) (by rw [kn_rest]; simp))
  have HO1 := Bx.mk hO1
  have HO2 := Bx.mk hO2
  have HO3 := Bx.mk hO3
  have HO4 := Bx.mk hO4
  have HS1 := Bx.mk hn1
  have HS2 := Bx.mk hn2
  have HS3 := Bx.mk (fun k hk => (hdb2 k hk).1)
  have HS4 := Bx.mk hda2
  have HA3 := Bx.mk hA3
  clear hq2 hq2' hoa2 hob2 hsub2 hf2 hda2 hdb2 hN2 hA3 hO1 hO2 hO3 hO4 hn1 hn2 HENC2 HOA HOB HDA HDB
  go_wp2_with fail
  refine HFEED.out.mono ?_
  rintro e w4 ⟨rfl, S3, hq3, hsub3, hf3⟩
  rw [kn_feed.1]
  have HB4 : Bx (Below w.heap.size w w4) := ⟨(HB3.out.trans (HA3.out.mono HB3.out.size)).trans (hf3.below (Nat.le_trans HB3.out.size HA3.out.size) HH4.out)⟩
  have hP1 := HO1.out.beside hf3 HS1.out
  have hP2 := HO2.out.beside hf3 HS2.out
  have hP3 := HO3.out.beside hf3 HS3.out
  have hP4 := HO4.out.beside hf3 HS4.out
  have hc1 := conv_str hP1.bs
  have hc2 := conv_str hP2.bs
  have hc3 := conv_str hP3.bs
  have hl4 := fun ty W => hP4.bs.run_len ty W
  rw [kn_len2] at hl4
  have HK := Bx.mk (pqknown hq3)
  have HTB := Bx.mk (pqtable hq3)
  rw [kn_feed.2.1] at HK
  obtain ⟨aa, LV, hlv, hraw⟩ := hq3
  obtain ⟨ST, hT⟩ := hraw.tb
  have HLEN := Bx.mk (dlen_any hT)
  rw [show (qcOf N2 (kE2.feed [132]).1 (blkF (kE2.feed [132]).1.op (kE2.feed [132]).1.K) aa LV).T = (kE2.feed [132]).1.T from rfl, kn_feed.2.2] at HLEN
  have z1 := kn_s1
  have z2 := kn_s2
  have z3 := kn_s3
  clear hP1 hP2 hP3 hP4 hlv hraw hT hsub3 hf3 HFEED
  go_wp2_with (first
    | (go_at_call 8; refine HK.out.mono ?_; rintro r w5 ⟨rfl, rfl⟩)
    | (go_at_call 10; refine HTB.out.mono ?_; rintro r w5 ⟨rfl, rfl⟩)
    | (go_at_call 11; refine HLEN.out.mono ?_; rintro r w6 ⟨rfl, hb6⟩))
  go_ret
  exact ⟨rfl, HB4.out.trans (hb6.mono HB4.out.size)⟩
end Go.Proofs.Ytebakjdeighdnaa

/-
  How many streams are blocked, section by section, without a word of the other side.
-/
namespace Go.Proofs.Ytebakjdeighdnaa
open Go.RowKit Go.Maps
set_option linter.unusedVariables false

theorem pre_zero8 : pre 0 8 0 = [0] := by decide +kernel
theorem first_pos8 (v : Nat) (h : 0 < v) : preFirst 0 8 v ≠ 0 := fun hh => by
  have h2 : hiOf 0 8 = 0 := by decide
  unfold preFirst at hh
  rw [h2, Nat.zero_add] at hh
  have := congrArg UInt8.toNat hh
  rw [UInt8.toNat_ofNat'] at this
  simp only [UInt8.toNat_zero] at this
  omega
theorem pre_pos8 (v : Nat) (h : 0 < v) : ∃ b r, pre 0 8 v = b :: r ∧ b ≠ 0 := by
  unfold pre
  split
  · exact ⟨_, _, rfl, first_pos8 v h⟩
  · exact ⟨_, _, rfl, first_pos8 v h⟩
theorem qpre_head (c : Nat) (rest : List UInt8) : ∃ b r, qpre c c 128 ++ rest = b :: r ∧ (b ≠ 0 ↔ 0 < c) := by
  unfold qpre
  by_cases hc : c = 0
  · subst hc
    have : ecN 0 128 = 0 := rfl
    rw [this, pre_zero8]
    exact ⟨0, _, rfl, by simp⟩
  · have h1 : 0 < ecN c 128 := by
      unfold ecN
      rw [if_neg (by omega)]
      omega
    obtain ⟨b, r, e, hb⟩ := pre_pos8 _ h1
    rw [e]
    exact ⟨b, _, rfl, by simp [hb]; omega⟩
/-- Sections of streams below i, each of a stream of its own, nothing known. -/
structure Bq (k i need : Nat) (E : Qe) : Prop where
  good : E.good
  K : E.K = 0
  cap : E.T.cap = 4096
  B : E.B = k
  len : E.op.length = need
  lt : ∀ x ∈ E.op, x.s < i
  nd : (E.op.map (·.s)).Nodup
  le : need ≤ k
  tot : E.T.tot ≤ 6 * i
  rest : E.rest = []
theorem many_all {op : List Qs} (h : (op.map (·.s)).Nodup) (hc : ∀ x ∈ op, 0 < x.c) : ∀ n, n ≤ op.length → manyQ op 0 n = n
  | 0, _ => rfl
  | n + 1, hn => by
    have ih := many_all h hc n (by omega)
    have hlt : n < op.length := by omega
    unfold manyQ
    rw [ih, List.getElem?_eq_getElem hlt]
    have h1 : frstQ op n op[n] = true := by
      unfold frstQ
      rw [List.all_eq_true]
      intro y hy
      rw [decide_eq_true_eq]
      obtain ⟨j, hj, rfl⟩ := List.getElem_of_mem hy
      rw [List.getElem_take]
      rw [List.length_take] at hj
      intro hh
      have := (List.pairwise_iff_getElem.1 h) j n (by rw [List.length_map]; omega) (by rw [List.length_map]; omega) (by omega)
      rw [List.getElem_map, List.getElem_map] at this
      exact this hh
    have h2 : blkQ op 0 op[n].s = true := by
      unfold blkQ
      rw [List.any_eq_true]
      exact ⟨op[n], List.getElem_mem hlt, by simp [hc _ (List.getElem_mem hlt)]⟩
    simp only [h1, h2, Bool.and_self, if_true]
theorem Bq.start (k : Nat) : Bq k 0 0 (Qe.new 4096 k) := ⟨Qe.good.new _ _, rfl, rfl, rfl, rfl, fun x hx => (by cases hx), List.nodup_nil, Nat.zero_le _, Nat.le_refl _, rfl⟩
theorem Bq.step {k i need : Nat} {E : Qe} (h : Bq k i need E) (hi : i ≤ 10) (l : List Fd) (hl : l.length ≤ 6) (hz : ∀ f ∈ l, fsz f ≤ 40000) (hk : k ≤ 4) :
    ∃ b r need', E.sec i l = b :: r ∧ Bq k (i + 1) need' (E.enc i l) ∧ need' = if b ≠ 0 then need + 1 else need := by
  have hop : E.op.length + 1 ≤ 100000 := by have := h.len; have := h.le; omega
  obtain ⟨g1, g2, g3, g4⟩ := h.good.enc i (by omega) l hop hz
  have hG : Gd E i (0 + l.length) (E.acc i l) := by
    have hG : ∀ (m : List Fd) (a : Qa) (k : Nat), (∀ f ∈ m, fsz f ≤ 40000) → Gd E i k a → Gd E i (k + m.length) (qrun E.op E.K (freeQ E.op E.K E.B i) m a) := by
      intro m
      induction m with
      | nil => intro a k _ h; exact h
      | cons f m ih =>
        intro a k hm hg
        have := ih _ (k + 1) (fun g hg => hm g (List.mem_cons_of_mem _ hg)) (hg.step f (hm f (List.mem_cons_self ..)))
        rw [show k + (f :: m).length = k + 1 + m.length by simp only [List.length_cons]; omega]
        exact this
    exact hG l _ 0 hz (Gd.zero h.good i E.said)
  obtain ⟨b, r, e, hb⟩ := qpre_head (E.acc i l).c (linesW (E.acc i l).c (E.acc i l).all)
  have hsec : E.sec i l = b :: r := by
    unfold Qe.sec
    rw [h.cap]
    exact e
  have htot : (E.enc i l).T.tot ≤ 6 * (i + 1) := by have := h.tot; omega
  by_cases hc : 0 < (E.acc i l).c
  · have hfree : freeQ E.op E.K E.B i = true := hG.fr (by rw [h.K]; exact hc)
    have hblk : blkQ E.op E.K i = false := by
      unfold blkQ
      rw [List.any_eq_false]
      intro x hx
      have := h.lt x hx
      simp
      intro hh
      omega
    unfold freeQ at hfree
    rw [hblk, Bool.false_or, decide_eq_true_eq, h.K, h.B, many_all h.nd (fun x hx => (h.good.sec x hx).2.1) _ (Nat.le_refl _), h.len] at hfree
    have hop' : (E.enc i l).op = E.op ++ [⟨i, (E.acc i l).c, (E.acc i l).u⟩] := by unfold Qe.enc; simp only; rw [if_pos hc]
    refine ⟨b, r, need + 1, hsec, ⟨g1, h.K, g2.trans h.cap, h.B, ?_, fun x hx => ?_, ?_, hfree, htot, h.rest⟩, by rw [if_pos (hb.2 hc)]⟩
    · rw [hop', List.length_append, h.len]; rfl
    · rw [hop'] at hx
      rcases List.mem_append.1 hx with hx | hx
      · have := h.lt x hx; omega
      · rw [List.mem_singleton.1 hx]; exact Nat.lt_succ_self _
    · rw [hop', List.map_append, List.nodup_append]
      refine ⟨h.nd, by simp, fun x hx y hy => ?_⟩
      obtain ⟨z, hz, rfl⟩ := List.mem_map.1 hx
      have := h.lt z hz
      have hy' : y = i := by simpa using hy
      omega
  · have hop' : (E.enc i l).op = E.op := by unfold Qe.enc; simp only; rw [if_neg hc]
    refine ⟨b, r, need, hsec, ⟨g1, h.K, g2.trans h.cap, h.B, by rw [hop']; exact h.len, fun x hx => ?_, by rw [hop']; exact h.nd, h.le, htot, h.rest⟩, by rw [if_neg (fun hh => hc (hb.1 hh))]⟩
    rw [hop'] at hx
    have := h.lt x hx
    omega
end Go.Proofs.Ytebakjdeighdnaa

/-
  Slices of slices of fields: what they read as.
-/
namespace Go.Proofs.Ytebakjdeighdnaa
open Go.RowKit
set_option linter.unusedVariables false

/-! ### slices of slices of fields -/
/-- The value reads as these slices; each of them reads as its fields. -/
def Fss (w : World) (v : Value) (vs : List Value) (ll : List (List Fd)) : Prop := Rd w v vs ∧ vs.length = ll.length ∧ ∀ i (h : i < vs.length) (h' : i < ll.length), Fs w vs[i] ll[i]
theorem Fss.keep {w w' : World} {v : Value} {vs : List Value} {ll : List (List Fd)} (h : Fss w v vs ll) (hb : Below w.heap.size w w') : Fss w' v vs ll := ⟨Rd.keep h.1 hb, h.2.1, fun i a b => (h.2.2 i a b).keep hb⟩
theorem Fss.run_len {w : World} {v : Value} {vs : List Value} {ll : List (List Fd)} (h : Fss w v vs ll) (ty : TypeId) (W : World) : (Builtin.len_ #[22] ty #[v]).run Try.prog W = .ok (.int .i64 (ll.length : Int)) W := by
  obtain ⟨⟨A, c, rfl, h1, h2, h3⟩, h4, _⟩ := h
  rw [← h4]
  simp [Builtin.len_, run_underlying Try.underlying22, goInt]
theorem Fss.at_ {w : World} {v : Value} {vs : List Value} {ll : List (List Fd)} (h : Fss w v vs ll) (i : Nat) (hi : i < ll.length) :
    ∃ (b o : Nat) (u : Value), (∀ (W : World), (Instr.indexAt 22 v (.int .i64 (i : Int))).run Try.prog W = .ok (.pointer (some ⟨b, o, none⟩)) W) ∧ (∃ a n c, u = .slice a n c) ∧ Fs w u ll[i] ∧
      ∀ W : World, Fss W v vs ll → W.cell? ⟨b, o, none⟩ = some u ∧ Fs W u ll[i] := by
  have hiv : i < vs.length := by have := h.2.1; omega
  obtain ⟨b, o, c, rfl, h1, h2, h3, hc⟩ := Rd.at_ h.1 (by omega)
  refine ⟨b, o + i, vs[i], fun W => ?_, ?_, h.2.2 i hiv hi, fun W hW => ⟨?_, hW.2.2 i hiv hi⟩⟩
  · simp [Instr.indexAt, asIntOf, run_underlying Try.underlying22, Sem.run_bind, hiv, Result.andThen]
    simp [Addr.add]
  · obtain ⟨A, c', e, _⟩ := h.2.2 i hiv hi
    exact ⟨_, _, _, e⟩
  · obtain ⟨b', o', c', e, _, _, _, hc'⟩ := Rd.at_ hW.1 (by omega)
    injection e with e1 e2 e3
    injection e1 with e1
    injection e1 with e1 e4
    subst e1; subst e4
    exact hc' i _ (List.getElem?_eq_getElem hiv)

end Go.Proofs.Ytebakjdeighdnaa

/-
  Calls that turn one of several words; rows of bytes stand beside them.
-/
namespace Go.Proofs.Ytebakjdeighdnaa
open Go.RowKit
set_option linter.unusedVariables false

/-- Rows of bytes stand. -/
def RowB (w w' : World) : Prop := ∀ (k : Nat) (c : Array Value) (z : Nat × Nat), w.heap[k]? = some (.cells c 5 z) → w'.heap[k]? = some (.cells c 5 z)
theorem RowB.refl (w : World) : RowB w w := fun _ _ _ h => h
theorem RowB.trans {a b c : World} (h : RowB a b) (k : RowB b c) : RowB a c := fun i x z hi => k i x z (h i x z hi)
theorem RowB.of_below {w w' : World} (h : Below w.heap.size w w') : RowB w w' := fun k c z hk => by rw [h.block k (Array.getElem?_eq_some_iff.1 hk).1]; exact hk
theorem RowB.of_fp {w w' : World} {S : Nat → Prop} (hn : NoB w S) (h : Fp S w w') : RowB w w' := fun k c z hk => by
  rw [h.block k (Array.getElem?_eq_some_iff.1 hk).1 fun hs => ?_]
  · exact hk
  · obtain ⟨o, h1, h2⟩ := hn k hs
    rw [h1] at hk
    injection hk with hk
    exact h2 _ _ hk
theorem OwB.rows {w w' : World} {B : Nat} {v : Value} {l : List UInt8} (h : OwB w B v l) (hr : RowB w w') : OwB w' B v l := by
  refine h.kept fun k hk => ?_
  rcases h.2 with ⟨rfl, _⟩ | ⟨g, cap, cur, rfl, hg, hh, rest⟩
  · simp [Value.ownBlock] at hk
  · simp only [Value.ownBlock, Option.some.injEq] at hk
    subst hk
    rw [hh]
    exact hr _ _ _ hh

section
variable {α : Type} {X Y : Wx} {X' Y' : α → Wx} {R : α → Ending → World → Prop} {P : Program} {f : FuncId} {args : Array Value} {w wA : World} {B : Nat} {C : Nat → Prop}
/-- A call that turns the first of two. -/
theorem lift1 (hY : Wd Y) (hc : ∀ S, X w S → (∀ k, S k → C k) → Calls P f args w fun e w' => ∃ x, R x e w' ∧ Turn (X' x) S w w') :
    ∀ S, Both X Y w S → (∀ k, S k → C k) → Calls P f args w fun e w' => ∃ x, R x e w' ∧ Turn (Both (X' x) Y) S w w' := by
  rintro S ⟨S1, S2, h1, h2, h3, h4⟩ hs
  refine (hc S1 h1 fun k hk => hs k ((h4 k).2 (.inl hk))).mono ?_
  rintro e w' ⟨x, hr, ht⟩
  exact ⟨x, hr, Both.left hY h2 h3 h4 ht⟩
theorem lift2 (hX : Wd X) (hc : ∀ S, Y w S → (∀ k, S k → C k) → Calls P f args w fun e w' => ∃ x, R x e w' ∧ Turn (Y' x) S w w') :
    ∀ S, Both X Y w S → (∀ k, S k → C k) → Calls P f args w fun e w' => ∃ x, R x e w' ∧ Turn (Both X (Y' x)) S w w' := by
  rintro S ⟨S1, S2, h1, h2, h3, h4⟩ hs
  refine (hc S2 h2 fun k hk => hs k ((h4 k).2 (.inr hk))).mono ?_
  rintro e w' ⟨x, hr, ht⟩
  exact ⟨x, hr, Both.right hX h1 h3 h4 ht⟩
/-- What is known of the blocks that a call may turn. -/
def Cn (B : Nat) (w wA : World) (k : Nat) : Prop := B ≤ k ∧ k < w.heap.size ∧ ∃ o, wA.heap[k]? = some o ∧ ∀ (c : Array Value) (z : Nat × Nat), o ≠ Obj.cells c 5 z
theorem Cn.noB {S : Nat → Prop} (h : ∀ k, S k → Cn B w wA k) : NoB wA S := fun k hk => (h k hk).2.2
theorem Cn.ge {S : Nat → Prop} (h : ∀ k, S k → Cn B w wA k) : ∀ k, S k → B ≤ k := fun k hk => (h k hk).1
theorem Cn.old {S : Nat → Prop} (h : ∀ k, S k → Cn B w wA k) : ∀ k, S k → k < w.heap.size := fun k hk => (h k hk).2.1
/-- A call that turns what stands; new blocks may have been made for it. -/
theorem Up.call (hX : Ex X) (hW : Wd X) (h : Up B X w) (hB : B ≤ w.heap.size) (hA : Below w.heap.size w wA) (hc : ∀ S, X wA S → (∀ k, S k → Cn B w wA k) → Calls P f args wA fun e w' => ∃ x, R x e w' ∧ Turn (X' x) S wA w') :
    Calls P f args wA fun e w' => ∃ x, R x e w' ∧ Up B (X' x) w' ∧ Below B w w' ∧ RowB w w' := by
  obtain ⟨S, h1, h2⟩ := h
  obtain ⟨E, e1, e2, e3⟩ := hX w S h1
  refine (hc E (hW.keep e1 hA) fun k hk => ⟨h2 k (e2 k hk), hW.lt e1 k hk, e3.keep hA k hk⟩).mono ?_
  rintro e w' ⟨x, hr, ht⟩
  have hf : Fp E wA w' := by obtain ⟨_, _, _, hf⟩ := ht; exact hf
  obtain ⟨hu, hb⟩ := Up.turn (fun k hk => h2 k (e2 k hk)) (Nat.le_trans hB hA.size) ht
  exact ⟨x, hr, hu, (hA.mono hB).trans hb, (RowB.of_below hA).trans (RowB.of_fp (e3.keep hA) hf)⟩
/-- A call that reads. -/
theorem Up.read {Q : Ending → World → Prop} (h : Up B X w) (hc : ∀ S, X w S → Calls P f args w Q) : Calls P f args w Q := by
  obtain ⟨S, h1, _⟩ := h
  exact hc S h1
end
end Go.Proofs.Ytebakjdeighdnaa

/-
  Contract of bifoldhelp.Fields alone.
-/
namespace Go.Proofs.Ytebakjdeighdnaa
open Go.RowKit
set_option linter.unusedVariables false

theorem ret_bool {a b : Bool} (h : a = b) : Ending.returned (.bool a) = .returned (.bool b) := by rw [h]
theorem at_ne {α : Type} {a b : List α} {k : Nat} (ha : k < a.length) (hb : k < b.length) (h : ¬ a[k] = b[k]) : ¬ a = b := by
  rintro rfl; exact h rfl

end Go.Proofs.Ytebakjdeighdnaa

/-
  Contract of bifoldhelp.Light (beside the table's texts).
-/
namespace Go.Proofs.Ytebakjdeighdnaa
open Go.RowKit
set_option linter.unusedVariables false

theorem Small.at_ {l : List Fd} (h : Small l) (k : Nat) (hk : k < l.length) : l[k].1.size ≤ 140737488351232 ∧ l[k].2.size ≤ 140737488351232 := h _ (List.getElem_mem hk)
def lightB (l : List Fd) : Bool := decide (l.length ≤ 70 ∧ sumF l ≤ 3000)

set_option maxRecDepth 100000 in
set_option maxHeartbeats 1000000 in
theorem light_any (v : Value) (l : List Fd) (w : World) (hv : Fs w v l) (hs : Small l) :
    Calls Try.prog 6 #[v] w fun e w' => e = .returned (.bool (lightB l)) ∧ Below w.heap.size w w' := by
  have HV := Bx.mk hv
  have HS := Bx.mk hs
  have hlen := fun ty W => hv.run_len ty W
  have hlm := hv.len
  unfold maxLen at hlm
  clear hv hs
  by_cases hbig : 70 < l.length
  · have hbb : decide (70 < (l.length : Int)) = true := by rw [decide_eq_true_iff]; omega
    have hr : lightB l = false := by unfold lightB; rw [decide_eq_false_iff_not]; omega
    rw [hr]
    clear hr hbig
    go_enter Try.func6, Try.ntmps6
    go_wp2
    go_ret
    exact ⟨rfl, Below.refl _ _⟩
  have hbb : decide (70 < (l.length : Int)) = false := by rw [decide_eq_false_iff_not]; omega
  obtain ⟨R, hR⟩ : ∃ R, lightB l = R := ⟨_, rfl⟩
  rw [hR]
  have HR := Bx.mk hR
  have HL : Bx (l.length ≤ 70) := ⟨by omega⟩
  clear hR hbig
  go_enter Try.func6, Try.ntmps6
  go_wp2
  clear hbb
  go_loopg [3, 4] l.length (fun g s3 s4 wx => ∃ k : Nat, k + g = l.length ∧ s4 = .int .i64 k ∧ s3 = .int .i64 (sumF (l.take k) : Int) ∧ Bx (sumF (l.take k) ≤ 3000) ∧ Bx (Below w.heap.size w wx))
  case atStart => exact ⟨0, by omega, rfl, rfl, ⟨by simp [sumF]⟩, ⟨Below.refl _ _⟩⟩
  case round =>
    obtain ⟨k, hkg, rfl, rfl, HQ, HB⟩ := hrel
    cases gk with
    | zero =>
      obtain rfl : k = l.length := by omega
      go_wp2
      go_ret
      refine ⟨ret_bool ?_, HB.out⟩
      rw [← HR.out]
      unfold lightB
      have := HQ.out
      rw [List.take_length] at this
      exact (decide_eq_true ⟨HL.out, this⟩).symm
    | succ g =>
      have hk : k < l.length := by omega
      have hkz : (k : Int) < (l.length : Int) := by omega
      obtain ⟨b, o, hix, hcs⟩ := HV.out.at_ k hk
      obtain ⟨hc1, hc2⟩ := hcs wr (HV.out.keep HB.out)
      obtain ⟨hs1, hs2⟩ := HS.out.at_ k hk
      have hst := sumF_take_succ l k hk
      have HST := Bx.mk hst
      have hq := HQ.out
      have HTL := Bx.mk (sumF_take_le l (k + 1))
      unfold fsz at hst
      obtain ⟨f1, hf1⟩ : ∃ f1, l[k].1 = f1 := ⟨_, rfl⟩
      obtain ⟨f2, hf2⟩ : ∃ f2, l[k].2 = f2 := ⟨_, rfl⟩
      rw [hf1] at hc1 hst hs1
      rw [hf2] at hc2 hst hs2
      have HF1 := Bx.mk hf1
      have HF2 := Bx.mk hf2
      clear hcs hf1 hf2
      generalize hT : sumF (l.take k) = T at hst hq
      have HT := Bx.mk hT
      have HTS := Bx.mk hst
      clear hT hst
      have w1 : IntKind.i64.wrap ((f1.size : Int) + (f2.size : Int)) = (f1.size : Int) + (f2.size : Int) := IntWalk.i64_in _ (by omega)
      have w2 : IntKind.i64.wrap ((T : Int) + ((f1.size : Int) + (f2.size : Int))) = (T : Int) + ((f1.size : Int) + (f2.size : Int)) := IntWalk.i64_in _ (by omega)
      by_cases hgt : 3000 < T + (f1.size + f2.size)
      · have hd : decide (3000 < (T : Int) + ((f1.size : Int) + (f2.size : Int))) = true := by rw [decide_eq_true_iff]; omega
        have hfin : R = false := by
          rw [← HR.out]
          unfold lightB
          rw [decide_eq_false_iff_not]
          have h1 := HTL.out
          have h2 := HTS.out
          omega
        have HFIN := Bx.mk hfin
        clear hfin hgt
        go_wp2
        go_region
        clear w1 w2
        go_wp2
        go_ret
        exact ⟨ret_bool HFIN.out.symm, HB.out.drew⟩
      · have hd : decide (3000 < (T : Int) + ((f1.size : Int) + (f2.size : Int))) = false := by rw [decide_eq_false_iff_not]; omega
        have HG : Bx (T + (f1.size + f2.size) ≤ 3000) := ⟨by omega⟩
        clear hgt
        go_wp2
        go_region
        clear w1 w2
        go_wp2
        go_roundg g
        case measure => omega
        case rel => exact ⟨k + 1, by omega, by go_num, by rw [HTS.out]; go_num, ⟨by have := HTS.out; have := HG.out; omega⟩, ⟨HB.out.drew⟩⟩

end Go.Proofs.Ytebakjdeighdnaa

/-
  A slice of fields that came in: from the row's reading to a list of fields, with their sizes.
-/
namespace Go.Proofs.Ytebakjdeighdnaa
open Go.RowKit Go.ChangeShapes Go.WideShapes Go.Deep
set_option linter.unusedVariables false

theorem weights_mem_all {H : Type} {P : Program} {e : TypeId} : ∀ {ds : List (DataW H)} {d : DataW H}, d ∈ ds → ∀ n ∈ d.weights P e, n ∈ DataW.weightsAll P e ds
  | d0 :: ds, d, hd, n, hn => by
    simp only [DataW.weightsAll, List.mem_append]
    rcases List.mem_cons.1 hd with rfl | h
    · exact .inl hn
    · exact .inr (weights_mem_all h n hn)

section
variable {H : Type} {enc : TypeId × Value → H} {w : World} {base : Nat} {spare : Nat → Bool} {held : Bool}

theorem fdCells2 : Try.prog.cellsOf 35 = 2 := by kernel_rfl
theorem strCells2 : Try.prog.cellsOf 9 = 1 := by kernel_rfl

set_option maxRecDepth 100000 in
/-- One field's reading. -/
theorem field_open {fuel : Nat} {cs : List Value} {x : DataW H × List MemPlace} (h : DataW.trod enc Try.prog w base spare held fuel 35 cs = some x) :
    ∃ f : Fd, cs = fvl f ∧ x.1 = .agg [.lit (.string f.1.data.toList), .lit (.string f.2.data.toList)] := by
  obtain ⟨xs, n, _, hx, hl, hlen, hf⟩ := DataW.trod_struct Try.underlying35 h
  rw [fdCells2] at hl
  match cs, hl with
  | [c0, c1], _ =>
    have e0 := hf 0 _ rfl
    have e1 := hf 1 _ rfl
    change DataW.trod enc Try.prog w base spare held n 9 (([c0, c1].drop 0).take (Try.prog.cellsOf 9)) = xs[0]? at e0
    change DataW.trod enc Try.prog w base spare held n 9 (([c0, c1].drop 1).take (Try.prog.cellsOf 9)) = xs[1]? at e1
    rw [strCells2] at e0 e1
    match xs, hlen with
    | [y0, y1], _ =>
      obtain ⟨s0, h0, d0, _⟩ := DataW.trod_string Try.underlying9 e0
      obtain ⟨s1, h1, d1, _⟩ := DataW.trod_string Try.underlying9 e1
      simp at h0 h1
      subst h0 h1
      exact ⟨(s0, s1), rfl, by rw [hx, d0, d1]; rfl⟩

set_option maxRecDepth 100000 in
theorem fields_open {fuel : Nat} {a : Option Addr} {len cap : Nat} {x : DataW H × List MemPlace} (h : DataW.trod enc Try.prog w base spare held fuel 26 [.slice a len cap] = some x) :
    ∃ l : List Fd, Fs w (.slice a len cap) l ∧ ((∀ n ∈ x.1.weights Try.prog 26, n ≤ reachBytes) → Small l) := by
  rcases open_slice Try.underlying26 h with ⟨hcs, _⟩ | ⟨p, l0, c0, m, n, D, Pl, hcs, hb, hlc, hcm, hm, hx, hi⟩
  · simp at hcs
    obtain ⟨rfl, rfl, rfl⟩ := hcs
    exact ⟨[], Rn.nil 2 w, fun _ f hf => by cases hf⟩
  · simp at hcs
    obtain ⟨rfl, rfl, rfl⟩ := hcs
    have hlm : len ≤ m := by rw [hm]; split <;> omega
    obtain ⟨F, hF⟩ := choose_lt (α := Fd) (n := len) (p := fun i f => w.cells? base (p.add (i * 2)) 2 = some (fvl f) ∧ D i = .agg [.lit (.string f.1.data.toList), .lit (.string f.2.data.toList)]) (fun i hil => by
      obtain ⟨cs', h1, h2⟩ := hi i (by omega)
      rw [fdCells2] at h1
      obtain ⟨f, rfl, hd⟩ := field_open h2
      exact ⟨f, h1, hd⟩)
    have hlen : ((List.range len).map F).length = len := by simp
    have hget : ∀ i (hil : i < len), ((List.range len).map F)[i]'(by omega) = F i := fun i hil => by simp
    refine ⟨(List.range len).map F, ⟨some p, cap, by rw [hlen], by rw [hlen]; exact hlc, hcm, by rw [fvl_length], .inr ⟨p, rfl, fun j u hu => ?_⟩⟩, fun hw f hf => ?_⟩
    · have hj : j < len * 2 := by
        rcases Nat.lt_or_ge j (len * 2) with h1 | h1
        · exact h1
        · rw [List.getElem?_eq_none (by rw [fvl_length, hlen]; exact h1)] at hu; cases hu
      have hil : j / 2 < len := by omega
      obtain ⟨h1, _⟩ := hF (j / 2) hil
      obtain ⟨_, _, hat⟩ := World.cells?_some h1
      have hv := fvl_at ((List.range len).map F) (j / 2) (by rw [hlen]; exact hil)
      rw [hget _ hil] at hv
      rcases Nat.mod_two_eq_zero_or_one j with hr | hr
      · have ej : j / 2 * 2 = j := by omega
        rw [ej] at hv
        rw [hv.1] at hu
        have := hat 0 (by omega)
        rw [add_add, ej, Nat.add_zero] at this
        rw [this, ← hu]; rfl
      · have ej : j / 2 * 2 + 1 = j := by omega
        rw [ej] at hv
        rw [hv.2] at hu
        have := hat 1 (by omega)
        rw [add_add, ej] at this
        rw [this, ← hu]; rfl
    · obtain ⟨i, hir, rfl⟩ := List.mem_map.1 hf
      have hil : i < len := List.mem_range.1 hir
      obtain ⟨_, hd⟩ := hF i hil
      have hmem : ∀ n ∈ (D i).weights Try.prog 35, n ≤ reachBytes := fun n hn => hw n (by
        rw [hx]
        simp only [DataW.weights, Try.underlying26, List.mem_cons, List.mem_append]
        exact .inr (.inl (weights_mem_all (List.mem_map.2 ⟨i, hir, rfl⟩) n hn)))
      rw [hd] at hmem
      have h1 := hmem (F i).1.data.toList.length (by simp only [DataW.weights, Try.underlying35]; simp [DataW.weightsEach, DataW.weights])
      have h2 := hmem (F i).2.data.toList.length (by simp only [DataW.weights, Try.underlying35]; simp [DataW.weightsEach, DataW.weights])
      have hr : reachBytes ≤ 140737488351232 := by decide
      have e1 : (F i).1.data.toList.length = (F i).1.size := by simp
      have e2 : (F i).2.data.toList.length = (F i).2.size := by simp
      omega
end

end Go.Proofs.Ytebakjdeighdnaa

/-
  A slice of slices of fields that came in.
-/
namespace Go.Proofs.Ytebakjdeighdnaa
open Go.RowKit Go.ChangeShapes Go.WideShapes Go.Deep
set_option linter.unusedVariables false

section
variable {H : Type} {enc : TypeId × Value → H} {w : World} {base : Nat} {spare : Nat → Bool} {held : Bool}
theorem fieldsCells : Try.prog.cellsOf 26 = 1 := by kernel_rfl
theorem fieldsv_open {fuel : Nat} {cs : List Value} {x : DataW H × List MemPlace} (h : DataW.trod enc Try.prog w base spare held fuel 26 cs = some x) :
    ∃ (v : Value) (l : List Fd), cs = [v] ∧ Fs w v l ∧ ((∀ n ∈ x.1.weights Try.prog 26, n ≤ reachBytes) → Small l) := by
  rcases open_slice Try.underlying26 h with ⟨hcs, _⟩ | ⟨p, len, cap, m, n, D, Pl, hcs, _⟩
  · subst hcs
    obtain ⟨l, h1, h2⟩ := fields_open h
    exact ⟨_, l, rfl, h1, h2⟩
  · subst hcs
    obtain ⟨l, h1, h2⟩ := fields_open h
    exact ⟨_, l, rfl, h1, h2⟩

set_option maxRecDepth 100000 in
theorem fieldss_open {fuel : Nat} {cs : List Value} {x : DataW H × List MemPlace} (h : DataW.trod enc Try.prog w base spare held fuel 22 cs = some x) :
    ∃ (v : Value) (vs : List Value) (ll : List (List Fd)), cs = [v] ∧ Fss w v vs ll ∧ ((∀ n ∈ x.1.weights Try.prog 22, n ≤ reachBytes) → ∀ l ∈ ll, Small l) := by
  rcases open_slice1 Try.underlying22 fieldsCells h with ⟨hcs, _⟩ | ⟨p, len, cap, m, n, V, D, Pl, hcs, hb, hlc, hcm, hm, hx, hi⟩
  · exact ⟨_, [], [], hcs, ⟨Rd.nil w, rfl, fun i h => by simp at h⟩, fun _ f hf => by cases hf⟩
  · have hlm : len ≤ m := by rw [hm]; split <;> omega
    obtain ⟨F, hF⟩ := choose_lt (α := List Fd) (n := len) (p := fun i l => w.cell? (p.add i) = some (V i) ∧ Fs w (V i) l ∧ ((∀ n ∈ (D i).weights Try.prog 26, n ≤ reachBytes) → Small l)) (fun i hil => by
      obtain ⟨h1, h2⟩ := hi i (by omega)
      obtain ⟨v, l, hv, hl, hs⟩ := fieldsv_open h2
      injection hv with hv
      exact ⟨l, h1, hv ▸ hl, hs⟩)
    refine ⟨_, (List.range len).map V, (List.range len).map F, hcs, ⟨⟨some p, cap, by simp, by simpa using hlc, hcm, .inr ⟨p, rfl, fun j u hu => ?_⟩⟩, by simp, fun i h1 h2 => ?_⟩, fun hw l hl => ?_⟩
    · obtain ⟨hj, hu⟩ := List.getElem?_eq_some_iff.1 hu
      simp only [List.length_map, List.length_range] at hj
      simp at hu
      rw [← hu]
      exact (hF j hj).1
    · simp only [List.length_map, List.length_range] at h1
      have := (hF i h1).2.1
      simpa using this
    · obtain ⟨i, hir, rfl⟩ := List.mem_map.1 hl
      have hil : i < len := List.mem_range.1 hir
      exact (hF i hil).2.2 fun n hn => hw n (by
        rw [hx]
        simp only [DataW.weights, Try.underlying22, List.mem_cons, List.mem_append]
        exact .inr (.inl (weights_mem_all (List.mem_map.2 ⟨i, hir, rfl⟩) n hn)))
end

end Go.Proofs.Ytebakjdeighdnaa
