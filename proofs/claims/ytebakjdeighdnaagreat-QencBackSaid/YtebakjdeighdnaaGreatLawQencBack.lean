/-
  bifoldlaw9.QencBack answers true, whatever its arguments: the walk.
-/
import Derived.Test.YtebakjdeighdnaaGreatM51
import Derived.Test.YtebakjdeighdnaaGreatM10
import Derived.Test.YtebakjdeighdnaaGreatM49
import Derived.Test.YtebakjdeighdnaaGreatM22
import Derived.Test.YtebakjdeighdnaaGreatM28
import Derived.Deep.CutRange
import Derived.Deep.CutBlock
import Derived.Deep.RegionHeld
import Derived.Handy
namespace Go.Proofs.YtebakjdeighdnaaGreat
open Go.RowKit Go.Maps
set_option linter.unusedVariables false
set_option linter.unusedSimpArgs false

theorem light_of10 {l : List Fd} (h : lightB l = true) : l.length ≤ 70 ∧ sumF l ≤ 3000 := by
  unfold lightB at h
  simpa using h
theorem light_each10 {l : List Fd} (h : sumF l ≤ 3000) : ∀ f ∈ l, f.1.size ≤ 3000 ∧ f.2.size ≤ 3000 := by
  intro f hf
  obtain ⟨i, hi, rfl⟩ := List.getElem_of_mem hf
  have := fsz_le l i hi
  unfold fsz at this
  omega
theorem wsz_le : ∀ (l : List Fd), wsz l ≤ sumF l + 22 * l.length
  | [] => Nat.le_refl _
  | f :: l => by
    have h := wsz_le l
    unfold wsz at *
    simp only [List.map_cons, List.sum_cons, sumF, List.length_cons]
    omega
theorem enc_lens (E : Qe) (hg : E.T.gq) (s : Nat) (l : List Fd) (hl : l.length ≤ 8) (hs : sumF l ≤ 3000) : (E.acc s l).ins.length ≤ 4000 ∧ (E.sec s l).length ≤ 4000 := by
  have hw := wsz_le l
  have hc := capW_len E.said E.T.cap
  have h := qrun_len E.op E.K (freeQ E.op E.K E.B s) l ⟨E.T, capW E.said E.T.cap, [], [], 0⟩
  have h1 : (E.acc s l).ins.length ≤ (capW E.said E.T.cap).length + wsz l := h.1
  refine ⟨by omega, ?_⟩
  have hm : (E.acc s l).all.map (·.f) = l := by
    have h0 := (QInv.run E.op E.K (freeQ E.op E.K E.B s) l (QInv.start hg (capW E.said E.T.cap))).2
    simp only [List.map_nil, List.nil_append] at h0
    exact h0
  have h2 := linesW_len (E.acc s l).c (E.acc s l).all
  rw [hm] at h2
  have h3 : (E.sec s l).length = (qpre (E.acc s l).c (E.acc s l).c (E.T.cap / 32)).length + (linesW (E.acc s l).c (E.acc s l).all).length := by
    unfold Qe.sec
    rw [List.length_append]
  have h4 : (qpre (E.acc s l).c (E.acc s l).c (E.T.cap / 32)).length ≤ 22 := by
    unfold qpre
    have a1 := (pre_len 0 8 (ecN (E.acc s l).c (E.T.cap / 32))).2
    have a2 := (pre_len 0 7 ((E.acc s l).c - (E.acc s l).c)).2
    rw [List.length_append, if_pos (Nat.le_refl _)]
    omega
  omega
theorem clamp_twice (x : Int) : clampN (clampN x : Int) = clampN x := by unfold clampN; omega
set_option maxRecDepth 100000 in
set_option maxHeartbeats 8000000 in
theorem qencBack_walk (n0 n1 : Int) (hn0 : (Lit.int .i64 n0).wf = true) (hn1 : (Lit.int .i64 n1).wf = true) (v2 : Value) (vs : List Value) (ll : List (List Fd)) (v3 : Value) (us : List UInt8) (v4 : Value) (bs : List Bool) (w : World) (hv2 : Fss w v2 vs ll) (hsm : ∀ l ∈ ll, Small l) (hv3 : Bs w v3 us) (hv4 : Bo w v4 bs) :
    Calls Tryz.prog 3 #[.int .i64 n0, .int .i64 n1, v2, v3, v4] w fun e w' => e = .returned (.bool true) ∧ Below w.heap.size w w' := by
  have HV2 := Bx.mk hv2
  have HV3 := Bx.mk hv3
  have HV4 := Bx.mk hv4
  have HSM := Bx.mk hsm
  have hlen2 := fun ty W => hv2.run_len ty W
  have hlen3 := fun ty W => hv3.run_len ty W
  have hlen4 := fun ty W => hv4.run_len ty W
  have hm2 := Rd.len hv2.1
  have hm3 := Rd.len hv3
  have hm4 := Rd.len hv4
  have hvl := hv2.2.1
  simp only [List.length_map, maxLen] at hm2 hm3 hm4
  obtain ⟨m2, hn2⟩ : ∃ n, ll.length = n := ⟨_, rfl⟩
  obtain ⟨m3, hn3⟩ : ∃ n, us.length = n := ⟨_, rfl⟩
  obtain ⟨m4, hn4⟩ : ∃ n, bs.length = n := ⟨_, rfl⟩
  rw [hn2] at hlen2 hvl
  rw [hn3] at hlen3 hm3
  rw [hn4] at hlen4 hm4
  rw [hvl] at hm2
  have HN := Bx.mk (show ll.length = m2 ∧ us.length = m3 ∧ bs.length = m4 from ⟨hn2, hn3, hn4⟩)
  clear hv2 hv3 hv4 hsm hn2 hn3 hn4 hvl
  have HK9 := Bx.mk (known9_any w)
  by_cases hbig : 8 < m2
  · have hbb : decide (8 < (m2 : Int)) = true := decide_eq_true (by omega)
    have hbb' : decide (8 < m2) = true := decide_eq_true hbig
    clear hbig hm2 hm3 hm4 hn0 hn1
    go_enter Tryz.func3, Tryz.ntmps3
    go_wp2_with (go_at_call 5; refine HK9.out.mono ?_; rintro e w1 ⟨rfl, b1⟩; have HB1 := Bx.mk b1; clear b1)
    go_ret
    exact ⟨rfl, HB1.out⟩
  have hbb : decide (8 < (m2 : Int)) = false := decide_eq_false (by omega)
  have hbb' : decide (8 < m2) = false := decide_eq_false hbig
  by_cases hs3 : m3 < m2
  · have hb3 : decide ((m3 : Int) < (m2 : Int)) = true := decide_eq_true (by omega)
    have hb3' : decide (m3 < m2) = true := decide_eq_true hs3
    clear hbig hm2 hm3 hm4 hn0 hn1 hs3
    go_enter Tryz.func3, Tryz.ntmps3
    go_wp2_with (go_at_call 5; refine HK9.out.mono ?_; rintro e w1 ⟨rfl, b1⟩; have HB1 := Bx.mk b1; clear b1)
    go_ret
    exact ⟨rfl, HB1.out⟩
  have hb3 : decide ((m3 : Int) < (m2 : Int)) = false := decide_eq_false (by omega)
  have hb3' : decide (m3 < m2) = false := decide_eq_false hs3
  by_cases hs4 : m4 < m2
  · have hb4 : decide ((m4 : Int) < (m2 : Int)) = true := decide_eq_true (by omega)
    have hb4' : decide (m4 < m2) = true := decide_eq_true hs4
    clear hbig hm2 hm3 hm4 hn0 hn1 hs3 hs4
    go_enter Tryz.func3, Tryz.ntmps3
    go_wp2_with (go_at_call 5; refine HK9.out.mono ?_; rintro e w1 ⟨rfl, b1⟩; have HB1 := Bx.mk b1; clear b1)
    go_ret
    exact ⟨rfl, HB1.out⟩
  have hb4 : decide ((m4 : Int) < (m2 : Int)) = false := decide_eq_false (by omega)
  have hb4' : decide (m4 < m2) = false := decide_eq_false hs4
  have HM := Bx.mk (show m2 ≤ 8 ∧ m2 ≤ m3 ∧ m2 ≤ m4 from ⟨by omega, by omega, by omega⟩)
  obtain ⟨c0, hc0⟩ : ∃ c0, clampN (n0.tmod 5000) = c0 := ⟨_, rfl⟩
  have hcl := clampN_le (n0.tmod 5000)
  have hce := clampN_eq (n0.tmod 5000)
  have hcc := clamp_twice (n0.tmod 5000)
  rw [hc0] at hcl hce hcc
  obtain ⟨x0, hx0⟩ : ∃ x, n0.tmod 5000 = x := ⟨_, rfl⟩
  obtain ⟨b1, hb1⟩ : ∃ x, n1.tmod 6 = x := ⟨_, rfl⟩
  rw [hx0] at hce
  have hb1r : -6 < b1 ∧ b1 < 6 := by
    rw [← hb1]
    exact ⟨by have := Int.lt_tmod_of_pos n1 (show (0:Int) < 6 by decide); omega, by have := Int.tmod_lt_of_pos n1 (show (0:Int) < 6 by decide); omega⟩
  obtain ⟨BL, hBL⟩ : ∃ BL, b1.toNat = BL := ⟨_, rfl⟩
  have hmb : max b1 0 = (BL : Int) := by omega
  have HNEW := Bx.mk (fun W => pqnew_any (c0 : Int) b1 (by omega) W)
  rw [hcc, hBL] at HNEW
  have HDEC := Bx.mk (fun W => newDec8_any (c0 : Int) (BL : Int) (by omega) W)
  rw [hcc] at HDEC
  simp only [Int.toNat_natCast] at HDEC
  have HCL := Bx.mk hcl
  clear hbig hs3 hs4 hm2 hm3 hm4 hc0 hcl hcc hb1r hBL hn0 hn1
  go_enter Tryz.func3, Tryz.ntmps3
  go_wp2_with (first
    | (go_at_call 5; refine HK9.out.mono ?_; rintro e w1 ⟨rfl, b1⟩; have HB1 := Bx.mk b1; clear b1)
    | (go_at_call 6; refine (HNEW.out _).mono ?_; rintro e w2 ⟨q, p, S2, rfl, hq2, hs2, b2⟩; have HU2 : Bx (Up w1.heap.size (Pq q p 0 (Qe.new c0 BL)) w2) := ⟨⟨S2, hq2, hs2⟩⟩; have HB2 := Bx.mk b2; clear hq2 hs2 b2)
    | (go_at_call 7; refine (HDEC.out _).mono ?_; rintro e w3 ⟨q2, t2, S3, rfl, hd3, hs3, b3⟩; have HU3 : Bx (Up w1.heap.size (Bw q p 0 (Qe.new c0 BL) q2 t2 ⟨[], 0, 0⟩ c0 BL [] 0) w3) := ⟨Up.add (Wd.pq _ _ _ _) HU2.out HB2.out.size b3 ⟨S3, hd3, hs3⟩⟩; have HB3 := Bx.mk (HB2.out.trans (b3.mono HB2.out.size)); clear hd3 hs3 b3))
  go_loopg [13] m2 (fun g s13 wx => ∃ (k N : Nat) (E : Qe) (TD : Tab) (out : List UInt8) (told : Nat), k + g = m2 ∧ s13 = .int .i64 k ∧ Bx (N ≤ 100 * k) ∧ Bx (Up w1.heap.size (Bw q p N E q2 t2 TD c0 BL out told) wx) ∧ Bx (Bk9 c0 BL k E TD out told) ∧ Bx (Below w1.heap.size w1 wx))
  case atStart => exact ⟨0, 0, _, _, _, _, by omega, rfl, ⟨Nat.zero_le _⟩, HU3, ⟨Bk9.start c0 BL HCL.out⟩, HB3⟩
  case round =>
    obtain ⟨k, N, E, TD, out, told, hkg, rfl, HNN, HU, HQ, HB⟩ := hrel
    clear HU3 HU2
    cases gk with
    | zero =>
      obtain rfl : k = m2 := by omega
      go_wp2_with fail
      go_ret
      exact ⟨rfl, HB1.out.trans (HB.out.mono HB1.out.size)⟩
    | succ g =>
      have hk2 : k < ll.length := by have := HN.out; omega
      have hk3 : k < us.length := by have := HN.out; have := HM.out; omega
      have hk4 : k < bs.length := by have := HN.out; have := HM.out; omega
      have hkd : decide ((k : Int) < (m2 : Int)) = true := decide_eq_true (by omega)
      have HKG := Bx.mk hkg
      have HWK : Bx (wrap64 ((k : Int) + 1) = ((k + 1 : Nat) : Int)) := ⟨(i64_keep (by have := HM.out; omega) (by have := HM.out; omega)).1⟩
      have HK8 : Bx (k < 8) := ⟨by have := HM.out; omega⟩
      obtain ⟨b, o, u, hix, ⟨ua, un, uc, rfl⟩, hfu, hcs⟩ := HV2.out.at_ k hk2
      have HCS := Bx.mk hcs
      have hbw : Below w.heap.size w wr := HB1.out.trans (HB.out.mono HB1.out.size)
      have hcell := (hcs wr (HV2.out.keep hbw)).1
      obtain ⟨l, hl⟩ : ∃ l, ll[k] = l := ⟨_, rfl⟩
      have hsm := HSM.out ll[k] (List.getElem_mem hk2)
      rw [hl] at hfu hsm HCS
      have HFU := Bx.mk hfu
      have HSL := Bx.mk hsm
      have hun : un = l.length := by
        obtain ⟨A, c, e, _⟩ := hfu
        injection e
      obtain ⟨pa3, hix3, hcs3⟩ := HV3.out.at_ k hk3
      obtain ⟨U, hU⟩ : ∃ U, us[k] = U := ⟨_, rfl⟩
      rw [hU] at hcs3
      obtain ⟨b4, o4, hix4, hcs4⟩ := HV4.out.at_ k hk4
      obtain ⟨ak, hak⟩ : ∃ ak, bs[k] = ak := ⟨_, rfl⟩
      rw [hak] at hcs4
      obtain ⟨s5, hs5⟩ : ∃ s5, U.toNat % 5 = s5 := ⟨_, rfl⟩
      have HS5 : Bx (s5 ≤ 4) := ⟨by omega⟩
      obtain ⟨UU, hUU⟩ := letter U.toNat
      have hrem : UU.tmod 5 = (s5 : Int) := by
        rw [← hUU, Int.tmod_eq_emod_of_nonneg (by omega)]
        omega
      rw [hUU] at hcs3
      obtain ⟨SS, hSS⟩ := letter s5
      rw [hSS] at hrem
      have HSS := Bx.mk hSS
      have hw8 : IntKind.u8.wrap SS = SS := by rw [IntKind.wrap_u8]; omega
      have hw64 : IntKind.u64.wrap SS = SS := u64_keep (by omega) (by omega)
      have HC3 : Bx (∀ W, Below w1.heap.size w1 W → W.cell? pa3 = some (.int .u8 UU)) := ⟨fun W hW => hcs3 W (Rd.keep HV3.out (HB1.out.trans (hW.mono HB1.out.size)))⟩
      have HC4 : Bx (∀ W, Below w1.heap.size w1 W → W.cell? ⟨b4, o4, none⟩ = some (.bool ak)) := ⟨fun W hW => hcs4 W (HV4.out.keep (HB1.out.trans (hW.mono HB1.out.size)))⟩
      clear hcs hfu hsm hl hk2 hk3 hk4 hcs3 hcs4 hU hak hUU hSS hs5 hbw
      by_cases hgt : 8 < un
      · have hd : decide (8 < un) = true := decide_eq_true hgt
        have hd2 : decide ((8 : Int) < (un : Int)) = true := decide_eq_true (by omega)
        clear hgt hun
        go_wp2_with fail
        go_ret
        exact ⟨rfl, HB1.out.trans (HB.out.mono HB1.out.size)⟩
      have hd : decide (8 < un) = false := decide_eq_false hgt
      have hd2 : decide ((8 : Int) < (un : Int)) = false := decide_eq_false (by omega)
      have HL8 : Bx (l.length ≤ 8) := ⟨by omega⟩
      obtain ⟨lb, hlb⟩ : ∃ lb, lightB l = lb := ⟨_, rfl⟩
      have HLB := Bx.mk hlb
      clear hgt hun hlb
      have HFSW : Bx (∀ W, Below w1.heap.size w1 W → Fs W (.slice ua un uc) l) := ⟨fun W hW => HFU.out.keep (HB1.out.trans (hW.mono HB1.out.size))⟩
      have HCELL : Bx (∀ W, Below w1.heap.size w1 W → W.cell? ⟨b, o, none⟩ = some (.slice ua un uc)) := ⟨fun W hW => (HCS.out W (HV2.out.keep (HB1.out.trans (hW.mono HB1.out.size)))).1⟩
      have HLG := Bx.mk (light_any (.slice ua un uc) l wr (HFSW.out wr HB.out) HSL.out)
      rw [HLB.out] at HLG
      clear HCS
      cases lb with
      | false =>
        go_wp2_with (go_at_call 8; refine HLG.out.mono ?_; rintro e w5 ⟨rfl, b5⟩; have HB5 := Bx.mk (HB.out.trans (b5.mono HB.out.size)); clear b5)
        go_ret
        exact ⟨rfl, HB1.out.trans (HB5.out.mono HB1.out.size)⟩
      | true =>
        have HLI := Bx.mk (light_of10 HLB.out)
        have HEA := Bx.mk (light_each10 HLI.out.2)
        obtain ⟨⟨nf, hfd⟩, hrd, hct, hwin, hgd, htot, hnext⟩ := HQ.out.enc (by have := HK8.out; omega) s5 HS5.out l HL8.out (fun f hf => by have := HEA.out f hf; omega)
        have HLEN := Bx.mk (enc_lens E HQ.out.good.gq s5 l HL8.out HLI.out.2)
        have HSEC : Bx (E.sec s5 l = qpre (E.acc s5 l).c (E.acc s5 l).c (c0 / 32) ++ linesW (E.acc s5 l).c (E.acc s5 l).all) := ⟨by unfold Qe.sec; rw [HQ.out.cap]⟩
        obtain ⟨E', hE'⟩ : ∃ E', E.enc s5 l = E' := ⟨_, rfl⟩
        have HSD : Bx (E'.said = true) := ⟨by rw [← hE']; rfl⟩
        have HENC := Bx.mk (fun (W : World) (hu : Up w1.heap.size (Bw q p N E q2 t2 TD c0 BL out told) W) (hb : Below w1.heap.size w1 W) => bw_enc (s := s5) hu hb.size HQ.out.good (by unfold okU; have := HS5.out; omega) (fun W' hW => HFSW.out W' (hb.trans hW)) (by have := HL8.out; omega) (fun f hf => by have := HEA.out f hf; omega) (by rw [HQ.out.cap]; have := HCL.out; omega) (by have := HQ.out.tot; have := HK8.out; omega) (by have := HNN.out; have := HK8.out; omega))
        rw [hE'] at hnext HENC
        simp only [HSS.out] at HENC
        have HNX := Bx.mk hnext
        have HFD := Bx.mk hfd
        have HRD := Bx.mk (And.intro hrd (And.intro hct (And.intro hwin (And.intro hgd htot))))
        obtain ⟨out', hout'⟩ : ∃ x, (if 0 < (E.acc s5 l).c then out ++ pre 128 7 s5 else out) = x := ⟨_, rfl⟩
        obtain ⟨told', htold'⟩ : ∃ x, (if 0 < (E.acc s5 l).c then max told (E.acc s5 l).c else told) = x := ⟨_, rfl⟩
        have HOT := Bx.mk (And.intro hout' htold')
        rw [hout', htold'] at HNX
        have hc3 := HC3.out wr HB.out
        clear hnext hfd hrd hct hwin hgd htot hE' hout' htold'
        go_upto_region 14 with (first
          | (go_at_call 8; refine HLG.out.mono ?_; rintro e w5 ⟨rfl, b5⟩; have HB5 := Bx.mk (HB.out.trans (b5.mono HB.out.size)); have HU5 := Bx.mk (HU.out.keep Wd.bw b5); have hcell5 := HCELL.out w5 HB5.out; have hc35 := HC3.out w5 HB5.out; clear b5 hcell hc3)
          | (go_at_call 9; refine (HENC.out w5 HU5.out HB5.out).mono ?_; rintro e w6 ⟨a6, v6, rfl, N6, hn6, hu6, hb6⟩; have HN6 := Bx.mk hn6; have HU6 := Bx.mk hu6; have HB6 := Bx.mk (HB5.out.trans hb6); clear hn6 hu6 hb6 hcell5 hc35))
        have HGD := Bx.mk HQ.out.gdD
        have HFE := Bx.mk (bw_feed HU6.out HB6.out.size (by have := HLEN.out.1; omega) HCL.out HGD.out.1 (by have := HGD.out.2; have := HK8.out; omega) HFD.out)
        have hsec2 := HSEC.out
        have hTL := HQ.out.toldle
        have hTT := HQ.out.tot
        have hOL : out.length ≤ 100 := by rw [HQ.out.out]; have h1 := acksW_len E.op; have h2 := HQ.out.len; have := HK8.out; omega
        have HDE := Bx.mk (fun (w7 : World) (hu : Up w1.heap.size (Both (Bw q p N6 E' q2 t2 (E.acc s5 l).T c0 BL out told) (Owb v6 (E.sec s5 l))) w7) (hb : Below w1.heap.size w1 w7) => bw_decode (s := s5) (c := (E.acc s5 l).c) (l := l) (hsec2 ▸ hu) hb.size HCL.out (by rw [← hsec2]; have := HLEN.out.2; omega) HRD.out.2.1 HRD.out.2.2.1 (by have := HRD.out.2.2.2.2; have := HK8.out; omega) HRD.out.1 (by have := HL8.out; omega) (by have := HS5.out; omega) (by omega) (by have := HK8.out; omega))
        rw [HOT.out.1, HOT.out.2] at HDE
        simp only [HSS.out] at HDE
        clear hsec2 hTL hTT hOL
        have hc4 := HC4.out
        clear hc4 HENC HLG HSEC
        go_upto_region 17 with (first
          | (go_at_call 10; refine HFE.out.mono ?_; rintro e w7 ⟨rfl, hu7, hb7⟩; have HU7 := Bx.mk hu7; have HB7 := Bx.mk (HB6.out.trans hb7); clear hu7 hb7)
          | (go_at_call 11; refine (HDE.out w7 HU7.out HB7.out).mono ?_; rintro e w8 ⟨v8, rfl, hf8, hu8, hb8⟩; have HF8 := Bx.mk hf8; have HU8 := Bx.mk hu8; have HB8 := Bx.mk (HB7.out.trans hb8); clear hf8 hu8 hb8))
        have hcell8 := HCELL.out w8 HB8.out
        have HFLD := Bx.mk (fields_any v8 (.slice ua un uc) l l w8 HF8.out (HFSW.out w8 HB8.out))
        rw [show decide (l = l) = true from by simp] at HFLD
        clear HDE HFE HU6 HU7
        go_upto_region 19 with (go_at_call 12; refine HFLD.out.mono ?_; rintro e w9 ⟨rfl, b9⟩; have HU9 := Bx.mk (HU8.out.keep Wd.bw b9); have HB9 := Bx.mk (HB8.out.trans (b9.mono HB8.out.size)); clear b9 hcell8)
        have hc4 := HC4.out w9 HB9.out
        clear HU8 HFLD
        cases ak with
        | false =>
          go_wp2_with fail
          go_roundg g
          case measure => omega
          case rel => exact ⟨k + 1, N6, E', _, _, _, by have := HKG.out; omega, by rw [HWK.out], ⟨by have := HN6.out; have := HNN.out; have := HL8.out; omega⟩, HU9, HNX, HB9⟩
        | true =>
          obtain ⟨hfeed, htt, hsl, hnx⟩ := HNX.out.send (by have := HK8.out; omega) HSD.out
          have hTL := HNX.out.toldle
          have hOL : out'.length ≤ 1000 := by rw [HNX.out.out]; have h1 := acksW_len E'.op; have h2 := HNX.out.len; have := HK8.out; omega
          have HSE := Bx.mk (bw_send HU9.out HB9.out.size (by omega) (by rw [htt]; exact hTL) (by have := HRD.out.2.2.2.2; have := HK8.out; omega))
          rw [htt] at HSE
          have HEF := Bx.mk (fun (W : World) (v : Value) (hu : Up w1.heap.size (Both (Bw q p N6 E' q2 t2 (E.acc s5 l).T c0 BL [] E'.T.tot) (Owb v (sendW out' told' E'.T.tot))) W) (hb : Below w1.heap.size w1 W) => bw_efeed hu hb.size HNX.out.good (by have := HN6.out; have := HNN.out; have := HL8.out; have := HK8.out; omega) (by omega) (by rw [HNX.out.rest]; exact Nat.zero_le _))
          rw [hfeed] at HEF
          have HNX2 := Bx.mk hnx
          clear hfeed htt hsl hnx hTL hOL
          go_wp2_with (first
            | (go_at_call 14; refine HSE.out.mono ?_; rintro e w10 ⟨v10, rfl, hu10, hb10⟩; have HU10 := Bx.mk hu10; have HB10 := Bx.mk (HB9.out.trans hb10); clear hu10 hb10)
            | (go_at_call 13; refine (HEF.out w10 v10 HU10.out HB10.out).mono ?_; rintro e w11 ⟨rfl, hu11, hb11⟩; have HU11 := Bx.mk hu11; have HB11 := Bx.mk (HB10.out.trans hb11); clear hu11 hb11))
          go_roundg g
          case measure => omega
          case rel => exact ⟨k + 1, N6, _, _, _, _, by have := HKG.out; omega, by rw [HWK.out], ⟨by have := HN6.out; have := HNN.out; have := HL8.out; omega⟩, HU11, HNX2, HB11⟩
end Go.Proofs.YtebakjdeighdnaaGreat
