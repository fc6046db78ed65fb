/-
  bifoldlaw10.QdecOrder answers true, whatever its arguments: the walk.
-/
import Derived.Test.YteopmaaghhendaaM38
import Derived.Test.YteopmaaghhendaaM36
import Derived.Test.YteopmaaghhendaaM08
import Derived.Test.YteopmaaghhendaaM12
import Derived.Deep.CutRange
import Derived.Deep.CutBlock
import Derived.Deep.RegionHeld
import Derived.BigQuiet
import Derived.Handy
namespace Go.Proofs.Yteopmaaghhendaa
open Go.RowKit Go.Maps
set_option linter.unusedVariables false
set_option linter.unusedSimpArgs false

theorem infoSl : (Try.prog.info? 23).map (fun i => (i.zero, i.size, i.bytes)) = some (some (.slice none 0 0), 1, 24) := by kernel_rfl
theorem getD_of {α : Type} {l : List α} {k : Nat} {d : α} (h : k < l.length) : l.getD k d = l[k] := by simp [List.getD_eq_getElem?_getD, h]
theorem rS_snoc (ll : List (List Fd)) (k : Nat) : (List.range (k + 1)).map (rS ll) = (List.range k).map (rS ll) ++ [rS ll k] := by rw [List.range_succ]; simp
theorem fields_same (va vb : Value) (l : List Fd) (w : World) (ha : Fs w va l) (hb : Fs w vb l) :
    Calls Try.prog 21 #[va, vb] w fun e w' => e = .returned (.bool true) ∧ Below w.heap.size w w' := by
  have h := fields_any va vb l l w ha hb
  rw [show decide (l = l) = true from by simp] at h
  exact h
theorem turn_at (n1 : Int) (t k i kk : Nat) (KK : Int) (ht : (t : Int) = n1) (h256 : t < 256) (hik : i < k) (hk6 : k ≤ 6) (hkk : tK k t i = kk) (hKK : (kk : Int) = KK) :
    ∃ SI : Int, wrap64 ((i : Int) + n1) = SI ∧ IntKind.i64.wrap ((i : Int) + n1) = SI ∧ SI.tmod (k : Int) = KK ∧ ¬ ((k : Int) = 0) ∧ IntKind.i64.wrap n1 = n1 ∧ IntKind.u64.wrap KK = KK ∧ IntKind.i64.wrap KK = KK ∧ wrap64 ((i : Int) + 1) = ((i + 1 : Nat) : Int) := by
  subst ht
  have hlt : kk < k := hkk ▸ tK_lt hik
  have e1 := i64_keep (x := (i : Int) + (t : Int)) (by omega) (by omega)
  refine ⟨(i : Int) + (t : Int), e1.1, e1.2, ?_, by omega, (i64_keep (by omega) (by omega)).2, u64_keep (by omega) (by omega), (i64_keep (by omega) (by omega)).2, (i64_keep (by omega) (by omega)).1⟩
  rw [← hKK, ← hkk]
  unfold tK
  rw [← Int.natCast_add, Int.tmod_eq_emod_of_nonneg (by omega), Int.natCast_emod]
theorem waits_at (W1 W2 : Nat) (h : W2 = W1 + 1) (hw : W1 ≤ 6) : wrap64 ((W1 : Int) + 1) = (W2 : Int) ∧ IntKind.i64.wrap ((W1 : Int) + 1) = (W2 : Int) := by
  subst h
  exact i64_keep (by omega) (by omega)
set_option maxRecDepth 100000 in
set_option maxHeartbeats 16000000 in
theorem qdecOrder_walk (v0 : Value) (vs : List Value) (ll : List (List Fd)) (n1 : Int) (hn1 : (Lit.int .u8 n1).wf = true) (w : World) (hv0 : Fss w v0 vs ll) (hsm : ∀ l ∈ ll, Small l) :
    Calls Try.prog 5 #[v0, .int .u8 n1] w fun e w' => e = .returned (.bool true) ∧ Below w.heap.size w w' := by
  have HV := Bx.mk hv0
  have HSM := Bx.mk hsm
  have hlen := fun ty W => hv0.run_len ty W
  obtain ⟨m, hm⟩ : ∃ n, ll.length = n := ⟨_, rfl⟩
  rw [hm] at hlen
  have HM := Bx.mk hm
  have HK := Bx.mk (known10_any w)
  have hmx := Rd.len hv0.1
  have hvl := hv0.2.1
  rw [hm] at hvl
  rw [hvl] at hmx
  simp only [maxLen] at hmx
  clear hv0 hsm hvl hm
  have r1 : 0 ≤ n1 ∧ n1 < 256 := by
    simp [Lit.wf, IntKind.min, IntKind.max, IntKind.signed, IntKind.bits] at hn1
    omega
  by_cases hbig : 6 < m
  · have hbb : decide (6 < (m : Int)) = true := decide_eq_true (by omega)
    have hbb' : decide (6 < m) = true := decide_eq_true hbig
    clear hbig hn1 r1 hmx
    go_enter Try.func5, Try.ntmps5
    go_wp2_with (go_at_call 7; refine HK.out.mono ?_; rintro e w1 ⟨rfl, b1⟩; have HB1 := Bx.mk b1; clear b1)
    go_ret
    exact ⟨rfl, HB1.out⟩
  have hbb : decide (6 < (m : Int)) = false := decide_eq_false (by omega)
  have hbb' : decide (6 < m) = false := decide_eq_false hbig
  have HM6 : Bx (m ≤ 6) := ⟨by omega⟩
  obtain ⟨t, ht⟩ : ∃ t : Nat, (t : Int) = n1 := ⟨n1.toNat, by omega⟩
  have HT := Bx.mk (show (t : Int) = n1 ∧ t < 256 from ⟨ht, by omega⟩)
  have HNE := Bx.mk (fun W => newEnc8_any 4096 9 (by omega) W)
  have HND := Bx.mk (fun W => dnew_any 4096 9 (by omega) W)
  obtain ⟨i0, hi, hzz, hz1, hz2⟩ := info_parts infoU8
  have HI : Bx (Try.prog.info? 5 = some i0 ∧ i0.zero = some (.int .u8 0) ∧ i0.size = 1 ∧ i0.bytes = 1) := ⟨hi, hzz, hz1, hz2⟩
  clear hi hzz hz1 hz2
  obtain ⟨j0, hi, hzz, hz1, hz2⟩ := info_parts infoSl
  have HJ : Bx (Try.prog.info? 23 = some j0 ∧ j0.zero = some (.slice none 0 0) ∧ j0.size = 1 ∧ j0.bytes = 24) := ⟨hi, hzz, hz1, hz2⟩
  clear hi hzz hz1 hz2 hbig hn1 r1 ht hmx
  go_enter Try.func5, Try.ntmps5
  go_wp2_with (first
    | (go_at_call 7; refine HK.out.mono ?_; rintro e w1 ⟨rfl, b1⟩; have HB1 := Bx.mk b1; clear b1)
    | (go_at_call 18; refine (HNE.out _).mono ?_; rintro e w2 h2; obtain ⟨q, t8, rfl, hu2, b2⟩ := uo_new h2; have HU2 := Bx.mk hu2; have HB2 := Bx.mk b2; clear h2 hu2 b2)
    | (go_at_call 8; refine (HND.out _).mono ?_; rintro e w3 ⟨q2, p2, S3, rfl, h3, hs3, b3⟩; have HU3 : Bx (Up w1.heap.size (Both (Both (E8 q t8 (Qe.new 4096 9)) (Dq q2 p2 (Qr.new 4096 9))) (Both (Owb (.slice none 0 0) []) (Rwv (.slice none 0 0) [] []))) w3) := ⟨(Up.add (Wd.e8 _ _ _) HU2.out HB2.out.size b3 ⟨S3, h3, hs3⟩).rows0⟩; have HB3 := Bx.mk (HB2.out.trans (b3.mono HB2.out.size)); clear h3 hs3 b3))
  clear HNE HND HK hbb hbb' HU2 HB2
  go_loopg [7, 8, 9] m (fun g s7 s8 s9 wx => ∃ (k : Nat) (us : List Value), k + g = m ∧ s9 = .int .i64 k ∧ us.length = k ∧ Bx (rLt ll k) ∧ Bx (Up w1.heap.size (Both (E8 q t8 (rE ll k)) (Both (Dq q2 p2 (Qr.new 4096 9)) (Both (Owb s7 (rI ll k)) (Rwv s8 us ((List.range k).map (rS ll)))))) wx) ∧ Bx (Below w1.heap.size w1 wx))
  case atStart => exact ⟨0, [], by omega, rfl, rfl, ⟨fun i hi => by omega⟩, ⟨HU3.out.ac (Both.assoc _ _ _)⟩, HB3⟩
  case round =>
    clear HU3 HB3
    obtain ⟨k, us, hkg, rfl, hul, HLT, HU, HB⟩ := hrel
    have HUL := Bx.mk hul
    clear hul
    cases gk with
    | succ g =>
      have hkm : k < m := by omega
      have hk6 : k < 6 := by have := HM6.out; omega
      have hkl : k < ll.length := by have := HM.out; omega
      have hkd : decide ((k : Int) < (m : Int)) = true := decide_eq_true (by omega)
      have hkd' : decide (k < m) = true := decide_eq_true hkm
      have HKG := Bx.mk (And.intro hkg (And.intro hkm hk6))
      have HWK : Bx (wrap64 ((k : Int) + 1) = ((k + 1 : Nat) : Int)) := ⟨(i64_keep (by omega) (by omega)).1⟩
      obtain ⟨b, o, u, hix, ⟨ua, un, uc, rfl⟩, hfu, hcs⟩ := HV.out.at_ k hkl
      have HCS := Bx.mk hcs
      have hbw : Below w.heap.size w wr := HB1.out.trans (HB.out.mono HB1.out.size)
      have hcell := (hcs wr (HV.out.keep hbw)).1
      obtain ⟨l, hl⟩ : ∃ l, ll[k] = l := ⟨_, rfl⟩
      have hsm := HSM.out ll[k] (List.getElem_mem hkl)
      have HLD : Bx (ll.getD k [] = l) := ⟨by rw [getD_of hkl, hl]⟩
      rw [hl] at hfu hsm HCS
      have HFU := Bx.mk hfu
      have HSL := Bx.mk hsm
      have hun : un = l.length := by
        obtain ⟨A, c, e, _⟩ := hfu
        injection e
      clear hcs hfu hsm hl hkl hkm hk6 hkg
      by_cases hgt : 6 < un
      · have hd : decide (6 < un) = true := decide_eq_true hgt
        have hd2 : decide ((6 : Int) < (un : Int)) = true := decide_eq_true (by omega)
        clear hgt hun  hbw
        go_wp2_with fail
        go_ret
        exact ⟨rfl, HB1.out.trans (HB.out.mono HB1.out.size)⟩
      have hd : decide (6 < un) = false := decide_eq_false hgt
      have hd2 : decide ((6 : Int) < (un : Int)) = false := decide_eq_false (by omega)
      have HL6 : Bx (l.length ≤ 6) := ⟨by omega⟩
      have HFSW : Bx (∀ W, Below w1.heap.size w1 W → Fs W (.slice ua un uc) l) := ⟨fun W hW => HFU.out.keep (HB1.out.trans (hW.mono HB1.out.size))⟩
      have HCELL : Bx (∀ W, Below w1.heap.size w1 W → W.cell? ⟨b, o, none⟩ = some (.slice ua un uc)) := ⟨fun W hW => (HCS.out W (HV.out.keep (HB1.out.trans (hW.mono HB1.out.size)))).1⟩
      obtain ⟨lb, hlb⟩ : ∃ lb, lightB l = lb := ⟨_, rfl⟩
      have HLB := Bx.mk hlb
      have HLG := Bx.mk (light_any (.slice ua un uc) l wr (HFSW.out wr HB.out) HSL.out)
      rw [HLB.out] at HLG
      clear HCS hgt hun  hbw hlb
      cases lb with
      | false =>
        go_wp2_with (go_at_call 19; refine HLG.out.mono ?_; rintro e w5 ⟨rfl, b5⟩; have HB5 := Bx.mk (HB.out.trans (b5.mono HB.out.size)); clear b5)
        go_ret
        exact ⟨rfl, HB1.out.trans (HB5.out.mono HB1.out.size)⟩
      | true =>
        have HLI := Bx.mk (light_of11 HLB.out)
        have HEA := Bx.mk (light_each11 HLI.out.2)
        have HR := Bx.mk (rk_of (by have := HKG.out.2.2; omega) HLT.out)
        have HLN : Bx (rLt ll (k + 1)) := ⟨HLT.out.succ (by rw [HLD.out]; exact HL6.out) (by rw [HLD.out]; exact HLI.out.2)⟩
        have hE1 : (rE ll k).enc k l = rE ll (k + 1) := by rw [← HLD.out]; rfl
        have hE2 : ((rE ll k).acc k l).ins = (rA ll k).ins := by rw [← HLD.out]; rfl
        have hE3 : (rE ll k).sec k l = rS ll k := by rw [← HLD.out]; rfl
        have HAL := Bx.mk (rA_len (i := k) (by have := HKG.out.2.2; omega) HLN.out (Nat.lt_succ_self k))
        have HIL := Bx.mk (rI_len k k (Nat.le_refl _) (by have := HKG.out.2.2; omega) HLT.out)
        have HENC := Bx.mk (fun (W : World) (hu : Up w1.heap.size (Both (E8 q t8 (rE ll k)) (Both (Dq q2 p2 (Qr.new 4096 9)) (Both (Owb u7 (rI ll k)) (Rwv u8 us ((List.range k).map (rS ll)))))) W) (hb : Below w1.heap.size w1 W) => uo_enc (s := k) (l := l) (lV := .slice ua un uc) ((Wd.dq _ _ _).both ((Wd.owb _ _).both (Wd.rwv _ _ _))) hu hb.size HR.out.ro.good.gq (fun W' hW => HFSW.out W' (hb.trans hW)) (by have := HL6.out; omega) (by have := wsz_le11 l; have := HL6.out; have := HLI.out.2; omega) (by have := HR.out.ro.tot; have := HL6.out; have := HKG.out.2.2; omega) (fun f hf => (HEA.out f hf).2.2) (by have := HR.out.ro.len; have := HKG.out.2.2; omega) (by have := HKG.out.2.2; omega) (k : Int) rfl)
        rw [hE1, hE2, hE3] at HENC
        have hw64 : IntKind.u64.wrap (k : Int) = (k : Int) := u64_keep (by have := HKG.out.2.2; omega) (by have := HKG.out.2.2; omega)
        clear hE1 hE2 hE3
        go_upto_region 14 with (first
          | (go_at_call 19; refine HLG.out.mono ?_; rintro e w5 ⟨rfl, b5⟩; have HB5 := Bx.mk (HB.out.trans (b5.mono HB.out.size)); have HU5 := Bx.mk (HU.out.keep ((Wd.e8 _ _ _).both ((Wd.dq _ _ _).both ((Wd.owb _ _).both (Wd.rwv _ _ _)))) b5); have hcell5 := HCELL.out w5 HB5.out; clear b5 hcell)
          | (go_at_call 20; refine (HENC.out w5 HU5.out HB5.out).mono ?_; rintro e w6 ⟨a6, v6, rfl, hu6, hb6⟩; have HU6 := Bx.mk hu6; have HB6 := Bx.mk (HB5.out.trans hb6); clear hu6 hb6 hcell5))
        have HAB : Bx (Bs w6 a6 (rA ll k).ins ∧ Bs w6 v6 (rS ll k)) := ⟨by obtain ⟨S, ho, _⟩ := HU6.out.snd; exact ho.get⟩
        have HOI : Bx (OwB w6 0 u7 (rI ll k)) := ⟨by have h : Up w1.heap.size (Both (Both (Both (E8 q t8 (rE ll (k + 1))) (Dq q2 p2 (Qr.new 4096 9))) (Both (Rwv u8 us ((List.range k).map (rS ll))) (Ob fun W => Bs W a6 (rA ll k).ins ∧ Bs W v6 (rS ll k)))) (Owb u7 (rI ll k))) w6 := HU6.out.ac (by ac_rfl)
                                                     exact h.owb⟩
        obtain ⟨vA, vn, vc, rfl⟩ : ∃ A n c, v6 = .slice A n c := by obtain ⟨A, c, e, _⟩ := HAB.out.2; exact ⟨_, _, _, e⟩
        go_wp2_with (first
          | (at_builtin; refine wpList_append_fw _ rfl (.tmp 58) (.tmp 59) 23 rfl 0 5 i0 (.int .u8 0) 1 Try.underlying23 HI.out.1 HI.out.2.1 HI.out.2.2.1 HI.out.2.2.2 rfl _ _ _ _ rfl rfl HOI.out HAB.out.1 one_bv (by have := HIL.out; have := HAL.out; have := HKG.out.2.2; simp only [List.length_map]; omega) (by have := HIL.out; have := HAL.out; have := HKG.out.2.2; simp only [List.length_map, maxLen]; omega) (Nat.zero_le _) ?_; intro v7 w7 ho7 _ hf7; obtain ⟨hu7, hb7⟩ := uo_app1 (Wd.e8 _ _ _) (Wd.dq _ _ _) HU6.out HB6.out.size hf7 (OwB.cat ho7); have HU7 := Bx.mk hu7; have HB7 := Bx.mk (HB6.out.trans hb7); clear hu7 hb7 ho7 hf7)
          | (at_builtin; refine wpList_append_fw _ rfl (.tmp 61) (.tmp 63) 46 rfl 0 23 j0 (.slice none 0 0) 24 Try.underlying46 HJ.out.1 HJ.out.2.1 HJ.out.2.2.1 HJ.out.2.2.2 rfl _ _ us [.slice vA vn vc] rfl rfl (uo_orw HU7.out _) (Rd.lit w7 23 #[.slice vA vn vc] 1 rfl (by simp [maxLen])) (by simp [Value.oneCell']) (by have := HUL.out; have := HKG.out.2.2; simp; omega) (by have := HUL.out; have := HKG.out.2.2; simp [maxLen]; omega) (Nat.zero_le _) ?_; intro v8 w8 ho8 _ hf8; obtain ⟨hu8, hb8⟩ := uo_app2 (Wd.e8 _ _ _) (Wd.dq _ _ _) (Wd.owb _ _) HU7.out HB7.out.size ((Below.refl w7.heap.size w7).alloc (Nat.le_refl _) _) hf8 ho8; have HU8 := Bx.mk hu8; have HB8 := Bx.mk (HB7.out.trans hb8); clear hu8 hb8 ho8 hf8))
        try go_wp2_with fail
        go_roundg g
        case measure => omega
        case rel => exact ⟨k + 1, us ++ [.slice vA vn vc], by have := HKG.out.1; omega, by rw [HWK.out], by have := HUL.out; simp; omega, HLN, ⟨by rw [rS_snoc]; exact HU8.out⟩, HB8⟩
    | zero =>
      obtain rfl : k = m := by omega
      clear hkg
      have hkd : decide ((k : Int) < (k : Int)) = false := by simp
      have hkd' : decide (k < k) = false := by simp
      have HKL : Bx (k = ll.length) := ⟨HM.out.symm⟩
      obtain ⟨Y, hY⟩ : ∃ Y : Wx, Both (E8 q t8 (rE ll k)) (Both (Owb u7 (rI ll k)) (Rwv u8 us ((List.range k).map (rS ll)))) = Y := ⟨_, rfl⟩
      have HYE : Bx (Both (E8 q t8 (rE ll k)) (Both (Owb u7 (rI ll k)) (Rwv u8 us ((List.range k).map (rS ll)))) = Y) := ⟨hY⟩
      have HYW : Bx (Wd Y) := ⟨by rw [← hY]; exact (Wd.e8 _ _ _).both ((Wd.owb _ _).both (Wd.rwv _ _ _))⟩
      have HYI : Bx (∀ W S2, Y W S2 → Bs W u7 (rI ll k)) := ⟨fun W S2 h => by rw [← hY] at h; obtain ⟨S3, h3, _⟩ := h.snd; obtain ⟨S4, h4, _⟩ := h3.fst; exact h4.1.bs⟩
      have HYS : Bx (∀ W S2, Y W S2 → Bss W u8 us ((List.range k).map (rS ll))) := ⟨fun W S2 h => by rw [← hY] at h; obtain ⟨S3, h3, _⟩ := h.snd; obtain ⟨S4, h4, _⟩ := h3.snd; exact h4.bss⟩
      have HU0 : Bx (Up w1.heap.size (Both (Dq q2 p2 (x2 (rC ll) k t 0)) Y) wr) := ⟨by rw [← x2_zero, ← hY]; exact HU.out.ac (by ac_rfl)⟩
      have HUS : Bx (∀ (W : World) (X : Qr), Up w1.heap.size (Both (Dq q2 p2 X) Y) W → Bss W u8 us ((List.range k).map (rS ll))) := ⟨fun W X h => by obtain ⟨S, h1, _⟩ := h.snd; exact HYS.out W S h1⟩
      have hlenS := fun ty W => (HUS.out wr _ HU0.out).run_len ty W
      simp only [List.length_map, List.length_range] at hlenS
      clear hY HU HUL
      go_wp2_with fail
      go_loopg [12, 13] k (fun g s12 s13 wx => ∃ i : Nat, i + g = k ∧ s13 = .int .i64 i ∧ s12 = .int .i64 ((wl2 (rC ll) k t i).length : Int) ∧ Bx (Up w1.heap.size (Both (Dq q2 p2 (x2 (rC ll) k t i)) Y) wx) ∧ Bx (Below w1.heap.size w1 wx))
      case atStart => exact ⟨0, by omega, rfl, rfl, HU0, HB⟩
      case round =>
        clear HU0 HB hkd hkd'
        obtain ⟨i, hig, rfl, rfl, HU, HB⟩ := hrel
        cases gk with
        | succ g =>
          have hik : i < k := by omega
          have hid : decide ((i : Int) < (k : Int)) = true := decide_eq_true (by omega)
          have hid' : decide (i < k) = true := decide_eq_true hik
          obtain ⟨kk, hkk⟩ : ∃ kk, tK k t i = kk := ⟨_, rfl⟩
          have hkkl : kk < k := hkk ▸ tK_lt hik
          have hkln : kk < ll.length := by have := HKL.out; omega
          have HBS := Bx.mk (HUS.out wr _ HU.out)
          obtain ⟨bs, os, A3, m3, c3, hixs, hcss⟩ := sec_at HBS.out kk hkkl
          obtain ⟨bl, ol, ul, hixl, ⟨la, ln, lc, rfl⟩, hfl, hcl⟩ := HV.out.at_ kk hkln
          have HLE : Bx (ll[kk] = ll.getD kk []) := ⟨(getD_of hkln).symm⟩
          rw [HLE.out] at hfl
          obtain ⟨hpos, hfst, hfst0⟩ := rS_first HM6.out HLT.out hkkl
          obtain ⟨pa, hix0, hcs0⟩ := ((hcss wr HBS.out).2).at_ 0 hpos
          rw [show ((0 : Nat) : Int) = 0 from rfl] at hix0
          obtain ⟨XI, hXI⟩ : ∃ X : Int, (((rS ll kk)[0]'hpos).toNat : Int) = X := ⟨_, rfl⟩
          rw [hXI] at hfst hfst0
          obtain ⟨KK, hKK⟩ := letter kk
          rw [hKK] at hixs hixl
          have HCS : Bx (∀ W, Bss W u8 us ((List.range k).map (rS ll)) → W.cell? ⟨bs, os, none⟩ = some (.slice A3 m3 c3) ∧ W.cell? pa = some (.int .u8 XI)) := ⟨fun W hW => ⟨(hcss W hW).1, by rw [← hXI]; exact hcs0 W (hcss W hW).2⟩⟩
          have HBV : Bx (∀ W S2, Y W S2 → Bs W (.slice A3 m3 c3) (rS ll kk)) := ⟨fun W S2 h => (hcss W (HYS.out W S2 h)).2⟩
          have HCL : Bx (∀ W, Below w1.heap.size w1 W → W.cell? ⟨bl, ol, none⟩ = some (.slice la ln lc)) := ⟨fun W hW => (hcl W (HV.out.keep (HB1.out.trans (hW.mono HB1.out.size)))).1⟩
          have HFL : Bx (∀ W, Below w1.heap.size w1 W → Fs W (.slice la ln lc) (ll.getD kk [])) := ⟨fun W hW => hfl.keep (HB1.out.trans (hW.mono HB1.out.size))⟩
          have ht := HT.out
          have hk6 := HM6.out
          obtain ⟨SI, hs1, hs2, hrem, hk0, hw8, hwk, hwk2, hwi⟩ := turn_at n1 t k i kk KK ht.1 ht.2 hik hk6 hkk hKK
          have hwl := wl2_len (rC ll) k t i
          have HIG := Bx.mk (And.intro hig hik)
          have HKK := Bx.mk (And.intro hkk hKK)
          obtain ⟨hcell, hbyte⟩ := HCS.out wr HBS.out
          by_cases hc : 0 < rC ll kk
          · obtain ⟨hx1, hx2⟩ := hfst hc
            have hwt := (x2_wait (c := rC ll) hik hk6 (show 0 < rC ll (tK k t i) by rw [hkk]; exact hc)).2
            obtain ⟨W2, hW2⟩ : ∃ x, (wl2 (rC ll) k t (i + 1)).length = x := ⟨_, rfl⟩
            obtain ⟨W1, hW1⟩ : ∃ x, (wl2 (rC ll) k t i).length = x := ⟨_, rfl⟩
            rw [hW1] at hwt hwl
            rw [hW2] at hwt
            obtain ⟨hww, hww2⟩ := waits_at W1 W2 hwt (Nat.le_trans hwl (Nat.le_of_lt (Nat.lt_of_lt_of_le hik hk6)))
            have HWT := Bx.mk (fun (W : World) (h : Up w1.heap.size (Both (Dq q2 p2 (x2 (rC ll) k t (i + 1))) Y) W) => uo_waiting2 h)
            rw [hW2] at HWT
            have HDE := Bx.mk (uo_wait HYW.out HU.out HB.out.size HM6.out HLT.out hik kk hkk hc KK hKK (.slice A3 m3 c3) HBV.out)
            have HW2 := Bx.mk hW2
            rw [hW1]
            clear hcss hcl hfl hfst hfst0 hcs0 hXI ht hk6 hwl hig hik hkkl HLE hkln hkk hKK hc hwt hW1 hW2
            go_wp2_with (first
              | (go_at_call 15; refine HDE.out.mono ?_; rintro e w5 ⟨rfl, hu5, hb5⟩; have HU5 := Bx.mk hu5; have HB5 := Bx.mk (HB.out.trans hb5); obtain ⟨hcell5, hbyte5⟩ := HCS.out w5 (HUS.out w5 _ HU5.out); clear hu5 hb5 hcell hbyte)
              | (go_at_call 16; refine (HWT.out _ HU5.out).mono ?_; rintro e w6 ⟨rfl, rfl⟩))
            go_roundg g
            case measure => omega
            case rel => exact ⟨i + 1, by have := HIG.out.1; omega, by rw [hwi], by rw [HW2.out], HU5, HB5⟩
          · have hc0 : rC ll kk = 0 := Nat.eq_zero_of_not_pos hc
            have hx := hfst0 hc0
            have hwt := (x2_read (c := rC ll) hik (show rC ll (tK k t i) = 0 by rw [hkk]; exact hc0)).2
            have HWT := Bx.mk hwt
            have HDE := Bx.mk (uo_read0 HYW.out HU.out HB.out.size HM6.out HLT.out hik kk hkk hc0 KK hKK (.slice A3 m3 c3) HBV.out)
            rw [hx] at hbyte HCS
            obtain ⟨W1, hW1⟩ : ∃ x, (wl2 (rC ll) k t i).length = x := ⟨_, rfl⟩
            have HW1 := Bx.mk hW1
            rw [hW1]
            clear hcss hcl hfl hfst hfst0 hcs0 hXI ht hk6 hwl hig hik hkkl HLE hkln hkk hKK hc hc0 hx hwt hW1
            go_wp2_with (first
              | (go_at_call 15; refine HDE.out.mono ?_; rintro e w5 ⟨v5, rfl, hu5, hb5⟩; have HF5 := Bx.mk (uo_owf hu5); have HU5 := Bx.mk (uo_drop hu5); have HB5 := Bx.mk (HB.out.trans hb5); obtain ⟨hcell5, hbyte5⟩ := HCS.out w5 (HUS.out w5 _ HU5.out); have hcl5 := HCL.out w5 HB5.out; clear hu5 hb5 hcell hbyte)
              | (go_at_call 21; refine (fields_same v5 _ _ _ HF5.out (HFL.out _ HB5.out)).mono ?_; rintro e w6 ⟨rfl, b6⟩; have HU6 := Bx.mk (HU5.out.keep ((Wd.dq _ _ _).both HYW.out) b6); have HB6 := Bx.mk (HB5.out.trans (b6.mono HB5.out.size)); clear b6))
            go_roundg g
            case measure => omega
            case rel => exact ⟨i + 1, by have := HIG.out.1; omega, by rw [hwi], by rw [HWT.out, HW1.out], HU6, HB6⟩
        | zero =>
          obtain rfl : k = i := by omega
          clear hig
          have hid : decide ((k : Int) < (k : Int)) = false := by simp
          have hid' : decide (k < k) = false := by simp
          have HFE := Bx.mk (uo_feed HYW.out HU.out HB.out.size HM6.out HLT.out u7 HYI.out)
          go_wp2_with (go_at_call 10; refine HFE.out.mono ?_; rintro e w5 ⟨rfl, hu5, hb5⟩; have HU5 := Bx.mk hu5; have HB5 := Bx.mk (HB.out.trans hb5); clear hu5 hb5)
          clear HFE HU HB hid hid'
          go_loopg [17] k (fun g s17 wx => ∃ j : Nat, j + g = k ∧ s17 = .int .i64 j ∧ Bx (Up w1.heap.size (Both (Dq q2 p2 (x3 (tabD (rE ll k)) (rC ll) k t j)) Y) wx) ∧ Bx (Below w1.heap.size w1 wx))
          case atStart => exact ⟨0, by omega, rfl, HU5, HB5⟩
          case round =>
            clear HU5 HB5
            obtain ⟨j, hjg, rfl, HU, HB⟩ := hrel
            cases gk with
            | succ g =>
              have hjk : j < k := by omega
              have hjd : decide ((j : Int) < (k : Int)) = true := decide_eq_true (by omega)
              have hjd' : decide (j < k) = true := decide_eq_true hjk
              have hjl : j < ll.length := by have := HKL.out; omega
              have HBS := Bx.mk (HUS.out wr _ HU.out)
              obtain ⟨bs, os, A3, m3, c3, hixs, hcss⟩ := sec_at HBS.out j hjk
              obtain ⟨bl, ol, ul, hixl, ⟨la, ln, lc, rfl⟩, hfl, hcl⟩ := HV.out.at_ j hjl
              have HLE : Bx (ll[j] = ll.getD j []) := ⟨(getD_of hjl).symm⟩
              rw [HLE.out] at hfl
              have HBV : Bx (∀ W S2, Y W S2 → Bs W (.slice A3 m3 c3) (rS ll j)) := ⟨fun W S2 h => (hcss W (HYS.out W S2 h)).2⟩
              have HCL : Bx (∀ W, Below w1.heap.size w1 W → W.cell? ⟨bl, ol, none⟩ = some (.slice la ln lc)) := ⟨fun W hW => (hcl W (HV.out.keep (HB1.out.trans (hW.mono HB1.out.size)))).1⟩
              have HFL : Bx (∀ W, Below w1.heap.size w1 W → Fs W (.slice la ln lc) (ll.getD j [])) := ⟨fun W hW => hfl.keep (HB1.out.trans (hW.mono HB1.out.size))⟩
              have hcell := (hcss wr HBS.out).1
              obtain ⟨JI, hJI⟩ := letter j
              rw [hJI] at hixs hixl hjd
              have HDE := Bx.mk (uo_read HYW.out HU.out HB.out.size HM6.out HLT.out hjk JI hJI (.slice A3 m3 c3) HBV.out)
              have hk6 := HM6.out
              have hwj : wrap64 (JI + 1) = ((j + 1 : Nat) : Int) := by rw [← hJI]; exact (i64_keep (by omega) (by omega)).1
              have hwu : IntKind.u64.wrap JI = JI := u64_keep (by omega) (by omega)
              have HJG := Bx.mk hjg
              rw [hJI]
              clear hcss hcl hfl hjg hjk HLE hjl hJI hk6
              go_wp2_with (first
                | (go_at_call 15; refine HDE.out.mono ?_; rintro e w5 ⟨v5, rfl, hu5, hb5⟩; have HF5 := Bx.mk (uo_owf hu5); have HU5 := Bx.mk (uo_drop hu5); have HB5 := Bx.mk (HB.out.trans hb5); have hcl5 := HCL.out w5 HB5.out; clear hu5 hb5 hcell)
                | (go_at_call 21; refine (fields_same v5 _ _ _ HF5.out (HFL.out _ HB5.out)).mono ?_; rintro e w6 ⟨rfl, b6⟩; have HU6 := Bx.mk (HU5.out.keep ((Wd.dq _ _ _).both HYW.out) b6); have HB6 := Bx.mk (HB5.out.trans (b6.mono HB5.out.size)); clear b6))
              go_roundg g
              case measure => omega
              case rel => exact ⟨j + 1, by have := HJG.out; omega, by rw [hwj], HU6, HB6⟩
            | zero =>
              obtain rfl : k = j := by omega
              clear hjg
              have hjd : decide ((k : Int) < (k : Int)) = false := by simp
              have hjd' : decide (k < k) = false := by simp
              have HWT := Bx.mk (uo_waiting3 HU.out)
              have HSE := Bx.mk (uo_send HYW.out HU.out HB.out.size HM6.out HLT.out)
              have HR := Bx.mk (rk_of HM6.out HLT.out)
              go_wp2_with (first
                | (go_at_call 16; refine HWT.out.mono ?_; rintro e w5 ⟨rfl, rfl⟩)
                | (go_at_call 14; refine HSE.out.mono ?_; rintro e w6 ⟨v6, rfl, hu6, hb6⟩; have HU6 := Bx.mk hu6; have HB6 := Bx.mk (HB.out.trans hb6); clear hu6 hb6; rw [← HYE.out] at HU6)
                | (go_at_call 22; refine (uo_last ((Wd.owb _ _).both (Wd.rwv _ _ _)) HU6.out HB6.out.size HR.out.ro.rest (HR.out.sg HM6.out)).mono ?_; rintro e w7 ⟨rfl, hb7⟩; have HB7 := Bx.mk (HB6.out.trans hb7); clear hb7))
              go_ret
              exact ⟨rfl, HB1.out.trans (HB7.out.mono HB1.out.size)⟩
end Go.Proofs.Yteopmaaghhendaa
