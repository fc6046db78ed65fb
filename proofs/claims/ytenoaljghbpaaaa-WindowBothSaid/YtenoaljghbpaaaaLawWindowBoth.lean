/-
  bifoldlaw14.WindowBoth answers true, whatever its arguments: the walk.
-/
import Derived.Test.YtenoaljghbpaaaaWnK
import Derived.Test.YtenoaljghbpaaaaWnM2
import Derived.Test.YtenoaljghbpaaaaUs
import Derived.RegionTactic
import Derived.Deep.RegionHeld
namespace Go.Proofs.Ytenoaljghbpaaaa
open Go.RowKit
set_option linter.unusedVariables false
set_option linter.unusedSimpArgs false

theorem wNew_in {n : Int} (h1 : 1 ≤ n) (h2 : n ≤ 2147483647) : wNew n = ⟨n, n, 0, 0⟩ := by unfold wNew; rw [show min (max n 1) 2147483647 = n from by omega]
theorem Ws.ok.oOk {W : Ws} (h : W.ok) : oOk W.l := by
  obtain ⟨h1, h2, h3, h4, h5, h6, h7⟩ := h
  exact ⟨by omega, by omega⟩
set_option maxRecDepth 100000 in
set_option maxHeartbeats 16000000 in
theorem windowBoth_walk (n0 : Int) (hn0 : (Lit.int .u16 n0).wf = true) (v1 : Value) (l : List Nat) (w : World) (hv : Us w v1 l) :
    Calls Try.prog 13 #[.int .u16 n0, v1] w fun e w' => e = .returned (.bool true) ∧ Below w.heap.size w w' := by
  have HV := Bx.mk hv
  have hlen := fun tr W => hv.run_len tr W
  have hmx := Rd.len hv.1
  simp only [List.length_map, maxLen] at hmx
  obtain ⟨m, hm⟩ : ∃ n, l.length = n := ⟨_, rfl⟩
  rw [hm] at hlen hmx
  have HM := Bx.mk hm
  have HK := Bx.mk (known14_any w)
  have r0 : 0 ≤ n0 ∧ n0 < 65536 := by
    simp [Lit.wf, IntKind.min, IntKind.max, IntKind.signed, IntKind.bits] at hn0
    omega
  clear hv hm hn0
  by_cases hbig : 100 < m
  · have hbb : decide (100 < (m : Int)) = true := decide_eq_true (by omega)
    have hbb' : decide (100 < m) = true := decide_eq_true hbig
    clear hbig hmx r0
    go_enter Try.func13, Try.ntmps13
    go_wp2_with (go_at_call 42; refine HK.out.mono ?_; rintro e w1 ⟨rfl, b1⟩; have HB1 := Bx.mk b1; clear b1)
    go_ret
    exact ⟨rfl, HB1.out⟩
  have hbb : decide (100 < (m : Int)) = false := decide_eq_false (by omega)
  have hbb' : decide (100 < m) = false := decide_eq_false hbig
  have HM60 : Bx (m ≤ 100) := ⟨by omega⟩
  have hc1 : IntKind.i64.wrap n0 = n0 := (w64 (by omega) (by omega)).2
  obtain ⟨sz, hsz⟩ : ∃ s, n0 + 1 = s := ⟨_, rfl⟩
  have hc2 : wrap64 (n0 + 1) = sz := by rw [hsz]; exact (w64 (by omega) (by omega)).1
  have hc3 : IntKind.i64.wrap (n0 + 1) = sz := by rw [hsz]; exact (w64 (by omega) (by omega)).2
  have HO := Bx.mk (po_new sz)
  have HP := Bx.mk (pi_new sz)
  rw [oNew_in (by omega) (by omega)] at HO
  have hok0 := Ws.ok.new sz
  rw [wNew_in (by omega) (by omega)] at HP hok0
  have HN : Bx ((⟨sz, sz, 0, 0⟩ : Ws).ok ∧ sz ≤ 65536) := ⟨hok0, by omega⟩
  clear hbig hmx hsz r0 hok0
  go_enter Try.func13, Try.ntmps13
  go_wp2_with (first
    | (go_at_call 42; refine HK.out.mono ?_; rintro e w1 ⟨rfl, b1⟩; have HB1 := Bx.mk b1; clear b1)
    | (go_at_call 43; refine (HO.out w1).mono ?_; rintro e w2 ⟨q, rfl, hu, hb⟩; have HU2 := Bx.mk hu; have HB2 := Bx.mk hb; clear hu hb)
    | (go_at_call 54; refine (HP.out w2).mono ?_; rintro e w3 ⟨p, rfl, hu, hb⟩; have HU3 : Bx (Up w1.heap.size (Both (Po q (⟨sz, sz, 0, 0⟩ : Ws).l) (Pi p ⟨sz, sz, 0, 0⟩)) w3) := ⟨Up.add (Wd.po _ _) HU2.out HB2.out.size hb hu⟩; have HB3 := Bx.mk (HB2.out.trans (hb.mono HB2.out.size)); clear hu hb))
  clear HK HO HP HU2 HB2 hbb hbb' hc1 hc2 hc3
  go_loopg [8] m (fun g s8 wx => ∃ (k : Nat) (W : Ws), k + g = m ∧ s8 = .int .i64 k ∧ Bx (W.ok ∧ W.s = sz ∧ sz ≤ 65536) ∧ Bx (Up w1.heap.size (Both (Po q W.l) (Pi p W)) wx) ∧ Bx (Below w1.heap.size w1 wx))
  case atStart => exact ⟨0, ⟨sz, sz, 0, 0⟩, by omega, rfl, ⟨HN.out.1, rfl, HN.out.2⟩, HU3, HB3⟩
  case round =>
    clear HU3 HB3 HN
    obtain ⟨k, W, hkg, rfl, HN, HU, HB⟩ := hrel
    cases gk with
    | zero =>
      obtain rfl : k = m := by omega
      have hkd : decide ((k : Int) < (k : Int)) = false := by simp
      have hkd' : decide (k < k) = false := by simp
      obtain ⟨ok, hs, hs6⟩ := HN.out
      obtain ⟨W2, back, e1, ok2, hs2, hge, hcase⟩ := both_last W ok (by omega)
      have HDN := Bx.mk (Up.doR (Wd.po q W.l) HU.out HB.out.size (fun S h => pi_done h ok 1099511627776 ⟨by omega, by omega⟩))
      rw [e1] at HDN
      have hm2 : wrap64 (2 * max W2.l 0) = 2 * max W2.l 0 := by
        have := ok2.oOk
        exact (w64 (by have := this.2; omega) (by have := this.2; omega)).1
      have hm3 : decide (sz ≤ 2 * max W2.l 0) = true := decide_eq_true (by omega)
      rcases hcase with ⟨hb0, hl⟩ | ⟨hb1, hb2, hg⟩
      · have hbd : decide (0 < back) = false := decide_eq_false (by omega)
        rw [← hl] at HDN
        clear hs hs6 e1 hs2 hge hb0 hl ok
        go_wp2_with (first
          | (go_at_call 58; refine HDN.out.mono ?_; rintro e w5 ⟨rfl, hu, hb⟩; have HU5 := Bx.mk hu; have HB5 := Bx.mk (HB.out.trans hb); clear hu hb)
          | (go_at_call 52; refine (Up.readL HU5.out fun S h => po_may h).mono ?_; rintro e w7 ⟨rfl, rfl⟩))
        go_ret
        exact ⟨rfl, HB1.out.trans (HB5.out.mono HB1.out.size)⟩
      · have hbd : decide (0 < back) = true := decide_eq_true hb1
        have HGR := Bx.mk (fun (W5 : World) (hu : Up w1.heap.size (Both (Po q W.l) (Pi p W2)) W5) (hb : Below w1.heap.size w1 W5) => Up.doL (Wd.pi p W2) hu hb.size (fun S h => po_grow h ok.oOk back ⟨by omega, by omega⟩))
        rw [hg] at HGR
        clear hs hs6 e1 hs2 hge hb1 hb2 hg ok
        go_wp2_with (first
          | (go_at_call 58; refine HDN.out.mono ?_; rintro e w5 ⟨rfl, hu, hb⟩; have HU5 := Bx.mk hu; have HB5 := Bx.mk (HB.out.trans hb); clear hu hb)
          | (go_at_call 48; refine (HGR.out w5 HU5.out HB5.out).mono ?_; rintro e w6 ⟨rfl, hu, hb⟩; have HU6 := Bx.mk hu; have HB6 := Bx.mk (HB5.out.trans hb); clear hu hb)
          | (go_at_call 52; refine (Up.readL HU6.out fun S h => po_may h).mono ?_; rintro e w7 ⟨rfl, rfl⟩))
        go_ret
        exact ⟨rfl, HB1.out.trans (HB6.out.mono HB1.out.size)⟩
    | succ g =>
      have hkm : k < m := by omega
      have hkl : k < l.length := by have := HM.out; omega
      have hkd : decide ((k : Int) < (m : Int)) = true := decide_eq_true (by omega)
      have hkd' : decide (k < m) = true := decide_eq_true hkm
      have hk60 := HM60.out
      have HWK : Bx (wrap64 ((k : Int) + 1) = ((k + 1 : Nat) : Int)) := ⟨(w64 (by omega) (by omega)).1⟩
      have HKG := Bx.mk hkg
      obtain ⟨b, o, hix, hcs⟩ := HV.out.at_ k hkl
      have hxr := HV.out.2 l[k] (List.getElem_mem hkl)
      obtain ⟨x, hx⟩ : ∃ x, l[k] = x := ⟨_, rfl⟩
      rw [hx] at hxr
      simp only [hx] at hcs
      obtain ⟨ok, hs, hs6⟩ := HN.out
      obtain ⟨W1, W2, back, e0, e1, ok1, hs1, e2, ok2, hs2, hcase⟩ := both_step W ok (by omega) ((x % 2000 : Nat) : Int) ((x % 1000 : Nat) : Int) (by omega) (by omega)
      obtain ⟨K, hK⟩ : ∃ K, min ((x % 2000 : Nat) : Int) (max W.l 0) = K := ⟨_, rfl⟩
      have hKr : i64R K := ⟨by omega, by have := ok.oOk.2; omega⟩
      rw [hK] at e0 e1
      obtain ⟨XI, hXI⟩ : ∃ X : Int, (x : Int) = X := ⟨_, rfl⟩
      obtain ⟨X2, hX2⟩ : ∃ X : Int, ((x % 2000 : Nat) : Int) = X := ⟨_, rfl⟩
      obtain ⟨X1, hX1⟩ : ∃ X : Int, ((x % 1000 : Nat) : Int) = X := ⟨_, rfl⟩
      rw [hX2] at hK
      rw [hX1] at e2
      simp only [hXI] at hcs
      have t2 : XI.tmod 2000 = X2 := by rw [← hXI, ← hX2, Int.tmod_eq_emod_of_nonneg (by omega)]; omega
      have t1 : XI.tmod 1000 = X1 := by rw [← hXI, ← hX1, Int.tmod_eq_emod_of_nonneg (by omega)]; omega
      have u2 : IntKind.u16.wrap X2 = X2 := by rw [IntKind.wrap_u16]; omega
      have u1 : IntKind.u16.wrap X1 = X1 := by rw [IntKind.wrap_u16]; omega
      have v2 : IntKind.i64.wrap X2 = X2 := (w64 (by omega) (by omega)).2
      have v1' : IntKind.i64.wrap X1 = X1 := (w64 (by omega) (by omega)).2
      have hX1r : i64R X1 := ⟨by omega, by omega⟩
      have HCS : Bx (∀ W, Below w1.heap.size w1 W → W.cell? ⟨b, o, none⟩ = some (.int .u16 XI)) := ⟨fun W hW => hcs W (HV.out.keep (HB1.out.trans (hW.mono HB1.out.size)))⟩
      have c0 := HCS.out wr HB.out
      have hUD : ∀ i, Up w1.heap.size (Both (Po q W.l) (Pi p W)) (wr.drewN i) := fun i => HU.out.keep ((Wd.po _ _).both (Wd.pi _ _)) (below_drewN (Below.refl _ _) i)
      have HMY := Bx.mk (fun i => Up.readL (hUD i) fun S h => po_may h)
      have HUS := Bx.mk (fun (W5 : World) (hu : Up w1.heap.size (Both (Po q W.l) (Pi p W)) W5) (hb : Below w1.heap.size w1 W5) => Up.doL (Wd.pi p W) hu hb.size (fun S h => po_use h ok.oOk K hKr))
      have HTK := Bx.mk (fun (W5 : World) (hu : Up w1.heap.size (Both (Po q W1.l) (Pi p W)) W5) (hb : Below w1.heap.size w1 W5) => Up.doR (Wd.po q W1.l) hu hb.size (fun S h => pi_take h ok K hKr))
      have HDN := Bx.mk (fun (W5 : World) (hu : Up w1.heap.size (Both (Po q W1.l) (Pi p W1)) W5) (hb : Below w1.heap.size w1 W5) => Up.doR (Wd.po q W1.l) hu hb.size (fun S h => pi_done h ok1 X1 hX1r))
      rw [e0] at HUS
      rw [e1] at HTK
      rw [e2] at HDN
      have hmx : max W2.l 0 = W2.l := by have := ok2.l; omega
      have hne : (W2.l != W2.l) = false := by simp
      have HN2 : Bx (W2.ok ∧ W2.s = sz ∧ sz ≤ 65536) := ⟨ok2, by omega, hs6⟩
      have HOK1 := Bx.mk ok1
      clear hcs hxr hx hs hs6 e0 e1 e2 hs1 hs2 hXI hX2 hX1 hKr hX1r hkm hkl hk60 hkg hUD ok ok1 ok2
      go_upto_region 10 with fail
      go_quiet ((go_at_call 52; exact Calls.quiet_of_same (HMY.out _)))
      have HU4 : Bx (Up w1.heap.size (Both (Po q W.l) (Pi p W)) (wr.drewN nq)) := ⟨HU.out.keep ((Wd.po _ _).both (Wd.pi _ _)) (below_drewN (Below.refl _ _) _)⟩
      have HB4 : Bx (Below w1.heap.size w1 (wr.drewN nq)) := ⟨below_drewN HB.out _⟩
      generalize wr.drewN nq = w4 at HU4 HB4 ⊢
      clear c0 HU HB HMY
      rcases hcase with ⟨hb0, hl⟩ | ⟨hb1, hb2, hg⟩
      · have hbd : decide (0 < back) = false := decide_eq_false (by omega)
        rw [← hl] at HUS HTK HDN
        clear hb0
        go_wp2_with (first
          | (go_at_call 46; refine (HUS.out w4 HU4.out HB4.out).mono ?_; rintro e w5 ⟨rfl, hu, hb⟩; have HU5 := Bx.mk hu; have HB5 := Bx.mk (HB4.out.trans hb); clear hu hb)
          | (go_at_call 56; refine (HTK.out w5 HU5.out HB5.out).mono ?_; rintro e w6 ⟨rfl, hu, hb⟩; have HU6 := Bx.mk hu; have HB6 := Bx.mk (HB5.out.trans hb); have c6 := HCS.out w6 HB6.out; clear hu hb)
          | (go_at_call 58; refine (HDN.out w6 HU6.out HB6.out).mono ?_; rintro e w7 ⟨rfl, hu, hb⟩; have HU7 := Bx.mk hu; have HB7 := Bx.mk (HB6.out.trans hb); clear hu hb)
          | (go_at_call 60; refine (Up.readR HU7.out fun S h => pi_left h).mono ?_; rintro e w8 ⟨rfl, rfl⟩)
          | (go_at_call 52; refine (Up.readL HU7.out fun S h => po_may h).mono ?_; rintro e w8 ⟨rfl, rfl⟩))
        go_roundg g
        case measure => omega
        case rel => exact ⟨k + 1, W2, by have := HKG.out; omega, by rw [HWK.out], HN2, HU7, HB7⟩
      · have hbd : decide (0 < back) = true := decide_eq_true hb1
        have HGR := Bx.mk (fun (W5 : World) (hu : Up w1.heap.size (Both (Po q W1.l) (Pi p W2)) W5) (hb : Below w1.heap.size w1 W5) => Up.doL (Wd.pi p W2) hu hb.size (fun S h => po_grow h HOK1.out.oOk back ⟨by omega, by omega⟩))
        rw [hg] at HGR
        clear hb1 hb2 hg
        go_wp2_with (first
          | (go_at_call 46; refine (HUS.out w4 HU4.out HB4.out).mono ?_; rintro e w5 ⟨rfl, hu, hb⟩; have HU5 := Bx.mk hu; have HB5 := Bx.mk (HB4.out.trans hb); clear hu hb)
          | (go_at_call 56; refine (HTK.out w5 HU5.out HB5.out).mono ?_; rintro e w6 ⟨rfl, hu, hb⟩; have HU6 := Bx.mk hu; have HB6 := Bx.mk (HB5.out.trans hb); have c6 := HCS.out w6 HB6.out; clear hu hb)
          | (go_at_call 58; refine (HDN.out w6 HU6.out HB6.out).mono ?_; rintro e w7 ⟨rfl, hu, hb⟩; have HU7 := Bx.mk hu; have HB7 := Bx.mk (HB6.out.trans hb); clear hu hb)
          | (go_at_call 48; refine (HGR.out w7 HU7.out HB7.out).mono ?_; rintro e w8 ⟨rfl, hu, hb⟩; have HU8 := Bx.mk hu; have HB8 := Bx.mk (HB7.out.trans hb); clear hu hb)
          | (go_at_call 60; refine (Up.readR HU8.out fun S h => pi_left h).mono ?_; rintro e w8 ⟨rfl, rfl⟩)
          | (go_at_call 52; refine (Up.readL HU8.out fun S h => po_may h).mono ?_; rintro e w8 ⟨rfl, rfl⟩))
        go_roundg g
        case measure => omega
        case rel => exact ⟨k + 1, W2, by have := HKG.out; omega, by rw [HWK.out], HN2, HU8, HB8⟩
end Go.Proofs.Ytenoaljghbpaaaa
