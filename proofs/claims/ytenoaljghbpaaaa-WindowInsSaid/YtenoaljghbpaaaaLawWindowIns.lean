/-
  bifoldlaw14.WindowIns answers true, whatever its arguments: the walk.
-/
import Derived.Test.YtenoaljghbpaaaaWnK
import Derived.BigQuiet
namespace Go.Proofs.Ytenoaljghbpaaaa
open Go.RowKit
set_option linter.unusedVariables false
set_option linter.unusedSimpArgs false

set_option maxRecDepth 100000 in
set_option maxHeartbeats 8000000 in
theorem windowIns_walk (n0 : Int) (hn0 : (Lit.int .i64 n0).wf = true) (v1 : Value) (l : List WAct) (w : World) (hv : Rows 2 wavl w v1 l) (hok : ∀ a ∈ l, waOk a) :
    Calls Try.prog 12 #[.int .i64 n0, v1] w fun e w' => e = .returned (.bool true) ∧ Below w.heap.size w w' := by
  have HV := Bx.mk hv
  have HOK := Bx.mk hok
  have hlen := fun tr W => was_len hv tr W
  have hmx := hv.max
  unfold maxLen at hmx
  obtain ⟨m, hm⟩ : ∃ n, l.length = n := ⟨_, rfl⟩
  rw [hm] at hlen hmx
  have HM := Bx.mk hm
  have HK := Bx.mk (known14_any w)
  clear hv hok hm hn0
  by_cases hbig : 60 < m
  · have hbb : decide (60 < (m : Int)) = true := decide_eq_true (by omega)
    have hbb' : decide (60 < m) = true := decide_eq_true hbig
    clear hbig hmx
    go_enter Try.func12, Try.ntmps12
    go_wp2_with (go_at_call 42; refine HK.out.mono ?_; rintro e w1 ⟨rfl, b1⟩; have HB1 := Bx.mk b1; clear b1)
    go_ret
    exact ⟨rfl, HB1.out⟩
  have hbb : decide (60 < (m : Int)) = false := decide_eq_false (by omega)
  have hbb' : decide (60 < m) = false := decide_eq_false hbig
  have HM60 : Bx (m ≤ 60) := ⟨by omega⟩
  have HO := Bx.mk (pi_new n0)
  have HP := Bx.mk (wi_new n0)
  obtain ⟨n, hn⟩ : ∃ n, wNew n0 = n := ⟨_, rfl⟩
  have HN : Bx n.ok := ⟨hn ▸ Ws.ok.new n0⟩
  rw [hn] at HO HP
  clear hbig hmx hn
  go_enter Try.func12, Try.ntmps12
  go_wp2_with (first
    | (go_at_call 42; refine HK.out.mono ?_; rintro e w1 ⟨rfl, b1⟩; have HB1 := Bx.mk b1; clear b1)
    | (go_at_call 54; refine (HO.out w1).mono ?_; rintro e w2 ⟨q, rfl, hu, hb⟩; have HU2 := Bx.mk hu; have HB2 := Bx.mk hb; clear hu hb)
    | (go_at_call 55; refine (HP.out w2).mono ?_; rintro e w3 ⟨p, rfl, hu, hb⟩; have HU3 : Bx (Up w1.heap.size (Both (Pi q n) (Wi p n)) w3) := ⟨Up.add (Wd.pi _ _) HU2.out HB2.out.size hb hu⟩; have HB3 := Bx.mk (HB2.out.trans (hb.mono HB2.out.size)); clear hu hb))
  clear HK HO HP HU2 HB2 hbb hbb'
  go_loopg [7] m (fun g s7 wx => ∃ (k : Nat) (n : Ws), k + g = m ∧ s7 = .int .i64 k ∧ Bx n.ok ∧ Bx (Up w1.heap.size (Both (Pi q n) (Wi p n)) wx) ∧ Bx (Below w1.heap.size w1 wx))
  case atStart => exact ⟨0, n, by omega, rfl, HN, HU3, HB3⟩
  case round =>
    clear HU3 HB3 HN
    obtain ⟨k, n, hkg, rfl, HN, HU, HB⟩ := hrel
    cases gk with
    | zero =>
      obtain rfl : k = m := by omega
      have hkd : decide ((k : Int) < (k : Int)) = false := by simp
      have hkd' : decide (k < k) = false := by simp
      go_wp2_with fail
      go_ret
      exact ⟨rfl, HB1.out.trans (HB.out.mono HB1.out.size)⟩
    | succ g =>
      have hkm : k < m := by omega
      have hkl : k < l.length := by have := HM.out; omega
      have hkd : decide ((k : Int) < (m : Int)) = true := decide_eq_true (by omega)
      have hkd' : decide (k < m) = true := decide_eq_true hkm
      have hk60 := HM60.out
      have HWK : Bx (wrap64 ((k : Int) + 1) = ((k + 1 : Nat) : Int)) := ⟨(w64 (by omega) (by omega)).1⟩
      have HKG := Bx.mk hkg
      obtain ⟨b, o, hix0, hcs⟩ := was_at HV.out k hkl
      have hix := hix0 .i64
      have hao := HOK.out l[k] (List.getElem_mem hkl)
      obtain ⟨a, ha⟩ : ∃ a, l[k] = a := ⟨_, rfl⟩
      rw [ha] at hao
      simp only [ha] at hcs
      have HX := Bx.mk (nearN_in a hao)
      have HNR := Bx.mk (fun W => near_any a hao W)
      obtain ⟨x, hx⟩ : ∃ x, nearN a = x := ⟨_, rfl⟩
      rw [hx] at HX HNR
      obtain ⟨r, hr⟩ : ∃ r, a.wh % 2 = r := ⟨_, rfl⟩
      have hwh := hao.1
      obtain ⟨WI, hWI⟩ : ∃ W : Int, (a.wh : Int) = W := ⟨_, rfl⟩
      obtain ⟨RI, hRI⟩ : ∃ W : Int, (r : Int) = W := ⟨_, rfl⟩
      rw [hWI] at HNR
      simp only [hWI] at hcs
      have htm : WI.tmod 2 = RI := by rw [← hWI, ← hRI, Int.tmod_eq_emod_of_nonneg (by omega)]; omega
      have hw8 : IntKind.u8.wrap RI = RI := by rw [IntKind.wrap_u8]; omega
      have HCS : Bx (∀ W, Below w1.heap.size w1 W → W.cell? ⟨b, o, none⟩ = some (.int .u8 WI) ∧ W.cell? ⟨b, o + 1, none⟩ = some (.int .i64 a.n)) := ⟨fun W hW => hcs W (HV.out.keep (HB1.out.trans (hW.mono HB1.out.size)))⟩
      obtain ⟨c0, c1⟩ := HCS.out wr HB.out
      have hr3 : r < 2 := by omega
      have HRI : Bx (r < 2 ∧ (r : Int) = RI) := ⟨hr3, hRI⟩
      clear hix0 hcs hao ha hx hr hwh hWI hRI hr3 hkm hkl hk60 hkg
      go_upto_region 10 with (go_at_call 45; refine (HNR.out wr).mono ?_; rintro e w4 ⟨rfl, b4⟩; have HU4 := Bx.mk (HU.out.keep ((Wd.pi _ _).both (Wd.wi _ _)) b4); have HB4 := Bx.mk (HB.out.trans (b4.mono HB.out.size)); obtain ⟨d0, d1⟩ := HCS.out w4 HB4.out; clear b4)
      clear c0 c1 HU HB HNR
      by_cases r0 : RI = 0
      · have e0 : (RI == 0) = true := by rw [beq_iff_eq]; exact r0
        subst r0
        obtain ⟨ok, n2, hon⟩ : ∃ ok n2, wTake n x = (ok, n2) := ⟨_, _, rfl⟩
        have HN2 : Bx n2.ok := ⟨by have := HN.out.take x; rw [hon] at this; exact this⟩
        have HC1 := Bx.mk (fun (W : World) (hu : Up w1.heap.size (Both (Pi q n) (Wi p n)) W) (hb : Below w1.heap.size w1 W) => Up.doL (Wd.wi _ _) hu hb.size (fun S h => pi_take h HN.out x HX.out))
        have HC2 := Bx.mk (fun (W : World) (hu : Up w1.heap.size (Both (Pi q n2) (Wi p n)) W) (hb : Below w1.heap.size w1 W) => Up.doR (Wd.pi _ _) hu hb.size (fun S h => wi_take h HN.out x HX.out))
        rw [hon] at HC1 HC2
        clear hon
        have hbo : (ok != ok) = false := by simp
        go_wp2_with (first
          | (go_at_call 56; refine (HC1.out w4 HU4.out HB4.out).mono ?_; rintro e w5 ⟨rfl, hu, hb⟩; have HU5 := Bx.mk hu; have HB5 := Bx.mk (HB4.out.trans hb); clear hu hb)
          | (go_at_call 57; refine (HC2.out w5 HU5.out HB5.out).mono ?_; rintro e w6 ⟨rfl, hu, hb⟩; have HU6 := Bx.mk hu; have HB6 := Bx.mk (HB5.out.trans hb); clear hu hb))
        obtain ⟨sz, lf, cm, us⟩ := n2
        obtain ⟨t1, t2, t3, t4, t5, t6, _⟩ := HN2.out
        simp only at t1 t2 t3 t4 t5 t6
        have HLF := Bx.mk (fun (i : Nat) => Up.readL (HU6.out.keep ((Wd.pi _ _).both (Wd.wi _ _)) (below_drewN (Below.refl w6.heap.size w6) i)) fun S h => pi_left h)
        obtain ⟨f0, f1, f2, f3⟩ : w6.cell? ⟨p, 0, none⟩ = some (.int .i64 sz) ∧ w6.cell? ⟨p, 1, none⟩ = some (.int .i64 lf) ∧ w6.cell? ⟨p, 2, none⟩ = some (.int .i64 cm) ∧ w6.cell? ⟨p, 3, none⟩ = some (.int .i64 us) := by
          obtain ⟨S, ⟨S1, S2, _, hh, _⟩, _⟩ := HU6.out
          exact ⟨hh.cell 0 (by omega), hh.cell 1 (by omega), hh.cell 2 (by omega), hh.cell 3 (by omega)⟩
        obtain ⟨a1, a2⟩ := w64 (x := lf + cm) (by omega) (by omega)
        have a3 : wrap64 (lf + cm + us) = sz := by rw [t6]; exact (w64 (by omega) (by omega)).1
        have a4 : IntKind.i64.wrap (lf + cm + us) = sz := by rw [t6]; exact (w64 (by omega) (by omega)).2
        have b1 : (lf != lf) = false := by simp
        have b2 : (sz != sz) = false := by simp
        clear t1 t2 t3 t4 t5 t6
        go_quiet ((go_at_call 60; exact Calls.quiet_of_same (HLF.out _)))
        go_wp2_with fail
        go_roundg g
        case measure => omega
        case rel => exact ⟨k + 1, ⟨sz, lf, cm, us⟩, by have := HKG.out; omega, by rw [HWK.out], HN2, ⟨HU6.out.keep ((Wd.pi _ _).both (Wd.wi _ _)) (below_drewN (Below.refl _ _) _)⟩, ⟨below_drewN HB6.out _⟩⟩
      · have e0 : (RI == 0) = false := by rw [beq_eq_false_iff_ne]; exact r0
        clear r0
        obtain ⟨ok, n2, hon⟩ : ∃ ok n2, wDone n x = (ok, n2) := ⟨_, _, rfl⟩
        have HN2 : Bx n2.ok := ⟨by have := HN.out.done x; rw [hon] at this; exact this⟩
        have HC1 := Bx.mk (fun (W : World) (hu : Up w1.heap.size (Both (Pi q n) (Wi p n)) W) (hb : Below w1.heap.size w1 W) => Up.doL (Wd.wi _ _) hu hb.size (fun S h => pi_done h HN.out x HX.out))
        have HC2 := Bx.mk (fun (W : World) (hu : Up w1.heap.size (Both (Pi q n2) (Wi p n)) W) (hb : Below w1.heap.size w1 W) => Up.doR (Wd.pi _ _) hu hb.size (fun S h => wi_done h HN.out x HX.out))
        rw [hon] at HC1 HC2
        clear hon
        have hbo : (ok != ok) = false := by simp
        go_wp2_with (first
          | (go_at_call 58; refine (HC1.out w4 HU4.out HB4.out).mono ?_; rintro e w5 ⟨rfl, hu, hb⟩; have HU5 := Bx.mk hu; have HB5 := Bx.mk (HB4.out.trans hb); clear hu hb)
          | (go_at_call 59; refine (HC2.out w5 HU5.out HB5.out).mono ?_; rintro e w6 ⟨rfl, hu, hb⟩; have HU6 := Bx.mk hu; have HB6 := Bx.mk (HB5.out.trans hb); clear hu hb))
        obtain ⟨sz, lf, cm, us⟩ := n2
        obtain ⟨t1, t2, t3, t4, t5, t6, _⟩ := HN2.out
        simp only at t1 t2 t3 t4 t5 t6
        have HLF := Bx.mk (fun (i : Nat) => Up.readL (HU6.out.keep ((Wd.pi _ _).both (Wd.wi _ _)) (below_drewN (Below.refl w6.heap.size w6) i)) fun S h => pi_left h)
        obtain ⟨f0, f1, f2, f3⟩ : w6.cell? ⟨p, 0, none⟩ = some (.int .i64 sz) ∧ w6.cell? ⟨p, 1, none⟩ = some (.int .i64 lf) ∧ w6.cell? ⟨p, 2, none⟩ = some (.int .i64 cm) ∧ w6.cell? ⟨p, 3, none⟩ = some (.int .i64 us) := by
          obtain ⟨S, ⟨S1, S2, _, hh, _⟩, _⟩ := HU6.out
          exact ⟨hh.cell 0 (by omega), hh.cell 1 (by omega), hh.cell 2 (by omega), hh.cell 3 (by omega)⟩
        obtain ⟨a1, a2⟩ := w64 (x := lf + cm) (by omega) (by omega)
        have a3 : wrap64 (lf + cm + us) = sz := by rw [t6]; exact (w64 (by omega) (by omega)).1
        have a4 : IntKind.i64.wrap (lf + cm + us) = sz := by rw [t6]; exact (w64 (by omega) (by omega)).2
        have b1 : (lf != lf) = false := by simp
        have b2 : (sz != sz) = false := by simp
        clear t1 t2 t3 t4 t5 t6
        go_quiet ((go_at_call 60; exact Calls.quiet_of_same (HLF.out _)))
        go_wp2_with fail
        go_roundg g
        case measure => omega
        case rel => exact ⟨k + 1, ⟨sz, lf, cm, us⟩, by have := HKG.out; omega, by rw [HWK.out], HN2, ⟨HU6.out.keep ((Wd.pi _ _).both (Wd.wi _ _)) (below_drewN (Below.refl _ _) _)⟩, ⟨below_drewN HB6.out _⟩⟩
end Go.Proofs.Ytenoaljghbpaaaa
