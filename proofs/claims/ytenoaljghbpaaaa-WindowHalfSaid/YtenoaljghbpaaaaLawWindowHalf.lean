/-
  bifoldlaw14.WindowHalf answers true, whatever its arguments: the walk.
-/
import Derived.Test.YtenoaljghbpaaaaWnK
import Derived.Test.YtenoaljghbpaaaaUs
namespace Go.Proofs.Ytenoaljghbpaaaa
open Go.RowKit
set_option linter.unusedVariables false
set_option linter.unusedSimpArgs false

theorem wNew_half {n : Int} (h1 : 1 ≤ n) (h2 : n ≤ 2147483647) : wNew n = ⟨n, n, 0, 0⟩ := by unfold wNew; rw [show min (max n 1) 2147483647 = n from by omega]
set_option maxRecDepth 100000 in
set_option maxHeartbeats 16000000 in
theorem windowHalf_walk (n0 : Int) (hn0 : (Lit.int .u16 n0).wf = true) (v1 : Value) (l : List Nat) (w : World) (hv : Us w v1 l) :
    Calls Try.prog 15 #[.int .u16 n0, v1] w fun e w' => e = .returned (.bool true) ∧ Below w.heap.size w w' := by
  have HV := Bx.mk hv
  have hlen := fun tr W => hv.run_len tr W
  have hmx := Rd.len hv.1
  simp only [List.length_map, maxLen] at hmx
  obtain ⟨m, hm⟩ : ∃ n, l.length = n := ⟨_, rfl⟩
  rw [hm] at hlen hmx
  have HM := Bx.mk hm
  have HK := Bx.mk (known14_any w)
  have r0 : 0 ≤ n0 ∧ n0 < 65536 := by
    simp [Lit.wf, IntKind.min, IntKind.max, IntKind.signed, IntKind.bits] at hn0
    omega
  clear hv hm hn0
  by_cases hbig : 50 < m
  · have hbb : decide (50 < (m : Int)) = true := decide_eq_true (by omega)
    have hbb' : decide (50 < m) = true := decide_eq_true hbig
    clear hbig hmx r0
    go_enter Try.func15, Try.ntmps15
    go_wp2_with (go_at_call 42; refine HK.out.mono ?_; rintro e w1 ⟨rfl, b1⟩; have HB1 := Bx.mk b1; clear b1)
    go_ret
    exact ⟨rfl, HB1.out⟩
  have hbb : decide (50 < (m : Int)) = false := decide_eq_false (by omega)
  have hbb' : decide (50 < m) = false := decide_eq_false hbig
  have HM60 : Bx (m ≤ 50) := ⟨by omega⟩
  have hc1 : IntKind.i64.wrap n0 = n0 := (w64 (by omega) (by omega)).2
  obtain ⟨sz, hsz⟩ : ∃ s, n0 + 1 = s := ⟨_, rfl⟩
  have hc2 : wrap64 (n0 + 1) = sz := by rw [hsz]; exact (w64 (by omega) (by omega)).1
  have hc3 : IntKind.i64.wrap (n0 + 1) = sz := by rw [hsz]; exact (w64 (by omega) (by omega)).2
  have HP := Bx.mk (pi_new sz)
  have hok0 := Ws.ok.new sz
  rw [wNew_half (by omega) (by omega)] at HP hok0
  have e1 : wTake ⟨sz, sz, 0, 0⟩ sz = (true, ⟨sz, 0, sz, 0⟩) := by unfold wTake; rw [if_pos (by simp only; omega)]; simp
  have hok1 := hok0.take sz
  rw [e1] at hok1
  have e2 : wTake ⟨sz, 0, sz, 0⟩ 1 = (false, ⟨sz, 0, sz, 0⟩) := by unfold wTake; rw [if_neg (by simp only; omega)]
  have HT1 := Bx.mk (fun (B q : Nat) (W : World) (hu : Up B (Pi q ⟨sz, sz, 0, 0⟩) W) (hb : B ≤ W.heap.size) => Up.doU hu hb (fun S h => pi_take h hok0 sz ⟨by omega, by omega⟩))
  have HT2 := Bx.mk (fun (B q : Nat) (W : World) (hu : Up B (Pi q ⟨sz, 0, sz, 0⟩) W) (hb : B ≤ W.heap.size) => Up.doU hu hb (fun S h => pi_take h hok1 1 ⟨by omega, by omega⟩))
  rw [e1] at HT1
  rw [e2] at HT2
  have HN : Bx ((⟨sz, 0, sz, 0⟩ : Ws).ok ∧ sz ≤ 65536) := ⟨hok1, by omega⟩
  clear hbig hmx hsz r0 hok0 hok1 e1 e2
  go_enter Try.func15, Try.ntmps15
  go_wp2_with (first
    | (go_at_call 42; refine HK.out.mono ?_; rintro e w1 ⟨rfl, b1⟩; have HB1 := Bx.mk b1; clear b1)
    | (go_at_call 54; refine (HP.out w1).mono ?_; rintro e w2 ⟨p, rfl, hu, hb⟩; have HU2 := Bx.mk hu; have HB2 := Bx.mk hb; clear hu hb)
    | (go_at_call 56; refine (HT2.out _ _ _ HU3.out HB3.out.size).mono ?_; rintro e w4 ⟨rfl, hu, hb⟩; have HU4 := Bx.mk hu; have HB4 := Bx.mk (HB3.out.trans hb); clear hu hb)
    | (go_at_call 56; refine (HT1.out _ _ _ HU2.out HB2.out.size).mono ?_; rintro e w3 ⟨rfl, hu, hb⟩; have HU3 := Bx.mk hu; have HB3 := Bx.mk (HB2.out.trans hb); clear hu hb)
    | (go_at_call 60; refine (Up.readU HU4.out fun S h => pi_left h).mono ?_; rintro e w5 ⟨rfl, rfl⟩))
  clear HK HP HU2 HB2 HU3 HB3 hbb hbb' hc1 hc2 hc3 HT1 HT2
  go_loopg [7, 8, 9] m (fun g s7 s8 s9 wx => ∃ (k : Nat) (W : Ws), k + g = m ∧ s9 = .int .i64 k ∧ s7 = .int .i64 W.u ∧ s8 = .int .i64 W.c ∧ Bx (W.ok ∧ W.s = sz ∧ sz ≤ 65536) ∧ Bx (Up w1.heap.size (Pi p W) wx) ∧ Bx (Below w1.heap.size w1 wx))
  case atStart => exact ⟨0, ⟨sz, 0, sz, 0⟩, by omega, rfl, rfl, rfl, ⟨HN.out.1, rfl, HN.out.2⟩, HU4, HB4⟩
  case round =>
    clear HU4 HB4 HN
    obtain ⟨k, W, hkg, rfl, rfl, rfl, HN, HU, HB⟩ := hrel
    obtain ⟨s, lf, c, u⟩ := W
    obtain ⟨ok, hs, hs6⟩ := HN.out
    simp only at hs
    subst hs
    obtain ⟨o1, o2, o3, o4, o5, o6, o7⟩ := id ok
    simp only at o1 o2 o3 o4 o5 o6 o7
    simp only
    cases gk with
    | zero =>
      obtain rfl : k = m := by omega
      have hkd : decide ((k : Int) < (k : Int)) = false := by simp
      have hkd' : decide (k < k) = false := by simp
      have a1 : wrap64 (s - c) = s - c := (w64 (by omega) (by omega)).1
      have a2 : wrap64 (s - c - u) = lf := by rw [show s - c - u = lf by omega]; exact (w64 (by omega) (by omega)).1
      have a3 : (lf == lf) = true := by simp
      clear o1 o2 o3 o4 o5 o6 o7 hs6
      go_wp2_with (go_at_call 60; refine (Up.readU HU.out fun S h => pi_left h).mono ?_; rintro e w5 ⟨rfl, rfl⟩)
      go_ret
      exact ⟨rfl, HB1.out.trans (HB.out.mono HB1.out.size)⟩
    | succ g =>
      have hkm : k < m := by omega
      have hkl : k < l.length := by have := HM.out; omega
      have hkd : decide ((k : Int) < (m : Int)) = true := decide_eq_true (by omega)
      have hkd' : decide (k < m) = true := decide_eq_true hkm
      have hk60 := HM60.out
      have HWK : Bx (wrap64 ((k : Int) + 1) = ((k + 1 : Nat) : Int)) := ⟨(w64 (by omega) (by omega)).1⟩
      have HKG := Bx.mk hkg
      obtain ⟨b, o, hix, hcs⟩ := HV.out.at_ k hkl
      have hxr := HV.out.2 l[k] (List.getElem_mem hkl)
      obtain ⟨x, hx⟩ : ∃ x, l[k] = x := ⟨_, rfl⟩
      rw [hx] at hxr
      simp only [hx] at hcs
      obtain ⟨K, hK⟩ : ∃ K, min (x : Int) c = K := ⟨_, rfl⟩
      have ham : wAm ⟨s, lf, c, u⟩ (x : Int) = K := by unfold wAm; simp only; omega
      have ed : wDone ⟨s, lf, c, u⟩ (x : Int) = if u + K < max (s / 2) 1 then (0, ⟨s, lf, c - K, u + K⟩) else (u + K, ⟨s, lf + (u + K), c - K, 0⟩) := by unfold wDone; rw [ham]
      have ok2 := ok.done (x : Int)
      rw [ed] at ok2
      obtain ⟨XI, hXI⟩ : ∃ X : Int, (x : Int) = X := ⟨_, rfl⟩
      simp only [hXI] at hcs
      rw [hXI] at hK
      have hq1 : s.tdiv 2 = s / 2 := Int.tdiv_eq_ediv_of_nonneg (by omega)
      obtain ⟨hh, hhh⟩ : ∃ h, s / 2 = h := ⟨_, rfl⟩
      rw [hhh] at hq1 ed ok2
      have v1' : IntKind.i64.wrap XI = XI := (w64 (by omega) (by omega)).2
      have v2' : IntKind.i64.wrap hh = hh := (w64 (by omega) (by omega)).2
      have v3' : wrap64 hh = hh := (w64 (by omega) (by omega)).1
      have b1 : wrap64 (c - K) = c - K := (w64 (by omega) (by omega)).1
      have b2 : wrap64 (u + K) = u + K := (w64 (by omega) (by omega)).1
      have HCS : Bx (∀ W, Below w1.heap.size w1 W → W.cell? ⟨b, o, none⟩ = some (.int .u16 XI)) := ⟨fun W hW => hcs W (HV.out.keep (HB1.out.trans (hW.mono HB1.out.size)))⟩
      have c0 := HCS.out wr HB.out
      have HDN := Bx.mk (Up.doU HU.out HB.out.size (fun S h => pi_done h ok (x : Int) ⟨by omega, by omega⟩))
      rw [hXI] at HDN ed
      rw [ed] at HDN
      by_cases g0 : u + K < max hh 1
      · rw [if_pos g0] at HDN ok2
        have hge : decide (max hh 1 ≤ u + K) = false := decide_eq_false (by omega)
        have h00 : ((0 : Int) != 0) = false := by simp
        have HOK2 : Bx ((⟨s, lf, c - K, u + K⟩ : Ws).ok) := ⟨ok2⟩
        have HS6 := Bx.mk hs6
        clear o1 o2 o3 o4 o5 o6 o7 hs6 ok ok2 ed ham hhh hxr hx hXI g0 hkm hkl hk60 hkg hcs
        go_wp2_with (go_at_call 58; refine HDN.out.mono ?_; rintro e w5 ⟨rfl, hu, hb⟩; have HU5 := Bx.mk hu; have HB5 := Bx.mk (HB.out.trans hb); clear hu hb)
        go_roundg g
        case measure => omega
        case rel => exact ⟨k + 1, ⟨s, lf, c - K, u + K⟩, by have := HKG.out; omega, by rw [HWK.out], rfl, rfl, ⟨HOK2.out, rfl, HS6.out⟩, HU5, HB5⟩
      · rw [if_neg g0] at HDN ok2
        have hge : decide (max hh 1 ≤ u + K) = true := decide_eq_true (by omega)
        have h00 : (u + K != u + K) = false := by simp
        have HOK2 : Bx ((⟨s, lf + (u + K), c - K, 0⟩ : Ws).ok) := ⟨ok2⟩
        have HS6 := Bx.mk hs6
        clear o1 o2 o3 o4 o5 o6 o7 hs6 ok ok2 ed ham hhh hxr hx hXI g0 hkm hkl hk60 hkg hcs
        go_wp2_with (go_at_call 58; refine HDN.out.mono ?_; rintro e w5 ⟨rfl, hu, hb⟩; have HU5 := Bx.mk hu; have HB5 := Bx.mk (HB.out.trans hb); clear hu hb)
        go_roundg g
        case measure => omega
        case rel => exact ⟨k + 1, ⟨s, lf + (u + K), c - K, 0⟩, by have := HKG.out; omega, by rw [HWK.out], rfl, rfl, ⟨HOK2.out, rfl, HS6.out⟩, HU5, HB5⟩
end Go.Proofs.Ytenoaljghbpaaaa
