/-
  bifoldlaw14's known answers true; a step's number.
-/
import Derived.Test.YtenoaljghbpaaaaWnB
import Derived.Test.YtenoaljghbpaaaaUpC
import Derived.Test.YtenoaljghbpaaaaRwAct14
import Derived.Deep.RegionHeld
namespace Go.Proofs.Ytenoaljghbpaaaa
open Go.RowKit
set_option linter.unusedVariables false
set_option linter.unusedSimpArgs false

theorem oNew_in {n : Int} (h1 : -2147483647 ≤ n) (h2 : n ≤ 2147483647) : oNew n = n := by unfold oNew; omega
set_option maxRecDepth 100000 in
set_option maxHeartbeats 4000000 in
theorem known14_any (w : World) : Calls Try.prog 42 #[] w fun e w' => e = .returned (.bool true) ∧ Below w.heap.size w w' := by
  have HO := Bx.mk (po_new 5 w)
  rw [show oNew 5 = 5 from rfl] at HO
  have HI := Bx.mk (pi_new 4)
  rw [show wNew 4 = ⟨4, 4, 0, 0⟩ from rfl] at HI
  have k1 : oUse 5 3 = (true, 2) := rfl
  have k2 : oUse 2 3 = (false, 2) := rfl
  have k3 : oGrow 2 1 = (true, 3) := rfl
  have k4 : oShift 3 (-9) = (true, -6) := rfl
  have k5 : wTake ⟨4, 4, 0, 0⟩ 3 = (true, ⟨4, 1, 3, 0⟩) := rfl
  have k6 : wTake ⟨4, 1, 3, 0⟩ 2 = (false, ⟨4, 1, 3, 0⟩) := rfl
  have k7 : wDone ⟨4, 1, 3, 0⟩ 2 = (2, ⟨4, 3, 1, 0⟩) := rfl
  go_enter Try.func42, Try.ntmps42
  go_wp2_with (first
    | (go_at_call 43; refine HO.out.mono ?_; rintro e w1 ⟨q, rfl, hu, hb⟩; have HU := Bx.mk hu; have HB := Bx.mk hb; clear hu hb)
    | (go_at_call 54; refine (HI.out w1).mono ?_; rintro e w2 ⟨p, rfl, hu, hb⟩; have HV : Bx (Up w.heap.size (Both (Po q 5) (Pi p ⟨4, 4, 0, 0⟩)) w2) := ⟨Up.add (Wd.po _ _) HU.out HB.out.size hb hu⟩; have HC := Bx.mk (HB.out.trans (hb.mono HB.out.size)); clear hu hb)
    | (go_at_call 46; refine (Up.doL (Wd.pi _ _) HV.out HC.out.size (fun S h => po_use h ⟨by omega, by omega⟩ 3 ⟨by omega, by omega⟩)).mono ?_; rintro e w3 ⟨rfl, hu, hb⟩; simp only [k1, k2] at hu; replace HV := Bx.mk hu; replace HC := Bx.mk (HC.out.trans hb); clear hu hb)
    | (go_at_call 52; refine (Up.readL HV.out fun S h => po_may h).mono ?_; rintro e w3 ⟨rfl, rfl⟩)
    | (go_at_call 48; refine (Up.doL (Wd.pi _ _) HV.out HC.out.size (fun S h => po_grow h ⟨by omega, by omega⟩ 1 ⟨by omega, by omega⟩)).mono ?_; rintro e w3 ⟨rfl, hu, hb⟩; simp only [k3] at hu; replace HV := Bx.mk hu; replace HC := Bx.mk (HC.out.trans hb); clear hu hb)
    | (go_at_call 50; refine (Up.doL (Wd.pi _ _) HV.out HC.out.size (fun S h => po_shift h ⟨by omega, by omega⟩ (-9) ⟨by omega, by omega⟩)).mono ?_; rintro e w3 ⟨rfl, hu, hb⟩; simp only [k4] at hu; replace HV := Bx.mk hu; replace HC := Bx.mk (HC.out.trans hb); clear hu hb)
    | (go_at_call 56; refine (Up.doR (Wd.po _ _) HV.out HC.out.size (fun S h => pi_take h (Ws.ok.new 4) 3 ⟨by omega, by omega⟩)).mono ?_; rintro e w3 ⟨rfl, hu, hb⟩; simp only [k5] at hu; replace HV := Bx.mk hu; replace HC := Bx.mk (HC.out.trans hb); clear hu hb)
    | (go_at_call 56; refine (Up.doR (Wd.po _ _) HV.out HC.out.size (fun S h => pi_take h ((Ws.ok.new 4).take 3) 2 ⟨by omega, by omega⟩)).mono ?_; rintro e w3 ⟨rfl, hu, hb⟩; simp only [k6] at hu; replace HV := Bx.mk hu; replace HC := Bx.mk (HC.out.trans hb); clear hu hb)
    | (go_at_call 58; refine (Up.doR (Wd.po _ _) HV.out HC.out.size (fun S h => pi_done h ((Ws.ok.new 4).take 3) 2 ⟨by omega, by omega⟩)).mono ?_; rintro e w3 ⟨rfl, hu, hb⟩; simp only [k7] at hu; replace HV := Bx.mk hu; replace HC := Bx.mk (HC.out.trans hb); clear hu hb)
    | (go_at_call 60; refine (Up.readR HV.out fun S h => pi_left h).mono ?_; rintro e w3 ⟨rfl, rfl⟩))
  go_ret
  exact ⟨rfl, HC.out⟩
/-- A step's number. -/
def nearN (a : WAct) : Int := if a.wh / 8 % 4 = 0 then a.n else if a.wh / 8 % 4 = 1 then a.n.tmod 300 else a.n.tmod 2147483648
theorem tmod_in {n m : Int} (hn : i64R n) (hm : 0 < m) (hm2 : m ≤ 9223372036854775807) : i64R (n.tmod m) := by
  obtain ⟨h1, h2⟩ := hn
  have a := Int.lt_tmod_of_pos n hm
  have b := Int.tmod_lt_of_pos n hm
  exact ⟨by omega, by omega⟩
theorem nearN_in (a : WAct) (ha : waOk a) : i64R (nearN a) := by
  have hn : i64R a.n := ha.2
  unfold nearN
  split
  · exact hn
  · split
    · exact tmod_in hn (by decide) (by decide)
    · exact tmod_in hn (by decide) (by decide)
theorem near_any (a : WAct) (ha : waOk a) (w : World) : Calls Try.prog 45 #[.agg #[.int .u8 (a.wh : Int), .int .i64 a.n]] w fun e w' => e = .returned (.int .i64 (nearN a)) ∧ Below w.heap.size w w' := by
  obtain ⟨wh, n⟩ := a
  obtain ⟨h1, h2, h3⟩ := ha
  simp only at h1 h2 h3
  obtain ⟨r, hr⟩ : ∃ r, wh / 8 % 4 = r := ⟨_, rfl⟩
  have hr4 : r < 4 := by omega
  have ht8 : ((wh : Nat) : Int).tdiv 8 = ((wh / 8 : Nat) : Int) := by rw [Int.tdiv_eq_ediv_of_nonneg (by omega)]; omega
  obtain ⟨m, hm⟩ : ∃ m, wh / 8 = m := ⟨_, rfl⟩
  rw [hm] at ht8 hr
  have ht4 : ((m : Nat) : Int).tmod 4 = (r : Int) := by rw [Int.tmod_eq_emod_of_nonneg (by omega)]; omega
  have hN : nearN ⟨wh, n⟩ = if r = 0 then n else if r = 1 then n.tmod 300 else n.tmod 2147483648 := by
    show (if wh / 8 % 4 = 0 then n else if wh / 8 % 4 = 1 then n.tmod 300 else n.tmod 2147483648) = _
    rw [hm, hr]
  rw [hN]
  obtain ⟨x, hx⟩ : ∃ x, n.tmod 300 = x := ⟨_, rfl⟩
  obtain ⟨y, hy⟩ : ∃ y, n.tmod 2147483648 = y := ⟨_, rfl⟩
  rw [hx, hy]
  obtain ⟨WI, hWI⟩ : ∃ W : Int, (wh : Int) = W := ⟨_, rfl⟩
  obtain ⟨MI, hMI⟩ : ∃ W : Int, (m : Int) = W := ⟨_, rfl⟩
  obtain ⟨RI, hRI⟩ : ∃ W : Int, (r : Int) = W := ⟨_, rfl⟩
  rw [hWI, hMI] at ht8
  rw [hMI, hRI] at ht4
  rw [hWI]
  have hw1 : IntKind.u8.wrap MI = MI := by rw [IntKind.wrap_u8]; omega
  have hw2 : IntKind.u8.wrap RI = RI := by rw [IntKind.wrap_u8]; omega
  by_cases r0 : r = 0
  · rw [if_pos r0]
    have e0 : (RI == 0) = true := by rw [beq_iff_eq]; omega
    clear h1 h2 h3 hr hr4 hm hN hWI hMI hRI r0
    go_enter Try.func45, Try.ntmps45
    go_wp2
    go_ret
    exact ⟨rfl, (Below.refl _ _).alloc (Nat.le_refl _) _⟩
  · rw [if_neg r0]
    have e0 : (RI == 0) = false := by rw [beq_eq_false_iff_ne]; omega
    by_cases r1 : r = 1
    · rw [if_pos r1]
      have e1 : (RI == 1) = true := by rw [beq_iff_eq]; omega
      clear h1 h2 h3 hr hr4 hm hN hWI hMI hRI r0 r1
      go_enter Try.func45, Try.ntmps45
      go_wp2
      go_ret
      exact ⟨rfl, (Below.refl _ _).alloc (Nat.le_refl _) _⟩
    · rw [if_neg r1]
      have e1 : (RI == 1) = false := by rw [beq_eq_false_iff_ne]; omega
      clear h1 h2 h3 hr hr4 hm hN hWI hMI hRI r0 r1
      go_enter Try.func45, Try.ntmps45
      go_wp2
      go_ret
      exact ⟨rfl, (Below.refl _ _).alloc (Nat.le_refl _) _⟩
end Go.Proofs.Ytenoaljghbpaaaa
