/-
  bifoldlaw10.QdecWaits answers true, whatever its arguments: the walk.
-/
import Derived.Test.YteopmaaghhendaaM25
import Derived.Deep.CutRange
import Derived.Deep.CutBlock
namespace Go.Proofs.Yteopmaaghhendaa
open Go.RowKit Go.Maps
set_option linter.unusedVariables false
set_option linter.unusedSimpArgs false

/-- Behind i sections that wait, where k streams may. -/
def wQ (k i : Nat) : Qr := ⟨⟨[], 0, 0⟩, 400, k, (List.range (min i k)).reverse, none, [], false, [], 0⟩
theorem wQ_zero (k : Nat) : Qr.new 400 k = wQ k 0 := by unfold wQ Qr.new; simp
theorem wQ_len (k i : Nat) : (wQ k i).wl.length = min i k := by unfold wQ; simp
theorem wQ_wait (k i : Nat) : (wQ k i).wait i = (wQ k (i + 1), if i < k then 27 else 50) := by
  unfold Qr.wait
  rw [if_neg (by unfold wQ; simp; omega), wQ_len]
  by_cases h : i < k
  · rw [if_neg (by show ¬ k ≤ _; omega), if_pos h]
    unfold wQ
    rw [show min (i + 1) k = min i k + 1 by omega, List.range_succ, List.reverse_append, show min i k = i by omega]
    rfl
  · rw [if_pos (by show k ≤ _; omega), if_neg h]
    unfold wQ
    rw [show min (i + 1) k = min i k by omega]
theorem wQ_again (k i r : Nat) (hr : r < k) (hk : k ≤ i) : (wQ k i).wait r = (wQ k i, 27) := by
  unfold Qr.wait
  rw [if_pos (by unfold wQ; simp; omega)]
theorem wQ_other (k i : Nat) (hk4 : k ≤ 4) (hk : k ≤ i) : (wQ k i).wait 99 = (wQ k i, 50) := by
  unfold Qr.wait
  rw [if_neg (by unfold wQ; simp; omega), wQ_len, if_pos (by show k ≤ _; omega)]
theorem wQ_gone (k i r : Nat) (hr : r < k) (hk4 : k ≤ 4) (hk : k ≤ i) : ∃ Z, ((wQ k i).cancel r).wait 99 = (Z, 27) ∧ Z.wl.length = k := by
  have hl : ((wQ k i).wl.erase r).length = k - 1 := by
    rw [List.length_erase_of_mem (by unfold wQ; simp; omega), wQ_len]
    omega
  have h99 : 99 ∉ (wQ k i).wl.erase r := fun h => by
    have := List.mem_of_mem_erase h
    unfold wQ at this
    simp at this
    omega
  refine ⟨{ (wQ k i).cancel r with wl := 99 :: (wQ k i).wl.erase r }, ?_, ?_⟩
  · unfold Qr.wait
    have h99' : 99 ∉ ((wQ k i).cancel r).wl := h99
    rw [if_neg h99']
    have hbk : ¬ ((wQ k i).cancel r).bk ≤ ((wQ k i).cancel r).wl.length := by
      show ¬ k ≤ ((wQ k i).wl.erase r).length
      omega
    rw [if_neg hbk]
    rfl
  · show ((wQ k i).wl.erase r).length + 1 = k
    omega
theorem dw_wait {q p B : Nat} {X : Qr} {W : World} (h : Up B (Both (Dq q p X) Nw) W) (hB : B ≤ W.heap.size) (hX : X.br = false ∧ X.mx = 400 ∧ X.T.tot = 0 ∧ X.wl.length < 1000000 ∧ X.bk < 9223372036854775808) (s : Nat) (hs : s < 18446744073709551616) (V : Int) (hV : (s : Int) = V) :
    Calls Try.prog 15 #[.pointer (some ⟨q, 0, none⟩), .int .u64 V, .slice (some ⟨W.heap.size, 0, none⟩) 3 3] (W.alloc (.cells #[.int .u8 2, .int .u8 0, .int .u8 128] 5)) fun e w' =>
      e = .returned (.tuple #[.slice none 0 0, .int .i64 (X.wait s).2]) ∧ Up B (Both (Dq q p (X.wait s).1) Nw) w' ∧ Below B W w' := by
  obtain ⟨h1, h2, h3, h4, h5⟩ := hX
  have hA := (Below.refl W.heap.size W).alloc (Nat.le_refl _) (.cells #[.int .u8 2, .int .u8 0, .int .u8 128] 5)
  refine (uq_wait (Wd.nw.both (Wd.ob _)) (uq_lit Wd.nw h hB #[.int .u8 2, .int .u8 0, .int .u8 128] [2, 0, 128] 3 rfl rfl (by omega)) (by simp; omega) h1 (by omega) (by omega) h4 h5 s hs V hV _ _ (ob_second _ _) (by decide) 1 1 2 (by rw [h3, h2]; exact k_wait.1) (by omega)).mono ?_
  rintro e w' ⟨rfl, hu, hb⟩
  exact ⟨rfl, uq_drop hu, (hA.mono hB).trans hb⟩
set_option maxRecDepth 100000 in
set_option maxHeartbeats 8000000 in
theorem qdecWaits_walk (n0 n1 n2 : Int) (hn0 : (Lit.int .u8 n0).wf = true) (hn1 : (Lit.int .u8 n1).wf = true) (hn2 : (Lit.int .u8 n2).wf = true) (w : World) :
    Calls Try.prog 4 #[.int .u8 n0, .int .u8 n1, .int .u8 n2] w fun e w' => e = .returned (.bool true) ∧ Below w.heap.size w w' := by
  have range : ∀ n : Int, (Lit.int .u8 n).wf = true → 0 ≤ n ∧ n < 256 := fun n h => by
    simp [Lit.wf, IntKind.min, IntKind.max, IntKind.signed, IntKind.bits] at h
    omega
  have r0 := range n0 hn0
  have r1 := range n1 hn1
  have r2 := range n2 hn2
  obtain ⟨k, hk⟩ : ∃ k : Nat, n0.tmod 5 = (k : Int) := ⟨(n0.tmod 5).toNat, by rw [Int.tmod_eq_emod_of_nonneg r0.1]; omega⟩
  have hk4 : k ≤ 4 := by rw [Int.tmod_eq_emod_of_nonneg r0.1] at hk; omega
  obtain ⟨N, hN⟩ : ∃ N : Nat, n1.tmod 8 = (N : Int) := ⟨(n1.tmod 8).toNat, by rw [Int.tmod_eq_emod_of_nonneg r1.1]; omega⟩
  have hN7 : N ≤ 7 := by rw [Int.tmod_eq_emod_of_nonneg r1.1] at hN; omega
  have HK := Bx.mk (known10_any w)
  have HNEW := Bx.mk (fun W => dnew_any 400 (k : Int) (by omega) W)
  rw [show clampN 400 = 400 from rfl, Int.toNat_natCast, wQ_zero] at HNEW
  obtain ⟨KI, hKI⟩ := letter k
  rw [hKI] at hk HNEW
  obtain ⟨NI, hNI⟩ := letter N
  rw [hNI] at hN
  have HB := Bx.mk (show k ≤ 4 ∧ N ≤ 7 ∧ (k : Int) = KI ∧ (N : Int) = NI from ⟨hk4, hN7, hKI, hNI⟩)
  have hwk8 : IntKind.u8.wrap KI = KI := by rw [IntKind.wrap_u8]; omega
  have hwk : IntKind.i64.wrap KI = KI := (i64_keep (by omega) (by omega)).2
  have hwn8 : IntKind.u8.wrap NI = NI := by rw [IntKind.wrap_u8]; omega
  have hwn : IntKind.i64.wrap NI = NI := (i64_keep (by omega) (by omega)).2
  have HR2 := Bx.mk r2
  clear hn0 hn1 hn2 range r0 r1 r2 hk4 hN7 hKI hNI
  go_enter Try.func4, Try.ntmps4
  go_wp2_with (first
    | (go_at_call 7; refine HK.out.mono ?_; rintro e w1 ⟨rfl, b1⟩; have HB1 := Bx.mk b1; clear b1)
    | (go_at_call 8; refine (HNEW.out _).mono ?_; rintro e w2 ⟨q, p, S2, rfl, h2, hs2, b2⟩; have HU2 : Bx (Up w1.heap.size (Both (Dq q p (wQ k 0)) Nw) w2) := ⟨Up.nw ⟨S2, h2, hs2⟩⟩; have HB2 := Bx.mk b2; clear h2 hs2 b2))
  go_loopg [9] N (fun g s9 wx => ∃ i : Nat, i + g = N ∧ s9 = .int .i64 i ∧ Bx (Up w1.heap.size (Both (Dq q p (wQ k i)) Nw) wx) ∧ Bx (Below w1.heap.size w1 wx))
  case atStart => exact ⟨0, by omega, rfl, HU2, HB2⟩
  case round =>
    obtain ⟨i, hig, rfl, HU, HBX⟩ := hrel
    clear HU2
    obtain ⟨hk4, hN7, hKI, hNI⟩ := HB.out
    have HA := Bx.mk ((Below.refl wr.heap.size wr).alloc (Nat.le_refl _) (.cells #[.int .u8 2, .int .u8 0, .int .u8 128] 5))
    cases gk with
    | zero =>
      obtain rfl : i = N := by omega
      have hlt : decide ((i : Int) < NI) = false := decide_eq_false (by omega)
      by_cases hk0 : k = 0
      · have hb0 : (KI == 0) = true := by rw [beq_iff_eq]; omega
        clear hk4 hN7 hKI hNI hig hk0
        go_wp2_with fail
        go_ret
        exact ⟨rfl, HB1.out.trans (HBX.out.mono HB1.out.size)⟩
      have hb0 : (KI == 0) = false := by rw [beq_eq_false_iff_ne]; omega
      by_cases hNk : i < k
      · have hd2 : decide (NI < KI) = true := decide_eq_true (by omega)
        clear hk4 hN7 hKI hNI hig hk0 hNk
        go_wp2_with fail
        go_ret
        exact ⟨rfl, HB1.out.trans (HBX.out.mono HB1.out.size)⟩
      have hd2 : decide (NI < KI) = false := decide_eq_false (by omega)
      have hr2 := HR2.out
      obtain ⟨r, hr⟩ : ∃ r : Nat, n2.tmod KI = (r : Int) := ⟨(n2.tmod KI).toNat, by have := Int.tmod_nonneg KI hr2.1; omega⟩
      have hrk : r < k := by
        have := Int.tmod_lt_of_pos n2 (show (0 : Int) < KI by omega)
        omega
      have hki : k ≤ i := by omega
      obtain ⟨Z, hZ, hZl⟩ := wQ_gone k i r hrk hk4 hki
      have HD1 := Bx.mk (fun W (h : Up w1.heap.size (Both (Dq q p (wQ k i)) Nw) W) (hb : Below w1.heap.size w1 W) V hV => dw_wait h hb.size ⟨rfl, rfl, rfl, (by rw [wQ_len]; omega), (show k < 9223372036854775808 by omega)⟩ r (by omega) V hV)
      have HD2 := Bx.mk (fun W (h : Up w1.heap.size (Both (Dq q p (wQ k i)) Nw) W) (hb : Below w1.heap.size w1 W) => dw_wait h hb.size ⟨rfl, rfl, rfl, (by rw [wQ_len]; omega), (show k < 9223372036854775808 by omega)⟩ 99 (by omega) 99 rfl)
      have HD3 := Bx.mk (fun W (h : Up w1.heap.size (Both (Dq q p ((wQ k i).cancel r)) Nw) W) (hb : Below w1.heap.size w1 W) => dw_wait h hb.size ⟨rfl, rfl, rfl, (Nat.lt_of_le_of_lt (List.length_erase_le ..) (by rw [wQ_len]; omega)), (show k < 9223372036854775808 by omega)⟩ 99 (by omega) 99 rfl)
      have HCA := Bx.mk (fun W (h : Up w1.heap.size (Both (Dq q p (wQ k i)) Nw) W) (hb : Below w1.heap.size w1 W) V hV => uq_cancel Wd.nw h hb.size r (by omega) (Nat.zero_le _) (show 400 ≤ 4096 by decide) V hV)
      have HWN := Bx.mk (fun (W : World) (h : Up w1.heap.size (Both (Dq q p Z) Nw) W) => uq_waiting h)
      rw [wQ_again k i r hrk hki] at HD1
      rw [wQ_other k i hk4 hki] at HD2
      rw [hZ] at HD3
      rw [hZl, hKI] at HWN
      obtain ⟨RI, hRI⟩ := letter r
      rw [hRI] at hr
      have HD1' := Bx.mk (fun W h hb => HD1.out W h hb RI hRI)
      have HCA' := Bx.mk (fun W h hb => HCA.out W h hb RI hRI)
      have hK0 : ¬ (KI = 0) := by omega
      have hwr : IntKind.u64.wrap RI = RI := u64_keep (by omega) (by omega)
      have hwz : IntKind.i64.wrap n2 = n2 := (i64_keep (by omega) (by omega)).2
      have hwr2 : IntKind.i64.wrap RI = RI := (i64_keep (by omega) (by omega)).2
      clear hk4 hN7 hKI hNI hig hk0 hNk hki hrk hr2 hZ hZl hRI HD1 HCA
      go_upto_region 17 with (go_at_call 15; refine (HD1'.out wr HU.out HBX.out).mono ?_; rintro e w3 ⟨rfl, hu3, hb3⟩; have HU3 := Bx.mk hu3; have HB3 := Bx.mk (HBX.out.trans hb3); clear hu3 hb3)
      go_upto_region 19 with (first
        | (go_at_call 15; refine (HD2.out w3 HU3.out HB3.out).mono ?_; rintro e w4 ⟨rfl, hu4, hb4⟩; have HU4 := Bx.mk hu4; have HB4 := Bx.mk (HB3.out.trans hb4); clear hu4 hb4)
        | (go_at_call 17; refine (HCA'.out w4 HU4.out HB4.out).mono ?_; rintro e w5 ⟨rfl, hu5, hb5⟩; have HU5 := Bx.mk hu5; have HB5 := Bx.mk (HB4.out.trans hb5); clear hu5 hb5))
      go_wp2_with (first
        | (go_at_call 15; refine (HD3.out w5 HU5.out HB5.out).mono ?_; rintro e w6 ⟨rfl, hu6, hb6⟩; have HU6 := Bx.mk hu6; have HB6 := Bx.mk (HB5.out.trans hb6); clear hu6 hb6)
        | (go_at_call 16; refine (HWN.out _ HU6.out).mono ?_; rintro e w7 ⟨rfl, rfl⟩))
      go_ret
      exact ⟨rfl, HB1.out.trans (HB6.out.mono HB1.out.size)⟩
    | succ g =>
      have hlt : decide ((i : Int) < NI) = true := decide_eq_true (by omega)
      obtain ⟨II, hII⟩ := letter i
      have hDW := uq_wait (Wd.nw.both (Wd.ob _)) (uq_lit Wd.nw HU.out HBX.out.size #[.int .u8 2, .int .u8 0, .int .u8 128] [2, 0, 128] 3 rfl rfl (by omega)) (by have := HBX.out.size; simp; omega) rfl (show 400 ≤ 4096 by decide) (Nat.zero_le _) (by rw [wQ_len]; omega) (show k < 9223372036854775808 by omega) i (by omega) II hII _ _ (ob_second _ _) (by decide) 1 1 2 k_wait.1 (show 0 < 1 by decide)
      rw [wQ_wait] at hDW
      have HDW := Bx.mk hDW
      have hwi : IntKind.u64.wrap II = II := u64_keep (by omega) (by omega)
      have HWN := Bx.mk (fun (W : World) (h : Up w1.heap.size (Both (Dq q p (wQ k (i + 1))) Nw) W) => uq_waiting h)
      rw [wQ_len] at HWN
      obtain ⟨MI, hMI⟩ := letter (min (i + 1) k)
      rw [hMI] at HWN
      have hw1 : wrap64 (II + 1) = II + 1 := by unfold wrap64; omega
      have hw1' : IntKind.i64.wrap (II + 1) = II + 1 := (i64_keep (by omega) (by omega)).2
      have hmin : min (II + 1) KI = MI := by omega
      have hIS : II + 1 = ((i + 1 : Nat) : Int) := by omega
      have HIS := Bx.mk hIS
      rw [hII] at hlt
      by_cases hik : i < k
      · rw [if_pos hik] at HDW
        have hge : decide (KI ≤ II) = false := decide_eq_false (by omega)
        have HIG := Bx.mk hig
        simp only [hII]
        clear hDW hk4 hN7 hKI hNI hII hMI hig hik hIS
        go_wp2_with (first
          | (go_at_call 15; refine HDW.out.mono ?_; rintro e w3 ⟨rfl, hu3, hb3⟩; have HU3 := Bx.mk (uq_drop hu3); have HB3 := Bx.mk ((HBX.out.trans (HA.out.mono HBX.out.size)).trans hb3); clear hu3 hb3)
          | (go_at_call 16; refine (HWN.out _ HU3.out).mono ?_; rintro e w4 ⟨rfl, rfl⟩))
        go_roundg g
        case measure => omega
        case rel => exact ⟨i + 1, by have := HIG.out; omega, by rw [HIS.out], HU3, HB3⟩
      · rw [if_neg hik] at HDW
        have hge : decide (KI ≤ II) = true := decide_eq_true (by omega)
        have HIG := Bx.mk hig
        simp only [hII]
        clear hDW hk4 hN7 hKI hNI hII hMI hig hik hIS
        go_wp2_with (first
          | (go_at_call 15; refine HDW.out.mono ?_; rintro e w3 ⟨rfl, hu3, hb3⟩; have HU3 := Bx.mk (uq_drop hu3); have HB3 := Bx.mk ((HBX.out.trans (HA.out.mono HBX.out.size)).trans hb3); clear hu3 hb3)
          | (go_at_call 16; refine (HWN.out _ HU3.out).mono ?_; rintro e w4 ⟨rfl, rfl⟩))
        go_roundg g
        case measure => omega
        case rel => exact ⟨i + 1, by have := HIG.out; omega, by rw [HIS.out], HU3, HB3⟩
end Go.Proofs.Yteopmaaghhendaa
