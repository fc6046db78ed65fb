/-
  bifoldlaw10.QdecSends answers true, whatever its arguments: the walk.
-/
import Derived.Test.YteopmaaghhendaaM26
import Derived.Deep.CutRange
import Derived.Deep.CutBlock
import Derived.Deep.RegionHeld
namespace Go.Proofs.Yteopmaaghhendaa
open Go.RowKit Go.Maps
set_option linter.unusedVariables false
set_option linter.unusedSimpArgs false

section
variable {q p B : Nat} {X : Qr} {w : World} {v : Value} {l : List UInt8}
/-- A section: its beginning, and a line. -/
theorem s_sec (w : World) (c : Nat) (C : Int) (hC : (c : Int) = C) (hc : c ≤ 1000000) :
    Calls Try.prog 24 #[.slice none 0 0, .int .u64 C, .int .u64 C, .int .i64 4096] w fun e w' => ∃ v', e = .returned v' ∧ OwB w' w.heap.size v' (qpre c c 128) ∧ Below w.heap.size w w' := by
  subst hC
  refine (refQPrefix_own w.heap.size (.slice none 0 0) [] c c 4096 w (OwB.nil _ _) (Nat.le_refl _) (by simp) (by omega) (by omega) (by omega)).mono ?_
  rintro e w' ⟨v', he, ho, hb, _⟩
  rw [show mostN 4096 = 128 from by decide, List.nil_append] at ho
  exact ⟨v', he, ho, hb⟩
end
set_option maxRecDepth 100000 in
set_option maxHeartbeats 8000000 in
theorem qdecSends_walk (n0 n1 n2 : Int) (hn0 : (Lit.int .u8 n0).wf = true) (hn1 : (Lit.int .u8 n1).wf = true) (hn2 : (Lit.int .u8 n2).wf = true) (w : World) :
    Calls Try.prog 6 #[.int .u8 n0, .int .u8 n1, .int .u8 n2] w fun e w' => e = .returned (.bool true) ∧ Below w.heap.size w w' := by
  have range : ∀ n : Int, (Lit.int .u8 n).wf = true → 0 ≤ n ∧ n < 256 := fun n h => by
    simp [Lit.wf, IntKind.min, IntKind.max, IntKind.signed, IntKind.bits] at h
    omega
  have r0 := range n0 hn0
  have r1 := range n1 hn1
  have r2 := range n2 hn2
  obtain ⟨N, hN⟩ : ∃ N : Nat, n0.tmod 6 = (N : Int) := ⟨(n0.tmod 6).toNat, by rw [Int.tmod_eq_emod_of_nonneg r0.1]; omega⟩
  have hN5 : N ≤ 5 := by rw [Int.tmod_eq_emod_of_nonneg r0.1] at hN; omega
  obtain ⟨A, hA⟩ : ∃ A : Nat, n1.tmod 4 = (A : Int) := ⟨(n1.tmod 4).toNat, by rw [Int.tmod_eq_emod_of_nonneg r1.1]; omega⟩
  have hA3 : A ≤ 3 := by rw [Int.tmod_eq_emod_of_nonneg r1.1] at hA; omega
  obtain ⟨M, hM⟩ : ∃ M : Nat, n2.tmod 3 = (M : Int) := ⟨(n2.tmod 3).toNat, by rw [Int.tmod_eq_emod_of_nonneg r2.1]; omega⟩
  have hM2 : M ≤ 2 := by rw [Int.tmod_eq_emod_of_nonneg r2.1] at hM; omega
  have HK := Bx.mk (known10_any w)
  have HNEW := Bx.mk (fun W => dnew_any 4096 4 (by omega) W)
  rw [show Qr.new (clampN 4096) (Int.toNat 4) = Qr.new 4096 4 from rfl] at HNEW
  obtain ⟨NI, hNI⟩ := letter N
  rw [hNI] at hN
  obtain ⟨AI, hAI⟩ := letter A
  rw [hAI] at hA
  obtain ⟨MI, hMI⟩ := letter M
  rw [hMI] at hM
  have HB := Bx.mk (show N ≤ 5 ∧ A ≤ 3 ∧ M ≤ 2 ∧ (N : Int) = NI ∧ (A : Int) = AI ∧ (M : Int) = MI from ⟨hN5, hA3, hM2, hNI, hAI, hMI⟩)
  have hwn8 : IntKind.u8.wrap NI = NI := by rw [IntKind.wrap_u8]; omega
  have hwn : IntKind.i64.wrap NI = NI := (i64_keep (by omega) (by omega)).2
  have hwnu : IntKind.u64.wrap NI = NI := u64_keep (by omega) (by omega)
  have hwa8 : IntKind.u8.wrap AI = AI := by rw [IntKind.wrap_u8]; omega
  have hwa : IntKind.i64.wrap AI = AI := (i64_keep (by omega) (by omega)).2
  have hwm8 : IntKind.u8.wrap MI = MI := by rw [IntKind.wrap_u8]; omega
  have hwm : IntKind.i64.wrap MI = MI := (i64_keep (by omega) (by omega)).2
  clear hn0 hn1 hn2 range r0 r1 r2 hN5 hA3 hM2 hNI hAI hMI
  go_enter Try.func6, Try.ntmps6
  go_wp2_with (first
    | (go_at_call 7; refine HK.out.mono ?_; rintro e w1 ⟨rfl, b1⟩; have HB1 := Bx.mk b1; clear b1)
    | (go_at_call 8; refine (HNEW.out _).mono ?_; rintro e w2 ⟨q, p, S2, rfl, h2, hs2, b2⟩; have HU2 : Bx (Up w1.heap.size (Both (Dq q p (Qr.new 4096 4)) (Owb (.slice none 0 0) [])) w2) := ⟨Up.none_ (Up.nw ⟨S2, h2, hs2⟩)⟩; have HB2 := Bx.mk b2; have HPF := Bx.mk (up_pref (Wd.dq q p _) HU2.out HB2.out.size 32 32 rfl 5 5 rfl 4096 4096 rfl (by simp) (by omega)); clear h2 hs2 b2)
    | (go_at_call 23; refine HPF.out.mono ?_; rintro e w3 ⟨v3, rfl, hu3, hb3⟩; have HU3 : Bx (Up w1.heap.size (Both (Dq q p (Qr.new 4096 4)) (Owb v3 (sIns 0))) w3) := ⟨hu3⟩; have HB3 := Bx.mk (HB2.out.trans hb3); clear hu3 hb3))
  clear HU2 HPF
  obtain ⟨i0, hi, hzz, hz1, hz2⟩ := info_parts infoU8
  have HI : Bx (Try.prog.info? 5 = some i0 ∧ i0.zero = some (.int .u8 0) ∧ i0.size = 1 ∧ i0.bytes = 1) := ⟨hi, hzz, hz1, hz2⟩
  clear hi hzz hz1 hz2
  go_loopg [8, 9] N (fun g s8 s9 wx => ∃ i : Nat, i + g = N ∧ s9 = .int .i64 i ∧ Bx (Up w1.heap.size (Both (Dq q p (Qr.new 4096 4)) (Owb s8 (sIns i))) wx) ∧ Bx (Below w1.heap.size w1 wx))
  case atStart => exact ⟨0, by omega, rfl, HU3, HB3⟩
  case round =>
    obtain ⟨i, hig, rfl, HU, HBX⟩ := hrel
    clear HU3
    obtain ⟨hN5, hA3, hM2, hNI, hAI, hMI⟩ := HB.out
    cases gk with
    | zero =>
      obtain rfl : i = N := by omega
      have hlt : decide ((i : Int) < NI) = false := decide_eq_false (by omega)
      have HLN := Bx.mk (sIns_len i)
      have hfd := uq_feed (Wd.owb u8 (sIns i)) HU.out HBX.out.size (show (4096 : Nat) ≤ 4096 by decide) ⟨by decide, by decide⟩ (fun x hx => by cases hx) (Nat.zero_le _) (fun W S2 h => h.1.bs) (by have := HLN.out; omega) (Nat.zero_le _)
      rw [s_feed i hN5] at hfd
      have HFD := Bx.mk hfd
      rw [aQ_zero] at HFD
      clear hfd hN5 hA3 hM2 hNI hAI hMI hig
      go_wp2_with (go_at_call 10; refine HFD.out.mono ?_; rintro e w4 ⟨rfl, hu4, hb4⟩; have HU4 : Bx (Up w1.heap.size (Both (Dq q p (aQ i 0)) (Owb (.slice none 0 0) (sAck 0))) w4) := ⟨Up.none_ (Up.nw hu4.fst)⟩; have HB4 := Bx.mk (HBX.out.trans hb4); clear hu4 hb4)
      clear HU HFD HLN HBX
      go_loopg [10, 11, 12] A (fun g s10 s11 s12 wx => ∃ j : Nat, j + g = A ∧ s12 = .int .i64 j ∧ s11 = .int .u64 (sMost i j : Nat) ∧ (j ≠ 0 → 0 < i) ∧ Bx (Up w1.heap.size (Both (Dq q p (aQ i j)) (Owb s10 (sAck j))) wx) ∧ Bx (Below w1.heap.size w1 wx))
      case atStart => exact ⟨0, by omega, rfl, rfl, fun h => absurd rfl h, HU4, HB4⟩
      case round =>
        obtain ⟨j, hjg, rfl, rfl, hj0, HU, HBX⟩ := hrel
        clear HU4
        obtain ⟨hN5, hA3, hM2, hNI, hAI, hMI⟩ := HB.out
        obtain ⟨JI, hJI⟩ := letter j
        by_cases hjA : j < A
        · have hltj : decide (JI < AI) = true := decide_eq_true (by omega)
          by_cases hi0 : 0 < i
          · have hgt0 : decide (0 < NI) = true := decide_eq_true (by omega)
            cases gk with
            | zero => exact absurd hjg (by omega)
            | succ g =>
              have hwj : IntKind.u64.wrap JI = JI := u64_keep (by omega) (by omega)
              obtain ⟨RM, hRM⟩ : ∃ RM, JI.tmod NI = RM := ⟨_, rfl⟩
              have hrm : RM = ((j % i : Nat) : Int) := by
                rw [← hRM, Int.tmod_eq_emod_of_nonneg (by omega), ← hJI, ← hNI]
                rfl
              have hN0 : ¬ (NI = 0) := by omega
              obtain ⟨C, hC⟩ := letter (j % i + 1)
              have hmi := Nat.mod_lt j hi0
              have hml : j % i ≤ j := Nat.mod_le _ _
              have hwc : IntKind.u64.wrap (RM + 1) = C := by rw [u64_keep (by omega) (by omega)]; omega
              have hwr : IntKind.u64.wrap RM = RM := u64_keep (by omega) (by omega)
              obtain ⟨hq1, hq2, hq3⟩ := s_read i (j % i + 1) hN5 (by omega) (by omega) (by omega)
              have HSEC := Bx.mk (fun W => s_sec W (j % i + 1) C hC (by omega))
              have hsl := sAck_len j
              have hmo := sMost_le i hi0 j
              have hmo2 := sMost_le i hi0 (j + 1)
              obtain ⟨SB, hSB⟩ : ∃ SB, qpre (j % i + 1) (j % i + 1) 128 = SB := ⟨_, rfl⟩
              rw [hSB] at hq1 hq2 hq3
              simp only [hSB] at HSEC
              have HDC := Bx.mk (fun W sV (hu : Up w1.heap.size (Both (Dq q p (aQ i j)) (Both (Owb u10 (sAck j)) (Owb sV (SB ++ [128])))) W) (hb : Below w1.heap.size w1 W) => uq_decode ((Wd.owb _ _).both (Wd.owb _ _)) hu hb.size rfl (show (4096 : Nat) ≤ 4096 by decide) (show i ≤ 1000000 by omega) (show sMost i j ≤ 1000000 by omega) (show (sAck j).length ≤ 1000000 by omega) j (by omega) JI hJI sV (SB ++ [128]) (fun W S2 h => by obtain ⟨_, _, _, h2, _⟩ := h; exact h2.1.bs) (by omega) (j % i + 1) (j % i + 1) 2 hq1 (show j % i + 1 ≤ i by omega) (by omega) (by omega) [sEnt (j % i + 1 - 1)] hq3)
              simp only [aQ_step] at HDC
              have HPR := Bx.mk (fun W (h : Up w1.heap.size (Both (Dq q p (aQ i (j + 1))) (Owb u10 (sAck j))) W) (hb : Below w1.heap.size w1 W) => up_pref (Wd.dq q p _) h hb.size 128 128 rfl 7 7 rfl j JI hJI (by omega) (by omega))
              obtain ⟨MO, hMO⟩ := letter (sMost i j)
              have hmx : max MO C = ((sMost i (j + 1) : Nat) : Int) := by
                show _ = ((max (sMost i j) (j % i + 1) : Nat) : Int)
                omega
              obtain ⟨MO2, hMO2⟩ := letter (sMost i (j + 1))
              rw [hMO2] at hmx
              have HMO2 := Bx.mk hMO2
              have HIG := Bx.mk hjg
              have HI0 := Bx.mk hi0
              have HL2 := Bx.mk hq2
              have hw1 : wrap64 (JI + 1) = JI + 1 := by unfold wrap64; omega
              have HIS := Bx.mk (show JI + 1 = ((j + 1 : Nat) : Int) by omega)
              simp only [hJI, hMO]
              clear hN5 hA3 hM2 hNI hAI hMI hJI hjA hi0 hjg hrm hC hmi hml hq1 hq2 hq3 hsl hmo hmo2 hSB hMO hMO2 hj0
              go_wp2_with (first
                | (go_at_call 24; refine (HSEC.out _).mono ?_; rintro e w5 ⟨v5, rfl, ho5, hb5⟩; have HO5 := Bx.mk ho5; have HB5 := Bx.mk hb5; have HL5 := Bx.mk (Rd.lit w5 5 #[.int .u8 128] 1 rfl (by unfold maxLen; omega)); have HA5 := Bx.mk ((Below.refl w5.heap.size w5).alloc (Nat.le_refl _) (.cells #[.int .u8 128] 5)); clear ho5 hb5)
                | (at_builtin; refine wpList_append_og _ rfl (.tmp 61) (.tmp 62) 23 rfl wr.heap.size 5 i0 (.int .u8 0) 1 Try.underlying23 HI.out.1 HI.out.2.1 HI.out.2.2.1 HI.out.2.2.2 rfl _ _ _ _ rfl rfl (HO5.out.keep HA5.out) HL5.out (by intro x hx; simp at hx; subst hx; rfl) (by have := HL2.out; simp only [List.length_append, List.length_map, List.length_singleton] at *; simp; omega) (by have := HL2.out; simp only [List.length_append, List.length_map, List.length_singleton, maxLen] at *; simp; omega) (Nat.le_trans HB5.out.size HA5.out.size) ?_; intro v6 w6 ho6 hb6 _; have ho6' : OwB w6 wr.heap.size v6 (SB ++ [128]) := OwB.cat ho6; have hbw := (HB5.out.trans (HA5.out.mono HB5.out.size)).trans hb6; have HU6 := Bx.mk (Up.add ((Wd.dq q p _).both (Wd.owb _ _)) HU.out HBX.out.size hbw (Up.ofOwb ho6' (Nat.le_refl _))).assoc2; have HB6 := Bx.mk (HBX.out.trans (hbw.mono HBX.out.size)); clear ho6 hb6 ho6' hbw)
                | (go_at_call 15; refine (HDC.out w6 v6 HU6.out HB6.out).mono ?_; rintro e w7 ⟨v7, rfl, hu7, hb7⟩; have HU7 := Bx.mk hu7.pick; have HB7 := Bx.mk (HB6.out.trans hb7); clear hu7 hb7)
                | (go_at_call 23; refine (HPR.out w7 HU7.out HB7.out).mono ?_; rintro e w8 ⟨v8, rfl, hu8, hb8⟩; have HU8 : Bx (Up w1.heap.size (Both (Dq q p (aQ i (j + 1))) (Owb v8 (sAck (j + 1)))) w8) := ⟨hu8⟩; have HB8 := Bx.mk (HB7.out.trans hb8); clear hu8 hb8))
              go_roundg g
              case measure => omega
              case rel => exact ⟨j + 1, by have := HIG.out; omega, by first | (rw [hw1, HIS.out]) | (rw [HIS.out]), by rw [HMO2.out], fun _ => HI0.out, HU8, HB8⟩
          · have hgt0 : decide (0 < NI) = false := decide_eq_false (by omega)
            have HJM := Bx.mk (show j ≤ 3 ∧ (j ≠ 0 → 0 < i) from ⟨by omega, hj0⟩)
            simp only [hJI]
            clear hN5 hA3 hM2 hNI hAI hMI hJI hjA hjg hj0 hi0
            go_wp2_with fail
            go_loopg [10, 17] M (fun g s10 s17 wx => ∃ m : Nat, m + g = M ∧ s17 = .int .i64 m ∧ Bx (Up w1.heap.size (Both (Dq q p (cQ i j m)) (Owb s10 (sCan (sAck j) m))) wx) ∧ Bx (Below w1.heap.size w1 wx))
            case atStart => exact ⟨0, by omega, rfl, HU, HBX⟩
            case round =>
              obtain ⟨m, hmg, rfl, HUC, HBC⟩ := hrel
              obtain ⟨hN5, hA3, hM2, hNI, hAI, hMI⟩ := HB.out
              have hjm := HJM.out
              obtain ⟨II, hII⟩ := letter m
              cases gk with
              | zero =>
                have hlt : decide (II < MI) = false := decide_eq_false (by omega)
                simp only [hII]
                obtain rfl : m = M := by omega
                have hmle : sMost i j ≤ i := by
                  by_cases hj : j = 0
                  · subst hj; exact Nat.zero_le _
                  · exact sMost_le i (hjm.2 hj) j
                have hsl1 := sCan_len (sAck j) m
                have hsl2 := sAck_len j
                have hjle := hjm.1
                obtain ⟨MO, hMO⟩ := letter (sMost i j)
                obtain ⟨DI, hDI⟩ := letter (i - sMost i j)
                have hsubD : IntKind.u64.wrap (NI - MO) = DI := by rw [u64_keep (by omega) (by omega)]; omega
                have hsent : (cQ i j m).sent.send = [] := by
                  have h : ¬ ((cQ i j m).sent.told < (cQ i j m).sent.T.tot) := by
                    show ¬ (max (sMost i j) (cQ i j m).T.tot < (cQ i j m).T.tot)
                    omega
                  unfold Qr.send
                  rw [if_neg h]
                  rfl
                simp only [hMO]
                by_cases hD : sMost i j < i
                · have hdd : decide (0 < DI) = true := decide_eq_true (by omega)
                  obtain ⟨WL, hWL⟩ : ∃ WL, sCan (sAck j) m ++ pre 0 6 (i - sMost i j) = WL := ⟨_, rfl⟩
                  have hsend : (cQ i j m).send = WL := by
                    unfold Qr.send
                    have h : (cQ i j m).told < (cQ i j m).T.tot := hD
                    rw [if_pos h]
                    exact hWL
                  have hPR := up_pref (Wd.dq q p _) HUC.out HBC.out.size 0 0 rfl 6 6 rfl (i - sMost i j) DI hDI (by omega) (by omega)
                  rw [hWL] at hPR
                  have HPR := Bx.mk hPR
                  have HSN := Bx.mk (fun (v : Value) (W : World) (h : Up w1.heap.size (Both (Dq q p (cQ i j m)) (Owb v WL)) W) (hb : Below w1.heap.size w1 W) => uq_send (Wd.owb _ _) h hb.size (show (sCan (sAck j) m).length ≤ 1000000 by omega) (show sMost i j ≤ i from hmle) (show i ≤ 1000000 by omega))
                  rw [hsend] at HSN
                  have HS2 := Bx.mk (fun (v8 : Value) (v : Value) (W : World) (h : Up w1.heap.size (Both (Dq q p (cQ i j m).sent) (Both (Owb v8 WL) (Owb v WL))) W) (hb : Below w1.heap.size w1 W) => uq_send ((Wd.owb _ _).both (Wd.owb _ _)) h hb.size (Nat.zero_le _) (show max (sMost i j) i ≤ i by omega) (show i ≤ 1000000 by omega))
                  rw [hsent] at HS2
                  clear hN5 hA3 hM2 hNI hAI hMI hII hmg hsl1 hsl2 hjm hjle hmle hMO hDI hsent hsend hD hWL hPR
                  go_wp2_with (go_at_call 23; refine HPR.out.mono ?_; rintro e w7 ⟨v7, rfl, hu7, hb7⟩; have HU7 := Bx.mk hu7; have HB7 := Bx.mk (HBC.out.trans hb7); clear hu7 hb7)
                  have hc7 : ∀ W, Bs W v7 WL → (convert 23 9 v7).run Try.prog W = .ok (.string (bstr WL)) W := fun W h => conv_str h
                  have HBS0 := Bx.mk (((HU7.out.snd.keep (Wd.owb _ _) (Below.refl _ _).drew).owbs))
                  have HUD := Bx.mk (HU7.out.keep ((Wd.dq q p _).both (Wd.owb _ _)) (Below.refl _ _).drew)
                  obtain ⟨ST, hST⟩ : ∃ ST, bstr WL = ST := ⟨_, rfl⟩
                  rw [hST] at hc7
                  go_region_held (fun W => Bs W v7 WL) (first | assumption | exact HBS0.out) (first
                    | (go_at_call 14; refine (HSN.out v7 _ HUD.out HB7.out.drew).mono ?_; rintro e w8 ⟨v8, rfl, hu8, hb8⟩; have hS8 : Bs w8 v7 WL := hu8.snd.snd.owbs; have hconv8 := conv_str hu8.snd.fst.owbs; rw [hST] at hconv8; have HU8 := Bx.mk hu8; have HB8 := Bx.mk (HB7.out.drew.trans hb8); clear hu8 hb8)
                    | (go_at_call 14; refine (HS2.out v8 v7 _ HU8.out HB8.out).mono ?_; rintro e w9 ⟨v9, rfl, hu9, hb9⟩; have hS9 : Bs w9 v7 WL := hu9.snd.snd.snd.owbs; have hlen9 := fun ty W => hu9.snd.fst.owbs.run_len ty W; have HB9 := Bx.mk (HB8.out.trans hb9); clear hu9 hb9))
                  all_goals go_wp2_with fail
                  all_goals go_ret
                  all_goals exact ⟨rfl, HB1.out.trans (HB9.out.mono HB1.out.size)⟩
                · have hdd : decide (0 < DI) = false := decide_eq_false (by omega)
                  obtain ⟨WL, hWL⟩ : ∃ WL, sCan (sAck j) m = WL := ⟨_, rfl⟩
                  have hsend : (cQ i j m).send = WL := by
                    unfold Qr.send
                    have h : ¬ ((cQ i j m).told < (cQ i j m).T.tot) := hD
                    rw [if_neg h]
                    exact hWL
                  have hU7 := HUC.out
                  rw [hWL] at hU7
                  have HU7 := Bx.mk hU7
                  have HB7 := HBC
                  have HSN := Bx.mk (fun (v : Value) (W : World) (h : Up w1.heap.size (Both (Dq q p (cQ i j m)) (Owb v WL)) W) (hb : Below w1.heap.size w1 W) => uq_send (Wd.owb _ _) h hb.size (show (sCan (sAck j) m).length ≤ 1000000 by omega) (show sMost i j ≤ i from hmle) (show i ≤ 1000000 by omega))
                  rw [hsend] at HSN
                  have HS2 := Bx.mk (fun (v8 : Value) (v : Value) (W : World) (h : Up w1.heap.size (Both (Dq q p (cQ i j m).sent) (Both (Owb v8 WL) (Owb v WL))) W) (hb : Below w1.heap.size w1 W) => uq_send ((Wd.owb _ _).both (Wd.owb _ _)) h hb.size (Nat.zero_le _) (show max (sMost i j) i ≤ i by omega) (show i ≤ 1000000 by omega))
                  rw [hsent] at HS2
                  clear hN5 hA3 hM2 hNI hAI hMI hII hmg hsl1 hsl2 hjm hjle hmle hMO hDI hsent hsend hD hWL hU7
                  have hc7 : ∀ W, Bs W u10 WL → (convert 23 9 u10).run Try.prog W = .ok (.string (bstr WL)) W := fun W h => conv_str h
                  have HBS0 := Bx.mk (((HU7.out.snd.keep (Wd.owb _ _) (Below.refl _ _).drew).owbs))
                  have HUD := Bx.mk (HU7.out.keep ((Wd.dq q p _).both (Wd.owb _ _)) (Below.refl _ _).drew)
                  obtain ⟨ST, hST⟩ : ∃ ST, bstr WL = ST := ⟨_, rfl⟩
                  rw [hST] at hc7
                  go_wp2_with fail
                  go_region_held (fun W => Bs W u10 WL) (first | assumption | exact HBS0.out) (first
                    | (go_at_call 14; refine (HSN.out u10 _ HUD.out HB7.out.drew).mono ?_; rintro e w8 ⟨v8, rfl, hu8, hb8⟩; have hS8 : Bs w8 u10 WL := hu8.snd.snd.owbs; have hconv8 := conv_str hu8.snd.fst.owbs; rw [hST] at hconv8; have HU8 := Bx.mk hu8; have HB8 := Bx.mk (HB7.out.drew.trans hb8); clear hu8 hb8)
                    | (go_at_call 14; refine (HS2.out v8 u10 _ HU8.out HB8.out).mono ?_; rintro e w9 ⟨v9, rfl, hu9, hb9⟩; have hS9 : Bs w9 u10 WL := hu9.snd.snd.snd.owbs; have hlen9 := fun ty W => hu9.snd.fst.owbs.run_len ty W; have HB9 := Bx.mk (HB8.out.trans hb9); clear hu9 hb9))
                  all_goals go_wp2_with fail
                  all_goals go_ret
                  all_goals exact ⟨rfl, HB1.out.trans (HB9.out.mono HB1.out.size)⟩
              | succ g =>
                have hlt : decide (II < MI) = true := decide_eq_true (by omega)
                have hwi : IntKind.u64.wrap II = II := u64_keep (by omega) (by omega)
                have hs1 : IntKind.u64.wrap (II + 100) = II + 100 := u64_keep (by omega) (by omega)
                have hw1 : wrap64 (II + 1) = II + 1 := by unfold wrap64; omega
                have HIS := Bx.mk (show II + 1 = ((m + 1 : Nat) : Int) by omega)
                have HIG := Bx.mk hmg
                have hsl1 := sCan_len (sAck j) m
                have hsl2 := sAck_len j
                have HCA := Bx.mk (uq_cancel (Wd.owb _ _) HUC.out HBC.out.size (m + 100) (by omega) (show (sCan (sAck j) m).length ≤ 1000000 by omega) (show (4096 : Nat) ≤ 4096 by decide) (II + 100) (by omega))
                rw [cQ_step] at HCA
                have HPR := Bx.mk (fun W (h : Up w1.heap.size (Both (Dq q p (cQ i j (m + 1))) (Owb u10 (sCan (sAck j) m))) W) (hb : Below w1.heap.size w1 W) => up_pref (Wd.dq q p _) h hb.size 64 64 rfl 6 6 rfl (m + 100) (II + 100) (by omega) (by omega) (by omega))
                simp only [hII]
                clear hN5 hA3 hM2 hNI hAI hMI hII hmg hsl1 hsl2 hjm
                go_wp2_with (first
                  | (go_at_call 17; refine HCA.out.mono ?_; rintro e w5 ⟨rfl, hu5, hb5⟩; have HU5 := Bx.mk hu5; have HB5 := Bx.mk (HBC.out.trans hb5); clear hu5 hb5)
                  | (go_at_call 23; refine (HPR.out _ HU5.out HB5.out).mono ?_; rintro e w6 ⟨v6, rfl, hu6, hb6⟩; have HU6 : Bx (Up w1.heap.size (Both (Dq q p (cQ i j (m + 1))) (Owb v6 (sCan (sAck j) (m + 1)))) w6) := ⟨hu6⟩; have HB6 := Bx.mk (HB5.out.trans hb6); clear hu6 hb6))
                go_roundg g
                case measure => omega
                case rel => exact ⟨m + 1, by have := HIG.out; omega, by first | (rw [hw1, HIS.out]) | (rw [HIS.out]), HU6, HB6⟩
        · have hltj : decide (JI < AI) = false := decide_eq_false (by omega)
          have HJM := Bx.mk (show j ≤ 3 ∧ (j ≠ 0 → 0 < i) from ⟨by omega, hj0⟩)
          simp only [hJI]
          clear hN5 hA3 hM2 hNI hAI hMI hJI hjA hjg hj0
          go_wp2_with fail
          go_loopg [10, 17] M (fun g s10 s17 wx => ∃ m : Nat, m + g = M ∧ s17 = .int .i64 m ∧ Bx (Up w1.heap.size (Both (Dq q p (cQ i j m)) (Owb s10 (sCan (sAck j) m))) wx) ∧ Bx (Below w1.heap.size w1 wx))
          case atStart => exact ⟨0, by omega, rfl, HU, HBX⟩
          case round =>
            obtain ⟨m, hmg, rfl, HUC, HBC⟩ := hrel
            obtain ⟨hN5, hA3, hM2, hNI, hAI, hMI⟩ := HB.out
            have hjm := HJM.out
            obtain ⟨II, hII⟩ := letter m
            cases gk with
            | zero =>
              have hlt : decide (II < MI) = false := decide_eq_false (by omega)
              simp only [hII]
              obtain rfl : m = M := by omega
              have hmle : sMost i j ≤ i := by
                by_cases hj : j = 0
                · subst hj; exact Nat.zero_le _
                · exact sMost_le i (hjm.2 hj) j
              have hsl1 := sCan_len (sAck j) m
              have hsl2 := sAck_len j
              have hjle := hjm.1
              obtain ⟨MO, hMO⟩ := letter (sMost i j)
              obtain ⟨DI, hDI⟩ := letter (i - sMost i j)
              have hsubD : IntKind.u64.wrap (NI - MO) = DI := by rw [u64_keep (by omega) (by omega)]; omega
              have hsent : (cQ i j m).sent.send = [] := by
                have h : ¬ ((cQ i j m).sent.told < (cQ i j m).sent.T.tot) := by
                  show ¬ (max (sMost i j) (cQ i j m).T.tot < (cQ i j m).T.tot)
                  omega
                unfold Qr.send
                rw [if_neg h]
                rfl
              simp only [hMO]
              by_cases hD : sMost i j < i
              · have hdd : decide (0 < DI) = true := decide_eq_true (by omega)
                obtain ⟨WL, hWL⟩ : ∃ WL, sCan (sAck j) m ++ pre 0 6 (i - sMost i j) = WL := ⟨_, rfl⟩
                have hsend : (cQ i j m).send = WL := by
                  unfold Qr.send
                  have h : (cQ i j m).told < (cQ i j m).T.tot := hD
                  rw [if_pos h]
                  exact hWL
                have hPR := up_pref (Wd.dq q p _) HUC.out HBC.out.size 0 0 rfl 6 6 rfl (i - sMost i j) DI hDI (by omega) (by omega)
                rw [hWL] at hPR
                have HPR := Bx.mk hPR
                have HSN := Bx.mk (fun (v : Value) (W : World) (h : Up w1.heap.size (Both (Dq q p (cQ i j m)) (Owb v WL)) W) (hb : Below w1.heap.size w1 W) => uq_send (Wd.owb _ _) h hb.size (show (sCan (sAck j) m).length ≤ 1000000 by omega) (show sMost i j ≤ i from hmle) (show i ≤ 1000000 by omega))
                rw [hsend] at HSN
                have HS2 := Bx.mk (fun (v8 : Value) (v : Value) (W : World) (h : Up w1.heap.size (Both (Dq q p (cQ i j m).sent) (Both (Owb v8 WL) (Owb v WL))) W) (hb : Below w1.heap.size w1 W) => uq_send ((Wd.owb _ _).both (Wd.owb _ _)) h hb.size (Nat.zero_le _) (show max (sMost i j) i ≤ i by omega) (show i ≤ 1000000 by omega))
                rw [hsent] at HS2
                clear hN5 hA3 hM2 hNI hAI hMI hII hmg hsl1 hsl2 hjm hjle hmle hMO hDI hsent hsend hD hWL hPR
                go_wp2_with (go_at_call 23; refine HPR.out.mono ?_; rintro e w7 ⟨v7, rfl, hu7, hb7⟩; have HU7 := Bx.mk hu7; have HB7 := Bx.mk (HBC.out.trans hb7); clear hu7 hb7)
                have hc7 : ∀ W, Bs W v7 WL → (convert 23 9 v7).run Try.prog W = .ok (.string (bstr WL)) W := fun W h => conv_str h
                have HBS0 := Bx.mk (((HU7.out.snd.keep (Wd.owb _ _) (Below.refl _ _).drew).owbs))
                have HUD := Bx.mk (HU7.out.keep ((Wd.dq q p _).both (Wd.owb _ _)) (Below.refl _ _).drew)
                obtain ⟨ST, hST⟩ : ∃ ST, bstr WL = ST := ⟨_, rfl⟩
                rw [hST] at hc7
                go_region_held (fun W => Bs W v7 WL) (first | assumption | exact HBS0.out) (first
                  | (go_at_call 14; refine (HSN.out v7 _ HUD.out HB7.out.drew).mono ?_; rintro e w8 ⟨v8, rfl, hu8, hb8⟩; have hS8 : Bs w8 v7 WL := hu8.snd.snd.owbs; have hconv8 := conv_str hu8.snd.fst.owbs; rw [hST] at hconv8; have HU8 := Bx.mk hu8; have HB8 := Bx.mk (HB7.out.drew.trans hb8); clear hu8 hb8)
                  | (go_at_call 14; refine (HS2.out v8 v7 _ HU8.out HB8.out).mono ?_; rintro e w9 ⟨v9, rfl, hu9, hb9⟩; have hS9 : Bs w9 v7 WL := hu9.snd.snd.snd.owbs; have hlen9 := fun ty W => hu9.snd.fst.owbs.run_len ty W; have HB9 := Bx.mk (HB8.out.trans hb9); clear hu9 hb9))
                all_goals go_wp2_with fail
                all_goals go_ret
                all_goals exact ⟨rfl, HB1.out.trans (HB9.out.mono HB1.out.size)⟩
              · have hdd : decide (0 < DI) = false := decide_eq_false (by omega)
                obtain ⟨WL, hWL⟩ : ∃ WL, sCan (sAck j) m = WL := ⟨_, rfl⟩
                have hsend : (cQ i j m).send = WL := by
                  unfold Qr.send
                  have h : ¬ ((cQ i j m).told < (cQ i j m).T.tot) := hD
                  rw [if_neg h]
                  exact hWL
                have hU7 := HUC.out
                rw [hWL] at hU7
                have HU7 := Bx.mk hU7
                have HB7 := HBC
                have HSN := Bx.mk (fun (v : Value) (W : World) (h : Up w1.heap.size (Both (Dq q p (cQ i j m)) (Owb v WL)) W) (hb : Below w1.heap.size w1 W) => uq_send (Wd.owb _ _) h hb.size (show (sCan (sAck j) m).length ≤ 1000000 by omega) (show sMost i j ≤ i from hmle) (show i ≤ 1000000 by omega))
                rw [hsend] at HSN
                have HS2 := Bx.mk (fun (v8 : Value) (v : Value) (W : World) (h : Up w1.heap.size (Both (Dq q p (cQ i j m).sent) (Both (Owb v8 WL) (Owb v WL))) W) (hb : Below w1.heap.size w1 W) => uq_send ((Wd.owb _ _).both (Wd.owb _ _)) h hb.size (Nat.zero_le _) (show max (sMost i j) i ≤ i by omega) (show i ≤ 1000000 by omega))
                rw [hsent] at HS2
                clear hN5 hA3 hM2 hNI hAI hMI hII hmg hsl1 hsl2 hjm hjle hmle hMO hDI hsent hsend hD hWL hU7
                have hc7 : ∀ W, Bs W u10 WL → (convert 23 9 u10).run Try.prog W = .ok (.string (bstr WL)) W := fun W h => conv_str h
                have HBS0 := Bx.mk (((HU7.out.snd.keep (Wd.owb _ _) (Below.refl _ _).drew).owbs))
                have HUD := Bx.mk (HU7.out.keep ((Wd.dq q p _).both (Wd.owb _ _)) (Below.refl _ _).drew)
                obtain ⟨ST, hST⟩ : ∃ ST, bstr WL = ST := ⟨_, rfl⟩
                rw [hST] at hc7
                go_wp2_with fail
                go_region_held (fun W => Bs W u10 WL) (first | assumption | exact HBS0.out) (first
                  | (go_at_call 14; refine (HSN.out u10 _ HUD.out HB7.out.drew).mono ?_; rintro e w8 ⟨v8, rfl, hu8, hb8⟩; have hS8 : Bs w8 u10 WL := hu8.snd.snd.owbs; have hconv8 := conv_str hu8.snd.fst.owbs; rw [hST] at hconv8; have HU8 := Bx.mk hu8; have HB8 := Bx.mk (HB7.out.drew.trans hb8); clear hu8 hb8)
                  | (go_at_call 14; refine (HS2.out v8 u10 _ HU8.out HB8.out).mono ?_; rintro e w9 ⟨v9, rfl, hu9, hb9⟩; have hS9 : Bs w9 u10 WL := hu9.snd.snd.snd.owbs; have hlen9 := fun ty W => hu9.snd.fst.owbs.run_len ty W; have HB9 := Bx.mk (HB8.out.trans hb9); clear hu9 hb9))
                all_goals go_wp2_with fail
                all_goals go_ret
                all_goals exact ⟨rfl, HB1.out.trans (HB9.out.mono HB1.out.size)⟩
            | succ g =>
              have hlt : decide (II < MI) = true := decide_eq_true (by omega)
              have hwi : IntKind.u64.wrap II = II := u64_keep (by omega) (by omega)
              have hs1 : IntKind.u64.wrap (II + 100) = II + 100 := u64_keep (by omega) (by omega)
              have hw1 : wrap64 (II + 1) = II + 1 := by unfold wrap64; omega
              have HIS := Bx.mk (show II + 1 = ((m + 1 : Nat) : Int) by omega)
              have HIG := Bx.mk hmg
              have hsl1 := sCan_len (sAck j) m
              have hsl2 := sAck_len j
              have HCA := Bx.mk (uq_cancel (Wd.owb _ _) HUC.out HBC.out.size (m + 100) (by omega) (show (sCan (sAck j) m).length ≤ 1000000 by omega) (show (4096 : Nat) ≤ 4096 by decide) (II + 100) (by omega))
              rw [cQ_step] at HCA
              have HPR := Bx.mk (fun W (h : Up w1.heap.size (Both (Dq q p (cQ i j (m + 1))) (Owb u10 (sCan (sAck j) m))) W) (hb : Below w1.heap.size w1 W) => up_pref (Wd.dq q p _) h hb.size 64 64 rfl 6 6 rfl (m + 100) (II + 100) (by omega) (by omega) (by omega))
              simp only [hII]
              clear hN5 hA3 hM2 hNI hAI hMI hII hmg hsl1 hsl2 hjm
              go_wp2_with (first
                | (go_at_call 17; refine HCA.out.mono ?_; rintro e w5 ⟨rfl, hu5, hb5⟩; have HU5 := Bx.mk hu5; have HB5 := Bx.mk (HBC.out.trans hb5); clear hu5 hb5)
                | (go_at_call 23; refine (HPR.out _ HU5.out HB5.out).mono ?_; rintro e w6 ⟨v6, rfl, hu6, hb6⟩; have HU6 : Bx (Up w1.heap.size (Both (Dq q p (cQ i j (m + 1))) (Owb v6 (sCan (sAck j) (m + 1)))) w6) := ⟨hu6⟩; have HB6 := Bx.mk (HB5.out.trans hb6); clear hu6 hb6))
              go_roundg g
              case measure => omega
              case rel => exact ⟨m + 1, by have := HIG.out; omega, by first | (rw [hw1, HIS.out]) | (rw [HIS.out]), HU6, HB6⟩
    | succ g =>
      have hlt : decide ((i : Int) < NI) = true := decide_eq_true (by omega)
      obtain ⟨II, hII⟩ := letter i
      obtain ⟨CH, hCH⟩ := letter (UInt8.ofNat (97 + i)).toNat
      have hch : (UInt8.ofNat (97 + i)).toNat = 97 + i := by
        rw [UInt8.toNat_ofNat']; omega
      have hs1 : wrap64 (97 + II) = 97 + II := by unfold wrap64; omega
      have hs1' : IntKind.i64.wrap (97 + II) = 97 + II := (i64_keep (by omega) (by omega)).2
      have hs2 : IntKind.u8.wrap (97 + II) = CH := by rw [IntKind.wrap_u8]; omega
      have hw1 : wrap64 (II + 1) = II + 1 := by unfold wrap64; omega
      have HIS := Bx.mk (show II + 1 = ((i + 1 : Nat) : Int) by omega)
      have HIG := Bx.mk hig
      have hA1 := (Below.refl wr.heap.size wr).alloc (Nat.le_refl _) (.cells #[.int .u8 65, .int .u8 CH, .int .u8 0] 5)
      have HA1 := Bx.mk hA1
      have HUA := Bx.mk (HU.out.keep ((Wd.dq q p _).both (Wd.owb _ _)) hA1)
      have HLIT : Bx (Bs (wr.alloc (.cells #[.int .u8 65, .int .u8 CH, .int .u8 0] 5)) (.slice (some ⟨wr.heap.size, 0, none⟩) 3 3) [65, UInt8.ofNat (97 + i), 0]) := ⟨by
        have h := Rd.lit wr 5 #[.int .u8 65, .int .u8 CH, .int .u8 0] 3 rfl (by unfold maxLen; omega)
        rw [show (#[.int .u8 65, .int .u8 CH, .int .u8 0] : Array Value).toList = [65, UInt8.ofNat (97 + i), 0].map bv by
          show [Value.int .u8 65, .int .u8 CH, .int .u8 0] = [bv 65, bv (UInt8.ofNat (97 + i)), bv 0]
          rw [show bv (UInt8.ofNat (97 + i)) = .int .u8 CH from by unfold bv; rw [hCH]]
          rfl] at h
        exact h⟩
      have HLN := Bx.mk (sIns_len i)
      have HI7 := Bx.mk (show i ≤ 5 by omega)
      rw [hII] at hlt
      simp only [hII]
      clear hN5 hA3 hM2 hNI hAI hMI hig hII hCH hch hA1
      go_wp2_with (at_builtin; refine wpList_append_fw _ rfl (.tmp 30) (.tmp 34) 23 rfl 0 5 i0 (.int .u8 0) 1 Try.underlying23 HI.out.1 HI.out.2.1 HI.out.2.2.1 HI.out.2.2.2 rfl _ _ _ _ rfl rfl HUA.out.owb HLIT.out one_bv (by have := HLN.out; have := HI7.out; simp only [List.length_map]; simp; omega) (by have := HLN.out; have := HI7.out; simp only [List.length_map, maxLen]; simp; omega) (Nat.zero_le _) ?_; intro v5 w5 ho5 _ hf5; obtain ⟨hu5, hb5⟩ := HUA.out.row (Wd.dq q p _) (Nat.le_trans HBX.out.size HA1.out.size) hf5 (OwB.cat ho5); have HU5 : Bx (Up w1.heap.size (Both (Dq q p (Qr.new 4096 4)) (Owb v5 (sIns (i + 1)))) w5) := ⟨hu5⟩; have HB5 := Bx.mk ((HBX.out.trans (HA1.out.mono HBX.out.size)).trans hb5); clear hu5 hb5 ho5 hf5)
      go_roundg g
      case measure => omega
      case rel => exact ⟨i + 1, by have := HIG.out; omega, by first | (rw [hw1, HIS.out]) | (rw [HIS.out]), HU5, HB5⟩
end Go.Proofs.Yteopmaaghhendaa
