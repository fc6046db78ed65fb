/-
  bifoldlaw9.QencWrong answers true, whatever its arguments: the walk.
-/
import Derived.Test.YtebakjdeighdnaaGreatM55
import Derived.Test.YtebakjdeighdnaaGreatM49
import Derived.Test.YtebakjdeighdnaaGreatM28
import Derived.Deep.CutRange
import Derived.Deep.CutBlock
import Derived.Deep.QuietTactic
import Derived.BigQuiet
import Derived.Deep.RegionHeld
import Derived.Handy
namespace Go.Proofs.YtebakjdeighdnaaGreat
open Go.RowKit Go.Maps
set_option linter.unusedVariables false
set_option linter.unusedSimpArgs false

theorem light_of11 {l : List Fd} (h : lightB l = true) : l.length ≤ 70 ∧ sumF l ≤ 3000 := by
  unfold lightB at h
  simpa using h
theorem light_each11 {l : List Fd} (h : sumF l ≤ 3000) : ∀ f ∈ l, f.1.size ≤ 3000 ∧ f.2.size ≤ 3000 ∧ fsz f ≤ 3000 := by
  intro f hf
  obtain ⟨i, hi, rfl⟩ := List.getElem_of_mem hf
  have := fsz_le l i hi
  unfold fsz at *
  omega
theorem wsz_le11 : ∀ (l : List Fd), wsz l ≤ sumF l + 22 * l.length
  | [] => Nat.le_refl _
  | f :: l => by
    have h := wsz_le11 l
    unfold wsz at *
    simp only [List.map_cons, List.sum_cons, sumF, List.length_cons]
    omega
theorem or128q (x : Nat) (h : x < 8) : bits .or .u8 128 (x : Int) = ((UInt8.ofNat (128 + x)).toNat : Int) := by
  have key : ∀ y : Fin 8, 128 ||| y.val = (UInt8.ofNat (128 + y.val)).toNat := by decide +kernel
  rw [show (128 : Int) = ((128 : Nat) : Int) from rfl, u8_or_nat _ _ (by omega) (by omega), ← key ⟨x, h⟩]
theorem or64q (x : Nat) (h : x < 8) : bits .or .u8 64 (x : Int) = ((UInt8.ofNat (64 + x)).toNat : Int) := by
  have key : ∀ y : Fin 8, 64 ||| y.val = (UInt8.ofNat (64 + y.val)).toNat := by decide +kernel
  rw [show (64 : Int) = ((64 : Nat) : Int) from rfl, u8_or_nat _ _ (by omega) (by omega), ← key ⟨x, h⟩]
/-- The four bytes. -/
def byte4 (j s n : Nat) : UInt8 := if j = 0 then UInt8.ofNat (128 + s) else if j = 1 then UInt8.ofNat (64 + s) else if j = 2 then UInt8.ofNat n else 0
theorem byte4_whole (j s n : Nat) (hs : s < 8) (hn : n < 8) : whole1 (byte4 j s n) := by
  have key : ∀ x : Fin 8, (128 ≤ (UInt8.ofNat (128 + x.val)).toNat ∧ (UInt8.ofNat (128 + x.val)).toNat < 255) ∧ ((UInt8.ofNat (64 + x.val)).toNat < 128 ∧ (UInt8.ofNat (64 + x.val)).toNat % 64 < 63) ∧ (UInt8.ofNat x.val).toNat < 128 ∧ (UInt8.ofNat x.val).toNat % 64 < 63 := by decide +kernel
  unfold byte4 whole1
  split
  · exact .inl (key ⟨s, hs⟩).1
  · split
    · exact .inr (key ⟨s, hs⟩).2.1
    · split
      · exact .inr (key ⟨n, hn⟩).2.2
      · exact .inr (by decide)
set_option maxRecDepth 100000 in
set_option maxHeartbeats 8000000 in
theorem qencWrong_0 (n0 n1 n2 : Int) (hn0 : 0 ≤ n0 ∧ n0 < 256) (hn1 : 0 ≤ n1 ∧ n1 < 256) (hn2 : 0 ≤ n2 ∧ n2 < 256) (hj : n0.tmod 4 = 0) (v3 : Value) (l : List Fd) (w : World) (hv3 : Fs w v3 l) (hsm : Small l) :
    Calls Tryz.prog 4 #[.int .u8 n0, .int .u8 n1, .int .u8 n2, v3] w fun e w' => e = .returned (.bool true) ∧ Below w.heap.size w w' := by
  obtain ⟨m1, rfl⟩ : ∃ m : Nat, n1 = (m : Int) := ⟨n1.toNat, by omega⟩
  obtain ⟨m2, rfl⟩ : ∃ m : Nat, n2 = (m : Int) := ⟨n2.toNat, by omega⟩
  have HV3 := Bx.mk hv3
  have HSM := Bx.mk hsm
  have hlen3 := fun ty W => hv3.run_len ty W
  obtain ⟨L, hL⟩ : ∃ n, l.length = n := ⟨_, rfl⟩
  rw [hL] at hlen3
  have HLL := Bx.mk hL
  have HK9 := Bx.mk (known9_any w)
  clear hv3 hsm hL
  by_cases hbig : 6 < L
  · have hbb : decide (6 < (L : Int)) = true := decide_eq_true (by omega)
    have hbb' : decide (6 < L) = true := decide_eq_true hbig
    clear hbig hn0 hn1 hn2
    go_enter Tryz.func4, Tryz.ntmps4
    go_wp2_with (go_at_call 5; refine HK9.out.mono ?_; rintro e w1 ⟨rfl, b1⟩; have HB1 := Bx.mk b1; clear b1)
    go_ret
    exact ⟨rfl, HB1.out⟩
  have hbb : decide (6 < (L : Int)) = false := decide_eq_false (by omega)
  have hbb' : decide (6 < L) = false := decide_eq_false hbig
  have HL6 : Bx (l.length ≤ 6) := ⟨by have := HLL.out; omega⟩
  obtain ⟨lb, hlb⟩ : ∃ lb, lightB l = lb := ⟨_, rfl⟩
  have HLB := Bx.mk hlb
  clear hbig hlb
  have HFSW : Bx (∀ W, Below w.heap.size w W → Fs W v3 l) := ⟨fun W hW => HV3.out.keep hW⟩
  have HLG := Bx.mk (fun (W : World) (hW : Below w.heap.size w W) => light_any v3 l W (HFSW.out W hW) HSM.out)
  rw [HLB.out] at HLG
  cases lb with
  | false =>
    clear hn0 hn1 hn2
    go_enter Tryz.func4, Tryz.ntmps4
    go_wp2_with (first
      | (go_at_call 5; refine HK9.out.mono ?_; rintro e w1 ⟨rfl, b1⟩; have HB1 := Bx.mk b1; clear b1)
      | (go_at_call 8; refine (HLG.out _ HB1.out).mono ?_; rintro e w2 ⟨rfl, b2⟩; have HB2 := Bx.mk (HB1.out.trans (b2.mono HB1.out.size)); clear b2))
    go_ret
    exact ⟨rfl, HB2.out⟩
  | true =>
    have HLI := Bx.mk (light_of11 HLB.out)
    have HEA := Bx.mk (light_each11 HLI.out.2)
    have HNEW := Bx.mk (fun W => pqnew_any 4096 2 (by omega) W)
    have HND := Bx.mk (fun W => newEnc8_any 4096 2 (by omega) W)
    rw [show clampN 4096 = 4096 from rfl, show (2 : Int).toNat = 2 from rfl] at HNEW HND
    have HWG := Bx.mk (Wg.start l HL6.out (fun f hf => by have := (HEA.out f hf).2.2; omega))
    have HERR : Bx (((Qe.new 4096 2).enc 1 l).err = 0) := ⟨rfl⟩
    have HENP := Bx.mk (fun (q p q2 t2 B : Nat) (W : World) (h : Up B (Ww q p 0 (Qe.new 4096 2) q2 t2 (Qe.new 4096 2)) W) (hB : B ≤ W.heap.size) (hF : ∀ W', Below B W W' → Fs W' v3 l) => ww_encP (s := 1) h hB (Qe.good.new _ _) (by unfold okU; omega) hF (by have := HL6.out; omega) (fun f hf => by have := HEA.out f hf; omega) (by decide) (by decide) (by omega))
    have HEND := Bx.mk (fun (q p N q2 t2 B : Nat) (E : Qe) (W : World) (h : Up B (Ww q p N E q2 t2 (Qe.new 4096 2)) W) (hB : B ≤ W.heap.size) (hF : ∀ W', Below B W W' → Fs W' v3 l) => ww_encD (s := 1) h hB (Qe.good.new _ _) hF (by have := HL6.out; omega) (by have := wsz_le11 l; have := HLI.out.2; have := HL6.out; omega) (by have := HL6.out; show 0 + _ ≤ _; omega) (fun f hf => by have := HEA.out f hf; omega) (by decide) (by omega))
    obtain ⟨E1, hE1⟩ : ∃ E1, (Qe.new 4096 2).enc 1 l = E1 := ⟨_, rfl⟩
    rw [hE1] at HWG HERR HENP HEND
    clear hE1
    obtain ⟨s8, hs8⟩ : ∃ s, m1 % 8 = s := ⟨_, rfl⟩
    obtain ⟨n8, hn8⟩ : ∃ s, m2 % 8 = s := ⟨_, rfl⟩
    have hrem1 : (m1 : Int).tmod 8 = (s8 : Int) := by
      rw [Int.tmod_eq_emod_of_nonneg (by omega)]
      omega
    have hrem2 : (m2 : Int).tmod 8 = (n8 : Int) := by
      rw [Int.tmod_eq_emod_of_nonneg (by omega)]
      omega
    have hls : s8 < 8 := by omega
    have hln : n8 < 8 := by omega
    have ho1 := or128q s8 hls
    have ho2 := or64q s8 hls
    have HWH := Bx.mk (byte4_whole 0 s8 n8 hls hln)
    have hcv : ((byte4 0 s8 n8).toNat : Int) = ((UInt8.ofNat (128 + s8)).toNat : Int) := by
      unfold byte4
      rw [if_pos rfl]
    obtain ⟨c, hc⟩ : ∃ c, byte4 0 s8 n8 = c := ⟨_, rfl⟩
    rw [hc] at HWH hcv
    obtain ⟨S8, hS8⟩ := letter s8
    obtain ⟨N8, hN8⟩ := letter n8
    obtain ⟨C1, hC1⟩ := letter (UInt8.ofNat (128 + s8)).toNat
    obtain ⟨C2, hC2⟩ := letter (UInt8.ofNat (64 + s8)).toNat
    rw [hC1, hS8] at ho1
    rw [hC2, hS8] at ho2
    rw [hS8] at hrem1
    rw [hN8] at hrem2
    rw [hC1] at hcv
    have hwS : IntKind.u8.wrap S8 = S8 := by rw [IntKind.wrap_u8]; omega
    have hwN : IntKind.u8.wrap N8 = N8 := by rw [IntKind.wrap_u8]; omega
    have HLIT := Bx.mk (fun (B q p N q2 t2 : Nat) (E F : Qe) (W : World) (h : Up B (Ww q p N E q2 t2 F) W) (hB : B ≤ W.heap.size) => Ww.lit h hB c)
    simp only [hcv] at HLIT
    clear hs8 hn8 hls hln hcv hc hS8 hN8 hC1 hC2 hn0 hn1 hn2
    rcases HWG.out.feed HERR.out c HWH.out with ⟨hg2, hx⟩
    go_enter Tryz.func4, Tryz.ntmps4
    go_upto_region 8 with (first
      | (go_at_call 5; refine HK9.out.mono ?_; rintro e w1 ⟨rfl, b1⟩; have HB1 := Bx.mk b1; clear b1)
      | (go_at_call 8; refine (HLG.out _ HB1.out).mono ?_; rintro e w2 ⟨rfl, b2⟩; have HB2 := Bx.mk (HB1.out.trans (b2.mono HB1.out.size)); clear b2)
      | (go_at_call 6; refine (HNEW.out _).mono ?_; rintro e w3 ⟨q, p, S3, rfl, hq3, hs3, b3⟩; have HU3 : Bx (Up w2.heap.size (Pq q p 0 (Qe.new 4096 2)) w3) := ⟨⟨S3, hq3, hs3⟩⟩; have HB3 := Bx.mk b3; clear hq3 hs3 b3)
      | (go_at_call 15; refine (HND.out _).mono ?_; rintro e w4 ⟨q2, t2, S4, rfl, hd4, hs4, b4⟩; have HU4 : Bx (Up w2.heap.size (Ww q p 0 (Qe.new 4096 2) q2 t2 (Qe.new 4096 2)) w4) := ⟨Up.add (Wd.pq _ _ _ _) HU3.out HB3.out.size b4 ⟨S4, hd4, hs4⟩⟩; have HB4 := Bx.mk (HB3.out.trans (b4.mono HB3.out.size)); clear hd4 hs4 b4)
      | (go_at_call 9; refine (HENP.out q p q2 t2 _ _ HU4.out HB4.out.size (fun W hW => HFSW.out W (HB2.out.trans ((HB4.out.trans hW).mono HB2.out.size)))).mono ?_; rintro e w5 ⟨a5, c5, rfl, N5, hn5, hu5, hb5⟩; have HN5 := Bx.mk hn5; have HU5 := Bx.mk hu5; have HB5 := Bx.mk (HB4.out.trans hb5); clear hn5 hu5 hb5)
      | (go_at_call 16; refine (HEND.out q p _ q2 t2 _ _ _ HU5.out HB5.out.size (fun W hW => HFSW.out W (HB2.out.trans ((HB5.out.trans hW).mono HB2.out.size)))).mono ?_; rintro e w6 ⟨a6, c6, rfl, hu6, hb6⟩; have HU6 := Bx.mk hu6; have HB6 := Bx.mk (HB5.out.trans hb6); clear hu6 hb6))
    clear HNEW HND HENP HEND HLG HK9
    go_upto_region 9 with fail
    obtain ⟨w7, hw7⟩ : ∃ W, w6.alloc (Obj.cells #[.int .u8 C1, .int .u8 C2, .int .u8 N8, .int .u8 0] 5) = W := ⟨_, rfl⟩
    have hsz7 : w6.heap.size + 1 = w7.heap.size := by rw [← hw7]; simp
    have hb67 : Below w6.heap.size w6 w7 := by rw [← hw7]; exact (Below.refl _ _).alloc (Nat.le_refl _) _
    have HB7 := Bx.mk (HB6.out.trans (hb67.mono HB6.out.size))
    have HU7 := HU6.out.keep Wd.ww hb67
    have HU8 := Bx.mk (HLIT.out _ _ _ _ _ _ _ _ _ HU7 HB7.out.size)
    have HB8 := Bx.mk (HB7.out.alloc HB7.out.size (Obj.cells #[.int .u8 C1] 5))
    rw [hw7, hsz7]
    obtain ⟨w8, hw8⟩ : ∃ W, w7.alloc (Obj.cells #[.int .u8 C1] 5) = W := ⟨_, rfl⟩
    rw [hw8] at HU8 HB8 ⊢
    clear hw7 hsz7 hb67 HU7 hw8 HLIT hj ho1 ho2 hwS hwN hrem1 hrem2 hbb hbb' hlen3
    obtain ⟨g7, hg7⟩ : ∃ g, w7.heap.size = g := ⟨_, rfl⟩
    rw [hg7] at HU8 ⊢
    clear hg7 HB7
    have HN5' : Bx (N5 < 1000000000) := ⟨by have := HN5.out; have := HL6.out; omega⟩
    have HFP := Bx.mk (fun (W : World) (h : Up w2.heap.size (Wb q p N5 E1 q2 t2 E1 (.slice (some ⟨g7, 0, none⟩) 1 1) [c]) W) (hb : Below w2.heap.size w2 W) => ww_feedP h hb.size HWG.out.good HN5'.out (by simp) (by rw [HWG.out.rest]; exact Nat.zero_le _))
    have HFD := Bx.mk (fun (E : Qe) (W : World) (h : Up w2.heap.size (Wb q p N5 E q2 t2 E1 (.slice (some ⟨g7, 0, none⟩) 1 1) [c]) W) (hb : Below w2.heap.size w2 W) => ww_feedD h hb.size HWG.out HERR.out HWH.out)
    have HG2 := Bx.mk hg2
    obtain ⟨E2, hE2⟩ : ∃ E2, (E1.feed [c]).1 = E2 := ⟨_, rfl⟩
    rw [hE2] at HFP HFD HG2 hx
    clear hg2 hE2
    rcases hx with ⟨hx1, hx2⟩ | ⟨hx1, hx2⟩
    · rw [hx1] at HFP HFD
      rw [show ((0 : Nat) : Int) = 0 from rfl] at HFP HFD
      have HE2 := Bx.mk hx2
      clear hx1 hx2
      go_upto_region 10 with (first
        | (go_at_call 13; refine (HFP.out _ HU8.out HB8.out).mono ?_; rintro e w9 ⟨rfl, hu9, hb9⟩; have HU9 := Bx.mk hu9; have HB9 := Bx.mk (HB8.out.trans hb9); clear hu9 hb9)
        | (go_at_call 17; refine (HFD.out _ _ HU9.out HB9.out).mono ?_; rintro e w10 ⟨rfl, r', hr', hu10, hb10⟩; have HU10 := Bx.mk hu10; have HB10 := Bx.mk (HB9.out.trans hb10); have HR10 := Bx.mk (hr' (by trivial)); clear hr' hu10 hb10))
      rw [HR10.out, HG2.out.setRest] at HU10
      have HL10 := Bx.mk (Ww.lit HU10.out HB10.out.size 65)
      have HG3 := Bx.mk (HG2.out.feed HE2.out 65 (.inr (by decide))).1
      have HFP2 := Bx.mk (ww_feedP HL10.out (HB10.out.alloc HB10.out.size _).size HG2.out.good HN5'.out (by simp) (by rw [HG2.out.rest]; exact Nat.zero_le _))
      rw [feed_can E2 HG2.out HE2.out] at HFP2
      have HFD2 := Bx.mk (fun (E : Qe) (W : World) (h : Up w2.heap.size (Ww q p N5 E q2 t2 E2) W) (hb : Below w2.heap.size w2 W) => ww_feedD (Ww.lit h hb.size 65) (hb.alloc hb.size _).size HG2.out HE2.out (.inr (by decide)))
      rw [feed_can E2 HG2.out HE2.out] at HFD2
      obtain ⟨E3, hE3⟩ : ∃ E3, (E2.feed [65]).1 = E3 := ⟨_, rfl⟩
      rw [hE3] at HFP2 HFD2 HG3
      have HBA := Bx.mk (HB10.out.alloc HB10.out.size (Obj.cells #[.int .u8 ((65 : UInt8).toNat : Int)] 5))
      clear hE3
      go_upto_region 11 with (first
        | (go_at_call 13; refine HFP2.out.mono ?_; rintro e w11 ⟨rfl, hu11, hb11⟩; have HU11 := Bx.mk hu11.fst; have HB11 := Bx.mk (HBA.out.trans hb11); clear hu11 hb11)
        | (go_at_call 17; refine (HFD2.out _ _ HU11.out HB11.out).mono ?_; rintro e w12 ⟨rfl, r', hr', hu12, hb12⟩; have HU12 := Bx.mk hu12; have HB12 := Bx.mk ((HB11.out.alloc HB11.out.size _).trans hb12); have HR12 := Bx.mk (hr' (by trivial)); clear hr' hu12 hb12))
      obtain ⟨KI, hKI⟩ := letter E3.K
      obtain ⟨S12, hP12, _⟩ := HU12.out.fst
      obtain ⟨S13, hE12, _⟩ := HU12.out.snd
      obtain ⟨_, _, _, _, _, _, _, _, k2, _⟩ := hE12.cells
      have k2' : w12.cell? ⟨q2, 2, none⟩ = some (.int .u64 (E3.K : Int)) := k2
      have HKN := Bx.mk (fun n => pqknown ((Wd.pq _ _ _ _).keep hP12 (below_drewN (Below.refl _ _) n)))
      rw [hKI] at k2' HKN
      clear hP12 hE12 k2 hKI
      go_quiet ((go_at_call 18; exact Calls.quiet_of_same ((HKN.out _).mono fun e w' h => ⟨h.1, h.2.symm⟩)))
      go_wp2_with fail
      go_ret
      exact ⟨rfl, below_drewN (HB2.out.trans (HB12.out.mono HB2.out.size)) _⟩
    · rw [hx1] at HFP HFD
      rw [show ((26 : Nat) : Int) = 26 from rfl] at HFP HFD
      have HE2 := Bx.mk hx2
      clear hx1 hx2
      go_upto_region 10 with (first
        | (go_at_call 13; refine (HFP.out _ HU8.out HB8.out).mono ?_; rintro e w9 ⟨rfl, hu9, hb9⟩; have HU9 := Bx.mk hu9; have HB9 := Bx.mk (HB8.out.trans hb9); clear hu9 hb9)
        | (go_at_call 17; refine (HFD.out _ _ HU9.out HB9.out).mono ?_; rintro e w10 ⟨rfl, r', hr', hu10, hb10⟩; have HU10 := Bx.mk hu10; have HB10 := Bx.mk (HB9.out.trans hb10); clear hr' hu10 hb10))
      have HL10 := Bx.mk (Ww.lit HU10.out HB10.out.size 65)
      have HFP2 := Bx.mk (ww_feedP HL10.out (HB10.out.alloc HB10.out.size _).size HG2.out.good HN5'.out (by simp) (by rw [HG2.out.rest]; exact Nat.zero_le _))
      rw [feed_err E2 [65] HE2.out] at HFP2
      have HFE : Bx ((E2.setRest r').err = 26) := ⟨HE2.out⟩
      have HFK : Bx ((E2.setRest r').K = E2.K) := ⟨rfl⟩
      obtain ⟨F2, hF2⟩ : ∃ F, E2.setRest r' = F := ⟨_, rfl⟩
      rw [hF2] at HFP2 HFE HFK HU10 HL10
      have HFD2 := Bx.mk (fun (W : World) (h : Up w2.heap.size (Ww q p N5 E2 q2 t2 F2) W) (hb : Below w2.heap.size w2 W) => ww_feedE (Ww.lit h hb.size 65) HFE.out)
      have HBA := Bx.mk (HB10.out.alloc HB10.out.size (Obj.cells #[.int .u8 ((65 : UInt8).toNat : Int)] 5))
      clear hF2
      go_upto_region 11 with (first
        | (go_at_call 13; refine HFP2.out.mono ?_; rintro e w11 ⟨rfl, hu11, hb11⟩; have HU11 := Bx.mk hu11.fst; have HB11 := Bx.mk (HBA.out.trans hb11); clear hu11 hb11)
        | (go_at_call 17; refine (HFD2.out _ HU11.out HB11.out).mono ?_; rintro e w12 ⟨rfl, hu12, hw12⟩; have HU12 := Bx.mk hu12; have HB12 : Bx (Below w2.heap.size w2 w12) := ⟨by rw [← hw12]; exact HB11.out.alloc HB11.out.size _⟩; clear hu12 hw12))
      obtain ⟨KI, hKI⟩ := letter E2.K
      obtain ⟨S12, hP12, _⟩ := HU12.out.fst
      obtain ⟨S13, hE12, _⟩ := HU12.out.snd
      obtain ⟨_, _, _, _, _, _, _, _, k2, _⟩ := hE12.cells
      rw [HFK.out] at k2
      have HKN := Bx.mk (fun n => pqknown ((Wd.pq _ _ _ _).keep hP12 (below_drewN (Below.refl _ _) n)))
      rw [hKI] at k2 HKN
      clear hP12 hE12 hKI
      go_quiet ((go_at_call 18; exact Calls.quiet_of_same ((HKN.out _).mono fun e w' h => ⟨h.1, h.2.symm⟩)))
      go_wp2_with fail
      go_ret
      exact ⟨rfl, below_drewN (HB2.out.trans (HB12.out.mono HB2.out.size)) _⟩
set_option maxRecDepth 100000 in
set_option maxHeartbeats 8000000 in
theorem qencWrong_1 (n0 n1 n2 : Int) (hn0 : 0 ≤ n0 ∧ n0 < 256) (hn1 : 0 ≤ n1 ∧ n1 < 256) (hn2 : 0 ≤ n2 ∧ n2 < 256) (hj : n0.tmod 4 = 1) (v3 : Value) (l : List Fd) (w : World) (hv3 : Fs w v3 l) (hsm : Small l) :
    Calls Tryz.prog 4 #[.int .u8 n0, .int .u8 n1, .int .u8 n2, v3] w fun e w' => e = .returned (.bool true) ∧ Below w.heap.size w w' := by
  obtain ⟨m1, rfl⟩ : ∃ m : Nat, n1 = (m : Int) := ⟨n1.toNat, by omega⟩
  obtain ⟨m2, rfl⟩ : ∃ m : Nat, n2 = (m : Int) := ⟨n2.toNat, by omega⟩
  have HV3 := Bx.mk hv3
  have HSM := Bx.mk hsm
  have hlen3 := fun ty W => hv3.run_len ty W
  obtain ⟨L, hL⟩ : ∃ n, l.length = n := ⟨_, rfl⟩
  rw [hL] at hlen3
  have HLL := Bx.mk hL
  have HK9 := Bx.mk (known9_any w)
  clear hv3 hsm hL
  by_cases hbig : 6 < L
  · have hbb : decide (6 < (L : Int)) = true := decide_eq_true (by omega)
    have hbb' : decide (6 < L) = true := decide_eq_true hbig
    clear hbig hn0 hn1 hn2
    go_enter Tryz.func4, Tryz.ntmps4
    go_wp2_with (go_at_call 5; refine HK9.out.mono ?_; rintro e w1 ⟨rfl, b1⟩; have HB1 := Bx.mk b1; clear b1)
    go_ret
    exact ⟨rfl, HB1.out⟩
  have hbb : decide (6 < (L : Int)) = false := decide_eq_false (by omega)
  have hbb' : decide (6 < L) = false := decide_eq_false hbig
  have HL6 : Bx (l.length ≤ 6) := ⟨by have := HLL.out; omega⟩
  obtain ⟨lb, hlb⟩ : ∃ lb, lightB l = lb := ⟨_, rfl⟩
  have HLB := Bx.mk hlb
  clear hbig hlb
  have HFSW : Bx (∀ W, Below w.heap.size w W → Fs W v3 l) := ⟨fun W hW => HV3.out.keep hW⟩
  have HLG := Bx.mk (fun (W : World) (hW : Below w.heap.size w W) => light_any v3 l W (HFSW.out W hW) HSM.out)
  rw [HLB.out] at HLG
  cases lb with
  | false =>
    clear hn0 hn1 hn2
    go_enter Tryz.func4, Tryz.ntmps4
    go_wp2_with (first
      | (go_at_call 5; refine HK9.out.mono ?_; rintro e w1 ⟨rfl, b1⟩; have HB1 := Bx.mk b1; clear b1)
      | (go_at_call 8; refine (HLG.out _ HB1.out).mono ?_; rintro e w2 ⟨rfl, b2⟩; have HB2 := Bx.mk (HB1.out.trans (b2.mono HB1.out.size)); clear b2))
    go_ret
    exact ⟨rfl, HB2.out⟩
  | true =>
    have HLI := Bx.mk (light_of11 HLB.out)
    have HEA := Bx.mk (light_each11 HLI.out.2)
    have HNEW := Bx.mk (fun W => pqnew_any 4096 2 (by omega) W)
    have HND := Bx.mk (fun W => newEnc8_any 4096 2 (by omega) W)
    rw [show clampN 4096 = 4096 from rfl, show (2 : Int).toNat = 2 from rfl] at HNEW HND
    have HWG := Bx.mk (Wg.start l HL6.out (fun f hf => by have := (HEA.out f hf).2.2; omega))
    have HERR : Bx (((Qe.new 4096 2).enc 1 l).err = 0) := ⟨rfl⟩
    have HENP := Bx.mk (fun (q p q2 t2 B : Nat) (W : World) (h : Up B (Ww q p 0 (Qe.new 4096 2) q2 t2 (Qe.new 4096 2)) W) (hB : B ≤ W.heap.size) (hF : ∀ W', Below B W W' → Fs W' v3 l) => ww_encP (s := 1) h hB (Qe.good.new _ _) (by unfold okU; omega) hF (by have := HL6.out; omega) (fun f hf => by have := HEA.out f hf; omega) (by decide) (by decide) (by omega))
    have HEND := Bx.mk (fun (q p N q2 t2 B : Nat) (E : Qe) (W : World) (h : Up B (Ww q p N E q2 t2 (Qe.new 4096 2)) W) (hB : B ≤ W.heap.size) (hF : ∀ W', Below B W W' → Fs W' v3 l) => ww_encD (s := 1) h hB (Qe.good.new _ _) hF (by have := HL6.out; omega) (by have := wsz_le11 l; have := HLI.out.2; have := HL6.out; omega) (by have := HL6.out; show 0 + _ ≤ _; omega) (fun f hf => by have := HEA.out f hf; omega) (by decide) (by omega))
    obtain ⟨E1, hE1⟩ : ∃ E1, (Qe.new 4096 2).enc 1 l = E1 := ⟨_, rfl⟩
    rw [hE1] at HWG HERR HENP HEND
    clear hE1
    obtain ⟨s8, hs8⟩ : ∃ s, m1 % 8 = s := ⟨_, rfl⟩
    obtain ⟨n8, hn8⟩ : ∃ s, m2 % 8 = s := ⟨_, rfl⟩
    have hrem1 : (m1 : Int).tmod 8 = (s8 : Int) := by
      rw [Int.tmod_eq_emod_of_nonneg (by omega)]
      omega
    have hrem2 : (m2 : Int).tmod 8 = (n8 : Int) := by
      rw [Int.tmod_eq_emod_of_nonneg (by omega)]
      omega
    have hls : s8 < 8 := by omega
    have hln : n8 < 8 := by omega
    have ho1 := or128q s8 hls
    have ho2 := or64q s8 hls
    have HWH := Bx.mk (byte4_whole 1 s8 n8 hls hln)
    have hcv : ((byte4 1 s8 n8).toNat : Int) = ((UInt8.ofNat (64 + s8)).toNat : Int) := by
      unfold byte4
      rw [if_neg (by decide), if_pos rfl]
    obtain ⟨c, hc⟩ : ∃ c, byte4 1 s8 n8 = c := ⟨_, rfl⟩
    rw [hc] at HWH hcv
    obtain ⟨S8, hS8⟩ := letter s8
    obtain ⟨N8, hN8⟩ := letter n8
    obtain ⟨C1, hC1⟩ := letter (UInt8.ofNat (128 + s8)).toNat
    obtain ⟨C2, hC2⟩ := letter (UInt8.ofNat (64 + s8)).toNat
    rw [hC1, hS8] at ho1
    rw [hC2, hS8] at ho2
    rw [hS8] at hrem1
    rw [hN8] at hrem2
    rw [hC2] at hcv
    have hwS : IntKind.u8.wrap S8 = S8 := by rw [IntKind.wrap_u8]; omega
    have hwN : IntKind.u8.wrap N8 = N8 := by rw [IntKind.wrap_u8]; omega
    have HLIT := Bx.mk (fun (B q p N q2 t2 : Nat) (E F : Qe) (W : World) (h : Up B (Ww q p N E q2 t2 F) W) (hB : B ≤ W.heap.size) => Ww.lit h hB c)
    simp only [hcv] at HLIT
    clear hs8 hn8 hls hln hcv hc hS8 hN8 hC1 hC2 hn0 hn1 hn2
    rcases HWG.out.feed HERR.out c HWH.out with ⟨hg2, hx⟩
    go_enter Tryz.func4, Tryz.ntmps4
    go_upto_region 8 with (first
      | (go_at_call 5; refine HK9.out.mono ?_; rintro e w1 ⟨rfl, b1⟩; have HB1 := Bx.mk b1; clear b1)
      | (go_at_call 8; refine (HLG.out _ HB1.out).mono ?_; rintro e w2 ⟨rfl, b2⟩; have HB2 := Bx.mk (HB1.out.trans (b2.mono HB1.out.size)); clear b2)
      | (go_at_call 6; refine (HNEW.out _).mono ?_; rintro e w3 ⟨q, p, S3, rfl, hq3, hs3, b3⟩; have HU3 : Bx (Up w2.heap.size (Pq q p 0 (Qe.new 4096 2)) w3) := ⟨⟨S3, hq3, hs3⟩⟩; have HB3 := Bx.mk b3; clear hq3 hs3 b3)
      | (go_at_call 15; refine (HND.out _).mono ?_; rintro e w4 ⟨q2, t2, S4, rfl, hd4, hs4, b4⟩; have HU4 : Bx (Up w2.heap.size (Ww q p 0 (Qe.new 4096 2) q2 t2 (Qe.new 4096 2)) w4) := ⟨Up.add (Wd.pq _ _ _ _) HU3.out HB3.out.size b4 ⟨S4, hd4, hs4⟩⟩; have HB4 := Bx.mk (HB3.out.trans (b4.mono HB3.out.size)); clear hd4 hs4 b4)
      | (go_at_call 9; refine (HENP.out q p q2 t2 _ _ HU4.out HB4.out.size (fun W hW => HFSW.out W (HB2.out.trans ((HB4.out.trans hW).mono HB2.out.size)))).mono ?_; rintro e w5 ⟨a5, c5, rfl, N5, hn5, hu5, hb5⟩; have HN5 := Bx.mk hn5; have HU5 := Bx.mk hu5; have HB5 := Bx.mk (HB4.out.trans hb5); clear hn5 hu5 hb5)
      | (go_at_call 16; refine (HEND.out q p _ q2 t2 _ _ _ HU5.out HB5.out.size (fun W hW => HFSW.out W (HB2.out.trans ((HB5.out.trans hW).mono HB2.out.size)))).mono ?_; rintro e w6 ⟨a6, c6, rfl, hu6, hb6⟩; have HU6 := Bx.mk hu6; have HB6 := Bx.mk (HB5.out.trans hb6); clear hu6 hb6))
    clear HNEW HND HENP HEND HLG HK9
    go_upto_region 9 with fail
    obtain ⟨w7, hw7⟩ : ∃ W, w6.alloc (Obj.cells #[.int .u8 C1, .int .u8 C2, .int .u8 N8, .int .u8 0] 5) = W := ⟨_, rfl⟩
    have hsz7 : w6.heap.size + 1 = w7.heap.size := by rw [← hw7]; simp
    have hb67 : Below w6.heap.size w6 w7 := by rw [← hw7]; exact (Below.refl _ _).alloc (Nat.le_refl _) _
    have HB7 := Bx.mk (HB6.out.trans (hb67.mono HB6.out.size))
    have HU7 := HU6.out.keep Wd.ww hb67
    have HU8 := Bx.mk (HLIT.out _ _ _ _ _ _ _ _ _ HU7 HB7.out.size)
    have HB8 := Bx.mk (HB7.out.alloc HB7.out.size (Obj.cells #[.int .u8 C2] 5))
    rw [hw7, hsz7]
    obtain ⟨w8, hw8⟩ : ∃ W, w7.alloc (Obj.cells #[.int .u8 C2] 5) = W := ⟨_, rfl⟩
    rw [hw8] at HU8 HB8 ⊢
    clear hw7 hsz7 hb67 HU7 hw8 HLIT hj ho1 ho2 hwS hwN hrem1 hrem2 hbb hbb' hlen3
    obtain ⟨g7, hg7⟩ : ∃ g, w7.heap.size = g := ⟨_, rfl⟩
    rw [hg7] at HU8 ⊢
    clear hg7 HB7
    have HN5' : Bx (N5 < 1000000000) := ⟨by have := HN5.out; have := HL6.out; omega⟩
    have HFP := Bx.mk (fun (W : World) (h : Up w2.heap.size (Wb q p N5 E1 q2 t2 E1 (.slice (some ⟨g7, 0, none⟩) 1 1) [c]) W) (hb : Below w2.heap.size w2 W) => ww_feedP h hb.size HWG.out.good HN5'.out (by simp) (by rw [HWG.out.rest]; exact Nat.zero_le _))
    have HFD := Bx.mk (fun (E : Qe) (W : World) (h : Up w2.heap.size (Wb q p N5 E q2 t2 E1 (.slice (some ⟨g7, 0, none⟩) 1 1) [c]) W) (hb : Below w2.heap.size w2 W) => ww_feedD h hb.size HWG.out HERR.out HWH.out)
    have HG2 := Bx.mk hg2
    obtain ⟨E2, hE2⟩ : ∃ E2, (E1.feed [c]).1 = E2 := ⟨_, rfl⟩
    rw [hE2] at HFP HFD HG2 hx
    clear hg2 hE2
    rcases hx with ⟨hx1, hx2⟩ | ⟨hx1, hx2⟩
    · rw [hx1] at HFP HFD
      rw [show ((0 : Nat) : Int) = 0 from rfl] at HFP HFD
      have HE2 := Bx.mk hx2
      clear hx1 hx2
      go_upto_region 10 with (first
        | (go_at_call 13; refine (HFP.out _ HU8.out HB8.out).mono ?_; rintro e w9 ⟨rfl, hu9, hb9⟩; have HU9 := Bx.mk hu9; have HB9 := Bx.mk (HB8.out.trans hb9); clear hu9 hb9)
        | (go_at_call 17; refine (HFD.out _ _ HU9.out HB9.out).mono ?_; rintro e w10 ⟨rfl, r', hr', hu10, hb10⟩; have HU10 := Bx.mk hu10; have HB10 := Bx.mk (HB9.out.trans hb10); have HR10 := Bx.mk (hr' (by trivial)); clear hr' hu10 hb10))
      rw [HR10.out, HG2.out.setRest] at HU10
      have HL10 := Bx.mk (Ww.lit HU10.out HB10.out.size 65)
      have HG3 := Bx.mk (HG2.out.feed HE2.out 65 (.inr (by decide))).1
      have HFP2 := Bx.mk (ww_feedP HL10.out (HB10.out.alloc HB10.out.size _).size HG2.out.good HN5'.out (by simp) (by rw [HG2.out.rest]; exact Nat.zero_le _))
      rw [feed_can E2 HG2.out HE2.out] at HFP2
      have HFD2 := Bx.mk (fun (E : Qe) (W : World) (h : Up w2.heap.size (Ww q p N5 E q2 t2 E2) W) (hb : Below w2.heap.size w2 W) => ww_feedD (Ww.lit h hb.size 65) (hb.alloc hb.size _).size HG2.out HE2.out (.inr (by decide)))
      rw [feed_can E2 HG2.out HE2.out] at HFD2
      obtain ⟨E3, hE3⟩ : ∃ E3, (E2.feed [65]).1 = E3 := ⟨_, rfl⟩
      rw [hE3] at HFP2 HFD2 HG3
      have HBA := Bx.mk (HB10.out.alloc HB10.out.size (Obj.cells #[.int .u8 ((65 : UInt8).toNat : Int)] 5))
      clear hE3
      go_upto_region 11 with (first
        | (go_at_call 13; refine HFP2.out.mono ?_; rintro e w11 ⟨rfl, hu11, hb11⟩; have HU11 := Bx.mk hu11.fst; have HB11 := Bx.mk (HBA.out.trans hb11); clear hu11 hb11)
        | (go_at_call 17; refine (HFD2.out _ _ HU11.out HB11.out).mono ?_; rintro e w12 ⟨rfl, r', hr', hu12, hb12⟩; have HU12 := Bx.mk hu12; have HB12 := Bx.mk ((HB11.out.alloc HB11.out.size _).trans hb12); have HR12 := Bx.mk (hr' (by trivial)); clear hr' hu12 hb12))
      obtain ⟨KI, hKI⟩ := letter E3.K
      obtain ⟨S12, hP12, _⟩ := HU12.out.fst
      obtain ⟨S13, hE12, _⟩ := HU12.out.snd
      obtain ⟨_, _, _, _, _, _, _, _, k2, _⟩ := hE12.cells
      have k2' : w12.cell? ⟨q2, 2, none⟩ = some (.int .u64 (E3.K : Int)) := k2
      have HKN := Bx.mk (fun n => pqknown ((Wd.pq _ _ _ _).keep hP12 (below_drewN (Below.refl _ _) n)))
      rw [hKI] at k2' HKN
      clear hP12 hE12 k2 hKI
      go_quiet ((go_at_call 18; exact Calls.quiet_of_same ((HKN.out _).mono fun e w' h => ⟨h.1, h.2.symm⟩)))
      go_wp2_with fail
      go_ret
      exact ⟨rfl, below_drewN (HB2.out.trans (HB12.out.mono HB2.out.size)) _⟩
    · rw [hx1] at HFP HFD
      rw [show ((26 : Nat) : Int) = 26 from rfl] at HFP HFD
      have HE2 := Bx.mk hx2
      clear hx1 hx2
      go_upto_region 10 with (first
        | (go_at_call 13; refine (HFP.out _ HU8.out HB8.out).mono ?_; rintro e w9 ⟨rfl, hu9, hb9⟩; have HU9 := Bx.mk hu9; have HB9 := Bx.mk (HB8.out.trans hb9); clear hu9 hb9)
        | (go_at_call 17; refine (HFD.out _ _ HU9.out HB9.out).mono ?_; rintro e w10 ⟨rfl, r', hr', hu10, hb10⟩; have HU10 := Bx.mk hu10; have HB10 := Bx.mk (HB9.out.trans hb10); clear hr' hu10 hb10))
      have HL10 := Bx.mk (Ww.lit HU10.out HB10.out.size 65)
      have HFP2 := Bx.mk (ww_feedP HL10.out (HB10.out.alloc HB10.out.size _).size HG2.out.good HN5'.out (by simp) (by rw [HG2.out.rest]; exact Nat.zero_le _))
      rw [feed_err E2 [65] HE2.out] at HFP2
      have HFE : Bx ((E2.setRest r').err = 26) := ⟨HE2.out⟩
      have HFK : Bx ((E2.setRest r').K = E2.K) := ⟨rfl⟩
      obtain ⟨F2, hF2⟩ : ∃ F, E2.setRest r' = F := ⟨_, rfl⟩
      rw [hF2] at HFP2 HFE HFK HU10 HL10
      have HFD2 := Bx.mk (fun (W : World) (h : Up w2.heap.size (Ww q p N5 E2 q2 t2 F2) W) (hb : Below w2.heap.size w2 W) => ww_feedE (Ww.lit h hb.size 65) HFE.out)
      have HBA := Bx.mk (HB10.out.alloc HB10.out.size (Obj.cells #[.int .u8 ((65 : UInt8).toNat : Int)] 5))
      clear hF2
      go_upto_region 11 with (first
        | (go_at_call 13; refine HFP2.out.mono ?_; rintro e w11 ⟨rfl, hu11, hb11⟩; have HU11 := Bx.mk hu11.fst; have HB11 := Bx.mk (HBA.out.trans hb11); clear hu11 hb11)
        | (go_at_call 17; refine (HFD2.out _ HU11.out HB11.out).mono ?_; rintro e w12 ⟨rfl, hu12, hw12⟩; have HU12 := Bx.mk hu12; have HB12 : Bx (Below w2.heap.size w2 w12) := ⟨by rw [← hw12]; exact HB11.out.alloc HB11.out.size _⟩; clear hu12 hw12))
      obtain ⟨KI, hKI⟩ := letter E2.K
      obtain ⟨S12, hP12, _⟩ := HU12.out.fst
      obtain ⟨S13, hE12, _⟩ := HU12.out.snd
      obtain ⟨_, _, _, _, _, _, _, _, k2, _⟩ := hE12.cells
      rw [HFK.out] at k2
      have HKN := Bx.mk (fun n => pqknown ((Wd.pq _ _ _ _).keep hP12 (below_drewN (Below.refl _ _) n)))
      rw [hKI] at k2 HKN
      clear hP12 hE12 hKI
      go_quiet ((go_at_call 18; exact Calls.quiet_of_same ((HKN.out _).mono fun e w' h => ⟨h.1, h.2.symm⟩)))
      go_wp2_with fail
      go_ret
      exact ⟨rfl, below_drewN (HB2.out.trans (HB12.out.mono HB2.out.size)) _⟩
set_option maxRecDepth 100000 in
set_option maxHeartbeats 8000000 in
theorem qencWrong_2 (n0 n1 n2 : Int) (hn0 : 0 ≤ n0 ∧ n0 < 256) (hn1 : 0 ≤ n1 ∧ n1 < 256) (hn2 : 0 ≤ n2 ∧ n2 < 256) (hj : n0.tmod 4 = 2) (v3 : Value) (l : List Fd) (w : World) (hv3 : Fs w v3 l) (hsm : Small l) :
    Calls Tryz.prog 4 #[.int .u8 n0, .int .u8 n1, .int .u8 n2, v3] w fun e w' => e = .returned (.bool true) ∧ Below w.heap.size w w' := by
  obtain ⟨m1, rfl⟩ : ∃ m : Nat, n1 = (m : Int) := ⟨n1.toNat, by omega⟩
  obtain ⟨m2, rfl⟩ : ∃ m : Nat, n2 = (m : Int) := ⟨n2.toNat, by omega⟩
  have HV3 := Bx.mk hv3
  have HSM := Bx.mk hsm
  have hlen3 := fun ty W => hv3.run_len ty W
  obtain ⟨L, hL⟩ : ∃ n, l.length = n := ⟨_, rfl⟩
  rw [hL] at hlen3
  have HLL := Bx.mk hL
  have HK9 := Bx.mk (known9_any w)
  clear hv3 hsm hL
  by_cases hbig : 6 < L
  · have hbb : decide (6 < (L : Int)) = true := decide_eq_true (by omega)
    have hbb' : decide (6 < L) = true := decide_eq_true hbig
    clear hbig hn0 hn1 hn2
    go_enter Tryz.func4, Tryz.ntmps4
    go_wp2_with (go_at_call 5; refine HK9.out.mono ?_; rintro e w1 ⟨rfl, b1⟩; have HB1 := Bx.mk b1; clear b1)
    go_ret
    exact ⟨rfl, HB1.out⟩
  have hbb : decide (6 < (L : Int)) = false := decide_eq_false (by omega)
  have hbb' : decide (6 < L) = false := decide_eq_false hbig
  have HL6 : Bx (l.length ≤ 6) := ⟨by have := HLL.out; omega⟩
  obtain ⟨lb, hlb⟩ : ∃ lb, lightB l = lb := ⟨_, rfl⟩
  have HLB := Bx.mk hlb
  clear hbig hlb
  have HFSW : Bx (∀ W, Below w.heap.size w W → Fs W v3 l) := ⟨fun W hW => HV3.out.keep hW⟩
  have HLG := Bx.mk (fun (W : World) (hW : Below w.heap.size w W) => light_any v3 l W (HFSW.out W hW) HSM.out)
  rw [HLB.out] at HLG
  cases lb with
  | false =>
    clear hn0 hn1 hn2
    go_enter Tryz.func4, Tryz.ntmps4
    go_wp2_with (first
      | (go_at_call 5; refine HK9.out.mono ?_; rintro e w1 ⟨rfl, b1⟩; have HB1 := Bx.mk b1; clear b1)
      | (go_at_call 8; refine (HLG.out _ HB1.out).mono ?_; rintro e w2 ⟨rfl, b2⟩; have HB2 := Bx.mk (HB1.out.trans (b2.mono HB1.out.size)); clear b2))
    go_ret
    exact ⟨rfl, HB2.out⟩
  | true =>
    have HLI := Bx.mk (light_of11 HLB.out)
    have HEA := Bx.mk (light_each11 HLI.out.2)
    have HNEW := Bx.mk (fun W => pqnew_any 4096 2 (by omega) W)
    have HND := Bx.mk (fun W => newEnc8_any 4096 2 (by omega) W)
    rw [show clampN 4096 = 4096 from rfl, show (2 : Int).toNat = 2 from rfl] at HNEW HND
    have HWG := Bx.mk (Wg.start l HL6.out (fun f hf => by have := (HEA.out f hf).2.2; omega))
    have HERR : Bx (((Qe.new 4096 2).enc 1 l).err = 0) := ⟨rfl⟩
    have HENP := Bx.mk (fun (q p q2 t2 B : Nat) (W : World) (h : Up B (Ww q p 0 (Qe.new 4096 2) q2 t2 (Qe.new 4096 2)) W) (hB : B ≤ W.heap.size) (hF : ∀ W', Below B W W' → Fs W' v3 l) => ww_encP (s := 1) h hB (Qe.good.new _ _) (by unfold okU; omega) hF (by have := HL6.out; omega) (fun f hf => by have := HEA.out f hf; omega) (by decide) (by decide) (by omega))
    have HEND := Bx.mk (fun (q p N q2 t2 B : Nat) (E : Qe) (W : World) (h : Up B (Ww q p N E q2 t2 (Qe.new 4096 2)) W) (hB : B ≤ W.heap.size) (hF : ∀ W', Below B W W' → Fs W' v3 l) => ww_encD (s := 1) h hB (Qe.good.new _ _) hF (by have := HL6.out; omega) (by have := wsz_le11 l; have := HLI.out.2; have := HL6.out; omega) (by have := HL6.out; show 0 + _ ≤ _; omega) (fun f hf => by have := HEA.out f hf; omega) (by decide) (by omega))
    obtain ⟨E1, hE1⟩ : ∃ E1, (Qe.new 4096 2).enc 1 l = E1 := ⟨_, rfl⟩
    rw [hE1] at HWG HERR HENP HEND
    clear hE1
    obtain ⟨s8, hs8⟩ : ∃ s, m1 % 8 = s := ⟨_, rfl⟩
    obtain ⟨n8, hn8⟩ : ∃ s, m2 % 8 = s := ⟨_, rfl⟩
    have hrem1 : (m1 : Int).tmod 8 = (s8 : Int) := by
      rw [Int.tmod_eq_emod_of_nonneg (by omega)]
      omega
    have hrem2 : (m2 : Int).tmod 8 = (n8 : Int) := by
      rw [Int.tmod_eq_emod_of_nonneg (by omega)]
      omega
    have hls : s8 < 8 := by omega
    have hln : n8 < 8 := by omega
    have ho1 := or128q s8 hls
    have ho2 := or64q s8 hls
    have HWH := Bx.mk (byte4_whole 2 s8 n8 hls hln)
    have hcv : ((byte4 2 s8 n8).toNat : Int) = (n8 : Int) := by
      unfold byte4
      rw [if_neg (by decide), if_neg (by decide), if_pos rfl, UInt8.toNat_ofNat']; omega
    obtain ⟨c, hc⟩ : ∃ c, byte4 2 s8 n8 = c := ⟨_, rfl⟩
    rw [hc] at HWH hcv
    obtain ⟨S8, hS8⟩ := letter s8
    obtain ⟨N8, hN8⟩ := letter n8
    obtain ⟨C1, hC1⟩ := letter (UInt8.ofNat (128 + s8)).toNat
    obtain ⟨C2, hC2⟩ := letter (UInt8.ofNat (64 + s8)).toNat
    rw [hC1, hS8] at ho1
    rw [hC2, hS8] at ho2
    rw [hS8] at hrem1
    rw [hN8] at hrem2
    rw [hN8] at hcv
    have hwS : IntKind.u8.wrap S8 = S8 := by rw [IntKind.wrap_u8]; omega
    have hwN : IntKind.u8.wrap N8 = N8 := by rw [IntKind.wrap_u8]; omega
    have HLIT := Bx.mk (fun (B q p N q2 t2 : Nat) (E F : Qe) (W : World) (h : Up B (Ww q p N E q2 t2 F) W) (hB : B ≤ W.heap.size) => Ww.lit h hB c)
    simp only [hcv] at HLIT
    clear hs8 hn8 hls hln hcv hc hS8 hN8 hC1 hC2 hn0 hn1 hn2
    rcases HWG.out.feed HERR.out c HWH.out with ⟨hg2, hx⟩
    go_enter Tryz.func4, Tryz.ntmps4
    go_upto_region 8 with (first
      | (go_at_call 5; refine HK9.out.mono ?_; rintro e w1 ⟨rfl, b1⟩; have HB1 := Bx.mk b1; clear b1)
      | (go_at_call 8; refine (HLG.out _ HB1.out).mono ?_; rintro e w2 ⟨rfl, b2⟩; have HB2 := Bx.mk (HB1.out.trans (b2.mono HB1.out.size)); clear b2)
      | (go_at_call 6; refine (HNEW.out _).mono ?_; rintro e w3 ⟨q, p, S3, rfl, hq3, hs3, b3⟩; have HU3 : Bx (Up w2.heap.size (Pq q p 0 (Qe.new 4096 2)) w3) := ⟨⟨S3, hq3, hs3⟩⟩; have HB3 := Bx.mk b3; clear hq3 hs3 b3)
      | (go_at_call 15; refine (HND.out _).mono ?_; rintro e w4 ⟨q2, t2, S4, rfl, hd4, hs4, b4⟩; have HU4 : Bx (Up w2.heap.size (Ww q p 0 (Qe.new 4096 2) q2 t2 (Qe.new 4096 2)) w4) := ⟨Up.add (Wd.pq _ _ _ _) HU3.out HB3.out.size b4 ⟨S4, hd4, hs4⟩⟩; have HB4 := Bx.mk (HB3.out.trans (b4.mono HB3.out.size)); clear hd4 hs4 b4)
      | (go_at_call 9; refine (HENP.out q p q2 t2 _ _ HU4.out HB4.out.size (fun W hW => HFSW.out W (HB2.out.trans ((HB4.out.trans hW).mono HB2.out.size)))).mono ?_; rintro e w5 ⟨a5, c5, rfl, N5, hn5, hu5, hb5⟩; have HN5 := Bx.mk hn5; have HU5 := Bx.mk hu5; have HB5 := Bx.mk (HB4.out.trans hb5); clear hn5 hu5 hb5)
      | (go_at_call 16; refine (HEND.out q p _ q2 t2 _ _ _ HU5.out HB5.out.size (fun W hW => HFSW.out W (HB2.out.trans ((HB5.out.trans hW).mono HB2.out.size)))).mono ?_; rintro e w6 ⟨a6, c6, rfl, hu6, hb6⟩; have HU6 := Bx.mk hu6; have HB6 := Bx.mk (HB5.out.trans hb6); clear hu6 hb6))
    clear HNEW HND HENP HEND HLG HK9
    go_upto_region 9 with fail
    obtain ⟨w7, hw7⟩ : ∃ W, w6.alloc (Obj.cells #[.int .u8 C1, .int .u8 C2, .int .u8 N8, .int .u8 0] 5) = W := ⟨_, rfl⟩
    have hsz7 : w6.heap.size + 1 = w7.heap.size := by rw [← hw7]; simp
    have hb67 : Below w6.heap.size w6 w7 := by rw [← hw7]; exact (Below.refl _ _).alloc (Nat.le_refl _) _
    have HB7 := Bx.mk (HB6.out.trans (hb67.mono HB6.out.size))
    have HU7 := HU6.out.keep Wd.ww hb67
    have HU8 := Bx.mk (HLIT.out _ _ _ _ _ _ _ _ _ HU7 HB7.out.size)
    have HB8 := Bx.mk (HB7.out.alloc HB7.out.size (Obj.cells #[.int .u8 N8] 5))
    rw [hw7, hsz7]
    obtain ⟨w8, hw8⟩ : ∃ W, w7.alloc (Obj.cells #[.int .u8 N8] 5) = W := ⟨_, rfl⟩
    rw [hw8] at HU8 HB8 ⊢
    clear hw7 hsz7 hb67 HU7 hw8 HLIT hj ho1 ho2 hwS hwN hrem1 hrem2 hbb hbb' hlen3
    obtain ⟨g7, hg7⟩ : ∃ g, w7.heap.size = g := ⟨_, rfl⟩
    rw [hg7] at HU8 ⊢
    clear hg7 HB7
    have HN5' : Bx (N5 < 1000000000) := ⟨by have := HN5.out; have := HL6.out; omega⟩
    have HFP := Bx.mk (fun (W : World) (h : Up w2.heap.size (Wb q p N5 E1 q2 t2 E1 (.slice (some ⟨g7, 0, none⟩) 1 1) [c]) W) (hb : Below w2.heap.size w2 W) => ww_feedP h hb.size HWG.out.good HN5'.out (by simp) (by rw [HWG.out.rest]; exact Nat.zero_le _))
    have HFD := Bx.mk (fun (E : Qe) (W : World) (h : Up w2.heap.size (Wb q p N5 E q2 t2 E1 (.slice (some ⟨g7, 0, none⟩) 1 1) [c]) W) (hb : Below w2.heap.size w2 W) => ww_feedD h hb.size HWG.out HERR.out HWH.out)
    have HG2 := Bx.mk hg2
    obtain ⟨E2, hE2⟩ : ∃ E2, (E1.feed [c]).1 = E2 := ⟨_, rfl⟩
    rw [hE2] at HFP HFD HG2 hx
    clear hg2 hE2
    rcases hx with ⟨hx1, hx2⟩ | ⟨hx1, hx2⟩
    · rw [hx1] at HFP HFD
      rw [show ((0 : Nat) : Int) = 0 from rfl] at HFP HFD
      have HE2 := Bx.mk hx2
      clear hx1 hx2
      go_upto_region 10 with (first
        | (go_at_call 13; refine (HFP.out _ HU8.out HB8.out).mono ?_; rintro e w9 ⟨rfl, hu9, hb9⟩; have HU9 := Bx.mk hu9; have HB9 := Bx.mk (HB8.out.trans hb9); clear hu9 hb9)
        | (go_at_call 17; refine (HFD.out _ _ HU9.out HB9.out).mono ?_; rintro e w10 ⟨rfl, r', hr', hu10, hb10⟩; have HU10 := Bx.mk hu10; have HB10 := Bx.mk (HB9.out.trans hb10); have HR10 := Bx.mk (hr' (by trivial)); clear hr' hu10 hb10))
      rw [HR10.out, HG2.out.setRest] at HU10
      have HL10 := Bx.mk (Ww.lit HU10.out HB10.out.size 65)
      have HG3 := Bx.mk (HG2.out.feed HE2.out 65 (.inr (by decide))).1
      have HFP2 := Bx.mk (ww_feedP HL10.out (HB10.out.alloc HB10.out.size _).size HG2.out.good HN5'.out (by simp) (by rw [HG2.out.rest]; exact Nat.zero_le _))
      rw [feed_can E2 HG2.out HE2.out] at HFP2
      have HFD2 := Bx.mk (fun (E : Qe) (W : World) (h : Up w2.heap.size (Ww q p N5 E q2 t2 E2) W) (hb : Below w2.heap.size w2 W) => ww_feedD (Ww.lit h hb.size 65) (hb.alloc hb.size _).size HG2.out HE2.out (.inr (by decide)))
      rw [feed_can E2 HG2.out HE2.out] at HFD2
      obtain ⟨E3, hE3⟩ : ∃ E3, (E2.feed [65]).1 = E3 := ⟨_, rfl⟩
      rw [hE3] at HFP2 HFD2 HG3
      have HBA := Bx.mk (HB10.out.alloc HB10.out.size (Obj.cells #[.int .u8 ((65 : UInt8).toNat : Int)] 5))
      clear hE3
      go_upto_region 11 with (first
        | (go_at_call 13; refine HFP2.out.mono ?_; rintro e w11 ⟨rfl, hu11, hb11⟩; have HU11 := Bx.mk hu11.fst; have HB11 := Bx.mk (HBA.out.trans hb11); clear hu11 hb11)
        | (go_at_call 17; refine (HFD2.out _ _ HU11.out HB11.out).mono ?_; rintro e w12 ⟨rfl, r', hr', hu12, hb12⟩; have HU12 := Bx.mk hu12; have HB12 := Bx.mk ((HB11.out.alloc HB11.out.size _).trans hb12); have HR12 := Bx.mk (hr' (by trivial)); clear hr' hu12 hb12))
      obtain ⟨KI, hKI⟩ := letter E3.K
      obtain ⟨S12, hP12, _⟩ := HU12.out.fst
      obtain ⟨S13, hE12, _⟩ := HU12.out.snd
      obtain ⟨_, _, _, _, _, _, _, _, k2, _⟩ := hE12.cells
      have k2' : w12.cell? ⟨q2, 2, none⟩ = some (.int .u64 (E3.K : Int)) := k2
      have HKN := Bx.mk (fun n => pqknown ((Wd.pq _ _ _ _).keep hP12 (below_drewN (Below.refl _ _) n)))
      rw [hKI] at k2' HKN
      clear hP12 hE12 k2 hKI
      go_quiet ((go_at_call 18; exact Calls.quiet_of_same ((HKN.out _).mono fun e w' h => ⟨h.1, h.2.symm⟩)))
      go_wp2_with fail
      go_ret
      exact ⟨rfl, below_drewN (HB2.out.trans (HB12.out.mono HB2.out.size)) _⟩
    · rw [hx1] at HFP HFD
      rw [show ((26 : Nat) : Int) = 26 from rfl] at HFP HFD
      have HE2 := Bx.mk hx2
      clear hx1 hx2
      go_upto_region 10 with (first
        | (go_at_call 13; refine (HFP.out _ HU8.out HB8.out).mono ?_; rintro e w9 ⟨rfl, hu9, hb9⟩; have HU9 := Bx.mk hu9; have HB9 := Bx.mk (HB8.out.trans hb9); clear hu9 hb9)
        | (go_at_call 17; refine (HFD.out _ _ HU9.out HB9.out).mono ?_; rintro e w10 ⟨rfl, r', hr', hu10, hb10⟩; have HU10 := Bx.mk hu10; have HB10 := Bx.mk (HB9.out.trans hb10); clear hr' hu10 hb10))
      have HL10 := Bx.mk (Ww.lit HU10.out HB10.out.size 65)
      have HFP2 := Bx.mk (ww_feedP HL10.out (HB10.out.alloc HB10.out.size _).size HG2.out.good HN5'.out (by simp) (by rw [HG2.out.rest]; exact Nat.zero_le _))
      rw [feed_err E2 [65] HE2.out] at HFP2
      have HFE : Bx ((E2.setRest r').err = 26) := ⟨HE2.out⟩
      have HFK : Bx ((E2.setRest r').K = E2.K) := ⟨rfl⟩
      obtain ⟨F2, hF2⟩ : ∃ F, E2.setRest r' = F := ⟨_, rfl⟩
      rw [hF2] at HFP2 HFE HFK HU10 HL10
      have HFD2 := Bx.mk (fun (W : World) (h : Up w2.heap.size (Ww q p N5 E2 q2 t2 F2) W) (hb : Below w2.heap.size w2 W) => ww_feedE (Ww.lit h hb.size 65) HFE.out)
      have HBA := Bx.mk (HB10.out.alloc HB10.out.size (Obj.cells #[.int .u8 ((65 : UInt8).toNat : Int)] 5))
      clear hF2
      go_upto_region 11 with (first
        | (go_at_call 13; refine HFP2.out.mono ?_; rintro e w11 ⟨rfl, hu11, hb11⟩; have HU11 := Bx.mk hu11.fst; have HB11 := Bx.mk (HBA.out.trans hb11); clear hu11 hb11)
        | (go_at_call 17; refine (HFD2.out _ HU11.out HB11.out).mono ?_; rintro e w12 ⟨rfl, hu12, hw12⟩; have HU12 := Bx.mk hu12; have HB12 : Bx (Below w2.heap.size w2 w12) := ⟨by rw [← hw12]; exact HB11.out.alloc HB11.out.size _⟩; clear hu12 hw12))
      obtain ⟨KI, hKI⟩ := letter E2.K
      obtain ⟨S12, hP12, _⟩ := HU12.out.fst
      obtain ⟨S13, hE12, _⟩ := HU12.out.snd
      obtain ⟨_, _, _, _, _, _, _, _, k2, _⟩ := hE12.cells
      rw [HFK.out] at k2
      have HKN := Bx.mk (fun n => pqknown ((Wd.pq _ _ _ _).keep hP12 (below_drewN (Below.refl _ _) n)))
      rw [hKI] at k2 HKN
      clear hP12 hE12 hKI
      go_quiet ((go_at_call 18; exact Calls.quiet_of_same ((HKN.out _).mono fun e w' h => ⟨h.1, h.2.symm⟩)))
      go_wp2_with fail
      go_ret
      exact ⟨rfl, below_drewN (HB2.out.trans (HB12.out.mono HB2.out.size)) _⟩
set_option maxRecDepth 100000 in
set_option maxHeartbeats 8000000 in
theorem qencWrong_3 (n0 n1 n2 : Int) (hn0 : 0 ≤ n0 ∧ n0 < 256) (hn1 : 0 ≤ n1 ∧ n1 < 256) (hn2 : 0 ≤ n2 ∧ n2 < 256) (hj : n0.tmod 4 = 3) (v3 : Value) (l : List Fd) (w : World) (hv3 : Fs w v3 l) (hsm : Small l) :
    Calls Tryz.prog 4 #[.int .u8 n0, .int .u8 n1, .int .u8 n2, v3] w fun e w' => e = .returned (.bool true) ∧ Below w.heap.size w w' := by
  obtain ⟨m1, rfl⟩ : ∃ m : Nat, n1 = (m : Int) := ⟨n1.toNat, by omega⟩
  obtain ⟨m2, rfl⟩ : ∃ m : Nat, n2 = (m : Int) := ⟨n2.toNat, by omega⟩
  have HV3 := Bx.mk hv3
  have HSM := Bx.mk hsm
  have hlen3 := fun ty W => hv3.run_len ty W
  obtain ⟨L, hL⟩ : ∃ n, l.length = n := ⟨_, rfl⟩
  rw [hL] at hlen3
  have HLL := Bx.mk hL
  have HK9 := Bx.mk (known9_any w)
  clear hv3 hsm hL
  by_cases hbig : 6 < L
  · have hbb : decide (6 < (L : Int)) = true := decide_eq_true (by omega)
    have hbb' : decide (6 < L) = true := decide_eq_true hbig
    clear hbig hn0 hn1 hn2
    go_enter Tryz.func4, Tryz.ntmps4
    go_wp2_with (go_at_call 5; refine HK9.out.mono ?_; rintro e w1 ⟨rfl, b1⟩; have HB1 := Bx.mk b1; clear b1)
    go_ret
    exact ⟨rfl, HB1.out⟩
  have hbb : decide (6 < (L : Int)) = false := decide_eq_false (by omega)
  have hbb' : decide (6 < L) = false := decide_eq_false hbig
  have HL6 : Bx (l.length ≤ 6) := ⟨by have := HLL.out; omega⟩
  obtain ⟨lb, hlb⟩ : ∃ lb, lightB l = lb := ⟨_, rfl⟩
  have HLB := Bx.mk hlb
  clear hbig hlb
  have HFSW : Bx (∀ W, Below w.heap.size w W → Fs W v3 l) := ⟨fun W hW => HV3.out.keep hW⟩
  have HLG := Bx.mk (fun (W : World) (hW : Below w.heap.size w W) => light_any v3 l W (HFSW.out W hW) HSM.out)
  rw [HLB.out] at HLG
  cases lb with
  | false =>
    clear hn0 hn1 hn2
    go_enter Tryz.func4, Tryz.ntmps4
    go_wp2_with (first
      | (go_at_call 5; refine HK9.out.mono ?_; rintro e w1 ⟨rfl, b1⟩; have HB1 := Bx.mk b1; clear b1)
      | (go_at_call 8; refine (HLG.out _ HB1.out).mono ?_; rintro e w2 ⟨rfl, b2⟩; have HB2 := Bx.mk (HB1.out.trans (b2.mono HB1.out.size)); clear b2))
    go_ret
    exact ⟨rfl, HB2.out⟩
  | true =>
    have HLI := Bx.mk (light_of11 HLB.out)
    have HEA := Bx.mk (light_each11 HLI.out.2)
    have HNEW := Bx.mk (fun W => pqnew_any 4096 2 (by omega) W)
    have HND := Bx.mk (fun W => newEnc8_any 4096 2 (by omega) W)
    rw [show clampN 4096 = 4096 from rfl, show (2 : Int).toNat = 2 from rfl] at HNEW HND
    have HWG := Bx.mk (Wg.start l HL6.out (fun f hf => by have := (HEA.out f hf).2.2; omega))
    have HERR : Bx (((Qe.new 4096 2).enc 1 l).err = 0) := ⟨rfl⟩
    have HENP := Bx.mk (fun (q p q2 t2 B : Nat) (W : World) (h : Up B (Ww q p 0 (Qe.new 4096 2) q2 t2 (Qe.new 4096 2)) W) (hB : B ≤ W.heap.size) (hF : ∀ W', Below B W W' → Fs W' v3 l) => ww_encP (s := 1) h hB (Qe.good.new _ _) (by unfold okU; omega) hF (by have := HL6.out; omega) (fun f hf => by have := HEA.out f hf; omega) (by decide) (by decide) (by omega))
    have HEND := Bx.mk (fun (q p N q2 t2 B : Nat) (E : Qe) (W : World) (h : Up B (Ww q p N E q2 t2 (Qe.new 4096 2)) W) (hB : B ≤ W.heap.size) (hF : ∀ W', Below B W W' → Fs W' v3 l) => ww_encD (s := 1) h hB (Qe.good.new _ _) hF (by have := HL6.out; omega) (by have := wsz_le11 l; have := HLI.out.2; have := HL6.out; omega) (by have := HL6.out; show 0 + _ ≤ _; omega) (fun f hf => by have := HEA.out f hf; omega) (by decide) (by omega))
    obtain ⟨E1, hE1⟩ : ∃ E1, (Qe.new 4096 2).enc 1 l = E1 := ⟨_, rfl⟩
    rw [hE1] at HWG HERR HENP HEND
    clear hE1
    obtain ⟨s8, hs8⟩ : ∃ s, m1 % 8 = s := ⟨_, rfl⟩
    obtain ⟨n8, hn8⟩ : ∃ s, m2 % 8 = s := ⟨_, rfl⟩
    have hrem1 : (m1 : Int).tmod 8 = (s8 : Int) := by
      rw [Int.tmod_eq_emod_of_nonneg (by omega)]
      omega
    have hrem2 : (m2 : Int).tmod 8 = (n8 : Int) := by
      rw [Int.tmod_eq_emod_of_nonneg (by omega)]
      omega
    have hls : s8 < 8 := by omega
    have hln : n8 < 8 := by omega
    have ho1 := or128q s8 hls
    have ho2 := or64q s8 hls
    have HWH := Bx.mk (byte4_whole 3 s8 n8 hls hln)
    have hcv : ((byte4 3 s8 n8).toNat : Int) = 0 := by
      unfold byte4
      rfl
    obtain ⟨c, hc⟩ : ∃ c, byte4 3 s8 n8 = c := ⟨_, rfl⟩
    rw [hc] at HWH hcv
    obtain ⟨S8, hS8⟩ := letter s8
    obtain ⟨N8, hN8⟩ := letter n8
    obtain ⟨C1, hC1⟩ := letter (UInt8.ofNat (128 + s8)).toNat
    obtain ⟨C2, hC2⟩ := letter (UInt8.ofNat (64 + s8)).toNat
    rw [hC1, hS8] at ho1
    rw [hC2, hS8] at ho2
    rw [hS8] at hrem1
    rw [hN8] at hrem2
    skip
    have hwS : IntKind.u8.wrap S8 = S8 := by rw [IntKind.wrap_u8]; omega
    have hwN : IntKind.u8.wrap N8 = N8 := by rw [IntKind.wrap_u8]; omega
    have HLIT := Bx.mk (fun (B q p N q2 t2 : Nat) (E F : Qe) (W : World) (h : Up B (Ww q p N E q2 t2 F) W) (hB : B ≤ W.heap.size) => Ww.lit h hB c)
    simp only [hcv] at HLIT
    clear hs8 hn8 hls hln hcv hc hS8 hN8 hC1 hC2 hn0 hn1 hn2
    rcases HWG.out.feed HERR.out c HWH.out with ⟨hg2, hx⟩
    go_enter Tryz.func4, Tryz.ntmps4
    go_upto_region 8 with (first
      | (go_at_call 5; refine HK9.out.mono ?_; rintro e w1 ⟨rfl, b1⟩; have HB1 := Bx.mk b1; clear b1)
      | (go_at_call 8; refine (HLG.out _ HB1.out).mono ?_; rintro e w2 ⟨rfl, b2⟩; have HB2 := Bx.mk (HB1.out.trans (b2.mono HB1.out.size)); clear b2)
      | (go_at_call 6; refine (HNEW.out _).mono ?_; rintro e w3 ⟨q, p, S3, rfl, hq3, hs3, b3⟩; have HU3 : Bx (Up w2.heap.size (Pq q p 0 (Qe.new 4096 2)) w3) := ⟨⟨S3, hq3, hs3⟩⟩; have HB3 := Bx.mk b3; clear hq3 hs3 b3)
      | (go_at_call 15; refine (HND.out _).mono ?_; rintro e w4 ⟨q2, t2, S4, rfl, hd4, hs4, b4⟩; have HU4 : Bx (Up w2.heap.size (Ww q p 0 (Qe.new 4096 2) q2 t2 (Qe.new 4096 2)) w4) := ⟨Up.add (Wd.pq _ _ _ _) HU3.out HB3.out.size b4 ⟨S4, hd4, hs4⟩⟩; have HB4 := Bx.mk (HB3.out.trans (b4.mono HB3.out.size)); clear hd4 hs4 b4)
      | (go_at_call 9; refine (HENP.out q p q2 t2 _ _ HU4.out HB4.out.size (fun W hW => HFSW.out W (HB2.out.trans ((HB4.out.trans hW).mono HB2.out.size)))).mono ?_; rintro e w5 ⟨a5, c5, rfl, N5, hn5, hu5, hb5⟩; have HN5 := Bx.mk hn5; have HU5 := Bx.mk hu5; have HB5 := Bx.mk (HB4.out.trans hb5); clear hn5 hu5 hb5)
      | (go_at_call 16; refine (HEND.out q p _ q2 t2 _ _ _ HU5.out HB5.out.size (fun W hW => HFSW.out W (HB2.out.trans ((HB5.out.trans hW).mono HB2.out.size)))).mono ?_; rintro e w6 ⟨a6, c6, rfl, hu6, hb6⟩; have HU6 := Bx.mk hu6; have HB6 := Bx.mk (HB5.out.trans hb6); clear hu6 hb6))
    clear HNEW HND HENP HEND HLG HK9
    go_upto_region 9 with fail
    obtain ⟨w7, hw7⟩ : ∃ W, w6.alloc (Obj.cells #[.int .u8 C1, .int .u8 C2, .int .u8 N8, .int .u8 0] 5) = W := ⟨_, rfl⟩
    have hsz7 : w6.heap.size + 1 = w7.heap.size := by rw [← hw7]; simp
    have hb67 : Below w6.heap.size w6 w7 := by rw [← hw7]; exact (Below.refl _ _).alloc (Nat.le_refl _) _
    have HB7 := Bx.mk (HB6.out.trans (hb67.mono HB6.out.size))
    have HU7 := HU6.out.keep Wd.ww hb67
    have HU8 := Bx.mk (HLIT.out _ _ _ _ _ _ _ _ _ HU7 HB7.out.size)
    have HB8 := Bx.mk (HB7.out.alloc HB7.out.size (Obj.cells #[.int .u8 0] 5))
    rw [hw7, hsz7]
    obtain ⟨w8, hw8⟩ : ∃ W, w7.alloc (Obj.cells #[.int .u8 0] 5) = W := ⟨_, rfl⟩
    rw [hw8] at HU8 HB8 ⊢
    clear hw7 hsz7 hb67 HU7 hw8 HLIT hj ho1 ho2 hwS hwN hrem1 hrem2 hbb hbb' hlen3
    obtain ⟨g7, hg7⟩ : ∃ g, w7.heap.size = g := ⟨_, rfl⟩
    rw [hg7] at HU8 ⊢
    clear hg7 HB7
    have HN5' : Bx (N5 < 1000000000) := ⟨by have := HN5.out; have := HL6.out; omega⟩
    have HFP := Bx.mk (fun (W : World) (h : Up w2.heap.size (Wb q p N5 E1 q2 t2 E1 (.slice (some ⟨g7, 0, none⟩) 1 1) [c]) W) (hb : Below w2.heap.size w2 W) => ww_feedP h hb.size HWG.out.good HN5'.out (by simp) (by rw [HWG.out.rest]; exact Nat.zero_le _))
    have HFD := Bx.mk (fun (E : Qe) (W : World) (h : Up w2.heap.size (Wb q p N5 E q2 t2 E1 (.slice (some ⟨g7, 0, none⟩) 1 1) [c]) W) (hb : Below w2.heap.size w2 W) => ww_feedD h hb.size HWG.out HERR.out HWH.out)
    have HG2 := Bx.mk hg2
    obtain ⟨E2, hE2⟩ : ∃ E2, (E1.feed [c]).1 = E2 := ⟨_, rfl⟩
    rw [hE2] at HFP HFD HG2 hx
    clear hg2 hE2
    rcases hx with ⟨hx1, hx2⟩ | ⟨hx1, hx2⟩
    · rw [hx1] at HFP HFD
      rw [show ((0 : Nat) : Int) = 0 from rfl] at HFP HFD
      have HE2 := Bx.mk hx2
      clear hx1 hx2
      go_upto_region 10 with (first
        | (go_at_call 13; refine (HFP.out _ HU8.out HB8.out).mono ?_; rintro e w9 ⟨rfl, hu9, hb9⟩; have HU9 := Bx.mk hu9; have HB9 := Bx.mk (HB8.out.trans hb9); clear hu9 hb9)
        | (go_at_call 17; refine (HFD.out _ _ HU9.out HB9.out).mono ?_; rintro e w10 ⟨rfl, r', hr', hu10, hb10⟩; have HU10 := Bx.mk hu10; have HB10 := Bx.mk (HB9.out.trans hb10); have HR10 := Bx.mk (hr' (by trivial)); clear hr' hu10 hb10))
      rw [HR10.out, HG2.out.setRest] at HU10
      have HL10 := Bx.mk (Ww.lit HU10.out HB10.out.size 65)
      have HG3 := Bx.mk (HG2.out.feed HE2.out 65 (.inr (by decide))).1
      have HFP2 := Bx.mk (ww_feedP HL10.out (HB10.out.alloc HB10.out.size _).size HG2.out.good HN5'.out (by simp) (by rw [HG2.out.rest]; exact Nat.zero_le _))
      rw [feed_can E2 HG2.out HE2.out] at HFP2
      have HFD2 := Bx.mk (fun (E : Qe) (W : World) (h : Up w2.heap.size (Ww q p N5 E q2 t2 E2) W) (hb : Below w2.heap.size w2 W) => ww_feedD (Ww.lit h hb.size 65) (hb.alloc hb.size _).size HG2.out HE2.out (.inr (by decide)))
      rw [feed_can E2 HG2.out HE2.out] at HFD2
      obtain ⟨E3, hE3⟩ : ∃ E3, (E2.feed [65]).1 = E3 := ⟨_, rfl⟩
      rw [hE3] at HFP2 HFD2 HG3
      have HBA := Bx.mk (HB10.out.alloc HB10.out.size (Obj.cells #[.int .u8 ((65 : UInt8).toNat : Int)] 5))
      clear hE3
      go_upto_region 11 with (first
        | (go_at_call 13; refine HFP2.out.mono ?_; rintro e w11 ⟨rfl, hu11, hb11⟩; have HU11 := Bx.mk hu11.fst; have HB11 := Bx.mk (HBA.out.trans hb11); clear hu11 hb11)
        | (go_at_call 17; refine (HFD2.out _ _ HU11.out HB11.out).mono ?_; rintro e w12 ⟨rfl, r', hr', hu12, hb12⟩; have HU12 := Bx.mk hu12; have HB12 := Bx.mk ((HB11.out.alloc HB11.out.size _).trans hb12); have HR12 := Bx.mk (hr' (by trivial)); clear hr' hu12 hb12))
      obtain ⟨KI, hKI⟩ := letter E3.K
      obtain ⟨S12, hP12, _⟩ := HU12.out.fst
      obtain ⟨S13, hE12, _⟩ := HU12.out.snd
      obtain ⟨_, _, _, _, _, _, _, _, k2, _⟩ := hE12.cells
      have k2' : w12.cell? ⟨q2, 2, none⟩ = some (.int .u64 (E3.K : Int)) := k2
      have HKN := Bx.mk (fun n => pqknown ((Wd.pq _ _ _ _).keep hP12 (below_drewN (Below.refl _ _) n)))
      rw [hKI] at k2' HKN
      clear hP12 hE12 k2 hKI
      go_quiet ((go_at_call 18; exact Calls.quiet_of_same ((HKN.out _).mono fun e w' h => ⟨h.1, h.2.symm⟩)))
      go_wp2_with fail
      go_ret
      exact ⟨rfl, below_drewN (HB2.out.trans (HB12.out.mono HB2.out.size)) _⟩
    · rw [hx1] at HFP HFD
      rw [show ((26 : Nat) : Int) = 26 from rfl] at HFP HFD
      have HE2 := Bx.mk hx2
      clear hx1 hx2
      go_upto_region 10 with (first
        | (go_at_call 13; refine (HFP.out _ HU8.out HB8.out).mono ?_; rintro e w9 ⟨rfl, hu9, hb9⟩; have HU9 := Bx.mk hu9; have HB9 := Bx.mk (HB8.out.trans hb9); clear hu9 hb9)
        | (go_at_call 17; refine (HFD.out _ _ HU9.out HB9.out).mono ?_; rintro e w10 ⟨rfl, r', hr', hu10, hb10⟩; have HU10 := Bx.mk hu10; have HB10 := Bx.mk (HB9.out.trans hb10); clear hr' hu10 hb10))
      have HL10 := Bx.mk (Ww.lit HU10.out HB10.out.size 65)
      have HFP2 := Bx.mk (ww_feedP HL10.out (HB10.out.alloc HB10.out.size _).size HG2.out.good HN5'.out (by simp) (by rw [HG2.out.rest]; exact Nat.zero_le _))
      rw [feed_err E2 [65] HE2.out] at HFP2
      have HFE : Bx ((E2.setRest r').err = 26) := ⟨HE2.out⟩
      have HFK : Bx ((E2.setRest r').K = E2.K) := ⟨rfl⟩
      obtain ⟨F2, hF2⟩ : ∃ F, E2.setRest r' = F := ⟨_, rfl⟩
      rw [hF2] at HFP2 HFE HFK HU10 HL10
      have HFD2 := Bx.mk (fun (W : World) (h : Up w2.heap.size (Ww q p N5 E2 q2 t2 F2) W) (hb : Below w2.heap.size w2 W) => ww_feedE (Ww.lit h hb.size 65) HFE.out)
      have HBA := Bx.mk (HB10.out.alloc HB10.out.size (Obj.cells #[.int .u8 ((65 : UInt8).toNat : Int)] 5))
      clear hF2
      go_upto_region 11 with (first
        | (go_at_call 13; refine HFP2.out.mono ?_; rintro e w11 ⟨rfl, hu11, hb11⟩; have HU11 := Bx.mk hu11.fst; have HB11 := Bx.mk (HBA.out.trans hb11); clear hu11 hb11)
        | (go_at_call 17; refine (HFD2.out _ HU11.out HB11.out).mono ?_; rintro e w12 ⟨rfl, hu12, hw12⟩; have HU12 := Bx.mk hu12; have HB12 : Bx (Below w2.heap.size w2 w12) := ⟨by rw [← hw12]; exact HB11.out.alloc HB11.out.size _⟩; clear hu12 hw12))
      obtain ⟨KI, hKI⟩ := letter E2.K
      obtain ⟨S12, hP12, _⟩ := HU12.out.fst
      obtain ⟨S13, hE12, _⟩ := HU12.out.snd
      obtain ⟨_, _, _, _, _, _, _, _, k2, _⟩ := hE12.cells
      rw [HFK.out] at k2
      have HKN := Bx.mk (fun n => pqknown ((Wd.pq _ _ _ _).keep hP12 (below_drewN (Below.refl _ _) n)))
      rw [hKI] at k2 HKN
      clear hP12 hE12 hKI
      go_quiet ((go_at_call 18; exact Calls.quiet_of_same ((HKN.out _).mono fun e w' h => ⟨h.1, h.2.symm⟩)))
      go_wp2_with fail
      go_ret
      exact ⟨rfl, below_drewN (HB2.out.trans (HB12.out.mono HB2.out.size)) _⟩
theorem qencWrong_walk (n0 n1 n2 : Int) (hn0 : (Lit.int .u8 n0).wf = true) (hn1 : (Lit.int .u8 n1).wf = true) (hn2 : (Lit.int .u8 n2).wf = true) (v3 : Value) (l : List Fd) (w : World) (hv3 : Fs w v3 l) (hsm : Small l) :
    Calls Tryz.prog 4 #[.int .u8 n0, .int .u8 n1, .int .u8 n2, v3] w fun e w' => e = .returned (.bool true) ∧ Below w.heap.size w w' := by
  have range : ∀ n : Int, (Lit.int .u8 n).wf = true → 0 ≤ n ∧ n < 256 := fun n h => by
    simp [Lit.wf, IntKind.min, IntKind.max, IntKind.signed, IntKind.bits] at h
    omega
  have h0 := range n0 hn0
  have h4 : n0.tmod 4 = 0 ∨ n0.tmod 4 = 1 ∨ n0.tmod 4 = 2 ∨ n0.tmod 4 = 3 := by
    rw [Int.tmod_eq_emod_of_nonneg h0.1]
    omega
  rcases h4 with h | h | h | h
  · exact qencWrong_0 n0 n1 n2 h0 (range _ hn1) (range _ hn2) h v3 l w hv3 hsm
  · exact qencWrong_1 n0 n1 n2 h0 (range _ hn1) (range _ hn2) h v3 l w hv3 hsm
  · exact qencWrong_2 n0 n1 n2 h0 (range _ hn1) (range _ hn2) h v3 l w hv3 hsm
  · exact qencWrong_3 n0 n1 n2 h0 (range _ hn1) (range _ hn2) h v3 l w hv3 hsm
end Go.Proofs.YtebakjdeighdnaaGreat
