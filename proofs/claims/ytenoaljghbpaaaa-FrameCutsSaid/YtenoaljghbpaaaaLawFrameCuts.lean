/-
  bifoldlaw11.FrameCuts answers true, whatever its arguments: the walk.
-/
import Derived.Test.YtenoaljghbpaaaaLawFrameReads
import Derived.Test.YtenoaljghbpaaaaFrM
import Derived.Test.YtenoaljghbpaaaaApZ
import Derived.Test.YtenoaljghbpaaaaSliceM
namespace Go.Proofs.Ytenoaljghbpaaaa
open Go.RowKit
set_option linter.unusedVariables false
set_option linter.unusedSimpArgs false

theorem OwB.litC (w : World) (cs : Array Value) (l : List UInt8) (n : Nat) (hc : cs.toList = l.map bv) (hl : l.length = n) (hn : n ≤ 1000) : OwB (w.alloc (.cells cs 5)) w.heap.size (.slice (some ⟨w.heap.size, 0, none⟩) n n) l := by
  subst hl
  have hl : cs.size = l.length := by rw [← Array.length_toList, hc, List.length_map]
  have h := World.ownsRow_lit (base := w.heap.size) (e := 5) (size := 1) w cs l.length (Nat.le_refl _) (by unfold maxLen; omega) (by omega)
  rw [hc] at h
  unfold OwB
  rw [List.length_map]
  exact h
theorem frameCuts_great (T F At Mo : Int) (bV : Value) (b : List UInt8) (w : World) (hv : Bs w bV b) (hg : 300 < b.length) :
    Calls Try.prog 5 #[.int .u8 T, .int .u8 F, bV, .int .u16 At, .int .u16 Mo] w fun e w' => e = .returned (.bool true) ∧ Below w.heap.size w w' := by
  have HK := Bx.mk (known11_any w)
  have hlenb := fun tr W => hv.run_len tr W
  obtain ⟨n, hn⟩ : ∃ n, b.length = n := ⟨_, rfl⟩
  rw [hn] at hlenb hg
  have hd : decide ((300 : Int) < (n : Int)) = true := decide_eq_true (by omega)
  have hd' : decide (300 < n) = true := decide_eq_true (by omega)
  clear hv hg hn
  go_enter Try.func5, Try.ntmps5
  go_wp2_with (go_at_call 21; refine HK.out.mono ?_; rintro e w1 ⟨rfl, b1⟩; have HB1 := Bx.mk b1; clear b1)
  go_ret
  exact ⟨rfl, HB1.out⟩
set_option maxRecDepth 100000 in
set_option maxHeartbeats 8000000 in
theorem frameCuts_small (t f : UInt8) (T F At Mo HI LO X Y Q R X1 : Int) (n K : Nat) (bV : Value) (b : List UInt8) (w : World) (hv : Bs w bV b) (hn : b.length = n) (hn3 : n ≤ 300) (hT : (t.toNat : Int) = T) (hF : (f.toNat : Int) = F)
    (hHI : ((UInt8.ofNat (n / 256)).toNat : Int) = HI) (hLO : ((UInt8.ofNat n).toNat : Int) = LO) (hat : 0 ≤ At ∧ At < 65536) (hmo : 0 ≤ Mo ∧ Mo < 65536) (hK : At.tmod ((9 + n : Nat) : Int) = (K : Int)) (hK9 : K < 9 + n)
    (x y : UInt8) (hX : (x.toNat : Int) = X) (hY : (y.toNat : Int) = Y) (hq : IntKind.u16.wrap (Mo.tdiv 256) = Q) (hr : Q.tmod 4 = R) (hx1 : IntKind.u16.wrap (1 + R) = X1) (hxe : X1 % 256 = X) (hye : IntKind.u8.wrap Mo = Y)
    (hhi : (n : Int) / 256 % 256 = HI) (hlo : IntKind.u8.wrap (n : Int) = LO) :
    Calls Try.prog 5 #[.int .u8 T, .int .u8 F, bV, .int .u16 At, .int .u16 Mo] w fun e w' => e = .returned (.bool true) ∧ Below w.heap.size w w' := by
  have HK := Bx.mk (known11_any w)
  have hlenb := fun tr W => hv.run_len tr W
  rw [hn] at hlenb
  have hd : decide ((300 : Int) < (n : Int)) = false := decide_eq_false (by omega)
  have hd' : decide (300 < n) = false := decide_eq_false (by omega)
  have HV := Bx.mk hv
  have HN := Bx.mk hn
  have HCS : Bx ((#[.int .u8 0, .int .u8 HI, .int .u8 LO, .int .u8 T, .int .u8 F, .int .u8 0, .int .u8 0, .int .u8 0, .int .u8 1] : Array Value).toList = [0, UInt8.ofNat (n / 256), UInt8.ofNat n, t, f, 0, 0, 0, 1].map bv) := ⟨by rw [← hHI, ← hLO, ← hT, ← hF]; rfl⟩
  have HCS2 : Bx ((#[.int .u8 X, .int .u8 Y, .int .u8 0] : Array Value).toList = [x, y, 0].map bv) := ⟨by rw [← hX, ← hY]; rfl⟩
  have HL := Bx.mk (fun W : World => OwB.litC W _ _ 9 HCS.out rfl (by omega))
  have HL2 := Bx.mk (fun W : World => OwB.litC W _ _ 3 HCS2.out rfl (by omega))
  have hwat : IntKind.i64.wrap At = At := by rw [IntKind.wrap_i64]; omega
  have HMO := Bx.mk hmo
  obtain ⟨N9, hN9⟩ : ∃ N9 : Int, ((9 + n : Nat) : Int) = N9 := ⟨_, rfl⟩
  rw [hN9] at hK
  have hz : (N9 == 0) = false := by rw [beq_eq_false_iff_ne]; omega
  have hz2 : ¬ N9 = 0 := by omega
  have HN9 := Bx.mk hN9
  have HK9 := Bx.mk hK9
  have HN3 := Bx.mk hn3
  clear hv hn hn3 hT hF hHI hLO hX hY hat hmo hN9 hK9 HCS HCS2
  go_enter Try.func5, Try.ntmps5
  go_upto_region 5 with (go_at_call 21; refine HK.out.mono ?_; rintro e w1 ⟨rfl, b1⟩; have HB1 := Bx.mk b1; clear b1)
  have HV1 := Bx.mk (HV.out.keep HB1.out)
  have HLa := Bx.mk (HL.out w1)
  have HBa := Bx.mk (HB1.out.alloc HB1.out.size (.cells #[.int .u8 0, .int .u8 HI, .int .u8 LO, .int .u8 T, .int .u8 F, .int .u8 0, .int .u8 0, .int .u8 0, .int .u8 1] 5))
  go_upto_region 6 with (at_builtin; obtain ⟨v3, w3, hr3, o3, g3⟩ := run_bytes_own _ 22 w1.heap.size _ bV _ b HLa.out (HV1.out.keep ((Below.refl w1.heap.size w1).alloc (Nat.le_refl _) _)) (by simp) (by rw [HN.out]; have := HN3.out; omega) (by simp); refine Lib.wpList_append_run _ rfl _ _ _ _ rfl _ _ rfl rfl _ _ hr3 ?_; have HO3 := Bx.mk o3; have HB3 := Bx.mk (HBa.out.grown g3 HBa.out.size (fun k hk => by have := HLa.out.ge hk; have := HB1.out.size; omega)); clear hr3 o3 g3)
  obtain ⟨A3, n3, c3, hsh⟩ := HO3.out.shape
  subst hsh
  obtain ⟨all, hall⟩ : ∃ all, [0, UInt8.ofNat (n / 256), UInt8.ofNat n, t, f, 0, 0, 0, 1] ++ b = all := ⟨_, rfl⟩
  have HCUT : Bx (rdF (all.take K) 0 = ((0, 0, 0, []), 0, 20)) := ⟨by
    have h := rdF_cut b t f (by rw [HN.out]; exact HN3.out) K (by rw [HN.out]; exact HK9.out)
    rw [HN.out, hall] at h
    exact h⟩
  have HLA : Bx (all.length = 9 + n) := ⟨by rw [← hall, List.length_append, HN.out]; rfl⟩
  have HTK : Bx ((all.take 9).drop 3 = [t, f, 0, 0, 0, 1]) := ⟨by rw [← hall]; rfl⟩
  rw [hall] at HO3
  clear hall HL HLa HBa
  have hlen3 : ∀ (tr : TypeId) (W : World), (Builtin.len_ #[22] tr #[.slice A3 n3 c3]).run Try.prog W = .ok (.int .i64 N9) W := fun tr W => by
    have h := HO3.out.bs.run_len tr W
    rw [HLA.out, HN9.out] at h
    exact h
  obtain ⟨vk, rk, bk⟩ := HO3.out.bs.upto (K : Int) (by omega) (by have := HK9.out; rw [HLA.out]; omega)
  have HBK := Bx.mk bk
  clear bk
  rw [Int.toNat_natCast] at HBK
  have HR1 : Bx (∀ W, Bs W vk (all.take K) → Calls Try.prog 24 #[vk, .int .i64 0] W (RdQ 0 0 0 0 20 [] W)) := ⟨fun W h => by
    have hp := pRead_any vk _ 0 W h (by omega) (by omega) (by rw [List.length_take, HLA.out]; have := HN3.out; omega)
    rw [HCUT.out] at hp
    exact hp.mono fun e w' hh => hh.q⟩
  go_upto_region 8 with (go_at_call 24; refine (HR1.out _ (HBK.out _ HO3.out.bs)).mono ?_; rintro e w5 ⟨A5, n5, c5, rfl, h5, b5⟩; have HX5 := Bx.mk b5; have HO5 := Bx.mk (HO3.out.keep b5); clear h5 b5)
  have HX6 := Bx.mk (HX5.out.alloc HX5.out.size (.cells (fraA 0 0 0 (.slice A5 n5 c5)) 28))
  have HO6 := Bx.mk (HO5.out.alloc (.cells (fraA 0 0 0 (.slice A5 n5 c5)) 28))
  obtain ⟨w6, hw6⟩ : ∃ W, w5.alloc (.cells (fraA 0 0 0 (.slice A5 n5 c5)) 28) = W := ⟨_, rfl⟩
  rw [hw6] at HX6 HO6 ⊢
  have HB6 := Bx.mk (HB3.out.trans (HX6.out.mono HB3.out.size))
  clear hw6 HX5 HO5 HX6 HR1 HBK rk hlen3 HCUT
  obtain ⟨vm, rm, bm⟩ := HO6.out.bs.mid 3 9 (by omega) (by omega) (by rw [HLA.out]; omega)
  have HBM : Bx (∀ W : World, Bs W (.slice A3 n3 c3) all → Bs W vm [t, f, 0, 0, 0, 1]) := ⟨fun W h => by have := bm W h; rw [show (9 : Int).toNat = 9 from rfl, show (3 : Int).toNat = 3 from rfl, HTK.out] at this; exact this⟩
  have HLb := Bx.mk (HL2.out w6)
  have HBb := Bx.mk (HB6.out.alloc HB6.out.size (.cells #[.int .u8 X, .int .u8 Y, .int .u8 0] 5))
  have HVm := Bx.mk (HBM.out _ (HO6.out.alloc (.cells #[.int .u8 X, .int .u8 Y, .int .u8 0] 5)).bs)
  clear bm HBM HTK
  go_upto_region 9 with (at_builtin; obtain ⟨v7, w7, hr7, o7, g7⟩ := run_bytes_own _ 22 w6.heap.size _ vm _ _ HLb.out HVm.out (by simp) (by simp) (by simp); refine Lib.wpList_append_run _ rfl _ _ _ _ rfl _ _ rfl rfl _ _ hr7 ?_; have HO7 := Bx.mk o7.bs; have HB7 := Bx.mk (HBb.out.grown g7 HBb.out.size (fun k hk => by have := HLb.out.ge hk; have := HB6.out.size; omega)); clear hr7 o7 g7)
  obtain ⟨G, hG⟩ : ∃ G, [x, y, 0] ++ [t, f, 0, 0, 0, 1] = G := ⟨_, rfl⟩
  have HGL : Bx (G.length = 9) := ⟨by rw [← hG]; rfl⟩
  rw [hG] at HO7
  clear hG rm HVm HLb HBb HL2 HO3 HO6 hq hr hx1 hxe hye hhi hlo HB6 HB3 HV1 HV HN hK
  have hwm : IntKind.i64.wrap Mo = Mo := by have := HMO.out; rw [IntKind.wrap_i64]; omega
  obtain ⟨M20, hM20⟩ : ∃ M, Mo * 20 = M := ⟨_, rfl⟩
  have hwm2 : IntKind.i64.wrap M20 = M20 := by have := HMO.out; rw [IntKind.wrap_i64]; omega
  have hwm3 : wrap64 M20 = M20 := by have := HMO.out; unfold wrap64; omega
  have HM : Bx (-9223372036854775808 ≤ M20 ∧ M20 ≤ 9223372036854775807) := ⟨by have := HMO.out; omega⟩
  obtain ⟨RR, hR⟩ : ∃ R, rdF G M20 = R := ⟨_, rfl⟩
  obtain ⟨⟨rt, rf, rs, D⟩, rn, re⟩ := RR
  obtain ⟨T2, hT⟩ : ∃ x : Int, (rt : Int) = x := ⟨_, rfl⟩
  obtain ⟨F2, hF⟩ : ∃ x : Int, (rf : Int) = x := ⟨_, rfl⟩
  obtain ⟨S2, hS⟩ : ∃ x : Int, (rs : Int) = x := ⟨_, rfl⟩
  obtain ⟨N2, hN⟩ : ∃ x : Int, (rn : Int) = x := ⟨_, rfl⟩
  obtain ⟨E2, hE⟩ : ∃ x : Int, (re : Int) = x := ⟨_, rfl⟩
  have HP2 : Bx (∀ W, Bs W v7 G → Calls Try.prog 24 #[v7, .int .i64 M20] W (RdQ T2 F2 S2 N2 E2 D W)) := ⟨fun W h => by
    subst hT hF hS hN hE
    have hp := pRead_any v7 G M20 W h HM.out.1 HM.out.2 (by rw [HGL.out]; omega)
    rw [hR] at hp
    exact hp.mono fun e w' hh => hh.q⟩
  have HR2 : Bx (∀ W, Bs W v7 G → Calls Try.prog 26 #[v7, .int .i64 M20] W (RdQ T2 F2 S2 N2 E2 D W)) := ⟨fun W h => by
    subst hT hF hS hN hE
    have hp := refRead_any v7 G M20 W h HM.out.1 HM.out.2 (by rw [HGL.out]; omega)
    rw [hR] at hp
    exact hp.mono fun e w' hh => hh.q⟩
  clear hR hT hF hS hN hE
  go_upto_region 10 with (go_at_call 24; refine (HP2.out _ HO7.out).mono ?_; rintro e w8 ⟨A8, n8, c8, rfl, h8, b8⟩; have HO8 := Bx.mk ((HO7.out.keep b8).keep ((Below.refl w8.heap.size w8).alloc (Nat.le_refl _) (.cells (fraA T2 F2 S2 (.slice A8 n8 c8)) 28))); have HB8 := Bx.mk ((HB7.out.trans (b8.mono HB7.out.size)).alloc (HB7.out.trans (b8.mono HB7.out.size)).size (.cells (fraA T2 F2 S2 (.slice A8 n8 c8)) 28)); clear h8 b8)
  obtain ⟨w9, hw9⟩ : ∃ W, w8.alloc (.cells (fraA T2 F2 S2 (.slice A8 n8 c8)) 28) = W := ⟨_, rfl⟩
  rw [hw9] at HO8 HB8 ⊢
  clear hw9
  go_upto_region 11 with (go_at_call 26; refine (HR2.out _ HO8.out).mono ?_; rintro e w10 ⟨A10, n10, c10, rfl, h10, b10⟩; have HB10 := Bx.mk ((HB8.out.trans (b10.mono HB8.out.size)).alloc (HB8.out.trans (b10.mono HB8.out.size)).size (.cells (fraA T2 F2 S2 (.slice A10 n10 c10)) 28)); clear h10 b10)
  go_wp2_with fail
  go_ret
  exact ⟨rfl, HB10.out⟩
theorem frameCuts_walk (T F : Int) (hT : (Lit.int .u8 T).wf = true) (hF : (Lit.int .u8 F).wf = true) (bV : Value) (b : List UInt8) (At Mo : Int) (hA : (Lit.int .u16 At).wf = true) (hM : (Lit.int .u16 Mo).wf = true) (w : World) (hv : Bs w bV b) :
    Calls Try.prog 5 #[.int .u8 T, .int .u8 F, bV, .int .u16 At, .int .u16 Mo] w fun e w' => e = .returned (.bool true) ∧ Below w.heap.size w w' := by
  by_cases hg : 300 < b.length
  · exact frameCuts_great T F At Mo bV b w hv hg
  have hT2 : 0 ≤ T ∧ T < 256 := by
    have h0 : IntKind.u8.min ≤ T ∧ T ≤ IntKind.u8.max := by simpa [Lit.wf] using hT
    have h1 : IntKind.u8.min = 0 := rfl
    have h2 : IntKind.u8.max = 255 := rfl
    omega
  have hF2 : 0 ≤ F ∧ F < 256 := by
    have h0 : IntKind.u8.min ≤ F ∧ F ≤ IntKind.u8.max := by simpa [Lit.wf] using hF
    have h1 : IntKind.u8.min = 0 := rfl
    have h2 : IntKind.u8.max = 255 := rfl
    omega
  have hA2 : 0 ≤ At ∧ At < 65536 := by
    have h0 : IntKind.u16.min ≤ At ∧ At ≤ IntKind.u16.max := by simpa [Lit.wf] using hA
    have h1 : IntKind.u16.min = 0 := rfl
    have h2 : IntKind.u16.max = 65535 := rfl
    omega
  have hM2 : 0 ≤ Mo ∧ Mo < 65536 := by
    have h0 : IntKind.u16.min ≤ Mo ∧ Mo ≤ IntKind.u16.max := by simpa [Lit.wf] using hM
    have h1 : IntKind.u16.min = 0 := rfl
    have h2 : IntKind.u16.max = 65535 := rfl
    omega
  obtain ⟨tn, rfl⟩ := Int.eq_ofNat_of_zero_le hT2.1
  obtain ⟨fn, rfl⟩ := Int.eq_ofNat_of_zero_le hF2.1
  obtain ⟨an, rfl⟩ := Int.eq_ofNat_of_zero_le hA2.1
  obtain ⟨mn, rfl⟩ := Int.eq_ofNat_of_zero_le hM2.1
  have e8 : ∀ k : Nat, (UInt8.ofNat k).toNat = k % 256 := fun k => UInt8.toNat_ofNat'
  refine frameCuts_small (UInt8.ofNat tn) (UInt8.ofNat fn) _ _ _ _ ((b.length / 256 % 256 : Nat) : Int) ((b.length % 256 : Nat) : Int) ((1 + mn / 256 % 4 : Nat) : Int) ((mn % 256 : Nat) : Int) ((mn / 256 : Nat) : Int) ((mn / 256 % 4 : Nat) : Int) ((1 + mn / 256 % 4 : Nat) : Int) b.length (an % (9 + b.length)) bV b w hv rfl (by omega)
    (by rw [e8]; omega) (by rw [e8]; omega) (by rw [e8]) (by rw [e8]) hA2 hM2 (Int.ofNat_tmod an (9 + b.length)).symm (Nat.mod_lt _ (by omega)) (UInt8.ofNat (1 + mn / 256 % 4)) (UInt8.ofNat mn) (by rw [e8]; omega) (by rw [e8]) ?_ ?_ ?_ ?_ ?_ ?_ ?_
  · rw [show ((mn : Int)).tdiv 256 = ((mn / 256 : Nat) : Int) from rfl, IntKind.wrap_u16]
    omega
  · rfl
  · rw [IntKind.wrap_u16]; omega
  · omega
  · rw [IntKind.wrap_u8]; omega
  · omega
  · rw [IntKind.wrap_u8]; omega
end Go.Proofs.Ytenoaljghbpaaaa
