/-
  Frames: the program's Read (written by mkfrd.py).
-/
import Derived.Test.YtenoaljghbpaaaaFrC
namespace Go.Proofs.Ytenoaljghbpaaaa
open Go.RowKit
set_option linter.unusedVariables false
set_option linter.unusedSimpArgs false

theorem nearest_any (most : Int) (w : World) : Calls Try.prog 76 #[.int .i64 most] w fun e w' => e = .returned (.int .i64 (rdMost most)) ∧ w' = w := by
  obtain ⟨M, hM⟩ : ∃ n, rdMost most = n := ⟨_, rfl⟩
  have hMv : min (max most 16384) 16777215 = M := hM
  rw [hM]
  clear hM
  go_enter Try.func76, Try.ntmps76
  go_wp2_with fail
  go_ret
  exact ⟨rfl, rfl⟩
theorem rb_five (b : List UInt8) (h : 5 ≤ b.length) : rb (b.take 5) = rb (b.take 3) * 65536 + (b.getD 3 0).toNat * 256 + (b.getD 4 0).toNat := by
  have e3 : b.getD 3 0 = b[3] := by simp [List.getD, show 3 < b.length from by omega]
  have e4 : b.getD 4 0 = b[4] := by simp [List.getD, show 4 < b.length from by omega]
  rw [e3, e4, List.take_succ_eq_append_getElem (show 4 < b.length by omega), List.take_succ_eq_append_getElem (show 3 < b.length by omega), rb_snoc, rb_snoc]
  omega
set_option maxRecDepth 100000 in
set_option maxHeartbeats 8000000 in
theorem pRead_any (v : Value) (b : List UInt8) (most : Int) (w : World) (hv : Bs w v b) (hm1 : -9223372036854775808 ≤ most) (hm2 : most ≤ 9223372036854775807) (hbl : b.length ≤ 500000) :
    Calls Try.prog 24 #[v, .int .i64 most] w (RdPost w (rdF b most)) := by
  have hlen := fun tr W => hv.run_len tr W
  obtain ⟨R, hR⟩ : ∃ R, rdF b most = R := ⟨_, rfl⟩
  have HR := Bx.mk hR
  have HV := Bx.mk hv
  rw [hR]
  clear hR
  have HZ : Bx (Sb 28 (w.alloc (.cells zeroFr 28)) w.heap.size zeroFr) := ⟨Sb.new _ w _⟩
  have HB : Bx (Below w.heap.size w (w.alloc (.cells zeroFr 28))) := ⟨(Below.refl _ _).alloc (Nat.le_refl _) _⟩
  obtain ⟨g, hg⟩ : ∃ g, w.heap.size = g := ⟨_, rfl⟩
  obtain ⟨w1, hw1⟩ : ∃ W, w.alloc (.cells zeroFr 28) = W := ⟨_, rfl⟩
  have hw1' := hw1
  unfold zeroFr at hw1'
  rw [hw1, hg] at HZ
  rw [hw1] at HB
  have HG := Bx.mk hg
  have hb1 := hv.keep HB.out
  obtain ⟨L, hL⟩ : ∃ n, b.length = n := ⟨_, rfl⟩
  rw [hL] at hlen hbl
  have HL := Bx.mk (And.intro hL hbl)
  by_cases h9 : L < 9
  · have hd9 : decide ((L : Int) < 9) = true := decide_eq_true (by omega)
    have HRE : Bx (R = ((0, 0, 0, []), 0, 20)) := ⟨by rw [← HR.out]; unfold rdF; rw [if_pos (by rw [HL.out.1]; exact h9)]⟩
    clear hv hb1 hL hw1
    go_enter Try.func24, Try.ntmps24
    go_wp2_with (with_reducible refine wpList_storeFr g (.int .u8 0) (.int .u8 0) (.int .u32 0) (.slice none 0 0) (.int .u8 0) (.int .u8 0) (.int .u32 0) (.slice none 0 0) (by simp [Value.oneCell']) rfl rfl HZ.out ?_; intro w5 hs5 hg5; have HS5 := Bx.mk hs5; have HB5 := Bx.mk (HB.out.grown hg5 HB.out.size (fun k hk => by injection hk with hk; have := HG.out; omega)); clear hs5 hg5)
    rw [HRE.out]
    exact bodyPost_ret (ret_Fr Try.results24 _ _ g _ _ _ _ _ _ rfl rfl rfl HS5.out) rfl ⟨_, rfl, Rd.nil _, HB5.out⟩
  have hd9 : decide ((L : Int) < 9) = false := decide_eq_false (by omega)
  obtain ⟨N, hN⟩ : ∃ n, rb (b.take 3) = n := ⟨_, rfl⟩
  have hN24 : N < 16777216 := by rw [← hN]; exact rb_lt_n _ 3 (by rw [List.length_take]; omega)
  obtain ⟨X, hX⟩ : ∃ n, rb (b.take 5) = n := ⟨_, rfl⟩
  have hX5 := rb_five b (by rw [hL]; omega)
  obtain ⟨t3, ht3⟩ : ∃ x : Nat, (b.getD 3 0).toNat = x := ⟨_, rfl⟩
  obtain ⟨t4, ht4⟩ : ∃ x : Nat, (b.getD 4 0).toNat = x := ⟨_, rfl⟩
  have h3l : t3 < 256 := by rw [← ht3]; exact UInt8.toNat_lt _
  have h4l : t4 < 256 := by rw [← ht4]; exact UInt8.toNat_lt _
  rw [hX, hN, ht3, ht4] at hX5
  have HRB := Bx.mk (fun (W : World) (h : Bs W v b) => readBig_ok v b 5 W h (by omega) (by omega) (by rw [hL]; omega) (by rw [hL]; omega))
  rw [show (5 : Int).toNat = 5 from rfl, hX] at HRB
  obtain ⟨XI, hXI⟩ : ∃ x : Int, (X : Int) = x := ⟨_, rfl⟩
  rw [hXI] at HRB
  obtain ⟨NI, hNI⟩ : ∃ x : Int, (N : Int) = x := ⟨_, rfl⟩
  have hx1 : XI / 2 ^ 16 = NI := by omega
  have hx2 : XI / 65536 = NI := by omega
  have hNw : IntKind.i64.wrap NI = NI := by rw [IntKind.wrap_i64]; omega
  obtain ⟨M, hM⟩ : ∃ n, rdMost most = n := ⟨_, rfl⟩
  have HNR := Bx.mk (fun W => nearest_any most W)
  rw [hM] at HNR
  have HV1 := Bx.mk hb1
  by_cases hbig : M < (N : Int)
  · have hdb : decide (M < NI) = true := decide_eq_true (by omega)
    have HRE : Bx (R = ((0, 0, 0, []), 0, 30)) := ⟨by rw [← HR.out]; unfold rdF; rw [if_neg (by rw [HL.out.1]; exact h9), if_pos (by rw [hM, hN]; exact hbig)]⟩
    clear hv hL hw1 hM hN hX hX5 ht3 ht4 h3l h4l hXI hNI hb1 hbig
    go_enter Try.func24, Try.ntmps24
    go_wp2_with (first
      | (go_at_call 75; refine (HRB.out w1 HV1.out).mono ?_; rintro e w2 ⟨rfl, hw2⟩; subst w2)
      | (go_at_call 76; refine (HNR.out _).mono ?_; rintro e w2 ⟨rfl, hw2⟩; subst w2)
      | (with_reducible refine wpList_storeFr g (.int .u8 0) (.int .u8 0) (.int .u32 0) (.slice none 0 0) (.int .u8 0) (.int .u8 0) (.int .u32 0) (.slice none 0 0) (by simp [Value.oneCell']) rfl rfl HZ.out ?_; intro w5 hs5 hg5; have HS5 := Bx.mk hs5; have HB5 := Bx.mk (HB.out.grown hg5 HB.out.size (fun k hk => by injection hk with hk; have := HG.out; omega)); clear hs5 hg5))
    rw [HRE.out]
    exact bodyPost_ret (ret_Fr Try.results24 _ _ g _ _ _ _ _ _ rfl rfl rfl HS5.out) rfl ⟨_, rfl, Rd.nil _, HB5.out⟩
  have hdb : decide (M < NI) = false := decide_eq_false (by omega)
  obtain ⟨v9, r9, k9⟩ := hv.from_ 9 (by omega) (by rw [hL]; omega)
  rw [show (9 : Int).toNat = 9 from rfl] at k9
  obtain ⟨L9, hL9e⟩ : ∃ x : Int, ((L - 9 : Nat) : Int) = x := ⟨_, rfl⟩
  have hlen9 : ∀ (tr : TypeId) (W : World), (Builtin.len_ #[22] tr #[v9]).run Try.prog W = .ok (.int .i64 L9) W := fun tr W => by
    have h := (k9 w hv).run_len tr W
    rw [List.length_drop, hL, hL9e] at h
    exact h
  by_cases hcut : L - 9 < N
  · have hdc : decide (L9 < NI) = true := decide_eq_true (by omega)
    have HRE : Bx (R = ((0, 0, 0, []), 0, 20)) := ⟨by rw [← HR.out]; unfold rdF; rw [if_neg (by rw [HL.out.1]; exact h9), if_neg (by rw [hM, hN]; exact hbig), if_pos (by rw [HL.out.1, hN]; omega)]⟩
    clear hv hL hw1 hM hN hX hX5 ht3 ht4 h3l h4l hXI hNI hb1 hbig hcut k9 hL9e
    go_enter Try.func24, Try.ntmps24
    go_wp2_with (first
      | (go_at_call 75; refine (HRB.out w1 HV1.out).mono ?_; rintro e w2 ⟨rfl, hw2⟩; subst w2)
      | (go_at_call 76; refine (HNR.out _).mono ?_; rintro e w2 ⟨rfl, hw2⟩; subst w2)
      | (with_reducible refine wpList_storeFr g (.int .u8 0) (.int .u8 0) (.int .u32 0) (.slice none 0 0) (.int .u8 0) (.int .u8 0) (.int .u32 0) (.slice none 0 0) (by simp [Value.oneCell']) rfl rfl HZ.out ?_; intro w5 hs5 hg5; have HS5 := Bx.mk hs5; have HB5 := Bx.mk (HB.out.grown hg5 HB.out.size (fun k hk => by injection hk with hk; have := HG.out; omega)); clear hs5 hg5))
    rw [HRE.out]
    exact bodyPost_ret (ret_Fr Try.results24 _ _ g _ _ _ _ _ _ rfl rfl rfl HS5.out) rfl ⟨_, rfl, Rd.nil _, HB5.out⟩
  have hdc : decide (L9 < NI) = false := decide_eq_false (by omega)
  obtain ⟨v5, r5, k5⟩ := hv.from_ 5 (by omega) (by rw [hL]; omega)
  have HB5v := Bx.mk (k5 w1 hb1)
  rw [show (5 : Int).toNat = 5 from rfl] at HB5v
  obtain ⟨S, hS⟩ : ∃ n, rb ((b.drop 5).take 4) = n := ⟨_, rfl⟩
  have hS32 : S < 4294967296 := by rw [← hS]; exact rb_lt_n _ 4 (by rw [List.length_take]; omega)
  have HRS := readBig_ok v5 (b.drop 5) 4 w1 HB5v.out (by omega) (by omega) (by rw [List.length_drop]; omega) (by rw [List.length_drop]; omega)
  rw [show (4 : Int).toNat = 4 from rfl, hS] at HRS
  obtain ⟨S31, hS31⟩ : ∃ x, S % 2147483648 = x := ⟨_, rfl⟩
  have hSm := u32_mask31 S hS32
  rw [hS31] at hSm
  obtain ⟨SI, hSI⟩ : ∃ x : Int, (S : Int) = x := ⟨_, rfl⟩
  rw [hSI] at HRS hSm
  have HRS' := Bx.mk HRS
  have hSw : IntKind.u32.wrap SI = SI := by rw [IntKind.wrap_u32]; omega
  have hy1 : XI / 2 ^ 8 = ((N * 256 + t3 : Nat) : Int) := by omega
  have hy2 : XI / 256 = ((N * 256 + t3 : Nat) : Int) := by omega
  have hy3 : IntKind.u8.wrap ((N * 256 + t3 : Nat) : Int) = (t3 : Int) := by rw [IntKind.wrap_u8]; omega
  have hy4 : IntKind.u8.wrap XI = (t4 : Int) := by rw [IntKind.wrap_u8]; omega
  obtain ⟨Y, hY⟩ : ∃ y : Int, ((N * 256 + t3 : Nat) : Int) = y := ⟨_, rfl⟩
  rw [hY] at hy1 hy2 hy3
  obtain ⟨vm, rm, km⟩ := (k9 w hv).upto NI (by omega) (by rw [List.length_drop, hL]; omega)
  obtain ⟨T, hT⟩ : ∃ X, (b.drop 9).take N = X := ⟨_, rfl⟩
  have HVM : Bx (Bs w vm T) := ⟨by have h := km w (k9 w hv); rwa [show NI.toNat = N by omega, hT] at h⟩
  have HNm : Bx (T.length ≤ 1000000) := ⟨by rw [← hT, List.length_take, List.length_drop]; omega⟩
  have hsum3 : wrap64 (9 + NI) = 9 + NI := by unfold wrap64; omega
  have HRE : Bx (R = ((t3, t4, S31, T), 9 + N, 0)) := ⟨by
    rw [← HR.out, rdF_yes b most N S S31 t3 t4 T (by rw [hL]; omega) hN (by rw [hM]; exact hbig) (by rw [hL]; omega) hS hS31 ht3 ht4 hT]⟩
  have HNI : Bx (9 + NI = ((9 + N : Nat) : Int)) := ⟨by omega⟩
  have HSZ := Bx.mk HB.out.size
  clear hv hL hw1 hM hN hX hX5 ht3 ht4 h3l h4l hXI hNI hb1 hbig hcut k9 hL9e k5 hS hS32 HRS hS31 hSI hY km hT hN24
  go_enter Try.func24, Try.ntmps24
  go_wp2_with (first
      | (have hmk := mk1; go_at_call 75; refine (HRS'.out).mono ?_; rintro e w2 ⟨rfl, hw2⟩; subst w2)
      | (go_at_call 75; refine (HRB.out w1 HV1.out).mono ?_; rintro e w2 ⟨rfl, hw2⟩; subst w2; have mk1 := HSZ)
      | (go_at_call 76; refine (HNR.out _).mono ?_; rintro e w2 ⟨rfl, hw2⟩; subst w2)
      | (at_builtin; obtain ⟨v8, w8, hr8, o8, g8⟩ := run_bytes_own w1 22 w1.heap.size (.slice none 0 0) vm [] T (OwB.nil _ _) (HVM.out.keep HB.out) (by simp) HNm.out (Nat.le_refl _); obtain ⟨A8, n8, cc8, rfl⟩ := o8.shape; refine Lib.wpList_append_run _ rfl _ _ _ _ rfl _ _ rfl rfl _ _ hr8 ?_; have HO8 := Bx.mk o8; have HB8 := Bx.mk ((Below.refl w1.heap.size w1).grown g8 (Nat.le_refl _) (fun j hj => by simp [Value.ownBlock] at hj)); clear hr8 o8 g8)
      | (with_reducible refine wpList_storeFr g (.int .u8 0) (.int .u8 0) (.int .u32 0) (.slice none 0 0) (.int .u8 (t3 : Int)) (.int .u8 (t4 : Int)) (.int .u32 (S31 : Int)) (.slice A8 n8 cc8) (by simp [Value.oneCell']) rfl rfl (HZ.out.below HB8.out HZ.out.lt) ?_; intro w9 hs9 hg9; have HS9 := Bx.mk hs9; have HB9 := Bx.mk ((HB.out.trans (HB8.out.mono HSZ.out)).grown hg9 (HB.out.trans (HB8.out.mono HSZ.out)).size (fun k hk => by injection hk with hk; have := HG.out; omega)); have HR9 := Bx.mk ((HO8.out.grownO hg9 HZ.out.lt).bs); clear hs9 hg9))
  rw [HRE.out]
  exact bodyPost_ret (ret_Fr Try.results24 _ _ g _ _ _ _ _ _ rfl rfl rfl HS9.out) rfl ⟨_, by rw [HNI.out]; rfl, HR9.out, HB9.out⟩
end Go.Proofs.Ytenoaljghbpaaaa
