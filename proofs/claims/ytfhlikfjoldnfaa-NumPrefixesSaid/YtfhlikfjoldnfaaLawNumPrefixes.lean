/-
  bifoldlaw1.NumPrefixes answers true, whatever its arguments: the walk.
-/
import Derived.Test.YtfhlikfjoldnfaaNumK
import Derived.Test.YtfhlikfjoldnfaaNumMath2
import Derived.Test.YtfhlikfjoldnfaaSlice
import Derived.Test.YtfhlikfjoldnfaaOpen
import Derived.Deep.RegionWith
namespace Go.Proofs.Ytfhlikfjoldnfaa
open Go.RowKit
set_option linter.unusedVariables false

theorem pfx_wf_u64 {a : Int} (h : (Lit.int .u64 a).wf = true) : 0 ≤ a ∧ a < 18446744073709551616 := by
  simp [Lit.wf, IntKind.min, IntKind.max, IntKind.signed, IntKind.bits] at h
  omega
theorem pfx_wf_u8 {a : Int} (h : (Lit.int .u8 a).wf = true) : 0 ≤ a ∧ a < 256 := by
  simp [Lit.wf, IntKind.min, IntKind.max, IntKind.signed, IntKind.bits] at h
  omega
theorem pre_length (f : UInt8) (k v : Nat) : (pre f k v).length ≤ 11 := by
  unfold pre
  split
  · simp
  · have := cont_length 10 (v - (2 ^ k - 1))
    simp; omega

set_option maxRecDepth 100000 in
set_option maxHeartbeats 2000000 in
theorem numPrefixes_walk (a0 : Option Addr) (len0 cap0 : Nat) (z0 : List Int) (a1 : Int) (a2 : Int) (a3 : Int) (a4 : Option Addr) (len4 cap4 : Nat) (z4 : List Int) (w : World) (w0 : IsRow .u8 w a0 len0 cap0 z0) (w1 : (Lit.int .u8 a1).wf = true) (w2 : (Lit.int .i64 a2).wf = true) (w3 : (Lit.int .u64 a3).wf = true) (w4 : IsRow .u8 w a4 len4 cap4 z4) :
    Calls Try.prog 5 #[.slice a0 len0 cap0, .int .u8 a1, .int .i64 a2, .int .u64 a3, .slice a4 len4 cap4] w fun e w' => e = .returned (.bool true) ∧ Below w.heap.size w w' := by
  obtain ⟨l, hb, hlen⟩ := w0.bytes
  obtain ⟨ml, hmb, hmlen⟩ := w4.bytes
  obtain ⟨g0, g1⟩ := pfx_wf_u8 w1
  obtain ⟨g2, g3⟩ := pfx_wf_u64 w3
  obtain ⟨f, hf⟩ : ∃ f : UInt8, a1 = (f.toNat : Int) := ⟨UInt8.ofNat a1.toNat, by
    have h8 : a1.toNat < 2 ^ 8 := by have : (2:Nat) ^ 8 = 256 := rfl; omega
    rw [UInt8.toNat_ofNat', Nat.mod_eq_of_lt h8]; omega⟩
  subst hf
  obtain ⟨x, rfl⟩ := Int.eq_ofNat_of_zero_le g2
  have Hx : Bx (x < 18446744073709551616) := ⟨by omega⟩
  have Hb : Bx (Bs w (.slice a0 len0 cap0) l) := ⟨hb⟩
  have Hmore : Bx (Bs w (.slice a4 len4 cap4) ml) := ⟨hmb⟩
  clear w0 w1 w2 w3 w4 hlen hmlen g0 g1 g2 g3
  generalize Value.slice a0 len0 cap0 = bV at hb Hb ⊢
  generalize Value.slice a4 len4 cap4 = mV at hmb Hmore ⊢
  have hlenb := fun ty W => hb.run_len ty W
  have hlenm := fun ty W => hmb.run_len ty W
  obtain ⟨bT, htight, hT⟩ := hb.tight
  have HT : Bx (∀ (W : World) (B : Nat), Bs W bV l → ApB W B bT l) := ⟨hT⟩
  generalize hL : l.length = L at hlenb htight
  generalize hM : ml.length = M at hlenm
  have HL : Bx (l.length = L) := ⟨hL⟩
  have HM : Bx (ml.length = M) := ⟨hM⟩
  have hLmax : L ≤ maxLen := by have := Rd.len hb; simpa [hL] using this
  have hMmax : M ≤ maxLen := by have := Rd.len hmb; simpa [hM] using this
  unfold maxLen at hLmax hMmax
  clear hb hmb hT hL hM
  by_cases hbig : 100 < L
  · have hbb : decide (100 < (L : Int)) = true := by rw [decide_eq_true_iff]; omega
    clear hbig
    go_enter Try.func5, Try.ntmps5
    go_wp2_with (go_at_call 11; refine (known_any _).mono ?_; rintro e w1 ⟨rfl, b1⟩)
    go_ret
    exact ⟨rfl, b1⟩
  · have hbb : decide (100 < (L : Int)) = false := by rw [decide_eq_false_iff_not]; omega
    by_cases hbig2 : 100 < M
    · have hbb2 : decide (100 < (M : Int)) = true := by rw [decide_eq_true_iff]; omega
      clear hbig hbig2
      go_enter Try.func5, Try.ntmps5
      go_wp2_with (go_at_call 11; refine (known_any _).mono ?_; rintro e w1 ⟨rfl, b1⟩)
      go_ret
      exact ⟨rfl, b1⟩
    · have hbb2 : decide (100 < (M : Int)) = false := by rw [decide_eq_false_iff_not]; omega
      have HMl : Bx (ml.length ≤ 100) := ⟨by have := HM.out; omega⟩
      have HLl : Bx (l.length ≤ 100) := ⟨by have := HL.out; omega⟩
      obtain ⟨hk1, hk8, -⟩ := bitsOf_range a2
      have hrp := rp_pre f (bitsOf a2) x hk1 hk8 Hx.out ml
      have Hpl : Bx ((pre f (bitsOf a2) x).length ≤ 11) := ⟨pre_length _ _ _⟩
      generalize hPL : pre f (bitsOf a2) x = PL at hrp Hpl
      have HPL : Bx (pre f (bitsOf a2) x = PL) := ⟨hPL⟩
      have Hrp0 : Bx (rp (bitsOf a2) (PL ++ ml) = if x ≤ maxVar then ((x : Int), (PL.length : Int), 0) else (0, 0, 21)) := ⟨hrp⟩
      clear hbig hbig2 hPL hrp hk1 hk8
      go_enter Try.func5, Try.ntmps5
      go_wp2_with (go_at_call 11; refine (known_any _).mono ?_; rintro e w1 ⟨rfl, b1⟩)
      refine (prefix_any bV l f a2 x w1 (Rd.keep Hb.out b1) (by have := HLl.out; omega) Hx.out).mono ?_
      rintro e w2 ⟨v2, rfl, h2, b2⟩
      rw [HPL.out] at h2
      have b12 := b1.trans (b2.mono b1.size)
      have hc2d := conv_str (show Bs w2.drew v2 (l ++ PL) from h2.rd.drew)
      have hT2 : ApB w2.drew w2.heap.size bT l := HT.out _ _ ((Rd.keep Hb.out b12).drew)
      go_wp2_with fail
      go_region_with (go_at_call 22; refine (refPrefix_any w2.heap.size bT l f a2 x w2.drew hT2 (Nat.le_refl _) (by have := HLl.out; omega) Hx.out).mono ?_; rintro e w3 ⟨v3, rfl, h3, b3⟩; rw [HPL.out] at h3; have hc3 := conv_str (show Bs w3 v3 (l ++ PL) from h3.rd); have hc23 := conv_str (show Bs w3 v2 (l ++ PL) from Rd.keep h2.rd.drew b3))
      all_goals
        clear hc2d hT2 hc3 hc23
        have h23 : Bs w3 v2 (l ++ PL) := Rd.keep h2.rd.drew b3
        obtain ⟨v4, hfrom, hv4⟩ := h23.from_ (l.length : Int) (by omega) (by simp; omega)
        have h4 := hv4 w3 h23
        have hlenc := fun ty W => h23.run_len ty W
        rw [HL.out] at hfrom
        rw [show (l ++ PL).length = L + PL.length from by simp [HL.out]] at hlenc
        rw [Int.toNat_natCast, List.drop_left] at h4
        have H4 : Bx (Bs w3 v4 PL) := ⟨h4⟩
        have HB3 : Bx (Below w.heap.size w w3) := ⟨b12.trans ((Below.refl _ _).drew.trans (b3.mono b12.size))⟩
        obtain ⟨i0, hi, hz, hz1, hz2⟩ := info_parts infoU8
        have Hi := Lib.hid hi
        have Hz := Lib.hid hz
        have Hz1 := Lib.hid hz1
        have Hz2 := Lib.hid hz2
        clear h2 h3 h4 h23 hv4 b1 b2 b3 b12 hi hz hz1 hz2
        rcases Nat.lt_or_ge maxVar x with hmv | hmv
        · have hvb : decide (4611686018427387903 < (x : Int)) = true := by rw [decide_eq_true_iff]; unfold maxVar at hmv; omega
          have Hrp : Bx (rp (bitsOf a2) (PL ++ ml) = (0, 0, 21)) := ⟨by rw [Hrp0.out, if_neg (by omega)]⟩
          clear hmv
          go_wp2_with (first
            | (at_builtin
               refine wpList_append_ap _ rfl _ _ 22 rfl w3.heap.size 5 i0 (.int .u8 0) 1 Try.underlying22 Hi.out Hz.out Hz1.out Hz2.out rfl _ _ ([]) _ rfl rfl (Ap.nil _ _ _) (H4.out) one_bv (by have := HL.out; have := HMl.out; have := Hpl.out; simp; omega) (by have := HL.out; have := HMl.out; have := Hpl.out; simp [maxLen]; omega) (by omega) ?_
               intro v5 w5 h5 b5
               have H5 : Bx (Ap w5 w3.heap.size 5 v5 ([] ++ PL.map bv)) := ⟨h5⟩
               clear h5)
            | (at_builtin
               refine wpList_append_ap _ rfl _ _ 22 rfl w3.heap.size 5 i0 (.int .u8 0) 1 Try.underlying22 Hi.out Hz.out Hz1.out Hz2.out rfl _ _ ([] ++ PL.map bv) _ rfl rfl (H5.out) ((Rd.keep (Rd.keep Hmore.out HB3.out) b5 : Bs _ _ ml)) one_bv (by have := HL.out; have := HMl.out; have := Hpl.out; simp; omega) (by have := HL.out; have := HMl.out; have := Hpl.out; simp [maxLen]; omega) (by have := b5.size; omega) ?_
               intro v6 w6 h6 b6
               have H6 : Bx (Bs w6 v6 (PL ++ ml)) := ⟨by rw [List.nil_append, ← List.map_append] at h6; exact h6.rd⟩
               have HB : Bx (Below w.heap.size w w6) := ⟨(HB3.out.trans (b5.mono HB3.out.size)).trans (b6.mono HB3.out.size)⟩
               clear h6 b6)
            | (go_at_call 17; refine (readPrefix_any _ _ _ _ H6.out (by have := HMl.out; have := Hpl.out; simp; omega)).mono ?_; rintro e w' ⟨rfl, rfl⟩; rw [Hrp.out]; unfold Ans3))
          go_ret
          exact ⟨rfl, HB.out⟩
        · have hvb : decide (4611686018427387903 < (x : Int)) = false := by rw [decide_eq_false_iff_not]; unfold maxVar at hmv; omega
          have Hrp : Bx (rp (bitsOf a2) (PL ++ ml) = ((x : Int), (PL.length : Int), 0)) := ⟨by rw [Hrp0.out, if_pos hmv]⟩
          have hsub : (((PL.length : Nat) : Int) == wrap64 ((L : Int) + (PL.length : Int) - (L : Int))) = true := by rw [beq_iff_eq]; have := Hpl.out; unfold wrap64; omega
          clear hmv
          go_wp2_with (first
            | (at_builtin
               refine wpList_append_ap _ rfl _ _ 22 rfl w3.heap.size 5 i0 (.int .u8 0) 1 Try.underlying22 Hi.out Hz.out Hz1.out Hz2.out rfl _ _ ([]) _ rfl rfl (Ap.nil _ _ _) (H4.out) one_bv (by have := HL.out; have := HMl.out; have := Hpl.out; simp; omega) (by have := HL.out; have := HMl.out; have := Hpl.out; simp [maxLen]; omega) (by omega) ?_
               intro v5 w5 h5 b5
               have H5 : Bx (Ap w5 w3.heap.size 5 v5 ([] ++ PL.map bv)) := ⟨h5⟩
               clear h5)
            | (at_builtin
               refine wpList_append_ap _ rfl _ _ 22 rfl w3.heap.size 5 i0 (.int .u8 0) 1 Try.underlying22 Hi.out Hz.out Hz1.out Hz2.out rfl _ _ ([] ++ PL.map bv) _ rfl rfl (H5.out) ((Rd.keep (Rd.keep Hmore.out HB3.out) b5 : Bs _ _ ml)) one_bv (by have := HL.out; have := HMl.out; have := Hpl.out; simp; omega) (by have := HL.out; have := HMl.out; have := Hpl.out; simp [maxLen]; omega) (by have := b5.size; omega) ?_
               intro v6 w6 h6 b6
               have H6 : Bx (Bs w6 v6 (PL ++ ml)) := ⟨by rw [List.nil_append, ← List.map_append] at h6; exact h6.rd⟩
               have HB : Bx (Below w.heap.size w w6) := ⟨(HB3.out.trans (b5.mono HB3.out.size)).trans (b6.mono HB3.out.size)⟩
               clear h6 b6)
            | (go_at_call 17; refine (readPrefix_any _ _ _ _ H6.out (by have := HMl.out; have := Hpl.out; simp; omega)).mono ?_; rintro e w' ⟨rfl, rfl⟩; rw [Hrp.out]; unfold Ans3))
          go_ret
          exact ⟨rfl, HB.out⟩

end Go.Proofs.Ytfhlikfjoldnfaa
