/-
  bifoldlaw1.NumVars answers true, whatever its arguments: the walk.
-/
import Derived.Test.YtfhlikfjoldnfaaNumK
import Derived.Test.YtfhlikfjoldnfaaNumMath2
import Derived.Test.YtfhlikfjoldnfaaSlice
import Derived.Test.YtfhlikfjoldnfaaOpen
namespace Go.Proofs.Ytfhlikfjoldnfaa
open Go.RowKit
set_option linter.unusedVariables false

/-- What stands from the k-th number on. -/
theorem vars_drop (bl ml : List UInt8) (l : List UInt64) (k : Nat) (h : k < l.length) :
    (bl ++ varsB l ++ ml).drop (bl.length + (varsB (l.take k)).length) = varB (l[k].toNat : Int) ++ (varsB (l.drop (k + 1)) ++ ml) := by
  have e : varsB l = varsB (l.take k) ++ (varB (l[k].toNat : Int) ++ varsB (l.drop (k + 1))) := by
    have h1 : l = l.take k ++ (l[k] :: l.drop (k + 1)) := by rw [← List.drop_eq_getElem_cons h, List.take_append_drop]
    have h2 : varsB l = varsB (l.take k ++ (l[k] :: l.drop (k + 1))) := congrArg varsB h1
    rw [h2]
    unfold varsB
    rw [List.flatMap_append, List.flatMap_cons]
  rw [e, ← List.append_assoc bl, List.append_assoc, List.append_assoc]
  rw [show bl.length + (varsB (l.take k)).length = (bl ++ varsB (l.take k)).length from by simp, ← List.append_assoc bl, List.drop_left]
  simp

def VarsRel (bl : List UInt8) (l : List UInt64) (at_ iv : Value) : Prop :=
  ∃ (k T : Nat), k ≤ l.length ∧ iv = .int .i64 k ∧ at_ = .int .i64 T ∧ T = bl.length + (varsB (l.take k)).length

set_option maxRecDepth 100000 in
set_option maxHeartbeats 2000000 in
theorem numVars_walk (a0 : Option Addr) (len0 cap0 : Nat) (z0 : List Int) (a1 : Option Addr) (len1 cap1 : Nat) (z1 : List Int) (a2 : Option Addr) (len2 cap2 : Nat) (z2 : List Int) (w : World) (w0 : IsRow .u8 w a0 len0 cap0 z0) (w1 : IsRow .u64 w a1 len1 cap1 z1) (w2 : IsRow .u8 w a2 len2 cap2 z2) :
    Calls Try.prog 3 #[.slice a0 len0 cap0, .slice a1 len1 cap1, .slice a2 len2 cap2] w fun e w' => e = .returned (.bool true) ∧ Below w.heap.size w w' := by
  obtain ⟨bl, hb, hlen⟩ := w0.bytes
  obtain ⟨l, hlb, hllen⟩ := w1.words
  obtain ⟨ml, hmb, hmlen⟩ := w2.bytes
  have Hb : Bx (Bs w (.slice a0 len0 cap0) bl) := ⟨hb⟩
  have Hl : Bx (Rd w (.slice a1 len1 cap1) (l.map uv)) := ⟨hlb⟩
  have Hmore : Bx (Bs w (.slice a2 len2 cap2) ml) := ⟨hmb⟩
  have hNmax : len1 ≤ maxLen := by have := Rd.len hlb; simpa [hllen] using this
  clear w0 w1 w2 hlen hmlen hlb
  generalize Value.slice a0 len0 cap0 = bV at hb Hb ⊢
  generalize Value.slice a2 len2 cap2 = mV at hmb Hmore ⊢
  have hlenb := fun ty W => hb.run_len ty W
  have hlenm := fun ty W => hmb.run_len ty W
  obtain ⟨bT, htight, hT⟩ := hb.tight
  have HT : Bx (∀ (W : World) (B : Nat), Bs W bV bl → ApB W B bT bl) := ⟨hT⟩
  generalize hL : bl.length = L at hlenb htight
  generalize hM : ml.length = M at hlenm
  have HL : Bx (bl.length = L) := ⟨hL⟩
  have HM : Bx (ml.length = M) := ⟨hM⟩
  have HN : Bx (l.length = len1) := ⟨hllen⟩
  have hLmax : L ≤ maxLen := by have := Rd.len hb; simpa [hL] using this
  have hMmax : M ≤ maxLen := by have := Rd.len hmb; simpa [hM] using this
  unfold maxLen at hLmax hMmax hNmax
  clear hb hmb hT hL hM hllen
  by_cases hbig : 100 < L
  · have hbb : decide (100 < (L : Int)) = true := by rw [decide_eq_true_iff]; omega
    clear hbig
    go_enter Try.func3, Try.ntmps3
    go_wp2_with (go_at_call 11; refine (known_any _).mono ?_; rintro e w1 ⟨rfl, b1⟩)
    go_ret
    exact ⟨rfl, b1⟩
  have hbb : decide (100 < (L : Int)) = false := by rw [decide_eq_false_iff_not]; omega
  by_cases hbig3 : 20 < len1
  · have hbb3 : decide (20 < (len1 : Int)) = true := by rw [decide_eq_true_iff]; omega
    clear hbig hbig3
    go_enter Try.func3, Try.ntmps3
    go_wp2_with (go_at_call 11; refine (known_any _).mono ?_; rintro e w1 ⟨rfl, b1⟩)
    go_ret
    exact ⟨rfl, b1⟩
  have hbb3 : decide (20 < (len1 : Int)) = false := by rw [decide_eq_false_iff_not]; omega
  by_cases hbig2 : 100 < M
  · have hbb2 : decide (100 < (M : Int)) = true := by rw [decide_eq_true_iff]; omega
    clear hbig hbig3 hbig2
    go_enter Try.func3, Try.ntmps3
    go_wp2_with (go_at_call 11; refine (known_any _).mono ?_; rintro e w1 ⟨rfl, b1⟩)
    go_ret
    exact ⟨rfl, b1⟩
  have hbb2 : decide (100 < (M : Int)) = false := by rw [decide_eq_false_iff_not]; omega
  have HBl : Bx (bl.length ≤ 100) := ⟨by have := HL.out; omega⟩
  have HMl : Bx (ml.length ≤ 100) := ⟨by have := HM.out; omega⟩
  have HNl : Bx (l.length ≤ 20) := ⟨by have := HN.out; omega⟩
  have HCl : Bx ((varsB l).length ≤ 160) := ⟨by have := varsB_length l; have := HNl.out; omega⟩
  clear hbig hbig2 hbig3
  go_enter Try.func3, Try.ntmps3
  go_wp2_with fail
  refine (known_any _).mono ?_
  rintro e w1 ⟨rfl, b1⟩
  have hcb := conv_str (Rd.keep Hb.out b1 : Bs w1 bV bl)
  go_wp2_with fail
  refine (var_any bV _ bl l w1 (Rd.keep Hb.out b1) (Rd.keep Hl.out b1) (by have := HBl.out; omega) (by have := HNl.out; omega)).mono ?_
  rintro e w2 (⟨hall, v2, rfl, h2, b2⟩ | ⟨hno, rfl, b2⟩)
  · have b12 := b1.trans (b2.mono b1.size)
    clear hcb
    go_wp2_with fail
    refine (refVars_any w2.heap.size bT _ bl l w2 (HT.out _ _ (Rd.keep Hb.out b12)) (Nat.le_refl _) (fun w' hw => Rd.keep (Rd.keep Hl.out b12) hw) (by have := HBl.out; omega) (by have := HNl.out; omega)).mono ?_
    rintro e w3 (⟨_, v3, rfl, h3, b3⟩ | ⟨hno, _⟩)
    rotate_left
    · exact absurd hall hno
    have b13 := b12.trans (b3.mono b12.size)
    have h23 : Bs w3 v2 (bl ++ varsB l) := Rd.keep h2.rd b3
    have hc2 := conv_str h23
    have hc3 := conv_str (show Bs w3 v3 (bl ++ varsB l) from h3.rd)
    have hcb := conv_str (Rd.keep Hb.out b13 : Bs w3 bV bl)
    have hlenc := fun ty W => h23.run_len ty W
    have hClen : (bl ++ varsB l).length = L + (varsB l).length := by simp [HL.out]
    rw [hClen] at hlenc
    have H2 : Bx (Bs w3 v2 (bl ++ varsB l)) := ⟨h23⟩
    have HB3 : Bx (Below w.heap.size w w3) := ⟨b13⟩
    have Hall : Bx (∀ x ∈ l, small x) := ⟨hall⟩
    obtain ⟨i0, hi, hz, hz1, hz2⟩ := info_parts infoU8
    have Hi := Lib.hid hi
    have Hz := Lib.hid hz
    have Hz1 := Lib.hid hz1
    have Hz2 := Lib.hid hz2
    clear h2 h3 h23 b1 b2 b3 b12 b13 hi hz hz1 hz2 hall hClen
    go_wp2_with (first
      | (at_builtin
         refine wpList_append_ap _ rfl _ _ 22 rfl w3.heap.size 5 i0 (.int .u8 0) 1 Try.underlying22 Hi.out Hz.out Hz1.out Hz2.out rfl _ _ ([]) _ rfl rfl (Ap.nil _ _ _) (H2.out) one_bv (by have := HBl.out; have := HMl.out; have := HCl.out; simp; omega) (by have := HBl.out; have := HMl.out; have := HCl.out; simp [maxLen]; omega) (by omega) ?_
         intro v5 w5 h5 b5
         have H5 : Bx (Ap w5 w3.heap.size 5 v5 ([] ++ (bl ++ varsB l).map bv)) := ⟨h5⟩
         clear h5)
      | (at_builtin
         refine wpList_append_ap _ rfl _ _ 22 rfl w3.heap.size 5 i0 (.int .u8 0) 1 Try.underlying22 Hi.out Hz.out Hz1.out Hz2.out rfl _ _ ([] ++ (bl ++ varsB l).map bv) _ rfl rfl (H5.out) ((Rd.keep (Rd.keep Hmore.out HB3.out) b5 : Bs _ _ ml)) one_bv (by have := HBl.out; have := HMl.out; have := HCl.out; simp; omega) (by have := HBl.out; have := HMl.out; have := HCl.out; simp [maxLen]; omega) (by have := b5.size; omega) ?_
         intro v6 w6 h6 b6
         have H6 : Bx (Bs w6 v6 (bl ++ varsB l ++ ml)) := ⟨by rw [List.nil_append, ← List.map_append] at h6; exact h6.rd⟩
         have HB : Bx (Below w.heap.size w w6) := ⟨(HB3.out.trans (b5.mono HB3.out.size)).trans (b6.mono HB3.out.size)⟩
         clear h6 b6))
    have hlst : Bx ((bl ++ varsB l).length = bl.length + (varsB l).length) := ⟨by simp⟩
    have hTL : Bx (L = bl.length + (varsB (l.take 0)).length) := ⟨by simp [varsB, HL.out]⟩
    clear hcb hc2 hc3
    go_loop [12, 14] (fun at_ iv => VarsRel bl l at_ iv) (fun _ iv => len1 - (intOf iv).toNat)
    case atStart => exact ⟨0, L, by omega, rfl, rfl, hTL.out⟩
    case round =>
      obtain ⟨k, T, hk, rfl, rfl, hT⟩ := hrel
      have HTT : Bx (T = bl.length + (varsB (l.take k)).length) := ⟨hT⟩
      have Hk : Bx (k ≤ l.length) := ⟨hk⟩
      have hkn : k ≤ len1 := by have := HN.out; omega
      clear hT hk
      have hTle : T ≤ 1000 := by have := HTT.out; have := HBl.out; have := HNl.out; have h := varsB_length (l.take k); rw [List.length_take] at h; omega
      by_cases hlt : k < len1
      · have hkl : k < l.length := by have := HN.out; omega
        have hd := vars_drop bl ml l k hkl
        rw [← HTT.out] at hd
        have hsx : l[k].toNat < 4611686018427387904 := Hall.out _ (List.getElem_mem hkl)
        have hrv := rv_varB l[k].toNat hsx (varsB (l.drop (k + 1)) ++ ml)
        rw [← hd] at hrv
        obtain ⟨hrv1, hrv2⟩ := hrv
        have HRV : Bx (rv ((bl ++ varsB l ++ ml).drop T) = ((l[k].toNat : Int), clsLen (l[k].toNat : Int), 0)) := ⟨hrv1⟩
        have HRL : Bx (((varB (l[k].toNat : Int)).length : Int) = clsLen (l[k].toNat : Int)) := ⟨hrv2⟩
        have Hsn := Bx.mk (varsB_snoc l k hkl)
        have Hsx : Bx (l[k].toNat < 4611686018427387904) := ⟨hsx⟩
        have hTlen : (T : Int) ≤ (bl ++ varsB l ++ ml).length := by
          have h1 := congrArg List.length hd
          have h2 := varB_length (l[k].toNat : Int)
          have h3 : 1 ≤ (varB (l[k].toNat : Int)).length := by
            obtain ⟨q, n, hq, hn, hx, he, hl⟩ := clsOf _ hsx
            rw [he, bes_len, hn]; exact Nat.one_le_two_pow
          rw [List.length_drop] at h1
          have h4 : 1 ≤ (varB (l[k].toNat : Int) ++ (varsB (l.drop (k + 1)) ++ ml)).length := by rw [List.length_append]; omega
          omega
        obtain ⟨s1, hs1, hr1⟩ := H6.out.from_ (T : Int) (by omega) hTlen
        rw [Int.toNat_natCast] at hr1
        have HS1 : Bx (Bs w6 s1 ((bl ++ varsB l ++ ml).drop T)) := ⟨hr1 _ H6.out⟩
        obtain ⟨b, o, rfl⟩ := Rd.place Hl.out (by simp; omega)
        have hc := Us.cell (Rd.keep Hl.out HB.out) k hkl
        have hcl := clsLen_le (l[k].toNat : Int)
        obtain ⟨hcl0, hcl1⟩ := hcl
        generalize hcle : clsLen (l[k].toNat : Int) = C at HRV HRL hcl0 hcl1
        have Hcle : Bx (clsLen (l[k].toNat : Int) = C) := ⟨hcle⟩
        clear hd hrv1 hrv2 hsx hTlen hr1 hcle
        go_wp2_with (first
          | (go_at_call 14; refine (readVar_any _ _ _ HS1.out (by have := HBl.out; have := HMl.out; have := HCl.out; simp; omega)).mono ?_; rintro e w' ⟨rfl, rfl⟩; rw [HRV.out]; unfold Ans3)
          | (go_at_call 15; refine (varLen_any _ (by omega) (by have := Hsx.out; omega) _).mono ?_; rintro e w' ⟨rfl, rfl⟩; rw [Hcle.out]))
        go_round
        case rel =>
          have h1 := HRL.out
          refine ⟨k + 1, T + (varB (l[k].toNat : Int)).length, by omega, by go_num, by go_num, ?_⟩
          have h2 := Hsn.out
          rw [h2, List.length_append]
          have := HTT.out
          omega
        case measure => simp [intOf]; omega
      · have hkl : k = l.length := by have := HN.out; have := Hk.out; omega
        have hTe : T = L + (varsB l).length := by have h := HTT.out; rw [hkl, List.take_length] at h; have := HL.out; omega
        have hfin : ((T : Int) == (L : Int) + ((varsB l).length : Int)) = true := by rw [beq_iff_eq]; omega
        clear hTe hkl
        go_wp2
        go_ret
        exact ⟨rfl, HB.out⟩
  · have b12 := b1.trans (b2.mono b1.size)
    clear hcb
    go_wp2_with fail
    refine (refVars_any w2.heap.size bT _ bl l w2 (HT.out _ _ (Rd.keep Hb.out b12)) (Nat.le_refl _) (fun w' hw => Rd.keep (Rd.keep Hl.out b12) hw) (by have := HBl.out; omega) (by have := HNl.out; omega)).mono ?_
    rintro e w3 (⟨hall, _⟩ | ⟨_, rfl, b3⟩)
    · exact absurd hall hno
    have b13 := b12.trans (b3.mono b12.size)
    have hcn := conv_str (show Bs w3 (.slice none 0 0) [] from Rd.nil w3)
    have hcb := conv_str (Rd.keep Hb.out b13 : Bs w3 bV bl)
    have HB3 : Bx (Below w.heap.size w w3) := ⟨b13⟩
    clear b1 b2 b3 b12 b13 hno
    go_wp2
    go_ret
    exact ⟨rfl, HB3.out⟩

end Go.Proofs.Ytfhlikfjoldnfaa
