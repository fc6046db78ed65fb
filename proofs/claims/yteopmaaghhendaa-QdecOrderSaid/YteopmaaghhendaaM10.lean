/-
  Texts put together: NumI.
-/
import Derived.Test.YteopmaaghhendaaM05

/-
  The contract of the document's ReadPrefix.
-/
namespace Go.Proofs.Yteopmaaghhendaa
open Go.RowKit
set_option linter.unusedVariables false

theorem refReadPrefix_nil (bV : Value) (n : Int) (w : World) (hb : Bs w bV []) :
    Calls Try.prog 46 #[bV, .int .i64 n] w fun e w' => e = Ans3 (rp (bitsOf n) []) ∧ w = w' := by
  obtain ⟨A, L, c, rfl, hL, h1, h2, h3, h4⟩ := hb.open_
  have hL0 : L = 0 := hL.out
  subst hL0
  clear hb hL h3 h4
  go_enter Try.func46, Try.ntmps46
  go_wp2
  go_ret3
  exact ⟨rfl, rfl⟩

theorem and128 (z : Nat) (hz : z < 256) : (bits .and .u8 (z : Int) 128 == 0) = decide (z < 128) := by
  have key : ∀ z, z < 256 → (((z &&& 128 : Nat) : Int) == 0) = decide (z < 128) := by decide +kernel
  rw [show (128 : Int) = ((128 : Nat) : Int) from rfl, u8_and_nat _ _ hz (by omega), key z hz]

def RefRel (R : Int × Int × Int) (t : List UInt8) (T : Nat) (vv iv : Value) : Prop :=
  ∃ (i : Nat) (v : Int), iv = .int .i64 ((i : Int) + 1) ∧ vv = .int .u64 v ∧ 0 ≤ v ∧ v ≤ 4611686018427387903 ∧ i ≤ T ∧ ((i ≤ 9 ∧ rpGo (t.drop i) i v.toNat = R) ∨ (i = 10 ∧ R = (0, 0, 21)))

set_option maxHeartbeats 1000000 in
theorem refReadPrefix_cons (bV : Value) (x : UInt8) (t : List UInt8) (n : Int) (w : World) (hb : Bs w bV (x :: t)) (hm : (x :: t).length ≤ 1000000) :
    Calls Try.prog 46 #[bV, .int .i64 n] w fun e w' => e = Ans3 (rp (bitsOf n) (x :: t)) ∧ w = w' := by
  obtain ⟨hk1, hk8, hkn⟩ := bitsOf_range n
  generalize bitsOf n = k at hk1 hk8 hkn ⊢
  have hM := full_range hk1 hk8
  have hfw := full_wrap (k : Int) (by omega) (by omega)
  rw [full_nat, Int.toNat_natCast] at hfw
  have hx256 := x.toNat_lt
  have hand := u64_mask x.toNat k _ rfl (by omega) (by omega)
  have hrp : rp k (x :: t) = if x.toNat % 2 ^ k < 2 ^ k - 1 then (((x.toNat % 2 ^ k : Nat) : Int), 1, 0) else rpGo t 0 (x.toNat % 2 ^ k) := rfl
  have hml : x.toNat % 2 ^ k ≤ x.toNat := Nat.mod_le _ _
  generalize rp k (x :: t) = R at hrp ⊢
  generalize x.toNat % 2 ^ k = v0 at hand hrp hml
  generalize 2 ^ k - 1 = M at hM hfw hand hrp
  obtain ⟨hM1, hM2⟩ := hM
  obtain ⟨b, o, L, c, rfl, hL, h0, h1, h2, hc⟩ := hb.cell0
  have Hb := Lib.hid hb
  clear hb
  have hne : ((L : Int) == 0) = false := by simp; omega
  unfold maxLen at h2
  by_cases hlt : v0 < M
  · rw [if_pos hlt] at hrp
    have Hrp := Lib.hid hrp
    clear hrp
    go_enter Try.func46, Try.ntmps46
    go_wp2
    go_ret3
    exact ⟨ans3 Hrp.out, rfl⟩
  · rw [if_neg hlt] at hrp
    have Hrp := Lib.hid hrp
    clear hrp
    have hMv : decide (v0 < M) = false := by rw [decide_eq_false_iff_not]; exact hlt
    clear hlt
    have hcell : ∀ i (h : i < t.length), w.cell? ⟨b, o + (i + 1), none⟩ = some (.int .u8 (t[i].toNat : Int)) := by
      intro i h
      have := Hb.out.cell (i + 1) (by simp at h ⊢; omega)
      simpa using this
    have hlen1 : t.length = L - 1 := by have := hL.out; omega
    obtain ⟨T, rfl⟩ : ∃ T, L = T + 1 := ⟨L - 1, by omega⟩
    have Hlen1 : Bx (t.length = T) := ⟨by omega⟩
    have Hcell : Bx (∀ i (h : i < t.length), w.cell? ⟨b, o + (i + 1), none⟩ = some (.int .u8 (t[i].toNat : Int))) := ⟨hcell⟩
    have hT : T ≤ 1000000 := by simp at hm; omega
    have Hm : Bx ((x :: t).length ≤ 1000000) := ⟨hm⟩
    have Hv : Bx (v0 < 256) := ⟨by have : (2:Nat) ^ 8 = 256 := rfl; omega⟩
    have hne2 : ((T : Int) + 1 == 0) = false := by rw [beq_eq_false_iff_ne]; omega
    clear hlen1 hcell hm hL hne
    go_enter Try.func46, Try.ntmps46
    go_wp2
    go_loop [8, 9] (fun vv iv => RefRel R t T vv iv) (fun _ i => T + 1 - (intOf i).toNat)
    case atStart => exact ⟨0, v0, rfl, rfl, by omega, by have := Hv.out; omega, by omega, .inl ⟨by omega, by simpa using Hrp.out.symm⟩⟩
    case round =>
      obtain ⟨i, v, rfl, rfl, hv0, hv1, hi, hR⟩ := hrel
      have Hv0 : Bx (0 ≤ v) := ⟨hv0⟩
      have Hv1 : Bx (v ≤ 4611686018427387903) := ⟨hv1⟩
      clear hv0 hv1 hc hand
      rcases hR with ⟨hi9, hR⟩ | ⟨hi10, hR⟩
      · have h10 : decide (10 < (i : Int) + 1) = false := by rw [decide_eq_false_iff_not]; omega
        by_cases hiT : i < T
        · have hTb : decide ((T : Int) + 1 ≤ (i : Int) + 1) = false := by rw [decide_eq_false_iff_not]; omega
          have hit : i < t.length := by have := Hlen1.out; omega
          have hd : t.drop i = t[i] :: t.drop (i + 1) := List.drop_eq_getElem_cons hit
          rw [hd] at hR
          have hc := Hcell.out i hit
          have hy : t[i].toNat < 256 := t[i].toNat_lt
          clear hd
          generalize t[i] = y at hc hy hR
          obtain ⟨p, hpe⟩ : ∃ p, y.toNat % 128 = p := ⟨_, rfl⟩
          have hpand : bits .and .u8 (y.toNat : Int) 127 = (p : Int) := by rw [and127 y, hpe]
          have h128 := and128 y.toNat hy
          have hp : p < 128 := by omega
          have HR4 : Bx (rpAns y.toNat (t.drop (i + 1)) i v.toNat p = R) := ⟨by rw [rpGo_ans, hpe] at hR; exact hR⟩
          clear hR hpe
          generalize y.toNat = z at hc hpand HR4 h128 hy
          obtain ⟨D, hD⟩ : ∃ D, IntKind.u64.wrap (4611686018427387903 - v) = D := ⟨_, rfl⟩
          have HD : Bx (D = 4611686018427387903 - v) := ⟨by have := Hv0.out; have := Hv1.out; rw [← hD, IntKind.wrap_u64]; omega⟩
          obtain ⟨Q, hQ⟩ : ∃ Q, D / 2 ^ (7 * i) = Q := ⟨_, rfl⟩
          have hi0 : i = 9 ∨ i ≤ 8 := by omega
          rcases hi0 with hi8 | hi8
          · -- the tenth byte behind the first: no bit of it counts
            have h62 : decide (62 ≤ 7 * (i : Int)) = true := by rw [decide_eq_true_iff]; omega
            have h62' : decide (7 * (i : Int) < 62) = false := by rw [decide_eq_false_iff_not]; omega
            have hq0 : Q = 0 := by
              have a := HD.out; have b := Hv0.out; have c := Hv1.out
              rw [← hQ, hi8, show (2 : Int) ^ (7 * 9) = 9223372036854775808 from by decide]
              omega
            rcases Nat.eq_zero_or_pos p with hp0 | hp0
            · subst hp0
              have HQ := div_fits v D Q i 0 HD.out Hv0.out Hv1.out hQ (by omega)
              have HQ2 : Bx _ := ⟨HQ⟩
              have Hi8 : Bx (i = 9) := ⟨hi8⟩
              have Hq0 : Bx (Q = 0) := ⟨hq0⟩
              clear HQ hi8 hq0 hQ hD
              have hz0 : z < 128 ∨ 128 ≤ z := by omega
              rcases hz0 with hz | hz
              · have hzb : decide (z < 128) = true := by rw [decide_eq_true_iff]; exact hz
                rw [hzb] at h128
                have Hz : Bx (z < 128) := ⟨hz⟩
                clear hzb hz hi9
                go_wp2
                go_ret3
                exact ⟨ans3 (HR4.out.symm.trans (rpAns_last z _ i _ 0 v HQ2.out Hz.out (by have := Hv0.out; omega))), rfl⟩
              · have hzb : decide (z < 128) = false := by rw [decide_eq_false_iff_not]; omega
                rw [hzb] at h128
                have Hz : Bx (¬ z < 128) := ⟨by omega⟩
                clear hzb hz hi9
                go_wp2
                go_round
                case rel =>
                  have h := HR4.out
                  have hq := HQ2.out
                  rw [Hi8.out] at h hq
                  rw [rpAns_ten z _ _ 0 hq Hz.out] at h
                  exact ⟨i + 1, v, by go_num, rfl, Hv0.out, Hv1.out, by omega, .inr ⟨by have := Hi8.out; omega, h.symm⟩⟩
                case measure => simp [intOf]; omega
            · have hpb : decide (0 < p) = true := by rw [decide_eq_true_iff]; exact hp0
              have HQb : Bx (Q < (p : Int)) := ⟨by omega⟩
              clear hq0 hi8 hi9
              go_wp2
              go_ret3
              exact ⟨ans3 (HR4.out.symm.trans (rpAns_big z _ i _ p (div_small v D Q i p HD.out Hv0.out Hv1.out hQ HQb.out))), rfl⟩
          · have h62 : decide (62 ≤ 7 * (i : Int)) = false := by rw [decide_eq_false_iff_not]; omega
            have h62' : decide (7 * (i : Int) < 62) = true := by rw [decide_eq_true_iff]; omega
            have hbig0 : Q < (p : Int) ∨ ¬ Q < (p : Int) := by omega
            rcases hbig0 with hbig | hbig
            · have hbb : decide (Q < (p : Int)) = true := by rw [decide_eq_true_iff]; exact hbig
              have HQb : Bx (Q < (p : Int)) := ⟨hbig⟩
              clear hbig hi9
              go_wp2
              go_ret3
              exact ⟨ans3 (HR4.out.symm.trans (rpAns_big z _ i _ p (div_small v D Q i p HD.out Hv0.out Hv1.out hQ HQb.out))), rfl⟩
            · have HQ := div_fits v D Q i p HD.out Hv0.out Hv1.out hQ hbig
              have hfit := pfits p v.toNat i (by have := Hv0.out; have := Hv1.out; unfold maxVar; omega) HQ
              obtain ⟨S, hS⟩ : ∃ S, IntKind.u64.wrap ((p : Int) * 2 ^ (7 * i)) = S := ⟨_, rfl⟩
              have hSe := shl_fit p v.toNat i S hfit hS
              have HS0 : Bx (0 ≤ S) := ⟨by omega⟩
              have HVS : Bx (v + S ≤ 4611686018427387903) := ⟨by have := Hv0.out; unfold maxVar at hfit; omega⟩
              obtain ⟨V, hV⟩ : ∃ V, IntKind.u64.wrap (v + S) = V := ⟨_, rfl⟩
              have HV : Bx (V = v + S) := ⟨by have := Hv0.out; have := HVS.out; have := HS0.out; rw [← hV, IntKind.wrap_u64]; omega⟩
              have HSe : Bx (((v.toNat + p * 2 ^ (7 * i) : Nat) : Int) = V) := ⟨by have := Hv0.out; have := HV.out; omega⟩
              have HVr : Bx (V = IntKind.u64.wrap (v + IntKind.u64.wrap ((p : Int) * 2 ^ (7 * i)))) := ⟨by rw [hS]; exact hV.symm⟩
              have HQ2 : Bx _ := ⟨HQ⟩
              have hbb : decide (Q < (p : Int)) = false := by rw [decide_eq_false_iff_not]; exact hbig
              clear hSe HQ hfit hS hV hbig hi9
              have hz0 : z < 128 ∨ 128 ≤ z := by omega
              rcases hz0 with hz | hz
              · have hzb : decide (z < 128) = true := by rw [decide_eq_true_iff]; exact hz
                rw [hzb] at h128
                have Hz : Bx (z < 128) := ⟨hz⟩
                clear hzb hz
                go_wp2
                go_ret3
                exact ⟨ans3 (HR4.out.symm.trans (rpAns_last z _ i _ p _ HQ2.out Hz.out (HSe.out.trans HVr.out))), rfl⟩
              · have hzb : decide (z < 128) = false := by rw [decide_eq_false_iff_not]; omega
                rw [hzb] at h128
                have Hz : Bx (¬ z < 128) := ⟨by omega⟩
                clear hzb hz
                go_wp2
                go_round
                case rel =>
                  have := HS0.out; have := HV.out; have := HVS.out; have := Hv0.out
                  refine ⟨i + 1, V, by go_num, by rw [HVr.out], by omega, by omega, by omega, .inl ⟨by omega, ?_⟩⟩
                  have h := HR4.out
                  rw [rpAns_on z _ i _ p _ HQ2.out Hz.out (by omega) rfl, show v.toNat + p * 2 ^ (7 * i) = V.toNat from by have := HSe.out; omega] at h
                  exact h
                case measure => simp [intOf]; omega
        · have hTb : decide ((T : Int) + 1 ≤ (i : Int) + 1) = true := by rw [decide_eq_true_iff]; omega
          obtain rfl : i = T := by omega
          have h := hR
          rw [List.drop_of_length_le (by have := Hlen1.out; omega)] at h
          have H : Bx (R = (0, 0, 20)) := ⟨by rw [← h]; rfl⟩
          clear hR h
          go_wp2
          go_ret3
          exact ⟨ans3 H.out, rfl⟩
      · have h10 : decide (10 < (i : Int) + 1) = true := by rw [decide_eq_true_iff]; omega
        have H : Bx (R = (0, 0, 21)) := ⟨hR⟩
        clear hR hi10
        go_wp2
        go_ret3
        exact ⟨ans3 H.out, rfl⟩

theorem readPrefix_any (bV : Value) (l : List UInt8) (n : Int) (w : World) (hb : Bs w bV l) (hm : l.length ≤ 1000000) :
    Calls Try.prog 57 #[bV, .int .i64 n] w fun e w' => e = Ans3 (rp (bitsOf n) l) ∧ w = w' := by
  cases l with
  | nil => exact readPrefix_nil bV n w hb
  | cons x t => exact readPrefix_cons bV x t n w hb hm
theorem refReadPrefix_any (bV : Value) (l : List UInt8) (n : Int) (w : World) (hb : Bs w bV l) (hm : l.length ≤ 1000000) :
    Calls Try.prog 46 #[bV, .int .i64 n] w fun e w' => e = Ans3 (rp (bitsOf n) l) ∧ w = w' := by
  cases l with
  | nil => exact refReadPrefix_nil bV n w hb
  | cons x t => exact refReadPrefix_cons bV x t n w hb hm

end Go.Proofs.Yteopmaaghhendaa
