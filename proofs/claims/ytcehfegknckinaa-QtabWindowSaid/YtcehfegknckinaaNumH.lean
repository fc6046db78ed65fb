/-
  Contracts of num.ReadPrefix and of the document's ReadPrefix.
-/
import Derived.Test.YtcehfegknckinaaNumD
import Derived.Test.YtcehfegknckinaaNumG
import Derived.Test.YtcehfegknckinaaStep
namespace Go.Proofs.Ytcehfegknckinaa
open Go.RowKit
set_option linter.unusedVariables false

def maxVar : Nat := 4611686018427387903
def rpGo : List UInt8 → Nat → Nat → Int × Int × Int
  | [], _, _ => (0, 0, 20)
  | c :: t, i, v =>
    if (maxVar - v) / 2 ^ (7 * i) < c.toNat % 128 then (0, 0, 21)
    else if c.toNat < 128 then (((v + c.toNat % 128 * 2 ^ (7 * i) : Nat) : Int), ((i + 2 : Nat) : Int), 0)
    else if i + 1 = 10 then (0, 0, 21)
    else rpGo t (i + 1) (v + c.toNat % 128 * 2 ^ (7 * i))
/-- What ReadPrefix answers at k bits. -/
def rp (k : Nat) : List UInt8 → Int × Int × Int
  | [] => (0, 0, 20)
  | c :: t => if c.toNat % 2 ^ k < 2 ^ k - 1 then (((c.toNat % 2 ^ k : Nat) : Int), 1, 0) else rpGo t 0 (c.toNat % 2 ^ k)

theorem rpGo_big (c : UInt8) (t : List UInt8) (i v : Nat) (h : (maxVar - v) / 2 ^ (7 * i) < c.toNat % 128) : rpGo (c :: t) i v = (0, 0, 21) := by simp only [rpGo, if_pos h]
theorem rpGo_last (c : UInt8) (t : List UInt8) (i v : Nat) (h : ¬ (maxVar - v) / 2 ^ (7 * i) < c.toNat % 128) (hc : c.toNat < 128) : rpGo (c :: t) i v = (((v + c.toNat % 128 * 2 ^ (7 * i) : Nat) : Int), ((i + 2 : Nat) : Int), 0) := by simp only [rpGo, if_neg h, if_pos hc]
theorem rpGo_ten (c : UInt8) (t : List UInt8) (i v : Nat) (h : ¬ (maxVar - v) / 2 ^ (7 * i) < c.toNat % 128) (hc : ¬ c.toNat < 128) (hi : i + 1 = 10) : rpGo (c :: t) i v = (0, 0, 21) := by simp only [rpGo, if_neg h, if_neg hc, if_pos hi]
theorem rpGo_on (c : UInt8) (t : List UInt8) (i v : Nat) (h : ¬ (maxVar - v) / 2 ^ (7 * i) < c.toNat % 128) (hc : ¬ c.toNat < 128) (hi : ¬ i + 1 = 10) : rpGo (c :: t) i v = rpGo t (i + 1) (v + c.toNat % 128 * 2 ^ (7 * i)) := by simp only [rpGo, if_neg h, if_neg hc, if_neg hi]

/-- What a byte comes to: p are its seven low bits. -/
def rpAns (c : Nat) (t : List UInt8) (i v p : Nat) : Int × Int × Int :=
  if (maxVar - v) / 2 ^ (7 * i) < p then (0, 0, 21)
  else if c < 128 then (((v + p * 2 ^ (7 * i) : Nat) : Int), ((i + 2 : Nat) : Int), 0)
  else if i + 1 = 10 then (0, 0, 21)
  else rpGo t (i + 1) (v + p * 2 ^ (7 * i))
theorem rpGo_ans (c : UInt8) (t : List UInt8) (i v : Nat) : rpGo (c :: t) i v = rpAns c.toNat t i v (c.toNat % 128) := rfl
theorem rpAns_big (c : Nat) (t : List UInt8) (i v p : Nat) (h : (maxVar - v) / 2 ^ (7 * i) < p) : rpAns c t i v p = (0, 0, 21) := by simp only [rpAns, if_pos h]
theorem rpAns_last (c : Nat) (t : List UInt8) (i v p : Nat) (r : Int) (h : ¬ (maxVar - v) / 2 ^ (7 * i) < p) (hc : c < 128) (hr : ((v + p * 2 ^ (7 * i) : Nat) : Int) = r) : rpAns c t i v p = (r, ((i + 2 : Nat) : Int), 0) := by simp only [rpAns, if_neg h, if_pos hc, hr]
theorem rpAns_ten (c : Nat) (t : List UInt8) (v p : Nat) (h : ¬ (maxVar - v) / 2 ^ (7 * 9) < p) (hc : ¬ c < 128) : rpAns c t 9 v p = (0, 0, 21) := by simp only [rpAns, if_neg h, if_neg hc]; rfl
theorem rpAns_on (c : Nat) (t : List UInt8) (i v p r : Nat) (h : ¬ (maxVar - v) / 2 ^ (7 * i) < p) (hc : ¬ c < 128) (hi : ¬ i + 1 = 10) (hr : v + p * 2 ^ (7 * i) = r) : rpAns c t i v p = rpGo t (i + 1) r := by simp only [rpAns, if_neg h, if_neg hc, if_neg hi, hr]

theorem pfits (p v i : Nat) (hv : v ≤ maxVar) (h : ¬ (maxVar - v) / 2 ^ (7 * i) < p) : v + p * 2 ^ (7 * i) ≤ maxVar := by
  have h1 : p * 2 ^ (7 * i) ≤ maxVar - v := by
    have := Nat.mul_le_mul_right (2 ^ (7 * i)) (Nat.not_lt.1 h)
    exact Nat.le_trans this (Nat.div_mul_le_self _ _)
  omega

theorem and127 (y : UInt8) : bits .and .u8 (y.toNat : Int) 127 = ((y.toNat % 128 : Nat) : Int) := by
  have hy := y.toNat_lt
  have key : ∀ z, z < 256 → z &&& 127 = z % 128 := by decide +kernel
  rw [show (127 : Int) = ((127 : Nat) : Int) from rfl, u8_and_nat _ _ hy (by omega), key _ hy]
theorem shl_fit (p v i : Nat) (S : Int) (h : v + p * 2 ^ (7 * i) ≤ maxVar) (hS : IntKind.u64.wrap ((p : Int) * 2 ^ (7 * i)) = S) : S = ((p * 2 ^ (7 * i) : Nat) : Int) := by
  have e : (p : Int) * 2 ^ (7 * i) = ((p * 2 ^ (7 * i) : Nat) : Int) := by push_cast; rfl
  rw [← hS, IntKind.wrap_u64, e]
  unfold maxVar at h
  omega
theorem shl7 (i : Nat) (h : i ≤ 9) (x : Int) : Op.shift .shl .u64 x .i64 (7 * (i : Int)) = pure (.int .u64 (IntKind.u64.wrap (x * 2 ^ (7 * i)))) := by
  rw [shift_shl_u64 _ _ _ (by omega) (by omega)]
  rw [show (7 * (i : Int)).toNat = 7 * i from by omega]
theorem shr7 (i : Nat) (h : i ≤ 9) (x : Int) : Op.shift .shr .u64 x .i64 (7 * (i : Int)) = pure (.int .u64 (x / 2 ^ (7 * i))) := by
  rw [shift_shr_u64 _ _ _ (by omega) (by omega)]
  rw [show (7 * (i : Int)).toNat = 7 * i from by omega]
theorem div_small (v D Q : Int) (i p : Nat) (h : D = 4611686018427387903 - v) (h0 : 0 ≤ v) (h1 : v ≤ 4611686018427387903) (hQ : D / 2 ^ (7 * i) = Q) (hb : Q < (p : Int)) : ((maxVar - v.toNat) / 2 ^ (7 * i) : Nat) < p := by
  have : (((maxVar - v.toNat) / 2 ^ (7 * i) : Nat) : Int) = Q := by
    rw [← hQ, h]
    push_cast
    congr 1
    unfold maxVar
    omega
  omega
theorem div_fits (v D Q : Int) (i p : Nat) (h : D = 4611686018427387903 - v) (h0 : 0 ≤ v) (h1 : v ≤ 4611686018427387903) (hQ : D / 2 ^ (7 * i) = Q) (hb : ¬ Q < (p : Int)) : ¬ ((maxVar - v.toNat) / 2 ^ (7 * i) : Nat) < p := by
  have : (((maxVar - v.toNat) / 2 ^ (7 * i) : Nat) : Int) = Q := by
    rw [← hQ, h]
    push_cast
    congr 1
    unfold maxVar
    omega
  omega

def RpRel (R : Int × Int × Int) (t : List UInt8) (T : Nat) (vv iv : Value) : Prop :=
  ∃ (i : Nat) (v : Int), iv = .int .i64 i ∧ vv = .int .u64 v ∧ 0 ≤ v ∧ v ≤ 4611686018427387903 ∧ i ≤ T ∧ i ≤ 9 ∧ rpGo (t.drop i) i v.toNat = R

theorem readPrefix_nil (bV : Value) (n : Int) (w : World) (hb : Bs w bV []) :
    Calls Try.prog 22 #[bV, .int .i64 n] w fun e w' => e = Ans3 (rp (bitsOf n) []) ∧ w = w' := by
  obtain ⟨A, L, c, rfl, hL, h1, h2, h3, h4⟩ := hb.open_
  have hL0 : L = 0 := hL.out
  subst hL0
  clear hb hL h3 h4
  go_enter Try.func22, Try.ntmps22
  go_wp2
  go_ret3
  exact ⟨rfl, rfl⟩

set_option maxHeartbeats 1000000 in
theorem readPrefix_cons (bV : Value) (x : UInt8) (t : List UInt8) (n : Int) (w : World) (hb : Bs w bV (x :: t)) (hm : (x :: t).length ≤ 1000000) :
    Calls Try.prog 22 #[bV, .int .i64 n] w fun e w' => e = Ans3 (rp (bitsOf n) (x :: t)) ∧ w = w' := by
  obtain ⟨hk1, hk8, hkn⟩ := bitsOf_range n
  generalize bitsOf n = k at hk1 hk8 hkn ⊢
  have hM := full_range hk1 hk8
  have hfull : full (min (max n 1) 8) = ((2 ^ k - 1 : Nat) : Int) := by rw [hkn, full_nat]
  have hx256 := x.toNat_lt
  have hand := u64_mask x.toNat k _ rfl (by omega) (by omega)
  have hrp : rp k (x :: t) = if x.toNat % 2 ^ k < 2 ^ k - 1 then (((x.toNat % 2 ^ k : Nat) : Int), 1, 0) else rpGo t 0 (x.toNat % 2 ^ k) := rfl
  have hml : x.toNat % 2 ^ k ≤ x.toNat := Nat.mod_le _ _
  generalize rp k (x :: t) = R at hrp ⊢
  generalize x.toNat % 2 ^ k = v0 at hand hrp hml
  generalize 2 ^ k - 1 = M at hM hfull hand hrp
  have Hfull := Lib.hid hfull
  obtain ⟨hM1, hM2⟩ := hM
  obtain ⟨b, o, L, c, rfl, hL, h0, h1, h2, hc⟩ := hb.cell0
  have Hb := Lib.hid hb
  clear hb hfull hkn
  have hne : ((L : Int) == 0) = false := by simp; omega
  unfold maxLen at h2
  by_cases hlt : v0 < M
  · rw [if_pos hlt] at hrp
    have Hrp := Lib.hid hrp
    clear hrp
    go_enter Try.func22, Try.ntmps22
    go_wp2_with (go_at_call 24; refine (fullPrefix_any _ _).mono ?_; rintro e w' ⟨rfl, rfl⟩; rw [Hfull.out])
    go_ret3
    exact ⟨ans3 Hrp.out, rfl⟩
  · rw [if_neg hlt] at hrp
    have Hrp := Lib.hid hrp
    clear hrp
    cases t with
    | nil =>
      have hL1 : L = 1 := hL.out
      subst hL1
      clear hL
      by_cases hc1 : c = 1
      · subst hc1
        go_enter Try.func22, Try.ntmps22
        go_wp2_with (go_at_call 24; refine (fullPrefix_any _ _).mono ?_; rintro e w' ⟨rfl, rfl⟩; rw [Hfull.out])
        go_rounds 1
        go_ret3
        exact ⟨ans3 Hrp.out, rfl⟩
      · go_enter Try.func22, Try.ntmps22
        go_wp2_with (go_at_call 24; refine (fullPrefix_any _ _).mono ?_; rintro e w' ⟨rfl, rfl⟩; rw [Hfull.out])
        go_rounds 1
        go_ret3
        exact ⟨ans3 Hrp.out, rfl⟩
    | cons y s =>
      have hcell : ∀ i (h : i < (y :: s).length), w.cell? ⟨b, o + 1 + i, none⟩ = some (.int .u8 ((y :: s)[i].toNat : Int)) := by
        intro i h
        have := Hb.out.cell (i + 1) (by simp at h ⊢; omega)
        rw [Nat.add_right_comm, Nat.add_assoc]
        simpa using this
      have hlen1 : (y :: s).length = L - 1 := by have := hL.out; simp at this ⊢; omega
      have hL2 : L ≥ 2 := by have := hL.out; simp at this; omega
      have hc1 : ¬ c = 1 := by omega
      go_enter Try.func22, Try.ntmps22
      go_wp2_with (go_at_call 24; refine (fullPrefix_any _ _).mono ?_; rintro e w' ⟨rfl, rfl⟩; rw [Hfull.out])
      generalize y :: s = t at hcell hlen1 Hrp hL Hb hm
      generalize hL' : L - 1 = T at hlen1
      have HT := Lib.hid hL'
      have Hlen1 := Lib.hid hlen1
      have Hcell := Lib.hid hcell
      have hT : T ≤ 1000000 := by simp at hm; omega
      clear hL' hlen1 hcell hc hand
      go_loop [8, 30] (fun vv iv => RpRel R t T vv iv) (fun _ i => T - (intOf i).toNat)
      case atStart => exact ⟨0, v0, rfl, rfl, by omega, by omega, by omega, by omega, by simpa using Hrp.out.symm⟩
      case round =>
        obtain ⟨i, v, rfl, rfl, hv0, hv1, hi, hi9, hR⟩ := hrel
        have HR := Lib.hid hR
        clear hR
        by_cases hiT : i < T
        · have hit : i < t.length := by have := Hlen1.out; omega
          have hd : t.drop i = t[i] :: t.drop (i + 1) := List.drop_eq_getElem_cons hit
          have HR2 := HR.out
          rw [hd] at HR2
          have HR3 := Lib.hid HR2
          have hc := Hcell.out i hit
          have hy := t[i].toNat_lt
          clear hd HR2
          generalize t[i] = y at hc hy HR3
          obtain ⟨p, hpe⟩ : ∃ p, y.toNat % 128 = p := ⟨_, rfl⟩
          have hpand : bits .and .u8 (y.toNat : Int) 127 = (p : Int) := by rw [and127 y, hpe]
          have hp : p < 128 := by omega
          have HR4 : Hid (rpAns y.toNat (t.drop (i + 1)) i v.toNat p = R) := by have h := HR3.out; rw [rpGo_ans, hpe] at h; exact h
          have Hpe := Lib.hid hpe
          clear hpe HR3 hy
          generalize y.toNat = z at hc hpand HR4 Hpe
          have hlt' : M ≤ v0 := by omega
          clear hlt
          obtain ⟨D, hD⟩ : ∃ D, IntKind.u64.wrap (4611686018427387903 - v) = D := ⟨_, rfl⟩
          have HD : Hid (D = 4611686018427387903 - v) := by rw [← hD, IntKind.wrap_u64]; unfold Hid; omega
          obtain ⟨Q, hQ⟩ : ∃ Q, D / 2 ^ (7 * i) = Q := ⟨_, rfl⟩
          have Hv0 : Bx (0 ≤ v) := ⟨hv0⟩
          have Hv1 : Bx (v ≤ 4611686018427387903) := ⟨hv1⟩
          clear hv0 hv1
          have hbig0 : Q < (p : Int) ∨ (p : Int) ≤ Q := by omega
          rcases hbig0 with hbig | hbig
          · go_wp2
            go_ret3
            exact ⟨ans3 (HR4.out.symm.trans (rpAns_big z _ i _ p (div_small v D Q i p HD.out Hv0.out Hv1.out hQ hbig))), rfl⟩
          · have HQ := div_fits v D Q i p HD.out Hv0.out Hv1.out hQ (by omega)
            have hfit := pfits p v.toNat i (by have := Hv0.out; have := Hv1.out; unfold maxVar; omega) HQ
            obtain ⟨S, hS⟩ : ∃ S, IntKind.u64.wrap ((p : Int) * 2 ^ (7 * i)) = S := ⟨_, rfl⟩
            have hSe := shl_fit p v.toNat i S hfit hS
            have hS0 : 0 ≤ S := by omega
            have HVS : Bx (v + S ≤ 4611686018427387903) := ⟨by have := Hv0.out; unfold maxVar at hfit; omega⟩
            have HVSe : Hid (((v.toNat + p * 2 ^ (7 * i) : Nat) : Int) = v + S) := by have := Hv0.out; unfold Hid; omega
            obtain ⟨V, hV⟩ : ∃ V, IntKind.u64.wrap (v + S) = V := ⟨_, rfl⟩
            have HV : Hid (V = v + S) := by have := Hv0.out; have := HVS.out; rw [← hV, IntKind.wrap_u64]; unfold Hid; omega
            have HSe : Hid (((v.toNat + p * 2 ^ (7 * i) : Nat) : Int) = V) := HVSe.out.trans HV.out.symm
            have HQ2 : Bx _ := ⟨HQ⟩
            have HS0 : Bx (0 ≤ S) := ⟨hS0⟩
            have hbb : decide (Q < (p : Int)) = false := by rw [decide_eq_false_iff_not]; omega
            clear hbig
            have HVV : Hid (IntKind.u64.wrap (v + IntKind.u64.wrap ((p : Int) * 2 ^ (7 * i))) = V) := by rw [hS]; exact hV
            have HVr : Hid (V = IntKind.u64.wrap (v + IntKind.u64.wrap ((p : Int) * 2 ^ (7 * i)))) := HVV.out.symm
            clear hSe HQ hfit hS0 hS hV
            have hz0 : z < 128 ∨ 128 ≤ z := by omega
            rcases hz0 with hz | hz
            · have hzb : decide ((z : Int) < 128) = true := by rw [decide_eq_true_iff]; omega
              go_wp2
              go_ret3
              exact ⟨ans3 (HR4.out.symm.trans (rpAns_last z _ i _ p _ HQ2.out hz (HSe.out.trans HVr.out))), rfl⟩
            · have hi0 : i = 9 ∨ i ≤ 8 := by omega
              have hzb : decide ((z : Int) < 128) = false := by rw [decide_eq_false_iff_not]; omega
              rcases hi0 with hi8 | hi8
              · have hten : (((i : Int) + 1) == 10) = true := by rw [beq_iff_eq]; omega
                have Hi8 := Lib.hid hi8
                clear hi8
                go_wp2
                go_ret3
                have h := HR4.out
                have hq := HQ2.out
                rw [Hi8.out] at h hq
                exact ⟨ans3 (h.symm.trans (rpAns_ten z _ _ p hq (by omega))), rfl⟩
              · have hten : (((i : Int) + 1) == 10) = false := by rw [beq_eq_false_iff_ne]; omega
                have HR5 : Hid (rpGo (t.drop (i + 1)) (i + 1) (v.toNat + p * 2 ^ (7 * i)) = R) := by
                  have h := HR4.out; rw [rpAns_on z _ i _ p _ HQ2.out (by omega) (by omega) rfl] at h; exact h
                go_wp2
                go_round
                case rel =>
                  have := HS0.out; have := HV.out; have := HVS.out; have := Hv0.out
                  refine ⟨i + 1, V, by go_num, by rw [HVr.out], by omega, by omega, by omega, by omega, ?_⟩
                  have h := HR5.out
                  rw [show v.toNat + p * 2 ^ (7 * i) = V.toNat from by have := HSe.out; omega] at h
                  exact h
                case measure => simp [intOf]; omega
        · obtain rfl : i = T := by omega
          go_wp2
          go_ret3
          have h := HR.out
          rw [List.drop_of_length_le (by have := Hlen1.out; omega)] at h
          exact ⟨ans3 (by rw [← h]; rfl), rfl⟩

end Go.Proofs.Ytcehfegknckinaa
