/-
  Texts put together: NumG, NumH, NumI, OwP, NumMath, NumMath2, HfA, OwQ, OwF.
-/
import Derived.Test.YtebakjdeighdnaaGreatM06
import Derived.Test.YtebakjdeighdnaaGreatM01
import Derived.Maps.AppendAt

/-
  Contracts of num.Prefix and of the document's Prefix.
-/
namespace Go.Proofs.YtebakjdeighdnaaGreat
open Go.RowKit
set_option linter.unusedVariables false

/-- The bits of f above its lowest k. -/
def hiOf (f : UInt8) (k : Nat) : Nat := f.toNat / 2 ^ k * 2 ^ k
def preFirst (f : UInt8) (k v : Nat) : UInt8 := UInt8.ofNat (hiOf f k + min v (2 ^ k - 1))
def cont : Nat → Nat → List UInt8
  | 0, _ => []
  | n + 1, v => if v < 128 then [UInt8.ofNat v] else UInt8.ofNat (v % 128 + 128) :: cont n (v / 128)
/-- A number in a prefix of k bits. -/
def pre (f : UInt8) (k v : Nat) : List UInt8 := if v < 2 ^ k - 1 then [preFirst f k v] else preFirst f k v :: cont 10 (v - (2 ^ k - 1))
/-- The prefix's bits that count. -/
def bitsOf (n : Int) : Nat := (min (max n 1) 8).toNat

theorem bitsOf_range (n : Int) : 1 ≤ bitsOf n ∧ bitsOf n ≤ 8 ∧ min (max n 1) 8 = (bitsOf n : Int) := by unfold bitsOf; omega

theorem k8 {k : Nat} (h1 : 1 ≤ k) (h8 : k ≤ 8) : k = 1 ∨ k = 2 ∨ k = 3 ∨ k = 4 ∨ k = 5 ∨ k = 6 ∨ k = 7 ∨ k = 8 := by omega

theorem full_nat (k : Nat) : full (k : Int) = ((2 ^ k - 1 : Nat) : Int) := by
  unfold full
  have := Nat.two_pow_pos k
  rw [Int.toNat_natCast, Int.ofNat_sub this]
  simp
theorem full_range {k : Nat} (h1 : 1 ≤ k) (h8 : k ≤ 8) : 1 ≤ 2 ^ k - 1 ∧ 2 ^ k - 1 ≤ 255 := by
  rcases k8 h1 h8 with rfl | rfl | rfl | rfl | rfl | rfl | rfl | rfl <;> decide

theorem hi_andNot (f : UInt8) {k : Nat} (h1 : 1 ≤ k) (h8 : k ≤ 8) : bits .andNot .u8 (f.toNat : Int) ((2 ^ k - 1 : Nat) : Int) = (hiOf f k : Int) := by
  have hf := f.toNat_lt
  have hr := full_range h1 h8
  rw [u8_andNot_nat _ _ hf (by omega)]
  unfold hiOf
  have key : ∀ k, k < 9 → ∀ x, x < 256 → x &&& (255 - (2 ^ k - 1)) = x / 2 ^ k * 2 ^ k := by decide +kernel
  rw [key k (by omega) f.toNat hf]

theorem hi_lt (f : UInt8) {k : Nat} (h1 : 1 ≤ k) (h8 : k ≤ 8) : hiOf f k + (2 ^ k - 1) < 256 := by
  have hf : f.toNat < 256 := f.toNat_lt
  unfold hiOf
  have key : ∀ k, k < 9 → ∀ x, x < 256 → x / 2 ^ k * 2 ^ k + (2 ^ k - 1) < 256 := by decide +kernel
  exact key k (by omega) _ hf

theorem hi_or (f : UInt8) {k : Nat} (h1 : 1 ≤ k) (h8 : k ≤ 8) (v : Nat) (hv : v ≤ 2 ^ k - 1) : bits .or .u8 (hiOf f k : Int) (v : Int) = ((hiOf f k + v : Nat) : Int) := by
  have := hi_lt f h1 h8
  have hr := Nat.two_pow_pos k
  rw [u8_or_nat _ _ (by omega) (by omega)]
  unfold hiOf
  rw [or_add _ _ _ (by omega)]

theorem preFirst_val (f : UInt8) {k : Nat} (h1 : 1 ≤ k) (h8 : k ≤ 8) (v : Nat) : ((preFirst f k v).toNat : Int) = ((hiOf f k + min v (2 ^ k - 1) : Nat) : Int) := by
  have := hi_lt f h1 h8
  unfold preFirst
  rw [UInt8.toNat_ofNat', Nat.mod_eq_of_lt]
  have : (2:Nat) ^ 8 = 256 := rfl
  omega

theorem or128 (x : Nat) : bits .or .u8 ((x : Int) % 256) 128 = ((x % 128 + 128 : Nat) : Int) := by
  have key : ∀ y, y < 256 → y ||| 128 = y % 128 + 128 := by decide +kernel
  rw [show ((x : Int) % 256) = ((x % 256 : Nat) : Int) from by omega, show (128 : Int) = ((128 : Nat) : Int) from rfl, u8_or_nat _ _ (by omega) (by omega), key _ (by omega)]
  omega

theorem cont_more (n v : Nat) (h : 128 ≤ v) : cont (n + 1) v = UInt8.ofNat (v % 128 + 128) :: cont n (v / 128) := by
  rw [cont, if_neg (by omega)]
theorem cont_last (n v : Nat) (h : v < 128) : cont (n + 1) v = [UInt8.ofNat v] := by
  rw [cont, if_pos h]
theorem cont_length (n v : Nat) : (cont n v).length ≤ n := by
  induction n generalizing v with
  | zero => simp [cont]
  | succ n ih =>
    rw [cont]
    split
    · simp
    · simp; exact ih _
theorem pow128 (x m : Nat) (h : x < 128 ^ (m + 1)) (hx : 128 ≤ x) : ∃ q, m = q + 1 ∧ x / 128 < 128 ^ (q + 1) := by
  cases m with
  | zero => simp at h; omega
  | succ q => exact ⟨q, rfl, by rw [Nat.pow_succ] at h; omega⟩

end Go.Proofs.YtebakjdeighdnaaGreat

/-
  Contracts of num.ReadPrefix and of the document's ReadPrefix.
-/
namespace Go.Proofs.YtebakjdeighdnaaGreat
open Go.RowKit
set_option linter.unusedVariables false

def maxVar : Nat := 4611686018427387903
def rpGo : List UInt8 → Nat → Nat → Int × Int × Int
  | [], _, _ => (0, 0, 20)
  | c :: t, i, v =>
    if (maxVar - v) / 2 ^ (7 * i) < c.toNat % 128 then (0, 0, 21)
    else if c.toNat < 128 then (((v + c.toNat % 128 * 2 ^ (7 * i) : Nat) : Int), ((i + 2 : Nat) : Int), 0)
    else if i + 1 = 10 then (0, 0, 21)
    else rpGo t (i + 1) (v + c.toNat % 128 * 2 ^ (7 * i))
/-- What ReadPrefix answers at k bits. -/
def rp (k : Nat) : List UInt8 → Int × Int × Int
  | [] => (0, 0, 20)
  | c :: t => if c.toNat % 2 ^ k < 2 ^ k - 1 then (((c.toNat % 2 ^ k : Nat) : Int), 1, 0) else rpGo t 0 (c.toNat % 2 ^ k)

/-- What a byte comes to: p are its seven low bits. -/
def rpAns (c : Nat) (t : List UInt8) (i v p : Nat) : Int × Int × Int :=
  if (maxVar - v) / 2 ^ (7 * i) < p then (0, 0, 21)
  else if c < 128 then (((v + p * 2 ^ (7 * i) : Nat) : Int), ((i + 2 : Nat) : Int), 0)
  else if i + 1 = 10 then (0, 0, 21)
  else rpGo t (i + 1) (v + p * 2 ^ (7 * i))
theorem rpGo_ans (c : UInt8) (t : List UInt8) (i v : Nat) : rpGo (c :: t) i v = rpAns c.toNat t i v (c.toNat % 128) := rfl
theorem rpAns_big (c : Nat) (t : List UInt8) (i v p : Nat) (h : (maxVar - v) / 2 ^ (7 * i) < p) : rpAns c t i v p = (0, 0, 21) := by simp only [rpAns, if_pos h]
theorem rpAns_last (c : Nat) (t : List UInt8) (i v p : Nat) (r : Int) (h : ¬ (maxVar - v) / 2 ^ (7 * i) < p) (hc : c < 128) (hr : ((v + p * 2 ^ (7 * i) : Nat) : Int) = r) : rpAns c t i v p = (r, ((i + 2 : Nat) : Int), 0) := by simp only [rpAns, if_neg h, if_pos hc, hr]
theorem rpAns_ten (c : Nat) (t : List UInt8) (v p : Nat) (h : ¬ (maxVar - v) / 2 ^ (7 * 9) < p) (hc : ¬ c < 128) : rpAns c t 9 v p = (0, 0, 21) := by simp only [rpAns, if_neg h, if_neg hc]; rfl
theorem rpAns_on (c : Nat) (t : List UInt8) (i v p r : Nat) (h : ¬ (maxVar - v) / 2 ^ (7 * i) < p) (hc : ¬ c < 128) (hi : ¬ i + 1 = 10) (hr : v + p * 2 ^ (7 * i) = r) : rpAns c t i v p = rpGo t (i + 1) r := by simp only [rpAns, if_neg h, if_neg hc, if_neg hi, hr]

theorem pfits (p v i : Nat) (hv : v ≤ maxVar) (h : ¬ (maxVar - v) / 2 ^ (7 * i) < p) : v + p * 2 ^ (7 * i) ≤ maxVar := by
  have h1 : p * 2 ^ (7 * i) ≤ maxVar - v := by
    have := Nat.mul_le_mul_right (2 ^ (7 * i)) (Nat.not_lt.1 h)
    exact Nat.le_trans this (Nat.div_mul_le_self _ _)
  omega

theorem and127 (y : UInt8) : bits .and .u8 (y.toNat : Int) 127 = ((y.toNat % 128 : Nat) : Int) := by
  have hy := y.toNat_lt
  have key : ∀ z, z < 256 → z &&& 127 = z % 128 := by decide +kernel
  rw [show (127 : Int) = ((127 : Nat) : Int) from rfl, u8_and_nat _ _ hy (by omega), key _ hy]
theorem shl_fit (p v i : Nat) (S : Int) (h : v + p * 2 ^ (7 * i) ≤ maxVar) (hS : IntKind.u64.wrap ((p : Int) * 2 ^ (7 * i)) = S) : S = ((p * 2 ^ (7 * i) : Nat) : Int) := by
  have e : (p : Int) * 2 ^ (7 * i) = ((p * 2 ^ (7 * i) : Nat) : Int) := by push_cast; rfl
  rw [← hS, IntKind.wrap_u64, e]
  unfold maxVar at h
  omega
theorem div_small (v D Q : Int) (i p : Nat) (h : D = 4611686018427387903 - v) (h0 : 0 ≤ v) (h1 : v ≤ 4611686018427387903) (hQ : D / 2 ^ (7 * i) = Q) (hb : Q < (p : Int)) : ((maxVar - v.toNat) / 2 ^ (7 * i) : Nat) < p := by
  have : (((maxVar - v.toNat) / 2 ^ (7 * i) : Nat) : Int) = Q := by
    rw [← hQ, h]
    push_cast
    congr 1
    unfold maxVar
    omega
  omega
theorem div_fits (v D Q : Int) (i p : Nat) (h : D = 4611686018427387903 - v) (h0 : 0 ≤ v) (h1 : v ≤ 4611686018427387903) (hQ : D / 2 ^ (7 * i) = Q) (hb : ¬ Q < (p : Int)) : ¬ ((maxVar - v.toNat) / 2 ^ (7 * i) : Nat) < p := by
  have : (((maxVar - v.toNat) / 2 ^ (7 * i) : Nat) : Int) = Q := by
    rw [← hQ, h]
    push_cast
    congr 1
    unfold maxVar
    omega
  omega

def RpRel (R : Int × Int × Int) (t : List UInt8) (T : Nat) (vv iv : Value) : Prop :=
  ∃ (i : Nat) (v : Int), iv = .int .i64 i ∧ vv = .int .u64 v ∧ 0 ≤ v ∧ v ≤ 4611686018427387903 ∧ i ≤ T ∧ i ≤ 9 ∧ rpGo (t.drop i) i v.toNat = R

theorem readPrefix_nil (bV : Value) (n : Int) (w : World) (hb : Bs w bV []) :
    Calls Tryz.prog 72 #[bV, .int .i64 n] w fun e w' => e = Ans3 (rp (bitsOf n) []) ∧ w = w' := by
  obtain ⟨A, L, c, rfl, hL, h1, h2, h3, h4⟩ := hb.open_
  have hL0 : L = 0 := hL.out
  subst hL0
  clear hb hL h3 h4
  go_enter Tryz.func72, Tryz.ntmps72
  go_wp2
  go_ret3
  exact ⟨rfl, rfl⟩

set_option maxHeartbeats 1000000 in
theorem readPrefix_cons (bV : Value) (x : UInt8) (t : List UInt8) (n : Int) (w : World) (hb : Bs w bV (x :: t)) (hm : (x :: t).length ≤ 1000000) :
    Calls Tryz.prog 72 #[bV, .int .i64 n] w fun e w' => e = Ans3 (rp (bitsOf n) (x :: t)) ∧ w = w' := by
  obtain ⟨hk1, hk8, hkn⟩ := bitsOf_range n
  generalize bitsOf n = k at hk1 hk8 hkn ⊢
  have hM := full_range hk1 hk8
  have hfull : full (min (max n 1) 8) = ((2 ^ k - 1 : Nat) : Int) := by rw [hkn, full_nat]
  have hx256 := x.toNat_lt
  have hand := u64_mask x.toNat k _ rfl (by omega) (by omega)
  have hrp : rp k (x :: t) = if x.toNat % 2 ^ k < 2 ^ k - 1 then (((x.toNat % 2 ^ k : Nat) : Int), 1, 0) else rpGo t 0 (x.toNat % 2 ^ k) := rfl
  have hml : x.toNat % 2 ^ k ≤ x.toNat := Nat.mod_le _ _
  generalize rp k (x :: t) = R at hrp ⊢
  generalize x.toNat % 2 ^ k = v0 at hand hrp hml
  generalize 2 ^ k - 1 = M at hM hfull hand hrp
  have Hfull := Lib.hid hfull
  obtain ⟨hM1, hM2⟩ := hM
  obtain ⟨b, o, L, c, rfl, hL, h0, h1, h2, hc⟩ := hb.cell0
  have Hb := Lib.hid hb
  clear hb hfull hkn
  have hne : ((L : Int) == 0) = false := by simp; omega
  unfold maxLen at h2
  by_cases hlt : v0 < M
  · rw [if_pos hlt] at hrp
    have Hrp := Lib.hid hrp
    clear hrp
    go_enter Tryz.func72, Tryz.ntmps72
    go_wp2_with (go_at_call 100; refine (fullPrefix_any _ _).mono ?_; rintro e w' ⟨rfl, rfl⟩; rw [Hfull.out])
    go_ret3
    exact ⟨ans3 Hrp.out, rfl⟩
  · rw [if_neg hlt] at hrp
    have Hrp := Lib.hid hrp
    clear hrp
    cases t with
    | nil =>
      have hL1 : L = 1 := hL.out
      subst hL1
      clear hL
      by_cases hc1 : c = 1
      · subst hc1
        go_enter Tryz.func72, Tryz.ntmps72
        go_wp2_with (go_at_call 100; refine (fullPrefix_any _ _).mono ?_; rintro e w' ⟨rfl, rfl⟩; rw [Hfull.out])
        go_rounds 1
        go_ret3
        exact ⟨ans3 Hrp.out, rfl⟩
      · go_enter Tryz.func72, Tryz.ntmps72
        go_wp2_with (go_at_call 100; refine (fullPrefix_any _ _).mono ?_; rintro e w' ⟨rfl, rfl⟩; rw [Hfull.out])
        go_rounds 1
        go_ret3
        exact ⟨ans3 Hrp.out, rfl⟩
    | cons y s =>
      have hcell : ∀ i (h : i < (y :: s).length), w.cell? ⟨b, o + 1 + i, none⟩ = some (.int .u8 ((y :: s)[i].toNat : Int)) := by
        intro i h
        have := Hb.out.cell (i + 1) (by simp at h ⊢; omega)
        rw [Nat.add_right_comm, Nat.add_assoc]
        simpa using this
      have hlen1 : (y :: s).length = L - 1 := by have := hL.out; simp at this ⊢; omega
      have hL2 : L ≥ 2 := by have := hL.out; simp at this; omega
      have hc1 : ¬ c = 1 := by omega
      go_enter Tryz.func72, Tryz.ntmps72
      go_wp2_with (go_at_call 100; refine (fullPrefix_any _ _).mono ?_; rintro e w' ⟨rfl, rfl⟩; rw [Hfull.out])
      generalize y :: s = t at hcell hlen1 Hrp hL Hb hm
      generalize hL' : L - 1 = T at hlen1
      have HT := Lib.hid hL'
      have Hlen1 := Lib.hid hlen1
      have Hcell := Lib.hid hcell
      have hT : T ≤ 1000000 := by simp at hm; omega
      clear hL' hlen1 hcell hc hand
      go_loop [8, 30] (fun vv iv => RpRel R t T vv iv) (fun _ i => T - (intOf i).toNat)
      case atStart => exact ⟨0, v0, rfl, rfl, by omega, by omega, by omega, by omega, by simpa using Hrp.out.symm⟩
      case round =>
        obtain ⟨i, v, rfl, rfl, hv0, hv1, hi, hi9, hR⟩ := hrel
        have HR := Lib.hid hR
        clear hR
        by_cases hiT : i < T
        · have hit : i < t.length := by have := Hlen1.out; omega
          have hd : t.drop i = t[i] :: t.drop (i + 1) := List.drop_eq_getElem_cons hit
          have HR2 := HR.out
          rw [hd] at HR2
          have HR3 := Lib.hid HR2
          have hc := Hcell.out i hit
          have hy := t[i].toNat_lt
          clear hd HR2
          generalize t[i] = y at hc hy HR3
          obtain ⟨p, hpe⟩ : ∃ p, y.toNat % 128 = p := ⟨_, rfl⟩
          have hpand : bits .and .u8 (y.toNat : Int) 127 = (p : Int) := by rw [and127 y, hpe]
          have hp : p < 128 := by omega
          have HR4 : Hid (rpAns y.toNat (t.drop (i + 1)) i v.toNat p = R) := by have h := HR3.out; rw [rpGo_ans, hpe] at h; exact h
          have Hpe := Lib.hid hpe
          clear hpe HR3 hy
          generalize y.toNat = z at hc hpand HR4 Hpe
          have hlt' : M ≤ v0 := by omega
          clear hlt
          obtain ⟨D, hD⟩ : ∃ D, IntKind.u64.wrap (4611686018427387903 - v) = D := ⟨_, rfl⟩
          have HD : Hid (D = 4611686018427387903 - v) := by rw [← hD, IntKind.wrap_u64]; unfold Hid; omega
          obtain ⟨Q, hQ⟩ : ∃ Q, D / 2 ^ (7 * i) = Q := ⟨_, rfl⟩
          have Hv0 : Bx (0 ≤ v) := ⟨hv0⟩
          have Hv1 : Bx (v ≤ 4611686018427387903) := ⟨hv1⟩
          clear hv0 hv1
          have hbig0 : Q < (p : Int) ∨ (p : Int) ≤ Q := by omega
          rcases hbig0 with hbig | hbig
          · go_wp2
            go_ret3
            exact ⟨ans3 (HR4.out.symm.trans (rpAns_big z _ i _ p (div_small v D Q i p HD.out Hv0.out Hv1.out hQ hbig))), rfl⟩
          · have HQ := div_fits v D Q i p HD.out Hv0.out Hv1.out hQ (by omega)
            have hfit := pfits p v.toNat i (by have := Hv0.out; have := Hv1.out; unfold maxVar; omega) HQ
            obtain ⟨S, hS⟩ : ∃ S, IntKind.u64.wrap ((p : Int) * 2 ^ (7 * i)) = S := ⟨_, rfl⟩
            have hSe := shl_fit p v.toNat i S hfit hS
            have hS0 : 0 ≤ S := by omega
            have HVS : Bx (v + S ≤ 4611686018427387903) := ⟨by have := Hv0.out; unfold maxVar at hfit; omega⟩
            have HVSe : Hid (((v.toNat + p * 2 ^ (7 * i) : Nat) : Int) = v + S) := by have := Hv0.out; unfold Hid; omega
            obtain ⟨V, hV⟩ : ∃ V, IntKind.u64.wrap (v + S) = V := ⟨_, rfl⟩
            have HV : Hid (V = v + S) := by have := Hv0.out; have := HVS.out; rw [← hV, IntKind.wrap_u64]; unfold Hid; omega
            have HSe : Hid (((v.toNat + p * 2 ^ (7 * i) : Nat) : Int) = V) := HVSe.out.trans HV.out.symm
            have HQ2 : Bx _ := ⟨HQ⟩
            have HS0 : Bx (0 ≤ S) := ⟨hS0⟩
            have hbb : decide (Q < (p : Int)) = false := by rw [decide_eq_false_iff_not]; omega
            clear hbig
            have HVV : Hid (IntKind.u64.wrap (v + IntKind.u64.wrap ((p : Int) * 2 ^ (7 * i))) = V) := by rw [hS]; exact hV
            have HVr : Hid (V = IntKind.u64.wrap (v + IntKind.u64.wrap ((p : Int) * 2 ^ (7 * i)))) := HVV.out.symm
            clear hSe HQ hfit hS0 hS hV
            have hz0 : z < 128 ∨ 128 ≤ z := by omega
            rcases hz0 with hz | hz
            · have hzb : decide ((z : Int) < 128) = true := by rw [decide_eq_true_iff]; omega
              go_wp2
              go_ret3
              exact ⟨ans3 (HR4.out.symm.trans (rpAns_last z _ i _ p _ HQ2.out hz (HSe.out.trans HVr.out))), rfl⟩
            · have hi0 : i = 9 ∨ i ≤ 8 := by omega
              have hzb : decide ((z : Int) < 128) = false := by rw [decide_eq_false_iff_not]; omega
              rcases hi0 with hi8 | hi8
              · have hten : (((i : Int) + 1) == 10) = true := by rw [beq_iff_eq]; omega
                have Hi8 := Lib.hid hi8
                clear hi8
                go_wp2
                go_ret3
                have h := HR4.out
                have hq := HQ2.out
                rw [Hi8.out] at h hq
                exact ⟨ans3 (h.symm.trans (rpAns_ten z _ _ p hq (by omega))), rfl⟩
              · have hten : (((i : Int) + 1) == 10) = false := by rw [beq_eq_false_iff_ne]; omega
                have HR5 : Hid (rpGo (t.drop (i + 1)) (i + 1) (v.toNat + p * 2 ^ (7 * i)) = R) := by
                  have h := HR4.out; rw [rpAns_on z _ i _ p _ HQ2.out (by omega) (by omega) rfl] at h; exact h
                go_wp2
                go_round
                case rel =>
                  have := HS0.out; have := HV.out; have := HVS.out; have := Hv0.out
                  refine ⟨i + 1, V, by go_num, by rw [HVr.out], by omega, by omega, by omega, by omega, ?_⟩
                  have h := HR5.out
                  rw [show v.toNat + p * 2 ^ (7 * i) = V.toNat from by have := HSe.out; omega] at h
                  exact h
                case measure => simp [intOf]; omega
        · obtain rfl : i = T := by omega
          go_wp2
          go_ret3
          have h := HR.out
          rw [List.drop_of_length_le (by have := Hlen1.out; omega)] at h
          exact ⟨ans3 (by rw [← h]; rfl), rfl⟩

end Go.Proofs.YtebakjdeighdnaaGreat

/-
  The contract of the document's ReadPrefix.
-/
namespace Go.Proofs.YtebakjdeighdnaaGreat
open Go.RowKit
set_option linter.unusedVariables false

theorem refReadPrefix_nil (bV : Value) (n : Int) (w : World) (hb : Bs w bV []) :
    Calls Tryz.prog 47 #[bV, .int .i64 n] w fun e w' => e = Ans3 (rp (bitsOf n) []) ∧ w = w' := by
  obtain ⟨A, L, c, rfl, hL, h1, h2, h3, h4⟩ := hb.open_
  have hL0 : L = 0 := hL.out
  subst hL0
  clear hb hL h3 h4
  go_enter Tryz.func47, Tryz.ntmps47
  go_wp2
  go_ret3
  exact ⟨rfl, rfl⟩

theorem and128 (z : Nat) (hz : z < 256) : (bits .and .u8 (z : Int) 128 == 0) = decide (z < 128) := by
  have key : ∀ z, z < 256 → (((z &&& 128 : Nat) : Int) == 0) = decide (z < 128) := by decide +kernel
  rw [show (128 : Int) = ((128 : Nat) : Int) from rfl, u8_and_nat _ _ hz (by omega), key z hz]

def RefRel (R : Int × Int × Int) (t : List UInt8) (T : Nat) (vv iv : Value) : Prop :=
  ∃ (i : Nat) (v : Int), iv = .int .i64 ((i : Int) + 1) ∧ vv = .int .u64 v ∧ 0 ≤ v ∧ v ≤ 4611686018427387903 ∧ i ≤ T ∧ ((i ≤ 9 ∧ rpGo (t.drop i) i v.toNat = R) ∨ (i = 10 ∧ R = (0, 0, 21)))

set_option maxHeartbeats 1000000 in
theorem refReadPrefix_cons (bV : Value) (x : UInt8) (t : List UInt8) (n : Int) (w : World) (hb : Bs w bV (x :: t)) (hm : (x :: t).length ≤ 1000000) :
    Calls Tryz.prog 47 #[bV, .int .i64 n] w fun e w' => e = Ans3 (rp (bitsOf n) (x :: t)) ∧ w = w' := by
  obtain ⟨hk1, hk8, hkn⟩ := bitsOf_range n
  generalize bitsOf n = k at hk1 hk8 hkn ⊢
  have hM := full_range hk1 hk8
  have hfw := full_wrap (k : Int) (by omega) (by omega)
  rw [full_nat, Int.toNat_natCast] at hfw
  have hx256 := x.toNat_lt
  have hand := u64_mask x.toNat k _ rfl (by omega) (by omega)
  have hrp : rp k (x :: t) = if x.toNat % 2 ^ k < 2 ^ k - 1 then (((x.toNat % 2 ^ k : Nat) : Int), 1, 0) else rpGo t 0 (x.toNat % 2 ^ k) := rfl
  have hml : x.toNat % 2 ^ k ≤ x.toNat := Nat.mod_le _ _
  generalize rp k (x :: t) = R at hrp ⊢
  generalize x.toNat % 2 ^ k = v0 at hand hrp hml
  generalize 2 ^ k - 1 = M at hM hfw hand hrp
  obtain ⟨hM1, hM2⟩ := hM
  obtain ⟨b, o, L, c, rfl, hL, h0, h1, h2, hc⟩ := hb.cell0
  have Hb := Lib.hid hb
  clear hb
  have hne : ((L : Int) == 0) = false := by simp; omega
  unfold maxLen at h2
  by_cases hlt : v0 < M
  · rw [if_pos hlt] at hrp
    have Hrp := Lib.hid hrp
    clear hrp
    go_enter Tryz.func47, Tryz.ntmps47
    go_wp2
    go_ret3
    exact ⟨ans3 Hrp.out, rfl⟩
  · rw [if_neg hlt] at hrp
    have Hrp := Lib.hid hrp
    clear hrp
    have hMv : decide (v0 < M) = false := by rw [decide_eq_false_iff_not]; exact hlt
    clear hlt
    have hcell : ∀ i (h : i < t.length), w.cell? ⟨b, o + (i + 1), none⟩ = some (.int .u8 (t[i].toNat : Int)) := by
      intro i h
      have := Hb.out.cell (i + 1) (by simp at h ⊢; omega)
      simpa using this
    have hlen1 : t.length = L - 1 := by have := hL.out; omega
    obtain ⟨T, rfl⟩ : ∃ T, L = T + 1 := ⟨L - 1, by omega⟩
    have Hlen1 : Bx (t.length = T) := ⟨by omega⟩
    have Hcell : Bx (∀ i (h : i < t.length), w.cell? ⟨b, o + (i + 1), none⟩ = some (.int .u8 (t[i].toNat : Int))) := ⟨hcell⟩
    have hT : T ≤ 1000000 := by simp at hm; omega
    have Hm : Bx ((x :: t).length ≤ 1000000) := ⟨hm⟩
    have Hv : Bx (v0 < 256) := ⟨by have : (2:Nat) ^ 8 = 256 := rfl; omega⟩
    have hne2 : ((T : Int) + 1 == 0) = false := by rw [beq_eq_false_iff_ne]; omega
    clear hlen1 hcell hm hL hne
    go_enter Tryz.func47, Tryz.ntmps47
    go_wp2
    go_loop [8, 9] (fun vv iv => RefRel R t T vv iv) (fun _ i => T + 1 - (intOf i).toNat)
    case atStart => exact ⟨0, v0, rfl, rfl, by omega, by have := Hv.out; omega, by omega, .inl ⟨by omega, by simpa using Hrp.out.symm⟩⟩
    case round =>
      obtain ⟨i, v, rfl, rfl, hv0, hv1, hi, hR⟩ := hrel
      have Hv0 : Bx (0 ≤ v) := ⟨hv0⟩
      have Hv1 : Bx (v ≤ 4611686018427387903) := ⟨hv1⟩
      clear hv0 hv1 hc hand
      rcases hR with ⟨hi9, hR⟩ | ⟨hi10, hR⟩
      · have h10 : decide (10 < (i : Int) + 1) = false := by rw [decide_eq_false_iff_not]; omega
        by_cases hiT : i < T
        · have hTb : decide ((T : Int) + 1 ≤ (i : Int) + 1) = false := by rw [decide_eq_false_iff_not]; omega
          have hit : i < t.length := by have := Hlen1.out; omega
          have hd : t.drop i = t[i] :: t.drop (i + 1) := List.drop_eq_getElem_cons hit
          rw [hd] at hR
          have hc := Hcell.out i hit
          have hy : t[i].toNat < 256 := t[i].toNat_lt
          clear hd
          generalize t[i] = y at hc hy hR
          obtain ⟨p, hpe⟩ : ∃ p, y.toNat % 128 = p := ⟨_, rfl⟩
          have hpand : bits .and .u8 (y.toNat : Int) 127 = (p : Int) := by rw [and127 y, hpe]
          have h128 := and128 y.toNat hy
          have hp : p < 128 := by omega
          have HR4 : Bx (rpAns y.toNat (t.drop (i + 1)) i v.toNat p = R) := ⟨by rw [rpGo_ans, hpe] at hR; exact hR⟩
          clear hR hpe
          generalize y.toNat = z at hc hpand HR4 h128 hy
          obtain ⟨D, hD⟩ : ∃ D, IntKind.u64.wrap (4611686018427387903 - v) = D := ⟨_, rfl⟩
          have HD : Bx (D = 4611686018427387903 - v) := ⟨by have := Hv0.out; have := Hv1.out; rw [← hD, IntKind.wrap_u64]; omega⟩
          obtain ⟨Q, hQ⟩ : ∃ Q, D / 2 ^ (7 * i) = Q := ⟨_, rfl⟩
          have hi0 : i = 9 ∨ i ≤ 8 := by omega
          rcases hi0 with hi8 | hi8
          · -- the tenth byte behind the first: no bit of it counts
            have h62 : decide (62 ≤ 7 * (i : Int)) = true := by rw [decide_eq_true_iff]; omega
            have h62' : decide (7 * (i : Int) < 62) = false := by rw [decide_eq_false_iff_not]; omega
            have hq0 : Q = 0 := by
              have a := HD.out; have b := Hv0.out; have c := Hv1.out
              rw [← hQ, hi8, show (2 : Int) ^ (7 * 9) = 9223372036854775808 from by decide]
              omega
            rcases Nat.eq_zero_or_pos p with hp0 | hp0
            · subst hp0
              have HQ := div_fits v D Q i 0 HD.out Hv0.out Hv1.out hQ (by omega)
              have HQ2 : Bx _ := ⟨HQ⟩
              have Hi8 : Bx (i = 9) := ⟨hi8⟩
              have Hq0 : Bx (Q = 0) := ⟨hq0⟩
              clear HQ hi8 hq0 hQ hD
              have hz0 : z < 128 ∨ 128 ≤ z := by omega
              rcases hz0 with hz | hz
              · have hzb : decide (z < 128) = true := by rw [decide_eq_true_iff]; exact hz
                rw [hzb] at h128
                have Hz : Bx (z < 128) := ⟨hz⟩
                clear hzb hz hi9
                go_wp2
                go_ret3
                exact ⟨ans3 (HR4.out.symm.trans (rpAns_last z _ i _ 0 v HQ2.out Hz.out (by have := Hv0.out; omega))), rfl⟩
              · have hzb : decide (z < 128) = false := by rw [decide_eq_false_iff_not]; omega
                rw [hzb] at h128
                have Hz : Bx (¬ z < 128) := ⟨by omega⟩
                clear hzb hz hi9
                go_wp2
                go_round
                case rel =>
                  have h := HR4.out
                  have hq := HQ2.out
                  rw [Hi8.out] at h hq
                  rw [rpAns_ten z _ _ 0 hq Hz.out] at h
                  exact ⟨i + 1, v, by go_num, rfl, Hv0.out, Hv1.out, by omega, .inr ⟨by have := Hi8.out; omega, h.symm⟩⟩
                case measure => simp [intOf]; omega
            · have hpb : decide (0 < p) = true := by rw [decide_eq_true_iff]; exact hp0
              have HQb : Bx (Q < (p : Int)) := ⟨by omega⟩
              clear hq0 hi8 hi9
              go_wp2
              go_ret3
              exact ⟨ans3 (HR4.out.symm.trans (rpAns_big z _ i _ p (div_small v D Q i p HD.out Hv0.out Hv1.out hQ HQb.out))), rfl⟩
          · have h62 : decide (62 ≤ 7 * (i : Int)) = false := by rw [decide_eq_false_iff_not]; omega
            have h62' : decide (7 * (i : Int) < 62) = true := by rw [decide_eq_true_iff]; omega
            have hbig0 : Q < (p : Int) ∨ ¬ Q < (p : Int) := by omega
            rcases hbig0 with hbig | hbig
            · have hbb : decide (Q < (p : Int)) = true := by rw [decide_eq_true_iff]; exact hbig
              have HQb : Bx (Q < (p : Int)) := ⟨hbig⟩
              clear hbig hi9
              go_wp2
              go_ret3
              exact ⟨ans3 (HR4.out.symm.trans (rpAns_big z _ i _ p (div_small v D Q i p HD.out Hv0.out Hv1.out hQ HQb.out))), rfl⟩
            · have HQ := div_fits v D Q i p HD.out Hv0.out Hv1.out hQ hbig
              have hfit := pfits p v.toNat i (by have := Hv0.out; have := Hv1.out; unfold maxVar; omega) HQ
              obtain ⟨S, hS⟩ : ∃ S, IntKind.u64.wrap ((p : Int) * 2 ^ (7 * i)) = S := ⟨_, rfl⟩
              have hSe := shl_fit p v.toNat i S hfit hS
              have HS0 : Bx (0 ≤ S) := ⟨by omega⟩
              have HVS : Bx (v + S ≤ 4611686018427387903) := ⟨by have := Hv0.out; unfold maxVar at hfit; omega⟩
              obtain ⟨V, hV⟩ : ∃ V, IntKind.u64.wrap (v + S) = V := ⟨_, rfl⟩
              have HV : Bx (V = v + S) := ⟨by have := Hv0.out; have := HVS.out; have := HS0.out; rw [← hV, IntKind.wrap_u64]; omega⟩
              have HSe : Bx (((v.toNat + p * 2 ^ (7 * i) : Nat) : Int) = V) := ⟨by have := Hv0.out; have := HV.out; omega⟩
              have HVr : Bx (V = IntKind.u64.wrap (v + IntKind.u64.wrap ((p : Int) * 2 ^ (7 * i)))) := ⟨by rw [hS]; exact hV.symm⟩
              have HQ2 : Bx _ := ⟨HQ⟩
              have hbb : decide (Q < (p : Int)) = false := by rw [decide_eq_false_iff_not]; exact hbig
              clear hSe HQ hfit hS hV hbig hi9
              have hz0 : z < 128 ∨ 128 ≤ z := by omega
              rcases hz0 with hz | hz
              · have hzb : decide (z < 128) = true := by rw [decide_eq_true_iff]; exact hz
                rw [hzb] at h128
                have Hz : Bx (z < 128) := ⟨hz⟩
                clear hzb hz
                go_wp2
                go_ret3
                exact ⟨ans3 (HR4.out.symm.trans (rpAns_last z _ i _ p _ HQ2.out Hz.out (HSe.out.trans HVr.out))), rfl⟩
              · have hzb : decide (z < 128) = false := by rw [decide_eq_false_iff_not]; omega
                rw [hzb] at h128
                have Hz : Bx (¬ z < 128) := ⟨by omega⟩
                clear hzb hz
                go_wp2
                go_round
                case rel =>
                  have := HS0.out; have := HV.out; have := HVS.out; have := Hv0.out
                  refine ⟨i + 1, V, by go_num, by rw [HVr.out], by omega, by omega, by omega, .inl ⟨by omega, ?_⟩⟩
                  have h := HR4.out
                  rw [rpAns_on z _ i _ p _ HQ2.out Hz.out (by omega) rfl, show v.toNat + p * 2 ^ (7 * i) = V.toNat from by have := HSe.out; omega] at h
                  exact h
                case measure => simp [intOf]; omega
        · have hTb : decide ((T : Int) + 1 ≤ (i : Int) + 1) = true := by rw [decide_eq_true_iff]; omega
          obtain rfl : i = T := by omega
          have h := hR
          rw [List.drop_of_length_le (by have := Hlen1.out; omega)] at h
          have H : Bx (R = (0, 0, 20)) := ⟨by rw [← h]; rfl⟩
          clear hR h
          go_wp2
          go_ret3
          exact ⟨ans3 H.out, rfl⟩
      · have h10 : decide (10 < (i : Int) + 1) = true := by rw [decide_eq_true_iff]; omega
        have H : Bx (R = (0, 0, 21)) := ⟨hR⟩
        clear hR hi10
        go_wp2
        go_ret3
        exact ⟨ans3 H.out, rfl⟩

theorem readPrefix_any (bV : Value) (l : List UInt8) (n : Int) (w : World) (hb : Bs w bV l) (hm : l.length ≤ 1000000) :
    Calls Tryz.prog 72 #[bV, .int .i64 n] w fun e w' => e = Ans3 (rp (bitsOf n) l) ∧ w = w' := by
  cases l with
  | nil => exact readPrefix_nil bV n w hb
  | cons x t => exact readPrefix_cons bV x t n w hb hm
theorem refReadPrefix_any (bV : Value) (l : List UInt8) (n : Int) (w : World) (hb : Bs w bV l) (hm : l.length ≤ 1000000) :
    Calls Tryz.prog 47 #[bV, .int .i64 n] w fun e w' => e = Ans3 (rp (bitsOf n) l) ∧ w = w' := by
  cases l with
  | nil => exact refReadPrefix_nil bV n w hb
  | cons x t => exact refReadPrefix_cons bV x t n w hb hm

end Go.Proofs.YtebakjdeighdnaaGreat

/-
  Contract of the document's Prefix, over a row of bytes of its own.
-/
namespace Go.Proofs.YtebakjdeighdnaaGreat
open Go.RowKit
set_option linter.unusedVariables false

/-- The loop's relation: what is still to write. -/
def PrefRelO (G : List UInt8) (bl : List UInt8) (B : Nat) (w : World) (ov xv : Value) (wr : World) : Prop :=
  ∃ (m x : Nat) (l1 : List UInt8), xv = .int .u64 x ∧ x < 18446744073709551616 ∧ x < 128 ^ (m + 1) ∧ m ≤ 9 ∧ l1 ++ cont (m + 1) x = G ∧ l1.length + m ≤ bl.length + 10 ∧ OwB wr B ov l1 ∧ Below B w wr

end Go.Proofs.YtebakjdeighdnaaGreat

/-
  Plain facts on the numbers' bytes: what is written is read back.
-/
namespace Go.Proofs.YtebakjdeighdnaaGreat
open Go.RowKit
set_option linter.unusedVariables false

end Go.Proofs.YtebakjdeighdnaaGreat

/-
  Plain facts on numbers in prefixes: what is written is read back; what is cut off goes on.
-/
namespace Go.Proofs.YtebakjdeighdnaaGreat
open Go.RowKit
set_option linter.unusedVariables false

theorem pow7 (i : Nat) : (2 : Nat) ^ (7 * (i + 1)) = 2 ^ (7 * i) * 128 := by rw [Nat.mul_add, Nat.pow_add]
theorem split128 (x i : Nat) : x * 2 ^ (7 * i) = x % 128 * 2 ^ (7 * i) + x / 128 * 2 ^ (7 * (i + 1)) := by
  rw [pow7, Nat.mul_comm (2 ^ (7 * i)) 128, ← Nat.mul_assoc, ← Nat.add_mul]
  congr 1
  omega

theorem not_big (u p i : Nat) (h : u + p * 2 ^ (7 * i) ≤ maxVar) : ¬ (maxVar - u) / 2 ^ (7 * i) < p := by
  rw [Nat.not_lt, Nat.le_div_iff_mul_le (Nat.two_pow_pos _)]
  omega

theorem low7 (x : Nat) (h : x < 128) : (UInt8.ofNat x).toNat = x := by
  have h8 : x < 2 ^ 8 := by have : (2:Nat) ^ 8 = 256 := rfl; omega
  rw [UInt8.toNat_ofNat', Nat.mod_eq_of_lt h8]
theorem high7 (x : Nat) : (UInt8.ofNat (x % 128 + 128)).toNat = x % 128 + 128 := by
  have h8 : x % 128 + 128 < 2 ^ 8 := by have : (2:Nat) ^ 8 = 256 := rfl; omega
  rw [UInt8.toNat_ofNat', Nat.mod_eq_of_lt h8]

/-- What is written behind a full prefix is read back, or is too great. -/
theorem rpGo_cont (rest : List UInt8) (m : Nat) : ∀ x i u, x < 128 ^ (m + 1) → i + m ≤ 9 → u ≤ maxVar →
    rpGo (cont (m + 1) x ++ rest) i u = if u + x * 2 ^ (7 * i) ≤ maxVar then (((u + x * 2 ^ (7 * i) : Nat) : Int), ((i + 1 + (cont (m + 1) x).length : Nat) : Int), 0) else (0, 0, 21) := by
  induction m with
  | zero =>
    intro x i u hx hi hu
    have hx' : x < 128 := by simpa using hx
    rw [cont_last _ _ hx', List.singleton_append, rpGo_ans, low7 x hx', Nat.mod_eq_of_lt hx']
    by_cases hs : u + x * 2 ^ (7 * i) ≤ maxVar
    · rw [if_pos hs, rpAns_last _ _ _ _ _ _ (not_big u x i hs) hx' rfl]
      rfl
    · rw [if_neg hs]
      by_cases hb : (maxVar - u) / 2 ^ (7 * i) < x
      · rw [rpAns_big _ _ _ _ _ hb]
      · exact absurd (pfits x u i hu hb) hs
  | succ m ih =>
    intro x i u hx hi hu
    by_cases hx' : x < 128
    · rw [cont_last _ _ hx', List.singleton_append, rpGo_ans, low7 x hx', Nat.mod_eq_of_lt hx']
      by_cases hs : u + x * 2 ^ (7 * i) ≤ maxVar
      · rw [if_pos hs, rpAns_last _ _ _ _ _ _ (not_big u x i hs) hx' rfl]
        rfl
      · rw [if_neg hs]
        by_cases hb : (maxVar - u) / 2 ^ (7 * i) < x
        · rw [rpAns_big _ _ _ _ _ hb]
        · exact absurd (pfits x u i hu hb) hs
    · rw [cont_more _ _ (by omega), List.cons_append, rpGo_ans, high7]
      have e1 : (x % 128 + 128) % 128 = x % 128 := by omega
      rw [e1]
      have hsp := split128 x i
      by_cases hb : (maxVar - u) / 2 ^ (7 * i) < x % 128
      · rw [rpAns_big _ _ _ _ _ hb, if_neg]
        intro hs
        exact not_big u (x % 128) i (by omega) hb
      · have hf := pfits (x % 128) u i hu hb
        rw [rpAns_on _ _ _ _ _ _ hb (by omega) (by omega) rfl, ih (x / 128) (i + 1) _ (by rw [Nat.pow_succ] at hx; omega) (by omega) hf]
        have e2 : u + x % 128 * 2 ^ (7 * i) + x / 128 * 2 ^ (7 * (i + 1)) = u + x * 2 ^ (7 * i) := by omega
        rw [e2]
        have e3 : i + 1 + 1 + (cont (m + 1) (x / 128)).length = i + 1 + (UInt8.ofNat (x % 128 + 128) :: cont (m + 1) (x / 128)).length := by simp only [List.length_cons]; omega
        rw [e3]

theorem preFirst_mod (f : UInt8) (k v : Nat) (h1 : 1 ≤ k) (h8 : k ≤ 8) : (preFirst f k v).toNat % 2 ^ k = min v (2 ^ k - 1) := by
  have h := preFirst_val f h1 h8 v
  have h' : (preFirst f k v).toNat = hiOf f k + min v (2 ^ k - 1) := by omega
  have hp := Nat.two_pow_pos k
  rw [h']
  unfold hiOf
  rw [Nat.mul_comm, Nat.mul_add_mod, Nat.mod_eq_of_lt (by omega)]

theorem pow_128_10 : (18446744073709551616 : Nat) ≤ 128 ^ (9 + 1) := by decide

/-- A number in a prefix is read back, whatever stands behind; or it is too great. -/
theorem rp_pre (f : UInt8) (k v : Nat) (h1 : 1 ≤ k) (h8 : k ≤ 8) (hv : v < 18446744073709551616) (rest : List UInt8) :
    rp k (pre f k v ++ rest) = if v ≤ maxVar then ((v : Int), ((pre f k v).length : Int), 0) else (0, 0, 21) := by
  have hr := full_range h1 h8
  have hm := preFirst_mod f k v h1 h8
  have hp := pow_128_10
  unfold pre
  by_cases hlt : v < 2 ^ k - 1
  · rw [if_pos hlt, List.singleton_append]
    show (if (preFirst f k v).toNat % 2 ^ k < 2 ^ k - 1 then ((((preFirst f k v).toNat % 2 ^ k : Nat) : Int), (1 : Int), (0 : Int)) else rpGo rest 0 ((preFirst f k v).toNat % 2 ^ k)) = _
    rw [hm, show min v (2 ^ k - 1) = v from by omega, if_pos hlt, if_pos (by unfold maxVar; omega)]
    rfl
  · rw [if_neg hlt, List.cons_append]
    show (if (preFirst f k v).toNat % 2 ^ k < 2 ^ k - 1 then _ else rpGo (cont 10 (v - (2 ^ k - 1)) ++ rest) 0 ((preFirst f k v).toNat % 2 ^ k)) = _
    rw [hm, show min v (2 ^ k - 1) = 2 ^ k - 1 from by omega, if_neg (by omega), rpGo_cont rest 9 _ 0 _ (by omega) (by omega) (by unfold maxVar; omega)]
    have e : 2 ^ k - 1 + (v - (2 ^ k - 1)) * 2 ^ (7 * 0) = v := by simp; omega
    rw [e]
    congr 3
    show ((0 + 1 + (cont 10 (v - (2 ^ k - 1))).length : Nat) : Int) = _
    simp only [List.length_cons]
    omega

end Go.Proofs.YtebakjdeighdnaaGreat

/-
  Contracts of num.grown, num.Prefix, henc.number: what they hand back is a row of its own.
-/
namespace Go.Proofs.YtebakjdeighdnaaGreat
open Go.RowKit
set_option linter.unusedVariables false

set_option maxHeartbeats 400000 in
theorem grown_own (v : Value) (l : List UInt8) (n : Nat) (w : World) (hv : Bs w v l) (hn : n ≤ 1000000) (hl : l.length ≤ 1000000) :
    Calls Tryz.prog 107 #[v, .int .i64 n] w fun e w' => ∃ v', e = .returned v' ∧ OwB w' w.heap.size v' l ∧ Below w.heap.size w w' := by
  obtain ⟨i0, hi, hz, hz1, hz2⟩ := info_parts infoU8n
  obtain ⟨A, L, c, rfl, hL, h1, h2, h3, h4⟩ := hv.open_
  have H := Lib.hid hv
  clear hv
  have Hi := Lib.hid hi
  have Hz := Lib.hid hz
  have Hz1 := Lib.hid hz1
  have Hz2 := Lib.hid hz2
  clear hi hz hz1 hz2
  go_enter Tryz.func107, Tryz.ntmps107
  go_wp2_with (first
    | (at_make
       refine wpList_make_own _ rfl _ _ _ rfl w.heap.size 5 i0 (.int .u8 0) 1 Tryz.underlying23 Hi.out Hz.out Hz1.out .i64 .i64 _ (L + n) rfl rfl (by simp) (by rw [Hz2.out]; omega) (by simp only [maxLen]; omega) (Nat.le_refl _) ?_
       intro w1 hown hg)
    | (at_builtin
       refine wpList_append_og _ rfl _ _ 23 rfl w.heap.size 5 i0 (.int .u8 0) 1 Tryz.underlying23 Hi.out Hz.out Hz1.out Hz2.out rfl _ _ [] (l.map bv) rfl rfl hown ((show Rd w _ (l.map bv) from H.out).keep ((Below.refl _ _).grown hg (Nat.le_refl _) (by simp))) one_bv (by simp; omega) (by simp [maxLen]; omega) hg.size ?_
       intro v2 w2 hap hb2 _))
  go_ret
  exact ⟨v2, rfl, hap, ((Below.refl _ _).grown hg (Nat.le_refl _) (by simp)).trans hb2⟩


theorem grownO_int (v : Value) (l : List UInt8) (n : Int) (w : World) (hv : Bs w v l) (hn0 : 0 ≤ n) (hn : n ≤ 1000000) (hl : l.length ≤ 1000000) :
    Calls Tryz.prog 107 #[v, .int .i64 n] w fun e w' => ∃ v', e = .returned v' ∧ OwB w' w.heap.size v' l ∧ Below w.heap.size w w' := by
  have h := grown_own v l n.toNat w hv (by omega) hl
  rwa [Int.toNat_of_nonneg hn0] at h

set_option maxRecDepth 100000 in
set_option maxHeartbeats 1000000 in
theorem prefix_own (bV : Value) (bl : List UInt8) (f : UInt8) (n : Int) (v : Nat) (w : World) (hb : Bs w bV bl) (hbl : bl.length ≤ 200000) (hv : v < 18446744073709551616) :
    Calls Tryz.prog 85 #[bV, .int .u8 f.toNat, .int .i64 n, .int .u64 v] w fun e w' => ∃ v', e = .returned v' ∧ OwB w' w.heap.size v' (bl ++ pre f (bitsOf n) v) ∧ Below w.heap.size w w' := by
  obtain ⟨i0, hi, hz, hz1, hz2⟩ := info_parts infoU8n
  have Hi := Lib.hid hi
  have Hz := Lib.hid hz
  have Hz1 := Lib.hid hz1
  have Hz2 := Lib.hid hz2
  clear hi hz hz1 hz2
  have Hb := Lib.hid hb
  obtain ⟨hk1, hk8, hkn⟩ := bitsOf_range n
  generalize bitsOf n = k at hk1 hk8 hkn ⊢
  have hM := full_range hk1 hk8
  have hfull : full (min (max n 1) 8) = ((2 ^ k - 1 : Nat) : Int) := by rw [hkn, full_nat]
  have ha := hi_andNot f hk1 hk8
  have hlt := hi_lt f hk1 hk8
  have Hor := Lib.hid (hi_or f hk1 hk8)
  have Hpf := Lib.hid (preFirst_val f hk1 hk8 v)
  have Hpre : Hid (pre f k v = if v < 2 ^ k - 1 then [preFirst f k v] else preFirst f k v :: cont 10 (v - (2 ^ k - 1))) := rfl
  clear hb
  
  
  generalize pre f k v = PL at Hpre ⊢
  generalize preFirst f k v = pf at Hpf Hpre
  generalize hiOf f k = hi at ha hlt Hor Hpf
  generalize 2 ^ k - 1 = M at hM ha hlt Hor Hpf Hpre hfull
  have Hfull := Lib.hid hfull
  clear hfull
  obtain ⟨hM1, hM2⟩ := hM
  
  have horM := Hor.out M (by omega)
  by_cases hvM : v < M
  · have hw8v : IntKind.u8.wrap (v : Int) = (v : Int) := by rw [IntKind.wrap_u8]; omega
    have horv := Hor.out v (by omega)
    have Hf := Hpf.out
    have Hp := Hpre.out
    rw [if_pos hvM] at Hp
    rw [show min v M = v from by omega] at Hf
    subst Hp
    have Hf2 := Lib.hid Hf
    clear Hpf Hpre Hf
    go_enter Tryz.func85, Tryz.ntmps85
    go_wp2_with (first
        | (go_at_call 100; refine (fullPrefix_any _ _).mono ?_; rintro e w' ⟨rfl, rfl⟩; rw [Hfull.out])
        | (go_at_call 107; refine (grownO_int bV bl _ _ Hb.out (by omega) (by omega) (by omega)).mono ?_; rintro e w1 ⟨v1, rfl, hap, hb1⟩)
        | (at_builtin
           refine wpList_append_og _ rfl _ _ 23 rfl w.heap.size 5 i0 (.int .u8 0) 1 Tryz.underlying23 Hi.out Hz.out Hz1.out Hz2.out rfl _ _ (bl.map bv) _ rfl rfl (hap.alloc _) (Rd.lit w1 5 _ 1 rfl (by simp [maxLen])) (by simp [Value.oneCell']) (by simp; omega) (by simp [maxLen]; omega) (by have := hb1.size; simp; omega) ?_
           intro v2 w2 hap2 hb2 _))
    go_ret
    refine ⟨v2, rfl, ?_, hb1.trans (((Below.refl _ _).alloc hb1.size _).trans hb2)⟩
    exact OwB.snoc hap2 pf Hf2.out.symm
  · have Hf := Hpf.out
    have Hp := Hpre.out
    rw [if_neg hvM] at Hp
    rw [show min v M = M from by omega] at Hf
    have Hp2 := Lib.hid Hp
    have Hf2 := Lib.hid Hf
    clear Hpf Hpre Hf Hp
    have hsub : IntKind.u64.wrap ((v : Int) - (M : Int)) = ((v - M : Nat) : Int) := by rw [IntKind.wrap_u64]; omega
    go_enter Tryz.func85, Tryz.ntmps85
    go_wp2_with (first
        | (go_at_call 100; refine (fullPrefix_any _ _).mono ?_; rintro e w' ⟨rfl, rfl⟩; rw [Hfull.out])
        | (go_at_call 107; refine (grownO_int bV bl _ _ Hb.out (by omega) (by omega) (by omega)).mono ?_; rintro e w1 ⟨v1, rfl, hap, hb1⟩)
        | (at_builtin
           refine wpList_append_og _ rfl _ _ 23 rfl w.heap.size 5 i0 (.int .u8 0) 1 Tryz.underlying23 Hi.out Hz.out Hz1.out Hz2.out rfl _ _ (bl.map bv) _ rfl rfl (hap.alloc _) (Rd.lit w1 5 _ 1 rfl (by simp [maxLen])) (by simp [Value.oneCell']) (by simp; omega) (by simp [maxLen]; omega) (by have := hb1.size; simp; omega) ?_
           intro v2 w2 hap2 hb2 _))
    have hap3 := OwB.snoc hap2 pf Hf2.out.symm
    have hb3 : Below w.heap.size w w2 := hb1.trans (((Below.refl _ _).alloc hb1.size _).trans hb2)
    clear hap2 hb2
    have hlen3 : (bl ++ [pf]).length = bl.length + 1 := by simp
    have Hgoal : Hid ((bl ++ [pf]) ++ cont 10 (v - M) = bl ++ PL) := by rw [Hp2.out]; simp [Hid]
    have hl1 : (bl ++ [pf]).length ≤ bl.length + 1 := by omega
    clear hlen3
    generalize bl ++ [pf] = l0 at hap3 Hgoal hl1
    have hq : v - M < 128 ^ (9 + 1) := by have : (18446744073709551616 : Nat) ≤ 128 ^ (9 + 1) := by decide
                                          omega
    clear ha horM Hor hsub hvM Hf2 Hfull Hp2
    have hq64 : v - M < 18446744073709551616 := by omega
    generalize v - M = q at hq hq64 Hgoal ⊢
    have Hgoal2 := Lib.hid Hgoal.out
    clear Hgoal
    go_wp2
    go_loopw [3, 11] (fun xv ov wr => PrefRelO (bl ++ PL) bl w.heap.size w ov xv wr) (fun xv _ _ => (intOf xv).toNat)
    case atStart => exact ⟨9, q, l0, rfl, hq64, hq, by omega, Hgoal2.out, by omega, hap3, hb3⟩
    case round =>
      obtain ⟨m, x, l1, rfl, hxq, hxm, hm9, hG, hl, hap4, hb4⟩ := hrel
      have HG := Lib.hid hG
      clear hG hap3 hb3
      have hxi : (x : Int) < 18446744073709551616 := by omega
      have Hxq := Lib.hid hxq
      have Hxm := Lib.hid hxm
      have Hr0 : Hid (¬ x < 128 → ∃ q, m = q + 1 ∧ x / 128 < 128 ^ (q + 1)) := fun h => pow128 x m hxm (by omega)
      clear hxq hxm hv hq hq64 hxi
      have hsz := hb4.size
      by_cases hx : x < 128
      · have hx' : (x : Int) < 256 := by omega
        go_wp2_with (first
          | (at_builtin
             refine wpList_append_og _ rfl _ _ 23 rfl w.heap.size 5 i0 (.int .u8 0) 1 Tryz.underlying23 Hi.out Hz.out Hz1.out Hz2.out rfl _ _ (l1.map bv) _ rfl rfl (hap4.alloc _) (Rd.lit wr 5 _ 1 rfl (by simp [maxLen])) (by simp [Value.oneCell']) (by simp; omega) (by simp [maxLen]; omega) (by have := hb4.size; simp; omega) ?_
             intro v2 w2 hap2 hb2 _))
        go_ret
        have hap5 := OwB.snoc hap2 (UInt8.ofNat x) (by rw [UInt8.toNat_ofNat', Nat.mod_eq_of_lt (by have : (2:Nat) ^ 8 = 256 := rfl; omega)])
        refine ⟨_, rfl, ?_, hb4.trans (((Below.refl _ _).alloc (by have := hb4.size; omega) _).trans hb2)⟩
        rw [← HG.out, cont_last _ _ hx]
        exact hap5
      · obtain ⟨r, rfl, hr⟩ := Hr0.out hx
        have Hr := Lib.hid hr
        clear hr
        have ho := or128 x
        have hand := u64_mask x 7 127 (by rfl) (by omega) Hxq.out
        have ho2 : bits .or .u8 ((x : Int) % 128) 128 = ((x % 128 + 128 : Nat) : Int) := by have h := or128 (x % 128); rw [show (((x % 128 : Nat) : Int) % 256) = (x : Int) % 128 from by omega] at h; rw [h]; omega
        go_wp2_with (first
          | (at_builtin
             refine wpList_append_og _ rfl _ _ 23 rfl w.heap.size 5 i0 (.int .u8 0) 1 Tryz.underlying23 Hi.out Hz.out Hz1.out Hz2.out rfl _ _ (l1.map bv) _ rfl rfl (hap4.alloc _) (Rd.lit wr 5 _ 1 rfl (by simp [maxLen])) (by simp [Value.oneCell']) (by simp; omega) (by simp [maxLen]; omega) (by have := hb4.size; simp; omega) ?_
             intro v2 w2 hap2 hb2 _))
        have hap5 := OwB.snoc hap2 (UInt8.ofNat (x % 128 + 128)) (by rw [UInt8.toNat_ofNat', Nat.mod_eq_of_lt (by have : (2:Nat) ^ 8 = 256 := rfl; omega)]; omega)
        clear hap2
        go_roundw
        case rel =>
          refine ⟨r, x / 128, l1 ++ [UInt8.ofNat (x % 128 + 128)], by go_num, by have := Hxq.out; omega, Hr.out, by omega, ?_, by simp; omega, hap5, hb4.trans (((Below.refl _ _).alloc (by have := hb4.size; omega) _).trans hb2)⟩
          rw [← HG.out, cont_more (r + 1) x (by omega), List.append_assoc]
          rfl
        case measure => simp [intOf]; omega

end Go.Proofs.YtebakjdeighdnaaGreat

/-
  Contract of the document's Prefix, over a row of bytes of its own.
-/
namespace Go.Proofs.YtebakjdeighdnaaGreat
open Go.RowKit
set_option linter.unusedVariables false

/-- The loop's relation: what is still to write. -/
def PrefRelN (G : List UInt8) (bl : List UInt8) (B : Nat) (w : World) (ov xv : Value) (wr : World) : Prop :=
  ∃ (m x : Nat) (l1 : List UInt8), xv = .int .u64 x ∧ x < 18446744073709551616 ∧ x < 128 ^ (m + 1) ∧ m ≤ 9 ∧ l1 ++ cont (m + 1) x = G ∧ l1.length + m ≤ bl.length + 10 ∧ OwB wr B ov l1 ∧ Below B w wr ∧ NonB w wr

set_option maxRecDepth 100000 in
set_option maxHeartbeats 1000000 in
theorem refPrefix_non (B : Nat) (bV : Value) (bl : List UInt8) (f : UInt8) (n : Int) (v : Nat) (w : World) (hb : OwB w B bV bl) (hB : B ≤ w.heap.size) (hbl : bl.length ≤ 200000) (hv : v < 18446744073709551616) :
    Calls Tryz.prog 33 #[bV, .int .u8 f.toNat, .int .i64 n, .int .u64 v] w fun e w' => ∃ v', e = .returned v' ∧ OwB w' B v' (bl ++ pre f (bitsOf n) v) ∧ Below B w w' ∧ NonB w w' := by
  obtain ⟨i0, hi, hz, hz1, hz2⟩ := info_parts infoU8n
  have Hi := Lib.hid hi
  have Hz := Lib.hid hz
  have Hz1 := Lib.hid hz1
  have Hz2 := Lib.hid hz2
  clear hi hz hz1 hz2
  
  obtain ⟨hk1, hk8, hkn⟩ := bitsOf_range n
  generalize bitsOf n = k at hk1 hk8 hkn ⊢
  have hM := full_range hk1 hk8
  have hfull : full (min (max n 1) 8) = ((2 ^ k - 1 : Nat) : Int) := by rw [hkn, full_nat]
  have ha := hi_andNot f hk1 hk8
  have hlt := hi_lt f hk1 hk8
  have Hor := Lib.hid (hi_or f hk1 hk8)
  have Hpf := Lib.hid (preFirst_val f hk1 hk8 v)
  have Hpre : Hid (pre f k v = if v < 2 ^ k - 1 then [preFirst f k v] else preFirst f k v :: cont 10 (v - (2 ^ k - 1))) := rfl
  
  have hfw := full_wrap (k : Int) (by omega) (by omega)
  rw [full_nat, Int.toNat_natCast] at hfw
  generalize pre f k v = PL at Hpre ⊢
  generalize preFirst f k v = pf at Hpf Hpre
  generalize hiOf f k = hi at ha hlt Hor Hpf
  generalize 2 ^ k - 1 = M at hM ha hlt Hor Hpf Hpre hfull hfw
  have Hfull := Lib.hid hfull
  clear hfull
  obtain ⟨hM1, hM2⟩ := hM
  
  have horM := Hor.out M (by omega)
  by_cases hvM : v < M
  · have hw8v : IntKind.u8.wrap (v : Int) = (v : Int) := by rw [IntKind.wrap_u8]; omega
    have horv := Hor.out v (by omega)
    have Hf := Hpf.out
    have Hp := Hpre.out
    rw [if_pos hvM] at Hp
    rw [show min v M = v from by omega] at Hf
    subst Hp
    have Hf2 := Lib.hid Hf
    clear Hpf Hpre Hf
    go_enter Tryz.func33, Tryz.ntmps33
    go_wp2_with (first
        | (at_builtin
           refine wpList_append_og _ rfl _ _ 23 rfl B 5 i0 (.int .u8 0) 1 Tryz.underlying23 Hi.out Hz.out Hz1.out Hz2.out rfl _ _ (bl.map bv) _ rfl rfl (hb.alloc _) (Rd.lit w 5 _ 1 rfl (by simp [maxLen])) (by simp [Value.oneCell']) (by simp; omega) (by simp [maxLen]; omega) (by have := hB; simp; omega) ?_
           intro v2 w2 hap2 hb2 hg2))
    go_ret
    refine ⟨v2, rfl, ?_, (Below.refl B w).trans (((Below.refl _ _).alloc hB _).trans hb2), (NonB.alloc w _).trans (OwB.nonB (hb.alloc _) hg2)⟩
    exact OwB.snoc hap2 pf Hf2.out.symm
  · have Hf := Hpf.out
    have Hp := Hpre.out
    rw [if_neg hvM] at Hp
    rw [show min v M = M from by omega] at Hf
    have Hp2 := Lib.hid Hp
    have Hf2 := Lib.hid Hf
    clear Hpf Hpre Hf Hp
    have hsub : IntKind.u64.wrap ((v : Int) - (M : Int)) = ((v - M : Nat) : Int) := by rw [IntKind.wrap_u64]; omega
    go_enter Tryz.func33, Tryz.ntmps33
    go_wp2_with (first
        | (at_builtin
           refine wpList_append_og _ rfl _ _ 23 rfl B 5 i0 (.int .u8 0) 1 Tryz.underlying23 Hi.out Hz.out Hz1.out Hz2.out rfl _ _ (bl.map bv) _ rfl rfl (hb.alloc _) (Rd.lit w 5 _ 1 rfl (by simp [maxLen])) (by simp [Value.oneCell']) (by simp; omega) (by simp [maxLen]; omega) (by have := hB; simp; omega) ?_
           intro v2 w2 hap2 hb2 hg2))
    have hap3 := OwB.snoc hap2 pf Hf2.out.symm
    have hb3 : Below B w w2 := (Below.refl B w).trans (((Below.refl _ _).alloc hB _).trans hb2)
    have hn3 : NonB w w2 := (NonB.alloc w _).trans (OwB.nonB (hb.alloc _) hg2)
    clear hap2 hb2 hg2
    have hlen3 : (bl ++ [pf]).length = bl.length + 1 := by simp
    have Hgoal : Hid ((bl ++ [pf]) ++ cont 10 (v - M) = bl ++ PL) := by rw [Hp2.out]; simp [Hid]
    have hl1 : (bl ++ [pf]).length ≤ bl.length + 1 := by omega
    clear hlen3
    generalize bl ++ [pf] = l0 at hap3 Hgoal hl1
    have hq : v - M < 128 ^ (9 + 1) := by have : (18446744073709551616 : Nat) ≤ 128 ^ (9 + 1) := by decide
                                          omega
    clear ha horM Hor hsub hvM Hf2 Hfull Hp2
    have hq64 : v - M < 18446744073709551616 := by omega
    generalize v - M = q at hq hq64 Hgoal ⊢
    have Hgoal2 := Lib.hid Hgoal.out
    clear Hgoal
    go_wp2
    go_loopw [0, 3] (fun ov xv wr => PrefRelN (bl ++ PL) bl B w ov xv wr) (fun _ xv _ => (intOf xv).toNat)
    case atStart => exact ⟨9, q, l0, rfl, hq64, hq, by omega, Hgoal2.out, by omega, hap3, hb3, hn3⟩
    case round =>
      obtain ⟨m, x, l1, rfl, hxq, hxm, hm9, hG, hl, hap4, hb4, hn4⟩ := hrel
      have HG := Lib.hid hG
      clear hG hap3 hb3 hn3
      have hxi : (x : Int) < 18446744073709551616 := by omega
      have Hxq := Lib.hid hxq
      have Hxm := Lib.hid hxm
      have Hr0 : Hid (¬ x < 128 → ∃ q, m = q + 1 ∧ x / 128 < 128 ^ (q + 1)) := fun h => pow128 x m hxm (by omega)
      clear hxq hxm hv hq hq64 hxi
      have hsz := hb4.size
      by_cases hx : x < 128
      · have hx' : (x : Int) < 256 := by omega
        go_wp2_with (first
          | (at_builtin
             refine wpList_append_og _ rfl _ _ 23 rfl B 5 i0 (.int .u8 0) 1 Tryz.underlying23 Hi.out Hz.out Hz1.out Hz2.out rfl _ _ (l1.map bv) _ rfl rfl (hap4.alloc _) (Rd.lit wr 5 _ 1 rfl (by simp [maxLen])) (by simp [Value.oneCell']) (by simp; omega) (by simp [maxLen]; omega) (by have := hb4.size; simp; omega) ?_
             intro v2 w2 hap2 hb2 hg2))
        go_ret
        have hap5 := OwB.snoc hap2 (UInt8.ofNat x) (by rw [UInt8.toNat_ofNat', Nat.mod_eq_of_lt (by have : (2:Nat) ^ 8 = 256 := rfl; omega)])
        refine ⟨_, rfl, ?_, hb4.trans (((Below.refl _ _).alloc (by have := hb4.size; omega) _).trans hb2), hn4.trans ((NonB.alloc wr _).trans (OwB.nonB (hap4.alloc _) hg2))⟩
        rw [← HG.out, cont_last _ _ hx]
        exact hap5
      · obtain ⟨r, rfl, hr⟩ := Hr0.out hx
        have Hr := Lib.hid hr
        clear hr
        have ho := or128 x
        have hand := u64_mask x 7 127 (by rfl) (by omega) Hxq.out
        have ho2 : bits .or .u8 ((x : Int) % 128) 128 = ((x % 128 + 128 : Nat) : Int) := by have h := or128 (x % 128); rw [show (((x % 128 : Nat) : Int) % 256) = (x : Int) % 128 from by omega] at h; rw [h]; omega
        go_wp2_with (first
          | (at_builtin
             refine wpList_append_og _ rfl _ _ 23 rfl B 5 i0 (.int .u8 0) 1 Tryz.underlying23 Hi.out Hz.out Hz1.out Hz2.out rfl _ _ (l1.map bv) _ rfl rfl (hap4.alloc _) (Rd.lit wr 5 _ 1 rfl (by simp [maxLen])) (by simp [Value.oneCell']) (by simp; omega) (by simp [maxLen]; omega) (by have := hb4.size; simp; omega) ?_
             intro v2 w2 hap2 hb2 hg2))
        have hap5 := OwB.snoc hap2 (UInt8.ofNat (x % 128 + 128)) (by rw [UInt8.toNat_ofNat', Nat.mod_eq_of_lt (by have : (2:Nat) ^ 8 = 256 := rfl; omega)]; omega)
        clear hap2
        go_roundw
        case rel =>
          refine ⟨r, x / 128, l1 ++ [UInt8.ofNat (x % 128 + 128)], by go_num, by have := Hxq.out; omega, Hr.out, by omega, ?_, by simp; omega, hap5, hb4.trans (((Below.refl _ _).alloc (by have := hb4.size; omega) _).trans hb2), hn4.trans ((NonB.alloc wr _).trans (OwB.nonB (hap4.alloc _) hg2))⟩
          rw [← HG.out, cont_more (r + 1) x (by omega), List.append_assoc]
          rfl
        case measure => simp [intOf]; omega

end Go.Proofs.YtebakjdeighdnaaGreat

/-
  Contract of the document's Prefix, over a row of bytes of its own: that row's block, and new ones, alone have turned.
-/
namespace Go.Proofs.YtebakjdeighdnaaGreat
open Go.RowKit
set_option linter.unusedVariables false

/-- Of what stood the block of v alone has turned, and v' lies there, or in a new one. -/
def Fw (w : World) (v : Value) (w' : World) (v' : Value) : Prop := w.grownBy w' v.ownBlock ∧ (v'.ownBlock = v.ownBlock ∨ ∃ g, v'.ownBlock = some g ∧ w.heap.size ≤ g)
theorem Fw.refl (w : World) (v : Value) : Fw w v w v := ⟨⟨rfl, rfl, rfl, Nat.le_refl _, fun _ _ _ => rfl⟩, .inl rfl⟩
theorem Fw.trans {a b c : World} {va vb vc : Value} (h : Fw a va b vb) (k : Fw b vb c vc) : Fw a va c vc := by
  obtain ⟨h1, h2⟩ := h
  obtain ⟨k1, k2⟩ := k
  refine ⟨⟨k1.os.trans h1.os, k1.tape.trans h1.tape, k1.output.trans h1.output, Nat.le_trans h1.size k1.size, fun j hj hn => ?_⟩, ?_⟩
  · rw [k1.block j (Nat.lt_of_lt_of_le hj h1.size) ?_, h1.block j hj hn]
    rcases h2 with e | ⟨g, e, hg⟩
    · rw [e]; exact hn
    · rw [e]; intro e2; injection e2 with e2; omega
  · rcases k2 with e | ⟨g, e, hg⟩
    · rw [e]; exact h2
    · exact .inr ⟨g, e, Nat.le_trans h1.size hg⟩
theorem Fw.before {a b c : World} {v vc : Value} (hb : Below a.heap.size a b) (k : Fw b v c vc) : Fw a v c vc := by
  obtain ⟨k1, k2⟩ := k
  refine ⟨⟨k1.os.trans hb.os, k1.tape.trans hb.tape, k1.output.trans hb.output, Nat.le_trans hb.size k1.size, fun j hj hn => ?_⟩, ?_⟩
  · rw [k1.block j (Nat.lt_of_lt_of_le hj hb.size) hn, hb.block j hj]
  · rcases k2 with e | ⟨g, e, hg⟩
    · exact .inl e
    · exact .inr ⟨g, e, Nat.le_trans hb.size hg⟩
section
variable {P : Program} (w : World)
theorem wpList_append_fw {ops : Array Oper} {rest : List Oper} {o : Oper} {a : Act} {Q : Exit → Act → World → Prop} (hgd : o.guard = none) (s x : Operand) (t : TypeId)
    (ho : o.op = .call { callee := .builtin .append, args := #[s, x], argTypes := #[t, t] })
    (B : Nat) (e : TypeId) (i : TypeInfo) (z : Value) (bytes : Nat) (ht : P.underlying t = some (.slice e)) (hi : P.info? e = some i) (hz : i.zero = some z)
    (hsize : i.size = 1) (hby : i.bytes = bytes) (hzs : z.cells.size = 1)
    (v u : Value) (xs news : List Value) (hs : a.eval s = v) (hx : a.eval x = u) (hv : w.ownsRow B e 1 v xs.length xs) (hu : Rd w u news) (h1 : ∀ x ∈ news, x.oneCell' = true)
    (hbytes : (xs.length + news.length) * bytes ≤ 140737488355328) (hmax : xs.length + news.length ≤ maxLen) (hB : B ≤ w.heap.size)
    (h : ∀ v' w', w'.ownsRow B e 1 v' (xs ++ news).length (xs ++ news) → Below B w w' → Fw w v w' v' → wpList P ops Q rest (a.put o.dst v') w') : wpList P ops Q (o :: rest) a w :=
  wpList_plain hgd fun K hK => by
    obtain ⟨Au, c, rfl, c1, c2, c3⟩ := hu
    have hrun : ∃ v' w', (Builtin.append_ #[t, t] o.type #[v, .slice Au news.length c]).run P w = .ok v' w' ∧ w'.ownsRow B e 1 v' (xs ++ news).length (xs ++ news) ∧ Below B w w' ∧ Fw w v w' v' := by
      rcases c3 with ⟨rfl, rfl⟩ | ⟨x, rfl, hc⟩
      · obtain rfl : news = [] := List.eq_nil_of_length_eq_zero (by omega)
        exact ⟨v, w, run_append_owned_none w B t o.type e i 1 ht hi v _ xs hv, by rw [List.append_nil]; exact hv, Below.refl _ _, Fw.refl _ _⟩
      · obtain ⟨v', w', hr, r1, r2, _, r3⟩ := run_append_own_at (P := P) w B t o.type e i z 1 bytes ht hi hz hsize hby hzs (by omega) v _ xs hv x _ c news (by omega) hc h1 hmax hbytes hB
        refine ⟨v', w', hr, by rw [List.length_append]; exact r1, (Below.refl _ _).grown r2 hB ?_, r2, r3.imp id fun e => ⟨_, e, Nat.le_refl _⟩⟩
        intro k hk
        exact (hv.lt k hk).1
    obtain ⟨v', w', hr, h2, h3, h4⟩ := hrun
    unfold Oper.wp execOp
    simp only [ho, resolve, invoke, builtin, Sem.run_bind, Sem.run_pure, Result.andThen_ok, List.map_toArray, List.map_cons, List.map_nil, hs, hx, hr]
    exact hK _ _ (h v' w' h2 h3 h4)
end

/-- The loop's relation: what is still to write. -/
def PrefRelF (G : List UInt8) (bl : List UInt8) (B : Nat) (w : World) (bV : Value) (ov xv : Value) (wr : World) : Prop :=
  ∃ (m x : Nat) (l1 : List UInt8), xv = .int .u64 x ∧ x < 18446744073709551616 ∧ x < 128 ^ (m + 1) ∧ m ≤ 9 ∧ l1 ++ cont (m + 1) x = G ∧ l1.length + m ≤ bl.length + 10 ∧ OwB wr B ov l1 ∧ Below B w wr ∧ Fw w bV wr ov

set_option maxRecDepth 100000 in
set_option maxHeartbeats 1000000 in
theorem refPrefix_fw (B : Nat) (bV : Value) (bl : List UInt8) (f : UInt8) (n : Int) (v : Nat) (w : World) (hb : OwB w B bV bl) (hB : B ≤ w.heap.size) (hbl : bl.length ≤ 200000) (hv : v < 18446744073709551616) :
    Calls Tryz.prog 33 #[bV, .int .u8 f.toNat, .int .i64 n, .int .u64 v] w fun e w' => ∃ v', e = .returned v' ∧ OwB w' B v' (bl ++ pre f (bitsOf n) v) ∧ Below B w w' ∧ Fw w bV w' v' := by
  obtain ⟨i0, hi, hz, hz1, hz2⟩ := info_parts infoU8n
  have Hi := Lib.hid hi
  have Hz := Lib.hid hz
  have Hz1 := Lib.hid hz1
  have Hz2 := Lib.hid hz2
  clear hi hz hz1 hz2
  
  obtain ⟨hk1, hk8, hkn⟩ := bitsOf_range n
  generalize bitsOf n = k at hk1 hk8 hkn ⊢
  have hM := full_range hk1 hk8
  have hfull : full (min (max n 1) 8) = ((2 ^ k - 1 : Nat) : Int) := by rw [hkn, full_nat]
  have ha := hi_andNot f hk1 hk8
  have hlt := hi_lt f hk1 hk8
  have Hor := Lib.hid (hi_or f hk1 hk8)
  have Hpf := Lib.hid (preFirst_val f hk1 hk8 v)
  have Hpre : Hid (pre f k v = if v < 2 ^ k - 1 then [preFirst f k v] else preFirst f k v :: cont 10 (v - (2 ^ k - 1))) := rfl
  
  have hfw := full_wrap (k : Int) (by omega) (by omega)
  rw [full_nat, Int.toNat_natCast] at hfw
  generalize pre f k v = PL at Hpre ⊢
  generalize preFirst f k v = pf at Hpf Hpre
  generalize hiOf f k = hi at ha hlt Hor Hpf
  generalize 2 ^ k - 1 = M at hM ha hlt Hor Hpf Hpre hfull hfw
  have Hfull := Lib.hid hfull
  clear hfull
  obtain ⟨hM1, hM2⟩ := hM
  
  have horM := Hor.out M (by omega)
  by_cases hvM : v < M
  · have hw8v : IntKind.u8.wrap (v : Int) = (v : Int) := by rw [IntKind.wrap_u8]; omega
    have horv := Hor.out v (by omega)
    have Hf := Hpf.out
    have Hp := Hpre.out
    rw [if_pos hvM] at Hp
    rw [show min v M = v from by omega] at Hf
    subst Hp
    have Hf2 := Lib.hid Hf
    clear Hpf Hpre Hf
    go_enter Tryz.func33, Tryz.ntmps33
    go_wp2_with (first
        | (at_builtin
           refine wpList_append_fw _ rfl _ _ 23 rfl B 5 i0 (.int .u8 0) 1 Tryz.underlying23 Hi.out Hz.out Hz1.out Hz2.out rfl _ _ (bl.map bv) _ rfl rfl (hb.alloc _) (Rd.lit w 5 _ 1 rfl (by simp [maxLen])) (by simp [Value.oneCell']) (by simp; omega) (by simp [maxLen]; omega) (by have := hB; simp; omega) ?_
           intro v2 w2 hap2 hb2 hg2))
    go_ret
    refine ⟨v2, rfl, ?_, (Below.refl B w).trans (((Below.refl _ _).alloc hB _).trans hb2), Fw.before ((Below.refl _ _).alloc (Nat.le_refl _) _) hg2⟩
    exact OwB.snoc hap2 pf Hf2.out.symm
  · have Hf := Hpf.out
    have Hp := Hpre.out
    rw [if_neg hvM] at Hp
    rw [show min v M = M from by omega] at Hf
    have Hp2 := Lib.hid Hp
    have Hf2 := Lib.hid Hf
    clear Hpf Hpre Hf Hp
    have hsub : IntKind.u64.wrap ((v : Int) - (M : Int)) = ((v - M : Nat) : Int) := by rw [IntKind.wrap_u64]; omega
    go_enter Tryz.func33, Tryz.ntmps33
    go_wp2_with (first
        | (at_builtin
           refine wpList_append_fw _ rfl _ _ 23 rfl B 5 i0 (.int .u8 0) 1 Tryz.underlying23 Hi.out Hz.out Hz1.out Hz2.out rfl _ _ (bl.map bv) _ rfl rfl (hb.alloc _) (Rd.lit w 5 _ 1 rfl (by simp [maxLen])) (by simp [Value.oneCell']) (by simp; omega) (by simp [maxLen]; omega) (by have := hB; simp; omega) ?_
           intro v2 w2 hap2 hb2 hg2))
    have hap3 := OwB.snoc hap2 pf Hf2.out.symm
    have hb3 : Below B w w2 := (Below.refl B w).trans (((Below.refl _ _).alloc hB _).trans hb2)
    have hn3 : Fw w bV w2 v2 := Fw.before ((Below.refl _ _).alloc (Nat.le_refl _) _) hg2
    clear hap2 hb2 hg2
    have hlen3 : (bl ++ [pf]).length = bl.length + 1 := by simp
    have Hgoal : Hid ((bl ++ [pf]) ++ cont 10 (v - M) = bl ++ PL) := by rw [Hp2.out]; simp [Hid]
    have hl1 : (bl ++ [pf]).length ≤ bl.length + 1 := by omega
    clear hlen3
    generalize bl ++ [pf] = l0 at hap3 Hgoal hl1
    have hq : v - M < 128 ^ (9 + 1) := by have : (18446744073709551616 : Nat) ≤ 128 ^ (9 + 1) := by decide
                                          omega
    clear ha horM Hor hsub hvM Hf2 Hfull Hp2
    have hq64 : v - M < 18446744073709551616 := by omega
    generalize v - M = q at hq hq64 Hgoal ⊢
    have Hgoal2 := Lib.hid Hgoal.out
    clear Hgoal
    go_wp2
    go_loopw [0, 3] (fun ov xv wr => PrefRelF (bl ++ PL) bl B w bV ov xv wr) (fun _ xv _ => (intOf xv).toNat)
    case atStart => exact ⟨9, q, l0, rfl, hq64, hq, by omega, Hgoal2.out, by omega, hap3, hb3, hn3⟩
    case round =>
      obtain ⟨m, x, l1, rfl, hxq, hxm, hm9, hG, hl, hap4, hb4, hn4⟩ := hrel
      have HG := Lib.hid hG
      clear hG hap3 hb3 hn3
      have hxi : (x : Int) < 18446744073709551616 := by omega
      have Hxq := Lib.hid hxq
      have Hxm := Lib.hid hxm
      have Hr0 : Hid (¬ x < 128 → ∃ q, m = q + 1 ∧ x / 128 < 128 ^ (q + 1)) := fun h => pow128 x m hxm (by omega)
      clear hxq hxm hv hq hq64 hxi
      have hsz := hb4.size
      by_cases hx : x < 128
      · have hx' : (x : Int) < 256 := by omega
        go_wp2_with (first
          | (at_builtin
             refine wpList_append_fw _ rfl _ _ 23 rfl B 5 i0 (.int .u8 0) 1 Tryz.underlying23 Hi.out Hz.out Hz1.out Hz2.out rfl _ _ (l1.map bv) _ rfl rfl (hap4.alloc _) (Rd.lit wr 5 _ 1 rfl (by simp [maxLen])) (by simp [Value.oneCell']) (by simp; omega) (by simp [maxLen]; omega) (by have := hb4.size; simp; omega) ?_
             intro v2 w2 hap2 hb2 hg2))
        go_ret
        have hap5 := OwB.snoc hap2 (UInt8.ofNat x) (by rw [UInt8.toNat_ofNat', Nat.mod_eq_of_lt (by have : (2:Nat) ^ 8 = 256 := rfl; omega)])
        refine ⟨_, rfl, ?_, hb4.trans (((Below.refl _ _).alloc (by have := hb4.size; omega) _).trans hb2), hn4.trans (Fw.before ((Below.refl _ _).alloc (Nat.le_refl _) _) hg2)⟩
        rw [← HG.out, cont_last _ _ hx]
        exact hap5
      · obtain ⟨r, rfl, hr⟩ := Hr0.out hx
        have Hr := Lib.hid hr
        clear hr
        have ho := or128 x
        have hand := u64_mask x 7 127 (by rfl) (by omega) Hxq.out
        have ho2 : bits .or .u8 ((x : Int) % 128) 128 = ((x % 128 + 128 : Nat) : Int) := by have h := or128 (x % 128); rw [show (((x % 128 : Nat) : Int) % 256) = (x : Int) % 128 from by omega] at h; rw [h]; omega
        go_wp2_with (first
          | (at_builtin
             refine wpList_append_fw _ rfl _ _ 23 rfl B 5 i0 (.int .u8 0) 1 Tryz.underlying23 Hi.out Hz.out Hz1.out Hz2.out rfl _ _ (l1.map bv) _ rfl rfl (hap4.alloc _) (Rd.lit wr 5 _ 1 rfl (by simp [maxLen])) (by simp [Value.oneCell']) (by simp; omega) (by simp [maxLen]; omega) (by have := hb4.size; simp; omega) ?_
             intro v2 w2 hap2 hb2 hg2))
        have hap5 := OwB.snoc hap2 (UInt8.ofNat (x % 128 + 128)) (by rw [UInt8.toNat_ofNat', Nat.mod_eq_of_lt (by have : (2:Nat) ^ 8 = 256 := rfl; omega)]; omega)
        clear hap2
        go_roundw
        case rel =>
          refine ⟨r, x / 128, l1 ++ [UInt8.ofNat (x % 128 + 128)], by go_num, by have := Hxq.out; omega, Hr.out, by omega, ?_, by simp; omega, hap5, hb4.trans (((Below.refl _ _).alloc (by have := hb4.size; omega) _).trans hb2), hn4.trans (Fw.before ((Below.refl _ _).alloc (Nat.le_refl _) _) hg2)⟩
          rw [← HG.out, cont_more (r + 1) x (by omega), List.append_assoc]
          rfl
        case measure => simp [intOf]; omega

end Go.Proofs.YtebakjdeighdnaaGreat
