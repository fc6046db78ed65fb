/-
  Texts put together: NumB, NumC, NumG, NumD, NumH, NumI, QtA, NumE, NumF, QtB, OwP, NumMath, QtC, NumMath2, HfA, QtD, QtE, OwQ, QtF, OwF.
-/
import Derived.Test.YteopmaaghhendaaM04
import Derived.Test.YteopmaaghhendaaM01
import Derived.Test.YteopmaaghhendaaM05
import Derived.Test.YteopmaaghhendaaRows
import Derived.WalkKit
import Derived.WalkSpells
import Derived.WalkLawsBesides
import Derived.Lib.MinMax
import Derived.Lib.Hide
import Derived.Handy
import Derived.Maps.AppendAt

/-
  Contracts of num.grown, num.putBig, num.Big, num.ReadBig and of the document's Big, ReadBig.
-/
namespace Go.Proofs.Yteopmaaghhendaa
open Go.RowKit
set_option linter.unusedVariables false

theorem infoU8n : (Try.prog.info? 5).map (fun i => (i.zero, i.size, i.bytes)) = some (some (.int .u8 0), 1, 1) := by kernel_rfl

end Go.Proofs.Yteopmaaghhendaa

/-
  Contracts of num.ReadBig and of the document's ReadBig.
-/
namespace Go.Proofs.Yteopmaaghhendaa
open Go.RowKit
set_option linter.unusedVariables false

theorem or_add (a b i : Nat) (h : b < 2 ^ i) : a * 2 ^ i ||| b = a * 2 ^ i + b := by
  rw [← Nat.shiftLeft_eq, Nat.shiftLeft_add_eq_or_of_lt h]

theorem u64_mask (x i : Nat) (m : Int) (hm : m = ((2 ^ i - 1 : Nat) : Int)) (hi : i ≤ 64) (hx : x < 18446744073709551616) : bits .and .u64 (x : Int) m = ((x % 2 ^ i : Nat) : Int) := by
  subst hm
  have h2 : 2 ^ i ≤ 2 ^ 64 := Nat.pow_le_pow_right (by omega) hi
  have h3 : 2 ^ i - 1 < 18446744073709551616 := by have := Nat.two_pow_pos i; omega
  rw [u64_and_nat _ _ hx h3, Nat.and_two_pow_sub_one_eq_mod]

/-- Byte k of a slice that came in. -/
theorem Bs.cell {w : World} {b o c L : Nat} {l : List UInt8} (h : Bs w (.slice (some ⟨b, o, none⟩) L c) l) (k : Nat) (hk : k < l.length) : w.cell? ⟨b, o + k, none⟩ = some (.int .u8 (l[k].toNat : Int)) := by
  obtain ⟨b', o', c', e, _, _, _, hc⟩ := Rd.at_ h (by simp; omega)
  injection e with e1 e2 e3
  injection e1 with e1
  injection e1 with e1 e4
  subst e1; subst e4
  exact hc k _ (by simp [hk, bv])

end Go.Proofs.Yteopmaaghhendaa

/-
  Contracts of num.Prefix and of the document's Prefix.
-/
namespace Go.Proofs.Yteopmaaghhendaa
open Go.RowKit
set_option linter.unusedVariables false

/-- The bits of f above its lowest k. -/
def hiOf (f : UInt8) (k : Nat) : Nat := f.toNat / 2 ^ k * 2 ^ k
def preFirst (f : UInt8) (k v : Nat) : UInt8 := UInt8.ofNat (hiOf f k + min v (2 ^ k - 1))
def cont : Nat → Nat → List UInt8
  | 0, _ => []
  | n + 1, v => if v < 128 then [UInt8.ofNat v] else UInt8.ofNat (v % 128 + 128) :: cont n (v / 128)
/-- A number in a prefix of k bits. -/
def pre (f : UInt8) (k v : Nat) : List UInt8 := if v < 2 ^ k - 1 then [preFirst f k v] else preFirst f k v :: cont 10 (v - (2 ^ k - 1))
/-- The prefix's bits that count. -/
def bitsOf (n : Int) : Nat := (min (max n 1) 8).toNat

theorem bitsOf_range (n : Int) : 1 ≤ bitsOf n ∧ bitsOf n ≤ 8 ∧ min (max n 1) 8 = (bitsOf n : Int) := by unfold bitsOf; omega

theorem k8 {k : Nat} (h1 : 1 ≤ k) (h8 : k ≤ 8) : k = 1 ∨ k = 2 ∨ k = 3 ∨ k = 4 ∨ k = 5 ∨ k = 6 ∨ k = 7 ∨ k = 8 := by omega

theorem full_nat (k : Nat) : full (k : Int) = ((2 ^ k - 1 : Nat) : Int) := by
  unfold full
  have := Nat.two_pow_pos k
  rw [Int.toNat_natCast, Int.ofNat_sub this]
  simp
theorem full_range {k : Nat} (h1 : 1 ≤ k) (h8 : k ≤ 8) : 1 ≤ 2 ^ k - 1 ∧ 2 ^ k - 1 ≤ 255 := by
  rcases k8 h1 h8 with rfl | rfl | rfl | rfl | rfl | rfl | rfl | rfl <;> decide

theorem hi_andNot (f : UInt8) {k : Nat} (h1 : 1 ≤ k) (h8 : k ≤ 8) : bits .andNot .u8 (f.toNat : Int) ((2 ^ k - 1 : Nat) : Int) = (hiOf f k : Int) := by
  have hf := f.toNat_lt
  have hr := full_range h1 h8
  rw [u8_andNot_nat _ _ hf (by omega)]
  unfold hiOf
  have key : ∀ k, k < 9 → ∀ x, x < 256 → x &&& (255 - (2 ^ k - 1)) = x / 2 ^ k * 2 ^ k := by decide +kernel
  rw [key k (by omega) f.toNat hf]

theorem hi_lt (f : UInt8) {k : Nat} (h1 : 1 ≤ k) (h8 : k ≤ 8) : hiOf f k + (2 ^ k - 1) < 256 := by
  have hf : f.toNat < 256 := f.toNat_lt
  unfold hiOf
  have key : ∀ k, k < 9 → ∀ x, x < 256 → x / 2 ^ k * 2 ^ k + (2 ^ k - 1) < 256 := by decide +kernel
  exact key k (by omega) _ hf

theorem hi_or (f : UInt8) {k : Nat} (h1 : 1 ≤ k) (h8 : k ≤ 8) (v : Nat) (hv : v ≤ 2 ^ k - 1) : bits .or .u8 (hiOf f k : Int) (v : Int) = ((hiOf f k + v : Nat) : Int) := by
  have := hi_lt f h1 h8
  have hr := Nat.two_pow_pos k
  rw [u8_or_nat _ _ (by omega) (by omega)]
  unfold hiOf
  rw [or_add _ _ _ (by omega)]

theorem preFirst_val (f : UInt8) {k : Nat} (h1 : 1 ≤ k) (h8 : k ≤ 8) (v : Nat) : ((preFirst f k v).toNat : Int) = ((hiOf f k + min v (2 ^ k - 1) : Nat) : Int) := by
  have := hi_lt f h1 h8
  unfold preFirst
  rw [UInt8.toNat_ofNat', Nat.mod_eq_of_lt]
  have : (2:Nat) ^ 8 = 256 := rfl
  omega

theorem or128 (x : Nat) : bits .or .u8 ((x : Int) % 256) 128 = ((x % 128 + 128 : Nat) : Int) := by
  have key : ∀ y, y < 256 → y ||| 128 = y % 128 + 128 := by decide +kernel
  rw [show ((x : Int) % 256) = ((x % 256 : Nat) : Int) from by omega, show (128 : Int) = ((128 : Nat) : Int) from rfl, u8_or_nat _ _ (by omega) (by omega), key _ (by omega)]
  omega

theorem cont_more (n v : Nat) (h : 128 ≤ v) : cont (n + 1) v = UInt8.ofNat (v % 128 + 128) :: cont n (v / 128) := by
  rw [cont, if_neg (by omega)]
theorem cont_last (n v : Nat) (h : v < 128) : cont (n + 1) v = [UInt8.ofNat v] := by
  rw [cont, if_pos h]
theorem cont_length (n v : Nat) : (cont n v).length ≤ n := by
  induction n generalizing v with
  | zero => simp [cont]
  | succ n ih =>
    rw [cont]
    split
    · simp
    · simp; exact ih _
theorem pow128 (x m : Nat) (h : x < 128 ^ (m + 1)) (hx : 128 ≤ x) : ∃ q, m = q + 1 ∧ x / 128 < 128 ^ (q + 1) := by
  cases m with
  | zero => simp at h; omega
  | succ q => exact ⟨q, rfl, by rw [Nat.pow_succ] at h; omega⟩

end Go.Proofs.Yteopmaaghhendaa

/-
  Contracts of num.ReadVar and of the document's ReadVar.
-/
namespace Go.Proofs.Yteopmaaghhendaa
open Go.RowKit
set_option linter.unusedVariables false

def Ans3 (x : Int × Int × Int) : Ending := .returned (.tuple #[.int .u64 x.1, .int .i64 x.2.1, .int .i64 x.2.2])

theorem ans3 {a b c : Int} {x : Int × Int × Int} (h : x = (a, b, c)) : Ending.returned (.tuple #[.int .u64 a, .int .i64 b, .int .i64 c]) = Ans3 x := by subst h; rfl

theorem Bs.cell0 {w : World} {bV : Value} {x : UInt8} {t : List UInt8} (h : Bs w bV (x :: t)) : ∃ b o L c, bV = .slice (some ⟨b, o, none⟩) L c ∧ Hid (L = t.length + 1) ∧ 1 ≤ L ∧ L ≤ c ∧ c ≤ maxLen ∧ w.cell? ⟨b, o, none⟩ = some (.int .u8 (x.toNat : Int)) := by
  obtain ⟨b, o, c, hv, h1, h2, -, h3⟩ := Rd.at_ h (by simp)
  have := h3 0 (bv x) (by simp)
  exact ⟨b, o, _, c, hv, by simp [Hid], by simp, h1, h2, by simpa [bv] using this⟩

end Go.Proofs.Yteopmaaghhendaa

/-
  Contracts of num.ReadPrefix and of the document's ReadPrefix.
-/
namespace Go.Proofs.Yteopmaaghhendaa
open Go.RowKit
set_option linter.unusedVariables false

def maxVar : Nat := 4611686018427387903
def rpGo : List UInt8 → Nat → Nat → Int × Int × Int
  | [], _, _ => (0, 0, 20)
  | c :: t, i, v =>
    if (maxVar - v) / 2 ^ (7 * i) < c.toNat % 128 then (0, 0, 21)
    else if c.toNat < 128 then (((v + c.toNat % 128 * 2 ^ (7 * i) : Nat) : Int), ((i + 2 : Nat) : Int), 0)
    else if i + 1 = 10 then (0, 0, 21)
    else rpGo t (i + 1) (v + c.toNat % 128 * 2 ^ (7 * i))
/-- What ReadPrefix answers at k bits. -/
def rp (k : Nat) : List UInt8 → Int × Int × Int
  | [] => (0, 0, 20)
  | c :: t => if c.toNat % 2 ^ k < 2 ^ k - 1 then (((c.toNat % 2 ^ k : Nat) : Int), 1, 0) else rpGo t 0 (c.toNat % 2 ^ k)

/-- What a byte comes to: p are its seven low bits. -/
def rpAns (c : Nat) (t : List UInt8) (i v p : Nat) : Int × Int × Int :=
  if (maxVar - v) / 2 ^ (7 * i) < p then (0, 0, 21)
  else if c < 128 then (((v + p * 2 ^ (7 * i) : Nat) : Int), ((i + 2 : Nat) : Int), 0)
  else if i + 1 = 10 then (0, 0, 21)
  else rpGo t (i + 1) (v + p * 2 ^ (7 * i))
theorem rpGo_ans (c : UInt8) (t : List UInt8) (i v : Nat) : rpGo (c :: t) i v = rpAns c.toNat t i v (c.toNat % 128) := rfl
theorem rpAns_big (c : Nat) (t : List UInt8) (i v p : Nat) (h : (maxVar - v) / 2 ^ (7 * i) < p) : rpAns c t i v p = (0, 0, 21) := by simp only [rpAns, if_pos h]
theorem rpAns_last (c : Nat) (t : List UInt8) (i v p : Nat) (r : Int) (h : ¬ (maxVar - v) / 2 ^ (7 * i) < p) (hc : c < 128) (hr : ((v + p * 2 ^ (7 * i) : Nat) : Int) = r) : rpAns c t i v p = (r, ((i + 2 : Nat) : Int), 0) := by simp only [rpAns, if_neg h, if_pos hc, hr]
theorem rpAns_ten (c : Nat) (t : List UInt8) (v p : Nat) (h : ¬ (maxVar - v) / 2 ^ (7 * 9) < p) (hc : ¬ c < 128) : rpAns c t 9 v p = (0, 0, 21) := by simp only [rpAns, if_neg h, if_neg hc]; rfl
theorem rpAns_on (c : Nat) (t : List UInt8) (i v p r : Nat) (h : ¬ (maxVar - v) / 2 ^ (7 * i) < p) (hc : ¬ c < 128) (hi : ¬ i + 1 = 10) (hr : v + p * 2 ^ (7 * i) = r) : rpAns c t i v p = rpGo t (i + 1) r := by simp only [rpAns, if_neg h, if_neg hc, if_neg hi, hr]

theorem pfits (p v i : Nat) (hv : v ≤ maxVar) (h : ¬ (maxVar - v) / 2 ^ (7 * i) < p) : v + p * 2 ^ (7 * i) ≤ maxVar := by
  have h1 : p * 2 ^ (7 * i) ≤ maxVar - v := by
    have := Nat.mul_le_mul_right (2 ^ (7 * i)) (Nat.not_lt.1 h)
    exact Nat.le_trans this (Nat.div_mul_le_self _ _)
  omega

theorem and127 (y : UInt8) : bits .and .u8 (y.toNat : Int) 127 = ((y.toNat % 128 : Nat) : Int) := by
  have hy := y.toNat_lt
  have key : ∀ z, z < 256 → z &&& 127 = z % 128 := by decide +kernel
  rw [show (127 : Int) = ((127 : Nat) : Int) from rfl, u8_and_nat _ _ hy (by omega), key _ hy]
theorem shl_fit (p v i : Nat) (S : Int) (h : v + p * 2 ^ (7 * i) ≤ maxVar) (hS : IntKind.u64.wrap ((p : Int) * 2 ^ (7 * i)) = S) : S = ((p * 2 ^ (7 * i) : Nat) : Int) := by
  have e : (p : Int) * 2 ^ (7 * i) = ((p * 2 ^ (7 * i) : Nat) : Int) := by push_cast; rfl
  rw [← hS, IntKind.wrap_u64, e]
  unfold maxVar at h
  omega
theorem div_small (v D Q : Int) (i p : Nat) (h : D = 4611686018427387903 - v) (h0 : 0 ≤ v) (h1 : v ≤ 4611686018427387903) (hQ : D / 2 ^ (7 * i) = Q) (hb : Q < (p : Int)) : ((maxVar - v.toNat) / 2 ^ (7 * i) : Nat) < p := by
  have : (((maxVar - v.toNat) / 2 ^ (7 * i) : Nat) : Int) = Q := by
    rw [← hQ, h]
    push_cast
    congr 1
    unfold maxVar
    omega
  omega
theorem div_fits (v D Q : Int) (i p : Nat) (h : D = 4611686018427387903 - v) (h0 : 0 ≤ v) (h1 : v ≤ 4611686018427387903) (hQ : D / 2 ^ (7 * i) = Q) (hb : ¬ Q < (p : Int)) : ¬ ((maxVar - v.toNat) / 2 ^ (7 * i) : Nat) < p := by
  have : (((maxVar - v.toNat) / 2 ^ (7 * i) : Nat) : Int) = Q := by
    rw [← hQ, h]
    push_cast
    congr 1
    unfold maxVar
    omega
  omega

def RpRel (R : Int × Int × Int) (t : List UInt8) (T : Nat) (vv iv : Value) : Prop :=
  ∃ (i : Nat) (v : Int), iv = .int .i64 i ∧ vv = .int .u64 v ∧ 0 ≤ v ∧ v ≤ 4611686018427387903 ∧ i ≤ T ∧ i ≤ 9 ∧ rpGo (t.drop i) i v.toNat = R

theorem readPrefix_nil (bV : Value) (n : Int) (w : World) (hb : Bs w bV []) :
    Calls Try.prog 57 #[bV, .int .i64 n] w fun e w' => e = Ans3 (rp (bitsOf n) []) ∧ w = w' := by
  obtain ⟨A, L, c, rfl, hL, h1, h2, h3, h4⟩ := hb.open_
  have hL0 : L = 0 := hL.out
  subst hL0
  clear hb hL h3 h4
  go_enter Try.func57, Try.ntmps57
  go_wp2
  go_ret3
  exact ⟨rfl, rfl⟩

set_option maxHeartbeats 1000000 in
theorem readPrefix_cons (bV : Value) (x : UInt8) (t : List UInt8) (n : Int) (w : World) (hb : Bs w bV (x :: t)) (hm : (x :: t).length ≤ 1000000) :
    Calls Try.prog 57 #[bV, .int .i64 n] w fun e w' => e = Ans3 (rp (bitsOf n) (x :: t)) ∧ w = w' := by
  obtain ⟨hk1, hk8, hkn⟩ := bitsOf_range n
  generalize bitsOf n = k at hk1 hk8 hkn ⊢
  have hM := full_range hk1 hk8
  have hfull : full (min (max n 1) 8) = ((2 ^ k - 1 : Nat) : Int) := by rw [hkn, full_nat]
  have hx256 := x.toNat_lt
  have hand := u64_mask x.toNat k _ rfl (by omega) (by omega)
  have hrp : rp k (x :: t) = if x.toNat % 2 ^ k < 2 ^ k - 1 then (((x.toNat % 2 ^ k : Nat) : Int), 1, 0) else rpGo t 0 (x.toNat % 2 ^ k) := rfl
  have hml : x.toNat % 2 ^ k ≤ x.toNat := Nat.mod_le _ _
  generalize rp k (x :: t) = R at hrp ⊢
  generalize x.toNat % 2 ^ k = v0 at hand hrp hml
  generalize 2 ^ k - 1 = M at hM hfull hand hrp
  have Hfull := Lib.hid hfull
  obtain ⟨hM1, hM2⟩ := hM
  obtain ⟨b, o, L, c, rfl, hL, h0, h1, h2, hc⟩ := hb.cell0
  have Hb := Lib.hid hb
  clear hb hfull hkn
  have hne : ((L : Int) == 0) = false := by simp; omega
  unfold maxLen at h2
  by_cases hlt : v0 < M
  · rw [if_pos hlt] at hrp
    have Hrp := Lib.hid hrp
    clear hrp
    go_enter Try.func57, Try.ntmps57
    go_wp2_with (go_at_call 75; refine (fullPrefix_any _ _).mono ?_; rintro e w' ⟨rfl, rfl⟩; rw [Hfull.out])
    go_ret3
    exact ⟨ans3 Hrp.out, rfl⟩
  · rw [if_neg hlt] at hrp
    have Hrp := Lib.hid hrp
    clear hrp
    cases t with
    | nil =>
      have hL1 : L = 1 := hL.out
      subst hL1
      clear hL
      by_cases hc1 : c = 1
      · subst hc1
        go_enter Try.func57, Try.ntmps57
        go_wp2_with (go_at_call 75; refine (fullPrefix_any _ _).mono ?_; rintro e w' ⟨rfl, rfl⟩; rw [Hfull.out])
        go_rounds 1
        go_ret3
        exact ⟨ans3 Hrp.out, rfl⟩
      · go_enter Try.func57, Try.ntmps57
        go_wp2_with (go_at_call 75; refine (fullPrefix_any _ _).mono ?_; rintro e w' ⟨rfl, rfl⟩; rw [Hfull.out])
        go_rounds 1
        go_ret3
        exact ⟨ans3 Hrp.out, rfl⟩
    | cons y s =>
      have hcell : ∀ i (h : i < (y :: s).length), w.cell? ⟨b, o + 1 + i, none⟩ = some (.int .u8 ((y :: s)[i].toNat : Int)) := by
        intro i h
        have := Hb.out.cell (i + 1) (by simp at h ⊢; omega)
        rw [Nat.add_right_comm, Nat.add_assoc]
        simpa using this
      have hlen1 : (y :: s).length = L - 1 := by have := hL.out; simp at this ⊢; omega
      have hL2 : L ≥ 2 := by have := hL.out; simp at this; omega
      have hc1 : ¬ c = 1 := by omega
      go_enter Try.func57, Try.ntmps57
      go_wp2_with (go_at_call 75; refine (fullPrefix_any _ _).mono ?_; rintro e w' ⟨rfl, rfl⟩; rw [Hfull.out])
      generalize y :: s = t at hcell hlen1 Hrp hL Hb hm
      generalize hL' : L - 1 = T at hlen1
      have HT := Lib.hid hL'
      have Hlen1 := Lib.hid hlen1
      have Hcell := Lib.hid hcell
      have hT : T ≤ 1000000 := by simp at hm; omega
      clear hL' hlen1 hcell hc hand
      go_loop [8, 30] (fun vv iv => RpRel R t T vv iv) (fun _ i => T - (intOf i).toNat)
      case atStart => exact ⟨0, v0, rfl, rfl, by omega, by omega, by omega, by omega, by simpa using Hrp.out.symm⟩
      case round =>
        obtain ⟨i, v, rfl, rfl, hv0, hv1, hi, hi9, hR⟩ := hrel
        have HR := Lib.hid hR
        clear hR
        by_cases hiT : i < T
        · have hit : i < t.length := by have := Hlen1.out; omega
          have hd : t.drop i = t[i] :: t.drop (i + 1) := List.drop_eq_getElem_cons hit
          have HR2 := HR.out
          rw [hd] at HR2
          have HR3 := Lib.hid HR2
          have hc := Hcell.out i hit
          have hy := t[i].toNat_lt
          clear hd HR2
          generalize t[i] = y at hc hy HR3
          obtain ⟨p, hpe⟩ : ∃ p, y.toNat % 128 = p := ⟨_, rfl⟩
          have hpand : bits .and .u8 (y.toNat : Int) 127 = (p : Int) := by rw [and127 y, hpe]
          have hp : p < 128 := by omega
          have HR4 : Hid (rpAns y.toNat (t.drop (i + 1)) i v.toNat p = R) := by have h := HR3.out; rw [rpGo_ans, hpe] at h; exact h
          have Hpe := Lib.hid hpe
          clear hpe HR3 hy
          generalize y.toNat = z at hc hpand HR4 Hpe
          have hlt' : M ≤ v0 := by omega
          clear hlt
          obtain ⟨D, hD⟩ : ∃ D, IntKind.u64.wrap (4611686018427387903 - v) = D := ⟨_, rfl⟩
          have HD : Hid (D = 4611686018427387903 - v) := by rw [← hD, IntKind.wrap_u64]; unfold Hid; omega
          obtain ⟨Q, hQ⟩ : ∃ Q, D / 2 ^ (7 * i) = Q := ⟨_, rfl⟩
          have Hv0 : Bx (0 ≤ v) := ⟨hv0⟩
          have Hv1 : Bx (v ≤ 4611686018427387903) := ⟨hv1⟩
          clear hv0 hv1
          have hbig0 : Q < (p : Int) ∨ (p : Int) ≤ Q := by omega
          rcases hbig0 with hbig | hbig
          · go_wp2
            go_ret3
            exact ⟨ans3 (HR4.out.symm.trans (rpAns_big z _ i _ p (div_small v D Q i p HD.out Hv0.out Hv1.out hQ hbig))), rfl⟩
          · have HQ := div_fits v D Q i p HD.out Hv0.out Hv1.out hQ (by omega)
            have hfit := pfits p v.toNat i (by have := Hv0.out; have := Hv1.out; unfold maxVar; omega) HQ
            obtain ⟨S, hS⟩ : ∃ S, IntKind.u64.wrap ((p : Int) * 2 ^ (7 * i)) = S := ⟨_, rfl⟩
            have hSe := shl_fit p v.toNat i S hfit hS
            have hS0 : 0 ≤ S := by omega
            have HVS : Bx (v + S ≤ 4611686018427387903) := ⟨by have := Hv0.out; unfold maxVar at hfit; omega⟩
            have HVSe : Hid (((v.toNat + p * 2 ^ (7 * i) : Nat) : Int) = v + S) := by have := Hv0.out; unfold Hid; omega
            obtain ⟨V, hV⟩ : ∃ V, IntKind.u64.wrap (v + S) = V := ⟨_, rfl⟩
            have HV : Hid (V = v + S) := by have := Hv0.out; have := HVS.out; rw [← hV, IntKind.wrap_u64]; unfold Hid; omega
            have HSe : Hid (((v.toNat + p * 2 ^ (7 * i) : Nat) : Int) = V) := HVSe.out.trans HV.out.symm
            have HQ2 : Bx _ := ⟨HQ⟩
            have HS0 : Bx (0 ≤ S) := ⟨hS0⟩
            have hbb : decide (Q < (p : Int)) = false := by rw [decide_eq_false_iff_not]; omega
            clear hbig
            have HVV : Hid (IntKind.u64.wrap (v + IntKind.u64.wrap ((p : Int) * 2 ^ (7 * i))) = V) := by rw [hS]; exact hV
            have HVr : Hid (V = IntKind.u64.wrap (v + IntKind.u64.wrap ((p : Int) * 2 ^ (7 * i)))) := HVV.out.symm
            clear hSe HQ hfit hS0 hS hV
            have hz0 : z < 128 ∨ 128 ≤ z := by omega
            rcases hz0 with hz | hz
            · have hzb : decide ((z : Int) < 128) = true := by rw [decide_eq_true_iff]; omega
              go_wp2
              go_ret3
              exact ⟨ans3 (HR4.out.symm.trans (rpAns_last z _ i _ p _ HQ2.out hz (HSe.out.trans HVr.out))), rfl⟩
            · have hi0 : i = 9 ∨ i ≤ 8 := by omega
              have hzb : decide ((z : Int) < 128) = false := by rw [decide_eq_false_iff_not]; omega
              rcases hi0 with hi8 | hi8
              · have hten : (((i : Int) + 1) == 10) = true := by rw [beq_iff_eq]; omega
                have Hi8 := Lib.hid hi8
                clear hi8
                go_wp2
                go_ret3
                have h := HR4.out
                have hq := HQ2.out
                rw [Hi8.out] at h hq
                exact ⟨ans3 (h.symm.trans (rpAns_ten z _ _ p hq (by omega))), rfl⟩
              · have hten : (((i : Int) + 1) == 10) = false := by rw [beq_eq_false_iff_ne]; omega
                have HR5 : Hid (rpGo (t.drop (i + 1)) (i + 1) (v.toNat + p * 2 ^ (7 * i)) = R) := by
                  have h := HR4.out; rw [rpAns_on z _ i _ p _ HQ2.out (by omega) (by omega) rfl] at h; exact h
                go_wp2
                go_round
                case rel =>
                  have := HS0.out; have := HV.out; have := HVS.out; have := Hv0.out
                  refine ⟨i + 1, V, by go_num, by rw [HVr.out], by omega, by omega, by omega, by omega, ?_⟩
                  have h := HR5.out
                  rw [show v.toNat + p * 2 ^ (7 * i) = V.toNat from by have := HSe.out; omega] at h
                  exact h
                case measure => simp [intOf]; omega
        · obtain rfl : i = T := by omega
          go_wp2
          go_ret3
          have h := HR.out
          rw [List.drop_of_length_le (by have := Hlen1.out; omega)] at h
          exact ⟨ans3 (by rw [← h]; rfl), rfl⟩

end Go.Proofs.Yteopmaaghhendaa

/-
  The contract of the document's ReadPrefix.
-/
namespace Go.Proofs.Yteopmaaghhendaa
open Go.RowKit
set_option linter.unusedVariables false

theorem readPrefix_any (bV : Value) (l : List UInt8) (n : Int) (w : World) (hb : Bs w bV l) (hm : l.length ≤ 1000000) :
    Calls Try.prog 57 #[bV, .int .i64 n] w fun e w' => e = Ans3 (rp (bitsOf n) l) ∧ w = w' := by
  cases l with
  | nil => exact readPrefix_nil bV n w hb
  | cons x t => exact readPrefix_cons bV x t n w hb hm
end Go.Proofs.Yteopmaaghhendaa

/-
  Contracts of the small functions of package qtab (most, sum, less, Relative, Post, EncodeCount, baseAt), and of the document's most, Relative, Post, EncodeCount.
-/
namespace Go.Proofs.Yteopmaaghhendaa
open Go.RowKit
set_option linter.unusedVariables false

/-- How many entries a table of a capacity has at most. -/
def mostN (cap : Int) : Nat := (max cap 0).toNat / 32

theorem mostN_lt {cap : Int} (h : cap < 9223372036854775808) : mostN cap < 288230376151711744 := by unfold mostN; omega
theorem retI {k : IntKind} {a b : Int} (h : a = b) : Ending.returned (.int k a) = .returned (.int k b) := by rw [h]
theorem u64_keep {a : Int} (h0 : 0 ≤ a) (h1 : a < 18446744073709551616) : IntKind.u64.wrap a = a := by rw [IntKind.wrap_u64]; omega

theorem most_any (cap : Int) (h : cap < 9223372036854775808) (w : World) :
    Calls Try.prog 77 #[.int .i64 cap] w fun e w' => e = .returned (.int .u64 (mostN cap)) ∧ w = w' := by
  obtain ⟨x, hx⟩ : ∃ x : Nat, max cap 0 = (x : Int) := ⟨(max cap 0).toNat, by omega⟩
  have hm : mostN cap = x / 32 := by unfold mostN; rw [hx]; rfl
  rw [hm]
  have hxl : x < 9223372036854775808 := by omega
  have H := Bx.mk hxl
  clear h hxl hm
  go_enter Try.func77, Try.ntmps77
  go_wp2
  go_ret
  have h := H.out
  exact ⟨retI (by rw [u64_keep (a := (x:Int)) (by omega) (by omega), Int.tdiv_eq_ediv_of_nonneg (by omega), u64_keep (by omega) (by omega)]; omega), rfl⟩

theorem refMost_any (cap : Int) (h : cap < 9223372036854775808) (w : World) :
    Calls Try.prog 66 #[.int .i64 cap] w fun e w' => e = .returned (.int .u64 (mostN cap)) ∧ w = w' := by
  obtain ⟨x, hx⟩ : ∃ x : Nat, max cap 0 = (x : Int) := ⟨(max cap 0).toNat, by omega⟩
  have hm : mostN cap = x / 32 := by unfold mostN; rw [hx]; rfl
  rw [hm]
  have hxl : x < 9223372036854775808 := by omega
  have H := Bx.mk hxl
  clear h hxl hm
  go_enter Try.func66, Try.ntmps66
  go_wp2
  go_ret
  have h := H.out
  exact ⟨retI (by rw [u64_keep (a := (x:Int)) (by omega) (by omega), Int.tdiv_eq_ediv_of_nonneg (by omega), u64_keep (by omega) (by omega)]; omega), rfl⟩

/-- A number, or none. -/
def Opt : Option Nat → Ending
  | some n => .returned (.tuple #[.int .u64 (n : Int), .bool true])
  | none => .returned (.tuple #[.int .u64 0, .bool false])
theorem Opt_some (n : Nat) : Opt (some n) = .returned (.tuple #[.int .u64 (n : Int), .bool true]) := rfl
theorem Opt_none : Opt none = .returned (.tuple #[.int .u64 0, .bool false]) := rfl
def sumN (a b m : Nat) : Option Nat := if a + b ≤ m then some (a + b) else none
def subN (a b : Nat) : Option Nat := if b ≤ a then some (a - b) else none
def relN (base i : Nat) : Option Nat := if i < base then some (base - 1 - i) else none

/-- A number under a letter. -/
theorem letter (a : Nat) : ∃ A : Int, (a : Int) = A := ⟨_, rfl⟩

theorem sum_any (a b m : Nat) (ha : a < 18446744073709551616) (hb : b < 18446744073709551616) (hm : m < 18446744073709551616) (w : World) :
    Calls Try.prog 78 #[.int .u64 a, .int .u64 b, .int .u64 m] w fun e w' => e = Opt (sumN a b m) ∧ w = w' := by
  have HA := Bx.mk ha
  have HB := Bx.mk hb
  have HM := Bx.mk hm
  clear ha hb hm
  rcases Nat.lt_or_ge m a with h | h
  · have hs : sumN a b m = none := by unfold sumN; rw [if_neg (by omega)]
    rw [hs]
    rw [Opt_none]
    obtain ⟨A, hA⟩ := letter a
    obtain ⟨B, hB⟩ := letter b
    obtain ⟨M, hM⟩ := letter m
    rw [hA, hB, hM]
    have h1 : decide (M < A) = true := by rw [decide_eq_true_iff]; omega
    clear h hs hA hB hM HA HB HM
    go_enter Try.func78, Try.ntmps78
    go_wp2
    go_ret2
    exact ⟨rfl, rfl⟩
  · rcases Nat.lt_or_ge (m - a) b with h' | h'
    · have hs : sumN a b m = none := by unfold sumN; rw [if_neg (by omega)]
      rw [hs]
      rw [Opt_none]
      obtain ⟨A, hA⟩ := letter a
      obtain ⟨B, hB⟩ := letter b
      obtain ⟨M, hM⟩ := letter m
      obtain ⟨D, hD⟩ := letter (m - a)
      rw [hA, hB, hM]
      have h1 : decide (M < A) = false := by rw [decide_eq_false_iff_not]; omega
      have hsub : IntKind.u64.wrap (M - A) = D := by rw [show M - A = D from by omega]; exact u64_keep (by omega) (by have := HM.out; omega)
      have h2 : decide (D < B) = true := by rw [decide_eq_true_iff]; omega
      clear h h' hs hA hB hM hD HA HB HM
      go_enter Try.func78, Try.ntmps78
      go_wp2
      go_ret2
      exact ⟨rfl, rfl⟩
    · have hs : sumN a b m = some (a + b) := by unfold sumN; rw [if_pos (by omega)]
      rw [hs]
      rw [Opt_some]
      obtain ⟨A, hA⟩ := letter a
      obtain ⟨B, hB⟩ := letter b
      obtain ⟨M, hM⟩ := letter m
      obtain ⟨D, hD⟩ := letter (m - a)
      obtain ⟨S, hS⟩ := letter (a + b)
      rw [hA, hB, hM, hS]
      have h1 : decide (M < A) = false := by rw [decide_eq_false_iff_not]; omega
      have hsub : IntKind.u64.wrap (M - A) = D := by rw [show M - A = D from by omega]; exact u64_keep (by omega) (by have := HM.out; omega)
      have h2 : decide (D < B) = false := by rw [decide_eq_false_iff_not]; omega
      have hadd : IntKind.u64.wrap (A + B) = S := by rw [show A + B = S from by omega]; exact u64_keep (by omega) (by have := HM.out; omega)
      clear h h' hs hA hB hM hD hS HA HB HM
      go_enter Try.func78, Try.ntmps78
      go_wp2
      go_ret2
      exact ⟨rfl, rfl⟩

theorem less_any (a b : Nat) (ha : a < 18446744073709551616) (w : World) :
    Calls Try.prog 79 #[.int .u64 a, .int .u64 b] w fun e w' => e = Opt (subN a b) ∧ w = w' := by
  have HA := Bx.mk ha
  clear ha
  rcases Nat.lt_or_ge a b with h | h
  · have hs : subN a b = none := by unfold subN; rw [if_neg (by omega)]
    rw [hs]
    rw [Opt_none]
    obtain ⟨A, hA⟩ := letter a
    obtain ⟨B, hB⟩ := letter b
    rw [hA, hB]
    have h1 : decide (A < B) = true := by rw [decide_eq_true_iff]; omega
    clear h hs hA hB HA
    go_enter Try.func79, Try.ntmps79
    go_wp2
    go_ret2
    exact ⟨rfl, rfl⟩
  · have hs : subN a b = some (a - b) := by unfold subN; rw [if_pos (by omega)]
    rw [hs]
    rw [Opt_some]
    obtain ⟨A, hA⟩ := letter a
    obtain ⟨B, hB⟩ := letter b
    obtain ⟨D, hD⟩ := letter (a - b)
    rw [hA, hB, hD]
    have h1 : decide (A < B) = false := by rw [decide_eq_false_iff_not]; omega
    have hsub : IntKind.u64.wrap (A - B) = D := by rw [show A - B = D from by omega]; exact u64_keep (by omega) (by have := HA.out; omega)
    clear h hs hA hB hD HA
    go_enter Try.func79, Try.ntmps79
    go_wp2
    go_ret2
    exact ⟨rfl, rfl⟩

theorem relative_any (a b : Nat) (ha : a < 18446744073709551616) (w : World) :
    Calls Try.prog 95 #[.int .u64 a, .int .u64 b] w fun e w' => e = Opt (relN a b) ∧ w = w' := by
  have HA := Bx.mk ha
  clear ha
  rcases Nat.lt_or_ge b a with h | h
  · have hs : relN a b = some (a - 1 - b) := by unfold relN; rw [if_pos (by omega)]
    rw [hs]
    rw [Opt_some]
    obtain ⟨A, hA⟩ := letter a
    obtain ⟨B, hB⟩ := letter b
    obtain ⟨C, hC⟩ := letter (a - 1)
    obtain ⟨D, hD⟩ := letter (a - 1 - b)
    rw [hA, hB, hD]
    have h1 : decide (A ≤ B) = false := by rw [decide_eq_false_iff_not]; omega
    have hpre : IntKind.u64.wrap (A - 1) = C := by rw [show A - 1 = C from by omega]; exact u64_keep (by omega) (by have := HA.out; omega)
    have hsub : IntKind.u64.wrap (C - B) = D := by rw [show C - B = D from by omega]; exact u64_keep (by omega) (by have := HA.out; omega)
    clear h hs hA hB hC hD HA
    go_enter Try.func95, Try.ntmps95
    go_wp2
    go_ret2
    exact ⟨rfl, rfl⟩
  · have hs : relN a b = none := by unfold relN; rw [if_neg (by omega)]
    rw [hs]
    rw [Opt_none]
    obtain ⟨A, hA⟩ := letter a
    obtain ⟨B, hB⟩ := letter b
    rw [hA, hB]
    have h1 : decide (A ≤ B) = true := by rw [decide_eq_true_iff]; omega
    clear h hs hA hB HA
    go_enter Try.func95, Try.ntmps95
    go_wp2
    go_ret2
    exact ⟨rfl, rfl⟩

theorem sum_62 (a b : Nat) (ha : a < 18446744073709551616) (hb : b < 18446744073709551616) (w : World) :
    Calls Try.prog 78 #[.int .u64 a, .int .u64 b, .int .u64 4611686018427387903] w fun e w' => e = Opt (sumN a b 4611686018427387903) ∧ w = w' := by
  have hc := sum_any a b 4611686018427387903 ha hb (by omega) w
  obtain ⟨M, hM⟩ := letter 4611686018427387903
  rw [hM] at hc
  obtain rfl : M = 4611686018427387903 := by omega
  exact hc

theorem post_any (a b : Nat) (ha : a < 18446744073709551616) (hb : b < 18446744073709551616) (w : World) :
    Calls Try.prog 96 #[.int .u64 a, .int .u64 b] w fun e w' => e = Opt (sumN a b 4611686018427387903) ∧ w = w' := by
  have hc := sum_62 a b ha hb
  generalize sumN a b 4611686018427387903 = o at hc ⊢
  obtain ⟨A, hA⟩ := letter a
  obtain ⟨B, hB⟩ := letter b
  simp only [hA, hB] at hc ⊢
  have HC := Bx.mk hc
  clear hc hA hB ha hb
  cases o with
  | none =>
    rw [Opt_none] at HC ⊢
    go_enter Try.func96, Try.ntmps96
    go_wp2_with (go_at_call 78; refine (HC.out _).mono ?_; rintro e w' ⟨rfl, rfl⟩)
    go_ret2
    exact ⟨rfl, rfl⟩
  | some n =>
    obtain ⟨N, hN⟩ := letter n
    rw [Opt_some] at HC ⊢
    rw [hN] at HC ⊢
    clear hN
    go_enter Try.func96, Try.ntmps96
    go_wp2_with (go_at_call 78; refine (HC.out _).mono ?_; rintro e w' ⟨rfl, rfl⟩)
    go_ret2
    exact ⟨rfl, rfl⟩

end Go.Proofs.Yteopmaaghhendaa

/-
  Contracts of num.Var and of the document's Var, Vars.
-/
namespace Go.Proofs.Yteopmaaghhendaa
open Go.RowKit
set_option linter.unusedVariables false

def small (x : UInt64) : Prop := x.toNat < 4611686018427387904
instance (x : UInt64) : Decidable (small x) := inferInstanceAs (Decidable (_ < _))
end Go.Proofs.Yteopmaaghhendaa

/-
  Contracts of the document's Var, Vars.
-/
namespace Go.Proofs.Yteopmaaghhendaa
open Go.RowKit
set_option linter.unusedVariables false

end Go.Proofs.Yteopmaaghhendaa

/-
  Contracts of qtab.EncodeCount, and of the document's EncodeCount, Relative, Post.
-/
namespace Go.Proofs.Yteopmaaghhendaa
open Go.RowKit
set_option linter.unusedVariables false

theorem refEncodeCount_any (a : Nat) (cap : Int) (ha : a < 18446744073709551616) (hc : cap < 9223372036854775808) (w : World) :
    Calls Try.prog 47 #[.int .u64 a, .int .i64 cap] w fun e w' => e = .returned (.int .u64 (ecN a (mostN cap))) ∧ w = w' := by
  have HC := Bx.mk (refMost_any cap hc)
  have hm := mostN_lt hc
  generalize mostN cap = m at *
  rcases Nat.eq_zero_or_pos a with rfl | h
  · have hs : ecN 0 m = 0 := by unfold ecN; rw [if_pos (.inl rfl)]
    rw [hs]
    obtain ⟨M, hM⟩ := letter m
    obtain ⟨W, hW⟩ := letter (2 * m)
    simp only [hM] at HC
    have hmul : IntKind.u64.wrap (2 * M) = W := by rw [show 2 * M = W from by omega]; exact u64_keep (by omega) (by omega)
    clear hs hM hW hm ha hc
    go_enter Try.func47, Try.ntmps47
    go_wp2_with (go_at_call 66; refine (HC.out _).mono ?_; rintro e w' ⟨rfl, rfl⟩)
    go_ret
    exact ⟨rfl, rfl⟩
  rcases Nat.eq_zero_or_pos m with rfl | h'
  · have hs : ecN a 0 = 0 := by unfold ecN; rw [if_pos (.inr rfl)]
    rw [hs]
    obtain ⟨A, hA⟩ := letter a
    simp only [hA]
    have h1 : (A == 0) = false := by rw [beq_eq_false_iff_ne]; omega
    clear hs hA hm ha hc h
    go_enter Try.func47, Try.ntmps47
    go_wp2_with (go_at_call 66; refine (HC.out _).mono ?_; rintro e w' ⟨rfl, rfl⟩)
    go_ret
    exact ⟨rfl, rfl⟩
  · have hs : ecN a m = a % (2 * m) + 1 := by unfold ecN; rw [if_neg (by omega)]
    rw [hs]
    obtain ⟨A, hA⟩ := letter a
    obtain ⟨M, hM⟩ := letter m
    obtain ⟨W, hW⟩ := letter (2 * m)
    obtain ⟨R, hR⟩ := letter (a % (2 * m))
    obtain ⟨E, hE⟩ := letter (a % (2 * m) + 1)
    simp only [hA, hE, hM] at HC ⊢
    have hlt := Nat.mod_lt a (show 0 < 2 * m by omega)
    have hW2 : ((2:Nat):Int) * M = W := by rw [← hM, ← hW]; exact (Int.natCast_mul 2 m).symm
    have hmul : IntKind.u64.wrap (2 * M) = W := by rw [show 2 * M = W from by omega]; exact u64_keep (by omega) (by omega)
    have h1 : (A == 0) = false := by rw [beq_eq_false_iff_ne]; omega
    have h2 : (W == 0) = false := by rw [beq_eq_false_iff_ne]; omega
    have h3 : (M == 0) = false := by rw [beq_eq_false_iff_ne]; omega
    have h4 : ¬ W = 0 := by omega
    have hrem : A.tmod W = R := by rw [← hA, ← hW, ← hR]; exact Int.ofNat_tmod a (2 * m)
    have hwr : IntKind.u64.wrap R = R := u64_keep (by omega) (by omega)
    have hadd : IntKind.u64.wrap (R + 1) = E := by rw [show R + 1 = E from by omega]; exact u64_keep (by omega) (by omega)
    clear hs hA hM hW hR hE hlt hW2 hm ha hc h h'
    go_enter Try.func47, Try.ntmps47
    go_wp2_with (go_at_call 66; refine (HC.out _).mono ?_; rintro e w' ⟨rfl, rfl⟩)
    go_ret
    exact ⟨rfl, rfl⟩

end Go.Proofs.Yteopmaaghhendaa

/-
  Contract of the document's Prefix, over a row of bytes of its own.
-/
namespace Go.Proofs.Yteopmaaghhendaa
open Go.RowKit
set_option linter.unusedVariables false

/-- The loop's relation: what is still to write. -/
def PrefRelO (G : List UInt8) (bl : List UInt8) (B : Nat) (w : World) (ov xv : Value) (wr : World) : Prop :=
  ∃ (m x : Nat) (l1 : List UInt8), xv = .int .u64 x ∧ x < 18446744073709551616 ∧ x < 128 ^ (m + 1) ∧ m ≤ 9 ∧ l1 ++ cont (m + 1) x = G ∧ l1.length + m ≤ bl.length + 10 ∧ OwB wr B ov l1 ∧ Below B w wr

end Go.Proofs.Yteopmaaghhendaa

/-
  Plain facts on the numbers' bytes: what is written is read back.
-/
namespace Go.Proofs.Yteopmaaghhendaa
open Go.RowKit
set_option linter.unusedVariables false

end Go.Proofs.Yteopmaaghhendaa

/-
  Contracts of qtab.DecodeCount and of the document's DecodeCount.
-/
namespace Go.Proofs.Yteopmaaghhendaa
open Go.RowKit
set_option linter.unusedVariables false

/-- How far a rest's number is ahead of a total. -/
def ahN (e t m : Nat) : Nat := (2 * m + e - 1 - t % (2 * m)) % (2 * m)

theorem dc_zero (t m : Nat) : dcN 0 t m = some 0 := by unfold dcN; rw [if_pos rfl]
theorem dc_out {e m : Nat} (t : Nat) (h : 2 * m < e) : dcN e t m = none := dcN_far h
theorem dc_in {e t m : Nat} (h0 : 0 < e) (h1 : e ≤ 2 * m) :
    ahN e t m < 2 * m ∧ dcN e t m = if m < ahN e t m then (if t + ahN e t m ≤ 2 * m then none else some (t + ahN e t m - 2 * m)) else (if t + ahN e t m = 0 then none else some (t + ahN e t m)) := by
  have hp : 0 < 2 * m := by omega
  have e1 := Nat.div_add_mod t (2 * m)
  have m1 := Nat.mod_lt t hp
  have e2 := Nat.div_add_mod (t + m) (2 * m)
  have m2 := Nat.mod_lt (t + m) hp
  have l1 : t / (2 * m) ≤ (t + m) / (2 * m) := Nat.div_le_div_right (by omega)
  have l2 : (t + m) / (2 * m) ≤ t / (2 * m) + 1 := by
    have := Nat.div_le_div_right (c := 2 * m) (show t + m ≤ t + 2 * m by omega)
    rwa [Nat.add_div_right _ hp] at this
  refine ⟨Nat.mod_lt _ hp, ?_⟩
  have hah : ahN e t m = if t % (2 * m) ≤ e - 1 then e - 1 - t % (2 * m) else 2 * m + e - 1 - t % (2 * m) := by
    unfold ahN
    generalize t % (2 * m) = u at *
    by_cases h : u ≤ e - 1
    · rw [if_pos h, show 2 * m + e - 1 - u = (e - 1 - u) + 2 * m by omega, Nat.add_mod_right, Nat.mod_eq_of_lt (by omega)]
    · rw [if_neg h, Nat.mod_eq_of_lt (by omega)]
  rw [hah]
  unfold dcN
  rw [if_neg (by omega), if_neg (by omega)]
  clear hah
  generalize t % (2 * m) = u at *
  generalize (t + m) % (2 * m) = u2 at *
  generalize t / (2 * m) = q at *
  generalize (t + m) / (2 * m) = q2 at *
  rcases (by omega : q2 = q ∨ q2 = q + 1) with rfl | rfl
  · rw [Nat.mul_comm q2 (2 * m)] at *
    generalize 2 * m * q2 = p at *
    (repeat' split) <;> first | rfl | (exact congrArg some (by omega)) | (exfalso; omega)
  · rw [Nat.mul_comm (q + 1) (2 * m)] at *
    rw [Nat.mul_succ] at *
    generalize 2 * m * q = p at *
    (repeat' split) <;> first | rfl | (exact congrArg some (by omega)) | (exfalso; omega)

/-- A count, or the error of a place. -/
def Dec : Option Nat → Ending
  | some n => .returned (.tuple #[.int .u64 (n : Int), .int .i64 0])
  | none => .returned (.tuple #[.int .u64 0, .int .i64 24])
theorem Dec_some (n : Nat) : Dec (some n) = .returned (.tuple #[.int .u64 (n : Int), .int .i64 0]) := rfl
theorem Dec_none : Dec none = .returned (.tuple #[.int .u64 0, .int .i64 24]) := rfl

theorem decodeCount_any (e t : Nat) (cap : Int) (he : e < 18446744073709551616) (ht : t < 4611686018427387904) (hc : cap < 9223372036854775808) (w : World) :
    Calls Try.prog 58 #[.int .u64 e, .int .u64 t, .int .i64 cap] w fun e' w' => e' = Dec (dcN e t (mostN cap)) ∧ w = w' := by
  have HC := Bx.mk (most_any cap hc)
  have hm := mostN_lt hc
  generalize mostN cap = m at *
  rcases Nat.eq_zero_or_pos e with rfl | h
  · rw [dc_zero, Dec_some]
    obtain ⟨T, hT⟩ := letter t
    rw [hT]
    clear hT hm ht hc HC
    go_enter Try.func58, Try.ntmps58
    go_wp2
    go_ret2
    exact ⟨rfl, rfl⟩
  rcases Nat.lt_or_ge (2 * m) e with h' | h'
  · rw [dc_out t h', Dec_none]
    obtain ⟨E, hE⟩ := letter e
    obtain ⟨T, hT⟩ := letter t
    obtain ⟨M, hM⟩ := letter m
    obtain ⟨W, hW⟩ := letter (2 * m)
    simp only [hM] at HC
    simp only [hE, hT]
    have h1 : (E == 0) = false := by rw [beq_eq_false_iff_ne]; omega
    have h2 : decide (W < E) = true := by rw [decide_eq_true_iff]; omega
    have hmul : IntKind.u64.wrap (2 * M) = W := by rw [show 2 * M = W from by omega]; exact u64_keep (by omega) (by omega)
    clear hE hT hM hW hm ht he hc h h'
    go_enter Try.func58, Try.ntmps58
    go_wp2_with (go_at_call 77; refine (HC.out _).mono ?_; rintro e w' ⟨rfl, rfl⟩)
    go_ret2
    exact ⟨rfl, rfl⟩
  rw [(dc_in (t := t) h h').2]
  rcases Nat.lt_or_ge m (ahN e t m) with h3 | h3
  · rw [if_pos h3]
    have hah := (dc_in (t := t) h h').1
    obtain ⟨E, hE⟩ := letter e
    obtain ⟨T, hT⟩ := letter t
    obtain ⟨M, hM⟩ := letter m
    obtain ⟨W, hW⟩ := letter (2 * m)
    obtain ⟨U, hU⟩ := letter (t % (2 * m))
    obtain ⟨X1, hX1⟩ := letter (2 * m + e)
    obtain ⟨X2, hX2⟩ := letter (2 * m + e - 1)
    obtain ⟨X3, hX3⟩ := letter (2 * m + e - 1 - t % (2 * m))
    obtain ⟨AH, hAH⟩ := letter (ahN e t m)
    have hlt := Nat.mod_lt t (show 0 < 2 * m by omega)
    have h1 : (E == 0) = false := by rw [beq_eq_false_iff_ne]; omega
    have h2 : decide (W < E) = false := by rw [decide_eq_false_iff_not]; omega
    have h4 : ¬ W = 0 := by omega
    have hmul : IntKind.u64.wrap (2 * M) = W := by rw [show 2 * M = W from by omega]; exact u64_keep (by omega) (by omega)
    have hx1 : IntKind.u64.wrap (W + E) = X1 := by rw [show W + E = X1 from by omega]; exact u64_keep (by omega) (by omega)
    have hx2 : IntKind.u64.wrap (X1 - 1) = X2 := by rw [show X1 - 1 = X2 from by omega]; exact u64_keep (by omega) (by omega)
    have hrem : T.tmod W = U := by rw [← hT, ← hW, ← hU]; exact Int.ofNat_tmod t (2 * m)
    have hwu : IntKind.u64.wrap U = U := u64_keep (by omega) (by omega)
    have hx3 : IntKind.u64.wrap (X2 - U) = X3 := by rw [show X2 - U = X3 from by omega]; exact u64_keep (by omega) (by omega)
    have hrem2 : X3.tmod W = AH := by rw [← hX3, ← hW, ← hAH]; exact Int.ofNat_tmod _ (2 * m)
    have hwa : IntKind.u64.wrap AH = AH := u64_keep (by omega) (by omega)
    have hs := sum_any t (ahN e t m) 18446744073709551615 (by omega) (by omega) (by omega)
    obtain ⟨Q, hQ⟩ := letter 18446744073709551615
    rw [show sumN t (ahN e t m) 18446744073709551615 = some (t + ahN e t m) from by unfold sumN; rw [if_pos (by omega)], Opt_some] at hs
    obtain ⟨S, hS⟩ := letter (t + ahN e t m)
    simp only [hM] at HC
    simp only [hT, hAH, hQ, hS] at hs
    obtain rfl : Q = 18446744073709551615 := by omega
    have HS := Bx.mk hs
    simp only [hE, hT]
    have h5 : decide (M < AH) = true := by rw [decide_eq_true_iff]; omega
    obtain ⟨Y, hY⟩ := letter (2 * m - ahN e t m)
    have hy : IntKind.u64.wrap (W - AH) = Y := by rw [show W - AH = Y from by omega]; exact u64_keep (by omega) (by omega)
    have hl := less_any t (2 * m - ahN e t m) (by omega)
    by_cases h6 : t < 2 * m - ahN e t m
    · rw [if_pos (by omega), Dec_none]
      rw [show subN t (2 * m - ahN e t m) = none from by unfold subN; rw [if_neg (by omega)], Opt_none] at hl
      simp only [hT, hY] at hl
      have HL := Bx.mk hl
      clear hs hE hT hM hW hU hX1 hX2 hX3 hAH hlt hah ht he hc hm h h' hS hQ h3 h6 hl hY
      go_enter Try.func58, Try.ntmps58
      go_wp2_with (first | (go_at_call 77; refine (HC.out _).mono ?_; rintro e w' ⟨rfl, rfl⟩) | (go_at_call 78; refine (HS.out _).mono ?_; rintro e w' ⟨rfl, rfl⟩) | (go_at_call 79; refine (HL.out _).mono ?_; rintro e w' ⟨rfl, rfl⟩))
      go_ret2
      exact ⟨rfl, rfl⟩
    · obtain ⟨D, hD⟩ := letter (t + ahN e t m - 2 * m)
      rw [show subN t (2 * m - ahN e t m) = some (t + ahN e t m - 2 * m) from by unfold subN; rw [if_pos (by omega)]; exact congrArg some (by omega), Opt_some] at hl
      simp only [hT, hY, hD] at hl
      have HL := Bx.mk hl
      by_cases h7 : t + ahN e t m ≤ 2 * m
      · rw [if_pos h7, Dec_none]
        obtain rfl : D = 0 := by omega
        clear hs hE hT hM hW hU hX1 hX2 hX3 hAH hlt hah ht he hc hm h h' hS hQ h3 h6 h7 hl hY hD
        go_enter Try.func58, Try.ntmps58
        go_wp2_with (first | (go_at_call 77; refine (HC.out _).mono ?_; rintro e w' ⟨rfl, rfl⟩) | (go_at_call 78; refine (HS.out _).mono ?_; rintro e w' ⟨rfl, rfl⟩) | (go_at_call 79; refine (HL.out _).mono ?_; rintro e w' ⟨rfl, rfl⟩))
        go_ret2
        exact ⟨rfl, rfl⟩
      · rw [if_neg h7, Dec_some, hD]
        have h8 : (D == 0) = false := by rw [beq_eq_false_iff_ne]; omega
        clear hs hE hT hM hW hU hX1 hX2 hX3 hAH hlt hah ht he hc hm h h' hS hQ h3 h6 h7 hl hY hD
        go_enter Try.func58, Try.ntmps58
        go_wp2_with (first | (go_at_call 77; refine (HC.out _).mono ?_; rintro e w' ⟨rfl, rfl⟩) | (go_at_call 78; refine (HS.out _).mono ?_; rintro e w' ⟨rfl, rfl⟩) | (go_at_call 79; refine (HL.out _).mono ?_; rintro e w' ⟨rfl, rfl⟩))
        go_ret2
        exact ⟨rfl, rfl⟩
  · rw [if_neg (by omega)]
    have hah := (dc_in (t := t) h h').1
    obtain ⟨E, hE⟩ := letter e
    obtain ⟨T, hT⟩ := letter t
    obtain ⟨M, hM⟩ := letter m
    obtain ⟨W, hW⟩ := letter (2 * m)
    obtain ⟨U, hU⟩ := letter (t % (2 * m))
    obtain ⟨X1, hX1⟩ := letter (2 * m + e)
    obtain ⟨X2, hX2⟩ := letter (2 * m + e - 1)
    obtain ⟨X3, hX3⟩ := letter (2 * m + e - 1 - t % (2 * m))
    obtain ⟨AH, hAH⟩ := letter (ahN e t m)
    have hlt := Nat.mod_lt t (show 0 < 2 * m by omega)
    have h1 : (E == 0) = false := by rw [beq_eq_false_iff_ne]; omega
    have h2 : decide (W < E) = false := by rw [decide_eq_false_iff_not]; omega
    have h4 : ¬ W = 0 := by omega
    have hmul : IntKind.u64.wrap (2 * M) = W := by rw [show 2 * M = W from by omega]; exact u64_keep (by omega) (by omega)
    have hx1 : IntKind.u64.wrap (W + E) = X1 := by rw [show W + E = X1 from by omega]; exact u64_keep (by omega) (by omega)
    have hx2 : IntKind.u64.wrap (X1 - 1) = X2 := by rw [show X1 - 1 = X2 from by omega]; exact u64_keep (by omega) (by omega)
    have hrem : T.tmod W = U := by rw [← hT, ← hW, ← hU]; exact Int.ofNat_tmod t (2 * m)
    have hwu : IntKind.u64.wrap U = U := u64_keep (by omega) (by omega)
    have hx3 : IntKind.u64.wrap (X2 - U) = X3 := by rw [show X2 - U = X3 from by omega]; exact u64_keep (by omega) (by omega)
    have hrem2 : X3.tmod W = AH := by rw [← hX3, ← hW, ← hAH]; exact Int.ofNat_tmod _ (2 * m)
    have hwa : IntKind.u64.wrap AH = AH := u64_keep (by omega) (by omega)
    have hs := sum_any t (ahN e t m) 18446744073709551615 (by omega) (by omega) (by omega)
    obtain ⟨Q, hQ⟩ := letter 18446744073709551615
    rw [show sumN t (ahN e t m) 18446744073709551615 = some (t + ahN e t m) from by unfold sumN; rw [if_pos (by omega)], Opt_some] at hs
    obtain ⟨S, hS⟩ := letter (t + ahN e t m)
    simp only [hM] at HC
    simp only [hT, hAH, hQ, hS] at hs
    obtain rfl : Q = 18446744073709551615 := by omega
    have HS := Bx.mk hs
    simp only [hE, hT]
    have h5 : decide (M < AH) = false := by rw [decide_eq_false_iff_not]; omega
    by_cases h7 : t + ahN e t m = 0
    · rw [if_pos h7, Dec_none]
      obtain rfl : S = 0 := by omega
      clear hs hE hT hM hW hU hX1 hX2 hX3 hAH hlt hah ht he hc hm h h' hS hQ h3 h7
      go_enter Try.func58, Try.ntmps58
      go_wp2_with (first | (go_at_call 77; refine (HC.out _).mono ?_; rintro e w' ⟨rfl, rfl⟩) | (go_at_call 78; refine (HS.out _).mono ?_; rintro e w' ⟨rfl, rfl⟩) | (go_at_call 79; refine (HL.out _).mono ?_; rintro e w' ⟨rfl, rfl⟩))
      go_ret2
      exact ⟨rfl, rfl⟩
    · rw [if_neg h7, Dec_some, hS]
      have h8 : (S == 0) = false := by rw [beq_eq_false_iff_ne]; omega
      clear hs hE hT hM hW hU hX1 hX2 hX3 hAH hlt hah ht he hc hm h h' hS hQ h3 h7
      go_enter Try.func58, Try.ntmps58
      go_wp2_with (first | (go_at_call 77; refine (HC.out _).mono ?_; rintro e w' ⟨rfl, rfl⟩) | (go_at_call 78; refine (HS.out _).mono ?_; rintro e w' ⟨rfl, rfl⟩) | (go_at_call 79; refine (HL.out _).mono ?_; rintro e w' ⟨rfl, rfl⟩))
      go_ret2
      exact ⟨rfl, rfl⟩


end Go.Proofs.Yteopmaaghhendaa

/-
  Plain facts on numbers in prefixes: what is written is read back; what is cut off goes on.
-/
namespace Go.Proofs.Yteopmaaghhendaa
open Go.RowKit
set_option linter.unusedVariables false

theorem pow7 (i : Nat) : (2 : Nat) ^ (7 * (i + 1)) = 2 ^ (7 * i) * 128 := by rw [Nat.mul_add, Nat.pow_add]
theorem split128 (x i : Nat) : x * 2 ^ (7 * i) = x % 128 * 2 ^ (7 * i) + x / 128 * 2 ^ (7 * (i + 1)) := by
  rw [pow7, Nat.mul_comm (2 ^ (7 * i)) 128, ← Nat.mul_assoc, ← Nat.add_mul]
  congr 1
  omega

theorem not_big (u p i : Nat) (h : u + p * 2 ^ (7 * i) ≤ maxVar) : ¬ (maxVar - u) / 2 ^ (7 * i) < p := by
  rw [Nat.not_lt, Nat.le_div_iff_mul_le (Nat.two_pow_pos _)]
  omega

theorem low7 (x : Nat) (h : x < 128) : (UInt8.ofNat x).toNat = x := by
  have h8 : x < 2 ^ 8 := by have : (2:Nat) ^ 8 = 256 := rfl; omega
  rw [UInt8.toNat_ofNat', Nat.mod_eq_of_lt h8]
theorem high7 (x : Nat) : (UInt8.ofNat (x % 128 + 128)).toNat = x % 128 + 128 := by
  have h8 : x % 128 + 128 < 2 ^ 8 := by have : (2:Nat) ^ 8 = 256 := rfl; omega
  rw [UInt8.toNat_ofNat', Nat.mod_eq_of_lt h8]

/-- What is written behind a full prefix is read back, or is too great. -/
theorem rpGo_cont (rest : List UInt8) (m : Nat) : ∀ x i u, x < 128 ^ (m + 1) → i + m ≤ 9 → u ≤ maxVar →
    rpGo (cont (m + 1) x ++ rest) i u = if u + x * 2 ^ (7 * i) ≤ maxVar then (((u + x * 2 ^ (7 * i) : Nat) : Int), ((i + 1 + (cont (m + 1) x).length : Nat) : Int), 0) else (0, 0, 21) := by
  induction m with
  | zero =>
    intro x i u hx hi hu
    have hx' : x < 128 := by simpa using hx
    rw [cont_last _ _ hx', List.singleton_append, rpGo_ans, low7 x hx', Nat.mod_eq_of_lt hx']
    by_cases hs : u + x * 2 ^ (7 * i) ≤ maxVar
    · rw [if_pos hs, rpAns_last _ _ _ _ _ _ (not_big u x i hs) hx' rfl]
      rfl
    · rw [if_neg hs]
      by_cases hb : (maxVar - u) / 2 ^ (7 * i) < x
      · rw [rpAns_big _ _ _ _ _ hb]
      · exact absurd (pfits x u i hu hb) hs
  | succ m ih =>
    intro x i u hx hi hu
    by_cases hx' : x < 128
    · rw [cont_last _ _ hx', List.singleton_append, rpGo_ans, low7 x hx', Nat.mod_eq_of_lt hx']
      by_cases hs : u + x * 2 ^ (7 * i) ≤ maxVar
      · rw [if_pos hs, rpAns_last _ _ _ _ _ _ (not_big u x i hs) hx' rfl]
        rfl
      · rw [if_neg hs]
        by_cases hb : (maxVar - u) / 2 ^ (7 * i) < x
        · rw [rpAns_big _ _ _ _ _ hb]
        · exact absurd (pfits x u i hu hb) hs
    · rw [cont_more _ _ (by omega), List.cons_append, rpGo_ans, high7]
      have e1 : (x % 128 + 128) % 128 = x % 128 := by omega
      rw [e1]
      have hsp := split128 x i
      by_cases hb : (maxVar - u) / 2 ^ (7 * i) < x % 128
      · rw [rpAns_big _ _ _ _ _ hb, if_neg]
        intro hs
        exact not_big u (x % 128) i (by omega) hb
      · have hf := pfits (x % 128) u i hu hb
        rw [rpAns_on _ _ _ _ _ _ hb (by omega) (by omega) rfl, ih (x / 128) (i + 1) _ (by rw [Nat.pow_succ] at hx; omega) (by omega) hf]
        have e2 : u + x % 128 * 2 ^ (7 * i) + x / 128 * 2 ^ (7 * (i + 1)) = u + x * 2 ^ (7 * i) := by omega
        rw [e2]
        have e3 : i + 1 + 1 + (cont (m + 1) (x / 128)).length = i + 1 + (UInt8.ofNat (x % 128 + 128) :: cont (m + 1) (x / 128)).length := by simp only [List.length_cons]; omega
        rw [e3]

theorem preFirst_mod (f : UInt8) (k v : Nat) (h1 : 1 ≤ k) (h8 : k ≤ 8) : (preFirst f k v).toNat % 2 ^ k = min v (2 ^ k - 1) := by
  have h := preFirst_val f h1 h8 v
  have h' : (preFirst f k v).toNat = hiOf f k + min v (2 ^ k - 1) := by omega
  have hp := Nat.two_pow_pos k
  rw [h']
  unfold hiOf
  rw [Nat.mul_comm, Nat.mul_add_mod, Nat.mod_eq_of_lt (by omega)]

theorem pow_128_10 : (18446744073709551616 : Nat) ≤ 128 ^ (9 + 1) := by decide

/-- A number in a prefix is read back, whatever stands behind; or it is too great. -/
theorem rp_pre (f : UInt8) (k v : Nat) (h1 : 1 ≤ k) (h8 : k ≤ 8) (hv : v < 18446744073709551616) (rest : List UInt8) :
    rp k (pre f k v ++ rest) = if v ≤ maxVar then ((v : Int), ((pre f k v).length : Int), 0) else (0, 0, 21) := by
  have hr := full_range h1 h8
  have hm := preFirst_mod f k v h1 h8
  have hp := pow_128_10
  unfold pre
  by_cases hlt : v < 2 ^ k - 1
  · rw [if_pos hlt, List.singleton_append]
    show (if (preFirst f k v).toNat % 2 ^ k < 2 ^ k - 1 then ((((preFirst f k v).toNat % 2 ^ k : Nat) : Int), (1 : Int), (0 : Int)) else rpGo rest 0 ((preFirst f k v).toNat % 2 ^ k)) = _
    rw [hm, show min v (2 ^ k - 1) = v from by omega, if_pos hlt, if_pos (by unfold maxVar; omega)]
    rfl
  · rw [if_neg hlt, List.cons_append]
    show (if (preFirst f k v).toNat % 2 ^ k < 2 ^ k - 1 then _ else rpGo (cont 10 (v - (2 ^ k - 1)) ++ rest) 0 ((preFirst f k v).toNat % 2 ^ k)) = _
    rw [hm, show min v (2 ^ k - 1) = 2 ^ k - 1 from by omega, if_neg (by omega), rpGo_cont rest 9 _ 0 _ (by omega) (by omega) (by unfold maxVar; omega)]
    have e : 2 ^ k - 1 + (v - (2 ^ k - 1)) * 2 ^ (7 * 0) = v := by simp; omega
    rw [e]
    congr 3
    show ((0 + 1 + (cont 10 (v - (2 ^ k - 1))).length : Nat) : Int) = _
    simp only [List.length_cons]
    omega

end Go.Proofs.Yteopmaaghhendaa

/-
  Contracts of num.grown, num.Prefix, henc.number: what they hand back is a row of its own.
-/
namespace Go.Proofs.Yteopmaaghhendaa
open Go.RowKit
set_option linter.unusedVariables false

set_option maxHeartbeats 400000 in
theorem grown_own (v : Value) (l : List UInt8) (n : Nat) (w : World) (hv : Bs w v l) (hn : n ≤ 1000000) (hl : l.length ≤ 1000000) :
    Calls Try.prog 76 #[v, .int .i64 n] w fun e w' => ∃ v', e = .returned v' ∧ OwB w' w.heap.size v' l ∧ Below w.heap.size w w' := by
  obtain ⟨i0, hi, hz, hz1, hz2⟩ := info_parts infoU8n
  obtain ⟨A, L, c, rfl, hL, h1, h2, h3, h4⟩ := hv.open_
  have H := Lib.hid hv
  clear hv
  have Hi := Lib.hid hi
  have Hz := Lib.hid hz
  have Hz1 := Lib.hid hz1
  have Hz2 := Lib.hid hz2
  clear hi hz hz1 hz2
  go_enter Try.func76, Try.ntmps76
  go_wp2_with (first
    | (at_make
       refine wpList_make_own _ rfl _ _ _ rfl w.heap.size 5 i0 (.int .u8 0) 1 Try.underlying23 Hi.out Hz.out Hz1.out .i64 .i64 _ (L + n) rfl rfl (by simp) (by rw [Hz2.out]; omega) (by simp only [maxLen]; omega) (Nat.le_refl _) ?_
       intro w1 hown hg)
    | (at_builtin
       refine wpList_append_og _ rfl _ _ 23 rfl w.heap.size 5 i0 (.int .u8 0) 1 Try.underlying23 Hi.out Hz.out Hz1.out Hz2.out rfl _ _ [] (l.map bv) rfl rfl hown ((show Rd w _ (l.map bv) from H.out).keep ((Below.refl _ _).grown hg (Nat.le_refl _) (by simp))) one_bv (by simp; omega) (by simp [maxLen]; omega) hg.size ?_
       intro v2 w2 hap hb2 _))
  go_ret
  exact ⟨v2, rfl, hap, ((Below.refl _ _).grown hg (Nat.le_refl _) (by simp)).trans hb2⟩


theorem grownO_int (v : Value) (l : List UInt8) (n : Int) (w : World) (hv : Bs w v l) (hn0 : 0 ≤ n) (hn : n ≤ 1000000) (hl : l.length ≤ 1000000) :
    Calls Try.prog 76 #[v, .int .i64 n] w fun e w' => ∃ v', e = .returned v' ∧ OwB w' w.heap.size v' l ∧ Below w.heap.size w w' := by
  have h := grown_own v l n.toNat w hv (by omega) hl
  rwa [Int.toNat_of_nonneg hn0] at h

set_option maxRecDepth 100000 in
set_option maxHeartbeats 1000000 in
theorem prefix_own (bV : Value) (bl : List UInt8) (f : UInt8) (n : Int) (v : Nat) (w : World) (hb : Bs w bV bl) (hbl : bl.length ≤ 200000) (hv : v < 18446744073709551616) :
    Calls Try.prog 56 #[bV, .int .u8 f.toNat, .int .i64 n, .int .u64 v] w fun e w' => ∃ v', e = .returned v' ∧ OwB w' w.heap.size v' (bl ++ pre f (bitsOf n) v) ∧ Below w.heap.size w w' := by
  obtain ⟨i0, hi, hz, hz1, hz2⟩ := info_parts infoU8n
  have Hi := Lib.hid hi
  have Hz := Lib.hid hz
  have Hz1 := Lib.hid hz1
  have Hz2 := Lib.hid hz2
  clear hi hz hz1 hz2
  have Hb := Lib.hid hb
  obtain ⟨hk1, hk8, hkn⟩ := bitsOf_range n
  generalize bitsOf n = k at hk1 hk8 hkn ⊢
  have hM := full_range hk1 hk8
  have hfull : full (min (max n 1) 8) = ((2 ^ k - 1 : Nat) : Int) := by rw [hkn, full_nat]
  have ha := hi_andNot f hk1 hk8
  have hlt := hi_lt f hk1 hk8
  have Hor := Lib.hid (hi_or f hk1 hk8)
  have Hpf := Lib.hid (preFirst_val f hk1 hk8 v)
  have Hpre : Hid (pre f k v = if v < 2 ^ k - 1 then [preFirst f k v] else preFirst f k v :: cont 10 (v - (2 ^ k - 1))) := rfl
  clear hb
  
  
  generalize pre f k v = PL at Hpre ⊢
  generalize preFirst f k v = pf at Hpf Hpre
  generalize hiOf f k = hi at ha hlt Hor Hpf
  generalize 2 ^ k - 1 = M at hM ha hlt Hor Hpf Hpre hfull
  have Hfull := Lib.hid hfull
  clear hfull
  obtain ⟨hM1, hM2⟩ := hM
  
  have horM := Hor.out M (by omega)
  by_cases hvM : v < M
  · have hw8v : IntKind.u8.wrap (v : Int) = (v : Int) := by rw [IntKind.wrap_u8]; omega
    have horv := Hor.out v (by omega)
    have Hf := Hpf.out
    have Hp := Hpre.out
    rw [if_pos hvM] at Hp
    rw [show min v M = v from by omega] at Hf
    subst Hp
    have Hf2 := Lib.hid Hf
    clear Hpf Hpre Hf
    go_enter Try.func56, Try.ntmps56
    go_wp2_with (first
        | (go_at_call 75; refine (fullPrefix_any _ _).mono ?_; rintro e w' ⟨rfl, rfl⟩; rw [Hfull.out])
        | (go_at_call 76; refine (grownO_int bV bl _ _ Hb.out (by omega) (by omega) (by omega)).mono ?_; rintro e w1 ⟨v1, rfl, hap, hb1⟩)
        | (at_builtin
           refine wpList_append_og _ rfl _ _ 23 rfl w.heap.size 5 i0 (.int .u8 0) 1 Try.underlying23 Hi.out Hz.out Hz1.out Hz2.out rfl _ _ (bl.map bv) _ rfl rfl (hap.alloc _) (Rd.lit w1 5 _ 1 rfl (by simp [maxLen])) (by simp [Value.oneCell']) (by simp; omega) (by simp [maxLen]; omega) (by have := hb1.size; simp; omega) ?_
           intro v2 w2 hap2 hb2 _))
    go_ret
    refine ⟨v2, rfl, ?_, hb1.trans (((Below.refl _ _).alloc hb1.size _).trans hb2)⟩
    exact OwB.snoc hap2 pf Hf2.out.symm
  · have Hf := Hpf.out
    have Hp := Hpre.out
    rw [if_neg hvM] at Hp
    rw [show min v M = M from by omega] at Hf
    have Hp2 := Lib.hid Hp
    have Hf2 := Lib.hid Hf
    clear Hpf Hpre Hf Hp
    have hsub : IntKind.u64.wrap ((v : Int) - (M : Int)) = ((v - M : Nat) : Int) := by rw [IntKind.wrap_u64]; omega
    go_enter Try.func56, Try.ntmps56
    go_wp2_with (first
        | (go_at_call 75; refine (fullPrefix_any _ _).mono ?_; rintro e w' ⟨rfl, rfl⟩; rw [Hfull.out])
        | (go_at_call 76; refine (grownO_int bV bl _ _ Hb.out (by omega) (by omega) (by omega)).mono ?_; rintro e w1 ⟨v1, rfl, hap, hb1⟩)
        | (at_builtin
           refine wpList_append_og _ rfl _ _ 23 rfl w.heap.size 5 i0 (.int .u8 0) 1 Try.underlying23 Hi.out Hz.out Hz1.out Hz2.out rfl _ _ (bl.map bv) _ rfl rfl (hap.alloc _) (Rd.lit w1 5 _ 1 rfl (by simp [maxLen])) (by simp [Value.oneCell']) (by simp; omega) (by simp [maxLen]; omega) (by have := hb1.size; simp; omega) ?_
           intro v2 w2 hap2 hb2 _))
    have hap3 := OwB.snoc hap2 pf Hf2.out.symm
    have hb3 : Below w.heap.size w w2 := hb1.trans (((Below.refl _ _).alloc hb1.size _).trans hb2)
    clear hap2 hb2
    have hlen3 : (bl ++ [pf]).length = bl.length + 1 := by simp
    have Hgoal : Hid ((bl ++ [pf]) ++ cont 10 (v - M) = bl ++ PL) := by rw [Hp2.out]; simp [Hid]
    have hl1 : (bl ++ [pf]).length ≤ bl.length + 1 := by omega
    clear hlen3
    generalize bl ++ [pf] = l0 at hap3 Hgoal hl1
    have hq : v - M < 128 ^ (9 + 1) := by have : (18446744073709551616 : Nat) ≤ 128 ^ (9 + 1) := by decide
                                          omega
    clear ha horM Hor hsub hvM Hf2 Hfull Hp2
    have hq64 : v - M < 18446744073709551616 := by omega
    generalize v - M = q at hq hq64 Hgoal ⊢
    have Hgoal2 := Lib.hid Hgoal.out
    clear Hgoal
    go_wp2
    go_loopw [3, 11] (fun xv ov wr => PrefRelO (bl ++ PL) bl w.heap.size w ov xv wr) (fun xv _ _ => (intOf xv).toNat)
    case atStart => exact ⟨9, q, l0, rfl, hq64, hq, by omega, Hgoal2.out, by omega, hap3, hb3⟩
    case round =>
      obtain ⟨m, x, l1, rfl, hxq, hxm, hm9, hG, hl, hap4, hb4⟩ := hrel
      have HG := Lib.hid hG
      clear hG hap3 hb3
      have hxi : (x : Int) < 18446744073709551616 := by omega
      have Hxq := Lib.hid hxq
      have Hxm := Lib.hid hxm
      have Hr0 : Hid (¬ x < 128 → ∃ q, m = q + 1 ∧ x / 128 < 128 ^ (q + 1)) := fun h => pow128 x m hxm (by omega)
      clear hxq hxm hv hq hq64 hxi
      have hsz := hb4.size
      by_cases hx : x < 128
      · have hx' : (x : Int) < 256 := by omega
        go_wp2_with (first
          | (at_builtin
             refine wpList_append_og _ rfl _ _ 23 rfl w.heap.size 5 i0 (.int .u8 0) 1 Try.underlying23 Hi.out Hz.out Hz1.out Hz2.out rfl _ _ (l1.map bv) _ rfl rfl (hap4.alloc _) (Rd.lit wr 5 _ 1 rfl (by simp [maxLen])) (by simp [Value.oneCell']) (by simp; omega) (by simp [maxLen]; omega) (by have := hb4.size; simp; omega) ?_
             intro v2 w2 hap2 hb2 _))
        go_ret
        have hap5 := OwB.snoc hap2 (UInt8.ofNat x) (by rw [UInt8.toNat_ofNat', Nat.mod_eq_of_lt (by have : (2:Nat) ^ 8 = 256 := rfl; omega)])
        refine ⟨_, rfl, ?_, hb4.trans (((Below.refl _ _).alloc (by have := hb4.size; omega) _).trans hb2)⟩
        rw [← HG.out, cont_last _ _ hx]
        exact hap5
      · obtain ⟨r, rfl, hr⟩ := Hr0.out hx
        have Hr := Lib.hid hr
        clear hr
        have ho := or128 x
        have hand := u64_mask x 7 127 (by rfl) (by omega) Hxq.out
        have ho2 : bits .or .u8 ((x : Int) % 128) 128 = ((x % 128 + 128 : Nat) : Int) := by have h := or128 (x % 128); rw [show (((x % 128 : Nat) : Int) % 256) = (x : Int) % 128 from by omega] at h; rw [h]; omega
        go_wp2_with (first
          | (at_builtin
             refine wpList_append_og _ rfl _ _ 23 rfl w.heap.size 5 i0 (.int .u8 0) 1 Try.underlying23 Hi.out Hz.out Hz1.out Hz2.out rfl _ _ (l1.map bv) _ rfl rfl (hap4.alloc _) (Rd.lit wr 5 _ 1 rfl (by simp [maxLen])) (by simp [Value.oneCell']) (by simp; omega) (by simp [maxLen]; omega) (by have := hb4.size; simp; omega) ?_
             intro v2 w2 hap2 hb2 _))
        have hap5 := OwB.snoc hap2 (UInt8.ofNat (x % 128 + 128)) (by rw [UInt8.toNat_ofNat', Nat.mod_eq_of_lt (by have : (2:Nat) ^ 8 = 256 := rfl; omega)]; omega)
        clear hap2
        go_roundw
        case rel =>
          refine ⟨r, x / 128, l1 ++ [UInt8.ofNat (x % 128 + 128)], by go_num, by have := Hxq.out; omega, Hr.out, by omega, ?_, by simp; omega, hap5, hb4.trans (((Below.refl _ _).alloc (by have := hb4.size; omega) _).trans hb2)⟩
          rw [← HG.out, cont_more (r + 1) x (by omega), List.append_assoc]
          rfl
        case measure => simp [intOf]; omega

end Go.Proofs.Yteopmaaghhendaa

/-
  Contract of the document's DecodeCount.
-/
namespace Go.Proofs.Yteopmaaghhendaa
open Go.RowKit
set_option linter.unusedVariables false

end Go.Proofs.Yteopmaaghhendaa

/-
  Contract of qtab.Prefix; of the document's Prefix.
-/
namespace Go.Proofs.Yteopmaaghhendaa
open Go.RowKit
set_option linter.unusedVariables false

/-- A section's prefix, of a count and a base, of m entries at most. -/
def qpre (c b m : Nat) : List UInt8 := pre 0 8 (ecN c m) ++ (if c ≤ b then pre 0 7 (b - c) else pre 128 7 (c - b - 1))

theorem ecN_lt {c m : Nat} (hm : m < 288230376151711744) : ecN c m < 18446744073709551616 := by
  unfold ecN
  split
  · omega
  · have := Nat.mod_lt c (show 0 < 2 * m by omega)
    omega

theorem pre_len11 (f : UInt8) (k v : Nat) : (pre f k v).length ≤ 11 := by
  unfold pre
  split
  · simp
  · have := cont_length 10 (v - (2 ^ k - 1))
    simp; omega

end Go.Proofs.Yteopmaaghhendaa

/-
  Contract of the document's Prefix, over a row of bytes of its own.
-/
namespace Go.Proofs.Yteopmaaghhendaa
open Go.RowKit
set_option linter.unusedVariables false

/-- The loop's relation: what is still to write. -/
def PrefRelN (G : List UInt8) (bl : List UInt8) (B : Nat) (w : World) (ov xv : Value) (wr : World) : Prop :=
  ∃ (m x : Nat) (l1 : List UInt8), xv = .int .u64 x ∧ x < 18446744073709551616 ∧ x < 128 ^ (m + 1) ∧ m ≤ 9 ∧ l1 ++ cont (m + 1) x = G ∧ l1.length + m ≤ bl.length + 10 ∧ OwB wr B ov l1 ∧ Below B w wr ∧ NonB w wr

set_option maxRecDepth 100000 in
set_option maxHeartbeats 1000000 in
theorem refPrefix_non (B : Nat) (bV : Value) (bl : List UInt8) (f : UInt8) (n : Int) (v : Nat) (w : World) (hb : OwB w B bV bl) (hB : B ≤ w.heap.size) (hbl : bl.length ≤ 200000) (hv : v < 18446744073709551616) :
    Calls Try.prog 23 #[bV, .int .u8 f.toNat, .int .i64 n, .int .u64 v] w fun e w' => ∃ v', e = .returned v' ∧ OwB w' B v' (bl ++ pre f (bitsOf n) v) ∧ Below B w w' ∧ NonB w w' := by
  obtain ⟨i0, hi, hz, hz1, hz2⟩ := info_parts infoU8n
  have Hi := Lib.hid hi
  have Hz := Lib.hid hz
  have Hz1 := Lib.hid hz1
  have Hz2 := Lib.hid hz2
  clear hi hz hz1 hz2
  
  obtain ⟨hk1, hk8, hkn⟩ := bitsOf_range n
  generalize bitsOf n = k at hk1 hk8 hkn ⊢
  have hM := full_range hk1 hk8
  have hfull : full (min (max n 1) 8) = ((2 ^ k - 1 : Nat) : Int) := by rw [hkn, full_nat]
  have ha := hi_andNot f hk1 hk8
  have hlt := hi_lt f hk1 hk8
  have Hor := Lib.hid (hi_or f hk1 hk8)
  have Hpf := Lib.hid (preFirst_val f hk1 hk8 v)
  have Hpre : Hid (pre f k v = if v < 2 ^ k - 1 then [preFirst f k v] else preFirst f k v :: cont 10 (v - (2 ^ k - 1))) := rfl
  
  have hfw := full_wrap (k : Int) (by omega) (by omega)
  rw [full_nat, Int.toNat_natCast] at hfw
  generalize pre f k v = PL at Hpre ⊢
  generalize preFirst f k v = pf at Hpf Hpre
  generalize hiOf f k = hi at ha hlt Hor Hpf
  generalize 2 ^ k - 1 = M at hM ha hlt Hor Hpf Hpre hfull hfw
  have Hfull := Lib.hid hfull
  clear hfull
  obtain ⟨hM1, hM2⟩ := hM
  
  have horM := Hor.out M (by omega)
  by_cases hvM : v < M
  · have hw8v : IntKind.u8.wrap (v : Int) = (v : Int) := by rw [IntKind.wrap_u8]; omega
    have horv := Hor.out v (by omega)
    have Hf := Hpf.out
    have Hp := Hpre.out
    rw [if_pos hvM] at Hp
    rw [show min v M = v from by omega] at Hf
    subst Hp
    have Hf2 := Lib.hid Hf
    clear Hpf Hpre Hf
    go_enter Try.func23, Try.ntmps23
    go_wp2_with (first
        | (at_builtin
           refine wpList_append_og _ rfl _ _ 23 rfl B 5 i0 (.int .u8 0) 1 Try.underlying23 Hi.out Hz.out Hz1.out Hz2.out rfl _ _ (bl.map bv) _ rfl rfl (hb.alloc _) (Rd.lit w 5 _ 1 rfl (by simp [maxLen])) (by simp [Value.oneCell']) (by simp; omega) (by simp [maxLen]; omega) (by have := hB; simp; omega) ?_
           intro v2 w2 hap2 hb2 hg2))
    go_ret
    refine ⟨v2, rfl, ?_, (Below.refl B w).trans (((Below.refl _ _).alloc hB _).trans hb2), (NonB.alloc w _).trans (OwB.nonB (hb.alloc _) hg2)⟩
    exact OwB.snoc hap2 pf Hf2.out.symm
  · have Hf := Hpf.out
    have Hp := Hpre.out
    rw [if_neg hvM] at Hp
    rw [show min v M = M from by omega] at Hf
    have Hp2 := Lib.hid Hp
    have Hf2 := Lib.hid Hf
    clear Hpf Hpre Hf Hp
    have hsub : IntKind.u64.wrap ((v : Int) - (M : Int)) = ((v - M : Nat) : Int) := by rw [IntKind.wrap_u64]; omega
    go_enter Try.func23, Try.ntmps23
    go_wp2_with (first
        | (at_builtin
           refine wpList_append_og _ rfl _ _ 23 rfl B 5 i0 (.int .u8 0) 1 Try.underlying23 Hi.out Hz.out Hz1.out Hz2.out rfl _ _ (bl.map bv) _ rfl rfl (hb.alloc _) (Rd.lit w 5 _ 1 rfl (by simp [maxLen])) (by simp [Value.oneCell']) (by simp; omega) (by simp [maxLen]; omega) (by have := hB; simp; omega) ?_
           intro v2 w2 hap2 hb2 hg2))
    have hap3 := OwB.snoc hap2 pf Hf2.out.symm
    have hb3 : Below B w w2 := (Below.refl B w).trans (((Below.refl _ _).alloc hB _).trans hb2)
    have hn3 : NonB w w2 := (NonB.alloc w _).trans (OwB.nonB (hb.alloc _) hg2)
    clear hap2 hb2 hg2
    have hlen3 : (bl ++ [pf]).length = bl.length + 1 := by simp
    have Hgoal : Hid ((bl ++ [pf]) ++ cont 10 (v - M) = bl ++ PL) := by rw [Hp2.out]; simp [Hid]
    have hl1 : (bl ++ [pf]).length ≤ bl.length + 1 := by omega
    clear hlen3
    generalize bl ++ [pf] = l0 at hap3 Hgoal hl1
    have hq : v - M < 128 ^ (9 + 1) := by have : (18446744073709551616 : Nat) ≤ 128 ^ (9 + 1) := by decide
                                          omega
    clear ha horM Hor hsub hvM Hf2 Hfull Hp2
    have hq64 : v - M < 18446744073709551616 := by omega
    generalize v - M = q at hq hq64 Hgoal ⊢
    have Hgoal2 := Lib.hid Hgoal.out
    clear Hgoal
    go_wp2
    go_loopw [0, 3] (fun ov xv wr => PrefRelN (bl ++ PL) bl B w ov xv wr) (fun _ xv _ => (intOf xv).toNat)
    case atStart => exact ⟨9, q, l0, rfl, hq64, hq, by omega, Hgoal2.out, by omega, hap3, hb3, hn3⟩
    case round =>
      obtain ⟨m, x, l1, rfl, hxq, hxm, hm9, hG, hl, hap4, hb4, hn4⟩ := hrel
      have HG := Lib.hid hG
      clear hG hap3 hb3 hn3
      have hxi : (x : Int) < 18446744073709551616 := by omega
      have Hxq := Lib.hid hxq
      have Hxm := Lib.hid hxm
      have Hr0 : Hid (¬ x < 128 → ∃ q, m = q + 1 ∧ x / 128 < 128 ^ (q + 1)) := fun h => pow128 x m hxm (by omega)
      clear hxq hxm hv hq hq64 hxi
      have hsz := hb4.size
      by_cases hx : x < 128
      · have hx' : (x : Int) < 256 := by omega
        go_wp2_with (first
          | (at_builtin
             refine wpList_append_og _ rfl _ _ 23 rfl B 5 i0 (.int .u8 0) 1 Try.underlying23 Hi.out Hz.out Hz1.out Hz2.out rfl _ _ (l1.map bv) _ rfl rfl (hap4.alloc _) (Rd.lit wr 5 _ 1 rfl (by simp [maxLen])) (by simp [Value.oneCell']) (by simp; omega) (by simp [maxLen]; omega) (by have := hb4.size; simp; omega) ?_
             intro v2 w2 hap2 hb2 hg2))
        go_ret
        have hap5 := OwB.snoc hap2 (UInt8.ofNat x) (by rw [UInt8.toNat_ofNat', Nat.mod_eq_of_lt (by have : (2:Nat) ^ 8 = 256 := rfl; omega)])
        refine ⟨_, rfl, ?_, hb4.trans (((Below.refl _ _).alloc (by have := hb4.size; omega) _).trans hb2), hn4.trans ((NonB.alloc wr _).trans (OwB.nonB (hap4.alloc _) hg2))⟩
        rw [← HG.out, cont_last _ _ hx]
        exact hap5
      · obtain ⟨r, rfl, hr⟩ := Hr0.out hx
        have Hr := Lib.hid hr
        clear hr
        have ho := or128 x
        have hand := u64_mask x 7 127 (by rfl) (by omega) Hxq.out
        have ho2 : bits .or .u8 ((x : Int) % 128) 128 = ((x % 128 + 128 : Nat) : Int) := by have h := or128 (x % 128); rw [show (((x % 128 : Nat) : Int) % 256) = (x : Int) % 128 from by omega] at h; rw [h]; omega
        go_wp2_with (first
          | (at_builtin
             refine wpList_append_og _ rfl _ _ 23 rfl B 5 i0 (.int .u8 0) 1 Try.underlying23 Hi.out Hz.out Hz1.out Hz2.out rfl _ _ (l1.map bv) _ rfl rfl (hap4.alloc _) (Rd.lit wr 5 _ 1 rfl (by simp [maxLen])) (by simp [Value.oneCell']) (by simp; omega) (by simp [maxLen]; omega) (by have := hb4.size; simp; omega) ?_
             intro v2 w2 hap2 hb2 hg2))
        have hap5 := OwB.snoc hap2 (UInt8.ofNat (x % 128 + 128)) (by rw [UInt8.toNat_ofNat', Nat.mod_eq_of_lt (by have : (2:Nat) ^ 8 = 256 := rfl; omega)]; omega)
        clear hap2
        go_roundw
        case rel =>
          refine ⟨r, x / 128, l1 ++ [UInt8.ofNat (x % 128 + 128)], by go_num, by have := Hxq.out; omega, Hr.out, by omega, ?_, by simp; omega, hap5, hb4.trans (((Below.refl _ _).alloc (by have := hb4.size; omega) _).trans hb2), hn4.trans ((NonB.alloc wr _).trans (OwB.nonB (hap4.alloc _) hg2))⟩
          rw [← HG.out, cont_more (r + 1) x (by omega), List.append_assoc]
          rfl
        case measure => simp [intOf]; omega

end Go.Proofs.Yteopmaaghhendaa

/-
  Contracts of qtab.baseAt, qtab.ReadPrefix.
-/
namespace Go.Proofs.Yteopmaaghhendaa
open Go.RowKit
set_option linter.unusedVariables false

theorem rpGo_three (t : List UInt8) : ∀ i v, v ≤ maxVar → rpGo t i v = (0, 0, 20) ∨ rpGo t i v = (0, 0, 21) ∨
    ∃ n m : Nat, rpGo t i v = ((n : Int), (m : Int), 0) ∧ 1 ≤ m ∧ m ≤ i + 1 + t.length ∧ n ≤ maxVar := by
  induction t with
  | nil => intro i v h; exact .inl rfl
  | cons c t ih =>
    intro i v h
    rw [rpGo_ans]
    unfold rpAns
    split
    · exact .inr (.inl rfl)
    · rename_i hb
      have hf := pfits _ v i h hb
      split
      · exact .inr (.inr ⟨_, _, rfl, by omega, by simp; omega, hf⟩)
      · split
        · exact .inr (.inl rfl)
        · rcases ih (i + 1) _ hf with h1 | h1 | ⟨n, m, h1, h2, h3, h4⟩
          · exact .inl h1
          · exact .inr (.inl h1)
          · exact .inr (.inr ⟨n, m, h1, h2, by simp; omega, h4⟩)

/-- The ways of a prefixed number: an error, or a number. -/
theorem rp_two (k : Nat) (l : List UInt8) : (∃ e : Int, rp k l = (0, 0, e) ∧ (e = 20 ∨ e = 21)) ∨
    ∃ n m : Nat, rp k l = ((n : Int), (m : Int), 0) ∧ 1 ≤ m ∧ m ≤ l.length ∧ n ≤ maxVar := by
  cases l with
  | nil => exact .inl ⟨20, rfl, .inl rfl⟩
  | cons c t =>
    have hc := c.toNat_lt
    have hm : c.toNat % 2 ^ k ≤ c.toNat := Nat.mod_le _ _
    rw [show rp k (c :: t) = if c.toNat % 2 ^ k < 2 ^ k - 1 then (((c.toNat % 2 ^ k : Nat) : Int), 1, 0) else rpGo t 0 (c.toNat % 2 ^ k) from rfl]
    split
    · exact .inr ⟨_, 1, rfl, by omega, by simp, by unfold maxVar; omega⟩
    · rcases rpGo_three t 0 (c.toNat % 2 ^ k) (by unfold maxVar; omega) with h1 | h1 | ⟨n, m, h1, h2, h3, h4⟩
      · exact .inl ⟨20, h1, .inl rfl⟩
      · exact .inl ⟨21, h1, .inr rfl⟩
      · exact .inr ⟨n, m, h1, h2, by simp; omega, h4⟩

/-- The base that a sign and a delta tell. -/
def baseN (c s d : Nat) : Option Nat := if s = 1 then (if d + 1 ≤ c ∧ c - (d + 1) ≤ 4611686018427387903 then some (c - (d + 1)) else none) else sumN c d 4611686018427387903

def BAns : Option Nat → Ending → Prop
  | some b, e => e = .returned (.tuple #[.int .u64 (b : Int), .bool true])
  | none, e => ∃ x : Int, e = .returned (.tuple #[.int .u64 x, .bool false])

set_option maxHeartbeats 1000000 in
theorem baseAt_any (c s d : Nat) (hc : c < 18446744073709551616) (hs : s < 256) (hd : d ≤ 4611686018427387903) (w : World) :
    Calls Try.prog 59 #[.int .u64 c, .int .u8 s, .int .u64 d] w fun e w' => BAns (baseN c s d) e ∧ w = w' := by
  have HSU := Bx.mk (sum_62 c d hc (by omega))
  have HLE := Bx.mk (less_any c (d + 1) hc)
  obtain ⟨C, hC⟩ := letter c
  obtain ⟨S, hS⟩ := letter s
  obtain ⟨D, hD⟩ := letter d
  obtain ⟨D1, hD1⟩ := letter (d + 1)
  simp only [hC, hS, hD, hD1] at HSU HLE ⊢
  by_cases h : s = 1
  · have h1 : (S != 1) = false := by rw [bne_eq_false_iff_eq]; omega
    have h1' : (S == 1) = true := by rw [beq_iff_eq]; omega
    obtain rfl : S = 1 := by omega
    have hadd : IntKind.u64.wrap (D + 1) = D1 := by rw [show D + 1 = D1 from by omega]; exact u64_keep (by omega) (by omega)
    by_cases h2 : d + 1 ≤ c
    · rw [show subN c (d + 1) = some (c - (d + 1)) from by unfold subN; rw [if_pos h2], Opt_some] at HLE
      obtain ⟨B, hB⟩ := letter (c - (d + 1))
      simp only [hB] at HLE
      by_cases h3 : c - (d + 1) ≤ 4611686018427387903
      · rw [show baseN c s d = some (c - (d + 1)) from by unfold baseN; rw [if_pos h, if_pos ⟨h2, h3⟩]]
        have h4 : decide (B ≤ 4611686018427387903) = true := by rw [decide_eq_true_iff]; omega
        unfold BAns
        simp only [hB]
        clear h h2 h3 hB hC hS hD hD1 hc hs hd HSU h1 h1'
        go_enter Try.func59, Try.ntmps59
        go_wp2_with (go_at_call 79; refine (HLE.out _).mono ?_; rintro e w' ⟨rfl, rfl⟩)
        go_ret2
        exact ⟨rfl, rfl⟩
      · rw [show baseN c s d = none from by unfold baseN; rw [if_pos h, if_neg (by omega)]]
        have h4 : decide (B ≤ 4611686018427387903) = false := by rw [decide_eq_false_iff_not]; omega
        unfold BAns
        clear h h2 h3 hB hC hS hD hD1 hc hs hd HSU h1 h1'
        go_enter Try.func59, Try.ntmps59
        go_wp2_with (go_at_call 79; refine (HLE.out _).mono ?_; rintro e w' ⟨rfl, rfl⟩)
        go_ret2
        exact ⟨⟨_, rfl⟩, rfl⟩
    · rw [show subN c (d + 1) = none from by unfold subN; rw [if_neg h2], Opt_none] at HLE
      rw [show baseN c s d = none from by unfold baseN; rw [if_pos h, if_neg (by omega)]]
      unfold BAns
      clear h h2 hC hS hD hD1 hc hs hd HSU h1 h1'
      go_enter Try.func59, Try.ntmps59
      go_wp2_with (go_at_call 79; refine (HLE.out _).mono ?_; rintro e w' ⟨rfl, rfl⟩)
      go_ret2
      exact ⟨⟨_, rfl⟩, rfl⟩
  · have h1 : (S != 1) = true := by rw [bne_iff_ne]; omega
    have h1' : (S == 1) = false := by rw [beq_eq_false_iff_ne]; omega
    rw [show baseN c s d = sumN c d 4611686018427387903 from by unfold baseN; rw [if_neg h]]
    generalize sumN c d 4611686018427387903 = o at HSU ⊢
    clear h hC hS hD hD1 hc hs hd HLE
    cases o with
    | none =>
      rw [Opt_none] at HSU
      unfold BAns
      go_enter Try.func59, Try.ntmps59
      go_wp2_with (go_at_call 78; refine (HSU.out _).mono ?_; rintro e w' ⟨rfl, rfl⟩)
      go_ret2
      exact ⟨⟨_, rfl⟩, rfl⟩
    | some b =>
      rw [Opt_some] at HSU
      unfold BAns
      obtain ⟨B, hB⟩ := letter b
      simp only [hB] at HSU ⊢
      clear hB
      go_enter Try.func59, Try.ntmps59
      go_wp2_with (go_at_call 78; refine (HSU.out _).mono ?_; rintro e w' ⟨rfl, rfl⟩)
      go_ret2
      exact ⟨rfl, rfl⟩

/-- What a section's prefix comes to: a count, a base, how many bytes, an error. -/
def qrd (l : List UInt8) (t m : Nat) : Int × Int × Int × Int :=
  if (rp 8 l).2.2 ≠ 0 then (0, 0, 0, (rp 8 l).2.2)
  else if (rp 7 (l.drop (rp 8 l).2.1.toNat)).2.2 ≠ 0 then (0, 0, 0, (rp 7 (l.drop (rp 8 l).2.1.toNat)).2.2)
  else match dcN (rp 8 l).1.toNat t m with
    | none => (0, 0, 0, 24)
    | some c => match baseN c ((l.getD (rp 8 l).2.1.toNat 0).toNat / 128) (rp 7 (l.drop (rp 8 l).2.1.toNat)).1.toNat with
      | none => (0, 0, 0, 24)
      | some b => ((c : Int), (b : Int), (rp 8 l).2.1 + (rp 7 (l.drop (rp 8 l).2.1.toNat)).2.1, 0)
def Ans4 (r : Int × Int × Int × Int) : Ending := .returned (.tuple #[.int .u64 r.1, .int .u64 r.2.1, .int .i64 r.2.2.1, .int .i64 r.2.2.2])

theorem results_tmp4 {fn : Func} {t u v x : Tmp} (h : fn.results = #[.tmp t, .tmp u, .tmp v, .tmp x]) (tmps : Array Value) (P : Program) (w : World) :
    (results fn tmps).run P w = .ok (.tuple #[tmps.getD t undef, tmps.getD u undef, tmps.getD v undef, tmps.getD x undef]) w := by
  simp [results, h]
theorem ret4 {a b d : Value} {c c' : Int} (h : c = c') : Ending.returned (.tuple #[a, b, .int .i64 c, d]) = .returned (.tuple #[a, b, .int .i64 c', d]) := by rw [h]
theorem rp_at (bV : Value) (l : List UInt8) (n : Int) (k : Nat) (hk : bitsOf n = k) (r : Int × Int × Int) (hr : rp k l = r) (w : World) (hb : Bs w bV l) (hm : l.length ≤ 1000000) :
    Calls Try.prog 57 #[bV, .int .i64 n] w fun e w' => e = .returned (.tuple #[.int .u64 r.1, .int .i64 r.2.1, .int .i64 r.2.2]) ∧ w = w' := by
  subst hk hr
  exact readPrefix_any bV l n w hb hm

set_option maxRecDepth 100000 in
set_option maxHeartbeats 4000000 in
theorem qReadPrefix_any (bV : Value) (l : List UInt8) (t : Nat) (cap : Int) (w : World) (hb : Bs w bV l) (hm : l.length ≤ 1000000) (ht : t < 4611686018427387904) (hcap : cap < 9223372036854775808) :
    Calls Try.prog 32 #[bV, .int .u64 t, .int .i64 cap] w fun e w' => e = Ans4 (qrd l t (mostN cap)) ∧ w = w' := by
  have hmo := mostN_lt hcap
  have HQ := Bx.mk (show qrd l t (mostN cap) = qrd l t (mostN cap) from rfl)
  rcases rp_two 8 l with ⟨e1, he1, hh⟩ | ⟨n1, m1, he1, hm1, hm2, hn1⟩
  · have HR := Bx.mk (rp_at bV l 8 8 rfl _ he1 w hb hm)
    have hq : qrd l t (mostN cap) = (0, 0, 0, e1) := by unfold qrd; rw [he1, if_pos (by rcases hh with rfl | rfl <;> simp)]
    rw [hq]
    unfold Ans4
    obtain ⟨T, hT⟩ := letter t
    simp only [hT]
    have h0 : (e1 != 0) = true := by rw [bne_iff_ne]; omega
    have h0' : (e1 == 0) = false := by rw [beq_eq_false_iff_ne]; omega
    clear hq HQ hT hb hm ht hcap hmo hh he1
    go_enter Try.func32, Try.ntmps32
    go_wp2_with fail
    refine HR.out.mono ?_
    rintro e w' ⟨rfl, rfl⟩
    go_wp2_with fail
    ((try simp only [Exit.inBlock, Exit.then]); refine bodyPost_ret (results_tmp4 rfl _ _ _) rfl ?_)
    exact ⟨rfl, rfl⟩
  have HR1 := Bx.mk (rp_at bV l 8 8 rfl _ he1 w hb hm)
  obtain ⟨cV, hfrom, hcV⟩ := hb.from_ (m1 : Int) (by omega) (by omega)
  have hcb := hcV w hb
  rw [Int.toNat_natCast] at hcb
  obtain ⟨N1, hN1⟩ := letter n1
  obtain ⟨M1, hM1⟩ := letter m1
  rw [hM1] at hfrom
  simp only [hN1, hM1] at HR1
  rcases rp_two 7 (l.drop m1) with ⟨e2, he2, hh⟩ | ⟨n2, m2, he2, hm3, hm4, hn2⟩
  · have HR2 := Bx.mk (rp_at cV (l.drop m1) 7 7 rfl _ he2 w hcb (by simp; omega))
    have hq : qrd l t (mostN cap) = (0, 0, 0, e2) := by unfold qrd; rw [he1, if_neg (by simp)]; dsimp only; rw [Int.toNat_natCast, he2, if_pos (by rcases hh with rfl | rfl <;> simp)]
    rw [hq]
    unfold Ans4
    obtain ⟨T, hT⟩ := letter t
    simp only [hT]
    have h0 : (e2 != 0) = true := by rw [bne_iff_ne]; omega
    have h0' : (e2 == 0) = false := by rw [beq_eq_false_iff_ne]; omega
    clear hq HQ hT hb hm ht hcap hmo hh he1 he2 hN1 hM1 hcV hcb hm1 hm2 hn1
    go_enter Try.func32, Try.ntmps32
    go_wp2_with fail
    refine HR1.out.mono ?_
    rintro e w' ⟨rfl, rfl⟩
    go_wp2_with fail
    refine HR2.out.mono ?_
    rintro e w' ⟨rfl, rfl⟩
    go_wp2_with fail
    ((try simp only [Exit.inBlock, Exit.then]); refine bodyPost_ret (results_tmp4 rfl _ _ _) rfl ?_)
    exact ⟨rfl, rfl⟩
  have HR2 := Bx.mk (rp_at cV (l.drop m1) 7 7 rfl _ he2 w hcb (by simp; omega))
  obtain ⟨N2, hN2⟩ := letter n2
  obtain ⟨M2, hM2⟩ := letter m2
  simp only [hN2, hM2] at HR2
  have hmx : maxVar = 4611686018427387903 := rfl
  have HD := Bx.mk (decodeCount_any n1 t cap (by omega) ht hcap w)
  have hq : qrd l t (mostN cap) = match dcN n1 t (mostN cap) with
    | none => (0, 0, 0, 24)
    | some c => match baseN c ((l.getD m1 0).toNat / 128) n2 with
      | none => (0, 0, 0, 24)
      | some b => ((c : Int), (b : Int), (m1 : Int) + (m2 : Int), 0) := by
    unfold qrd
    rw [he1, if_neg (by simp)]
    dsimp only
    rw [Int.toNat_natCast, he2, if_neg (by simp), Int.toNat_natCast]
    dsimp only
    rw [Int.toNat_natCast]
  rw [hq]
  clear hq HQ
  have hdl : ∀ c, dcN n1 t (mostN cap) = some c → c < 18446744073709551616 := fun c h => by have := (dcN_le h).1; omega
  generalize dcN n1 t (mostN cap) = dc at HD hdl ⊢
  cases dc with
  | none =>
    rw [Dec_none] at HD
    unfold Ans4
    obtain ⟨T, hT⟩ := letter t
    simp only [hT, hN1] at HD ⊢
    clear hdl hT hb hm ht hcap hmo he1 he2 hN1 hM1 hcV hcb hm1 hm2 hn1 hm3 hm4 hn2 hN2 hM2 hmx
    go_enter Try.func32, Try.ntmps32
    go_wp2_with fail
    refine HR1.out.mono ?_
    rintro e w' ⟨rfl, rfl⟩
    go_wp2_with fail
    refine HR2.out.mono ?_
    rintro e w' ⟨rfl, rfl⟩
    go_wp2_with fail
    refine HD.out.mono ?_
    rintro e w' ⟨rfl, rfl⟩
    go_wp2_with fail
    ((try simp only [Exit.inBlock, Exit.then]); refine bodyPost_ret (results_tmp4 rfl _ _ _) rfl ?_)
    exact ⟨rfl, rfl⟩
  | some c =>
    have hc := hdl c rfl
    rw [Dec_some] at HD
    have hlt : m1 < l.length := by have : (l.drop m1).length = l.length - m1 := List.length_drop; omega
    obtain ⟨p, hix, hcell0⟩ := hb.at_ m1 hlt
    have hcell := hcell0 w hb
    have hgd : l.getD m1 0 = l[m1] := by simp [List.getD, hlt]
    rw [← hgd] at hcell
    have hz := (l.getD m1 0).toNat_lt
    have hz' : (l.getD m1 0).toNat < 256 := hz
    generalize (l.getD m1 0).toNat = z at hcell hz' ⊢
    have hB := baseAt_any c (z / 128) n2 hc (by omega) (by omega) w
    obtain ⟨T, hT⟩ := letter t
    obtain ⟨C, hC⟩ := letter c
    obtain ⟨Z, hZ⟩ := letter z
    obtain ⟨S, hS⟩ := letter (z / 128)
    rw [hM1] at hix
    simp only [hT, hN1, hN2, hC, hS, hM1, hM2] at HD hB ⊢
    rw [hZ] at hcell
    have hshr : Z / 128 = S := by omega
    have hshr' : Z / 2 ^ 7 = S := by omega
    have hdl : (l.drop m1).length = l.length - m1 := List.length_drop
    have HADD : Bx (wrap64 (M1 + M2) = M1 + M2) := ⟨by unfold wrap64; omega⟩
    generalize baseN c (z / 128) n2 = bn at hB ⊢
    cases bn with
    | none =>
      unfold BAns at hB
      have HB := Bx.mk hB
      unfold Ans4
      clear hB hZ hS hC hT hz hz' hgd hcell0 hlt hc hdl hb hm ht hcap hmo he1 he2 hN1 hM1 hcV hcb hm1 hm2 hn1 hm3 hm4 hn2 hN2 hM2 hmx
      go_enter Try.func32, Try.ntmps32
      go_wp2_with fail
      refine HR1.out.mono ?_
      rintro e w' ⟨rfl, rfl⟩
      go_wp2_with fail
      refine HR2.out.mono ?_
      rintro e w' ⟨rfl, rfl⟩
      go_wp2_with fail
      refine HD.out.mono ?_
      rintro e w' ⟨rfl, rfl⟩
      go_wp2_with (with_reducible refine wpList_indexAddr (v := .pointer (some p)) (by with_unfolding_all exact hix _) ?_)
      refine HB.out.mono ?_
      rintro e w' ⟨⟨x, rfl⟩, rfl⟩
      go_wp2_with fail
      ((try simp only [Exit.inBlock, Exit.then]); refine bodyPost_ret (results_tmp4 rfl _ _ _) rfl ?_)
      exact ⟨rfl, rfl⟩
    | some b =>
      unfold BAns at hB
      obtain ⟨B, hBB⟩ := letter b
      simp only [hBB] at hB ⊢
      have HB := Bx.mk hB
      unfold Ans4
      clear hB hBB hZ hS hC hT hz hz' hgd hcell0 hlt hc hdl hb hm ht hcap hmo he1 he2 hN1 hM1 hcV hcb hm1 hm2 hn1 hm3 hm4 hn2 hN2 hM2 hmx
      go_enter Try.func32, Try.ntmps32
      go_wp2_with fail
      refine HR1.out.mono ?_
      rintro e w' ⟨rfl, rfl⟩
      go_wp2_with fail
      refine HR2.out.mono ?_
      rintro e w' ⟨rfl, rfl⟩
      go_wp2_with fail
      refine HD.out.mono ?_
      rintro e w' ⟨rfl, rfl⟩
      go_wp2_with (with_reducible refine wpList_indexAddr (v := .pointer (some p)) (by with_unfolding_all exact hix _) ?_)
      refine HB.out.mono ?_
      rintro e w' ⟨rfl, rfl⟩
      go_wp2_with fail
      ((try simp only [Exit.inBlock, Exit.then]); refine bodyPost_ret (results_tmp4 rfl _ _ _) rfl ?_)
      exact ⟨ret4 HADD.out, rfl⟩

end Go.Proofs.Yteopmaaghhendaa

/-
  Contract of the document's Prefix, over a row of bytes of its own: that row's block, and new ones, alone have turned.
-/
namespace Go.Proofs.Yteopmaaghhendaa
open Go.RowKit
set_option linter.unusedVariables false

/-- Of what stood the block of v alone has turned, and v' lies there, or in a new one. -/
def Fw (w : World) (v : Value) (w' : World) (v' : Value) : Prop := w.grownBy w' v.ownBlock ∧ (v'.ownBlock = v.ownBlock ∨ ∃ g, v'.ownBlock = some g ∧ w.heap.size ≤ g)
theorem Fw.refl (w : World) (v : Value) : Fw w v w v := ⟨⟨rfl, rfl, rfl, Nat.le_refl _, fun _ _ _ => rfl⟩, .inl rfl⟩
theorem Fw.trans {a b c : World} {va vb vc : Value} (h : Fw a va b vb) (k : Fw b vb c vc) : Fw a va c vc := by
  obtain ⟨h1, h2⟩ := h
  obtain ⟨k1, k2⟩ := k
  refine ⟨⟨k1.os.trans h1.os, k1.tape.trans h1.tape, k1.output.trans h1.output, Nat.le_trans h1.size k1.size, fun j hj hn => ?_⟩, ?_⟩
  · rw [k1.block j (Nat.lt_of_lt_of_le hj h1.size) ?_, h1.block j hj hn]
    rcases h2 with e | ⟨g, e, hg⟩
    · rw [e]; exact hn
    · rw [e]; intro e2; injection e2 with e2; omega
  · rcases k2 with e | ⟨g, e, hg⟩
    · rw [e]; exact h2
    · exact .inr ⟨g, e, Nat.le_trans h1.size hg⟩
theorem Fw.before {a b c : World} {v vc : Value} (hb : Below a.heap.size a b) (k : Fw b v c vc) : Fw a v c vc := by
  obtain ⟨k1, k2⟩ := k
  refine ⟨⟨k1.os.trans hb.os, k1.tape.trans hb.tape, k1.output.trans hb.output, Nat.le_trans hb.size k1.size, fun j hj hn => ?_⟩, ?_⟩
  · rw [k1.block j (Nat.lt_of_lt_of_le hj hb.size) hn, hb.block j hj]
  · rcases k2 with e | ⟨g, e, hg⟩
    · exact .inl e
    · exact .inr ⟨g, e, Nat.le_trans hb.size hg⟩
section
variable {P : Program} (w : World)
theorem wpList_append_fw {ops : Array Oper} {rest : List Oper} {o : Oper} {a : Act} {Q : Exit → Act → World → Prop} (hgd : o.guard = none) (s x : Operand) (t : TypeId)
    (ho : o.op = .call { callee := .builtin .append, args := #[s, x], argTypes := #[t, t] })
    (B : Nat) (e : TypeId) (i : TypeInfo) (z : Value) (bytes : Nat) (ht : P.underlying t = some (.slice e)) (hi : P.info? e = some i) (hz : i.zero = some z)
    (hsize : i.size = 1) (hby : i.bytes = bytes) (hzs : z.cells.size = 1)
    (v u : Value) (xs news : List Value) (hs : a.eval s = v) (hx : a.eval x = u) (hv : w.ownsRow B e 1 v xs.length xs) (hu : Rd w u news) (h1 : ∀ x ∈ news, x.oneCell' = true)
    (hbytes : (xs.length + news.length) * bytes ≤ 140737488355328) (hmax : xs.length + news.length ≤ maxLen) (hB : B ≤ w.heap.size)
    (h : ∀ v' w', w'.ownsRow B e 1 v' (xs ++ news).length (xs ++ news) → Below B w w' → Fw w v w' v' → wpList P ops Q rest (a.put o.dst v') w') : wpList P ops Q (o :: rest) a w :=
  wpList_plain hgd fun K hK => by
    obtain ⟨Au, c, rfl, c1, c2, c3⟩ := hu
    have hrun : ∃ v' w', (Builtin.append_ #[t, t] o.type #[v, .slice Au news.length c]).run P w = .ok v' w' ∧ w'.ownsRow B e 1 v' (xs ++ news).length (xs ++ news) ∧ Below B w w' ∧ Fw w v w' v' := by
      rcases c3 with ⟨rfl, rfl⟩ | ⟨x, rfl, hc⟩
      · obtain rfl : news = [] := List.eq_nil_of_length_eq_zero (by omega)
        exact ⟨v, w, run_append_owned_none w B t o.type e i 1 ht hi v _ xs hv, by rw [List.append_nil]; exact hv, Below.refl _ _, Fw.refl _ _⟩
      · obtain ⟨v', w', hr, r1, r2, _, r3⟩ := run_append_own_at (P := P) w B t o.type e i z 1 bytes ht hi hz hsize hby hzs (by omega) v _ xs hv x _ c news (by omega) hc h1 hmax hbytes hB
        refine ⟨v', w', hr, by rw [List.length_append]; exact r1, (Below.refl _ _).grown r2 hB ?_, r2, r3.imp id fun e => ⟨_, e, Nat.le_refl _⟩⟩
        intro k hk
        exact (hv.lt k hk).1
    obtain ⟨v', w', hr, h2, h3, h4⟩ := hrun
    unfold Oper.wp execOp
    simp only [ho, resolve, invoke, builtin, Sem.run_bind, Sem.run_pure, Result.andThen_ok, List.map_toArray, List.map_cons, List.map_nil, hs, hx, hr]
    exact hK _ _ (h v' w' h2 h3 h4)
end

/-- The loop's relation: what is still to write. -/
def PrefRelF (G : List UInt8) (bl : List UInt8) (B : Nat) (w : World) (bV : Value) (ov xv : Value) (wr : World) : Prop :=
  ∃ (m x : Nat) (l1 : List UInt8), xv = .int .u64 x ∧ x < 18446744073709551616 ∧ x < 128 ^ (m + 1) ∧ m ≤ 9 ∧ l1 ++ cont (m + 1) x = G ∧ l1.length + m ≤ bl.length + 10 ∧ OwB wr B ov l1 ∧ Below B w wr ∧ Fw w bV wr ov

set_option maxRecDepth 100000 in
set_option maxHeartbeats 1000000 in
theorem refPrefix_fw (B : Nat) (bV : Value) (bl : List UInt8) (f : UInt8) (n : Int) (v : Nat) (w : World) (hb : OwB w B bV bl) (hB : B ≤ w.heap.size) (hbl : bl.length ≤ 200000) (hv : v < 18446744073709551616) :
    Calls Try.prog 23 #[bV, .int .u8 f.toNat, .int .i64 n, .int .u64 v] w fun e w' => ∃ v', e = .returned v' ∧ OwB w' B v' (bl ++ pre f (bitsOf n) v) ∧ Below B w w' ∧ Fw w bV w' v' := by
  obtain ⟨i0, hi, hz, hz1, hz2⟩ := info_parts infoU8n
  have Hi := Lib.hid hi
  have Hz := Lib.hid hz
  have Hz1 := Lib.hid hz1
  have Hz2 := Lib.hid hz2
  clear hi hz hz1 hz2
  
  obtain ⟨hk1, hk8, hkn⟩ := bitsOf_range n
  generalize bitsOf n = k at hk1 hk8 hkn ⊢
  have hM := full_range hk1 hk8
  have hfull : full (min (max n 1) 8) = ((2 ^ k - 1 : Nat) : Int) := by rw [hkn, full_nat]
  have ha := hi_andNot f hk1 hk8
  have hlt := hi_lt f hk1 hk8
  have Hor := Lib.hid (hi_or f hk1 hk8)
  have Hpf := Lib.hid (preFirst_val f hk1 hk8 v)
  have Hpre : Hid (pre f k v = if v < 2 ^ k - 1 then [preFirst f k v] else preFirst f k v :: cont 10 (v - (2 ^ k - 1))) := rfl
  
  have hfw := full_wrap (k : Int) (by omega) (by omega)
  rw [full_nat, Int.toNat_natCast] at hfw
  generalize pre f k v = PL at Hpre ⊢
  generalize preFirst f k v = pf at Hpf Hpre
  generalize hiOf f k = hi at ha hlt Hor Hpf
  generalize 2 ^ k - 1 = M at hM ha hlt Hor Hpf Hpre hfull hfw
  have Hfull := Lib.hid hfull
  clear hfull
  obtain ⟨hM1, hM2⟩ := hM
  
  have horM := Hor.out M (by omega)
  by_cases hvM : v < M
  · have hw8v : IntKind.u8.wrap (v : Int) = (v : Int) := by rw [IntKind.wrap_u8]; omega
    have horv := Hor.out v (by omega)
    have Hf := Hpf.out
    have Hp := Hpre.out
    rw [if_pos hvM] at Hp
    rw [show min v M = v from by omega] at Hf
    subst Hp
    have Hf2 := Lib.hid Hf
    clear Hpf Hpre Hf
    go_enter Try.func23, Try.ntmps23
    go_wp2_with (first
        | (at_builtin
           refine wpList_append_fw _ rfl _ _ 23 rfl B 5 i0 (.int .u8 0) 1 Try.underlying23 Hi.out Hz.out Hz1.out Hz2.out rfl _ _ (bl.map bv) _ rfl rfl (hb.alloc _) (Rd.lit w 5 _ 1 rfl (by simp [maxLen])) (by simp [Value.oneCell']) (by simp; omega) (by simp [maxLen]; omega) (by have := hB; simp; omega) ?_
           intro v2 w2 hap2 hb2 hg2))
    go_ret
    refine ⟨v2, rfl, ?_, (Below.refl B w).trans (((Below.refl _ _).alloc hB _).trans hb2), Fw.before ((Below.refl _ _).alloc (Nat.le_refl _) _) hg2⟩
    exact OwB.snoc hap2 pf Hf2.out.symm
  · have Hf := Hpf.out
    have Hp := Hpre.out
    rw [if_neg hvM] at Hp
    rw [show min v M = M from by omega] at Hf
    have Hp2 := Lib.hid Hp
    have Hf2 := Lib.hid Hf
    clear Hpf Hpre Hf Hp
    have hsub : IntKind.u64.wrap ((v : Int) - (M : Int)) = ((v - M : Nat) : Int) := by rw [IntKind.wrap_u64]; omega
    go_enter Try.func23, Try.ntmps23
    go_wp2_with (first
        | (at_builtin
           refine wpList_append_fw _ rfl _ _ 23 rfl B 5 i0 (.int .u8 0) 1 Try.underlying23 Hi.out Hz.out Hz1.out Hz2.out rfl _ _ (bl.map bv) _ rfl rfl (hb.alloc _) (Rd.lit w 5 _ 1 rfl (by simp [maxLen])) (by simp [Value.oneCell']) (by simp; omega) (by simp [maxLen]; omega) (by have := hB; simp; omega) ?_
           intro v2 w2 hap2 hb2 hg2))
    have hap3 := OwB.snoc hap2 pf Hf2.out.symm
    have hb3 : Below B w w2 := (Below.refl B w).trans (((Below.refl _ _).alloc hB _).trans hb2)
    have hn3 : Fw w bV w2 v2 := Fw.before ((Below.refl _ _).alloc (Nat.le_refl _) _) hg2
    clear hap2 hb2 hg2
    have hlen3 : (bl ++ [pf]).length = bl.length + 1 := by simp
    have Hgoal : Hid ((bl ++ [pf]) ++ cont 10 (v - M) = bl ++ PL) := by rw [Hp2.out]; simp [Hid]
    have hl1 : (bl ++ [pf]).length ≤ bl.length + 1 := by omega
    clear hlen3
    generalize bl ++ [pf] = l0 at hap3 Hgoal hl1
    have hq : v - M < 128 ^ (9 + 1) := by have : (18446744073709551616 : Nat) ≤ 128 ^ (9 + 1) := by decide
                                          omega
    clear ha horM Hor hsub hvM Hf2 Hfull Hp2
    have hq64 : v - M < 18446744073709551616 := by omega
    generalize v - M = q at hq hq64 Hgoal ⊢
    have Hgoal2 := Lib.hid Hgoal.out
    clear Hgoal
    go_wp2
    go_loopw [0, 3] (fun ov xv wr => PrefRelF (bl ++ PL) bl B w bV ov xv wr) (fun _ xv _ => (intOf xv).toNat)
    case atStart => exact ⟨9, q, l0, rfl, hq64, hq, by omega, Hgoal2.out, by omega, hap3, hb3, hn3⟩
    case round =>
      obtain ⟨m, x, l1, rfl, hxq, hxm, hm9, hG, hl, hap4, hb4, hn4⟩ := hrel
      have HG := Lib.hid hG
      clear hG hap3 hb3 hn3
      have hxi : (x : Int) < 18446744073709551616 := by omega
      have Hxq := Lib.hid hxq
      have Hxm := Lib.hid hxm
      have Hr0 : Hid (¬ x < 128 → ∃ q, m = q + 1 ∧ x / 128 < 128 ^ (q + 1)) := fun h => pow128 x m hxm (by omega)
      clear hxq hxm hv hq hq64 hxi
      have hsz := hb4.size
      by_cases hx : x < 128
      · have hx' : (x : Int) < 256 := by omega
        go_wp2_with (first
          | (at_builtin
             refine wpList_append_fw _ rfl _ _ 23 rfl B 5 i0 (.int .u8 0) 1 Try.underlying23 Hi.out Hz.out Hz1.out Hz2.out rfl _ _ (l1.map bv) _ rfl rfl (hap4.alloc _) (Rd.lit wr 5 _ 1 rfl (by simp [maxLen])) (by simp [Value.oneCell']) (by simp; omega) (by simp [maxLen]; omega) (by have := hb4.size; simp; omega) ?_
             intro v2 w2 hap2 hb2 hg2))
        go_ret
        have hap5 := OwB.snoc hap2 (UInt8.ofNat x) (by rw [UInt8.toNat_ofNat', Nat.mod_eq_of_lt (by have : (2:Nat) ^ 8 = 256 := rfl; omega)])
        refine ⟨_, rfl, ?_, hb4.trans (((Below.refl _ _).alloc (by have := hb4.size; omega) _).trans hb2), hn4.trans (Fw.before ((Below.refl _ _).alloc (Nat.le_refl _) _) hg2)⟩
        rw [← HG.out, cont_last _ _ hx]
        exact hap5
      · obtain ⟨r, rfl, hr⟩ := Hr0.out hx
        have Hr := Lib.hid hr
        clear hr
        have ho := or128 x
        have hand := u64_mask x 7 127 (by rfl) (by omega) Hxq.out
        have ho2 : bits .or .u8 ((x : Int) % 128) 128 = ((x % 128 + 128 : Nat) : Int) := by have h := or128 (x % 128); rw [show (((x % 128 : Nat) : Int) % 256) = (x : Int) % 128 from by omega] at h; rw [h]; omega
        go_wp2_with (first
          | (at_builtin
             refine wpList_append_fw _ rfl _ _ 23 rfl B 5 i0 (.int .u8 0) 1 Try.underlying23 Hi.out Hz.out Hz1.out Hz2.out rfl _ _ (l1.map bv) _ rfl rfl (hap4.alloc _) (Rd.lit wr 5 _ 1 rfl (by simp [maxLen])) (by simp [Value.oneCell']) (by simp; omega) (by simp [maxLen]; omega) (by have := hb4.size; simp; omega) ?_
             intro v2 w2 hap2 hb2 hg2))
        have hap5 := OwB.snoc hap2 (UInt8.ofNat (x % 128 + 128)) (by rw [UInt8.toNat_ofNat', Nat.mod_eq_of_lt (by have : (2:Nat) ^ 8 = 256 := rfl; omega)]; omega)
        clear hap2
        go_roundw
        case rel =>
          refine ⟨r, x / 128, l1 ++ [UInt8.ofNat (x % 128 + 128)], by go_num, by have := Hxq.out; omega, Hr.out, by omega, ?_, by simp; omega, hap5, hb4.trans (((Below.refl _ _).alloc (by have := hb4.size; omega) _).trans hb2), hn4.trans (Fw.before ((Below.refl _ _).alloc (Nat.le_refl _) _) hg2)⟩
          rw [← HG.out, cont_more (r + 1) x (by omega), List.append_assoc]
          rfl
        case measure => simp [intOf]; omega

end Go.Proofs.Yteopmaaghhendaa
