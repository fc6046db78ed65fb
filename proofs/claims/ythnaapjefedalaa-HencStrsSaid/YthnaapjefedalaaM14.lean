/-
  Texts put together: NumMath2, StMath, DnH, DnK, DnL, HdMath, StrW.
-/
import Derived.Test.YthnaapjefedalaaM13
import Derived.Test.YthnaapjefedalaaM01
import Derived.KernelRfl
import Derived.Test.YthnaapjefedalaaM04
import Derived.Test.YthnaapjefedalaaM05
import Derived.BigQuiet

/-
  Plain facts on numbers in prefixes: what is written is read back; what is cut off goes on.
-/
namespace Go.Proofs.Ythnaapjefedalaa
open Go.RowKit
set_option linter.unusedVariables false

theorem pow7 (i : Nat) : (2 : Nat) ^ (7 * (i + 1)) = 2 ^ (7 * i) * 128 := by rw [Nat.mul_add, Nat.pow_add]
theorem split128 (x i : Nat) : x * 2 ^ (7 * i) = x % 128 * 2 ^ (7 * i) + x / 128 * 2 ^ (7 * (i + 1)) := by
  rw [pow7, Nat.mul_comm (2 ^ (7 * i)) 128, ← Nat.mul_assoc, ← Nat.add_mul]
  congr 1
  omega

theorem not_big (u p i : Nat) (h : u + p * 2 ^ (7 * i) ≤ maxVar) : ¬ (maxVar - u) / 2 ^ (7 * i) < p := by
  rw [Nat.not_lt, Nat.le_div_iff_mul_le (Nat.two_pow_pos _)]
  omega

theorem low7 (x : Nat) (h : x < 128) : (UInt8.ofNat x).toNat = x := by
  have h8 : x < 2 ^ 8 := by have : (2:Nat) ^ 8 = 256 := rfl; omega
  rw [UInt8.toNat_ofNat', Nat.mod_eq_of_lt h8]
theorem high7 (x : Nat) : (UInt8.ofNat (x % 128 + 128)).toNat = x % 128 + 128 := by
  have h8 : x % 128 + 128 < 2 ^ 8 := by have : (2:Nat) ^ 8 = 256 := rfl; omega
  rw [UInt8.toNat_ofNat', Nat.mod_eq_of_lt h8]

/-- What is written behind a full prefix is read back, or is too great. -/
theorem rpGo_cont (rest : List UInt8) (m : Nat) : ∀ x i u, x < 128 ^ (m + 1) → i + m ≤ 9 → u ≤ maxVar →
    rpGo (cont (m + 1) x ++ rest) i u = if u + x * 2 ^ (7 * i) ≤ maxVar then (((u + x * 2 ^ (7 * i) : Nat) : Int), ((i + 1 + (cont (m + 1) x).length : Nat) : Int), 0) else (0, 0, 21) := by
  induction m with
  | zero =>
    intro x i u hx hi hu
    have hx' : x < 128 := by simpa using hx
    rw [cont_last _ _ hx', List.singleton_append, rpGo_ans, low7 x hx', Nat.mod_eq_of_lt hx']
    by_cases hs : u + x * 2 ^ (7 * i) ≤ maxVar
    · rw [if_pos hs, rpAns_last _ _ _ _ _ _ (not_big u x i hs) hx' rfl]
      rfl
    · rw [if_neg hs]
      by_cases hb : (maxVar - u) / 2 ^ (7 * i) < x
      · rw [rpAns_big _ _ _ _ _ hb]
      · exact absurd (pfits x u i hu hb) hs
  | succ m ih =>
    intro x i u hx hi hu
    by_cases hx' : x < 128
    · rw [cont_last _ _ hx', List.singleton_append, rpGo_ans, low7 x hx', Nat.mod_eq_of_lt hx']
      by_cases hs : u + x * 2 ^ (7 * i) ≤ maxVar
      · rw [if_pos hs, rpAns_last _ _ _ _ _ _ (not_big u x i hs) hx' rfl]
        rfl
      · rw [if_neg hs]
        by_cases hb : (maxVar - u) / 2 ^ (7 * i) < x
        · rw [rpAns_big _ _ _ _ _ hb]
        · exact absurd (pfits x u i hu hb) hs
    · rw [cont_more _ _ (by omega), List.cons_append, rpGo_ans, high7]
      have e1 : (x % 128 + 128) % 128 = x % 128 := by omega
      rw [e1]
      have hsp := split128 x i
      by_cases hb : (maxVar - u) / 2 ^ (7 * i) < x % 128
      · rw [rpAns_big _ _ _ _ _ hb, if_neg]
        intro hs
        exact not_big u (x % 128) i (by omega) hb
      · have hf := pfits (x % 128) u i hu hb
        rw [rpAns_on _ _ _ _ _ _ hb (by omega) (by omega) rfl, ih (x / 128) (i + 1) _ (by rw [Nat.pow_succ] at hx; omega) (by omega) hf]
        have e2 : u + x % 128 * 2 ^ (7 * i) + x / 128 * 2 ^ (7 * (i + 1)) = u + x * 2 ^ (7 * i) := by omega
        rw [e2]
        have e3 : i + 1 + 1 + (cont (m + 1) (x / 128)).length = i + 1 + (UInt8.ofNat (x % 128 + 128) :: cont (m + 1) (x / 128)).length := by simp only [List.length_cons]; omega
        rw [e3]

/-- What is cut off there goes on. -/
theorem rpGo_cut (m : Nat) : ∀ x i u j, x < 128 ^ (m + 1) → i + m ≤ 9 → u + x * 2 ^ (7 * i) ≤ maxVar → j < (cont (m + 1) x).length →
    rpGo ((cont (m + 1) x).take j) i u = (0, 0, 20) := by
  induction m with
  | zero =>
    intro x i u j hx hi hu hj
    have hx' : x < 128 := by simpa using hx
    rw [cont_last _ _ hx'] at hj ⊢
    obtain rfl : j = 0 := by simpa using hj
    rfl
  | succ m ih =>
    intro x i u j hx hi hu hj
    by_cases hx' : x < 128
    · rw [cont_last _ _ hx'] at hj ⊢
      obtain rfl : j = 0 := by simpa using hj
      rfl
    · rw [cont_more _ _ (by omega)] at hj ⊢
      cases j with
      | zero => rfl
      | succ j =>
        rw [List.take_succ_cons, rpGo_ans, high7]
        have e1 : (x % 128 + 128) % 128 = x % 128 := by omega
        have hsp := split128 x i
        rw [e1, rpAns_on _ _ _ _ _ _ (not_big u (x % 128) i (by omega)) (by omega) (by omega) rfl]
        exact ih (x / 128) (i + 1) _ j (by rw [Nat.pow_succ] at hx; omega) (by omega) (by omega) (by simpa using hj)

theorem preFirst_mod (f : UInt8) (k v : Nat) (h1 : 1 ≤ k) (h8 : k ≤ 8) : (preFirst f k v).toNat % 2 ^ k = min v (2 ^ k - 1) := by
  have h := preFirst_val f h1 h8 v
  have h' : (preFirst f k v).toNat = hiOf f k + min v (2 ^ k - 1) := by omega
  have hp := Nat.two_pow_pos k
  rw [h']
  unfold hiOf
  rw [Nat.mul_comm, Nat.mul_add_mod, Nat.mod_eq_of_lt (by omega)]

theorem pow_128_10 : (18446744073709551616 : Nat) ≤ 128 ^ (9 + 1) := by decide

/-- A number in a prefix is read back, whatever stands behind; or it is too great. -/
theorem rp_pre (f : UInt8) (k v : Nat) (h1 : 1 ≤ k) (h8 : k ≤ 8) (hv : v < 18446744073709551616) (rest : List UInt8) :
    rp k (pre f k v ++ rest) = if v ≤ maxVar then ((v : Int), ((pre f k v).length : Int), 0) else (0, 0, 21) := by
  have hr := full_range h1 h8
  have hm := preFirst_mod f k v h1 h8
  have hp := pow_128_10
  unfold pre
  by_cases hlt : v < 2 ^ k - 1
  · rw [if_pos hlt, List.singleton_append]
    show (if (preFirst f k v).toNat % 2 ^ k < 2 ^ k - 1 then ((((preFirst f k v).toNat % 2 ^ k : Nat) : Int), (1 : Int), (0 : Int)) else rpGo rest 0 ((preFirst f k v).toNat % 2 ^ k)) = _
    rw [hm, show min v (2 ^ k - 1) = v from by omega, if_pos hlt, if_pos (by unfold maxVar; omega)]
    rfl
  · rw [if_neg hlt, List.cons_append]
    show (if (preFirst f k v).toNat % 2 ^ k < 2 ^ k - 1 then _ else rpGo (cont 10 (v - (2 ^ k - 1)) ++ rest) 0 ((preFirst f k v).toNat % 2 ^ k)) = _
    rw [hm, show min v (2 ^ k - 1) = 2 ^ k - 1 from by omega, if_neg (by omega), rpGo_cont rest 9 _ 0 _ (by omega) (by omega) (by unfold maxVar; omega)]
    have e : 2 ^ k - 1 + (v - (2 ^ k - 1)) * 2 ^ (7 * 0) = v := by simp; omega
    rw [e]
    congr 3
    show ((0 + 1 + (cont 10 (v - (2 ^ k - 1))).length : Nat) : Int) = _
    simp only [List.length_cons]
    omega

/-- A number in a prefix that is cut off goes on. -/
theorem rp_cut (f : UInt8) (k v j : Nat) (h1 : 1 ≤ k) (h8 : k ≤ 8) (hv : v ≤ maxVar) (hj : j < (pre f k v).length) : rp k ((pre f k v).take j) = (0, 0, 20) := by
  have hr := full_range h1 h8
  have hm := preFirst_mod f k v h1 h8
  have hp := pow_128_10
  unfold pre at hj ⊢
  by_cases hlt : v < 2 ^ k - 1
  · rw [if_pos hlt] at hj ⊢
    obtain rfl : j = 0 := by simpa using hj
    rfl
  · rw [if_neg hlt] at hj ⊢
    cases j with
    | zero => rfl
    | succ j =>
      rw [List.take_succ_cons]
      show (if (preFirst f k v).toNat % 2 ^ k < 2 ^ k - 1 then _ else rpGo ((cont 10 (v - (2 ^ k - 1))).take j) 0 ((preFirst f k v).toNat % 2 ^ k)) = _
      rw [hm, show min v (2 ^ k - 1) = 2 ^ k - 1 from by omega, if_neg (by omega)]
      exact rpGo_cut 9 _ 0 _ j (by unfold maxVar at hv; omega) (by omega) (by simp; omega) (by simpa using hj)

/-- A number that is cut off goes on. -/
theorem rv_cut (x i : Nat) (h : x < 4611686018427387904) (hi : i < (varB (x : Int)).length) : rv ((varB (x : Int)).take i) = (0, 0, 20) := by
  obtain ⟨q, n, hq, hn, hx, he, hl⟩ := clsOf x h
  rw [he] at hi ⊢
  rw [bes_len] at hi
  cases i with
  | zero => rfl
  | succ i =>
    obtain ⟨m, rfl⟩ : ∃ m, n = m + 1 := ⟨n - 1, by omega⟩
    have hn4 : m + 1 = 1 ∧ q = 0 ∨ m + 1 = 2 ∧ q = 1 ∨ m + 1 = 4 ∧ q = 2 ∨ m + 1 = 8 ∧ q = 3 := by
      have : q = 0 ∨ q = 1 ∨ q = 2 ∨ q = 3 := by omega
      rcases this with rfl | rfl | rfl | rfl <;> simp_all
    generalize hW : x + q * 2 ^ (8 * (m + 1) - 2) = W
    have hc : (byteAt (W : Int) m).toNat / 64 = q := by
      rw [byteAt_nat]
      rcases hn4 with ⟨h, rfl⟩ | ⟨h, rfl⟩ | ⟨h, rfl⟩ | ⟨h, rfl⟩ <;> (obtain rfl := Nat.succ.inj h) <;> simp at hx hW ⊢ <;> omega
    have hlen : rvLen (byteAt (W : Int) m) = m + 1 := by unfold rvLen; rw [hc, ← hn]
    rw [bes_cons, List.take_succ_cons]
    exact rv_more _ _ (by rw [hlen, List.length_cons, List.length_take, bes_len]; omega)

end Go.Proofs.Ythnaapjefedalaa

/-
  The two tables that never change, as plain mathematics: what stands where. No program is named here.
-/
namespace Go.Proofs.Ythnaapjefedalaa
set_option linter.unusedVariables false

/-- The entries of HPACK's table. -/
def T2 : List Fd := [
  (⟨#[58, 97, 117, 116, 104, 111, 114, 105, 116, 121]⟩, ⟨#[]⟩),
  (⟨#[58, 109, 101, 116, 104, 111, 100]⟩, ⟨#[71, 69, 84]⟩),
  (⟨#[58, 109, 101, 116, 104, 111, 100]⟩, ⟨#[80, 79, 83, 84]⟩),
  (⟨#[58, 112, 97, 116, 104]⟩, ⟨#[47]⟩),
  (⟨#[58, 112, 97, 116, 104]⟩, ⟨#[47, 105, 110, 100, 101, 120, 46, 104, 116, 109, 108]⟩),
  (⟨#[58, 115, 99, 104, 101, 109, 101]⟩, ⟨#[104, 116, 116, 112]⟩),
  (⟨#[58, 115, 99, 104, 101, 109, 101]⟩, ⟨#[104, 116, 116, 112, 115]⟩),
  (⟨#[58, 115, 116, 97, 116, 117, 115]⟩, ⟨#[50, 48, 48]⟩),
  (⟨#[58, 115, 116, 97, 116, 117, 115]⟩, ⟨#[50, 48, 52]⟩),
  (⟨#[58, 115, 116, 97, 116, 117, 115]⟩, ⟨#[50, 48, 54]⟩),
  (⟨#[58, 115, 116, 97, 116, 117, 115]⟩, ⟨#[51, 48, 52]⟩),
  (⟨#[58, 115, 116, 97, 116, 117, 115]⟩, ⟨#[52, 48, 48]⟩),
  (⟨#[58, 115, 116, 97, 116, 117, 115]⟩, ⟨#[52, 48, 52]⟩),
  (⟨#[58, 115, 116, 97, 116, 117, 115]⟩, ⟨#[53, 48, 48]⟩),
  (⟨#[97, 99, 99, 101, 112, 116, 45, 99, 104, 97, 114, 115, 101, 116]⟩, ⟨#[]⟩),
  (⟨#[97, 99, 99, 101, 112, 116, 45, 101, 110, 99, 111, 100, 105, 110, 103]⟩, ⟨#[103, 122, 105, 112, 44, 32, 100, 101, 102, 108, 97, 116, 101]⟩),
  (⟨#[97, 99, 99, 101, 112, 116, 45, 108, 97, 110, 103, 117, 97, 103, 101]⟩, ⟨#[]⟩),
  (⟨#[97, 99, 99, 101, 112, 116, 45, 114, 97, 110, 103, 101, 115]⟩, ⟨#[]⟩),
  (⟨#[97, 99, 99, 101, 112, 116]⟩, ⟨#[]⟩),
  (⟨#[97, 99, 99, 101, 115, 115, 45, 99, 111, 110, 116, 114, 111, 108, 45, 97, 108, 108, 111, 119, 45, 111, 114, 105, 103, 105, 110]⟩, ⟨#[]⟩),
  (⟨#[97, 103, 101]⟩, ⟨#[]⟩),
  (⟨#[97, 108, 108, 111, 119]⟩, ⟨#[]⟩),
  (⟨#[97, 117, 116, 104, 111, 114, 105, 122, 97, 116, 105, 111, 110]⟩, ⟨#[]⟩),
  (⟨#[99, 97, 99, 104, 101, 45, 99, 111, 110, 116, 114, 111, 108]⟩, ⟨#[]⟩),
  (⟨#[99, 111, 110, 116, 101, 110, 116, 45, 100, 105, 115, 112, 111, 115, 105, 116, 105, 111, 110]⟩, ⟨#[]⟩),
  (⟨#[99, 111, 110, 116, 101, 110, 116, 45, 101, 110, 99, 111, 100, 105, 110, 103]⟩, ⟨#[]⟩),
  (⟨#[99, 111, 110, 116, 101, 110, 116, 45, 108, 97, 110, 103, 117, 97, 103, 101]⟩, ⟨#[]⟩),
  (⟨#[99, 111, 110, 116, 101, 110, 116, 45, 108, 101, 110, 103, 116, 104]⟩, ⟨#[]⟩),
  (⟨#[99, 111, 110, 116, 101, 110, 116, 45, 108, 111, 99, 97, 116, 105, 111, 110]⟩, ⟨#[]⟩),
  (⟨#[99, 111, 110, 116, 101, 110, 116, 45, 114, 97, 110, 103, 101]⟩, ⟨#[]⟩),
  (⟨#[99, 111, 110, 116, 101, 110, 116, 45, 116, 121, 112, 101]⟩, ⟨#[]⟩),
  (⟨#[99, 111, 111, 107, 105, 101]⟩, ⟨#[]⟩),
  (⟨#[100, 97, 116, 101]⟩, ⟨#[]⟩),
  (⟨#[101, 116, 97, 103]⟩, ⟨#[]⟩),
  (⟨#[101, 120, 112, 101, 99, 116]⟩, ⟨#[]⟩),
  (⟨#[101, 120, 112, 105, 114, 101, 115]⟩, ⟨#[]⟩),
  (⟨#[102, 114, 111, 109]⟩, ⟨#[]⟩),
  (⟨#[104, 111, 115, 116]⟩, ⟨#[]⟩),
  (⟨#[105, 102, 45, 109, 97, 116, 99, 104]⟩, ⟨#[]⟩),
  (⟨#[105, 102, 45, 109, 111, 100, 105, 102, 105, 101, 100, 45, 115, 105, 110, 99, 101]⟩, ⟨#[]⟩),
  (⟨#[105, 102, 45, 110, 111, 110, 101, 45, 109, 97, 116, 99, 104]⟩, ⟨#[]⟩),
  (⟨#[105, 102, 45, 114, 97, 110, 103, 101]⟩, ⟨#[]⟩),
  (⟨#[105, 102, 45, 117, 110, 109, 111, 100, 105, 102, 105, 101, 100, 45, 115, 105, 110, 99, 101]⟩, ⟨#[]⟩),
  (⟨#[108, 97, 115, 116, 45, 109, 111, 100, 105, 102, 105, 101, 100]⟩, ⟨#[]⟩),
  (⟨#[108, 105, 110, 107]⟩, ⟨#[]⟩),
  (⟨#[108, 111, 99, 97, 116, 105, 111, 110]⟩, ⟨#[]⟩),
  (⟨#[109, 97, 120, 45, 102, 111, 114, 119, 97, 114, 100, 115]⟩, ⟨#[]⟩),
  (⟨#[112, 114, 111, 120, 121, 45, 97, 117, 116, 104, 101, 110, 116, 105, 99, 97, 116, 101]⟩, ⟨#[]⟩),
  (⟨#[112, 114, 111, 120, 121, 45, 97, 117, 116, 104, 111, 114, 105, 122, 97, 116, 105, 111, 110]⟩, ⟨#[]⟩),
  (⟨#[114, 97, 110, 103, 101]⟩, ⟨#[]⟩),
  (⟨#[114, 101, 102, 101, 114, 101, 114]⟩, ⟨#[]⟩),
  (⟨#[114, 101, 102, 114, 101, 115, 104]⟩, ⟨#[]⟩),
  (⟨#[114, 101, 116, 114, 121, 45, 97, 102, 116, 101, 114]⟩, ⟨#[]⟩),
  (⟨#[115, 101, 114, 118, 101, 114]⟩, ⟨#[]⟩),
  (⟨#[115, 101, 116, 45, 99, 111, 111, 107, 105, 101]⟩, ⟨#[]⟩),
  (⟨#[115, 116, 114, 105, 99, 116, 45, 116, 114, 97, 110, 115, 112, 111, 114, 116, 45, 115, 101, 99, 117, 114, 105, 116, 121]⟩, ⟨#[]⟩),
  (⟨#[116, 114, 97, 110, 115, 102, 101, 114, 45, 101, 110, 99, 111, 100, 105, 110, 103]⟩, ⟨#[]⟩),
  (⟨#[117, 115, 101, 114, 45, 97, 103, 101, 110, 116]⟩, ⟨#[]⟩),
  (⟨#[118, 97, 114, 121]⟩, ⟨#[]⟩),
  (⟨#[118, 105, 97]⟩, ⟨#[]⟩),
  (⟨#[119, 119, 119, 45, 97, 117, 116, 104, 101, 110, 116, 105, 99, 97, 116, 101]⟩, ⟨#[]⟩)]

/-- The entries of QPACK's table. -/
def T3 : List Fd := [
  (⟨#[58, 97, 117, 116, 104, 111, 114, 105, 116, 121]⟩, ⟨#[]⟩),
  (⟨#[58, 112, 97, 116, 104]⟩, ⟨#[47]⟩),
  (⟨#[97, 103, 101]⟩, ⟨#[48]⟩),
  (⟨#[99, 111, 110, 116, 101, 110, 116, 45, 100, 105, 115, 112, 111, 115, 105, 116, 105, 111, 110]⟩, ⟨#[]⟩),
  (⟨#[99, 111, 110, 116, 101, 110, 116, 45, 108, 101, 110, 103, 116, 104]⟩, ⟨#[48]⟩),
  (⟨#[99, 111, 111, 107, 105, 101]⟩, ⟨#[]⟩),
  (⟨#[100, 97, 116, 101]⟩, ⟨#[]⟩),
  (⟨#[101, 116, 97, 103]⟩, ⟨#[]⟩),
  (⟨#[105, 102, 45, 109, 111, 100, 105, 102, 105, 101, 100, 45, 115, 105, 110, 99, 101]⟩, ⟨#[]⟩),
  (⟨#[105, 102, 45, 110, 111, 110, 101, 45, 109, 97, 116, 99, 104]⟩, ⟨#[]⟩),
  (⟨#[108, 97, 115, 116, 45, 109, 111, 100, 105, 102, 105, 101, 100]⟩, ⟨#[]⟩),
  (⟨#[108, 105, 110, 107]⟩, ⟨#[]⟩),
  (⟨#[108, 111, 99, 97, 116, 105, 111, 110]⟩, ⟨#[]⟩),
  (⟨#[114, 101, 102, 101, 114, 101, 114]⟩, ⟨#[]⟩),
  (⟨#[115, 101, 116, 45, 99, 111, 111, 107, 105, 101]⟩, ⟨#[]⟩),
  (⟨#[58, 109, 101, 116, 104, 111, 100]⟩, ⟨#[67, 79, 78, 78, 69, 67, 84]⟩),
  (⟨#[58, 109, 101, 116, 104, 111, 100]⟩, ⟨#[68, 69, 76, 69, 84, 69]⟩),
  (⟨#[58, 109, 101, 116, 104, 111, 100]⟩, ⟨#[71, 69, 84]⟩),
  (⟨#[58, 109, 101, 116, 104, 111, 100]⟩, ⟨#[72, 69, 65, 68]⟩),
  (⟨#[58, 109, 101, 116, 104, 111, 100]⟩, ⟨#[79, 80, 84, 73, 79, 78, 83]⟩),
  (⟨#[58, 109, 101, 116, 104, 111, 100]⟩, ⟨#[80, 79, 83, 84]⟩),
  (⟨#[58, 109, 101, 116, 104, 111, 100]⟩, ⟨#[80, 85, 84]⟩),
  (⟨#[58, 115, 99, 104, 101, 109, 101]⟩, ⟨#[104, 116, 116, 112]⟩),
  (⟨#[58, 115, 99, 104, 101, 109, 101]⟩, ⟨#[104, 116, 116, 112, 115]⟩),
  (⟨#[58, 115, 116, 97, 116, 117, 115]⟩, ⟨#[49, 48, 51]⟩),
  (⟨#[58, 115, 116, 97, 116, 117, 115]⟩, ⟨#[50, 48, 48]⟩),
  (⟨#[58, 115, 116, 97, 116, 117, 115]⟩, ⟨#[51, 48, 52]⟩),
  (⟨#[58, 115, 116, 97, 116, 117, 115]⟩, ⟨#[52, 48, 52]⟩),
  (⟨#[58, 115, 116, 97, 116, 117, 115]⟩, ⟨#[53, 48, 51]⟩),
  (⟨#[97, 99, 99, 101, 112, 116]⟩, ⟨#[42, 47, 42]⟩),
  (⟨#[97, 99, 99, 101, 112, 116]⟩, ⟨#[97, 112, 112, 108, 105, 99, 97, 116, 105, 111, 110, 47, 100, 110, 115, 45, 109, 101, 115, 115, 97, 103, 101]⟩),
  (⟨#[97, 99, 99, 101, 112, 116, 45, 101, 110, 99, 111, 100, 105, 110, 103]⟩, ⟨#[103, 122, 105, 112, 44, 32, 100, 101, 102, 108, 97, 116, 101, 44, 32, 98, 114]⟩),
  (⟨#[97, 99, 99, 101, 112, 116, 45, 114, 97, 110, 103, 101, 115]⟩, ⟨#[98, 121, 116, 101, 115]⟩),
  (⟨#[97, 99, 99, 101, 115, 115, 45, 99, 111, 110, 116, 114, 111, 108, 45, 97, 108, 108, 111, 119, 45, 104, 101, 97, 100, 101, 114, 115]⟩, ⟨#[99, 97, 99, 104, 101, 45, 99, 111, 110, 116, 114, 111, 108]⟩),
  (⟨#[97, 99, 99, 101, 115, 115, 45, 99, 111, 110, 116, 114, 111, 108, 45, 97, 108, 108, 111, 119, 45, 104, 101, 97, 100, 101, 114, 115]⟩, ⟨#[99, 111, 110, 116, 101, 110, 116, 45, 116, 121, 112, 101]⟩),
  (⟨#[97, 99, 99, 101, 115, 115, 45, 99, 111, 110, 116, 114, 111, 108, 45, 97, 108, 108, 111, 119, 45, 111, 114, 105, 103, 105, 110]⟩, ⟨#[42]⟩),
  (⟨#[99, 97, 99, 104, 101, 45, 99, 111, 110, 116, 114, 111, 108]⟩, ⟨#[109, 97, 120, 45, 97, 103, 101, 61, 48]⟩),
  (⟨#[99, 97, 99, 104, 101, 45, 99, 111, 110, 116, 114, 111, 108]⟩, ⟨#[109, 97, 120, 45, 97, 103, 101, 61, 50, 53, 57, 50, 48, 48, 48]⟩),
  (⟨#[99, 97, 99, 104, 101, 45, 99, 111, 110, 116, 114, 111, 108]⟩, ⟨#[109, 97, 120, 45, 97, 103, 101, 61, 54, 48, 52, 56, 48, 48]⟩),
  (⟨#[99, 97, 99, 104, 101, 45, 99, 111, 110, 116, 114, 111, 108]⟩, ⟨#[110, 111, 45, 99, 97, 99, 104, 101]⟩),
  (⟨#[99, 97, 99, 104, 101, 45, 99, 111, 110, 116, 114, 111, 108]⟩, ⟨#[110, 111, 45, 115, 116, 111, 114, 101]⟩),
  (⟨#[99, 97, 99, 104, 101, 45, 99, 111, 110, 116, 114, 111, 108]⟩, ⟨#[112, 117, 98, 108, 105, 99, 44, 32, 109, 97, 120, 45, 97, 103, 101, 61, 51, 49, 53, 51, 54, 48, 48, 48]⟩),
  (⟨#[99, 111, 110, 116, 101, 110, 116, 45, 101, 110, 99, 111, 100, 105, 110, 103]⟩, ⟨#[98, 114]⟩),
  (⟨#[99, 111, 110, 116, 101, 110, 116, 45, 101, 110, 99, 111, 100, 105, 110, 103]⟩, ⟨#[103, 122, 105, 112]⟩),
  (⟨#[99, 111, 110, 116, 101, 110, 116, 45, 116, 121, 112, 101]⟩, ⟨#[97, 112, 112, 108, 105, 99, 97, 116, 105, 111, 110, 47, 100, 110, 115, 45, 109, 101, 115, 115, 97, 103, 101]⟩),
  (⟨#[99, 111, 110, 116, 101, 110, 116, 45, 116, 121, 112, 101]⟩, ⟨#[97, 112, 112, 108, 105, 99, 97, 116, 105, 111, 110, 47, 106, 97, 118, 97, 115, 99, 114, 105, 112, 116]⟩),
  (⟨#[99, 111, 110, 116, 101, 110, 116, 45, 116, 121, 112, 101]⟩, ⟨#[97, 112, 112, 108, 105, 99, 97, 116, 105, 111, 110, 47, 106, 115, 111, 110]⟩),
  (⟨#[99, 111, 110, 116, 101, 110, 116, 45, 116, 121, 112, 101]⟩, ⟨#[97, 112, 112, 108, 105, 99, 97, 116, 105, 111, 110, 47, 120, 45, 119, 119, 119, 45, 102, 111, 114, 109, 45, 117, 114, 108, 101, 110, 99, 111, 100, 101, 100]⟩),
  (⟨#[99, 111, 110, 116, 101, 110, 116, 45, 116, 121, 112, 101]⟩, ⟨#[105, 109, 97, 103, 101, 47, 103, 105, 102]⟩),
  (⟨#[99, 111, 110, 116, 101, 110, 116, 45, 116, 121, 112, 101]⟩, ⟨#[105, 109, 97, 103, 101, 47, 106, 112, 101, 103]⟩),
  (⟨#[99, 111, 110, 116, 101, 110, 116, 45, 116, 121, 112, 101]⟩, ⟨#[105, 109, 97, 103, 101, 47, 112, 110, 103]⟩),
  (⟨#[99, 111, 110, 116, 101, 110, 116, 45, 116, 121, 112, 101]⟩, ⟨#[116, 101, 120, 116, 47, 99, 115, 115]⟩),
  (⟨#[99, 111, 110, 116, 101, 110, 116, 45, 116, 121, 112, 101]⟩, ⟨#[116, 101, 120, 116, 47, 104, 116, 109, 108, 59, 32, 99, 104, 97, 114, 115, 101, 116, 61, 117, 116, 102, 45, 56]⟩),
  (⟨#[99, 111, 110, 116, 101, 110, 116, 45, 116, 121, 112, 101]⟩, ⟨#[116, 101, 120, 116, 47, 112, 108, 97, 105, 110]⟩),
  (⟨#[99, 111, 110, 116, 101, 110, 116, 45, 116, 121, 112, 101]⟩, ⟨#[116, 101, 120, 116, 47, 112, 108, 97, 105, 110, 59, 99, 104, 97, 114, 115, 101, 116, 61, 117, 116, 102, 45, 56]⟩),
  (⟨#[114, 97, 110, 103, 101]⟩, ⟨#[98, 121, 116, 101, 115, 61, 48, 45]⟩),
  (⟨#[115, 116, 114, 105, 99, 116, 45, 116, 114, 97, 110, 115, 112, 111, 114, 116, 45, 115, 101, 99, 117, 114, 105, 116, 121]⟩, ⟨#[109, 97, 120, 45, 97, 103, 101, 61, 51, 49, 53, 51, 54, 48, 48, 48]⟩),
  (⟨#[115, 116, 114, 105, 99, 116, 45, 116, 114, 97, 110, 115, 112, 111, 114, 116, 45, 115, 101, 99, 117, 114, 105, 116, 121]⟩, ⟨#[109, 97, 120, 45, 97, 103, 101, 61, 51, 49, 53, 51, 54, 48, 48, 48, 59, 32, 105, 110, 99, 108, 117, 100, 101, 115, 117, 98, 100, 111, 109, 97, 105, 110, 115]⟩),
  (⟨#[115, 116, 114, 105, 99, 116, 45, 116, 114, 97, 110, 115, 112, 111, 114, 116, 45, 115, 101, 99, 117, 114, 105, 116, 121]⟩, ⟨#[109, 97, 120, 45, 97, 103, 101, 61, 51, 49, 53, 51, 54, 48, 48, 48, 59, 32, 105, 110, 99, 108, 117, 100, 101, 115, 117, 98, 100, 111, 109, 97, 105, 110, 115, 59, 32, 112, 114, 101, 108, 111, 97, 100]⟩),
  (⟨#[118, 97, 114, 121]⟩, ⟨#[97, 99, 99, 101, 112, 116, 45, 101, 110, 99, 111, 100, 105, 110, 103]⟩),
  (⟨#[118, 97, 114, 121]⟩, ⟨#[111, 114, 105, 103, 105, 110]⟩),
  (⟨#[120, 45, 99, 111, 110, 116, 101, 110, 116, 45, 116, 121, 112, 101, 45, 111, 112, 116, 105, 111, 110, 115]⟩, ⟨#[110, 111, 115, 110, 105, 102, 102]⟩),
  (⟨#[120, 45, 120, 115, 115, 45, 112, 114, 111, 116, 101, 99, 116, 105, 111, 110]⟩, ⟨#[49, 59, 32, 109, 111, 100, 101, 61, 98, 108, 111, 99, 107]⟩),
  (⟨#[58, 115, 116, 97, 116, 117, 115]⟩, ⟨#[49, 48, 48]⟩),
  (⟨#[58, 115, 116, 97, 116, 117, 115]⟩, ⟨#[50, 48, 52]⟩),
  (⟨#[58, 115, 116, 97, 116, 117, 115]⟩, ⟨#[50, 48, 54]⟩),
  (⟨#[58, 115, 116, 97, 116, 117, 115]⟩, ⟨#[51, 48, 50]⟩),
  (⟨#[58, 115, 116, 97, 116, 117, 115]⟩, ⟨#[52, 48, 48]⟩),
  (⟨#[58, 115, 116, 97, 116, 117, 115]⟩, ⟨#[52, 48, 51]⟩),
  (⟨#[58, 115, 116, 97, 116, 117, 115]⟩, ⟨#[52, 50, 49]⟩),
  (⟨#[58, 115, 116, 97, 116, 117, 115]⟩, ⟨#[52, 50, 53]⟩),
  (⟨#[58, 115, 116, 97, 116, 117, 115]⟩, ⟨#[53, 48, 48]⟩),
  (⟨#[97, 99, 99, 101, 112, 116, 45, 108, 97, 110, 103, 117, 97, 103, 101]⟩, ⟨#[]⟩),
  (⟨#[97, 99, 99, 101, 115, 115, 45, 99, 111, 110, 116, 114, 111, 108, 45, 97, 108, 108, 111, 119, 45, 99, 114, 101, 100, 101, 110, 116, 105, 97, 108, 115]⟩, ⟨#[70, 65, 76, 83, 69]⟩),
  (⟨#[97, 99, 99, 101, 115, 115, 45, 99, 111, 110, 116, 114, 111, 108, 45, 97, 108, 108, 111, 119, 45, 99, 114, 101, 100, 101, 110, 116, 105, 97, 108, 115]⟩, ⟨#[84, 82, 85, 69]⟩),
  (⟨#[97, 99, 99, 101, 115, 115, 45, 99, 111, 110, 116, 114, 111, 108, 45, 97, 108, 108, 111, 119, 45, 104, 101, 97, 100, 101, 114, 115]⟩, ⟨#[42]⟩),
  (⟨#[97, 99, 99, 101, 115, 115, 45, 99, 111, 110, 116, 114, 111, 108, 45, 97, 108, 108, 111, 119, 45, 109, 101, 116, 104, 111, 100, 115]⟩, ⟨#[103, 101, 116]⟩),
  (⟨#[97, 99, 99, 101, 115, 115, 45, 99, 111, 110, 116, 114, 111, 108, 45, 97, 108, 108, 111, 119, 45, 109, 101, 116, 104, 111, 100, 115]⟩, ⟨#[103, 101, 116, 44, 32, 112, 111, 115, 116, 44, 32, 111, 112, 116, 105, 111, 110, 115]⟩),
  (⟨#[97, 99, 99, 101, 115, 115, 45, 99, 111, 110, 116, 114, 111, 108, 45, 97, 108, 108, 111, 119, 45, 109, 101, 116, 104, 111, 100, 115]⟩, ⟨#[111, 112, 116, 105, 111, 110, 115]⟩),
  (⟨#[97, 99, 99, 101, 115, 115, 45, 99, 111, 110, 116, 114, 111, 108, 45, 101, 120, 112, 111, 115, 101, 45, 104, 101, 97, 100, 101, 114, 115]⟩, ⟨#[99, 111, 110, 116, 101, 110, 116, 45, 108, 101, 110, 103, 116, 104]⟩),
  (⟨#[97, 99, 99, 101, 115, 115, 45, 99, 111, 110, 116, 114, 111, 108, 45, 114, 101, 113, 117, 101, 115, 116, 45, 104, 101, 97, 100, 101, 114, 115]⟩, ⟨#[99, 111, 110, 116, 101, 110, 116, 45, 116, 121, 112, 101]⟩),
  (⟨#[97, 99, 99, 101, 115, 115, 45, 99, 111, 110, 116, 114, 111, 108, 45, 114, 101, 113, 117, 101, 115, 116, 45, 109, 101, 116, 104, 111, 100]⟩, ⟨#[103, 101, 116]⟩),
  (⟨#[97, 99, 99, 101, 115, 115, 45, 99, 111, 110, 116, 114, 111, 108, 45, 114, 101, 113, 117, 101, 115, 116, 45, 109, 101, 116, 104, 111, 100]⟩, ⟨#[112, 111, 115, 116]⟩),
  (⟨#[97, 108, 116, 45, 115, 118, 99]⟩, ⟨#[99, 108, 101, 97, 114]⟩),
  (⟨#[97, 117, 116, 104, 111, 114, 105, 122, 97, 116, 105, 111, 110]⟩, ⟨#[]⟩),
  (⟨#[99, 111, 110, 116, 101, 110, 116, 45, 115, 101, 99, 117, 114, 105, 116, 121, 45, 112, 111, 108, 105, 99, 121]⟩, ⟨#[115, 99, 114, 105, 112, 116, 45, 115, 114, 99, 32, 39, 110, 111, 110, 101, 39, 59, 32, 111, 98, 106, 101, 99, 116, 45, 115, 114, 99, 32, 39, 110, 111, 110, 101, 39, 59, 32, 98, 97, 115, 101, 45, 117, 114, 105, 32, 39, 110, 111, 110, 101, 39]⟩),
  (⟨#[101, 97, 114, 108, 121, 45, 100, 97, 116, 97]⟩, ⟨#[49]⟩),
  (⟨#[101, 120, 112, 101, 99, 116, 45, 99, 116]⟩, ⟨#[]⟩),
  (⟨#[102, 111, 114, 119, 97, 114, 100, 101, 100]⟩, ⟨#[]⟩),
  (⟨#[105, 102, 45, 114, 97, 110, 103, 101]⟩, ⟨#[]⟩),
  (⟨#[111, 114, 105, 103, 105, 110]⟩, ⟨#[]⟩),
  (⟨#[112, 117, 114, 112, 111, 115, 101]⟩, ⟨#[112, 114, 101, 102, 101, 116, 99, 104]⟩),
  (⟨#[115, 101, 114, 118, 101, 114]⟩, ⟨#[]⟩),
  (⟨#[116, 105, 109, 105, 110, 103, 45, 97, 108, 108, 111, 119, 45, 111, 114, 105, 103, 105, 110]⟩, ⟨#[42]⟩),
  (⟨#[117, 112, 103, 114, 97, 100, 101, 45, 105, 110, 115, 101, 99, 117, 114, 101, 45, 114, 101, 113, 117, 101, 115, 116, 115]⟩, ⟨#[49]⟩),
  (⟨#[117, 115, 101, 114, 45, 97, 103, 101, 110, 116]⟩, ⟨#[]⟩),
  (⟨#[120, 45, 102, 111, 114, 119, 97, 114, 100, 101, 100, 45, 102, 111, 114]⟩, ⟨#[]⟩),
  (⟨#[120, 45, 102, 114, 97, 109, 101, 45, 111, 112, 116, 105, 111, 110, 115]⟩, ⟨#[100, 101, 110, 121]⟩),
  (⟨#[120, 45, 102, 114, 97, 109, 101, 45, 111, 112, 116, 105, 111, 110, 115]⟩, ⟨#[115, 97, 109, 101, 111, 114, 105, 103, 105, 110]⟩)]

theorem t2_len : T2.length = 61 := by decide +kernel
theorem t3_len : T3.length = 99 := by decide +kernel
theorem t2_nodup : T2.Nodup := by decide +kernel
theorem t3_nodup : T3.Nodup := by decide +kernel
theorem t2_size : ∀ f ∈ T2, f.1.size ≤ 100 ∧ f.2.size ≤ 100 := by decide +kernel
theorem t3_size : ∀ f ∈ T3, f.1.size ≤ 100 ∧ f.2.size ≤ 100 := by decide +kernel

/-- The least place where f stands; else the least that has its name. -/
def findS (l : List Fd) (f : Fd) : Nat × Bool × Bool :=
  match l.findIdx? (fun g => decide (g = f)) with
  | some i => (i, true, true)
  | none => match l.findIdx? (fun g => decide (g.1 = f.1)) with
    | some i => (i, true, false)
    | none => (0, false, false)

theorem findIdx_some {l : List Fd} {p : Fd → Bool} {i : Nat} (hi : i < l.length) (h : p l[i] = true) (hb : ∀ j (hj : j < i), p (l[j]'(by omega)) = false) : l.findIdx? p = some i := by
  rw [List.findIdx?_eq_some_iff_getElem]
  exact ⟨hi, h, fun j hj => by simpa using hb j hj⟩
theorem findIdx_none {l : List Fd} {p : Fd → Bool} (h : ∀ j (hj : j < l.length), p l[j] = false) : l.findIdx? p = none := by
  rw [List.findIdx?_eq_none_iff]
  intro x hx
  obtain ⟨j, hj, rfl⟩ := List.getElem_of_mem hx
  exact h j hj

theorem nodup_idx {l : List Fd} (hl : l.Nodup) {i j : Nat} (hi : i < l.length) (hj : j < l.length) (h : l[i] = l[j]) : i = j := by
  have hp := List.pairwise_iff_getElem.1 hl
  rcases Nat.lt_trichotomy i j with h1 | h1 | h1
  · exact absurd h (hp i j hi hj h1)
  · exact h1
  · exact absurd h.symm (hp j i hj hi h1)

theorem findS_at {l : List Fd} (hl : l.Nodup) {f : Fd} {i : Nat} (hi : i < l.length) (h : l[i] = f) : findS l f = (i, true, true) := by
  unfold findS
  rw [findIdx_some hi (by simpa using h) (fun j hj => by
    simp only [decide_eq_false_iff_not]
    intro e
    have := nodup_idx hl (i := j) (j := i) (by omega) hi (e.trans h.symm)
    omega)]
theorem findS_named {l : List Fd} {f : Fd} (hn : ∀ j (hj : j < l.length), l[j] ≠ f) {i : Nat} (hi : i < l.length) (h : l[i].1 = f.1) (hb : ∀ j (hj : j < i), (l[j]'(by omega)).1 ≠ f.1) : findS l f = (i, true, false) := by
  unfold findS
  rw [findIdx_none (fun j hj => by simpa using hn j hj)]
  simp only
  rw [findIdx_some hi (by simpa using h) (fun j hj => by simpa using hb j hj)]
theorem findS_none {l : List Fd} {f : Fd} (hb : ∀ j (hj : j < l.length), l[j].1 ≠ f.1) : findS l f = (0, false, false) := by
  unfold findS
  rw [findIdx_none (fun j hj => by simp only [decide_eq_false_iff_not]; intro e; exact hb j hj (by rw [e]))]
  simp only
  rw [findIdx_none (fun j hj => by simpa using hb j hj)]

/-- Entry i, or the empty one. -/
def entS (l : List Fd) (i : Nat) : Fd := if h : i < l.length then l[i] else (ByteArray.empty, ByteArray.empty)

end Go.Proofs.Ythnaapjefedalaa

/-
  Contract of the document's Add.
-/
namespace Go.Proofs.Ythnaapjefedalaa
open Go.RowKit Go.Maps
set_option linter.unusedVariables false
set_option linter.unusedSimpArgs false

set_option maxRecDepth 100000 in
/-- v[:n:n] -/
theorem St.tight {w : World} {v : Value} {L : List Fd} (h : St w v L) :
    ∃ A, (∀ W : World, (Instr.slice 31 v none (some (.int .i64 (L.length : Int))) (some (.int .i64 (L.length : Int)))).run Try.prog W = .ok (.slice A L.length L.length) W) ∧ (Value.slice A L.length L.length).ownBlock = v.ownBlock ∧ ∀ W : World, St W v L → St W (.slice A L.length L.length) L := by
  have helem : Try.prog.underlying 31 = some (.slice (Try.prog.elem 31)) := by kernel_rfl
  have hsz : ∀ W : World, (sizeOf (Try.prog.elem 31)).run Try.prog W = .ok 2 W := fun W => by kernel_rfl
  rcases h with ⟨rfl, rfl⟩ | ⟨g, o, cap, m, F, rfl, hr, h1, h2, h3, h4⟩
  · refine ⟨none, fun W => ?_, rfl, fun W hW => St.nil W⟩
    rw [run_slice_hm W 31 none 0 0 helem .i64 .i64 _ _ (by simp) (by simp) (by simp), hsz]
    rfl
  · refine ⟨some ⟨g, o, none⟩, fun W => ?_, rfl, fun W hW => ?_⟩
    · rw [run_slice_hm W 31 (some ⟨g, o, none⟩) L.length cap helem .i64 .i64 _ _ (by omega) (by omega) (by omega), hsz]
      simp only [Result.andThen, sliced, Int.toNat_natCast, Nat.sub_zero, Option.map_some, Nat.zero_mul]
      congr 2
      split
      · rfl
      · simp [Addr.add]
    · rcases hW with ⟨e, _⟩ | ⟨g', o', cap', m', F', e, hr', _, _, h3', h4'⟩
      · cases e
      · injection e with e1 e2 e3
        injection e1 with e1
        injection e1 with e1 e4
        subst e1; subst e4; subst e3
        exact .inr ⟨g, o, L.length, m', F', rfl, hr', Nat.le_refl _, by omega, by omega, h4'⟩

set_option maxRecDepth 100000 in
set_option maxHeartbeats 4000000 in
theorem refAdd_any {q : Nat} {T : Tab} {w : World} {S : Nat → Prop} (h : Rt q T w S) (f : Fd) (hf : fsz f ≤ 1000000) (ht : T.tot + 1 ≤ 1000000) :
    Calls Try.prog 38 #[.pointer (some ⟨q, 0, none⟩), .agg #[.string f.1, .string f.2]] w fun e w' => e = .returned (.int .i64 (T.went (T.room f) : Int)) ∧ Turn (Rt q (T.add f)) S w w' := by
  obtain ⟨f1, f2⟩ := f
  have HT := Bx.mk h
  have HTT := Bx.mk ht
  obtain ⟨n1, hn1⟩ : ∃ n1, fsz (f1, f2) + 32 = n1 := ⟨_, rfl⟩
  have HSZC : Bx (∀ W, Calls Try.prog 58 #[.agg #[.string f1, .string f2]] W fun e w' => e = .returned (.int .i64 (n1 : Int)) ∧ Below W.heap.size W w') := ⟨fun W => hn1 ▸ refsize_any (f1, f2) W hf⟩
  have HN1 := Bx.mk hn1
  have hnb : n1 ≤ 1000032 := by omega
  have hcap := h.ok.cap
  obtain ⟨cp, hcp⟩ : ∃ cp, T.cap = cp := ⟨_, rfl⟩
  rw [hcp] at hcap
  have hroom : (cp : Int) - (n1 : Int) = T.room (f1, f2) := by unfold Tab.room; rw [hcp, hn1]
  obtain ⟨rm, hrm⟩ : ∃ rm, T.room (f1, f2) = rm := ⟨_, rfl⟩
  rw [hrm] at hroom
  have hws : IntKind.i64.wrap ((cp : Int) - (n1 : Int)) = rm := by rw [← hroom]; simp only [IntKind.wrap_i64]; omega
  obtain ⟨R, hR⟩ : ∃ R, T.went rm = R := ⟨_, rfl⟩
  rw [hrm, hR]
  have HCP := Bx.mk hcp
  have HRM := Bx.mk hrm
  have HRR := Bx.mk hR
  have HF1 := Bx.mk (Fb.new 58 w (f1, f2))
  have HT1 := Bx.mk (h.keep ((Below.refl w.heap.size w).alloc (Nat.le_refl _) (.cells #[.string f1, .string f2] 58)))
  have hG : ¬ S w.heap.size := fun hc => Nat.lt_irrefl _ (h.lt _ hc)
  have HG := Bx.mk hG
  have hwt : IntKind.u64.wrap ((T.tot : Int) + 1) = ((T.tot + 1 : Nat) : Int) := by simp [IntKind.wrap, IntKind.signed, IntKind.bits]; omega
  have HWT := Bx.mk hwt
  have HNB := Bx.mk hnb
  have HCA := Bx.mk hcap
  clear h hf ht hn1 hcp hrm hroom hR hG hwt hnb hcap
  go_enter Try.func38, Try.ntmps38
  go_upto_region 1 with fail
  obtain ⟨_, _, c4, _, df, _⟩ := (HT1.out.keep (Below.refl _ _).drew).cells
  rw [HCP.out] at c4
  obtain ⟨e1, e2⟩ := (HF1.out.keep (Below.refl _ _).drew).cells
  go_cut [3, 5] from 6 to 14 (fun s3 s5 wx => s3 = .pointer (some ⟨w.heap.size, 0, none⟩) ∧ s5 = .int .i64 (R : Int) ∧ Bx (Turn (Rt q ⟨fits rm T.l, T.cap, T.tot⟩) S w wx) ∧ Bx (Fb 58 wx w.heap.size (f1, f2)))
  case first =>
    go_region_held (fun W => W.cell? ⟨q, 1, none⟩ = some (.int .i64 (cp : Int)) ∧ W.cell? ⟨w.heap.size, 0, none⟩ = some (.string f1) ∧ W.cell? ⟨w.heap.size, 1, none⟩ = some (.string f2)) (first | assumption | exact ⟨c4, e1, e2⟩) (first
      | (go_at_call 58; refine (HSZC.out _).mono ?_; rintro e w2 ⟨rfl, hb2⟩; have HT2 := Bx.mk ((HT1.out.keep (Below.refl _ _).drew).keep hb2); have HF2 := Bx.mk ((HF1.out.keep (Below.refl _ _).drew).keep hb2); obtain ⟨_, _, k4, _, _, _⟩ := HT2.out.cells; rw [HCP.out] at k4; have hS2 : w2.cell? ⟨q, 1, none⟩ = some (.int .i64 (cp : Int)) ∧ w2.cell? ⟨w.heap.size, 0, none⟩ = some (.string f1) ∧ w2.cell? ⟨w.heap.size, 1, none⟩ = some (.string f2) := ⟨k4, HF2.out.cells⟩)
      | (go_at_call 57; refine (fit_any HT2.out rm).mono ?_; rintro e w3 ⟨rfl, ht3⟩; rw [HRR.out]; obtain ⟨S3, x3, s3, g3⟩ := ht3; have HF3 := Bx.mk (HF2.out.besides g3 HG.out); obtain ⟨_, _, m4, _, _, _⟩ := x3.cells; rw [show T.cap = cp from HCP.out] at m4; have hS3 : w3.cell? ⟨q, 1, none⟩ = some (.int .i64 (cp : Int)) ∧ w3.cell? ⟨w.heap.size, 0, none⟩ = some (.string f1) ∧ w3.cell? ⟨w.heap.size, 1, none⟩ = some (.string f2) := ⟨m4, HF3.out.cells⟩))
    all_goals go_wp2_with fail
    all_goals go_meet
    all_goals
      have hB2 : Below w.heap.size w w2 := (((Below.refl w.heap.size w).alloc (Nat.le_refl _) _).drew).trans (hb2.mono (by simp))
      exact ⟨rfl, rfl, ⟨Turn.step (fun k hk => .inl hk) (Fp.of_below hB2) ⟨S3, x3, s3, g3⟩⟩, HF3⟩
  case rest =>
    obtain ⟨rfl, rfl, HT3, HF3⟩ := hcut
    clear c4 df e1 e2 HT1 HF1
    obtain ⟨G, hG⟩ : ∃ G, w.heap.size = G := ⟨_, rfl⟩
    rw [hG] at HF3 HG ⊢
    have HGG := Bx.mk hG
    clear hG
    obtain ⟨S3, x3, s3, g3⟩ := HT3.out
    have HX3 := Bx.mk x3
    have HS3 := Bx.mk s3
    have HG3 := Bx.mk g3
    obtain ⟨_, _, c4, _, _, _⟩ := (x3.keep (Below.refl _ _).drew).cells
    rw [show T.cap = cp from HCP.out] at c4
    obtain ⟨e1, e2⟩ := (HF3.out.keep (Below.refl _ _).drew).cells
    clear x3 s3 g3
    have htl : sizeF (fits rm T.l) ≤ 1000000 := Nat.le_trans (fits_size _ _) HT.out.ok.size
    have HTL := Bx.mk htl
    clear htl
    by_cases hle : n1 ≤ cp
    case' neg =>
      have hd1 : decide ((n1 : Int) ≤ (cp : Int)) = false := decide_eq_false (by omega)
      have hd2 : decide (n1 ≤ cp) = false := decide_eq_false hle
      have HAD : Bx (T.add (f1, f2) = ⟨fits rm T.l, T.cap, T.tot⟩) := ⟨by unfold Tab.add; rw [if_neg (by rw [HN1.out, HCP.out]; exact hle), HRM.out]⟩
    case' pos =>
      have hd1 : decide ((n1 : Int) ≤ (cp : Int)) = true := decide_eq_true (by omega)
      have hd2 : decide (n1 ≤ cp) = true := decide_eq_true hle
      have HAD : Bx (T.add (f1, f2) = ⟨fits rm T.l ++ [(f1, f2)], T.cap, T.tot + 1⟩) := ⟨by unfold Tab.add; rw [if_pos (by rw [HN1.out, HCP.out]; exact hle), HRM.out]⟩
      have HFI : Bx (sizeF (fits rm T.l) + n1 ≤ 1000000) := ⟨by have := T.add_fit (f1, f2) (by rw [HN1.out, HCP.out]; exact hle); rw [HRM.out, HN1.out, HCP.out] at this; have := HCA.out; omega⟩
    all_goals
      clear hle
      go_wp2_with fail
      go_region_held (fun W => W.cell? ⟨q, 1, none⟩ = some (.int .i64 (cp : Int)) ∧ W.cell? ⟨G, 0, none⟩ = some (.string f1) ∧ W.cell? ⟨G, 1, none⟩ = some (.string f2)) (first | assumption | exact ⟨c4, e1, e2⟩) (first
        | (go_at_call 58; refine (HSZC.out _).mono ?_; rintro e w4 ⟨rfl, hb4⟩; have HX4 := Bx.mk ((HX3.out.keep (Below.refl _ _).drew).keep hb4); have HF4 := Bx.mk ((HF3.out.keep (Below.refl _ _).drew).keep hb4); obtain ⟨_, _, k4, _, _, _⟩ := HX4.out.cells; rw [show T.cap = cp from HCP.out] at k4; have hS4 : w4.cell? ⟨q, 1, none⟩ = some (.int .i64 (cp : Int)) ∧ w4.cell? ⟨G, 0, none⟩ = some (.string f1) ∧ w4.cell? ⟨G, 1, none⟩ = some (.string f2) := ⟨k4, HF4.out.cells⟩))
      have HB4 : Bx (Below wc.heap.size wc w4) := ⟨((Below.refl wc.heap.size wc).drew).trans (hb4.mono (by simp))⟩
      have HT4 : Bx (Turn (Rt q ⟨fits rm T.l, T.cap, T.tot⟩) S w w4) := ⟨Turn.step HS3.out HG3.out (Turn.refl HX4.out HB4.out)⟩
      clear c4 e1 e2 hS4 k4 hb4 HT3 HF3
      go_wp2_with fail
    all_goals try (go_ret; rw [HAD.out]; exact ⟨rfl, HT4.out⟩)
    clear hd1 hd2 hws
    obtain ⟨S4, x4, s4, g4⟩ := HT4.out
    have HX5 := Bx.mk (x4.keep (((Below.refl w4.heap.size w4).drew).alloc (Nat.le_refl _) (.cells #[.string f1, .string f2] 58)))
    obtain ⟨vb, rowb, stb, nvb, Sb, ltb, okb⟩ := HX5.out
    obtain ⟨A, htight, hown, hst⟩ := stb.tight
    have hst5 := hst _ stb
    have hlen4 : (fits rm T.l).length ≤ 1000000 := by have := fits_len rm T.l; have := HT.out.ok.short; omega
    obtain ⟨v', w6, hrun, hstv, hgr, hown6, hfresh⟩ := hst5.append (Fs.one w4.drew _ rfl (f1, f2)) hlen4 31
    obtain ⟨hgn, gf, hgf, hgl⟩ := hfresh A _ rfl
    obtain ⟨av, nv, cv, rfl⟩ := hstv.shape
    have hrow6 := rowb.of_block (hgn.block q rowb.lt (by simp))
    have k0 : w6.cell? ⟨q, 0, none⟩ = some vb := hrow6.cell (by omega)
    have kf0 : w6.frozen? ⟨q, 0, none⟩ = false := hrow6.frozen 0
    have d0 : w4.drew.cell? ⟨q, 0, none⟩ = some vb := by
      have h5 := rowb.cell (i := 0) (by omega)
      rw [World.cell?_alloc_lt _ _ _ (by show q < w4.heap.size; exact x4.lt q (by obtain ⟨_, _, _, _, hq, _⟩ := x4; exact hq.1))] at h5
      exact h5
    have hd0 : (w4.alloc (.cells #[.string f1, .string f2] 58)).drew.cell? ⟨q, 0, none⟩ = some vb := rowb.cell (by omega)
    have hlenb := fun ty W => stb.fs.run_len ty W
    obtain ⟨m, hm⟩ : ∃ m, (fits rm T.l).length = m := ⟨_, rfl⟩
    have HM := Bx.mk hm
    simp only [hm] at htight hrun hlenb hstv hlen4
    obtain ⟨e1, e2⟩ := (HF4.out.keep (Below.refl _ _).drew).cells
    obtain ⟨e3, e4⟩ := (HF4.out.keep (((Below.refl w4.heap.size w4).drew).alloc (Nat.le_refl _) (.cells #[.string f1, .string f2] 58))).cells
    have HSV := Bx.mk hstv
    have HGR := Bx.mk hgn
    have HFR := Bx.mk (show ∃ g, (Value.slice av nv cv).ownBlock = some g ∧ w4.heap.size ≤ g from ⟨gf, hgf, Nat.le_trans (by simp) hgl⟩)
    have HR6 := Bx.mk hrow6
    have HF6 := Bx.mk ((HF4.out.keep (((Below.refl w4.heap.size w4).drew).alloc (Nat.le_refl _) (.cells #[.string f1, .string f2] 58))).grown hgn (by simp))
    have HX4' := Bx.mk x4
    have HS4 := Bx.mk s4
    have HG4 := Bx.mk g4
    have HSB := Bx.mk Sb
    clear x4 s4 g4 rowb stb nvb Sb ltb okb hst hst5 hown hstv hgr hown6 hfresh hgn hgf hgl hrow6 hm hlen4
    go_upto_region 3 with fail
    go_cut [3, 5] from 22 to 42 (fun s3 s5 wx => s3 = .pointer (some ⟨G, 0, none⟩) ∧ s5 = .int .i64 (R : Int) ∧ wx = w6.setCell ⟨q, 0, none⟩ (.slice av nv cv))
    case first =>
      obtain ⟨g1, g2⟩ := HF6.out.cells
      refine wp_region_x 21 (fun W => W.cell? ⟨q, 0, none⟩ = some vb ∧ W.cell? ⟨G, 0, none⟩ = some (.string f1) ∧ W.cell? ⟨G, 1, none⟩ = some (.string f2)) (by kernel_rfl) (⟨d0, e1, e2⟩) (fun hHeld => ?_)
      refine wpAnyX_take0 (i := 0) (oi := ⟨some 22, Op.move (Operand.tmp 0), 42, _, _, none⟩) (v := ?v0) rfl (by omega) (by kernel_rfl) (by kernel_rfl) (by kernel_rfl) (fun _ _ _ h => h) (Or.inl ⟨by rfl, ?y0⟩) (by assumption) ?r0
      case y0 =>
        intro W hSw
        try dsimp only at hSw
        go_simp
        try with_reducible rfl
      case r0 =>
      try simp only [Act.put, List.setIfInBounds_toArray, List.set_cons_zero, List.set_cons_succ]
      refine wpAnyX_take0 (i := 1) (oi := ⟨some 23, Op.move (Operand.tmp 0), 42, _, _, none⟩) (v := ?v1) rfl (by omega) (by kernel_rfl) (by kernel_rfl) (by kernel_rfl) (fun _ _ _ h => h) (Or.inl ⟨by rfl, ?y1⟩) (by assumption) ?r1
      case y1 =>
        intro W hSw
        try dsimp only at hSw
        go_simp
        try with_reducible rfl
      case r1 =>
      try simp only [Act.put, List.setIfInBounds_toArray, List.set_cons_zero, List.set_cons_succ]
      refine wpAnyX_take0 (i := 2) (oi := ⟨some 24, Op.nilCheck (Operand.tmp 23), 0, _, _, none⟩) (v := ?v2) rfl (by omega) (by kernel_rfl) (by kernel_rfl) (by kernel_rfl) (fun _ _ _ h => h) (Or.inl ⟨by rfl, ?y2⟩) (by assumption) ?r2
      case y2 =>
        intro W hSw
        try dsimp only at hSw
        go_simp
        try with_reducible rfl
      case r2 =>
      try simp only [Act.put, List.setIfInBounds_toArray, List.set_cons_zero, List.set_cons_succ]
      refine wpAnyX_take0 (i := 3) (oi := ⟨some 25, Op.fieldAddr 41 (Operand.tmp 24) 0, 0, _, _, none⟩) (v := ?v3) rfl (by omega) (by kernel_rfl) (by kernel_rfl) (by kernel_rfl) (fun _ _ _ h => h) (Or.inl ⟨by rfl, ?y3⟩) (by assumption) ?r3
      case y3 =>
        intro W hSw
        try dsimp only at hSw
        go_simp
        try with_reducible rfl
      case r3 =>
      try simp only [Act.put, List.setIfInBounds_toArray, List.set_cons_zero, List.set_cons_succ]
      refine wpAnyX_take (i := 4) (oi := ⟨some 26, Op.load 31 (Operand.tmp 25), 31, _, _, none⟩) (v := ?v4) rfl (by omega) (by kernel_rfl) (by kernel_rfl) (by kernel_rfl) (by kernel_rfl) (by kernel_rfl) (fun _ _ _ h => h) (Or.inl ⟨by rfl, ?y4⟩) (by assumption) ?r4
      case y4 =>
        intro W hSw
        try dsimp only at hSw
        go_simp
        try with_reducible rfl
      case r4 =>
      try simp only [Act.put, List.setIfInBounds_toArray, List.set_cons_zero, List.set_cons_succ]
      refine wpAnyX_take0 (i := 5) (oi := ⟨some 27, Op.move (Operand.tmp 0), 42, _, _, none⟩) (v := ?v5) rfl (by omega) (by kernel_rfl) (by kernel_rfl) (by kernel_rfl) (fun _ _ _ h => h) (Or.inl ⟨by rfl, ?y5⟩) (by assumption) ?r5
      case y5 =>
        intro W hSw
        try dsimp only at hSw
        go_simp
        try with_reducible rfl
      case r5 =>
      try simp only [Act.put, List.setIfInBounds_toArray, List.set_cons_zero, List.set_cons_succ]
      refine wpAnyX_take0 (i := 6) (oi := ⟨some 28, Op.nilCheck (Operand.tmp 27), 0, _, _, none⟩) (v := ?v6) rfl (by omega) (by kernel_rfl) (by kernel_rfl) (by kernel_rfl) (fun _ _ _ h => h) (Or.inl ⟨by rfl, ?y6⟩) (by assumption) ?r6
      case y6 =>
        intro W hSw
        try dsimp only at hSw
        go_simp
        try with_reducible rfl
      case r6 =>
      try simp only [Act.put, List.setIfInBounds_toArray, List.set_cons_zero, List.set_cons_succ]
      refine wpAnyX_take0 (i := 7) (oi := ⟨some 29, Op.fieldAddr 41 (Operand.tmp 28) 0, 0, _, _, none⟩) (v := ?v7) rfl (by omega) (by kernel_rfl) (by kernel_rfl) (by kernel_rfl) (fun _ _ _ h => h) (Or.inl ⟨by rfl, ?y7⟩) (by assumption) ?r7
      case y7 =>
        intro W hSw
        try dsimp only at hSw
        go_simp
        try with_reducible rfl
      case r7 =>
      try simp only [Act.put, List.setIfInBounds_toArray, List.set_cons_zero, List.set_cons_succ]
      refine wpAnyX_take (i := 8) (oi := ⟨some 30, Op.load 31 (Operand.tmp 29), 31, _, _, none⟩) (v := ?v8) rfl (by omega) (by kernel_rfl) (by kernel_rfl) (by kernel_rfl) (by kernel_rfl) (by kernel_rfl) (fun _ _ _ h => h) (Or.inl ⟨by rfl, ?y8⟩) (by assumption) ?r8
      case y8 =>
        intro W hSw
        try dsimp only at hSw
        go_simp
        try with_reducible rfl
      case r8 =>
      try simp only [Act.put, List.setIfInBounds_toArray, List.set_cons_zero, List.set_cons_succ]
      refine wpAnyX_take (i := 9) (oi := ⟨some 31, Op.call { callee := Callee.builtin Builtin.len, args := #[Operand.tmp 30], argTypes := #[31] }, 3, _, _, none⟩) (v := ?v9) rfl (by omega) (by kernel_rfl) (by kernel_rfl) (by kernel_rfl) (by kernel_rfl) (by kernel_rfl) (fun _ _ _ h => h) (Or.inl ⟨by rfl, ?y9⟩) (by assumption) ?r9
      case y9 =>
        intro W hSw
        try dsimp only at hSw
        go_simp
        try with_reducible rfl
      case r9 =>
      try simp only [Act.put, List.setIfInBounds_toArray, List.set_cons_zero, List.set_cons_succ]
      refine wpAnyX_take0 (i := 10) (oi := ⟨some 32, Op.move (Operand.tmp 0), 42, _, _, none⟩) (v := ?v10) rfl (by omega) (by kernel_rfl) (by kernel_rfl) (by kernel_rfl) (fun _ _ _ h => h) (Or.inl ⟨by rfl, ?y10⟩) (by assumption) ?r10
      case y10 =>
        intro W hSw
        try dsimp only at hSw
        go_simp
        try with_reducible rfl
      case r10 =>
      try simp only [Act.put, List.setIfInBounds_toArray, List.set_cons_zero, List.set_cons_succ]
      refine wpAnyX_take0 (i := 11) (oi := ⟨some 33, Op.nilCheck (Operand.tmp 32), 0, _, _, none⟩) (v := ?v11) rfl (by omega) (by kernel_rfl) (by kernel_rfl) (by kernel_rfl) (fun _ _ _ h => h) (Or.inl ⟨by rfl, ?y11⟩) (by assumption) ?r11
      case y11 =>
        intro W hSw
        try dsimp only at hSw
        go_simp
        try with_reducible rfl
      case r11 =>
      try simp only [Act.put, List.setIfInBounds_toArray, List.set_cons_zero, List.set_cons_succ]
      refine wpAnyX_take0 (i := 12) (oi := ⟨some 34, Op.fieldAddr 41 (Operand.tmp 33) 0, 0, _, _, none⟩) (v := ?v12) rfl (by omega) (by kernel_rfl) (by kernel_rfl) (by kernel_rfl) (fun _ _ _ h => h) (Or.inl ⟨by rfl, ?y12⟩) (by assumption) ?r12
      case y12 =>
        intro W hSw
        try dsimp only at hSw
        go_simp
        try with_reducible rfl
      case r12 =>
      try simp only [Act.put, List.setIfInBounds_toArray, List.set_cons_zero, List.set_cons_succ]
      refine wpAnyX_take (i := 13) (oi := ⟨some 35, Op.load 31 (Operand.tmp 34), 31, _, _, none⟩) (v := ?v13) rfl (by omega) (by kernel_rfl) (by kernel_rfl) (by kernel_rfl) (by kernel_rfl) (by kernel_rfl) (fun _ _ _ h => h) (Or.inl ⟨by rfl, ?y13⟩) (by assumption) ?r13
      case y13 =>
        intro W hSw
        try dsimp only at hSw
        go_simp
        try with_reducible rfl
      case r13 =>
      try simp only [Act.put, List.setIfInBounds_toArray, List.set_cons_zero, List.set_cons_succ]
      refine wpAnyX_take (i := 14) (oi := ⟨some 36, Op.call { callee := Callee.builtin Builtin.len, args := #[Operand.tmp 35], argTypes := #[31] }, 3, _, _, none⟩) (v := ?v14) rfl (by omega) (by kernel_rfl) (by kernel_rfl) (by kernel_rfl) (by kernel_rfl) (by kernel_rfl) (fun _ _ _ h => h) (Or.inl ⟨by rfl, ?y14⟩) (by assumption) ?r14
      case y14 =>
        intro W hSw
        try dsimp only at hSw
        go_simp
        try with_reducible rfl
      case r14 =>
      try simp only [Act.put, List.setIfInBounds_toArray, List.set_cons_zero, List.set_cons_succ]
      refine wpAnyX_take0 (i := 15) (oi := ⟨some 37, Op.slice 31 (Operand.tmp 26) none (some (Operand.tmp 31)) (some (Operand.tmp 36)), 31, _, _, none⟩) (v := ?v15) rfl (by omega) (by kernel_rfl) (by kernel_rfl) (by kernel_rfl) (fun _ _ _ h => h) (Or.inl ⟨by rfl, ?y15⟩) (by assumption) ?r15
      case y15 =>
        intro W hSw
        try dsimp only at hSw
        go_simp
        try with_reducible rfl
      case r15 =>
      try simp only [Act.put, List.setIfInBounds_toArray, List.set_cons_zero, List.set_cons_succ]
      refine wpAnyX_take (i := 16) (oi := ⟨some 38, Op.load 58 (Operand.tmp 3), 58, _, _, none⟩) (v := ?v16) rfl (by omega) (by kernel_rfl) (by kernel_rfl) (by kernel_rfl) (by kernel_rfl) (by kernel_rfl) (fun _ _ _ h => h) (Or.inl ⟨by rfl, ?y16⟩) (by assumption) ?r16
      case y16 =>
        intro W hSw
        try dsimp only at hSw
        go_simp
        try with_reducible rfl
      case r16 =>
      try simp only [Act.put, List.setIfInBounds_toArray, List.set_cons_zero, List.set_cons_succ]
      refine wpAnyX_one (i := 17) (by kernel_rfl) rfl (fun K hK => ?_)
      go_simp
      refine hK.out _ _ (fun _ => ⟨hd0, e3, e4⟩) ?_
      clear hK K
      try simp only [Act.put, List.setIfInBounds_toArray, List.set_cons_zero, List.set_cons_succ]
      refine wpAnyX_one (i := 18) (by kernel_rfl) rfl (fun K hK => ?_)
      refine step_append_run rfl (.tmp 37) (.tmp 39) 31 rfl (.slice A m m) _ rfl rfl hrun ?_
      have hS6 : w6.cell? ⟨q, 0, none⟩ = some vb ∧ w6.cell? ⟨G, 0, none⟩ = some (.string f1) ∧ w6.cell? ⟨G, 1, none⟩ = some (.string f2) := ⟨k0, g1, g2⟩
      refine hK.out _ _ (fun _ => hS6) ?_
      clear hK K
      try simp only [Act.put, List.setIfInBounds_toArray, List.set_cons_zero, List.set_cons_succ]
      refine wpAnyX_take0 (i := 19) (oi := ⟨some 41, Op.nilCheck (Operand.tmp 22), 0, _, _, none⟩) (v := ?v19) rfl (by omega) (by kernel_rfl) (by kernel_rfl) (by kernel_rfl) (fun _ _ _ h => h) (Or.inl ⟨by rfl, ?y19⟩) (by assumption) ?r19
      case y19 =>
        intro W hSw
        try dsimp only at hSw
        go_simp
        try with_reducible rfl
      case r19 =>
      try simp only [Act.put, List.setIfInBounds_toArray, List.set_cons_zero, List.set_cons_succ]
      refine wpAnyX_take0 (i := 20) (oi := ⟨some 42, Op.fieldAddr 41 (Operand.tmp 41) 0, 0, _, _, none⟩) (v := ?v20) rfl (by omega) (by kernel_rfl) (by kernel_rfl) (by kernel_rfl) (fun _ _ _ h => h) (Or.inl ⟨by rfl, ?y20⟩) (by assumption) ?r20
      case y20 =>
        intro W hSw
        try dsimp only at hSw
        go_simp
        try with_reducible rfl
      case r20 =>
      try simp only [Act.put, List.setIfInBounds_toArray, List.set_cons_zero, List.set_cons_succ]
      refine wpAnyX_one (i := 21) (by kernel_rfl) rfl (fun K hK => ?_)
      go_simp
      refine hK.out _ _ (fun h => absurd h (by decide)) ?_
      clear hK K
      try simp only [Act.put, List.setIfInBounds_toArray, List.set_cons_zero, List.set_cons_succ]
      refine wpAnyX_done (by kernel_rfl) ?_ _
      go_wp2_with fail
      go_meet
      exact ⟨rfl, rfl, rfl⟩
    case rest =>
      obtain ⟨rfl, rfl, rfl⟩ := hcut
      have HT7 : Bx (Turn (Rt q ⟨fits rm T.l ++ [(f1, f2)], T.cap, T.tot + 1⟩) S w ((w6.setCell ⟨q, 0, none⟩ (.slice av nv cv)).setCell ⟨q, 2, none⟩ (.int .u64 ((T.tot + 1 : Nat) : Int)))) := ⟨by
        obtain ⟨g, hg1, hg2⟩ := HFR.out
        have hq4 := HSB.out.1
        have hqlt : q < w4.heap.size := HX4'.out.lt q hq4
        have hne : ∀ k, (Value.slice av nv cv).ownBlock = some k → some k ≠ some q := fun k hk e => by
          rw [hg1] at hk
          injection hk with hk
          injection e with e
          omega
        have hf6 : Fp S4 w4 w6 := (Fp.of_below (((Below.refl w4.heap.size w4).drew).alloc (Nat.le_refl _) (.cells #[.string f1, .string f2] 58))).then (Fp.of_grown HGR.out (by simp))
        have hf7 := hf6.then ((Fp.set S4 w6 ⟨q, 0, none⟩ (.slice av nv cv) hq4).then (Fp.set S4 _ ⟨q, 2, none⟩ (.int .u64 ((T.tot + 1 : Nat) : Int)) hq4))
        have hst1 := (HSV.out.grown (grown_set w6 q 0 (.slice av nv cv)) hne).grown (grown_set _ q 2 (.int .u64 ((T.tot + 1 : Nat) : Int))) hne
        have hokk := HX4'.out.ok
        have hsz7 : ((w6.setCell ⟨q, 0, none⟩ (.slice av nv cv)).setCell ⟨q, 2, none⟩ (.int .u64 ((T.tot + 1 : Nat) : Int))).heap.size = w6.heap.size := by simp [World.setCell]
        refine Turn.step HS4.out HG4.out ⟨fun k => S4 k ∨ (w4.heap.size ≤ k ∧ k < w6.heap.size), ⟨.slice av nv cv, ((HR6.out.set 0 _).set 2 _).congr (fun j hj => by unfold rF; match j, hj with | 0, _ => rfl | 1, _ => rfl | 2, _ => rfl), hst1, fun k hk e => hne k hk (by rw [e]), ⟨.inl hq4, fun k hk => ?_⟩, fun k hk => ?_, ⟨?_, ?_, hokk.cap, HTT.out⟩⟩, fun k hk => ?_, hf7⟩
        · have hlt := HSV.out.lt hk
          rw [hg1] at hk
          injection hk with hk
          subst hk
          exact .inr ⟨hg2, hlt⟩
        · rw [hsz7]
          rcases hk with hk | hk
          · exact Nat.lt_of_lt_of_le (HX4'.out.lt k hk) hf6.size
          · exact hk.2
        · have := hokk.len
          show (fits rm T.l ++ [(f1, f2)]).length ≤ T.tot + 1
          rw [List.length_append, List.length_singleton]
          simp only at this
          omega
        · show sizeF (fits rm T.l ++ [(f1, f2)]) ≤ _
          have := HFI.out
          rw [sizeF_append]
          have h1 := HN1.out
          simp only [sizeF]
          omega
        · rcases hk with hk | hk
          · exact .inl hk
          · exact .inr hk.1⟩
      have j2 : (w6.setCell ⟨q, 0, none⟩ (.slice av nv cv)).cell? ⟨q, 2, none⟩ = some (.int .u64 (T.tot : Int)) := (HR6.out.set 0 _).cell (i := 2) (by omega)
      have jf2 : (w6.setCell ⟨q, 0, none⟩ (.slice av nv cv)).frozen? ⟨q, 2, none⟩ = false := (HR6.out.set 0 _).frozen 2
      have hwt := HWT.out
      go_wp2
      go_ret
      rw [HAD.out]
      exact ⟨rfl, HT7.out⟩

end Go.Proofs.Ythnaapjefedalaa

/-
  Contract of the statements' alike.
-/
namespace Go.Proofs.Ythnaapjefedalaa
open Go.RowKit Go.Maps
set_option linter.unusedVariables false

theorem below_step {wA W w' : World} (h : Below wA.heap.size wA W) (hb : Below W.heap.size W w') : Below wA.heap.size wA w' := h.trans (hb.mono h.size)

end Go.Proofs.Ythnaapjefedalaa

/-
  A table alone, and the contract of the statements' known.
-/
namespace Go.Proofs.Ythnaapjefedalaa
open Go.RowKit Go.Maps
set_option linter.unusedVariables false

/-- The program's table, all that it holds made since block B. -/
def One (B p : Nat) (T : Tab) (w : World) : Prop := ∃ S, Tb p T w S ∧ ∀ k, S k → B ≤ k
section
variable {B p q : Nat} {T T' U : Tab} {w w' : World}
theorem One.keep (h : One B p T w) (hb : Below w.heap.size w w') : One B p T w' := by
  obtain ⟨S, h1, h2⟩ := h
  exact ⟨S, h1.keep hb, h2⟩
theorem One.ok (h : One B p T w) : T.ok := by obtain ⟨S, h1, h2⟩ := h; exact h1.ok
theorem One.turn {S : Nat → Prop} (h2 : ∀ k, S k → B ≤ k) (hB : B ≤ w.heap.size) (ht : Turn (Tb p T') S w w') : One B p T' w' ∧ Below B w w' := by
  obtain ⟨S1, x, s, f⟩ := ht
  exact ⟨⟨S1, x, fun k hk => (s k hk).elim (h2 k) fun h => Nat.le_trans hB h⟩, f.below hB h2⟩
theorem Fs.lits (w : World) (cs : Array Value) (fs : List Fd) (hc : cs.toList = fs.flatMap fvl) (hn : fs.length ≤ 1000) : Fs (w.alloc (.cells cs 58)) (.slice (some ⟨w.heap.size, 0, none⟩) fs.length fs.length) fs := by
  have h := (An.lit (k := 2) w 58 cs fs.length (by rw [← Array.length_toList, hc, fvl_length]) (by unfold maxLen; omega)).rd
  rw [hc] at h
  exact h
theorem One.addLit (h : One B p T w) (hB : B ≤ w.heap.size) (cs : Array Value) (fs : List Fd) (hc : cs.toList = fs.flatMap fvl) (hn : fs.length ≤ 1000) (ht : T.tot + fs.length ≤ 1000000) (hz : ∀ f ∈ fs, fsz f ≤ 1000000) :
    Calls Try.prog 55 #[.pointer (some ⟨p, 0, none⟩), .slice (some ⟨w.heap.size, 0, none⟩) fs.length fs.length] (w.alloc (.cells cs 58)) fun e w' => e = .returned (.int .i64 (T.wents fs : Int)) ∧ One B p (T.adds fs) w' ∧ Below B w w' := by
  obtain ⟨S, h1, h2⟩ := h
  have hb := (Below.refl w.heap.size w).alloc (Nat.le_refl _) (.cells cs 58)
  refine (add_any (h1.keep hb) (Fs.lits w cs fs hc hn) (fun g hg => ?_) ht hz).mono ?_
  · simp only [Value.ownBlock, Option.some.injEq] at hg
    subst hg
    exact ⟨by simp, fun hs => Nat.lt_irrefl _ (h1.lt _ hs)⟩
  · rintro e w2 ⟨rfl, ht2⟩
    obtain ⟨o, b⟩ := One.turn h2 (Nat.le_trans hB hb.size) ht2
    exact ⟨rfl, o, (hb.mono hB).trans b⟩
theorem Two.addLit (h : Two B p q T U w) (hB : B ≤ w.heap.size) (cs : Array Value) (fs : List Fd) (hc : cs.toList = fs.flatMap fvl) (hn : fs.length ≤ 1000) (ht : T.tot + fs.length ≤ 1000000) (hz : ∀ f ∈ fs, fsz f ≤ 1000000) :
    Calls Try.prog 55 #[.pointer (some ⟨p, 0, none⟩), .slice (some ⟨w.heap.size, 0, none⟩) fs.length fs.length] (w.alloc (.cells cs 58)) fun e w' => e = .returned (.int .i64 (T.wents fs : Int)) ∧ Two B p q (T.adds fs) U w' ∧ Below B w w' := by
  obtain ⟨S, S', h1, h2, h3, h4, h5⟩ := h
  have hb := (Below.refl w.heap.size w).alloc (Nat.le_refl _) (.cells cs 58)
  refine (add_any (h1.keep hb) (Fs.lits w cs fs hc hn) (fun g hg => ?_) ht hz).mono ?_
  · simp only [Value.ownBlock, Option.some.injEq] at hg
    subst hg
    exact ⟨by simp, fun hs => Nat.lt_irrefl _ (h1.lt _ hs)⟩
  · rintro e w2 ⟨rfl, ht2⟩
    obtain ⟨o, b⟩ := Two.left (T := T) (h2.keep hb) h3 h4 h5 (Nat.le_trans hB hb.size) ht2
    exact ⟨rfl, o, (hb.mono hB).trans b⟩
theorem Two.addArg (h : Two B p q T U w) (hB : B ≤ w.heap.size) {v : Value} {fs : List Fd} (hv : ∀ W, Below B w W → Fs W v fs) (ht : T.tot + fs.length ≤ 1000000) (hz : ∀ f ∈ fs, fsz f ≤ 1000000) :
    Calls Try.prog 55 #[.pointer (some ⟨p, 0, none⟩), v] w fun e w' => e = .returned (.int .i64 (T.wents fs : Int)) ∧ Two B p q (T.adds fs) U w' ∧ Below B w w' := by
  obtain ⟨S, S', h1, h2, h3, h4, h5⟩ := h
  refine (add_gen h1 (fun W hf => hv W (hf.below hB h4)) ht hz).mono ?_
  rintro e w2 ⟨rfl, ht2⟩
  obtain ⟨o, b⟩ := Two.left (T := T) h2 h3 h4 h5 hB ht2
  exact ⟨rfl, o, b⟩
theorem Two.refAdd (h : Two B p q T U w) (hB : B ≤ w.heap.size) (f : Fd) (hf : fsz f ≤ 1000000) (ht : U.tot + 1 ≤ 1000000) :
    Calls Try.prog 38 #[.pointer (some ⟨q, 0, none⟩), .agg #[.string f.1, .string f.2]] w fun e w' => e = .returned (.int .i64 (U.went (U.room f) : Int)) ∧ Two B p q T (U.add f) w' ∧ Below B w w' := by
  obtain ⟨S, S', h1, h2, h3, h4, h5⟩ := h
  refine (refAdd_any h2 f hf ht).mono ?_
  rintro e w2 ⟨rfl, ht2⟩
  obtain ⟨o, b⟩ := Two.right (U := U) h1 h3 h4 h5 hB ht2
  exact ⟨rfl, o, b⟩
theorem Two.resize (h : Two B p q T U w) (hB : B ≤ w.heap.size) (n : Int) (hn : n ≤ 1000000) :
    Calls Try.prog 44 #[.pointer (some ⟨p, 0, none⟩), .int .i64 n] w fun e w' => e = .returned (.int .i64 (T.went (n.toNat : Int) : Int)) ∧ Two B p q (T.resize n) U w' ∧ Below B w w' := by
  obtain ⟨S, S', h1, h2, h3, h4, h5⟩ := h
  refine (resize_any h1 n hn).mono ?_
  rintro e w2 ⟨rfl, ht2⟩
  obtain ⟨o, b⟩ := Two.left (T := T) h2 h3 h4 h5 hB ht2
  exact ⟨rfl, o, b⟩
theorem One.resize (h : One B p T w) (hB : B ≤ w.heap.size) (n : Int) (hn : n ≤ 1000000) :
    Calls Try.prog 44 #[.pointer (some ⟨p, 0, none⟩), .int .i64 n] w fun e w' => e = .returned (.int .i64 (T.went (n.toNat : Int) : Int)) ∧ One B p (T.resize n) w' ∧ Below B w w' := by
  obtain ⟨S, h1, h2⟩ := h
  refine (resize_any h1 n hn).mono ?_
  rintro e w2 ⟨rfl, ht2⟩
  obtain ⟨o, b⟩ := One.turn h2 hB ht2
  exact ⟨rfl, o, b⟩
theorem Two.refResize (h : Two B p q T U w) (hB : B ≤ w.heap.size) (n : Int) (hn : n ≤ 1000000) :
    Calls Try.prog 41 #[.pointer (some ⟨q, 0, none⟩), .int .i64 n] w fun e w' => e = .returned (.int .i64 (U.went (n.toNat : Int) : Int)) ∧ Two B p q T (U.resize n) w' ∧ Below B w w' := by
  obtain ⟨S, S', h1, h2, h3, h4, h5⟩ := h
  refine (refResize_any h2 n hn).mono ?_
  rintro e w2 ⟨rfl, ht2⟩
  obtain ⟨o, b⟩ := Two.right (U := U) h1 h3 h4 h5 hB ht2
  exact ⟨rfl, o, b⟩
theorem Two.left' (h : Two B p q T U w) : One B p T w := by
  obtain ⟨S, S', h1, h2, h3, h4, h5⟩ := h
  exact ⟨S, h1, h4⟩
theorem One.new (n : Int) (hn : n ≤ 1000000) (w : World) : Calls Try.prog 27 #[.int .i64 n] w fun e w' => ∃ p, e = .returned (.pointer (some ⟨p, 0, none⟩)) ∧ One w.heap.size p (Tab.new n) w' ∧ Below w.heap.size w w' := by
  refine (new_any n w hn).mono ?_
  rintro e w2 ⟨p, S, rfl, h1, h2, h3⟩
  exact ⟨p, rfl, ⟨S, h1, h2⟩, h3⟩
theorem One.newRef (h : One B p T w) (hB : B ≤ w.heap.size) (n : Int) (hn : n ≤ 1000000) : Calls Try.prog 29 #[.int .i64 n] w fun e w' => ∃ q, e = .returned (.pointer (some ⟨q, 0, none⟩)) ∧ Two B p q T (Tab.new n) w' ∧ Below B w w' := by
  obtain ⟨S, h1, h2⟩ := h
  refine (newTable_any n w hn).mono ?_
  rintro e w2 ⟨q, S', rfl, k1, k2, k3⟩
  exact ⟨q, rfl, ⟨S, S', h1.keep k3, k1, fun k hk hk' => by have := h1.lt k hk; have := k2 k hk'; omega, h2, fun k hk => Nat.le_trans hB (k2 k hk)⟩, k3.mono hB⟩
theorem One.cap_ (h : One B p T w) : Calls Try.prog 18 #[.pointer (some ⟨p, 0, none⟩)] w fun e w' => e = .returned (.int .i64 (T.cap : Int)) ∧ Below w.heap.size w w' := by obtain ⟨S, h1, _⟩ := h; exact cap_any h1
theorem One.len_ (h : One B p T w) : Calls Try.prog 16 #[.pointer (some ⟨p, 0, none⟩)] w fun e w' => e = .returned (.int .i64 (T.l.length : Int)) ∧ Below w.heap.size w w' := by obtain ⟨S, h1, _⟩ := h; exact dlen_any h1
theorem One.count_ (h : One B p T w) : Calls Try.prog 17 #[.pointer (some ⟨p, 0, none⟩)] w fun e w' => e = .returned (.int .u64 (T.tot : Int)) ∧ Below w.heap.size w w' := by obtain ⟨S, h1, _⟩ := h; exact count_any h1
theorem One.at_ (h : One B p T w) (i : Nat) (hi : i < 18446744073709551616) : Calls Try.prog 50 #[.pointer (some ⟨p, 0, none⟩), .int .u64 (i : Int)] w fun e w' => e = .returned (.tuple #[aggF (entF T.l T.first i), .bool (isF T.l T.first i)]) ∧ Below w.heap.size w w' := by obtain ⟨S, h1, _⟩ := h; exact at_any h1 i hi
theorem One.newest_ (h : One B p T w) (i : Nat) (hi : i < 18446744073709551616) : Calls Try.prog 25 #[.pointer (some ⟨p, 0, none⟩), .int .u64 (i : Int)] w fun e w' => e = .returned (.tuple #[aggF (entN T.l i), .bool (isN T.l i)]) ∧ Below w.heap.size w w' := by obtain ⟨S, h1, _⟩ := h; exact newest_any h1 i hi
theorem One.find_ (h : One B p T w) (f : Fd) (hf : Sized f) : Calls Try.prog 69 #[.pointer (some ⟨p, 0, none⟩), .agg #[.string f.1, .string f.2]] w fun e w' => e = .returned (find3 (findT T.l T.first f)) ∧ Below w.heap.size w w' := by obtain ⟨S, h1, _⟩ := h; exact find_any h1 f hf
end

theorem Tab.adds_snoc : ∀ (l : List Fd) (T : Tab) (f : Fd), T.adds (l ++ [f]) = (T.adds l).add f
  | [], T, f => rfl
  | g :: l, T, f => by simp only [List.cons_append, Tab.adds]; exact Tab.adds_snoc l _ f
theorem Tab.wents_snoc : ∀ (l : List Fd) (T : Tab) (f : Fd), T.wents (l ++ [f]) = T.wents l + (T.adds l).went ((T.adds l).room f)
  | [], T, f => by simp [Tab.wents, Tab.adds]
  | g :: l, T, f => by simp only [List.cons_append, Tab.adds, Tab.wents]; rw [Tab.wents_snoc l _ f]; omega
theorem Tab.adds_tot : ∀ (l : List Fd) (T : Tab), (T.adds l).tot ≤ T.tot + l.length
  | [], T => Nat.le_refl _
  | g :: l, T => by simp only [Tab.adds, List.length_cons]; have := Tab.adds_tot l (T.add g); have := T.add_tot_le g; omega
theorem Tab.adds_take (l : List Fd) (T : Tab) (k : Nat) (hk : k < l.length) : T.adds (l.take (k + 1)) = (T.adds (l.take k)).add l[k] := by rw [List.take_succ_eq_append_getElem hk, Tab.adds_snoc]
theorem Tab.wents_take (l : List Fd) (T : Tab) (k : Nat) (hk : k < l.length) : T.wents (l.take (k + 1)) = T.wents (l.take k) + (T.adds (l.take k)).went ((T.adds (l.take k)).room l[k]) := by rw [List.take_succ_eq_append_getElem hk, Tab.wents_snoc]
theorem u16n {a : Int} (h : (Lit.int .u16 a).wf = true) : ∃ i : Nat, a = (i : Int) ∧ i < 65536 := by
  simp [Lit.wf, IntKind.min, IntKind.max, IntKind.signed, IntKind.bits] at h
  exact ⟨a.toNat, by omega, by omega⟩
theorem u8n {a : Int} (h : (Lit.int .u8 a).wf = true) : ∃ i : Nat, a = (i : Int) ∧ i < 256 := by
  simp [Lit.wf, IntKind.min, IntKind.max, IntKind.signed, IntKind.bits] at h
  exact ⟨a.toNat, by omega, by omega⟩
theorem u64n {a : Int} (h : (Lit.int .u64 a).wf = true) : ∃ i : Nat, a = (i : Int) ∧ i < 18446744073709551616 := by
  simp [Lit.wf, IntKind.min, IntKind.max, IntKind.signed, IntKind.bits] at h
  exact ⟨a.toNat, by omega, by omega⟩
/-- What came in: no string longer than any machine holds. -/
def Small (l : List Fd) : Prop := ∀ f ∈ l, f.1.size ≤ 140737488351232 ∧ f.2.size ≤ 140737488351232

def kA : Fd := (⟨#[97]⟩, ⟨#[98]⟩)
def kC : Fd := (⟨#[99]⟩, ⟨#[]⟩)
def kD : Fd := (⟨#[100]⟩, ⟨#[]⟩)
def K1 : Tab := ⟨[kA, kC], 70, 2⟩
def K2 : Tab := ⟨[kC, kD], 70, 3⟩
theorem known_facts : (Tab.new 70).wents [kA, kC] = 0 ∧ (Tab.new 70).adds [kA, kC] = K1 ∧ K1.wents [kD] = 1 ∧ K1.adds [kD] = K2 := ⟨by kernel_rfl, by kernel_rfl, by kernel_rfl, by kernel_rfl⟩
theorem known_facts2 : entF K2.l K2.first 1 = kC ∧ isF K2.l K2.first 1 = true ∧ entF K2.l K2.first 0 = emp ∧ isF K2.l K2.first 0 = false ∧ entN K2.l 0 = kD ∧ isN K2.l 0 = true ∧ findT K2.l K2.first kC = (1, true, true) ∧ sizeF K2.l = 66 := ⟨by kernel_rfl, by kernel_rfl, by kernel_rfl, by kernel_rfl, by kernel_rfl, by kernel_rfl, by kernel_rfl, by kernel_rfl⟩

end Go.Proofs.Ythnaapjefedalaa

/-
  A header block, read: one line, all lines; as a function of the bytes and the table.
-/
namespace Go.Proofs.Ythnaapjefedalaa
open Go.RowKit
set_option linter.unusedVariables false

/-- What stands at an index: the static ones, then the newest. -/
def idxF (L : List Fd) (i : Nat) : Fd := if i < 62 then entF T2 1 i else entN L (i - 62)
def idxB (L : List Fd) (i : Nat) : Bool := if i < 62 then isF T2 1 i else isN L (i - 62)

/-- A number with a prefix of k bits, and what is left. -/
def numP (k : Nat) (b : List UInt8) : Option (Nat × List UInt8) :=
  if (rp k b).2.2 = 0 then some ((rp k b).1.toNat, b.drop (rp k b).2.1.toNat) else none
/-- A string, and what is left. -/
def txtP (b : List UInt8) : Option (ByteArray × List UInt8) :=
  if (sb 7 b).2.2 = 0 then some (bstr (sb 7 b).1, b.drop (sb 7 b).2.1.toNat) else none
/-- A name: an index or a string. -/
def nameP (k : Nat) (L : List Fd) (b : List UInt8) : Option (ByteArray × List UInt8) :=
  match numP k b with
  | none => none
  | some (i, r) => if i = 0 then txtP r else if idxB L i = true then some ((idxF L i).1, r) else none
/-- A literal. -/
def litP (k : Nat) (L : List Fd) (b : List UInt8) : Option (Fd × List UInt8) :=
  match nameP k L b with
  | none => none
  | some (n, r) => match txtP r with
    | none => none
    | some (v, r') => some ((n, v), r')

/-- A block that is being read: the table, the sizes, what was added, the fields, what is left. -/
structure Ls where
  T : Tab
  ss : List Nat
  ad : List Fd
  out : List Fd
  b : List UInt8

def headN (b : List UInt8) : Nat := (b.headD 0).toNat
def isUp (b : List UInt8) : Prop := headN b / 32 = 1
instance (b : List UInt8) : Decidable (isUp b) := by unfold isUp; infer_instance
def upStep (mx : Nat) (s : Ls) : Option Ls :=
  match numP 5 s.b with
  | none => none
  | some (n, r) => if mx < n ∨ s.out ≠ [] ∨ 2 ≤ s.ss.length then none else some ⟨s.T.resize (n : Int), s.ss ++ [n], s.ad, s.out, r⟩
def ixStep (s : Ls) : Option Ls :=
  match numP 7 s.b with
  | none => none
  | some (i, r) => if idxB s.T.l i = true then some ⟨s.T, s.ss, s.ad, s.out ++ [idxF s.T.l i], r⟩ else none
def adStep (s : Ls) : Option Ls :=
  match litP 6 s.T.l s.b with
  | none => none
  | some (f, r) => some ⟨s.T.add f, s.ss, s.ad ++ [f], s.out ++ [f], r⟩
def plStep (s : Ls) : Option Ls :=
  match litP 4 s.T.l s.b with
  | none => none
  | some (f, r) => some ⟨s.T, s.ss, s.ad, s.out ++ [f], r⟩
def fdStep (s : Ls) : Option Ls := if 128 ≤ headN s.b then ixStep s else if 64 ≤ headN s.b then adStep s else plStep s
/-- One line. -/
def lstep (mx : Nat) (mu : Bool) (s : Ls) : Option Ls :=
  if isUp s.b then upStep mx s
  else if mu = true ∧ s.ss = [] then none
  else if 64 ≤ s.out.length then none
  else fdStep s
/-- All lines. -/
def lrun (mx : Nat) (mu : Bool) (s : Ls) : Option Ls :=
  if s.b = [] then some s else match lstep mx mu s with
    | none => none
    | some s' => if h : s'.b.length < s.b.length then lrun mx mu s' else none
termination_by s.b.length
/-- A block. -/
def ldec (mx : Nat) (mu : Bool) (T : Tab) (b : List UInt8) : Option Ls :=
  match lrun mx mu ⟨T, [], [], [], b⟩ with
  | none => none
  | some s => if mu = true ∧ s.ss = [] then none else some s

theorem lrun_nil {mx : Nat} {mu : Bool} {s : Ls} (h : s.b = []) : lrun mx mu s = some s := by rw [lrun, if_pos h]
theorem numP_some {k : Nat} {b r : List UInt8} {i : Nat} (h : numP k b = some (i, r)) : ∃ m : Nat, rp k b = ((i : Int), (m : Int), 0) ∧ r = b.drop m ∧ 1 ≤ m ∧ m ≤ b.length ∧ i ≤ maxVar := by
  unfold numP at h
  rcases rp_cases k b with hr | hr | ⟨n, m, hr, h1, h2, h3⟩
  · simp [hr] at h
  · simp [hr] at h
  · simp only [hr, if_true, Int.toNat_natCast, Option.some.injEq, Prod.mk.injEq] at h
    obtain ⟨rfl, rfl⟩ := h
    exact ⟨m, hr, rfl, h1, h2, h3⟩
theorem numP_none {k : Nat} {b : List UInt8} (h : numP k b = none) : ∃ e : Int, e ≠ 0 ∧ rp k b = (0, 0, e) := by
  unfold numP at h
  rcases rp_cases k b with hr | hr | ⟨n, m, hr, h1, h2, h3⟩
  · exact ⟨20, by decide, hr⟩
  · exact ⟨21, by decide, hr⟩
  · simp [hr] at h
theorem dec_short : ∀ (bs : List Nat) (out : List UInt8) (w n : Nat), out.length ≤ 4096 → (dec bs out w n).1.length ≤ 4096 := by
  intro bs
  induction bs with
  | nil => intro out w n h; unfold dec; split <;> simp [h]
  | cons b bs ih =>
    intro out w n h
    unfold dec
    split
    · exact ih _ _ _ h
    · split
      · simp
      · split
        · simp
        · exact ih _ _ _ (by simp; omega)
theorem sb_cases (l : List UInt8) : (∃ e : Int, e ≠ 0 ∧ sb 7 l = ([], 0, e)) ∨ ∃ (s : List UInt8) (m : Nat), sb 7 l = (s, (m : Int), 0) ∧ 1 ≤ m ∧ m ≤ l.length ∧ s.length ≤ 4096 := by
  rcases rp_cases 7 l with hr | hr | ⟨n, m, hr, h1, h2, h3⟩
  · exact .inl ⟨20, by decide, sb_err hr (by decide)⟩
  · exact .inl ⟨21, by decide, sb_err hr (by decide)⟩
  · by_cases hn : 4096 < n
    · exact .inl ⟨23, by decide, sb_long hr (by omega)⟩
    · by_cases hm : l.length < m + n
      · exact .inl ⟨20, by decide, sb_more hr (by omega) (by omega)⟩
      · by_cases hc : (l.headD 0).toNat / 2 ^ 7 % 2 = 0
        · refine .inr ⟨_, m + n, by rw [sb_plain hr (by omega) (by omega) hc]; rfl, by omega, by omega, ?_⟩
          simp; omega
        · by_cases he : (dec (allBits ((l.take ((m : Int) + (n : Int)).toNat).drop (m : Int).toNat)) [] 0 0).2 = 0
          · refine .inr ⟨_, m + n, by rw [sb_coded hr (by omega) (by omega) hc rfl he]; rfl, by omega, by omega, ?_⟩
            exact dec_short _ _ _ _ (by simp)
          · exact .inl ⟨_, by exact_mod_cast he, sb_bad hr (by omega) (by omega) hc rfl he⟩
theorem txtP_some {b r : List UInt8} {x : ByteArray} (h : txtP b = some (x, r)) : ∃ (s : List UInt8) (m : Nat), sb 7 b = (s, (m : Int), 0) ∧ x = bstr s ∧ r = b.drop m ∧ 1 ≤ m ∧ m ≤ b.length ∧ x.size ≤ 4096 := by
  unfold txtP at h
  rcases sb_cases b with ⟨e, he, hr⟩ | ⟨s, m, hr, h1, h2, h3⟩
  · simp [hr, he] at h
  · simp only [hr, if_true, Int.toNat_natCast, Option.some.injEq, Prod.mk.injEq] at h
    obtain ⟨rfl, rfl⟩ := h
    exact ⟨s, m, hr, rfl, rfl, h1, h2, by simpa [bstr, ByteArray.size] using h3⟩
theorem txtP_none {b : List UInt8} (h : txtP b = none) : ∃ e : Int, e ≠ 0 ∧ sb 7 b = ([], 0, e) := by
  unfold txtP at h
  rcases sb_cases b with ⟨e, he, hr⟩ | ⟨s, m, hr, h1, h2, h3⟩
  · exact ⟨e, he, hr⟩
  · simp [hr] at h

theorem idxF_small {L : List Fd} (hL : sizeF L ≤ 4096) (i : Nat) : (idxF L i).1.size ≤ 4096 ∧ fsz (idxF L i) ≤ 4096 := by
  have key : fsz (idxF L i) ≤ 4096 := by
    unfold idxF
    split
    · unfold entF
      split
      · rename_i h
        have := t2_size _ (List.getElem_mem h.2)
        unfold fsz; omega
      · simp [fsz, emp, ByteArray.size]
    · unfold entN
      split
      · rename_i h
        have := sizeF_mem (List.getElem_mem (l := L) (n := L.length - 1 - (i - 62)) (by omega))
        omega
      · simp [fsz, emp, ByteArray.size]
  exact ⟨by unfold fsz at key; omega, key⟩
theorem nameP_some {k : Nat} {L : List Fd} {b r : List UInt8} {x : ByteArray} (hL : sizeF L ≤ 4096) (h : nameP k L b = some (x, r)) : x.size ≤ 4096 ∧ r.length < b.length := by
  unfold nameP at h
  cases hn : numP k b with
  | none => rw [hn] at h; cases h
  | some p =>
    obtain ⟨i, r1⟩ := p
    rw [hn] at h
    obtain ⟨m, _, rfl, h1, h2, _⟩ := numP_some hn
    simp only at h
    split at h
    · obtain ⟨s, m', _, _, rfl, h3, h4, h5⟩ := txtP_some h
      simp only [List.length_drop] at *
      omega
    · split at h
      · simp only [Option.some.injEq, Prod.mk.injEq] at h
        obtain ⟨rfl, rfl⟩ := h
        exact ⟨(idxF_small hL i).1, by simp; omega⟩
      · cases h
theorem litP_some {k : Nat} {L : List Fd} {b r : List UInt8} {f : Fd} (hL : sizeF L ≤ 4096) (h : litP k L b = some (f, r)) : fsz f ≤ 8192 ∧ r.length < b.length := by
  unfold litP at h
  cases hn : nameP k L b with
  | none => rw [hn] at h; cases h
  | some p =>
    obtain ⟨x, r1⟩ := p
    rw [hn] at h
    simp only at h
    obtain ⟨h1, h2⟩ := nameP_some hL hn
    cases ht : txtP r1 with
    | none => rw [ht] at h; cases h
    | some q =>
      obtain ⟨y, r2⟩ := q
      rw [ht] at h
      simp only [Option.some.injEq, Prod.mk.injEq] at h
      obtain ⟨rfl, rfl⟩ := h
      obtain ⟨s, m', _, _, rfl, h3, h4, h5⟩ := txtP_some ht
      simp only [List.length_drop]
      exact ⟨by unfold fsz; simp only; omega, by omega⟩

/-- The sizes, one by one. -/
def Tab.sizes (T : Tab) : List Nat → Tab
  | [] => T
  | n :: l => (T.resize (n : Int)).sizes l
theorem Tab.sizes_snoc : ∀ (l : List Nat) (T : Tab) (n : Nat), T.sizes (l ++ [n]) = (T.sizes l).resize (n : Int)
  | [], T, n => rfl
  | m :: l, T, n => by simp only [List.cons_append, Tab.sizes]; exact Tab.sizes_snoc l _ n
/-- No more stands than there is room for. -/
def Tab.gd (T : Tab) : Prop := T.cap ≤ 4096 ∧ sizeF T.l ≤ T.cap
theorem Tab.gd.resize {T : Tab} {n : Nat} (hn : n ≤ 4096) : (T.resize (n : Int)).gd := by
  refine ⟨by simp only [Tab.resize]; omega, ?_⟩
  simp only [Tab.resize]
  rcases fits_le ((n : Int).toNat : Int) T.l with h | h
  · rw [h]; simp [sizeF]
  · omega
theorem Tab.gd.add {T : Tab} (h : T.gd) (f : Fd) : (T.add f).gd := by
  unfold Tab.add
  split
  · rename_i hc
    exact ⟨h.1, T.add_size f hc⟩
  · exact ⟨h.1, Nat.le_trans (fits_size _ _) h.2⟩

/-- What holds of a block that is being read. -/
structure Ls.inv (mx : Nat) (T0 : Tab) (s : Ls) : Prop where
  tab : s.T = (T0.sizes s.ss).adds s.ad
  none_ : s.out = [] → s.ad = []
  outs : s.out.length ≤ 64
  adds : s.ad.length ≤ s.out.length
  two : s.ss.length ≤ 2
  tot : s.T.tot ≤ T0.tot + s.ad.length
  gd : s.T.gd
  les : ∀ n ∈ s.ss, n ≤ mx
  small : ∀ f ∈ s.ad, fsz f ≤ 8192
theorem inv_start {mx : Nat} {T0 : Tab} (h : T0.gd) (b : List UInt8) : Ls.inv mx T0 ⟨T0, [], [], [], b⟩ :=
  ⟨rfl, fun _ => rfl, by simp, by simp, by simp, by simp, h, by simp, by simp⟩
theorem upStep_some {mx : Nat} {s s' : Ls} (h : upStep mx s = some s') : ∃ n r, numP 5 s.b = some (n, r) ∧ n ≤ mx ∧ s.out = [] ∧ s.ss.length < 2 ∧ s' = ⟨s.T.resize (n : Int), s.ss ++ [n], s.ad, s.out, r⟩ := by
  unfold upStep at h
  cases hn : numP 5 s.b with
  | none => rw [hn] at h; cases h
  | some p =>
    obtain ⟨n, r⟩ := p
    rw [hn] at h
    simp only at h
    split at h
    · cases h
    · rename_i hc
      simp only [Option.some.injEq] at h
      refine ⟨n, r, rfl, by omega, ?_, by omega, h.symm⟩
      exact Decidable.byContradiction fun hne => hc (.inr (.inl hne))
theorem inv_up {mx : Nat} {T0 : Tab} {s s' : Ls} (hmx : mx ≤ 4096) (hi : s.inv mx T0) (h : upStep mx s = some s') : s'.inv mx T0 ∧ s'.b.length < s.b.length := by
  obtain ⟨n, r, hn, h1, h2, h3, rfl⟩ := upStep_some h
  obtain ⟨m, _, rfl, h4, h5, _⟩ := numP_some hn
  have ha := hi.none_ h2
  refine ⟨⟨?_, fun _ => ha, hi.outs, hi.adds, by simp; omega, ?_, Tab.gd.resize (by omega), fun k hk => ?_, hi.small⟩, by simp; omega⟩
  · have ht := hi.tab
    rw [ha] at ht
    simp only [ha, Tab.sizes_snoc]
    rw [ht]
    rfl
  · exact hi.tot
  · rcases List.mem_append.1 hk with hk | hk
    · exact hi.les k hk
    · simp at hk; omega
theorem fd_lt {s s' : Ls} (hL : sizeF s.T.l ≤ 4096) (h : fdStep s = some s') : s'.b.length < s.b.length := by
  unfold fdStep at h
  split at h
  · unfold ixStep at h
    cases hn : numP 7 s.b with
    | none => rw [hn] at h; cases h
    | some p =>
      obtain ⟨n, r⟩ := p
      rw [hn] at h
      obtain ⟨m, _, rfl, h4, h5, _⟩ := numP_some hn
      simp only at h
      split at h
      · simp only [Option.some.injEq] at h
        subst h
        simp; omega
      · cases h
  · split at h
    · unfold adStep at h
      cases hn : litP 6 s.T.l s.b with
      | none => rw [hn] at h; cases h
      | some p =>
        obtain ⟨f, r⟩ := p
        rw [hn] at h
        simp only [Option.some.injEq] at h
        subst h
        exact (litP_some hL hn).2
    · unfold plStep at h
      cases hn : litP 4 s.T.l s.b with
      | none => rw [hn] at h; cases h
      | some p =>
        obtain ⟨f, r⟩ := p
        rw [hn] at h
        simp only [Option.some.injEq] at h
        subst h
        exact (litP_some hL hn).2
theorem inv_fd {mx : Nat} {T0 : Tab} {s s' : Ls} (hi : s.inv mx T0) (h6 : s.out.length < 64) (h : fdStep s = some s') : s'.inv mx T0 ∧ s'.b.length < s.b.length := by
  have hL : sizeF s.T.l ≤ 4096 := Nat.le_trans hi.gd.2 hi.gd.1
  refine ⟨?_, fd_lt hL h⟩
  unfold fdStep at h
  split at h
  · unfold ixStep at h
    cases hn : numP 7 s.b with
    | none => rw [hn] at h; cases h
    | some p =>
      obtain ⟨n, r⟩ := p
      rw [hn] at h
      simp only at h
      split at h
      · simp only [Option.some.injEq] at h
        subst h
        exact ⟨hi.tab, fun h => by simp at h, by simp; omega, by have := hi.adds; simp; omega, hi.two, hi.tot, hi.gd, hi.les, hi.small⟩
      · cases h
  · split at h
    · unfold adStep at h
      cases hn : litP 6 s.T.l s.b with
      | none => rw [hn] at h; cases h
      | some p =>
        obtain ⟨f, r⟩ := p
        rw [hn] at h
        simp only [Option.some.injEq] at h
        subst h
        have hf := (litP_some hL hn).1
        refine ⟨?_, fun h => by simp at h, by simp; omega, by have := hi.adds; simp; omega, hi.two, ?_, hi.gd.add f, hi.les, fun g hg => ?_⟩
        · simp only [Tab.adds_snoc]
          rw [hi.tab]
        · have h1 := s.T.add_tot_le f
          have h2 := hi.tot
          simp only [List.length_append, List.length_singleton]
          omega
        · rcases List.mem_append.1 hg with hg | hg
          · exact hi.small g hg
          · simp at hg; subst hg; exact hf
    · unfold plStep at h
      cases hn : litP 4 s.T.l s.b with
      | none => rw [hn] at h; cases h
      | some p =>
        obtain ⟨f, r⟩ := p
        rw [hn] at h
        simp only [Option.some.injEq] at h
        subst h
        exact ⟨hi.tab, fun h => by simp at h, by simp; omega, by have := hi.adds; simp; omega, hi.two, hi.tot, hi.gd, hi.les, hi.small⟩
theorem inv_step {mx : Nat} {mu : Bool} {T0 : Tab} {s s' : Ls} (hmx : mx ≤ 4096) (hi : s.inv mx T0) (h : lstep mx mu s = some s') : s'.inv mx T0 ∧ s'.b.length < s.b.length := by
  unfold lstep at h
  split at h
  · exact inv_up hmx hi h
  · split at h
    · cases h
    · split at h
      · cases h
      · exact inv_fd hi (by omega) h
theorem lrun_bad {mx : Nat} {mu : Bool} {s : Ls} (hb : s.b ≠ []) (h : lstep mx mu s = none) : lrun mx mu s = none := by rw [lrun, if_neg hb, h]
theorem lrun_next {mx : Nat} {mu : Bool} {s s' : Ls} (hb : s.b ≠ []) (h : lstep mx mu s = some s') (hl : s'.b.length < s.b.length) : lrun mx mu s = lrun mx mu s' := by
  rw [lrun, if_neg hb, h]
  simp only [hl, dite_true]
theorem lrun_inv {mx : Nat} {mu : Bool} {T0 : Tab} (hmx : mx ≤ 4096) : ∀ (n : Nat) (s s' : Ls), s.b.length ≤ n → s.inv mx T0 → lrun mx mu s = some s' → s'.inv mx T0 ∧ s'.b = [] := by
  intro n
  induction n with
  | zero =>
    intro s s' hn hi h
    have hb : s.b = [] := List.eq_nil_of_length_eq_zero (by omega)
    rw [lrun_nil hb] at h
    injection h with h
    subst h
    exact ⟨hi, hb⟩
  | succ n ih =>
    intro s s' hn hi h
    by_cases hb : s.b = []
    · rw [lrun_nil hb] at h
      injection h with h
      subst h
      exact ⟨hi, hb⟩
    · cases hs : lstep mx mu s with
      | none => rw [lrun_bad hb hs] at h; cases h
      | some s1 =>
        obtain ⟨h1, h2⟩ := inv_step hmx hi hs
        rw [lrun_next hb hs h2] at h
        exact ih s1 s' (by omega) h1 h
theorem ldec_inv {mx : Nat} {mu : Bool} {T : Tab} {b : List UInt8} {s : Ls} (hmx : mx ≤ 4096) (hT : T.gd) (h : ldec mx mu T b = some s) : s.inv mx T := by
  unfold ldec at h
  cases hr : lrun mx mu ⟨T, [], [], [], b⟩ with
  | none => rw [hr] at h; cases h
  | some s1 =>
    rw [hr] at h
    simp only at h
    split at h
    · cases h
    · injection h with h
      subst h
      exact (lrun_inv hmx _ _ _ (Nat.le_refl _) (inv_start hT b) hr).1

end Go.Proofs.Ythnaapjefedalaa

/-
  Strings as they are written, coded or not: read back, cut off.
-/
namespace Go.Proofs.Ythnaapjefedalaa
open Go.RowKit
set_option linter.unusedVariables false

/-- A string as it stands; coded. -/
def strP (s : List UInt8) : List UInt8 := pre 0 7 s.length ++ s
def strH (s : List UInt8) : List UInt8 := pre 128 7 (enc s 0 0).length ++ enc s 0 0
/-- Coded where that is shorter. -/
def putS (s : List UInt8) : List UInt8 := if (bitLen s + 7) / 8 < s.length then strH s else strP s
def strW (c : Bool) (s : List UInt8) : List UInt8 := if c then putS s else strP s

theorem enc0_length (s : List UInt8) : (enc s 0 0).length = (bitLen s + 7) / 8 := by rw [enc_length s 0 0 (by omega), Nat.zero_add]

theorem preFirst_bit (f : UInt8) (v : Nat) : (preFirst f 7 v).toNat / 2 ^ 7 = f.toNat / 2 ^ 7 := by
  have h := preFirst_val f (k := 7) (by omega) (by omega) v
  have hf := f.toNat_lt
  unfold hiOf at h
  have e : (2 : Nat) ^ 7 = 128 := rfl
  rw [e] at h ⊢
  omega
theorem pre_ne (f : UInt8) (k v : Nat) : ∃ t, pre f k v = preFirst f k v :: t := by
  unfold pre
  split
  · exact ⟨[], rfl⟩
  · exact ⟨_, rfl⟩
theorem pre_len (f : UInt8) (k v : Nat) : 1 ≤ (pre f k v).length ∧ (pre f k v).length ≤ 11 := by
  unfold pre
  split
  · simp
  · have := cont_length 10 (v - (2 ^ k - 1)); simp; omega

/-- What stands behind a number of the length n. -/
theorem body_of (p s rest : List UInt8) : (((p ++ s ++ rest).take ((p.length : Int) + (s.length : Int)).toNat).drop (p.length : Int).toNat) = s := by
  rw [show ((p.length : Int) + (s.length : Int)).toNat = (p ++ s).length by rw [List.length_append]; omega, show (p.length : Int).toNat = p.length by omega, List.take_left' rfl, List.drop_left' rfl]

theorem sb_plainW (s rest : List UInt8) (h : s.length ≤ 4096) : sb 7 (strP s ++ rest) = (s, ((strP s).length : Int), 0) := by
  have hr := rp_pre 0 7 s.length (by omega) (by omega) (by omega) (s ++ rest)
  rw [if_pos (by unfold maxVar; omega), ← List.append_assoc] at hr
  obtain ⟨t, ht⟩ := pre_ne 0 7 s.length
  have hh : ((pre 0 7 s.length ++ s ++ rest).headD 0).toNat / 2 ^ 7 % 2 = 0 := by
    rw [ht]
    show (preFirst 0 7 s.length).toNat / 2 ^ 7 % 2 = 0
    rw [preFirst_bit]; rfl
  unfold strP
  rw [sb_plain hr (by omega) (by simp only [List.length_append]; omega) hh, body_of, List.length_append]
  simp
theorem sb_codedW (s rest : List UInt8) (h : s.length ≤ 4096) (h2 : (enc s 0 0).length ≤ 4096) : sb 7 (strH s ++ rest) = (s, ((strH s).length : Int), 0) := by
  have hr := rp_pre 128 7 (enc s 0 0).length (by omega) (by omega) (by omega) (enc s 0 0 ++ rest)
  rw [if_pos (by unfold maxVar; omega), ← List.append_assoc] at hr
  obtain ⟨t, ht⟩ := pre_ne 128 7 (enc s 0 0).length
  have hh : ¬ ((pre 128 7 (enc s 0 0).length ++ enc s 0 0 ++ rest).headD 0).toNat / 2 ^ 7 % 2 = 0 := by
    rw [ht]
    show ¬ (preFirst 128 7 (enc s 0 0).length).toNat / 2 ^ 7 % 2 = 0
    rw [preFirst_bit]; decide
  have hd := dec_back s
  rw [if_pos h] at hd
  unfold strH
  rw [sb_coded hr (by omega) (by simp only [List.length_append]; omega) hh (R := (s, 0)) (by rw [body_of]; exact hd) rfl, List.length_append]
  simp
theorem sb_longW (f : UInt8) (n : Nat) (rest : List UInt8) (h : 4096 < n) (hn : n ≤ maxVar) : sb 7 (pre f 7 n ++ rest) = ([], 0, 23) := by
  have hr := rp_pre f 7 n (by omega) (by omega) (by unfold maxVar at hn; omega) rest
  rw [if_pos hn] at hr
  exact sb_long hr (by omega)
/-- A string that is cut off goes on. -/
theorem sb_cutW (f : UInt8) (s : List UInt8) (j : Nat) (h : s.length ≤ 4096) (hj : j < (pre f 7 s.length ++ s).length) : sb 7 ((pre f 7 s.length ++ s).take j) = ([], 0, 20) := by
  rw [List.length_append] at hj
  by_cases hp : j < (pre f 7 s.length).length
  · rw [List.take_append_of_le_length (by omega)]
    exact sb_err (rp_cut f 7 s.length j (by omega) (by omega) (by unfold maxVar; omega) hp) (by decide)
  · obtain ⟨d, rfl⟩ : ∃ d, j = (pre f 7 s.length).length + d := ⟨j - (pre f 7 s.length).length, by omega⟩
    rw [List.take_length_add_append]
    have hr := rp_pre f 7 s.length (by omega) (by omega) (by omega) (s.take d)
    rw [if_pos (by unfold maxVar; omega)] at hr
    exact sb_more hr (by omega) (by simp only [List.length_append, List.length_take]; omega)

theorem txt_of {l r : List UInt8} {s : List UInt8} {m : Nat} (h : sb 7 (l ++ r) = (s, (m : Int), 0)) (hm : m = l.length) : txtP (l ++ r) = some (bstr s, r) := by
  unfold txtP
  rw [h]
  simp only [if_true, Int.toNat_natCast]
  rw [hm, List.drop_left']
  rfl
theorem txt_err {l : List UInt8} {e : Int} (h : sb 7 l = ([], 0, e)) (he : e ≠ 0) : txtP l = none := by
  unfold txtP
  rw [h]
  simp only [he, if_false]

theorem strW_cases (c : Bool) (s : List UInt8) : strW c s = strP s ∨ (strW c s = strH s ∧ (enc s 0 0).length < s.length) := by
  unfold strW putS
  cases c with
  | false => exact .inl rfl
  | true =>
    rw [if_pos rfl]
    split
    · rename_i h
      exact .inr ⟨rfl, by rw [enc0_length]; exact h⟩
    · exact .inl rfl
theorem txt_W (c : Bool) (s r : List UInt8) (h : s.length ≤ 4096) : txtP (strW c s ++ r) = some (bstr s, r) := by
  rcases strW_cases c s with e | ⟨e, h2⟩
  · rw [e]; exact txt_of (sb_plainW s r h) rfl
  · rw [e]; exact txt_of (sb_codedW s r h (by omega)) rfl
theorem txt_cutW (c : Bool) (s : List UInt8) (j : Nat) (h : s.length ≤ 4096) (hj : j < (strW c s).length) : txtP ((strW c s).take j) = none := by
  rcases strW_cases c s with e | ⟨e, h2⟩
  · rw [e] at hj ⊢; exact txt_err (sb_cutW 0 s j h hj) (by decide)
  · rw [e] at hj ⊢; exact txt_err (sb_cutW 128 (enc s 0 0) j (by omega) hj) (by decide)
theorem strW_len (c : Bool) (s : List UInt8) : 1 ≤ (strW c s).length ∧ (strW c s).length ≤ s.length + 11 := by
  have h1 := pre_len 0 7 s.length
  have h2 := pre_len 128 7 (enc s 0 0).length
  rcases strW_cases c s with e | ⟨e, h3⟩ <;> rw [e]
  · unfold strP; rw [List.length_append]; omega
  · unfold strH; rw [List.length_append]; omega

/-- A number, and what stands behind. -/
theorem num_W (f : UInt8) (k v : Nat) (h1 : 1 ≤ k) (h8 : k ≤ 8) (hv : v ≤ maxVar) (r : List UInt8) : numP k (pre f k v ++ r) = some (v, r) := by
  have hr := rp_pre f k v h1 h8 (by unfold maxVar at hv; omega) r
  rw [if_pos hv] at hr
  unfold numP
  rw [hr]
  simp only [if_true, Int.toNat_natCast]
  rw [List.drop_left']
  rfl
theorem num_cutW (f : UInt8) (k v j : Nat) (h1 : 1 ≤ k) (h8 : k ≤ 8) (hv : v ≤ maxVar) (hj : j < (pre f k v).length) : numP k ((pre f k v).take j) = none := by
  unfold numP
  rw [rp_cut f k v j h1 h8 hv hj]
  rfl

end Go.Proofs.Ythnaapjefedalaa
