/-
  Plain facts on numbers in prefixes: what is written is read back; what is cut off goes on.
-/
import Derived.Test.YtfhlikfjoldnfaaNumMath
namespace Go.Proofs.Ytfhlikfjoldnfaa
open Go.RowKit
set_option linter.unusedVariables false

theorem pow7 (i : Nat) : (2 : Nat) ^ (7 * (i + 1)) = 2 ^ (7 * i) * 128 := by rw [Nat.mul_add, Nat.pow_add]
theorem split128 (x i : Nat) : x * 2 ^ (7 * i) = x % 128 * 2 ^ (7 * i) + x / 128 * 2 ^ (7 * (i + 1)) := by
  rw [pow7, Nat.mul_comm (2 ^ (7 * i)) 128, ← Nat.mul_assoc, ← Nat.add_mul]
  congr 1
  omega

theorem not_big (u p i : Nat) (h : u + p * 2 ^ (7 * i) ≤ maxVar) : ¬ (maxVar - u) / 2 ^ (7 * i) < p := by
  rw [Nat.not_lt, Nat.le_div_iff_mul_le (Nat.two_pow_pos _)]
  omega

theorem low7 (x : Nat) (h : x < 128) : (UInt8.ofNat x).toNat = x := by
  have h8 : x < 2 ^ 8 := by have : (2:Nat) ^ 8 = 256 := rfl; omega
  rw [UInt8.toNat_ofNat', Nat.mod_eq_of_lt h8]
theorem high7 (x : Nat) : (UInt8.ofNat (x % 128 + 128)).toNat = x % 128 + 128 := by
  have h8 : x % 128 + 128 < 2 ^ 8 := by have : (2:Nat) ^ 8 = 256 := rfl; omega
  rw [UInt8.toNat_ofNat', Nat.mod_eq_of_lt h8]

/-- What is written behind a full prefix is read back, or is too great. -/
theorem rpGo_cont (rest : List UInt8) (m : Nat) : ∀ x i u, x < 128 ^ (m + 1) → i + m ≤ 9 → u ≤ maxVar →
    rpGo (cont (m + 1) x ++ rest) i u = if u + x * 2 ^ (7 * i) ≤ maxVar then (((u + x * 2 ^ (7 * i) : Nat) : Int), ((i + 1 + (cont (m + 1) x).length : Nat) : Int), 0) else (0, 0, 21) := by
  induction m with
  | zero =>
    intro x i u hx hi hu
    have hx' : x < 128 := by simpa using hx
    rw [cont_last _ _ hx', List.singleton_append, rpGo_ans, low7 x hx', Nat.mod_eq_of_lt hx']
    by_cases hs : u + x * 2 ^ (7 * i) ≤ maxVar
    · rw [if_pos hs, rpAns_last _ _ _ _ _ _ (not_big u x i hs) hx' rfl]
      rfl
    · rw [if_neg hs]
      by_cases hb : (maxVar - u) / 2 ^ (7 * i) < x
      · rw [rpAns_big _ _ _ _ _ hb]
      · exact absurd (fits x u i hu hb) hs
  | succ m ih =>
    intro x i u hx hi hu
    by_cases hx' : x < 128
    · rw [cont_last _ _ hx', List.singleton_append, rpGo_ans, low7 x hx', Nat.mod_eq_of_lt hx']
      by_cases hs : u + x * 2 ^ (7 * i) ≤ maxVar
      · rw [if_pos hs, rpAns_last _ _ _ _ _ _ (not_big u x i hs) hx' rfl]
        rfl
      · rw [if_neg hs]
        by_cases hb : (maxVar - u) / 2 ^ (7 * i) < x
        · rw [rpAns_big _ _ _ _ _ hb]
        · exact absurd (fits x u i hu hb) hs
    · rw [cont_more _ _ (by omega), List.cons_append, rpGo_ans, high7]
      have e1 : (x % 128 + 128) % 128 = x % 128 := by omega
      rw [e1]
      have hsp := split128 x i
      by_cases hb : (maxVar - u) / 2 ^ (7 * i) < x % 128
      · rw [rpAns_big _ _ _ _ _ hb, if_neg]
        intro hs
        exact not_big u (x % 128) i (by omega) hb
      · have hf := fits (x % 128) u i hu hb
        rw [rpAns_on _ _ _ _ _ _ hb (by omega) (by omega) rfl, ih (x / 128) (i + 1) _ (by rw [Nat.pow_succ] at hx; omega) (by omega) hf]
        have e2 : u + x % 128 * 2 ^ (7 * i) + x / 128 * 2 ^ (7 * (i + 1)) = u + x * 2 ^ (7 * i) := by omega
        rw [e2]
        have e3 : i + 1 + 1 + (cont (m + 1) (x / 128)).length = i + 1 + (UInt8.ofNat (x % 128 + 128) :: cont (m + 1) (x / 128)).length := by simp only [List.length_cons]; omega
        rw [e3]

/-- What is cut off there goes on. -/
theorem rpGo_cut (m : Nat) : ∀ x i u j, x < 128 ^ (m + 1) → i + m ≤ 9 → u + x * 2 ^ (7 * i) ≤ maxVar → j < (cont (m + 1) x).length →
    rpGo ((cont (m + 1) x).take j) i u = (0, 0, 20) := by
  induction m with
  | zero =>
    intro x i u j hx hi hu hj
    have hx' : x < 128 := by simpa using hx
    rw [cont_last _ _ hx'] at hj ⊢
    obtain rfl : j = 0 := by simpa using hj
    rfl
  | succ m ih =>
    intro x i u j hx hi hu hj
    by_cases hx' : x < 128
    · rw [cont_last _ _ hx'] at hj ⊢
      obtain rfl : j = 0 := by simpa using hj
      rfl
    · rw [cont_more _ _ (by omega)] at hj ⊢
      cases j with
      | zero => rfl
      | succ j =>
        rw [List.take_succ_cons, rpGo_ans, high7]
        have e1 : (x % 128 + 128) % 128 = x % 128 := by omega
        have hsp := split128 x i
        rw [e1, rpAns_on _ _ _ _ _ _ (not_big u (x % 128) i (by omega)) (by omega) (by omega) rfl]
        exact ih (x / 128) (i + 1) _ j (by rw [Nat.pow_succ] at hx; omega) (by omega) (by omega) (by simpa using hj)

theorem preFirst_mod (f : UInt8) (k v : Nat) (h1 : 1 ≤ k) (h8 : k ≤ 8) : (preFirst f k v).toNat % 2 ^ k = min v (2 ^ k - 1) := by
  have h := preFirst_val f h1 h8 v
  have h' : (preFirst f k v).toNat = hiOf f k + min v (2 ^ k - 1) := by omega
  have hp := Nat.two_pow_pos k
  rw [h']
  unfold hiOf
  rw [Nat.mul_comm, Nat.mul_add_mod, Nat.mod_eq_of_lt (by omega)]

theorem pow_128_10 : (18446744073709551616 : Nat) ≤ 128 ^ (9 + 1) := by decide

/-- A number in a prefix is read back, whatever stands behind; or it is too great. -/
theorem rp_pre (f : UInt8) (k v : Nat) (h1 : 1 ≤ k) (h8 : k ≤ 8) (hv : v < 18446744073709551616) (rest : List UInt8) :
    rp k (pre f k v ++ rest) = if v ≤ maxVar then ((v : Int), ((pre f k v).length : Int), 0) else (0, 0, 21) := by
  have hr := full_range h1 h8
  have hm := preFirst_mod f k v h1 h8
  have hp := pow_128_10
  unfold pre
  by_cases hlt : v < 2 ^ k - 1
  · rw [if_pos hlt, List.singleton_append]
    show (if (preFirst f k v).toNat % 2 ^ k < 2 ^ k - 1 then ((((preFirst f k v).toNat % 2 ^ k : Nat) : Int), (1 : Int), (0 : Int)) else rpGo rest 0 ((preFirst f k v).toNat % 2 ^ k)) = _
    rw [hm, show min v (2 ^ k - 1) = v from by omega, if_pos hlt, if_pos (by unfold maxVar; omega)]
    rfl
  · rw [if_neg hlt, List.cons_append]
    show (if (preFirst f k v).toNat % 2 ^ k < 2 ^ k - 1 then _ else rpGo (cont 10 (v - (2 ^ k - 1)) ++ rest) 0 ((preFirst f k v).toNat % 2 ^ k)) = _
    rw [hm, show min v (2 ^ k - 1) = 2 ^ k - 1 from by omega, if_neg (by omega), rpGo_cont rest 9 _ 0 _ (by omega) (by omega) (by unfold maxVar; omega)]
    have e : 2 ^ k - 1 + (v - (2 ^ k - 1)) * 2 ^ (7 * 0) = v := by simp; omega
    rw [e]
    congr 3
    show ((0 + 1 + (cont 10 (v - (2 ^ k - 1))).length : Nat) : Int) = _
    simp only [List.length_cons]
    omega

/-- A number in a prefix that is cut off goes on. -/
theorem rp_cut (f : UInt8) (k v j : Nat) (h1 : 1 ≤ k) (h8 : k ≤ 8) (hv : v ≤ maxVar) (hj : j < (pre f k v).length) : rp k ((pre f k v).take j) = (0, 0, 20) := by
  have hr := full_range h1 h8
  have hm := preFirst_mod f k v h1 h8
  have hp := pow_128_10
  unfold pre at hj ⊢
  by_cases hlt : v < 2 ^ k - 1
  · rw [if_pos hlt] at hj ⊢
    obtain rfl : j = 0 := by simpa using hj
    rfl
  · rw [if_neg hlt] at hj ⊢
    cases j with
    | zero => rfl
    | succ j =>
      rw [List.take_succ_cons]
      show (if (preFirst f k v).toNat % 2 ^ k < 2 ^ k - 1 then _ else rpGo ((cont 10 (v - (2 ^ k - 1))).take j) 0 ((preFirst f k v).toNat % 2 ^ k)) = _
      rw [hm, show min v (2 ^ k - 1) = 2 ^ k - 1 from by omega, if_neg (by omega)]
      exact rpGo_cut 9 _ 0 _ j (by unfold maxVar at hv; omega) (by omega) (by simp; omega) (by simpa using hj)

/-- A number that is cut off goes on. -/
theorem rv_cut (x i : Nat) (h : x < 4611686018427387904) (hi : i < (varB (x : Int)).length) : rv ((varB (x : Int)).take i) = (0, 0, 20) := by
  obtain ⟨q, n, hq, hn, hx, he, hl⟩ := clsOf x h
  rw [he] at hi ⊢
  rw [bes_len] at hi
  cases i with
  | zero => rfl
  | succ i =>
    obtain ⟨m, rfl⟩ : ∃ m, n = m + 1 := ⟨n - 1, by omega⟩
    have hn4 : m + 1 = 1 ∧ q = 0 ∨ m + 1 = 2 ∧ q = 1 ∨ m + 1 = 4 ∧ q = 2 ∨ m + 1 = 8 ∧ q = 3 := by
      have : q = 0 ∨ q = 1 ∨ q = 2 ∨ q = 3 := by omega
      rcases this with rfl | rfl | rfl | rfl <;> simp_all
    generalize hW : x + q * 2 ^ (8 * (m + 1) - 2) = W
    have hc : (byteAt (W : Int) m).toNat / 64 = q := by
      rw [byteAt_nat]
      rcases hn4 with ⟨h, rfl⟩ | ⟨h, rfl⟩ | ⟨h, rfl⟩ | ⟨h, rfl⟩ <;> (obtain rfl := Nat.succ.inj h) <;> simp at hx hW ⊢ <;> omega
    have hlen : rvLen (byteAt (W : Int) m) = m + 1 := by unfold rvLen; rw [hc, ← hn]
    rw [bes_cons, List.take_succ_cons]
    exact rv_more _ _ (by rw [hlen, List.length_cons, List.length_take, bes_len]; omega)

end Go.Proofs.Ytfhlikfjoldnfaa
