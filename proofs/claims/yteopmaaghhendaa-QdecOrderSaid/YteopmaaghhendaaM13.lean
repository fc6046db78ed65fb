/-
  Texts put together: NumMath, StrMath, NumMath2, StrA, HdA, PdA.
-/
import Derived.Test.YteopmaaghhendaaM09
import Derived.Test.YteopmaaghhendaaM10
import Derived.Test.YteopmaaghhendaaM11
import Derived.Test.YteopmaaghhendaaM01

/-
  Plain facts on the numbers' bytes: what is written is read back.
-/
namespace Go.Proofs.Yteopmaaghhendaa
open Go.RowKit
set_option linter.unusedVariables false

end Go.Proofs.Yteopmaaghhendaa

/-
  What StrBits answers, as a function of the bytes; what rp may come to.
-/
namespace Go.Proofs.Yteopmaaghhendaa
open Go.RowKit
set_option linter.unusedVariables false

/-- The three ways of a prefixed number. -/
theorem rpGo_cases (t : List UInt8) : ∀ i v, v ≤ maxVar → rpGo t i v = (0, 0, 20) ∨ rpGo t i v = (0, 0, 21) ∨
    ∃ n m : Nat, rpGo t i v = ((n : Int), (m : Int), 0) ∧ 1 ≤ m ∧ m ≤ i + 1 + t.length ∧ n ≤ maxVar := by
  induction t with
  | nil => intro i v h; exact .inl rfl
  | cons c t ih =>
    intro i v h
    rw [rpGo_ans]
    unfold rpAns
    split
    · exact .inr (.inl rfl)
    · rename_i hb
      have hf := pfits _ v i h hb
      split
      · exact .inr (.inr ⟨_, _, rfl, by omega, by simp; omega, hf⟩)
      · split
        · exact .inr (.inl rfl)
        · rcases ih (i + 1) _ hf with h1 | h1 | ⟨n, m, h1, h2, h3, h4⟩
          · exact .inl h1
          · exact .inr (.inl h1)
          · exact .inr (.inr ⟨n, m, h1, h2, by simp; omega, h4⟩)

theorem rp_cases (k : Nat) (l : List UInt8) : rp k l = (0, 0, 20) ∨ rp k l = (0, 0, 21) ∨
    ∃ n m : Nat, rp k l = ((n : Int), (m : Int), 0) ∧ 1 ≤ m ∧ m ≤ l.length ∧ n ≤ maxVar := by
  cases l with
  | nil => exact .inl rfl
  | cons c t =>
    have hc := c.toNat_lt
    have hm : c.toNat % 2 ^ k ≤ c.toNat := Nat.mod_le _ _
    rw [show rp k (c :: t) = if c.toNat % 2 ^ k < 2 ^ k - 1 then (((c.toNat % 2 ^ k : Nat) : Int), 1, 0) else rpGo t 0 (c.toNat % 2 ^ k) from rfl]
    split
    · exact .inr (.inr ⟨_, 1, rfl, by omega, by simp, by unfold maxVar; omega⟩)
    · rcases rpGo_cases t 0 (c.toNat % 2 ^ k) (by unfold maxVar; omega) with h1 | h1 | ⟨n, m, h1, h2, h3, h4⟩
      · exact .inl h1
      · exact .inr (.inl h1)
      · exact .inr (.inr ⟨n, m, h1, h2, by simp; omega, h4⟩)

/-- A string with a prefix of k bits, the bit above says whether it is coded: the string, the bytes it took, the error. -/
def sb (k : Nat) (l : List UInt8) : List UInt8 × Int × Int :=
  if (rp k l).2.2 ≠ 0 then ([], 0, (rp k l).2.2)
  else if 4096 < (rp k l).1 then ([], 0, 23)
  else if (l.length : Int) - (rp k l).2.1 < (rp k l).1 then ([], 0, 20)
  else if (l.headD 0).toNat / 2 ^ k % 2 = 0 then ((l.take ((rp k l).2.1 + (rp k l).1).toNat).drop (rp k l).2.1.toNat, (rp k l).2.1 + (rp k l).1, 0)
  else if (dec (allBits ((l.take ((rp k l).2.1 + (rp k l).1).toNat).drop (rp k l).2.1.toNat)) [] 0 0).2 ≠ 0 then
    ([], 0, ((dec (allBits ((l.take ((rp k l).2.1 + (rp k l).1).toNat).drop (rp k l).2.1.toNat)) [] 0 0).2 : Int))
  else ((dec (allBits ((l.take ((rp k l).2.1 + (rp k l).1).toNat).drop (rp k l).2.1.toNat)) [] 0 0).1, (rp k l).2.1 + (rp k l).1, 0)

theorem sb_err {k : Nat} {l : List UInt8} {n m e : Int} (h : rp k l = (n, m, e)) (he : e ≠ 0) : sb k l = ([], 0, e) := by simp [sb, h, he]
theorem sb_long {k : Nat} {l : List UInt8} {n m : Int} (h : rp k l = (n, m, 0)) (hn : 4096 < n) : sb k l = ([], 0, 23) := by simp [sb, h, hn]
theorem sb_more {k : Nat} {l : List UInt8} {n m : Int} (h : rp k l = (n, m, 0)) (hn : ¬ 4096 < n) (hm : (l.length : Int) - m < n) : sb k l = ([], 0, 20) := by simp [sb, h, hn, hm]
theorem sb_plain {k : Nat} {l : List UInt8} {n m : Int} (h : rp k l = (n, m, 0)) (hn : ¬ 4096 < n) (hm : ¬ (l.length : Int) - m < n) (hc : (l.headD 0).toNat / 2 ^ k % 2 = 0) :
    sb k l = ((l.take (m + n).toNat).drop m.toNat, m + n, 0) := by simp only [sb, h, hn, hm, hc, ne_eq, not_true, if_false, if_true]
theorem sb_bad {k : Nat} {l : List UInt8} {n m : Int} {R : List UInt8 × Nat} (h : rp k l = (n, m, 0)) (hn : ¬ 4096 < n) (hm : ¬ (l.length : Int) - m < n) (hc : ¬ (l.headD 0).toNat / 2 ^ k % 2 = 0)
    (hR : dec (allBits ((l.take (m + n).toNat).drop m.toNat)) [] 0 0 = R) (he : R.2 ≠ 0) : sb k l = ([], 0, (R.2 : Int)) := by
  subst hR; simp only [sb, h, hn, hm, hc, he, ne_eq, not_true, not_false_eq_true, if_false, if_true]
theorem sb_coded {k : Nat} {l : List UInt8} {n m : Int} {R : List UInt8 × Nat} (h : rp k l = (n, m, 0)) (hn : ¬ 4096 < n) (hm : ¬ (l.length : Int) - m < n) (hc : ¬ (l.headD 0).toNat / 2 ^ k % 2 = 0)
    (hR : dec (allBits ((l.take (m + n).toNat).drop m.toNat)) [] 0 0 = R) (he : R.2 = 0) : sb k l = (R.1, m + n, 0) := by
  subst hR; simp only [sb, h, hn, hm, hc, he, ne_eq, not_true, if_false]

end Go.Proofs.Yteopmaaghhendaa

/-
  Plain facts on numbers in prefixes: what is written is read back; what is cut off goes on.
-/
namespace Go.Proofs.Yteopmaaghhendaa
open Go.RowKit
set_option linter.unusedVariables false

theorem pow7 (i : Nat) : (2 : Nat) ^ (7 * (i + 1)) = 2 ^ (7 * i) * 128 := by rw [Nat.mul_add, Nat.pow_add]
theorem split128 (x i : Nat) : x * 2 ^ (7 * i) = x % 128 * 2 ^ (7 * i) + x / 128 * 2 ^ (7 * (i + 1)) := by
  rw [pow7, Nat.mul_comm (2 ^ (7 * i)) 128, ← Nat.mul_assoc, ← Nat.add_mul]
  congr 1
  omega

theorem not_big (u p i : Nat) (h : u + p * 2 ^ (7 * i) ≤ maxVar) : ¬ (maxVar - u) / 2 ^ (7 * i) < p := by
  rw [Nat.not_lt, Nat.le_div_iff_mul_le (Nat.two_pow_pos _)]
  omega

theorem low7 (x : Nat) (h : x < 128) : (UInt8.ofNat x).toNat = x := by
  have h8 : x < 2 ^ 8 := by have : (2:Nat) ^ 8 = 256 := rfl; omega
  rw [UInt8.toNat_ofNat', Nat.mod_eq_of_lt h8]
theorem high7 (x : Nat) : (UInt8.ofNat (x % 128 + 128)).toNat = x % 128 + 128 := by
  have h8 : x % 128 + 128 < 2 ^ 8 := by have : (2:Nat) ^ 8 = 256 := rfl; omega
  rw [UInt8.toNat_ofNat', Nat.mod_eq_of_lt h8]

/-- What is written behind a full prefix is read back, or is too great. -/
theorem rpGo_cont (rest : List UInt8) (m : Nat) : ∀ x i u, x < 128 ^ (m + 1) → i + m ≤ 9 → u ≤ maxVar →
    rpGo (cont (m + 1) x ++ rest) i u = if u + x * 2 ^ (7 * i) ≤ maxVar then (((u + x * 2 ^ (7 * i) : Nat) : Int), ((i + 1 + (cont (m + 1) x).length : Nat) : Int), 0) else (0, 0, 21) := by
  induction m with
  | zero =>
    intro x i u hx hi hu
    have hx' : x < 128 := by simpa using hx
    rw [cont_last _ _ hx', List.singleton_append, rpGo_ans, low7 x hx', Nat.mod_eq_of_lt hx']
    by_cases hs : u + x * 2 ^ (7 * i) ≤ maxVar
    · rw [if_pos hs, rpAns_last _ _ _ _ _ _ (not_big u x i hs) hx' rfl]
      rfl
    · rw [if_neg hs]
      by_cases hb : (maxVar - u) / 2 ^ (7 * i) < x
      · rw [rpAns_big _ _ _ _ _ hb]
      · exact absurd (pfits x u i hu hb) hs
  | succ m ih =>
    intro x i u hx hi hu
    by_cases hx' : x < 128
    · rw [cont_last _ _ hx', List.singleton_append, rpGo_ans, low7 x hx', Nat.mod_eq_of_lt hx']
      by_cases hs : u + x * 2 ^ (7 * i) ≤ maxVar
      · rw [if_pos hs, rpAns_last _ _ _ _ _ _ (not_big u x i hs) hx' rfl]
        rfl
      · rw [if_neg hs]
        by_cases hb : (maxVar - u) / 2 ^ (7 * i) < x
        · rw [rpAns_big _ _ _ _ _ hb]
        · exact absurd (pfits x u i hu hb) hs
    · rw [cont_more _ _ (by omega), List.cons_append, rpGo_ans, high7]
      have e1 : (x % 128 + 128) % 128 = x % 128 := by omega
      rw [e1]
      have hsp := split128 x i
      by_cases hb : (maxVar - u) / 2 ^ (7 * i) < x % 128
      · rw [rpAns_big _ _ _ _ _ hb, if_neg]
        intro hs
        exact not_big u (x % 128) i (by omega) hb
      · have hf := pfits (x % 128) u i hu hb
        rw [rpAns_on _ _ _ _ _ _ hb (by omega) (by omega) rfl, ih (x / 128) (i + 1) _ (by rw [Nat.pow_succ] at hx; omega) (by omega) hf]
        have e2 : u + x % 128 * 2 ^ (7 * i) + x / 128 * 2 ^ (7 * (i + 1)) = u + x * 2 ^ (7 * i) := by omega
        rw [e2]
        have e3 : i + 1 + 1 + (cont (m + 1) (x / 128)).length = i + 1 + (UInt8.ofNat (x % 128 + 128) :: cont (m + 1) (x / 128)).length := by simp only [List.length_cons]; omega
        rw [e3]

theorem preFirst_mod (f : UInt8) (k v : Nat) (h1 : 1 ≤ k) (h8 : k ≤ 8) : (preFirst f k v).toNat % 2 ^ k = min v (2 ^ k - 1) := by
  have h := preFirst_val f h1 h8 v
  have h' : (preFirst f k v).toNat = hiOf f k + min v (2 ^ k - 1) := by omega
  have hp := Nat.two_pow_pos k
  rw [h']
  unfold hiOf
  rw [Nat.mul_comm, Nat.mul_add_mod, Nat.mod_eq_of_lt (by omega)]

theorem pow_128_10 : (18446744073709551616 : Nat) ≤ 128 ^ (9 + 1) := by decide

/-- A number in a prefix is read back, whatever stands behind; or it is too great. -/
theorem rp_pre (f : UInt8) (k v : Nat) (h1 : 1 ≤ k) (h8 : k ≤ 8) (hv : v < 18446744073709551616) (rest : List UInt8) :
    rp k (pre f k v ++ rest) = if v ≤ maxVar then ((v : Int), ((pre f k v).length : Int), 0) else (0, 0, 21) := by
  have hr := full_range h1 h8
  have hm := preFirst_mod f k v h1 h8
  have hp := pow_128_10
  unfold pre
  by_cases hlt : v < 2 ^ k - 1
  · rw [if_pos hlt, List.singleton_append]
    show (if (preFirst f k v).toNat % 2 ^ k < 2 ^ k - 1 then ((((preFirst f k v).toNat % 2 ^ k : Nat) : Int), (1 : Int), (0 : Int)) else rpGo rest 0 ((preFirst f k v).toNat % 2 ^ k)) = _
    rw [hm, show min v (2 ^ k - 1) = v from by omega, if_pos hlt, if_pos (by unfold maxVar; omega)]
    rfl
  · rw [if_neg hlt, List.cons_append]
    show (if (preFirst f k v).toNat % 2 ^ k < 2 ^ k - 1 then _ else rpGo (cont 10 (v - (2 ^ k - 1)) ++ rest) 0 ((preFirst f k v).toNat % 2 ^ k)) = _
    rw [hm, show min v (2 ^ k - 1) = 2 ^ k - 1 from by omega, if_neg (by omega), rpGo_cont rest 9 _ 0 _ (by omega) (by omega) (by unfold maxVar; omega)]
    have e : 2 ^ k - 1 + (v - (2 ^ k - 1)) * 2 ^ (7 * 0) = v := by simp; omega
    rw [e]
    congr 3
    show ((0 + 1 + (cont 10 (v - (2 ^ k - 1))).length : Nat) : Int) = _
    simp only [List.length_cons]
    omega

end Go.Proofs.Yteopmaaghhendaa

/-
  Contract of the document's StrBits.
-/
namespace Go.Proofs.Yteopmaaghhendaa
open Go.RowKit
set_option linter.unusedVariables false

def AnsS (x : List UInt8 × Int × Int) : Ending := .returned (.tuple #[.string (bstr x.1), .int .i64 x.2.1, .int .i64 x.2.2])
theorem and_bit8 (c q : Nat) (hc : c < 256) : bits .and .u8 ((c : Int) / 2 ^ q) 1 = ((c / 2 ^ q % 2 : Nat) : Int) := by
  have h : c / 2 ^ q ≤ c := Nat.div_le_self _ _
  rw [show ((c : Int) / 2 ^ q) = ((c / 2 ^ q : Nat) : Int) from by simp, show (1 : Int) = ((1 : Nat) : Int) from rfl, u8_and_nat _ _ (by omega) (by omega), Nat.and_one_is_mod]

end Go.Proofs.Yteopmaaghhendaa

/-
  Contract of the document's clamp.
-/
namespace Go.Proofs.Yteopmaaghhendaa
open Go.RowKit
set_option linter.unusedVariables false

/-- A number between 0 and 4096. -/
def clampN (n : Int) : Nat := (min (max n 0) 4096).toNat
theorem clampN_eq (n : Int) : min (max n 0) 4096 = (clampN n : Int) := by unfold clampN; omega
theorem clampN_le (n : Int) : clampN n ≤ 4096 := by unfold clampN; omega

end Go.Proofs.Yteopmaaghhendaa

/-
  Contract of hdec.Str.
-/
namespace Go.Proofs.Yteopmaaghhendaa
open Go.RowKit
set_option linter.unusedVariables false

set_option maxRecDepth 100000 in
set_option maxHeartbeats 1000000 in
theorem str_any (bV : Value) (l : List UInt8) (w : World) (hb : Bs w bV l) (hlm : l.length ≤ 1000000) :
    Calls Try.prog 68 #[bV] w fun e w' => e = AnsS (sb 7 l) ∧ Below w.heap.size w w' := by
  have hcall := readPrefix_any bV l 7 w hb hlm
  rw [show bitsOf 7 = 7 from rfl] at hcall
  have HBV := Bx.mk hb
  have hlenb := fun ty W => hb.run_len ty W
  clear hb
  rcases rp_cases 7 l with hr | hr | ⟨n, m, hr, hm1, hml, hnv⟩
  · have HR := Bx.mk (sb_err hr (by decide))
    rw [hr] at hcall
    unfold Ans3 at hcall
    dsimp only at hcall
    have HCALL := Bx.mk hcall
    clear hr hcall hlenb
    go_enter Try.func68, Try.ntmps68
    go_wp2_with (go_at_call 57; refine HCALL.out.mono ?_; rintro e w1 ⟨rfl, rfl⟩)

    go_ret3
    exact ⟨by rw [HR.out]; rfl, Below.refl _ _⟩
  · have HR := Bx.mk (sb_err hr (by decide))
    rw [hr] at hcall
    unfold Ans3 at hcall
    dsimp only at hcall
    have HCALL := Bx.mk hcall
    clear hr hcall hlenb
    go_enter Try.func68, Try.ntmps68
    go_wp2_with (go_at_call 57; refine HCALL.out.mono ?_; rintro e w1 ⟨rfl, rfl⟩)
    go_ret3
    exact ⟨by rw [HR.out]; rfl, Below.refl _ _⟩
  · rw [hr] at hcall
    unfold Ans3 at hcall
    dsimp only at hcall
    have HCALL := Bx.mk hcall
    clear hcall
    have hnl : n < 9223372036854775808 := by unfold maxVar at hnv; omega
    by_cases hn : 4096 < n
    · have HR := Bx.mk (sb_long hr (by omega : (4096 : Int) < (n : Int)))
      have hd : decide ((4096 : Int) < (n : Int)) = true := by rw [decide_eq_true_iff]; omega
      clear hr hlenb
      go_enter Try.func68, Try.ntmps68
      go_wp2_with (go_at_call 57; refine HCALL.out.mono ?_; rintro e w1 ⟨rfl, rfl⟩)
      go_ret3
      exact ⟨by rw [HR.out]; rfl, Below.refl _ _⟩
    · have hd : decide ((4096 : Int) < (n : Int)) = false := by rw [decide_eq_false_iff_not]; omega
      obtain ⟨r, hr1⟩ : ∃ r : Nat, l.length = m + r := ⟨l.length - m, by omega⟩
      have hwn : IntKind.i64.wrap (n : Int) = (n : Int) := by simp only [IntKind.wrap_i64]; omega
      obtain ⟨s, hs⟩ : ∃ s : Nat, m + n = s := ⟨_, rfl⟩
      have hs' : (m : Int) + (n : Int) = (s : Int) := by omega
      obtain ⟨nl, hnl⟩ : ∃ nl, l.length = nl := ⟨_, rfl⟩
      have hws : IntKind.i64.wrap (s : Int) = (s : Int) := by simp only [IntKind.wrap_i64]; omega
      rw [hnl] at hlenb
      by_cases hrn : r < n
      · have HR := Bx.mk (sb_more hr (by omega : ¬ (4096 : Int) < (n : Int)) (by omega))
        have hd2 : nl < s := by omega
        have hd3 : decide (nl < s) = true := decide_eq_true hd2
        clear hr hr1 hnl hs
        go_enter Try.func68, Try.ntmps68
        go_wp2_with (go_at_call 57; refine HCALL.out.mono ?_; rintro e w1 ⟨rfl, rfl⟩)
        go_ret3
        exact ⟨by rw [HR.out]; rfl, Below.refl _ _⟩
      · have hd2 : ¬ nl < s := by omega
        have hd3 : decide (nl < s) = false := decide_eq_false hd2
        obtain ⟨v', hsl, hbs⟩ := HBV.out.mid (m : Int) (s : Int) (by omega) (by omega) (by omega)
        have HB' := Bx.mk (hbs w HBV.out)
        obtain ⟨p, hix, hcp⟩ := HBV.out.at_ 0 (by omega)
        have hc := hcp w HBV.out
        have hc256 : l[0].toNat < 256 := l[0].toNat_lt
        have hhd : l.headD 0 = l[0]'(by omega) := by cases l with | nil => simp at hr1; omega | cons x t => rfl
        rw [Int.toNat_natCast, Int.toNat_natCast] at HB'
        have hbl : ((l.take s).drop m).length = n := by simp; omega
        clear hcp hbs
        by_cases hbit : l[0].toNat / 2 ^ 7 % 2 = 0
        · have HR := Bx.mk (sb_plain hr (by omega : ¬ (4096 : Int) < (n : Int)) (by omega) (by rw [hhd]; exact hbit))
          rw [hs', Int.toNat_natCast, Int.toNat_natCast] at HR
          have hab : ((l[0].toNat : Nat) : Int) / 2 ^ 7 = 0 := by omega
          have hab2 : ((l[0].toNat : Nat) : Int) / 128 = 0 := by omega
          generalize l[0].toNat = c at hc hc256 hab hab2
          have hstr := conv_str HB'.out
          clear hr hbit hhd hr1 hnl hs
          generalize (l.take s).drop m = body at HR HB' hstr
          go_enter Try.func68, Try.ntmps68
          go_wp2_with (first
            | (go_at_call 57; refine HCALL.out.mono ?_; rintro e w1 ⟨rfl, rfl⟩)
            | (with_reducible refine wpList_indexAddr (v := .pointer (some p)) (by with_unfolding_all exact hix _) ?_))
          go_ret3
          exact ⟨by rw [HR.out]; rfl, Below.refl _ _⟩
        · obtain ⟨Rs, Re, hR⟩ : ∃ Rs Re, dec (allBits ((l.take s).drop m)) [] 0 0 = (Rs, Re) := ⟨_, _, rfl⟩
          have hR' : dec (allBits ((l.take ((m : Int) + (n : Int)).toNat).drop (m : Int).toNat)) [] 0 0 = (Rs, Re) := by rw [hs', Int.toNat_natCast, Int.toNat_natCast]; exact hR
          have hbit1 : l[0].toNat / 2 ^ 7 % 2 = 1 := by omega
          have hab : ((l[0].toNat : Nat) : Int) / 2 ^ 7 = 1 := by omega
          have hab2 : ((l[0].toNat : Nat) : Int) / 128 = 1 := by omega
          have hun := decode_any v' _ w HB'.out (by omega)
          rw [hR] at hun
          unfold Ans at hun
          dsimp only at hun
          have HUN := Bx.mk hun
          clear hun
          by_cases he : Re = 0
          · have HR := Bx.mk (sb_coded hr (by omega : ¬ (4096 : Int) < (n : Int)) (by omega) (by rw [hhd]; exact hbit) hR' he)
            rw [hs'] at HR
            subst he
            generalize l[0].toNat = c at hc hc256 hab hab2
            clear hr hbit hbit1 hhd hr1 hR hR' HB' hbl hnl hs
            go_enter Try.func68, Try.ntmps68
            go_wp2_with (first
              | (go_at_call 57; refine HCALL.out.mono ?_; rintro e w1 ⟨rfl, rfl⟩)
              | (go_at_call 85; refine HUN.out.mono ?_; rintro e w2 ⟨rfl, hb2⟩)
              | (with_reducible refine wpList_indexAddr (v := .pointer (some p)) (by with_unfolding_all exact hix _) ?_))
            go_ret3
            exact ⟨by rw [HR.out]; rfl, hb2⟩
          · have HR := Bx.mk (sb_bad hr (by omega : ¬ (4096 : Int) < (n : Int)) (by omega) (by rw [hhd]; exact hbit) hR' he)
            have hbe : ((Re : Int) == 0) = false := by simp; exact he
            generalize l[0].toNat = c at hc hc256 hab hab2
            clear hr hbit hbit1 hhd hr1 hR hR' HB' hbl hnl hs
            go_enter Try.func68, Try.ntmps68
            go_wp2_with (first
              | (go_at_call 57; refine HCALL.out.mono ?_; rintro e w1 ⟨rfl, rfl⟩)
              | (go_at_call 85; refine HUN.out.mono ?_; rintro e w2 ⟨rfl, hb2⟩)
              | (with_reducible refine wpList_indexAddr (v := .pointer (some p)) (by with_unfolding_all exact hix _) ?_))
            go_ret3
            exact ⟨by rw [HR.out]; rfl, hb2⟩

end Go.Proofs.Yteopmaaghhendaa
