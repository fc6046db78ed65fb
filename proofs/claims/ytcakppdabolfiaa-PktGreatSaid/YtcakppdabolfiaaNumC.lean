/-
  Contracts of num.ReadBig and of the document's ReadBig.
-/
import Derived.Test.YtcakppdabolfiaaNumB
namespace Go.Proofs.Ytcakppdabolfiaa
open Go.RowKit
set_option linter.unusedVariables false

/-- The number of some bytes, the highest first. -/
def rb : List UInt8 → Nat := fun l => l.foldl (fun v c => v * 256 + c.toNat) 0

theorem rb_snoc (l : List UInt8) (c : UInt8) : rb (l ++ [c]) = rb l * 256 + c.toNat := by simp [rb]
theorem rb_lt_from (l : List UInt8) : ∀ v : Nat, l.foldl (fun v c => v * 256 + c.toNat) v < (v + 1) * 256 ^ l.length := by
  induction l with
  | nil => intro v; simp
  | cons c l ih =>
    intro v
    rw [List.foldl_cons, List.length_cons, Nat.pow_succ]
    have h := ih (v * 256 + c.toNat)
    have := c.toNat_lt
    refine Nat.lt_of_lt_of_le h ?_
    rw [Nat.mul_comm (256 ^ l.length) 256, ← Nat.mul_assoc]
    exact Nat.mul_le_mul_right _ (by omega)
theorem rb_lt (l : List UInt8) : rb l < 256 ^ l.length := by have := rb_lt_from l 0; simpa [rb] using this

theorem rb_lt_n (l : List UInt8) (n : Nat) (h : l.length ≤ n) : rb l < 256 ^ n := Nat.lt_of_lt_of_le (rb_lt l) (Nat.pow_le_pow_right (by omega) h)

theorem or_add (a b i : Nat) (h : b < 2 ^ i) : a * 2 ^ i ||| b = a * 2 ^ i + b := by
  rw [← Nat.shiftLeft_eq, Nat.shiftLeft_add_eq_or_of_lt h]

theorem u64_or_add (a b i : Nat) (h : b < 2 ^ i) (h64 : a * 2 ^ i + b < 18446744073709551616) : bits .or .u64 ((a * 2 ^ i : Nat) : Int) (b : Int) = ((a * 2 ^ i + b : Nat) : Int) := by
  rw [u64_or_nat _ _ (by omega) (by omega), or_add a b i h]

theorem u64_mask (x i : Nat) (m : Int) (hm : m = ((2 ^ i - 1 : Nat) : Int)) (hi : i ≤ 64) (hx : x < 18446744073709551616) : bits .and .u64 (x : Int) m = ((x % 2 ^ i : Nat) : Int) := by
  subst hm
  have h2 : 2 ^ i ≤ 2 ^ 64 := Nat.pow_le_pow_right (by omega) hi
  have h3 : 2 ^ i - 1 < 18446744073709551616 := by have := Nat.two_pow_pos i; omega
  rw [u64_and_nat _ _ hx h3, Nat.and_two_pow_sub_one_eq_mod]

theorem u64_next (a : Nat) (c : UInt8) (h : a < 256 ^ 7) : bits .or .u64 ((a : Int) * 256) (IntKind.u64.wrap (c.toNat : Int)) = ((a * 256 + c.toNat : Nat) : Int) := by
  have hc := c.toNat_lt
  rw [IntKind.wrap_u64, show ((c.toNat : Int) % 18446744073709551616) = (c.toNat : Int) from by omega]
  exact u64_or_add a c.toNat 8 hc (by omega)

theorem take_snoc (l : List UInt8) (k : Nat) (h : k < l.length) : l.take (k + 1) = l.take k ++ [l[k]] := by
  rw [List.take_succ_eq_append_getElem h]

/-- Byte k of a slice that came in. -/
theorem Bs.cell {w : World} {b o c L : Nat} {l : List UInt8} (h : Bs w (.slice (some ⟨b, o, none⟩) L c) l) (k : Nat) (hk : k < l.length) : w.cell? ⟨b, o + k, none⟩ = some (.int .u8 (l[k].toNat : Int)) := by
  obtain ⟨b', o', c', e, _, _, _, hc⟩ := Rd.at_ h (by simp; omega)
  injection e with e1 e2 e3
  injection e1 with e1
  injection e1 with e1 e4
  subst e1; subst e4
  exact hc k _ (by simp [hk, bv])

set_option maxHeartbeats 400000 in
theorem readBig_yes (bV : Value) (l : List UInt8) (n : Nat) (w : World) (hb : Bs w bV l) (hn0 : 0 < n) (hn : n ≤ 8) (hl : n ≤ l.length) (hm : l.length ≤ 1000000) :
    Calls Try.prog 57 #[bV, .int .i64 n] w fun e w' => e = .returned (.tuple #[.int .u64 (rb (l.take n)), .bool true]) ∧ w = w' := by
  obtain ⟨b, o, c, hv, h1, h2, -, -⟩ := Rd.at_ hb (by simp; omega)
  rw [List.length_map] at hv h1
  generalize hL : l.length = L at hv h1 hl hm
  have HL := Lib.hid hL
  clear hL
  subst hv
  have Hb := Lib.hid hb
  clear hb
  unfold maxLen at h2
  go_enter Try.func57, Try.ntmps57
  go_wp2_with fail
  go_loop [6, 25] (fun v i => ∃ k : Nat, k ≤ n ∧ i = .int .i64 k ∧ v = .int .u64 (rb (l.take k))) (fun _ i => n - (intOf i).toNat)
  case atStart => exact ⟨0, by omega, rfl, rfl⟩
  case round =>
    obtain ⟨k, hk, rfl, rfl⟩ := hrel
    by_cases hlt : k < n
    · have hkl : k < l.length := by have := HL.out; omega
      have hc := Hb.out.cell k hkl
      have hlt8 := rb_lt_n (l.take k) 7 (by simp; omega)
      go_wp2
      have hv : bits .or .u64 ((rb (l.take k) : Int) * 256) (IntKind.u64.wrap (l[k].toNat : Int)) = (rb (l.take (k + 1)) : Int) := by
        rw [u64_next _ _ hlt8, take_snoc l k hkl, rb_snoc]
      rw [hv]
      clear hv
      go_round
      case rel => exact ⟨k + 1, by omega, by go_num, rfl⟩
      case measure => simp [intOf]; omega
    · go_wp2
      go_ret2
      obtain rfl : k = n := by omega
      exact ⟨rfl, rfl⟩

theorem readBig_zero (bV : Value) (l : List UInt8) (w : World) (hb : Bs w bV l) :
    Calls Try.prog 57 #[bV, .int .i64 0] w fun e w' => e = .returned (.tuple #[.int .u64 0, .bool true]) ∧ w = w' := by
  obtain ⟨A, L, c, rfl, hL, h1, h2, h3, h4⟩ := hb.open_
  clear hb hL h3 h4
  unfold maxLen at h2
  go_enter Try.func57, Try.ntmps57
  go_wp2
  go_rounds 1
  go_ret2
  exact ⟨rfl, rfl⟩

theorem readBig_no (bV : Value) (l : List UInt8) (n : Int) (w : World) (hb : Bs w bV l) (hn : n < 0 ∨ 8 < n ∨ (l.length : Int) < n) :
    Calls Try.prog 57 #[bV, .int .i64 n] w fun e w' => e = .returned (.tuple #[.int .u64 0, .bool false]) ∧ w = w' := by
  obtain ⟨A, L, c, rfl, hL, h1, h2, h3, h4⟩ := hb.open_
  clear hb
  unfold maxLen at h2
  have hn' : n < 0 ∨ 8 < n ∨ (L : Int) < n := by omega
  clear hn h3 h4 hL
  by_cases c1 : n < 0
  · go_enter Try.func57, Try.ntmps57
    go_wp2
    go_ret2
    exact ⟨rfl, rfl⟩
  · by_cases c2 : 8 < n
    · go_enter Try.func57, Try.ntmps57
      go_wp2
      go_ret2
      exact ⟨rfl, rfl⟩
    · have c3 : (L : Int) < n := by omega
      go_enter Try.func57, Try.ntmps57
      go_wp2
      go_ret2
      exact ⟨rfl, rfl⟩

/-- ReadBig's answer where there are so many bytes. -/
theorem readBig_ok (bV : Value) (l : List UInt8) (n : Int) (w : World) (hb : Bs w bV l) (hn0 : 0 ≤ n) (hn : n ≤ 8) (hl : n ≤ l.length) (hm : l.length ≤ 1000000) :
    Calls Try.prog 57 #[bV, .int .i64 n] w fun e w' => e = .returned (.tuple #[.int .u64 (rb (l.take n.toNat)), .bool true]) ∧ w = w' := by
  obtain ⟨k, rfl⟩ := Int.eq_ofNat_of_zero_le hn0
  rw [Int.toNat_natCast]
  rcases Nat.eq_zero_or_pos k with rfl | h
  · exact readBig_zero bV l w hb
  · exact readBig_yes bV l k w hb h (by omega) (by omega) hm

set_option maxHeartbeats 400000 in
theorem refReadBig_ok (bV : Value) (l : List UInt8) (n' : Int) (w : World) (hb : Bs w bV l) (hn0 : 0 ≤ n') (hn : n' ≤ 8) (hl : n' ≤ l.length) (hm : l.length ≤ 1000000) :
    Calls Try.prog 112 #[bV, .int .i64 n'] w fun e w' => e = .returned (.tuple #[.int .u64 (rb (l.take n'.toNat)), .bool true]) ∧ w = w' := by
  obtain ⟨n, rfl⟩ := Int.eq_ofNat_of_zero_le hn0
  rw [Int.toNat_natCast]
  rcases Nat.eq_zero_or_pos n with rfl | hp
  · obtain ⟨A, L, c, rfl, hL, h1, h2, h3, h4⟩ := hb.open_
    clear hb hL h3 h4
    unfold maxLen at h2
    go_enter Try.func112, Try.ntmps112
    go_wp2
    go_rounds 1
    go_ret2
    exact ⟨rfl, rfl⟩
  · obtain ⟨b, o, c, hv, h1, h2, -, -⟩ := Rd.at_ hb (by simp; omega)
    rw [List.length_map] at hv h1
    generalize hL : l.length = L at hv h1 hl hm
    have HL := Lib.hid hL
    clear hL
    subst hv
    have Hb := Lib.hid hb
    clear hb
    unfold maxLen at h2
    go_enter Try.func112, Try.ntmps112
    go_wp2_with fail
    go_loop [6, 7] (fun v i => ∃ k : Nat, k ≤ n ∧ i = .int .i64 k ∧ v = .int .u64 (rb (l.take k))) (fun _ i => n - (intOf i).toNat)
    case atStart => exact ⟨0, by omega, rfl, rfl⟩
    case round =>
      obtain ⟨k, hk, rfl, rfl⟩ := hrel
      by_cases hlt : k < n
      · have hkl : k < l.length := by have := HL.out; omega
        have hc := Hb.out.cell k hkl
        have hlt8 := rb_lt_n (l.take k) 7 (by simp; omega)
        go_wp2
        have hv : bits .or .u64 ((rb (l.take k) : Int) * 256) (IntKind.u64.wrap (l[k].toNat : Int)) = (rb (l.take (k + 1)) : Int) := by
          rw [u64_next _ _ hlt8, take_snoc l k hkl, rb_snoc]
        rw [hv]
        clear hv
        go_round
        case rel => exact ⟨k + 1, by omega, by go_num, rfl⟩
        case measure => simp [intOf]; omega
      · go_wp2
        go_ret2
        obtain rfl : k = n := by omega
        exact ⟨rfl, rfl⟩

theorem refReadBig_no (bV : Value) (l : List UInt8) (n : Int) (w : World) (hb : Bs w bV l) (hn : n < 0 ∨ 8 < n ∨ (l.length : Int) < n) :
    Calls Try.prog 112 #[bV, .int .i64 n] w fun e w' => e = .returned (.tuple #[.int .u64 0, .bool false]) ∧ w = w' := by
  obtain ⟨A, L, c, rfl, hL, h1, h2, h3, h4⟩ := hb.open_
  clear hb
  unfold maxLen at h2
  have hn' : n < 0 ∨ 8 < n ∨ (L : Int) < n := by omega
  clear hn h3 h4 hL
  by_cases c1 : n < 0
  · go_enter Try.func112, Try.ntmps112
    go_wp2
    go_ret2
    exact ⟨rfl, rfl⟩
  · by_cases c2 : 8 < n
    · go_enter Try.func112, Try.ntmps112
      go_wp2
      go_ret2
      exact ⟨rfl, rfl⟩
    · have c3 : (L : Int) < n := by omega
      go_enter Try.func112, Try.ntmps112
      go_wp2
      go_ret2
      exact ⟨rfl, rfl⟩

end Go.Proofs.Ytcakppdabolfiaa
