/-
  bifoldlaw2.HuffCodes answers true, whatever its arguments: the walk.
-/
import Derived.Test.YtofoknnflnafaaaHuffL
import Derived.Test.YtofoknnflnafaaaOpenB
namespace Go.Proofs.Ytofoknnflnafaaa
open Go.RowKit
set_option linter.unusedVariables false

theorem wf_byte {a : Int} (h : (Lit.int .u8 a).wf = true) : ∃ c : UInt8, a = (c.toNat : Int) := by
  have h2 : 0 ≤ a ∧ a < 256 := by
    simp [Lit.wf, IntKind.min, IntKind.max, IntKind.signed, IntKind.bits] at h
    omega
  refine ⟨UInt8.ofNat a.toNat, ?_⟩
  rw [← byte_nat (by omega)]
  omega

/-- Together the codes fill all: the sum up to sign k. -/
def kraft (k : Nat) : Nat := ((LL.take k).map fun n => 2 ^ (32 - n)).sum
theorem kraft_snoc (k : Nat) (hk : k < 257) : kraft (k + 1) = kraft k + 2 ^ (32 - ll k) := by
  unfold kraft
  rw [List.take_add_one, ll_get k hk, List.map_append, List.sum_append]
  simp
set_option maxRecDepth 100000 in
theorem kraft_all : kraft 257 = 4294967296 := by decide +kernel
theorem kraft_le (k : Nat) : kraft k ≤ k * 4294967296 := by
  unfold kraft
  induction k with
  | zero => simp
  | succ k ih =>
    rw [List.take_add_one, List.map_append, List.sum_append]
    have h : ((LL[k]?.toList).map fun n => 2 ^ (32 - n)).sum ≤ 4294967296 := by
      cases LL[k]? with
      | none => simp
      | some x =>
        have : (2:Nat) ^ (32 - x) ≤ 2 ^ 32 := Nat.pow_le_pow_right (by omega) (by omega)
        simpa using this
    rw [Nat.add_mul, Nat.one_mul]
    omega

theorem free_facts : ∀ c, c < 256 → ∀ d, d < 256 → c = d ∨ ll d < ll c ∨ cw d / 2 ^ (ll d - ll c) ≠ cw c := by
  intro c hc d hd
  by_cases h : c = d
  · exact .inl h
  by_cases h2 : ll d < ll c
  · exact .inr (.inl h2)
  refine .inr (.inr fun e => ?_)
  have hs := sgn_of (s := c) (by omega)
  rcases Nat.lt_or_ge (ll c) (ll d) with h3 | h3
  · have hp := sgn_prefix hd h3
    rw [e, hs] at hp
    cases hp
  · have h4 : ll d = ll c := by omega
    rw [h4, Nat.sub_self, Nat.pow_zero, Nat.div_one] at e
    have ht := sgn_of (s := d) (by omega)
    rw [h4, e, hs] at ht
    injection ht with ht
    exact h ht

theorem kraft_word (a r : Nat) (ha : a ≤ 1103806595072) (hr : 2 ^ (32 - r) ≤ 4294967296) : IntKind.u64.wrap ((a : Int) + IntKind.u64.wrap (2 ^ (32 - r))) = ((a + 2 ^ (32 - r) : Nat) : Int) := by
  have e : ((2 : Int) ^ (32 - r)) = ((2 ^ (32 - r) : Nat) : Int) := by simp
  rw [IntKind.wrap_u64, IntKind.wrap_u64, e]
  generalize 2 ^ (32 - r) = z at hr
  omega
theorem codes_end (cn dn p n y x : Nat) (h : cn = dn ∨ p < n ∨ y / 2 ^ (p - n) ≠ x) : ((cn : Int) == (dn : Int) || decide (p < n) || ((y : Int) / 2 ^ (p - n) != (x : Int))) = true := by
  have e : ((y : Int) / 2 ^ (p - n)) = ((y / 2 ^ (p - n) : Nat) : Int) := by simp
  rw [e]
  rcases h with h | h | h
  · subst h; simp
  · simp [h]
  · generalize y / 2 ^ (p - n) = z at h
    simp
    omega

set_option maxRecDepth 100000 in
set_option maxHeartbeats 1000000 in
theorem huffCodes_walk (a0 : Int) (a1 : Int) (w0 : (Lit.int .u8 a0).wf = true) (w1 : (Lit.int .u8 a1).wf = true) (w : World) :
    Calls Try.prog 5 #[.int .u8 a0, .int .u8 a1] w fun e w' => e = .returned (.bool true) ∧ Below w.heap.size w w' := by
  obtain ⟨c, rfl⟩ := wf_byte w0
  obtain ⟨d, rfl⟩ := wf_byte w1
  clear w0 w1
  have hc : c.toNat < 256 := c.toNat_lt
  have hd : d.toNat < 256 := d.toNat_lt
  have HF := Bx.mk (free_facts _ hc _ hd)
  have HLC := Bx.mk (ll_byte c)
  have HLD := Bx.mk (ll_byte d)
  go_enter Try.func5, Try.ntmps5
  go_wp2_with fail
  refine (known_any _).mono ?_
  rintro e w1 ⟨rfl, b1⟩
  go_wp2_with fail
  refine (codes_any _).mono ?_
  rintro e w2 ⟨m, rfl, hm, b2⟩
  have b12 := b1.trans (b2.mono b1.size)
  go_wp2_with fail
  refine (bits_any c _).mono ?_
  rintro e w3 ⟨rfl, b3⟩
  have b13 := b12.trans (b3.mono b12.size)
  have hm3 := hm.keep b3
  go_wp2_with fail
  refine (bits_any d _).mono ?_
  rintro e w4 ⟨rfl, b4⟩
  have HB := Bx.mk (b13.trans (b4.mono b13.size))
  have hm4 := hm3.keep b4
  obtain ⟨hc1, hc2⟩ := hm4.cells c.toNat (by omega)
  obtain ⟨hd1, hd2⟩ := hm4.cells d.toNat (by omega)
  have HM := Bx.mk hm4
  clear b1 b2 b12 b3 b13 b4 hm hm3 hm4
  generalize cw c.toNat = x at hc1 HF HLC ⊢
  generalize ll c.toNat = n at hc2 HF HLC ⊢
  generalize cw d.toNat = y at hd1 HF HLD ⊢
  generalize ll d.toNat = p at hd2 HF HLD ⊢
  generalize c.toNat = cn at *
  generalize d.toNat = dn at *
  have hn30 := HLC.out.2.1
  have hp30 := HLD.out.2.1
  go_wp2
  clear hc1 hc2 hd1 hd2
  go_loop [10, 11] (fun t i => ∃ k : Nat, k ≤ 257 ∧ i = .int .i64 k ∧ t = .int .u64 (kraft k)) (fun _ i => 257 - (intOf i).toNat)
  case atStart => exact ⟨0, Nat.zero_le _, rfl, rfl⟩
  case round =>
    obtain ⟨k, hk, rfl, rfl⟩ := hrel
    by_cases hlt : k < 257
    · have hc := (HM.out.cells k hlt).2
      have hll := (sign_facts k hlt).2.1
      have HS := Bx.mk (kraft_snoc k hlt)
      have hkl := kraft_le k
      have hp2 : (2:Nat) ^ (32 - ll k) ≤ 2 ^ 32 := Nat.pow_le_pow_right (by omega) (by omega)
      have hp3 : (2:Nat) ^ 32 = 4294967296 := by decide
      rw [hp3] at hp2
      generalize hlk : ll k = r at hc hll HS hp2
      have HLK := Bx.mk hlk
      clear hlk hp3
      have hk32 : kraft k ≤ 1103806595072 := by omega
      have HW := Bx.mk (kraft_word (kraft k) r hk32 hp2)
      go_wp2
      go_round
      case rel => exact ⟨k + 1, by omega, by go_num, by rw [HW.out, HS.out]⟩
      case measure => simp [intOf]; omega
    · obtain rfl : k = 257 := by omega
      rw [kraft_all]
      go_wp2
      all_goals
        go_ret
        first
          | exact ⟨rfl, HB.out⟩
          | exact ⟨congrArg (fun b => Ending.returned (.bool b)) (codes_end cn dn p n y x HF.out), HB.out⟩

end Go.Proofs.Ytofoknnflnafaaa
