/-
  Contracts of the code's method sign and of huff.Bits.
-/
import Derived.Test.YtofoknnflnafaaaHuffC
namespace Go.Proofs.Ytofoknnflnafaaa
open Go.RowKit
set_option linter.unusedVariables false

theorem CodeAt.keep {w w' : World} {g : Nat} (h : CodeAt w g) (hb : Below w.heap.size w w') : CodeAt w' g := World.rowIs.of_block h (hb.block g h.lt)

theorem sub_in {a b : Nat} (h : b ≤ a) (ha : a < 4294967296) : IntKind.u32.wrap ((a : Int) - (b : Int)) = ((a - b : Nat) : Int) := by rw [IntKind.wrap_u32]; omega
theorem sub_out {a b : Nat} (h : a < b) (hb : b < 4294967296) : IntKind.u32.wrap ((a : Int) - (b : Int)) = ((4294967296 + a - b : Nat) : Int) := by rw [IntKind.wrap_u32]; omega
theorem sign_hi : ∀ n, n < 31 → fi n ≤ 1073741824 ∧ co n ≤ 32 ∧ pl n + co n ≤ 257 := by decide +kernel

set_option maxRecDepth 100000 in
set_option maxHeartbeats 1000000 in
theorem sign_none (g n x : Nat) (w : World) (hg : CodeAt w g) (hn : n < 31) (hx : x < 4294967296) (hs : sgn n x = none) :
    Calls Try.prog 22 #[.pointer (some ⟨g, 0, none⟩), .int .u32 x, .int .i64 n] w fun e w' => e = .returned (.tuple #[.int .i64 0, .bool false]) ∧ Below w.heap.size w w' := by
  have hc1 := (codeF_cell hg).2.2.2.1 n hn
  have hc2 := (codeF_cell hg).2.2.2.2.1 n hn
  have hh := sign_hi n hn
  have hno : x < fi n ∨ fi n + co n ≤ x := by
    unfold sgn at hs
    split at hs
    · cases hs
    · omega
  clear hg hs
  generalize fi n = f at hc1 hh hno
  generalize co n = c at hc2 hh hno
  obtain ⟨h1, h2, -⟩ := hh
  rcases hno with h | h
  · have hv := sub_out h (by omega)
    obtain ⟨d, hd⟩ : ∃ d, 4294967296 + x - f = d := ⟨_, rfl⟩
    rw [hd] at hv
    have hge : decide (c ≤ d) = true := by rw [decide_eq_true_iff]; omega
    clear hd h
    go_enter Try.func22, Try.ntmps22
    go_wp2
    go_ret2
    exact ⟨rfl, Below.refl _ _⟩
  · have hv := sub_in (a := x) (b := f) (by omega) hx
    have hge : decide (c ≤ x - f) = true := by rw [decide_eq_true_iff]; omega
    obtain ⟨d, hd⟩ : ∃ d, x - f = d := ⟨_, rfl⟩
    rw [hd] at hv hge
    clear hd h
    go_enter Try.func22, Try.ntmps22
    go_wp2
    go_ret2
    exact ⟨rfl, Below.refl _ _⟩

set_option maxRecDepth 100000 in
set_option maxHeartbeats 1000000 in
theorem sign_some (g n x s : Nat) (w : World) (hg : CodeAt w g) (hn : n < 31) (hx : x < 4294967296) (hs : sgn n x = some s) :
    Calls Try.prog 22 #[.pointer (some ⟨g, 0, none⟩), .int .u32 x, .int .i64 n] w fun e w' => e = .returned (.tuple #[.int .i64 s, .bool true]) ∧ Below w.heap.size w w' := by
  have hc1 := (codeF_cell hg).2.2.2.1 n hn
  have hc2 := (codeF_cell hg).2.2.2.2.1 n hn
  have hc3 := (codeF_cell hg).2.2.2.2.2 n hn
  have hh := sign_hi n hn
  have hs257 := (sgn_some hn hs).1
  unfold sgn at hs
  split at hs
  · rename_i hyes
    injection hs with hs
    have hc4 := (codeF_cell hg).2.2.1 (pl n + (x - fi n)) (by omega)
    rw [hs] at hc4
    clear hg hs
    generalize fi n = f at hc1 hh hyes hc4
    generalize co n = c at hc2 hh hyes
    generalize pl n = p at hc3 hc4 hh
    obtain ⟨h1, h2, h3⟩ := hh
    have hv := sub_in (a := x) (b := f) (by omega) hx
    obtain ⟨d, hd⟩ : ∃ d, x - f = d := ⟨_, rfl⟩
    have hdc : d < c := by omega
    have hge : decide (c ≤ d) = false := by rw [decide_eq_false_iff_not]; omega
    rw [hd] at hv hc4
    have hpd : p + d < 257 := by omega
    clear hd hyes h3
    go_enter Try.func22, Try.ntmps22
    go_wp2
    go_region
    go_wp2
    go_ret2
    exact ⟨rfl, (Below.refl _ _).drew⟩
  · cases hs

set_option maxRecDepth 100000 in
set_option maxHeartbeats 1000000 in
theorem bits_any (c : UInt8) (w : World) :
    Calls Try.prog 18 #[.int .u8 c.toNat] w fun e w' => e = .returned (.tuple #[.int .u32 (cw c.toNat : Int), .int .i64 (ll c.toNat : Int)]) ∧ Below w.heap.size w w' := by
  have hc := c.toNat_lt
  have hl := ll_byte c
  generalize c.toNat = k at *
  obtain ⟨-, hl2, -⟩ := hl
  generalize hv : cw k = v
  generalize hn : ll k = n at hl2 ⊢
  have HV := Bx.mk hv
  have HN := Bx.mk hn
  clear hv hn
  go_enter Try.func18, Try.ntmps18
  go_wp2_with (go_at_call 19; refine (newCode_any _).mono ?_; rintro e w1 ⟨g, rfl, hg, b1⟩)
  have hc1 := (codeF_cell hg).1 k (by omega)
  have hc2 := (codeF_cell hg).2.1 k (by omega)
  rw [HN.out] at hc1
  rw [HV.out] at hc2
  clear hg
  go_region
  go_wp2
  go_ret2
  exact ⟨rfl, b1.drew⟩

end Go.Proofs.Ytofoknnflnafaaa
