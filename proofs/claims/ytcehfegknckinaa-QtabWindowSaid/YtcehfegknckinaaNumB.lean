/-
  Contracts of num.grown, num.putBig, num.Big, num.ReadBig and of the document's Big, ReadBig.
-/
import Derived.Test.YtcehfegknckinaaNumA
import Derived.Test.YtcehfegknckinaaSl
namespace Go.Proofs.Ytcehfegknckinaa
open Go.RowKit
set_option linter.unusedVariables false

theorem infoU8n : (Try.prog.info? 5).map (fun i => (i.zero, i.size, i.bytes)) = some (some (.int .u8 0), 1, 1) := by kernel_rfl

set_option maxHeartbeats 400000 in
theorem grown_any (v : Value) (l : List UInt8) (n : Nat) (w : World) (hv : Bs w v l) (hn : n ≤ 1000000) (hl : l.length ≤ 1000000) :
    Calls Try.prog 25 #[v, .int .i64 n] w fun e w' => ∃ v', e = .returned v' ∧ ApB w' w.heap.size v' l ∧ Below w.heap.size w w' := by
  obtain ⟨i0, hi, hz, hz1, hz2⟩ := info_parts infoU8n
  obtain ⟨A, L, c, rfl, hL, h1, h2, h3, h4⟩ := hv.open_
  have H := Lib.hid hv
  clear hv
  have Hi := Lib.hid hi
  have Hz := Lib.hid hz
  have Hz1 := Lib.hid hz1
  have Hz2 := Lib.hid hz2
  clear hi hz hz1 hz2
  go_enter Try.func25, Try.ntmps25
  go_wp2_with (first
    | (at_make
       refine wpList_make_own _ rfl _ _ _ rfl w.heap.size 5 i0 (.int .u8 0) 1 Try.underlying37 Hi.out Hz.out Hz1.out .i64 .i64 _ (L + n) rfl rfl (by simp) (by rw [Hz2.out]; omega) (by simp only [maxLen]; omega) (Nat.le_refl _) ?_
       intro w1 hown hg)
    | (at_builtin
       refine wpList_append_ap _ rfl _ _ 37 rfl w.heap.size 5 i0 (.int .u8 0) 1 Try.underlying37 Hi.out Hz.out Hz1.out Hz2.out rfl _ _ [] (l.map bv) rfl rfl (.inl hown) ((show Rd w _ (l.map bv) from H.out).keep ((Below.refl _ _).grown hg (Nat.le_refl _) (by simp))) one_bv (by simp; omega) (by simp [maxLen]; omega) hg.size ?_
       intro v2 w2 hap hb2))
  go_ret
  exact ⟨v2, rfl, hap, ((Below.refl _ _).grown hg (Nat.le_refl _) (by simp)).trans hb2⟩


/-- The byte at place i (from the lowest on) of v. -/
def byteAt (v : Int) (i : Nat) : UInt8 := UInt8.ofNat (v / 2 ^ (8 * i) % 256).toNat
/-- v's bytes at the places i-1, .., 0. -/
def bes (v : Int) : Nat → List UInt8
  | 0 => []
  | i + 1 => byteAt v i :: bes v i

theorem byteAt_val (v : Int) (i : Nat) : bv (byteAt v i) = .int .u8 (v / 2 ^ (8 * i) % 256) := by
  have h0 : 0 ≤ v / 2 ^ (8 * i) % 256 := Int.emod_nonneg _ (by omega)
  have h1 : v / 2 ^ (8 * i) % 256 < 256 := Int.emod_lt_of_pos _ (by omega)
  unfold bv byteAt
  congr 1
  rw [UInt8.toNat_ofNat']
  omega

theorem byte_snoc {w : World} {B : Nat} {x : Value} {l : List UInt8} {v : Int} {i : Nat} (h : Ap w B 5 x (l.map bv ++ #[Value.int .u8 (v / 2 ^ (8 * i) % 256)].toList)) : ApB w B x (l ++ [byteAt v i]) := by
  unfold ApB
  rw [List.map_append, List.map_cons, List.map_nil, byteAt_val]
  exact h

theorem grown_int (v : Value) (l : List UInt8) (n : Int) (w : World) (hv : Bs w v l) (hn0 : 0 ≤ n) (hn : n ≤ 1000000) (hl : l.length ≤ 1000000) :
    Calls Try.prog 25 #[v, .int .i64 n] w fun e w' => ∃ v', e = .returned v' ∧ ApB w' w.heap.size v' l ∧ Below w.heap.size w w' := by
  obtain ⟨k, rfl⟩ := Int.eq_ofNat_of_zero_le hn0
  exact grown_any v l k w hv (by omega) hl

end Go.Proofs.Ytcehfegknckinaa
