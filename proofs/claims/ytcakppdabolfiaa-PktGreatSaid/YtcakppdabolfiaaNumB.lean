/-
  Contracts of num.grown, num.putBig, num.Big, num.ReadBig and of the document's Big, ReadBig.
-/
import Derived.Test.YtcakppdabolfiaaNumA
import Derived.Test.YtcakppdabolfiaaSl
namespace Go.Proofs.Ytcakppdabolfiaa
open Go.RowKit
set_option linter.unusedVariables false

theorem infoU8n : (Try.prog.info? 5).map (fun i => (i.zero, i.size, i.bytes)) = some (some (.int .u8 0), 1, 1) := by kernel_rfl

set_option maxHeartbeats 400000 in
theorem grown_any (v : Value) (l : List UInt8) (n : Nat) (w : World) (hv : Bs w v l) (hn : n ≤ 1000000) (hl : l.length ≤ 1000000) :
    Calls Try.prog 88 #[v, .int .i64 n] w fun e w' => ∃ v', e = .returned v' ∧ ApB w' w.heap.size v' l ∧ Below w.heap.size w w' := by
  obtain ⟨i0, hi, hz, hz1, hz2⟩ := info_parts infoU8n
  obtain ⟨A, L, c, rfl, hL, h1, h2, h3, h4⟩ := hv.open_
  have H := Lib.hid hv
  clear hv
  have Hi := Lib.hid hi
  have Hz := Lib.hid hz
  have Hz1 := Lib.hid hz1
  have Hz2 := Lib.hid hz2
  clear hi hz hz1 hz2
  go_enter Try.func88, Try.ntmps88
  go_wp2_with (first
    | (at_make
       refine wpList_make_own _ rfl _ _ _ rfl w.heap.size 5 i0 (.int .u8 0) 1 Try.underlying36 Hi.out Hz.out Hz1.out .i64 .i64 _ (L + n) rfl rfl (by simp) (by rw [Hz2.out]; omega) (by simp only [maxLen]; omega) (Nat.le_refl _) ?_
       intro w1 hown hg)
    | (at_builtin
       refine wpList_append_ap _ rfl _ _ 36 rfl w.heap.size 5 i0 (.int .u8 0) 1 Try.underlying36 Hi.out Hz.out Hz1.out Hz2.out rfl _ _ [] (l.map bv) rfl rfl (.inl hown) ((show Rd w _ (l.map bv) from H.out).keep ((Below.refl _ _).grown hg (Nat.le_refl _) (by simp))) one_bv (by simp; omega) (by simp [maxLen]; omega) hg.size ?_
       intro v2 w2 hap hb2))
  go_ret
  exact ⟨v2, rfl, hap, ((Below.refl _ _).grown hg (Nat.le_refl _) (by simp)).trans hb2⟩


/-- The byte at place i (from the lowest on) of v. -/
def byteAt (v : Int) (i : Nat) : UInt8 := UInt8.ofNat (v / 2 ^ (8 * i) % 256).toNat
/-- v's bytes at the places i-1, .., 0. -/
def bes (v : Int) : Nat → List UInt8
  | 0 => []
  | i + 1 => byteAt v i :: bes v i

theorem byteAt_val (v : Int) (i : Nat) : bv (byteAt v i) = .int .u8 (v / 2 ^ (8 * i) % 256) := by
  have h0 : 0 ≤ v / 2 ^ (8 * i) % 256 := Int.emod_nonneg _ (by omega)
  have h1 : v / 2 ^ (8 * i) % 256 < 256 := Int.emod_lt_of_pos _ (by omega)
  unfold bv byteAt
  congr 1
  rw [UInt8.toNat_ofNat']
  omega

theorem byte_snoc {w : World} {B : Nat} {x : Value} {l : List UInt8} {v : Int} {i : Nat} (h : Ap w B 5 x (l.map bv ++ #[Value.int .u8 (v / 2 ^ (8 * i) % 256)].toList)) : ApB w B x (l ++ [byteAt v i]) := by
  unfold ApB
  rw [List.map_append, List.map_cons, List.map_nil, byteAt_val]
  exact h

set_option maxHeartbeats 400000 in
theorem putBig_any (B : Nat) (bV : Value) (l : List UInt8) (v : Int) (n : Nat) (w : World) (hb : ApB w B bV l) (hB : B ≤ w.heap.size) (hn : n ≤ 8) (hl : l.length ≤ 1000000) (hv0 : 0 ≤ v) (hv1 : v < 18446744073709551616) :
    Calls Try.prog 87 #[bV, .int .u64 v, .int .i64 n] w fun e w' => ∃ v', e = .returned v' ∧ ApB w' B v' (l ++ bes v n) ∧ Below B w w' := by
  obtain ⟨i0, hi, hz, hz1, hz2⟩ := info_parts infoU8n
  have Hi := Lib.hid hi
  have Hz := Lib.hid hz
  have Hz1 := Lib.hid hz1
  have Hz2 := Lib.hid hz2
  clear hi hz hz1 hz2
  go_enter Try.func87, Try.ntmps87
  go_wp2
  go_loopw [0, 7] (fun b i wr => ∃ (k : Nat) (l1 : List UInt8), i = .int .i64 ((k : Int) - 1) ∧ k ≤ n ∧ l1.length + k ≤ l.length + n ∧ l1 ++ bes v k = l ++ bes v n ∧ ApB wr B b l1 ∧ Below B w wr) (fun _ i _ => (intOf i + 1).toNat)
  case atStart => exact ⟨n, l, rfl, Nat.le_refl _, Nat.le_refl _, rfl, hb, Below.refl _ _⟩
  case round =>
    obtain ⟨k, l1, rfl, hk, hlen, he, hap, hbw⟩ := hrel
    have He := Lib.hid he
    clear he
    rcases Nat.eq_zero_or_pos k with h0 | h0
    · subst h0
      go_wp2
      go_ret
      refine ⟨_, rfl, ?_, hbw⟩
      have := He.out
      simp only [bes, List.append_nil] at this
      rw [← this]; exact hap
    · obtain ⟨j, rfl⟩ : ∃ j, k = j + 1 := ⟨k - 1, by omega⟩
      rw [show (((j + 1 : Nat) : Int) - 1) = (j : Int) from by omega]
      go_wp2_with (first
        | (at_builtin
           refine wpList_append_ap _ rfl _ _ 36 rfl B 5 i0 (.int .u8 0) 1 Try.underlying36 Hi.out Hz.out Hz1.out Hz2.out rfl _ _ (l1.map bv) _ rfl rfl (hap.alloc _) (Rd.lit wr 5 _ 1 rfl (by simp [maxLen])) (by simp [Value.oneCell']) (by simp; omega) (by simp [maxLen]; omega) (by have := hbw.size; simp; omega) ?_
           intro v2 w2 hap2 hb2))
      have hap3 := byte_snoc hap2
      clear hap2
      go_roundw
      case rel =>
        refine ⟨j, l1 ++ [byteAt v j], rfl, by omega, by simp; omega, ?_, hap3, hbw.trans (((Below.refl _ _).alloc (by have := hbw.size; omega) _).trans hb2)⟩
        rw [List.append_assoc]; exact He.out
      case measure => simp [intOf]

theorem putBig_int (B : Nat) (bV : Value) (l : List UInt8) (v n : Int) (w : World) (hb : ApB w B bV l) (hB : B ≤ w.heap.size) (hn0 : 0 ≤ n) (hn : n ≤ 8) (hl : l.length ≤ 1000000) (hv0 : 0 ≤ v) (hv1 : v < 18446744073709551616) :
    Calls Try.prog 87 #[bV, .int .u64 v, .int .i64 n] w fun e w' => ∃ v', e = .returned v' ∧ ApB w' B v' (l ++ bes v n.toNat) ∧ Below B w w' := by
  obtain ⟨k, rfl⟩ := Int.eq_ofNat_of_zero_le hn0
  rw [Int.toNat_natCast]
  exact putBig_any B bV l v k w hb hB (by omega) hl hv0 hv1

theorem grown_int (v : Value) (l : List UInt8) (n : Int) (w : World) (hv : Bs w v l) (hn0 : 0 ≤ n) (hn : n ≤ 1000000) (hl : l.length ≤ 1000000) :
    Calls Try.prog 88 #[v, .int .i64 n] w fun e w' => ∃ v', e = .returned v' ∧ ApB w' w.heap.size v' l ∧ Below w.heap.size w w' := by
  obtain ⟨k, rfl⟩ := Int.eq_ofNat_of_zero_le hn0
  exact grown_any v l k w hv (by omega) hl

set_option maxHeartbeats 400000 in
theorem big_any (bV : Value) (l : List UInt8) (v n : Int) (w : World) (hb : Bs w bV l) (hl : l.length ≤ 1000000) (hv0 : 0 ≤ v) (hv1 : v < 18446744073709551616) :
    Calls Try.prog 62 #[bV, .int .u64 v, .int .i64 n] w fun e w' => ∃ v', e = .returned v' ∧ ApB w' w.heap.size v' (l ++ bes v (min (max n 0) 8).toNat) ∧ Below w.heap.size w w' := by
  go_enter Try.func62, Try.ntmps62
  go_wp2_with (first
    | (go_at_call 86; refine (clamp_any _ _ _ _).mono ?_; rintro e w' ⟨rfl, rfl⟩)
    | (go_at_call 88; refine (grown_int bV l _ _ hb (by omega) (by omega) hl).mono ?_; rintro e w1 ⟨v1, rfl, h1, b1⟩)
    | (go_at_call 87; refine (putBig_int w.heap.size v1 l v _ _ h1 b1.size (by omega) (by omega) hl hv0 hv1).mono ?_; rintro e w2 ⟨v2, rfl, h2, b2⟩))
  go_ret
  exact ⟨v2, rfl, h2, b1.trans b2⟩

set_option maxHeartbeats 400000 in
theorem refBig_any (B : Nat) (bV : Value) (l : List UInt8) (v n : Int) (w : World) (hb : ApB w B bV l) (hB : B ≤ w.heap.size) (hl : l.length ≤ 1000000) (hv0 : 0 ≤ v) (hv1 : v < 18446744073709551616) :
    Calls Try.prog 54 #[bV, .int .u64 v, .int .i64 n] w fun e w' => ∃ v', e = .returned v' ∧ ApB w' B v' (l ++ bes v (min (max n 0) 8).toNat) ∧ Below B w w' := by
  obtain ⟨m, hm⟩ := Int.eq_ofNat_of_zero_le (show 0 ≤ min (max n 0) 8 by omega)
  have hm8 : m ≤ 8 := by omega
  obtain ⟨i0, hi, hz, hz1, hz2⟩ := info_parts infoU8n
  have Hi := Lib.hid hi
  have Hz := Lib.hid hz
  have Hz1 := Lib.hid hz1
  have Hz2 := Lib.hid hz2
  clear hi hz hz1 hz2
  rw [hm, Int.toNat_natCast]
  go_enter Try.func54, Try.ntmps54
  go_wp2
  go_loopw [0, 7] (fun b i wr => ∃ (k : Nat) (l1 : List UInt8), i = .int .i64 ((k : Int) - 1) ∧ k ≤ m ∧ l1.length + k ≤ l.length + m ∧ l1 ++ bes v k = l ++ bes v m ∧ ApB wr B b l1 ∧ Below B w wr) (fun _ i _ => (intOf i + 1).toNat)
  case atStart => exact ⟨m, l, rfl, Nat.le_refl _, Nat.le_refl _, rfl, hb, Below.refl _ _⟩
  case round =>
    obtain ⟨k, l1, rfl, hk, hlen, he, hap, hbw⟩ := hrel
    have He := Lib.hid he
    clear he hm
    rcases Nat.eq_zero_or_pos k with h0 | h0
    · subst h0
      go_wp2
      go_ret
      refine ⟨_, rfl, ?_, hbw⟩
      have := He.out
      simp only [bes, List.append_nil] at this
      rw [← this]; exact hap
    · obtain ⟨j, rfl⟩ : ∃ j, k = j + 1 := ⟨k - 1, by omega⟩
      rw [show (((j + 1 : Nat) : Int) - 1) = (j : Int) from by omega]
      go_wp2_with (first
        | (at_builtin
           refine wpList_append_ap _ rfl _ _ 36 rfl B 5 i0 (.int .u8 0) 1 Try.underlying36 Hi.out Hz.out Hz1.out Hz2.out rfl _ _ (l1.map bv) _ rfl rfl (hap.alloc _) (Rd.lit wr 5 _ 1 rfl (by simp [maxLen])) (by simp [Value.oneCell']) (by simp; omega) (by simp [maxLen]; omega) (by have := hbw.size; simp; omega) ?_
           intro v2 w2 hap2 hb2))
      have hap3 := byte_snoc hap2
      clear hap2
      go_roundw
      case rel =>
        refine ⟨j, l1 ++ [byteAt v j], rfl, by omega, by simp; omega, ?_, hap3, hbw.trans (((Below.refl _ _).alloc (by have := hbw.size; omega) _).trans hb2)⟩
        rw [List.append_assoc]; exact He.out
      case measure => simp [intOf]

end Go.Proofs.Ytcakppdabolfiaa
