/-
  Texts put together: DnK, DnL, OwP, HfA, QtE, OwQ, QpO, OwF, StB, StJ, StF, FdQ, FdL2, DnOpenF, FfO.
-/
import Derived.Test.YteopmaaghhendaaM05
import Derived.Test.YteopmaaghhendaaM06
import Derived.BigQuiet
import Derived.Test.YteopmaaghhendaaM01
import Derived.Shelf.Spec.SlicesGrow
import Derived.Handy
import Derived.Maps.AppendAt
import Derived.BigRegion
import Derived.IntWalk
import Derived.RegionTactic
import Derived.Deep.Slices
import Derived.SizedLaws
import Derived.Test.YteopmaaghhendaaM08

/-
  Contract of the statements' alike.
-/
namespace Go.Proofs.Yteopmaaghhendaa
open Go.RowKit Go.Maps
set_option linter.unusedVariables false

end Go.Proofs.Yteopmaaghhendaa

/-
  A table alone, and the contract of the statements' known.
-/
namespace Go.Proofs.Yteopmaaghhendaa
open Go.RowKit Go.Maps
set_option linter.unusedVariables false

section
variable {B p q : Nat} {T T' U : Tab} {w w' : World}
end

/-- What came in: no string longer than any machine holds. -/
def Small (l : List Fd) : Prop := ∀ f ∈ l, f.1.size ≤ 140737488351232 ∧ f.2.size ≤ 140737488351232

end Go.Proofs.Yteopmaaghhendaa

/-
  Contract of the document's Prefix, over a row of bytes of its own.
-/
namespace Go.Proofs.Yteopmaaghhendaa
open Go.RowKit
set_option linter.unusedVariables false

/-- The loop's relation: what is still to write. -/
def PrefRelO (G : List UInt8) (bl : List UInt8) (B : Nat) (w : World) (ov xv : Value) (wr : World) : Prop :=
  ∃ (m x : Nat) (l1 : List UInt8), xv = .int .u64 x ∧ x < 18446744073709551616 ∧ x < 128 ^ (m + 1) ∧ m ≤ 9 ∧ l1 ++ cont (m + 1) x = G ∧ l1.length + m ≤ bl.length + 10 ∧ OwB wr B ov l1 ∧ Below B w wr

end Go.Proofs.Yteopmaaghhendaa

/-
  Contracts of num.grown, num.Prefix, henc.number: what they hand back is a row of its own.
-/
namespace Go.Proofs.Yteopmaaghhendaa
open Go.RowKit
set_option linter.unusedVariables false

set_option maxHeartbeats 400000 in
theorem grown_own (v : Value) (l : List UInt8) (n : Nat) (w : World) (hv : Bs w v l) (hn : n ≤ 1000000) (hl : l.length ≤ 1000000) :
    Calls Try.prog 76 #[v, .int .i64 n] w fun e w' => ∃ v', e = .returned v' ∧ OwB w' w.heap.size v' l ∧ Below w.heap.size w w' := by
  obtain ⟨i0, hi, hz, hz1, hz2⟩ := info_parts infoU8n
  obtain ⟨A, L, c, rfl, hL, h1, h2, h3, h4⟩ := hv.open_
  have H := Lib.hid hv
  clear hv
  have Hi := Lib.hid hi
  have Hz := Lib.hid hz
  have Hz1 := Lib.hid hz1
  have Hz2 := Lib.hid hz2
  clear hi hz hz1 hz2
  go_enter Try.func76, Try.ntmps76
  go_wp2_with (first
    | (at_make
       refine wpList_make_own _ rfl _ _ _ rfl w.heap.size 5 i0 (.int .u8 0) 1 Try.underlying23 Hi.out Hz.out Hz1.out .i64 .i64 _ (L + n) rfl rfl (by simp) (by rw [Hz2.out]; omega) (by simp only [maxLen]; omega) (Nat.le_refl _) ?_
       intro w1 hown hg)
    | (at_builtin
       refine wpList_append_og _ rfl _ _ 23 rfl w.heap.size 5 i0 (.int .u8 0) 1 Try.underlying23 Hi.out Hz.out Hz1.out Hz2.out rfl _ _ [] (l.map bv) rfl rfl hown ((show Rd w _ (l.map bv) from H.out).keep ((Below.refl _ _).grown hg (Nat.le_refl _) (by simp))) one_bv (by simp; omega) (by simp [maxLen]; omega) hg.size ?_
       intro v2 w2 hap hb2 _))
  go_ret
  exact ⟨v2, rfl, hap, ((Below.refl _ _).grown hg (Nat.le_refl _) (by simp)).trans hb2⟩


theorem grownO_int (v : Value) (l : List UInt8) (n : Int) (w : World) (hv : Bs w v l) (hn0 : 0 ≤ n) (hn : n ≤ 1000000) (hl : l.length ≤ 1000000) :
    Calls Try.prog 76 #[v, .int .i64 n] w fun e w' => ∃ v', e = .returned v' ∧ OwB w' w.heap.size v' l ∧ Below w.heap.size w w' := by
  have h := grown_own v l n.toNat w hv (by omega) hl
  rwa [Int.toNat_of_nonneg hn0] at h

set_option maxRecDepth 100000 in
set_option maxHeartbeats 1000000 in
theorem prefix_own (bV : Value) (bl : List UInt8) (f : UInt8) (n : Int) (v : Nat) (w : World) (hb : Bs w bV bl) (hbl : bl.length ≤ 200000) (hv : v < 18446744073709551616) :
    Calls Try.prog 56 #[bV, .int .u8 f.toNat, .int .i64 n, .int .u64 v] w fun e w' => ∃ v', e = .returned v' ∧ OwB w' w.heap.size v' (bl ++ pre f (bitsOf n) v) ∧ Below w.heap.size w w' := by
  obtain ⟨i0, hi, hz, hz1, hz2⟩ := info_parts infoU8n
  have Hi := Lib.hid hi
  have Hz := Lib.hid hz
  have Hz1 := Lib.hid hz1
  have Hz2 := Lib.hid hz2
  clear hi hz hz1 hz2
  have Hb := Lib.hid hb
  obtain ⟨hk1, hk8, hkn⟩ := bitsOf_range n
  generalize bitsOf n = k at hk1 hk8 hkn ⊢
  have hM := full_range hk1 hk8
  have hfull : full (min (max n 1) 8) = ((2 ^ k - 1 : Nat) : Int) := by rw [hkn, full_nat]
  have ha := hi_andNot f hk1 hk8
  have hlt := hi_lt f hk1 hk8
  have Hor := Lib.hid (hi_or f hk1 hk8)
  have Hpf := Lib.hid (preFirst_val f hk1 hk8 v)
  have Hpre : Hid (pre f k v = if v < 2 ^ k - 1 then [preFirst f k v] else preFirst f k v :: cont 10 (v - (2 ^ k - 1))) := rfl
  clear hb
  
  
  generalize pre f k v = PL at Hpre ⊢
  generalize preFirst f k v = pf at Hpf Hpre
  generalize hiOf f k = hi at ha hlt Hor Hpf
  generalize 2 ^ k - 1 = M at hM ha hlt Hor Hpf Hpre hfull
  have Hfull := Lib.hid hfull
  clear hfull
  obtain ⟨hM1, hM2⟩ := hM
  
  have horM := Hor.out M (by omega)
  by_cases hvM : v < M
  · have hw8v : IntKind.u8.wrap (v : Int) = (v : Int) := by rw [IntKind.wrap_u8]; omega
    have horv := Hor.out v (by omega)
    have Hf := Hpf.out
    have Hp := Hpre.out
    rw [if_pos hvM] at Hp
    rw [show min v M = v from by omega] at Hf
    subst Hp
    have Hf2 := Lib.hid Hf
    clear Hpf Hpre Hf
    go_enter Try.func56, Try.ntmps56
    go_wp2_with (first
        | (go_at_call 75; refine (fullPrefix_any _ _).mono ?_; rintro e w' ⟨rfl, rfl⟩; rw [Hfull.out])
        | (go_at_call 76; refine (grownO_int bV bl _ _ Hb.out (by omega) (by omega) (by omega)).mono ?_; rintro e w1 ⟨v1, rfl, hap, hb1⟩)
        | (at_builtin
           refine wpList_append_og _ rfl _ _ 23 rfl w.heap.size 5 i0 (.int .u8 0) 1 Try.underlying23 Hi.out Hz.out Hz1.out Hz2.out rfl _ _ (bl.map bv) _ rfl rfl (hap.alloc _) (Rd.lit w1 5 _ 1 rfl (by simp [maxLen])) (by simp [Value.oneCell']) (by simp; omega) (by simp [maxLen]; omega) (by have := hb1.size; simp; omega) ?_
           intro v2 w2 hap2 hb2 _))
    go_ret
    refine ⟨v2, rfl, ?_, hb1.trans (((Below.refl _ _).alloc hb1.size _).trans hb2)⟩
    exact OwB.snoc hap2 pf Hf2.out.symm
  · have Hf := Hpf.out
    have Hp := Hpre.out
    rw [if_neg hvM] at Hp
    rw [show min v M = M from by omega] at Hf
    have Hp2 := Lib.hid Hp
    have Hf2 := Lib.hid Hf
    clear Hpf Hpre Hf Hp
    have hsub : IntKind.u64.wrap ((v : Int) - (M : Int)) = ((v - M : Nat) : Int) := by rw [IntKind.wrap_u64]; omega
    go_enter Try.func56, Try.ntmps56
    go_wp2_with (first
        | (go_at_call 75; refine (fullPrefix_any _ _).mono ?_; rintro e w' ⟨rfl, rfl⟩; rw [Hfull.out])
        | (go_at_call 76; refine (grownO_int bV bl _ _ Hb.out (by omega) (by omega) (by omega)).mono ?_; rintro e w1 ⟨v1, rfl, hap, hb1⟩)
        | (at_builtin
           refine wpList_append_og _ rfl _ _ 23 rfl w.heap.size 5 i0 (.int .u8 0) 1 Try.underlying23 Hi.out Hz.out Hz1.out Hz2.out rfl _ _ (bl.map bv) _ rfl rfl (hap.alloc _) (Rd.lit w1 5 _ 1 rfl (by simp [maxLen])) (by simp [Value.oneCell']) (by simp; omega) (by simp [maxLen]; omega) (by have := hb1.size; simp; omega) ?_
           intro v2 w2 hap2 hb2 _))
    have hap3 := OwB.snoc hap2 pf Hf2.out.symm
    have hb3 : Below w.heap.size w w2 := hb1.trans (((Below.refl _ _).alloc hb1.size _).trans hb2)
    clear hap2 hb2
    have hlen3 : (bl ++ [pf]).length = bl.length + 1 := by simp
    have Hgoal : Hid ((bl ++ [pf]) ++ cont 10 (v - M) = bl ++ PL) := by rw [Hp2.out]; simp [Hid]
    have hl1 : (bl ++ [pf]).length ≤ bl.length + 1 := by omega
    clear hlen3
    generalize bl ++ [pf] = l0 at hap3 Hgoal hl1
    have hq : v - M < 128 ^ (9 + 1) := by have : (18446744073709551616 : Nat) ≤ 128 ^ (9 + 1) := by decide
                                          omega
    clear ha horM Hor hsub hvM Hf2 Hfull Hp2
    have hq64 : v - M < 18446744073709551616 := by omega
    generalize v - M = q at hq hq64 Hgoal ⊢
    have Hgoal2 := Lib.hid Hgoal.out
    clear Hgoal
    go_wp2
    go_loopw [3, 11] (fun xv ov wr => PrefRelO (bl ++ PL) bl w.heap.size w ov xv wr) (fun xv _ _ => (intOf xv).toNat)
    case atStart => exact ⟨9, q, l0, rfl, hq64, hq, by omega, Hgoal2.out, by omega, hap3, hb3⟩
    case round =>
      obtain ⟨m, x, l1, rfl, hxq, hxm, hm9, hG, hl, hap4, hb4⟩ := hrel
      have HG := Lib.hid hG
      clear hG hap3 hb3
      have hxi : (x : Int) < 18446744073709551616 := by omega
      have Hxq := Lib.hid hxq
      have Hxm := Lib.hid hxm
      have Hr0 : Hid (¬ x < 128 → ∃ q, m = q + 1 ∧ x / 128 < 128 ^ (q + 1)) := fun h => pow128 x m hxm (by omega)
      clear hxq hxm hv hq hq64 hxi
      have hsz := hb4.size
      by_cases hx : x < 128
      · have hx' : (x : Int) < 256 := by omega
        go_wp2_with (first
          | (at_builtin
             refine wpList_append_og _ rfl _ _ 23 rfl w.heap.size 5 i0 (.int .u8 0) 1 Try.underlying23 Hi.out Hz.out Hz1.out Hz2.out rfl _ _ (l1.map bv) _ rfl rfl (hap4.alloc _) (Rd.lit wr 5 _ 1 rfl (by simp [maxLen])) (by simp [Value.oneCell']) (by simp; omega) (by simp [maxLen]; omega) (by have := hb4.size; simp; omega) ?_
             intro v2 w2 hap2 hb2 _))
        go_ret
        have hap5 := OwB.snoc hap2 (UInt8.ofNat x) (by rw [UInt8.toNat_ofNat', Nat.mod_eq_of_lt (by have : (2:Nat) ^ 8 = 256 := rfl; omega)])
        refine ⟨_, rfl, ?_, hb4.trans (((Below.refl _ _).alloc (by have := hb4.size; omega) _).trans hb2)⟩
        rw [← HG.out, cont_last _ _ hx]
        exact hap5
      · obtain ⟨r, rfl, hr⟩ := Hr0.out hx
        have Hr := Lib.hid hr
        clear hr
        have ho := or128 x
        have hand := u64_mask x 7 127 (by rfl) (by omega) Hxq.out
        have ho2 : bits .or .u8 ((x : Int) % 128) 128 = ((x % 128 + 128 : Nat) : Int) := by have h := or128 (x % 128); rw [show (((x % 128 : Nat) : Int) % 256) = (x : Int) % 128 from by omega] at h; rw [h]; omega
        go_wp2_with (first
          | (at_builtin
             refine wpList_append_og _ rfl _ _ 23 rfl w.heap.size 5 i0 (.int .u8 0) 1 Try.underlying23 Hi.out Hz.out Hz1.out Hz2.out rfl _ _ (l1.map bv) _ rfl rfl (hap4.alloc _) (Rd.lit wr 5 _ 1 rfl (by simp [maxLen])) (by simp [Value.oneCell']) (by simp; omega) (by simp [maxLen]; omega) (by have := hb4.size; simp; omega) ?_
             intro v2 w2 hap2 hb2 _))
        have hap5 := OwB.snoc hap2 (UInt8.ofNat (x % 128 + 128)) (by rw [UInt8.toNat_ofNat', Nat.mod_eq_of_lt (by have : (2:Nat) ^ 8 = 256 := rfl; omega)]; omega)
        clear hap2
        go_roundw
        case rel =>
          refine ⟨r, x / 128, l1 ++ [UInt8.ofNat (x % 128 + 128)], by go_num, by have := Hxq.out; omega, Hr.out, by omega, ?_, by simp; omega, hap5, hb4.trans (((Below.refl _ _).alloc (by have := hb4.size; omega) _).trans hb2)⟩
          rw [← HG.out, cont_more (r + 1) x (by omega), List.append_assoc]
          rfl
        case measure => simp [intOf]; omega

end Go.Proofs.Yteopmaaghhendaa

/-
  Contract of qtab.Prefix; of the document's Prefix.
-/
namespace Go.Proofs.Yteopmaaghhendaa
open Go.RowKit
set_option linter.unusedVariables false

/-- A section's prefix, of a count and a base, of m entries at most. -/
def qpre (c b m : Nat) : List UInt8 := pre 0 8 (ecN c m) ++ (if c ≤ b then pre 0 7 (b - c) else pre 128 7 (c - b - 1))

theorem ecN_lt {c m : Nat} (hm : m < 288230376151711744) : ecN c m < 18446744073709551616 := by
  unfold ecN
  split
  · omega
  · have := Nat.mod_lt c (show 0 < 2 * m by omega)
    omega

theorem pre_len11 (f : UInt8) (k v : Nat) : (pre f k v).length ≤ 11 := by
  unfold pre
  split
  · simp
  · have := cont_length 10 (v - (2 ^ k - 1))
    simp; omega

end Go.Proofs.Yteopmaaghhendaa

/-
  Contract of the document's Prefix, over a row of bytes of its own.
-/
namespace Go.Proofs.Yteopmaaghhendaa
open Go.RowKit
set_option linter.unusedVariables false

/-- The loop's relation: what is still to write. -/
def PrefRelN (G : List UInt8) (bl : List UInt8) (B : Nat) (w : World) (ov xv : Value) (wr : World) : Prop :=
  ∃ (m x : Nat) (l1 : List UInt8), xv = .int .u64 x ∧ x < 18446744073709551616 ∧ x < 128 ^ (m + 1) ∧ m ≤ 9 ∧ l1 ++ cont (m + 1) x = G ∧ l1.length + m ≤ bl.length + 10 ∧ OwB wr B ov l1 ∧ Below B w wr ∧ NonB w wr

set_option maxRecDepth 100000 in
set_option maxHeartbeats 1000000 in
theorem refPrefix_non (B : Nat) (bV : Value) (bl : List UInt8) (f : UInt8) (n : Int) (v : Nat) (w : World) (hb : OwB w B bV bl) (hB : B ≤ w.heap.size) (hbl : bl.length ≤ 200000) (hv : v < 18446744073709551616) :
    Calls Try.prog 23 #[bV, .int .u8 f.toNat, .int .i64 n, .int .u64 v] w fun e w' => ∃ v', e = .returned v' ∧ OwB w' B v' (bl ++ pre f (bitsOf n) v) ∧ Below B w w' ∧ NonB w w' := by
  obtain ⟨i0, hi, hz, hz1, hz2⟩ := info_parts infoU8n
  have Hi := Lib.hid hi
  have Hz := Lib.hid hz
  have Hz1 := Lib.hid hz1
  have Hz2 := Lib.hid hz2
  clear hi hz hz1 hz2
  
  obtain ⟨hk1, hk8, hkn⟩ := bitsOf_range n
  generalize bitsOf n = k at hk1 hk8 hkn ⊢
  have hM := full_range hk1 hk8
  have hfull : full (min (max n 1) 8) = ((2 ^ k - 1 : Nat) : Int) := by rw [hkn, full_nat]
  have ha := hi_andNot f hk1 hk8
  have hlt := hi_lt f hk1 hk8
  have Hor := Lib.hid (hi_or f hk1 hk8)
  have Hpf := Lib.hid (preFirst_val f hk1 hk8 v)
  have Hpre : Hid (pre f k v = if v < 2 ^ k - 1 then [preFirst f k v] else preFirst f k v :: cont 10 (v - (2 ^ k - 1))) := rfl
  
  have hfw := full_wrap (k : Int) (by omega) (by omega)
  rw [full_nat, Int.toNat_natCast] at hfw
  generalize pre f k v = PL at Hpre ⊢
  generalize preFirst f k v = pf at Hpf Hpre
  generalize hiOf f k = hi at ha hlt Hor Hpf
  generalize 2 ^ k - 1 = M at hM ha hlt Hor Hpf Hpre hfull hfw
  have Hfull := Lib.hid hfull
  clear hfull
  obtain ⟨hM1, hM2⟩ := hM
  
  have horM := Hor.out M (by omega)
  by_cases hvM : v < M
  · have hw8v : IntKind.u8.wrap (v : Int) = (v : Int) := by rw [IntKind.wrap_u8]; omega
    have horv := Hor.out v (by omega)
    have Hf := Hpf.out
    have Hp := Hpre.out
    rw [if_pos hvM] at Hp
    rw [show min v M = v from by omega] at Hf
    subst Hp
    have Hf2 := Lib.hid Hf
    clear Hpf Hpre Hf
    go_enter Try.func23, Try.ntmps23
    go_wp2_with (first
        | (at_builtin
           refine wpList_append_og _ rfl _ _ 23 rfl B 5 i0 (.int .u8 0) 1 Try.underlying23 Hi.out Hz.out Hz1.out Hz2.out rfl _ _ (bl.map bv) _ rfl rfl (hb.alloc _) (Rd.lit w 5 _ 1 rfl (by simp [maxLen])) (by simp [Value.oneCell']) (by simp; omega) (by simp [maxLen]; omega) (by have := hB; simp; omega) ?_
           intro v2 w2 hap2 hb2 hg2))
    go_ret
    refine ⟨v2, rfl, ?_, (Below.refl B w).trans (((Below.refl _ _).alloc hB _).trans hb2), (NonB.alloc w _).trans (OwB.nonB (hb.alloc _) hg2)⟩
    exact OwB.snoc hap2 pf Hf2.out.symm
  · have Hf := Hpf.out
    have Hp := Hpre.out
    rw [if_neg hvM] at Hp
    rw [show min v M = M from by omega] at Hf
    have Hp2 := Lib.hid Hp
    have Hf2 := Lib.hid Hf
    clear Hpf Hpre Hf Hp
    have hsub : IntKind.u64.wrap ((v : Int) - (M : Int)) = ((v - M : Nat) : Int) := by rw [IntKind.wrap_u64]; omega
    go_enter Try.func23, Try.ntmps23
    go_wp2_with (first
        | (at_builtin
           refine wpList_append_og _ rfl _ _ 23 rfl B 5 i0 (.int .u8 0) 1 Try.underlying23 Hi.out Hz.out Hz1.out Hz2.out rfl _ _ (bl.map bv) _ rfl rfl (hb.alloc _) (Rd.lit w 5 _ 1 rfl (by simp [maxLen])) (by simp [Value.oneCell']) (by simp; omega) (by simp [maxLen]; omega) (by have := hB; simp; omega) ?_
           intro v2 w2 hap2 hb2 hg2))
    have hap3 := OwB.snoc hap2 pf Hf2.out.symm
    have hb3 : Below B w w2 := (Below.refl B w).trans (((Below.refl _ _).alloc hB _).trans hb2)
    have hn3 : NonB w w2 := (NonB.alloc w _).trans (OwB.nonB (hb.alloc _) hg2)
    clear hap2 hb2 hg2
    have hlen3 : (bl ++ [pf]).length = bl.length + 1 := by simp
    have Hgoal : Hid ((bl ++ [pf]) ++ cont 10 (v - M) = bl ++ PL) := by rw [Hp2.out]; simp [Hid]
    have hl1 : (bl ++ [pf]).length ≤ bl.length + 1 := by omega
    clear hlen3
    generalize bl ++ [pf] = l0 at hap3 Hgoal hl1
    have hq : v - M < 128 ^ (9 + 1) := by have : (18446744073709551616 : Nat) ≤ 128 ^ (9 + 1) := by decide
                                          omega
    clear ha horM Hor hsub hvM Hf2 Hfull Hp2
    have hq64 : v - M < 18446744073709551616 := by omega
    generalize v - M = q at hq hq64 Hgoal ⊢
    have Hgoal2 := Lib.hid Hgoal.out
    clear Hgoal
    go_wp2
    go_loopw [0, 3] (fun ov xv wr => PrefRelN (bl ++ PL) bl B w ov xv wr) (fun _ xv _ => (intOf xv).toNat)
    case atStart => exact ⟨9, q, l0, rfl, hq64, hq, by omega, Hgoal2.out, by omega, hap3, hb3, hn3⟩
    case round =>
      obtain ⟨m, x, l1, rfl, hxq, hxm, hm9, hG, hl, hap4, hb4, hn4⟩ := hrel
      have HG := Lib.hid hG
      clear hG hap3 hb3 hn3
      have hxi : (x : Int) < 18446744073709551616 := by omega
      have Hxq := Lib.hid hxq
      have Hxm := Lib.hid hxm
      have Hr0 : Hid (¬ x < 128 → ∃ q, m = q + 1 ∧ x / 128 < 128 ^ (q + 1)) := fun h => pow128 x m hxm (by omega)
      clear hxq hxm hv hq hq64 hxi
      have hsz := hb4.size
      by_cases hx : x < 128
      · have hx' : (x : Int) < 256 := by omega
        go_wp2_with (first
          | (at_builtin
             refine wpList_append_og _ rfl _ _ 23 rfl B 5 i0 (.int .u8 0) 1 Try.underlying23 Hi.out Hz.out Hz1.out Hz2.out rfl _ _ (l1.map bv) _ rfl rfl (hap4.alloc _) (Rd.lit wr 5 _ 1 rfl (by simp [maxLen])) (by simp [Value.oneCell']) (by simp; omega) (by simp [maxLen]; omega) (by have := hb4.size; simp; omega) ?_
             intro v2 w2 hap2 hb2 hg2))
        go_ret
        have hap5 := OwB.snoc hap2 (UInt8.ofNat x) (by rw [UInt8.toNat_ofNat', Nat.mod_eq_of_lt (by have : (2:Nat) ^ 8 = 256 := rfl; omega)])
        refine ⟨_, rfl, ?_, hb4.trans (((Below.refl _ _).alloc (by have := hb4.size; omega) _).trans hb2), hn4.trans ((NonB.alloc wr _).trans (OwB.nonB (hap4.alloc _) hg2))⟩
        rw [← HG.out, cont_last _ _ hx]
        exact hap5
      · obtain ⟨r, rfl, hr⟩ := Hr0.out hx
        have Hr := Lib.hid hr
        clear hr
        have ho := or128 x
        have hand := u64_mask x 7 127 (by rfl) (by omega) Hxq.out
        have ho2 : bits .or .u8 ((x : Int) % 128) 128 = ((x % 128 + 128 : Nat) : Int) := by have h := or128 (x % 128); rw [show (((x % 128 : Nat) : Int) % 256) = (x : Int) % 128 from by omega] at h; rw [h]; omega
        go_wp2_with (first
          | (at_builtin
             refine wpList_append_og _ rfl _ _ 23 rfl B 5 i0 (.int .u8 0) 1 Try.underlying23 Hi.out Hz.out Hz1.out Hz2.out rfl _ _ (l1.map bv) _ rfl rfl (hap4.alloc _) (Rd.lit wr 5 _ 1 rfl (by simp [maxLen])) (by simp [Value.oneCell']) (by simp; omega) (by simp [maxLen]; omega) (by have := hb4.size; simp; omega) ?_
             intro v2 w2 hap2 hb2 hg2))
        have hap5 := OwB.snoc hap2 (UInt8.ofNat (x % 128 + 128)) (by rw [UInt8.toNat_ofNat', Nat.mod_eq_of_lt (by have : (2:Nat) ^ 8 = 256 := rfl; omega)]; omega)
        clear hap2
        go_roundw
        case rel =>
          refine ⟨r, x / 128, l1 ++ [UInt8.ofNat (x % 128 + 128)], by go_num, by have := Hxq.out; omega, Hr.out, by omega, ?_, by simp; omega, hap5, hb4.trans (((Below.refl _ _).alloc (by have := hb4.size; omega) _).trans hb2), hn4.trans ((NonB.alloc wr _).trans (OwB.nonB (hap4.alloc _) hg2))⟩
          rw [← HG.out, cont_more (r + 1) x (by omega), List.append_assoc]
          rfl
        case measure => simp [intOf]; omega

end Go.Proofs.Yteopmaaghhendaa

/-
  Contracts of slices.Grow, slices.Concat, slices.Clone at bytes.
-/
namespace Go.Proofs.Yteopmaaghhendaa
open Go.RowKit
set_option linter.unusedVariables false

def grRen : Go.Shelf.Ren := ⟨fun | 4 => 50 | n => n, fun | 0 => 0 | 3 => 3 | 4 => 4 | 9 => 9 | 20 => 20 | 22 => 23 | 25 => 5 | n => n, fun n => n⟩
set_option maxRecDepth 100000 in
theorem grLay : Lays8.n4 Try.prog grRen where
  mixed := by kernel_rfl
  f4 := ⟨(Try.f50).name, by kernel_rfl, Try.func50.trans (congrArg some (by kernel_rfl))⟩
  t0 := Try.underlying0
  a0 := Try.isAgg0
  z0 := Try.sizeOf0
  v0 := Try.zeroValue0
  t3 := Try.underlying3
  a3 := Try.isAgg3
  z3 := Try.sizeOf3
  v3 := Try.zeroValue3
  t4 := Try.underlying4
  a4 := Try.isAgg4
  z4 := Try.sizeOf4
  v4 := Try.zeroValue4
  t9 := Try.underlying9
  a9 := Try.isAgg9
  z9 := Try.sizeOf9
  v9 := Try.zeroValue9
  t20 := Try.underlying20
  a20 := Try.isAgg20
  z20 := Try.sizeOf20
  v20 := Try.zeroValue20
  t22 := Try.underlying23
  a22 := Try.isAgg23
  z22 := Try.sizeOf23
  v22 := Try.zeroValue23

theorem grow_any (n : Nat) (w : World) (hn : n ≤ 1000000) :
    Calls Try.prog 50 #[.slice none 0 0, .int .i64 (n : Int)] w fun e w' => ∃ v', e = .returned v' ∧ OwB w' w.heap.size v' [] ∧ Below w.heap.size w w' := by
  by_cases h0 : n = 0
  · subst h0
    refine (Any8.slices_Grow_room grLay none 0 0 0 w (by omega) (by omega) (by omega) (by omega)).mono ?_
    rintro e w' ⟨rfl, rfl⟩
    exact ⟨_, rfl, OwB.nil _ _, Below.refl _ _⟩
  · obtain ⟨i0, hi, hz, hz1, hz2⟩ := info_parts infoU8
    refine (Any8.slices_Grow_grow grLay i0 (.int .u8 0) hi hz (by omega) none 0 0 n [] w (by omega) (by omega) (by rw [hz2]; omega) (by omega) (by simp) (fun _ => rfl) (fun a ha => by cases ha)).mono ?_
    rintro e w' ⟨rfl, rfl⟩
    have hG : 0 + n ≤ grownCap w (0 + n) 0 5 := grownCap_ge w _ _ _
    have hGm : grownCap w (0 + n) 0 5 ≤ maxLen := grownCap_le_maxLen w (0 + n) 0 5 (by unfold maxLen; omega)
    refine ⟨_, rfl, ⟨rfl, .inr ⟨w.heap.size, _, _, rfl, Nat.le_refl _, heap_alloc_last w.drew _, Nat.zero_le _, hGm, ?_, rfl⟩⟩, (Below.refl w.heap.size w).drew.alloc (Nat.le_refl w.heap.size) _⟩
    show (#[] ++ Builtin.zeroCells (Value.int .u8 0).cells (0 + n - 0) ++ Builtin.zeroCells (Value.int .u8 0).cells (grownCap w (0 + n) 0 5 - (0 + n))).size = _
    have hzc : ∀ k, (Builtin.zeroCells (Value.int .u8 0).cells k).size = k := fun k => by simp [Builtin.zeroCells, Value.cells]
    rw [Array.size_append, Array.size_append, hzc, hzc]
    show 0 + (0 + n - 0) + (grownCap w (0 + n) 0 5 - (0 + n)) = grownCap w (0 + n) 0 5 * 1
    omega

/-- Two slices of bytes side by side. -/
def Cc (W : World) (g : Nat) (v1 v2 : Value) : Prop := W.heap[g]? = some (.cells #[v1, v2] 23 (0, 0))
theorem Cc.lt {w : World} {g : Nat} {v1 v2 : Value} (h : Cc w g v1 v2) : g < w.heap.size := (Array.getElem?_eq_some_iff.1 h).1
theorem Cc.keep {w w' : World} {g : Nat} {v1 v2 : Value} (h : Cc w g v1 v2) (hb : Below w.heap.size w w') : Cc w' g v1 v2 := (hb.block g h.lt).trans h
theorem Cc.cells {w : World} {g : Nat} {v1 v2 : Value} (h : Cc w g v1 v2) : w.cell? ⟨g, 0, none⟩ = some v1 ∧ w.cell? ⟨g, 1, none⟩ = some v2 := by
  unfold Cc at h
  refine ⟨?_, ?_⟩ <;> simp [World.cell?, h]
set_option maxRecDepth 100000 in
set_option maxHeartbeats 2000000 in
theorem concat_any {w : World} {g : Nat} {v1 v2 : Value} {l1 l2 : List UInt8} (hc : Cc w g v1 v2) (h1 : Bs w v1 l1) (h2 : Bs w v2 l2) (hl1 : l1.length ≤ 300000) (hl2 : l2.length ≤ 300000) :
    Calls Try.prog 27 #[.slice (some ⟨g, 0, none⟩) 2 2] w fun e w' => ∃ v', e = .returned v' ∧ OwB w' w.heap.size v' (l1 ++ l2) ∧ Below w.heap.size w w' := by
  obtain ⟨A1, n1, cc1, rfl, hn1, _, _, _, _⟩ := h1.open_
  obtain ⟨A2, n2, cc2, rfl, hn2, _, _, _, _⟩ := h2.open_
  have e1 : n1 = l1.length := hn1.out
  have e2 : n2 = l2.length := hn2.out
  clear hn1 hn2
  obtain ⟨c0, c1⟩ := hc.cells
  have hw1 : wrap64 (n1 : Int) = (n1 : Int) := by unfold wrap64; omega
  have hw2 : wrap64 ((n1 : Int) + (n2 : Int)) = ((n1 + n2 : Nat) : Int) := by unfold wrap64; omega
  have hd1 : decide ((n1 : Int) < 0) = false := decide_eq_false (by omega)
  obtain ⟨n, hn⟩ : ∃ n, n1 + n2 = n := ⟨_, rfl⟩
  rw [hn] at hw2
  have hd2 : decide ((n : Int) < 0) = false := decide_eq_false (by omega)
  have HGR := Bx.mk (grow_any n w (by omega))
  have HC := Bx.mk hc
  have H1 := Bx.mk (fun (W : World) (hW : Below w.heap.size w W) => (Rd.keep h1 hW : Bs W _ l1))
  have H2 := Bx.mk (fun (W : World) (hW : Below w.heap.size w W) => (Rd.keep h2 hW : Bs W _ l2))
  have HL : Bx (l1.length ≤ 300000 ∧ l2.length ≤ 300000) := ⟨hl1, hl2⟩
  obtain ⟨i0, hi, hz, hz1, hz2⟩ := info_parts infoU8
  have HI : Bx (Try.prog.info? 5 = some i0 ∧ i0.zero = some (.int .u8 0) ∧ i0.size = 1 ∧ i0.bytes = 1) := ⟨hi, hz, hz1, hz2⟩
  clear hc h1 h2 hl1 hl2 e1 e2 hn hi hz hz1 hz2
  go_enter Try.func27, Try.ntmps27
  go_wp2_with fail
  go_loopg [3, 11] 2 (fun gk s3 s11 wx => ∃ k : Nat, k + gk = 2 ∧ s11 = .int .i64 k ∧ s3 = .int .i64 ((if k = 0 then 0 else if k = 1 then n1 else n : Nat) : Int) ∧ Bx (w = wx))
  case atStart => exact ⟨0, rfl, rfl, rfl, ⟨rfl⟩⟩
  case round =>
    obtain ⟨k, hkn, rfl, rfl, HW⟩ := hrel
    obtain rfl := HW.out
    match gk, hkn with
    | 2, hkn =>
      obtain rfl : k = 0 := by omega
      simp only [if_true]
      go_wp2_with fail
      go_roundg 1
      case measure => omega
      case rel => exact ⟨1, rfl, rfl, by simp, ⟨rfl⟩⟩
    | 1, hkn =>
      obtain rfl : k = 1 := by omega
      simp only [if_true, show ¬ (1 : Nat) = 0 from by omega, if_false]
      go_wp2_with fail
      go_roundg 0
      case measure => omega
      case rel => exact ⟨2, rfl, rfl, by simp, ⟨rfl⟩⟩
    | 0, hkn =>
      obtain rfl : k = 2 := by omega
      simp only [show ¬ (2 : Nat) = 1 from by omega, show ¬ (2 : Nat) = 0 from by omega, if_false]
      go_wp2_with (go_at_call 50; refine HGR.out.mono ?_; rintro e w1 ⟨v6, rfl, ho6, b6⟩; have HO6 := Bx.mk ho6; have HB6 := Bx.mk b6; clear ho6 b6)
      clear c0 c1 hw1 hw2 hd1 hd2
      go_loopg [6, 27] 2 (fun gk s6 s27 wx => ∃ k : Nat, k + gk = 2 ∧ s27 = .int .i64 k ∧ Bx (OwB wx w.heap.size s6 (if k = 0 then [] else if k = 1 then l1 else l1 ++ l2)) ∧ Bx (Below w.heap.size w wx))
      case atStart => exact ⟨0, rfl, rfl, HO6, HB6⟩
      case round =>
        obtain ⟨k, hkn, rfl, HO, HB⟩ := hrel
        obtain ⟨c0, c1⟩ := (HC.out.keep HB.out).cells
        match gk, hkn with
        | 2, hkn =>
          obtain rfl : k = 0 := by omega
          have HO1 : Bx (OwB wr w.heap.size u6 []) := HO
          go_wp2_with (at_builtin; refine wpList_append_og _ rfl _ _ 23 rfl w.heap.size 5 i0 (.int .u8 0) 1 Try.underlying23 HI.out.1 HI.out.2.1 HI.out.2.2.1 HI.out.2.2.2 rfl _ _ _ _ rfl rfl HO1.out (H1.out _ HB.out) one_bv (by have := HL.out; simp only [List.length_map, List.length_nil]; omega) (by have := HL.out; simp only [List.length_map, List.length_nil, maxLen]; omega) HB.out.size ?_; intro v3 w3 ho3 hb3 hg3; have HO3 := Bx.mk (OwB.cat ho3); have HB3 := Bx.mk (HB.out.trans hb3); clear ho3 hb3 hg3)
          go_roundg 1
          case measure => omega
          case rel => exact ⟨1, rfl, rfl, by simpa using HO3, HB3⟩
        | 1, hkn =>
          obtain rfl : k = 1 := by omega
          have HO1 : Bx (OwB wr w.heap.size u6 l1) := by simpa using HO
          go_wp2_with (at_builtin; refine wpList_append_og _ rfl _ _ 23 rfl w.heap.size 5 i0 (.int .u8 0) 1 Try.underlying23 HI.out.1 HI.out.2.1 HI.out.2.2.1 HI.out.2.2.2 rfl _ _ _ _ rfl rfl HO1.out (H2.out _ HB.out) one_bv (by have := HL.out; simp only [List.length_map]; omega) (by have := HL.out; simp only [List.length_map, maxLen]; omega) HB.out.size ?_; intro v3 w3 ho3 hb3 hg3; have HO3 := Bx.mk (OwB.cat ho3); have HB3 := Bx.mk (HB.out.trans hb3); clear ho3 hb3 hg3)
          go_roundg 0
          case measure => omega
          case rel => exact ⟨2, rfl, rfl, by simpa using HO3, HB3⟩
        | 0, hkn =>
          obtain rfl : k = 2 := by omega
          have HO1 : Bx (OwB wr w.heap.size u6 (l1 ++ l2)) := by simpa using HO
          go_wp2_with fail
          go_ret
          exact ⟨_, rfl, HO1.out, HB.out⟩

theorem eqNil (A : Option Addr) (n c : Nat) (w : World) : (binOp .eql 23 (.slice A n c) (.slice none 0 0)).run Try.prog w = .ok (.bool A.isNone) w := by
  have h := Lib.run_equalIn_slice_nil (P := Try.prog) w 9999 23 5 A n c 0 0 Try.underlying23
  simp [binOp, Op.equal, Op.maxDepth, h, Result.andThen]
set_option maxRecDepth 100000 in
set_option maxHeartbeats 2000000 in
theorem bclone_any {w : World} {v : Value} {l : List UInt8} (h : Bs w v l) (hl : l.length ≤ 600000) :
    Calls Try.prog 30 #[v] w fun e w' => ∃ v', e = .returned v' ∧ OwB w' w.heap.size v' l ∧ Below w.heap.size w w' := by
  have HB := Bx.mk h
  have HL := Bx.mk hl
  obtain ⟨A, n, c, rfl, hn, h1, h2, h3, h4⟩ := h.open_
  have hnl : n = l.length := hn.out
  have heq := fun W => eqNil A n c W
  obtain ⟨i0, hi, hz, hz1, hz2⟩ := info_parts infoU8
  have HI : Bx (Try.prog.info? 5 = some i0 ∧ i0.zero = some (.int .u8 0) ∧ i0.size = 1 ∧ i0.bytes = 1) := ⟨hi, hz, hz1, hz2⟩
  cases A with
  | none =>
    have hl0 : l = [] := by
      obtain ⟨A', c', e, r1, r2, r3⟩ := h
      injection e with e1 e2 e3
      subst e1
      rcases r3 with ⟨_, hc⟩ | ⟨x, hx, _⟩
      · have : (l.map bv).length = 0 := by omega
        rw [List.length_map] at this
        exact List.eq_nil_of_length_eq_zero this
      · cases hx
    subst hl0
    simp only [Option.isNone_none] at heq
    clear h h1 h2 h3 h4 hl hi hz hz1 hz2 hn hnl
    go_enter Try.func30, Try.ntmps30
    go_wp2_with fail
    go_ret
    exact ⟨_, rfl, OwB.nil _ _, Below.refl _ _⟩
  | some x =>
    simp only [Option.isNone_some] at heq
    have HO0 : Bx (OwB (w.alloc (.cells #[] 5)) w.heap.size (.slice (some ⟨w.heap.size, 0, none⟩) 0 0) []) := ⟨⟨rfl, .inr ⟨w.heap.size, 0, #[], rfl, Nat.le_refl _, heap_alloc_last w _, Nat.le_refl _, by unfold maxLen; omega, rfl, rfl⟩⟩⟩
    have HB0 := Bx.mk ((Below.refl w.heap.size w).alloc (Nat.le_refl _) (.cells #[] 5))
    have HB1 : Bx (Bs (w.alloc (.cells #[] 5)) (.slice (some x) n c) l) := ⟨Rd.keep HB.out HB0.out⟩
    clear h h1 h2 h3 h4 hl hi hz hz1 hz2 hn hnl
    go_enter Try.func30, Try.ntmps30
    go_wp2_with (at_builtin; refine wpList_append_og _ rfl _ _ 23 rfl w.heap.size 5 i0 (.int .u8 0) 1 Try.underlying23 HI.out.1 HI.out.2.1 HI.out.2.2.1 HI.out.2.2.2 rfl _ _ _ _ rfl rfl HO0.out HB1.out one_bv (by have := HL.out; simp only [List.length_map, List.length_nil]; omega) (by have := HL.out; simp only [List.length_map, List.length_nil, maxLen]; omega) HB0.out.size ?_; intro v3 w3 ho3 hb3 hg3; have HO3 := Bx.mk (OwB.cat ho3); have HB3 := Bx.mk (HB0.out.trans hb3); clear ho3 hb3 hg3)
    go_ret
    exact ⟨_, rfl, HO3.out, HB3.out⟩
end Go.Proofs.Yteopmaaghhendaa

/-
  Contract of the document's Prefix, over a row of bytes of its own: that row's block, and new ones, alone have turned.
-/
namespace Go.Proofs.Yteopmaaghhendaa
open Go.RowKit
set_option linter.unusedVariables false

/-- Of what stood the block of v alone has turned, and v' lies there, or in a new one. -/
def Fw (w : World) (v : Value) (w' : World) (v' : Value) : Prop := w.grownBy w' v.ownBlock ∧ (v'.ownBlock = v.ownBlock ∨ ∃ g, v'.ownBlock = some g ∧ w.heap.size ≤ g)
theorem Fw.refl (w : World) (v : Value) : Fw w v w v := ⟨⟨rfl, rfl, rfl, Nat.le_refl _, fun _ _ _ => rfl⟩, .inl rfl⟩
section
variable {P : Program} (w : World)
theorem wpList_append_fw {ops : Array Oper} {rest : List Oper} {o : Oper} {a : Act} {Q : Exit → Act → World → Prop} (hgd : o.guard = none) (s x : Operand) (t : TypeId)
    (ho : o.op = .call { callee := .builtin .append, args := #[s, x], argTypes := #[t, t] })
    (B : Nat) (e : TypeId) (i : TypeInfo) (z : Value) (bytes : Nat) (ht : P.underlying t = some (.slice e)) (hi : P.info? e = some i) (hz : i.zero = some z)
    (hsize : i.size = 1) (hby : i.bytes = bytes) (hzs : z.cells.size = 1)
    (v u : Value) (xs news : List Value) (hs : a.eval s = v) (hx : a.eval x = u) (hv : w.ownsRow B e 1 v xs.length xs) (hu : Rd w u news) (h1 : ∀ x ∈ news, x.oneCell' = true)
    (hbytes : (xs.length + news.length) * bytes ≤ 140737488355328) (hmax : xs.length + news.length ≤ maxLen) (hB : B ≤ w.heap.size)
    (h : ∀ v' w', w'.ownsRow B e 1 v' (xs ++ news).length (xs ++ news) → Below B w w' → Fw w v w' v' → wpList P ops Q rest (a.put o.dst v') w') : wpList P ops Q (o :: rest) a w :=
  wpList_plain hgd fun K hK => by
    obtain ⟨Au, c, rfl, c1, c2, c3⟩ := hu
    have hrun : ∃ v' w', (Builtin.append_ #[t, t] o.type #[v, .slice Au news.length c]).run P w = .ok v' w' ∧ w'.ownsRow B e 1 v' (xs ++ news).length (xs ++ news) ∧ Below B w w' ∧ Fw w v w' v' := by
      rcases c3 with ⟨rfl, rfl⟩ | ⟨x, rfl, hc⟩
      · obtain rfl : news = [] := List.eq_nil_of_length_eq_zero (by omega)
        exact ⟨v, w, run_append_owned_none w B t o.type e i 1 ht hi v _ xs hv, by rw [List.append_nil]; exact hv, Below.refl _ _, Fw.refl _ _⟩
      · obtain ⟨v', w', hr, r1, r2, _, r3⟩ := run_append_own_at (P := P) w B t o.type e i z 1 bytes ht hi hz hsize hby hzs (by omega) v _ xs hv x _ c news (by omega) hc h1 hmax hbytes hB
        refine ⟨v', w', hr, by rw [List.length_append]; exact r1, (Below.refl _ _).grown r2 hB ?_, r2, r3.imp id fun e => ⟨_, e, Nat.le_refl _⟩⟩
        intro k hk
        exact (hv.lt k hk).1
    obtain ⟨v', w', hr, h2, h3, h4⟩ := hrun
    unfold Oper.wp execOp
    simp only [ho, resolve, invoke, builtin, Sem.run_bind, Sem.run_pure, Result.andThen_ok, List.map_toArray, List.map_cons, List.map_nil, hs, hx, hr]
    exact hK _ _ (h v' w' h2 h3 h4)
end

end Go.Proofs.Yteopmaaghhendaa

/-
  Contract of static.rows3.
-/
namespace Go.Proofs.Yteopmaaghhendaa
open Go.RowKit
set_option linter.unusedVariables false

set_option maxRecDepth 100000 in
set_option maxHeartbeats 1000000 in
theorem rows3_any (w : World) :
    Calls Try.prog 91 #[] w fun e w' => ∃ v, e = .returned v ∧ Fs w' v T3 ∧ Below w.heap.size w w' := by
  go_enter Try.func91, Try.ntmps91
  go_wp2_with (first | (with_reducible refine wpList_buildSlice (v := .slice (some ⟨w.heap.size, 0, none⟩) 99 99) (w' := w.alloc (.cells C3 153)) (by kernel_rfl) ?_))
  go_ret
  exact ⟨_, rfl, Fs.lit w _ T3 99 t3_len (by simp [maxLen]) C3 (by simp [C3]), (Below.refl _ _).alloc (Nat.le_refl _) _⟩

end Go.Proofs.Yteopmaaghhendaa

/-
  Contracts of static.FindH2, static.FindH3.
-/
namespace Go.Proofs.Yteopmaaghhendaa
open Go.RowKit Go.Maps
set_option linter.unusedVariables false

end Go.Proofs.Yteopmaaghhendaa

/-
  Contracts of static.H2, static.H3.
-/
namespace Go.Proofs.Yteopmaaghhendaa
open Go.RowKit
set_option linter.unusedVariables false

set_option maxRecDepth 100000 in
set_option maxHeartbeats 1000000 in
theorem h3_any (i : Nat) (w : World) (hi : i < 18446744073709551616) :
    Calls Try.prog 72 #[.int .u64 (i : Int)] w fun e w' => e = .returned (.tuple #[aggF (entF T3 0 i), .bool (isF T3 0 i)]) ∧ Below w.heap.size w w' := by
  have HI := Bx.mk hi
  clear hi
  obtain ⟨e0, he0⟩ : ∃ e0, entF T3 0 i = e0 := ⟨_, rfl⟩
  obtain ⟨b0, hb0⟩ : ∃ b0, isF T3 0 i = b0 := ⟨_, rfl⟩
  rw [he0, hb0]
  have HE0 := Bx.mk he0
  have HB0 := Bx.mk hb0
  clear he0 hb0
  obtain ⟨f1, f2⟩ := e0
  have hag : aggF (f1, f2) = .agg #[.string f1, .string f2] := rfl
  go_enter Try.func72, Try.ntmps72
  go_wp2_with fail
  have HF := Bx.mk (Fb.new 56 w emp)
  refine (rows3_any _).mono ?_
  rintro e w2 ⟨v, rfl, hv, hb⟩
  have HF2 := Bx.mk (HF.out.keep hb)
  have HV := Bx.mk hv
  have HB := Bx.mk (((Below.refl w.heap.size w).alloc (Nat.le_refl _) _).trans (hb.mono (by simp)))
  clear hv hb HF
  go_wp2_with fail
  refine (entry_any v T3 0 i _ HV.out (by rw [t3_len]; omega) (by omega) HI.out).mono ?_
  rintro e w3 ⟨rfl, hb⟩
  rw [HE0.out, HB0.out, hag]
  have HF3 := Bx.mk (HF2.out.keep hb)
  have HB3 := Bx.mk (HB.out.trans (hb.mono HB.out.size))
  clear hb HF2 HV HB
  go_wp2_with (with_reducible refine wpList_storeF 56 w.heap.size emp (f1, f2) rfl rfl HF3.out ?_; intro w4 hf4 hg4)
  exact bodyPost_ret (ret_field Try.results72 _ _ w.heap.size (f1, f2) b0 rfl rfl hf4) rfl ⟨rfl, HB3.out.grown hg4 HB3.out.size (fun k hk => by cases hk; exact Nat.le_refl _)⟩

end Go.Proofs.Yteopmaaghhendaa

/-
  Contract of bifoldhelp.Fields alone.
-/
namespace Go.Proofs.Yteopmaaghhendaa
open Go.RowKit
set_option linter.unusedVariables false

theorem ret_bool {a b : Bool} (h : a = b) : Ending.returned (.bool a) = .returned (.bool b) := by rw [h]
theorem at_ne {α : Type} {a b : List α} {k : Nat} (ha : k < a.length) (hb : k < b.length) (h : ¬ a[k] = b[k]) : ¬ a = b := by
  rintro rfl; exact h rfl

set_option maxRecDepth 100000 in
set_option maxHeartbeats 1000000 in
theorem fields_any (va vb : Value) (a b : List Fd) (w : World) (ha : Fs w va a) (hb : Fs w vb b) :
    Calls Try.prog 21 #[va, vb] w fun e w' => e = .returned (.bool (decide (a = b))) ∧ Below w.heap.size w w' := by
  have HA := Bx.mk ha
  have HBb := Bx.mk hb
  have hlena := fun ty W => ha.run_len ty W
  have hlenb := fun ty W => hb.run_len ty W
  have hlm := ha.len
  unfold maxLen at hlm
  clear ha hb
  by_cases hll : a.length = b.length
  · have hd : ((a.length : Int) == (b.length : Int)) = true := by rw [beq_iff_eq]; omega
    have hd2 : ((a.length : Int) != (b.length : Int)) = false := by rw [bne, hd]; rfl
    have HLL := Bx.mk hll
    clear hll
    obtain ⟨R, hR⟩ : ∃ R, decide (a = b) = R := ⟨_, rfl⟩
    rw [hR]
    have HR := Bx.mk hR
    clear hR
    go_enter Try.func21, Try.ntmps21
    go_wp2
    clear hd hd2
    go_loopg [5] a.length (fun g s5 wx => ∃ k : Nat, k + g = a.length ∧ s5 = .int .i64 k ∧ Bx (AgreeTo a b k) ∧ Bx (Below w.heap.size w wx))
    case atStart => exact ⟨0, by omega, rfl, ⟨AgreeTo.zero _ _⟩, ⟨Below.refl _ _⟩⟩
    case round =>
      obtain ⟨k, hkg, rfl, HG, HB⟩ := hrel
      cases gk with
      | zero =>
        obtain rfl : k = a.length := by omega
        go_wp2
        go_ret
        exact ⟨ret_bool (by rw [← HR.out]; exact (decide_eq_true (AgreeTo.eq HLL.out HG.out)).symm), HB.out⟩
      | succ g =>
        have hk : k < a.length := by omega
        have hkb : k < b.length := by have := HLL.out; omega
        have hkz : (k : Int) < (a.length : Int) := by omega
        obtain ⟨b1, o1, hix1, hcs1⟩ := HA.out.at_ k hk
        obtain ⟨b2, o2, hix2, hcs2⟩ := HBb.out.at_ k hkb
        obtain ⟨hc1, hc1'⟩ := hcs1 wr (HA.out.keep HB.out)
        obtain ⟨hc2, hc2'⟩ := hcs2 wr (HBb.out.keep HB.out)
        have HSU := Bx.mk (show a[k] = b[k] → AgreeTo a b (k + 1) from fun h => HG.out.succ (by rw [List.getElem?_eq_getElem hk, List.getElem?_eq_getElem hkb, h]))
        have HNE := Bx.mk (fun h => at_ne hk hkb h)
        clear hcs1 hcs2
        generalize a[k] = x at hc1 hc1' HSU HNE
        obtain ⟨x1, x2⟩ := x
        generalize b[k] = y at hc2 hc2' HSU HNE
        obtain ⟨y1, y2⟩ := y
        simp only at hc1 hc1' hc2 hc2'
        by_cases h1 : x1 = y1
        · subst h1
          by_cases h2 : x2 = y2
          · subst h2
            go_wp2
            go_region
            go_wp2
            go_roundg g
            case measure => omega
            case rel => exact ⟨k + 1, by omega, by go_num, ⟨HSU.out (by simp)⟩, ⟨HB.out.drew⟩⟩
          · have hn : ¬ x2.toList = y2.toList := fun h => h2 (str_eq _ _ h)
            have HX := Bx.mk (show ¬ ((x1, x2) : Fd) = (x1, y2) from fun h => h2 (by injection h))
            clear h2
            go_wp2
            go_region
            go_wp2
            go_ret
            exact ⟨ret_bool (by rw [← HR.out]; exact (decide_eq_false (HNE.out HX.out)).symm), HB.out.drew⟩
        · have hn : ¬ x1.toList = y1.toList := fun h => h1 (str_eq _ _ h)
          have HX := Bx.mk (show ¬ ((x1, x2) : Fd) = (y1, y2) from fun h => h1 (by injection h))
          clear h1
          go_wp2
          go_region
          go_wp2
          go_ret
          exact ⟨ret_bool (by rw [← HR.out]; exact (decide_eq_false (HNE.out HX.out)).symm), HB.out.drew⟩
  · have hd : ((a.length : Int) == (b.length : Int)) = false := by rw [beq_eq_false_iff_ne]; omega
    have hd2 : ((a.length : Int) != (b.length : Int)) = true := by rw [bne, hd]; rfl
    have hr : decide (a = b) = false := by rw [decide_eq_false_iff_not]; rintro rfl; exact hll rfl
    rw [hr]
    clear hll hr
    go_enter Try.func21, Try.ntmps21
    go_wp2
    go_ret
    exact ⟨rfl, Below.refl _ _⟩

end Go.Proofs.Yteopmaaghhendaa

/-
  Contract of bifoldhelp.Light (beside the table's texts).
-/
namespace Go.Proofs.Yteopmaaghhendaa
open Go.RowKit
set_option linter.unusedVariables false

theorem Small.at_ {l : List Fd} (h : Small l) (k : Nat) (hk : k < l.length) : l[k].1.size ≤ 140737488351232 ∧ l[k].2.size ≤ 140737488351232 := h _ (List.getElem_mem hk)
def lightB (l : List Fd) : Bool := decide (l.length ≤ 70 ∧ sumF l ≤ 3000)

set_option maxRecDepth 100000 in
set_option maxHeartbeats 1000000 in
theorem light_any (v : Value) (l : List Fd) (w : World) (hv : Fs w v l) (hs : Small l) :
    Calls Try.prog 19 #[v] w fun e w' => e = .returned (.bool (lightB l)) ∧ Below w.heap.size w w' := by
  have HV := Bx.mk hv
  have HS := Bx.mk hs
  have hlen := fun ty W => hv.run_len ty W
  have hlm := hv.len
  unfold maxLen at hlm
  clear hv hs
  by_cases hbig : 70 < l.length
  · have hbb : decide (70 < (l.length : Int)) = true := by rw [decide_eq_true_iff]; omega
    have hr : lightB l = false := by unfold lightB; rw [decide_eq_false_iff_not]; omega
    rw [hr]
    clear hr hbig
    go_enter Try.func19, Try.ntmps19
    go_wp2
    go_ret
    exact ⟨rfl, Below.refl _ _⟩
  have hbb : decide (70 < (l.length : Int)) = false := by rw [decide_eq_false_iff_not]; omega
  obtain ⟨R, hR⟩ : ∃ R, lightB l = R := ⟨_, rfl⟩
  rw [hR]
  have HR := Bx.mk hR
  have HL : Bx (l.length ≤ 70) := ⟨by omega⟩
  clear hR hbig
  go_enter Try.func19, Try.ntmps19
  go_wp2
  clear hbb
  go_loopg [3, 4] l.length (fun g s3 s4 wx => ∃ k : Nat, k + g = l.length ∧ s4 = .int .i64 k ∧ s3 = .int .i64 (sumF (l.take k) : Int) ∧ Bx (sumF (l.take k) ≤ 3000) ∧ Bx (Below w.heap.size w wx))
  case atStart => exact ⟨0, by omega, rfl, rfl, ⟨by simp [sumF]⟩, ⟨Below.refl _ _⟩⟩
  case round =>
    obtain ⟨k, hkg, rfl, rfl, HQ, HB⟩ := hrel
    cases gk with
    | zero =>
      obtain rfl : k = l.length := by omega
      go_wp2
      go_ret
      refine ⟨ret_bool ?_, HB.out⟩
      rw [← HR.out]
      unfold lightB
      have := HQ.out
      rw [List.take_length] at this
      exact (decide_eq_true ⟨HL.out, this⟩).symm
    | succ g =>
      have hk : k < l.length := by omega
      have hkz : (k : Int) < (l.length : Int) := by omega
      obtain ⟨b, o, hix, hcs⟩ := HV.out.at_ k hk
      obtain ⟨hc1, hc2⟩ := hcs wr (HV.out.keep HB.out)
      obtain ⟨hs1, hs2⟩ := HS.out.at_ k hk
      have hst := sumF_take_succ l k hk
      have HST := Bx.mk hst
      have hq := HQ.out
      have HTL := Bx.mk (sumF_take_le l (k + 1))
      unfold fsz at hst
      obtain ⟨f1, hf1⟩ : ∃ f1, l[k].1 = f1 := ⟨_, rfl⟩
      obtain ⟨f2, hf2⟩ : ∃ f2, l[k].2 = f2 := ⟨_, rfl⟩
      rw [hf1] at hc1 hst hs1
      rw [hf2] at hc2 hst hs2
      have HF1 := Bx.mk hf1
      have HF2 := Bx.mk hf2
      clear hcs hf1 hf2
      generalize hT : sumF (l.take k) = T at hst hq
      have HT := Bx.mk hT
      have HTS := Bx.mk hst
      clear hT hst
      have w1 : IntKind.i64.wrap ((f1.size : Int) + (f2.size : Int)) = (f1.size : Int) + (f2.size : Int) := IntWalk.i64_in _ (by omega)
      have w2 : IntKind.i64.wrap ((T : Int) + ((f1.size : Int) + (f2.size : Int))) = (T : Int) + ((f1.size : Int) + (f2.size : Int)) := IntWalk.i64_in _ (by omega)
      by_cases hgt : 3000 < T + (f1.size + f2.size)
      · have hd : decide (3000 < (T : Int) + ((f1.size : Int) + (f2.size : Int))) = true := by rw [decide_eq_true_iff]; omega
        have hfin : R = false := by
          rw [← HR.out]
          unfold lightB
          rw [decide_eq_false_iff_not]
          have h1 := HTL.out
          have h2 := HTS.out
          omega
        have HFIN := Bx.mk hfin
        clear hfin hgt
        go_wp2
        go_region
        clear w1 w2
        go_wp2
        go_ret
        exact ⟨ret_bool HFIN.out.symm, HB.out.drew⟩
      · have hd : decide (3000 < (T : Int) + ((f1.size : Int) + (f2.size : Int))) = false := by rw [decide_eq_false_iff_not]; omega
        have HG : Bx (T + (f1.size + f2.size) ≤ 3000) := ⟨by omega⟩
        clear hgt
        go_wp2
        go_region
        clear w1 w2
        go_wp2
        go_roundg g
        case measure => omega
        case rel => exact ⟨k + 1, by omega, by go_num, by rw [HTS.out]; go_num, ⟨by have := HTS.out; have := HG.out; omega⟩, ⟨HB.out.drew⟩⟩

end Go.Proofs.Yteopmaaghhendaa

/-
  A slice of fields that came in: from the row's reading to a list of fields, with their sizes.
-/
namespace Go.Proofs.Yteopmaaghhendaa
open Go.RowKit Go.ChangeShapes Go.WideShapes Go.Deep
set_option linter.unusedVariables false

theorem weights_mem_all {H : Type} {P : Program} {e : TypeId} : ∀ {ds : List (DataW H)} {d : DataW H}, d ∈ ds → ∀ n ∈ d.weights P e, n ∈ DataW.weightsAll P e ds
  | d0 :: ds, d, hd, n, hn => by
    simp only [DataW.weightsAll, List.mem_append]
    rcases List.mem_cons.1 hd with rfl | h
    · exact .inl hn
    · exact .inr (weights_mem_all h n hn)

section
variable {H : Type} {enc : TypeId × Value → H} {w : World} {base : Nat} {spare : Nat → Bool} {held : Bool}

theorem fdCells2 : Try.prog.cellsOf 56 = 2 := by kernel_rfl
theorem strCells2 : Try.prog.cellsOf 9 = 1 := by kernel_rfl

set_option maxRecDepth 100000 in
/-- One field's reading. -/
theorem field_open {fuel : Nat} {cs : List Value} {x : DataW H × List MemPlace} (h : DataW.trod enc Try.prog w base spare held fuel 56 cs = some x) :
    ∃ f : Fd, cs = fvl f ∧ x.1 = .agg [.lit (.string f.1.data.toList), .lit (.string f.2.data.toList)] := by
  obtain ⟨xs, n, _, hx, hl, hlen, hf⟩ := DataW.trod_struct Try.underlying56 h
  rw [fdCells2] at hl
  match cs, hl with
  | [c0, c1], _ =>
    have e0 := hf 0 _ rfl
    have e1 := hf 1 _ rfl
    change DataW.trod enc Try.prog w base spare held n 9 (([c0, c1].drop 0).take (Try.prog.cellsOf 9)) = xs[0]? at e0
    change DataW.trod enc Try.prog w base spare held n 9 (([c0, c1].drop 1).take (Try.prog.cellsOf 9)) = xs[1]? at e1
    rw [strCells2] at e0 e1
    match xs, hlen with
    | [y0, y1], _ =>
      obtain ⟨s0, h0, d0, _⟩ := DataW.trod_string Try.underlying9 e0
      obtain ⟨s1, h1, d1, _⟩ := DataW.trod_string Try.underlying9 e1
      simp at h0 h1
      subst h0 h1
      exact ⟨(s0, s1), rfl, by rw [hx, d0, d1]; rfl⟩

set_option maxRecDepth 100000 in
theorem fields_open {fuel : Nat} {a : Option Addr} {len cap : Nat} {x : DataW H × List MemPlace} (h : DataW.trod enc Try.prog w base spare held fuel 38 [.slice a len cap] = some x) :
    ∃ l : List Fd, Fs w (.slice a len cap) l ∧ ((∀ n ∈ x.1.weights Try.prog 38, n ≤ reachBytes) → Small l) := by
  rcases open_slice Try.underlying38 h with ⟨hcs, _⟩ | ⟨p, l0, c0, m, n, D, Pl, hcs, hb, hlc, hcm, hm, hx, hi⟩
  · simp at hcs
    obtain ⟨rfl, rfl, rfl⟩ := hcs
    exact ⟨[], Rn.nil 2 w, fun _ f hf => by cases hf⟩
  · simp at hcs
    obtain ⟨rfl, rfl, rfl⟩ := hcs
    have hlm : len ≤ m := by rw [hm]; split <;> omega
    obtain ⟨F, hF⟩ := choose_lt (α := Fd) (n := len) (p := fun i f => w.cells? base (p.add (i * 2)) 2 = some (fvl f) ∧ D i = .agg [.lit (.string f.1.data.toList), .lit (.string f.2.data.toList)]) (fun i hil => by
      obtain ⟨cs', h1, h2⟩ := hi i (by omega)
      rw [fdCells2] at h1
      obtain ⟨f, rfl, hd⟩ := field_open h2
      exact ⟨f, h1, hd⟩)
    have hlen : ((List.range len).map F).length = len := by simp
    have hget : ∀ i (hil : i < len), ((List.range len).map F)[i]'(by omega) = F i := fun i hil => by simp
    refine ⟨(List.range len).map F, ⟨some p, cap, by rw [hlen], by rw [hlen]; exact hlc, hcm, by rw [fvl_length], .inr ⟨p, rfl, fun j u hu => ?_⟩⟩, fun hw f hf => ?_⟩
    · have hj : j < len * 2 := by
        rcases Nat.lt_or_ge j (len * 2) with h1 | h1
        · exact h1
        · rw [List.getElem?_eq_none (by rw [fvl_length, hlen]; exact h1)] at hu; cases hu
      have hil : j / 2 < len := by omega
      obtain ⟨h1, _⟩ := hF (j / 2) hil
      obtain ⟨_, _, hat⟩ := World.cells?_some h1
      have hv := fvl_at ((List.range len).map F) (j / 2) (by rw [hlen]; exact hil)
      rw [hget _ hil] at hv
      rcases Nat.mod_two_eq_zero_or_one j with hr | hr
      · have ej : j / 2 * 2 = j := by omega
        rw [ej] at hv
        rw [hv.1] at hu
        have := hat 0 (by omega)
        rw [add_add, ej, Nat.add_zero] at this
        rw [this, ← hu]; rfl
      · have ej : j / 2 * 2 + 1 = j := by omega
        rw [ej] at hv
        rw [hv.2] at hu
        have := hat 1 (by omega)
        rw [add_add, ej] at this
        rw [this, ← hu]; rfl
    · obtain ⟨i, hir, rfl⟩ := List.mem_map.1 hf
      have hil : i < len := List.mem_range.1 hir
      obtain ⟨_, hd⟩ := hF i hil
      have hmem : ∀ n ∈ (D i).weights Try.prog 56, n ≤ reachBytes := fun n hn => hw n (by
        rw [hx]
        simp only [DataW.weights, Try.underlying38, List.mem_cons, List.mem_append]
        exact .inr (.inl (weights_mem_all (List.mem_map.2 ⟨i, hir, rfl⟩) n hn)))
      rw [hd] at hmem
      have h1 := hmem (F i).1.data.toList.length (by simp only [DataW.weights, Try.underlying56]; simp [DataW.weightsEach, DataW.weights])
      have h2 := hmem (F i).2.data.toList.length (by simp only [DataW.weights, Try.underlying56]; simp [DataW.weightsEach, DataW.weights])
      have hr : reachBytes ≤ 140737488351232 := by decide
      have e1 : (F i).1.data.toList.length = (F i).1.size := by simp
      have e2 : (F i).2.data.toList.length = (F i).2.size := by simp
      omega
end

end Go.Proofs.Yteopmaaghhendaa

/-
  A slice of slices of fields that came in.
-/
namespace Go.Proofs.Yteopmaaghhendaa
open Go.RowKit Go.ChangeShapes Go.WideShapes Go.Deep
set_option linter.unusedVariables false

section
variable {H : Type} {enc : TypeId × Value → H} {w : World} {base : Nat} {spare : Nat → Bool} {held : Bool}
theorem fieldsCells : Try.prog.cellsOf 38 = 1 := by kernel_rfl
theorem fieldsv_open {fuel : Nat} {cs : List Value} {x : DataW H × List MemPlace} (h : DataW.trod enc Try.prog w base spare held fuel 38 cs = some x) :
    ∃ (v : Value) (l : List Fd), cs = [v] ∧ Fs w v l ∧ ((∀ n ∈ x.1.weights Try.prog 38, n ≤ reachBytes) → Small l) := by
  rcases open_slice Try.underlying38 h with ⟨hcs, _⟩ | ⟨p, len, cap, m, n, D, Pl, hcs, _⟩
  · subst hcs
    obtain ⟨l, h1, h2⟩ := fields_open h
    exact ⟨_, l, rfl, h1, h2⟩
  · subst hcs
    obtain ⟨l, h1, h2⟩ := fields_open h
    exact ⟨_, l, rfl, h1, h2⟩

set_option maxRecDepth 100000 in
theorem fieldss_open {fuel : Nat} {cs : List Value} {x : DataW H × List MemPlace} (h : DataW.trod enc Try.prog w base spare held fuel 43 cs = some x) :
    ∃ (v : Value) (vs : List Value) (ll : List (List Fd)), cs = [v] ∧ Fss w v vs ll ∧ ((∀ n ∈ x.1.weights Try.prog 43, n ≤ reachBytes) → ∀ l ∈ ll, Small l) := by
  rcases open_slice1 Try.underlying43 fieldsCells h with ⟨hcs, _⟩ | ⟨p, len, cap, m, n, V, D, Pl, hcs, hb, hlc, hcm, hm, hx, hi⟩
  · exact ⟨_, [], [], hcs, ⟨Rd.nil w, rfl, fun i h => by simp at h⟩, fun _ f hf => by cases hf⟩
  · have hlm : len ≤ m := by rw [hm]; split <;> omega
    obtain ⟨F, hF⟩ := choose_lt (α := List Fd) (n := len) (p := fun i l => w.cell? (p.add i) = some (V i) ∧ Fs w (V i) l ∧ ((∀ n ∈ (D i).weights Try.prog 38, n ≤ reachBytes) → Small l)) (fun i hil => by
      obtain ⟨h1, h2⟩ := hi i (by omega)
      obtain ⟨v, l, hv, hl, hs⟩ := fieldsv_open h2
      injection hv with hv
      exact ⟨l, h1, hv ▸ hl, hs⟩)
    refine ⟨_, (List.range len).map V, (List.range len).map F, hcs, ⟨⟨some p, cap, by simp, by simpa using hlc, hcm, .inr ⟨p, rfl, fun j u hu => ?_⟩⟩, by simp, fun i h1 h2 => ?_⟩, fun hw l hl => ?_⟩
    · obtain ⟨hj, hu⟩ := List.getElem?_eq_some_iff.1 hu
      simp only [List.length_map, List.length_range] at hj
      simp at hu
      rw [← hu]
      exact (hF j hj).1
    · simp only [List.length_map, List.length_range] at h1
      have := (hF i h1).2.1
      simpa using this
    · obtain ⟨i, hir, rfl⟩ := List.mem_map.1 hl
      have hil : i < len := List.mem_range.1 hir
      exact (hF i hil).2.2 fun n hn => hw n (by
        rw [hx]
        simp only [DataW.weights, Try.underlying43, List.mem_cons, List.mem_append]
        exact .inr (.inl (weights_mem_all (List.mem_map.2 ⟨i, hir, rfl⟩) n hn)))
end

end Go.Proofs.Yteopmaaghhendaa
