/-
  Texts put together: HfA, QtE, QeMath, QpMath, OwN, Wd, HfB, HfC, HeMath2, HeMath3, StrA, HdA, HfD, HfE, HfF.
-/
import Derived.Test.YtebakjdeighdnaaM07
import Derived.Test.YtebakjdeighdnaaM01
import Derived.Maps.Views
import Derived.Lib.SlMapFilter
import Derived.Test.YtebakjdeighdnaaM06
import Derived.Test.YtebakjdeighdnaaM03
import Derived.Deep.RegionLaw
import Derived.Test.YtebakjdeighdnaaM02
import Derived.Lib.MinMax
import Derived.BigRegion

/-
  Contracts of num.grown, num.Prefix, henc.number: what they hand back is a row of its own.
-/
namespace Go.Proofs.Ytebakjdeighdnaa
open Go.RowKit
set_option linter.unusedVariables false

set_option maxHeartbeats 400000 in
theorem grown_own (v : Value) (l : List UInt8) (n : Nat) (w : World) (hv : Bs w v l) (hn : n ≤ 1000000) (hl : l.length ≤ 1000000) :
    Calls Try.prog 59 #[v, .int .i64 n] w fun e w' => ∃ v', e = .returned v' ∧ OwB w' w.heap.size v' l ∧ Below w.heap.size w w' := by
  obtain ⟨i0, hi, hz, hz1, hz2⟩ := info_parts infoU8n
  obtain ⟨A, L, c, rfl, hL, h1, h2, h3, h4⟩ := hv.open_
  have H := Lib.hid hv
  clear hv
  have Hi := Lib.hid hi
  have Hz := Lib.hid hz
  have Hz1 := Lib.hid hz1
  have Hz2 := Lib.hid hz2
  clear hi hz hz1 hz2
  go_enter Try.func59, Try.ntmps59
  go_wp2_with (first
    | (at_make
       refine wpList_make_own _ rfl _ _ _ rfl w.heap.size 5 i0 (.int .u8 0) 1 Try.underlying28 Hi.out Hz.out Hz1.out .i64 .i64 _ (L + n) rfl rfl (by simp) (by rw [Hz2.out]; omega) (by simp only [maxLen]; omega) (Nat.le_refl _) ?_
       intro w1 hown hg)
    | (at_builtin
       refine wpList_append_og _ rfl _ _ 28 rfl w.heap.size 5 i0 (.int .u8 0) 1 Try.underlying28 Hi.out Hz.out Hz1.out Hz2.out rfl _ _ [] (l.map bv) rfl rfl hown ((show Rd w _ (l.map bv) from H.out).keep ((Below.refl _ _).grown hg (Nat.le_refl _) (by simp))) one_bv (by simp; omega) (by simp [maxLen]; omega) hg.size ?_
       intro v2 w2 hap hb2 _))
  go_ret
  exact ⟨v2, rfl, hap, ((Below.refl _ _).grown hg (Nat.le_refl _) (by simp)).trans hb2⟩


theorem grownO_int (v : Value) (l : List UInt8) (n : Int) (w : World) (hv : Bs w v l) (hn0 : 0 ≤ n) (hn : n ≤ 1000000) (hl : l.length ≤ 1000000) :
    Calls Try.prog 59 #[v, .int .i64 n] w fun e w' => ∃ v', e = .returned v' ∧ OwB w' w.heap.size v' l ∧ Below w.heap.size w w' := by
  have h := grown_own v l n.toNat w hv (by omega) hl
  rwa [Int.toNat_of_nonneg hn0] at h

set_option maxRecDepth 100000 in
set_option maxHeartbeats 1000000 in
theorem prefix_own (bV : Value) (bl : List UInt8) (f : UInt8) (n : Int) (v : Nat) (w : World) (hb : Bs w bV bl) (hbl : bl.length ≤ 200000) (hv : v < 18446744073709551616) :
    Calls Try.prog 41 #[bV, .int .u8 f.toNat, .int .i64 n, .int .u64 v] w fun e w' => ∃ v', e = .returned v' ∧ OwB w' w.heap.size v' (bl ++ pre f (bitsOf n) v) ∧ Below w.heap.size w w' := by
  obtain ⟨i0, hi, hz, hz1, hz2⟩ := info_parts infoU8n
  have Hi := Lib.hid hi
  have Hz := Lib.hid hz
  have Hz1 := Lib.hid hz1
  have Hz2 := Lib.hid hz2
  clear hi hz hz1 hz2
  have Hb := Lib.hid hb
  obtain ⟨hk1, hk8, hkn⟩ := bitsOf_range n
  generalize bitsOf n = k at hk1 hk8 hkn ⊢
  have hM := full_range hk1 hk8
  have hfull : full (min (max n 1) 8) = ((2 ^ k - 1 : Nat) : Int) := by rw [hkn, full_nat]
  have ha := hi_andNot f hk1 hk8
  have hlt := hi_lt f hk1 hk8
  have Hor := Lib.hid (hi_or f hk1 hk8)
  have Hpf := Lib.hid (preFirst_val f hk1 hk8 v)
  have Hpre : Hid (pre f k v = if v < 2 ^ k - 1 then [preFirst f k v] else preFirst f k v :: cont 10 (v - (2 ^ k - 1))) := rfl
  clear hb
  
  
  generalize pre f k v = PL at Hpre ⊢
  generalize preFirst f k v = pf at Hpf Hpre
  generalize hiOf f k = hi at ha hlt Hor Hpf
  generalize 2 ^ k - 1 = M at hM ha hlt Hor Hpf Hpre hfull
  have Hfull := Lib.hid hfull
  clear hfull
  obtain ⟨hM1, hM2⟩ := hM
  
  have horM := Hor.out M (by omega)
  by_cases hvM : v < M
  · have hw8v : IntKind.u8.wrap (v : Int) = (v : Int) := by rw [IntKind.wrap_u8]; omega
    have horv := Hor.out v (by omega)
    have Hf := Hpf.out
    have Hp := Hpre.out
    rw [if_pos hvM] at Hp
    rw [show min v M = v from by omega] at Hf
    subst Hp
    have Hf2 := Lib.hid Hf
    clear Hpf Hpre Hf
    go_enter Try.func41, Try.ntmps41
    go_wp2_with (first
        | (go_at_call 53; refine (fullPrefix_any _ _).mono ?_; rintro e w' ⟨rfl, rfl⟩; rw [Hfull.out])
        | (go_at_call 59; refine (grownO_int bV bl _ _ Hb.out (by omega) (by omega) (by omega)).mono ?_; rintro e w1 ⟨v1, rfl, hap, hb1⟩)
        | (at_builtin
           refine wpList_append_og _ rfl _ _ 28 rfl w.heap.size 5 i0 (.int .u8 0) 1 Try.underlying28 Hi.out Hz.out Hz1.out Hz2.out rfl _ _ (bl.map bv) _ rfl rfl (hap.alloc _) (Rd.lit w1 5 _ 1 rfl (by simp [maxLen])) (by simp [Value.oneCell']) (by simp; omega) (by simp [maxLen]; omega) (by have := hb1.size; simp; omega) ?_
           intro v2 w2 hap2 hb2 _))
    go_ret
    refine ⟨v2, rfl, ?_, hb1.trans (((Below.refl _ _).alloc hb1.size _).trans hb2)⟩
    exact OwB.snoc hap2 pf Hf2.out.symm
  · have Hf := Hpf.out
    have Hp := Hpre.out
    rw [if_neg hvM] at Hp
    rw [show min v M = M from by omega] at Hf
    have Hp2 := Lib.hid Hp
    have Hf2 := Lib.hid Hf
    clear Hpf Hpre Hf Hp
    have hsub : IntKind.u64.wrap ((v : Int) - (M : Int)) = ((v - M : Nat) : Int) := by rw [IntKind.wrap_u64]; omega
    go_enter Try.func41, Try.ntmps41
    go_wp2_with (first
        | (go_at_call 53; refine (fullPrefix_any _ _).mono ?_; rintro e w' ⟨rfl, rfl⟩; rw [Hfull.out])
        | (go_at_call 59; refine (grownO_int bV bl _ _ Hb.out (by omega) (by omega) (by omega)).mono ?_; rintro e w1 ⟨v1, rfl, hap, hb1⟩)
        | (at_builtin
           refine wpList_append_og _ rfl _ _ 28 rfl w.heap.size 5 i0 (.int .u8 0) 1 Try.underlying28 Hi.out Hz.out Hz1.out Hz2.out rfl _ _ (bl.map bv) _ rfl rfl (hap.alloc _) (Rd.lit w1 5 _ 1 rfl (by simp [maxLen])) (by simp [Value.oneCell']) (by simp; omega) (by simp [maxLen]; omega) (by have := hb1.size; simp; omega) ?_
           intro v2 w2 hap2 hb2 _))
    have hap3 := OwB.snoc hap2 pf Hf2.out.symm
    have hb3 : Below w.heap.size w w2 := hb1.trans (((Below.refl _ _).alloc hb1.size _).trans hb2)
    clear hap2 hb2
    have hlen3 : (bl ++ [pf]).length = bl.length + 1 := by simp
    have Hgoal : Hid ((bl ++ [pf]) ++ cont 10 (v - M) = bl ++ PL) := by rw [Hp2.out]; simp [Hid]
    have hl1 : (bl ++ [pf]).length ≤ bl.length + 1 := by omega
    clear hlen3
    generalize bl ++ [pf] = l0 at hap3 Hgoal hl1
    have hq : v - M < 128 ^ (9 + 1) := by have : (18446744073709551616 : Nat) ≤ 128 ^ (9 + 1) := by decide
                                          omega
    clear ha horM Hor hsub hvM Hf2 Hfull Hp2
    have hq64 : v - M < 18446744073709551616 := by omega
    generalize v - M = q at hq hq64 Hgoal ⊢
    have Hgoal2 := Lib.hid Hgoal.out
    clear Hgoal
    go_wp2
    go_loopw [3, 11] (fun xv ov wr => PrefRelO (bl ++ PL) bl w.heap.size w ov xv wr) (fun xv _ _ => (intOf xv).toNat)
    case atStart => exact ⟨9, q, l0, rfl, hq64, hq, by omega, Hgoal2.out, by omega, hap3, hb3⟩
    case round =>
      obtain ⟨m, x, l1, rfl, hxq, hxm, hm9, hG, hl, hap4, hb4⟩ := hrel
      have HG := Lib.hid hG
      clear hG hap3 hb3
      have hxi : (x : Int) < 18446744073709551616 := by omega
      have Hxq := Lib.hid hxq
      have Hxm := Lib.hid hxm
      have Hr0 : Hid (¬ x < 128 → ∃ q, m = q + 1 ∧ x / 128 < 128 ^ (q + 1)) := fun h => pow128 x m hxm (by omega)
      clear hxq hxm hv hq hq64 hxi
      have hsz := hb4.size
      by_cases hx : x < 128
      · have hx' : (x : Int) < 256 := by omega
        go_wp2_with (first
          | (at_builtin
             refine wpList_append_og _ rfl _ _ 28 rfl w.heap.size 5 i0 (.int .u8 0) 1 Try.underlying28 Hi.out Hz.out Hz1.out Hz2.out rfl _ _ (l1.map bv) _ rfl rfl (hap4.alloc _) (Rd.lit wr 5 _ 1 rfl (by simp [maxLen])) (by simp [Value.oneCell']) (by simp; omega) (by simp [maxLen]; omega) (by have := hb4.size; simp; omega) ?_
             intro v2 w2 hap2 hb2 _))
        go_ret
        have hap5 := OwB.snoc hap2 (UInt8.ofNat x) (by rw [UInt8.toNat_ofNat', Nat.mod_eq_of_lt (by have : (2:Nat) ^ 8 = 256 := rfl; omega)])
        refine ⟨_, rfl, ?_, hb4.trans (((Below.refl _ _).alloc (by have := hb4.size; omega) _).trans hb2)⟩
        rw [← HG.out, cont_last _ _ hx]
        exact hap5
      · obtain ⟨r, rfl, hr⟩ := Hr0.out hx
        have Hr := Lib.hid hr
        clear hr
        have ho := or128 x
        have hand := u64_mask x 7 127 (by rfl) (by omega) Hxq.out
        have ho2 : bits .or .u8 ((x : Int) % 128) 128 = ((x % 128 + 128 : Nat) : Int) := by have h := or128 (x % 128); rw [show (((x % 128 : Nat) : Int) % 256) = (x : Int) % 128 from by omega] at h; rw [h]; omega
        go_wp2_with (first
          | (at_builtin
             refine wpList_append_og _ rfl _ _ 28 rfl w.heap.size 5 i0 (.int .u8 0) 1 Try.underlying28 Hi.out Hz.out Hz1.out Hz2.out rfl _ _ (l1.map bv) _ rfl rfl (hap4.alloc _) (Rd.lit wr 5 _ 1 rfl (by simp [maxLen])) (by simp [Value.oneCell']) (by simp; omega) (by simp [maxLen]; omega) (by have := hb4.size; simp; omega) ?_
             intro v2 w2 hap2 hb2 _))
        have hap5 := OwB.snoc hap2 (UInt8.ofNat (x % 128 + 128)) (by rw [UInt8.toNat_ofNat', Nat.mod_eq_of_lt (by have : (2:Nat) ^ 8 = 256 := rfl; omega)]; omega)
        clear hap2
        go_roundw
        case rel =>
          refine ⟨r, x / 128, l1 ++ [UInt8.ofNat (x % 128 + 128)], by go_num, by have := Hxq.out; omega, Hr.out, by omega, ?_, by simp; omega, hap5, hb4.trans (((Below.refl _ _).alloc (by have := hb4.size; omega) _).trans hb2)⟩
          rw [← HG.out, cont_more (r + 1) x (by omega), List.append_assoc]
          rfl
        case measure => simp [intOf]; omega

end Go.Proofs.Ytebakjdeighdnaa

/-
  Contract of qtab.Prefix; of the document's Prefix.
-/
namespace Go.Proofs.Ytebakjdeighdnaa
open Go.RowKit
set_option linter.unusedVariables false

/-- A section's prefix, of a count and a base, of m entries at most. -/
def qpre (c b m : Nat) : List UInt8 := pre 0 8 (ecN c m) ++ (if c ≤ b then pre 0 7 (b - c) else pre 128 7 (c - b - 1))

theorem ecN_lt {c m : Nat} (hm : m < 288230376151711744) : ecN c m < 18446744073709551616 := by
  unfold ecN
  split
  · omega
  · have := Nat.mod_lt c (show 0 < 2 * m by omega)
    omega

theorem pre_len11 (f : UInt8) (k v : Nat) : (pre f k v).length ≤ 11 := by
  unfold pre
  split
  · simp
  · have := cont_length 10 (v - (2 ^ k - 1))
    simp; omega

theorem prefix_at (bV : Value) (bl : List UInt8) (f : UInt8) (F : Int) (hF : (f.toNat : Int) = F) (n : Int) (k : Nat) (hk : bitsOf n = k) (v : Nat) (V : Int) (hV : (v : Int) = V) (w : World) (hb : Bs w bV bl) (hbl : bl.length ≤ 200000) (hv : v < 18446744073709551616) :
    Calls Try.prog 41 #[bV, .int .u8 F, .int .i64 n, .int .u64 V] w fun e w' => ∃ v', e = .returned v' ∧ OwB w' w.heap.size v' (bl ++ pre f k v) ∧ Below w.heap.size w w' := by
  subst hF hk hV
  exact prefix_own bV bl f n v w hb hbl hv

set_option maxHeartbeats 1000000 in
theorem qPrefix_any (bV : Value) (bl : List UInt8) (c b : Nat) (cap : Int) (w : World) (hb : Bs w bV bl) (hbl : bl.length ≤ 199000) (hc : c < 18446744073709551616) (hb8 : b < 18446744073709551616) (hcap : cap < 9223372036854775808) :
    Calls Try.prog 33 #[bV, .int .u64 c, .int .u64 b, .int .i64 cap] w fun e w' => ∃ v', e = .returned v' ∧ OwB w' w.heap.size v' (bl ++ qpre c b (mostN cap)) ∧ Below w.heap.size w w' := by
  have hm := mostN_lt hcap
  have HE := Bx.mk (encodeCount_any c cap hc hcap)
  obtain ⟨EC, hEC⟩ := letter (ecN c (mostN cap))
  have hP1 := fun W (h : Bs W bV bl) => prefix_at bV bl 0 0 rfl 8 8 rfl _ EC hEC W h (by omega) (ecN_lt hm)
  have HP1 := Bx.mk hP1
  have Hpl := Bx.mk (pre_len11 0 8 (ecN c (mostN cap)))
  have Hbl := Bx.mk hbl
  have Hb := Bx.mk hb
  obtain ⟨C, hC⟩ := letter c
  obtain ⟨D, hD⟩ := letter b
  simp only [hC, hEC] at HE
  simp only [hC, hD]
  clear hP1 hEC
  unfold qpre
  by_cases h : c ≤ b
  · rw [if_pos h]
    have h1 : decide (C ≤ D) = true := by rw [decide_eq_true_iff]; omega
    obtain ⟨S, hS⟩ := letter (b - c)
    have hsub : IntKind.u64.wrap (D - C) = S := by rw [show D - C = S from by omega]; exact u64_keep (by omega) (by omega)
    have HP2 := Bx.mk fun W v l (h : Bs W v l) (hl : l.length ≤ 200000) => prefix_at v l 0 0 rfl 7 7 rfl (b - c) S hS W h hl (by omega)
    clear hS hC hD h hm hb hbl hc hb8 hcap
    go_enter Try.func33, Try.ntmps33
    go_wp2_with fail
    refine (HE.out _).mono ?_
    rintro e w' ⟨rfl, rfl⟩
    go_wp2_with fail
    refine (HP1.out _ Hb.out).mono ?_
    rintro e w1 ⟨v1, rfl, h1, b1⟩
    go_wp2_with fail
    refine (HP2.out _ _ _ h1.bs (by have := Hbl.out; have := Hpl.out; simp; omega)).mono ?_
    rintro e w2 ⟨v2, rfl, h2, b2⟩
    go_wp2_with fail
    go_ret
    exact ⟨_, rfl, by rw [← List.append_assoc]; exact h2.mono b1.size, b1.trans (b2.mono b1.size)⟩
  · rw [if_neg h]
    have h1 : decide (C ≤ D) = false := by rw [decide_eq_false_iff_not]; omega
    obtain ⟨S, hS⟩ := letter (c - b)
    obtain ⟨S', hS'⟩ := letter (c - b - 1)
    have hsub : IntKind.u64.wrap (C - D) = S := by rw [show C - D = S from by omega]; exact u64_keep (by omega) (by omega)
    have hsub2 : IntKind.u64.wrap (S - 1) = S' := by rw [show S - 1 = S' from by omega]; exact u64_keep (by omega) (by omega)
    have HP2 := Bx.mk fun W v l (h : Bs W v l) (hl : l.length ≤ 200000) => prefix_at v l 128 128 rfl 7 7 rfl (c - b - 1) S' hS' W h hl (by omega)
    clear hS hS' hC hD h hm hb hbl hc hb8 hcap
    go_enter Try.func33, Try.ntmps33
    go_wp2_with fail
    refine (HE.out _).mono ?_
    rintro e w' ⟨rfl, rfl⟩
    go_wp2_with fail
    refine (HP1.out _ Hb.out).mono ?_
    rintro e w1 ⟨v1, rfl, h1, b1⟩
    go_wp2_with fail
    refine (HP2.out _ _ _ h1.bs (by have := Hbl.out; have := Hpl.out; simp; omega)).mono ?_
    rintro e w2 ⟨v2, rfl, h2, b2⟩
    go_wp2_with fail
    go_ret
    exact ⟨_, rfl, by rw [← List.append_assoc]; exact h2.mono b1.size, b1.trans (b2.mono b1.size)⟩

end Go.Proofs.Ytebakjdeighdnaa

/-
  QPACK, written, as plain mathematics: what is open, blocked, pinned; one field, all fields; what each line leads to.
-/
namespace Go.Proofs.Ytebakjdeighdnaa
open Go.RowKit
set_option linter.unusedVariables false

/-- A section that is open: its stream, its count, the places that it uses. -/
structure Qs where
  s : Nat
  c : Nat
  u : List Nat
/-- A line: its kind, its place, its field. -/
structure Ql where
  k : Nat
  i : Nat
  f : Fd
/-- Is a stream blocked? -/
def blkQ (op : List Qs) (K s : Nat) : Bool := op.any fun x => decide (x.s = s) && decide (K < x.c)
def frstQ (op : List Qs) (n : Nat) (x : Qs) : Bool := (op.take n).all fun y => decide (y.s ≠ x.s)
/-- How many streams are, of the first n sections. -/
def manyQ (op : List Qs) (K : Nat) : Nat → Nat
  | 0 => 0
  | n + 1 => manyQ op K n + (match op[n]? with | some x => if frstQ op n x && blkQ op K x.s then 1 else 0 | none => 0)
/-- May an entry not go? -/
def pinQ (op : List Qs) (K : Nat) (now : List Nat) (a : Nat) : Bool := decide (K ≤ a) || (decide (a ∈ now) || op.any fun x => decide (a ∈ x.u))
def roomGo (cap n : Nat) (pin : Nat → Bool) : List Fd → Nat → Bool
  | [], _ => true
  | g :: r, a => if cap < sizeF (g :: r) + n then (if pin a then false else roomGo cap n pin r (a + 1)) else true
/-- May a field be inserted? -/
def roomQ (op : List Qs) (K : Nat) (T : Tab) (f : Fd) (now : List Nat) : Bool := !secN f.1 && (decide (fsz f + 32 ≤ T.cap / 4) && roomGo T.cap (fsz f + 32) (pinQ op K now) T.l T.first)

/-- What has been written so far. -/
structure Qa where
  T : Tab
  ins : List UInt8
  all : List Ql
  u : List Nat
  c : Nat
def insW (f : Fd) : List UInt8 := (if (findS T3 f).2.1 then pre 192 6 (findS T3 f).1 else putSk 64 5 f.1.data.toList) ++ putSk 0 7 f.2.data.toList
def litQ (f : Fd) : Ql := if (findS T3 f).2.1 then ⟨2, (findS T3 f).1, f⟩ else ⟨3, 0, f⟩
def Qa.ref (a : Qa) (f : Fd) (i : Nat) : Qa := ⟨a.T, a.ins, a.all ++ [⟨1, i, f⟩], a.u ++ [i], max a.c (i + 1)⟩
def Qa.insd (a : Qa) (f : Fd) : Qa := ⟨a.T.add f, a.ins ++ insW f, a.all, a.u, a.c⟩
def Qa.line (a : Qa) (x : Ql) : Qa := ⟨a.T, a.ins, a.all ++ [x], a.u, a.c⟩
def qstep (op : List Qs) (K : Nat) (free : Bool) (a : Qa) (f : Fd) : Qa :=
  if (findS T3 f).2.2 then a.line ⟨0, (findS T3 f).1, f⟩
  else if (findT a.T.l a.T.first f).2.2 && (decide ((findT a.T.l a.T.first f).1 < K) || free) then a.ref f (findT a.T.l a.T.first f).1
  else if !(findT a.T.l a.T.first f).2.2 && roomQ op K a.T f a.u then
    (if free then (a.insd f).ref f ((a.insd f).T.tot - 1) else (a.insd f).line (litQ f))
  else a.line (litQ f)
def qrun (op : List Qs) (K : Nat) (free : Bool) (l : List Fd) (a : Qa) : Qa := l.foldl (qstep op K free) a
/-- The bytes of a line, in a section of the count c. -/
def lineW (c : Nat) (x : Ql) : List UInt8 :=
  if x.k = 0 then pre 192 6 x.i
  else if x.k = 1 then pre 128 6 (c - 1 - x.i)
  else if x.k = 2 then pre (if secN x.f.1 then 112 else 80) 4 x.i ++ putSk 0 7 x.f.2.data.toList
  else putSk (if secN x.f.1 then 48 else 32) 3 x.f.1.data.toList ++ putSk 0 7 x.f.2.data.toList
def linesW (c : Nat) (all : List Ql) : List UInt8 := all.flatMap (lineW c)
def capW (said : Bool) (cap : Nat) : List UInt8 := if !said && decide (0 < cap) then pre 32 5 cap else []
/-- May a section of the stream use what isn't known? -/
def freeQ (op : List Qs) (K B s : Nat) : Bool := blkQ op K s || decide (manyQ op K op.length < B)
/-- The encoder. -/
structure Qe where
  T : Tab
  B : Nat
  K : Nat
  op : List Qs
  rest : List UInt8
  err : Nat
  said : Bool
def Qe.new (cap : Nat) (B : Nat) : Qe := ⟨⟨[], cap, 0⟩, B, 0, [], [], 0, false⟩
def Qe.acc (E : Qe) (s : Nat) (l : List Fd) : Qa := qrun E.op E.K (freeQ E.op E.K E.B s) l ⟨E.T, capW E.said E.T.cap, [], [], 0⟩
def Qe.enc (E : Qe) (s : Nat) (l : List Fd) : Qe := ⟨(E.acc s l).T, E.B, E.K, if 0 < (E.acc s l).c then E.op ++ [⟨s, (E.acc s l).c, (E.acc s l).u⟩] else E.op, E.rest, E.err, true⟩
def Qe.sec (E : Qe) (s : Nat) (l : List Fd) : List UInt8 := qpre (E.acc s l).c (E.acc s l).c (E.T.cap / 32) ++ linesW (E.acc s l).c (E.acc s l).all

/-! ### what is pinned stands -/
theorem roomGo_keep {cap n : Nat} {pin : Nat → Bool} (hn : n ≤ cap) : ∀ (l : List Fd) (b : Nat), roomGo cap n pin l b = true → ∀ a, pin a = true → b ≤ a → a - b < l.length → l.length - (fits ((cap : Int) - (n : Int)) l).length ≤ a - b
  | [], b, _, a, _, _, h => by simp at h
  | g :: r, b, hr, a, hp, h1, h2 => by
    unfold roomGo at hr
    unfold fits
    by_cases hc : cap < sizeF (g :: r) + n
    · rw [if_pos hc] at hr
      rw [if_pos (by omega)]
      have hne : a ≠ b := fun e => by subst e; rw [hp] at hr; simp at hr
      cases hb : pin b with
      | true => rw [hb] at hr; simp at hr
      | false =>
        rw [hb] at hr
        simp only [Bool.false_eq_true, if_false] at hr
        have ih := roomGo_keep hn r (b + 1) hr a hp (by omega) (by simp only [List.length_cons] at h2; omega)
        have hl := fits_len ((cap : Int) - (n : Int)) r
        simp only [List.length_cons]
        omega
    · rw [if_neg (by omega)]
      omega

/-- Where a field stands by its absolute number. -/
def Tab.has (T : Tab) (a : Nat) (f : Fd) : Prop := T.first ≤ a ∧ T.l[a - T.first]? = some f
theorem Tab.has.lt {T : Tab} {a : Nat} {f : Fd} (h : T.has a f) : a - T.first < T.l.length := by
  obtain ⟨_, h2⟩ := h
  exact (List.getElem?_eq_some_iff.1 h2).1
theorem Tab.has.below {T : Tab} {a : Nat} {f : Fd} (hl : T.l.length ≤ T.tot) (h : T.has a f) : a < T.tot := by
  have h1 := h.lt
  have h2 := h.1
  unfold Tab.first at *
  omega
theorem add_has {T : Tab} {f : Fd} (hl : T.l.length ≤ T.tot) (hc : fsz f + 32 ≤ T.cap) : (T.add f).has T.tot f ∧ (T.add f).tot = T.tot + 1 := by
  have h1 := fits_len (T.room f) T.l
  unfold Tab.add
  rw [if_pos hc]
  refine ⟨⟨?_, ?_⟩, rfl⟩
  · unfold Tab.first
    simp only [List.length_append, List.length_singleton]
    omega
  · unfold Tab.first
    simp only [List.length_append, List.length_singleton]
    rw [show T.tot - (T.tot + 1 - ((fits (T.room f) T.l).length + 1)) = (fits (T.room f) T.l).length from by omega]
    simp
/-- What stands, and does not go, stands. -/
theorem has_add {T : Tab} {f g : Fd} {a : Nat} (hl : T.l.length ≤ T.tot) (hc : fsz f + 32 ≤ T.cap) (h : T.has a g) (hk : T.l.length - (fits (T.room f) T.l).length ≤ a - T.first) : (T.add f).has a g := by
  have h1 := fits_len (T.room f) T.l
  have h3 := h.lt
  obtain ⟨h4, h5⟩ := h
  have hd := fits_drop (T.room f) T.l
  unfold Tab.add
  rw [if_pos hc]
  refine ⟨?_, ?_⟩
  · unfold Tab.first at *
    simp only [List.length_append, List.length_singleton]
    omega
  · unfold Tab.first at *
    simp only [List.length_append, List.length_singleton]
    rw [List.getElem?_append_left (by omega)]
    generalize (fits (T.room f) T.l).length = n at *
    rw [hd, List.getElem?_drop, ← h5]
    congr 1
    omega
theorem roomQ_size {op : List Qs} {K : Nat} {T : Tab} {f : Fd} {now : List Nat} (h : roomQ op K T f now = true) : secN f.1 = false ∧ fsz f + 32 ≤ T.cap / 4 ∧ roomGo T.cap (fsz f + 32) (pinQ op K now) T.l T.first = true := by
  unfold roomQ at h
  simp only [Bool.and_eq_true, Bool.not_eq_true', decide_eq_true_eq] at h
  exact ⟨h.1, h.2.1, h.2.2⟩
theorem findT_has {T : Tab} {f : Fd} (h : (findT T.l T.first f).2.2 = true) : T.has (findT T.l T.first f).1 f := by
  obtain ⟨h1, h2, h3⟩ := findT_both h
  exact ⟨h1, by rw [List.getElem?_eq_getElem h2, h3]⟩

/-- What a line leads to, over a table. -/
def okL (T : Tab) (u : List Nat) (c : Nat) (x : Ql) : Prop :=
  (x.k = 0 ∧ T3[x.i]? = some x.f) ∨ (x.k = 1 ∧ x.i ∈ u ∧ x.i < c ∧ T.has x.i x.f) ∨ (x.k = 2 ∧ ∃ g, T3[x.i]? = some g ∧ g.1 = x.f.1) ∨ x.k = 3
/-- A table in order. -/
structure Tab.gq (T : Tab) : Prop where
  len : T.l.length ≤ T.tot
  size : sizeF T.l ≤ T.cap
theorem Tab.gq.add {T : Tab} (h : T.gq) {f : Fd} (hc : fsz f + 32 ≤ T.cap) : (T.add f).gq ∧ (T.add f).cap = T.cap := by
  refine ⟨⟨?_, ?_⟩, T.add_cap f⟩
  · have := fits_len (T.room f) T.l
    have := h.len
    unfold Tab.add
    rw [if_pos hc]
    simp only [List.length_append, List.length_singleton]
    omega
  · rw [T.add_cap f]
    have := T.add_size f hc
    unfold Tab.add
    rw [if_pos hc]
    exact this
/-- The run's invariant: what was written tells the fields. -/
structure QInv (cap : Nat) (a : Qa) : Prop where
  gq : a.T.gq
  cap : a.T.cap = cap
  ok : ∀ x ∈ a.all, okL a.T a.u a.c x
  use : ∀ i ∈ a.u, i < a.c ∧ ∃ f, a.T.has i f
  cnt : a.c = 0 ∨ ∃ i ∈ a.u, a.c = i + 1

theorem okL.mono {T T' : Tab} {u u' : List Nat} {c c' : Nat} {x : Ql} (h : okL T u c x) (hu : ∀ i ∈ u, i ∈ u') (hc : c ≤ c') (hT : ∀ i ∈ u, ∀ f, T.has i f → T'.has i f) : okL T' u' c' x := by
  rcases h with h | ⟨h1, h2, h3, h4⟩ | h | h
  · exact .inl h
  · exact .inr (.inl ⟨h1, hu _ h2, by omega, hT _ h2 _ h4⟩)
  · exact .inr (.inr (.inl h))
  · exact .inr (.inr (.inr h))
theorem litQ_ok (T : Tab) (u : List Nat) (c : Nat) (f : Fd) : okL T u c (litQ f) ∧ (litQ f).f = f := by
  unfold litQ
  cases h : (findS T3 f).2.1 with
  | true =>
    obtain ⟨hi, he⟩ := findS_name h
    exact ⟨.inr (.inr (.inl ⟨rfl, _, List.getElem?_eq_getElem hi, he⟩)), rfl⟩
  | false => exact ⟨.inr (.inr (.inr rfl)), rfl⟩
theorem QInv.line {cap : Nat} {a : Qa} (h : QInv cap a) {x : Ql} (hx : okL a.T a.u a.c x) : QInv cap (a.line x) :=
  ⟨h.gq, h.cap, fun y hy => by
    rcases List.mem_append.1 hy with hy | hy
    · exact h.ok y hy
    · rw [List.mem_singleton.1 hy]; exact hx, h.use, h.cnt⟩
theorem QInv.ref {cap : Nat} {a : Qa} (h : QInv cap a) {f : Fd} {i : Nat} (hi : a.T.has i f) : QInv cap (a.ref f i) := by
  refine ⟨h.gq, h.cap, fun y hy => ?_, fun j hj => ?_, ?_⟩
  · rcases List.mem_append.1 hy with hy | hy
    · exact (h.ok y hy).mono (fun j hj => List.mem_append_left _ hj) (Nat.le_max_left _ _) (fun _ _ _ h => h)
    · rw [List.mem_singleton.1 hy]
      exact .inr (.inl ⟨rfl, List.mem_append_right _ (List.mem_singleton_self _), by show i < max a.c (i + 1); omega, hi⟩)
  · show j < max a.c (i + 1) ∧ _
    rcases List.mem_append.1 hj with hj | hj
    · obtain ⟨h1, h2⟩ := h.use j hj
      exact ⟨by omega, h2⟩
    · rw [List.mem_singleton.1 hj]
      exact ⟨by omega, f, hi⟩
  · show max a.c (i + 1) = 0 ∨ ∃ j ∈ a.u ++ [i], max a.c (i + 1) = j + 1
    rcases Nat.le_total a.c (i + 1) with hm | hm
    · exact .inr ⟨i, List.mem_append_right _ (List.mem_singleton_self _), by omega⟩
    · rcases h.cnt with h0 | ⟨j, hj, e⟩
      · omega
      · exact .inr ⟨j, List.mem_append_left _ hj, by omega⟩
theorem QInv.insd {cap : Nat} {a : Qa} (h : QInv cap a) {op : List Qs} {K : Nat} {f : Fd} (hr : roomQ op K a.T f a.u = true) : QInv cap (a.insd f) := by
  obtain ⟨_, h1, h2⟩ := roomQ_size hr
  have hc : fsz f + 32 ≤ a.T.cap := by omega
  have hkeep : ∀ i ∈ a.u, ∀ g, a.T.has i g → (a.T.add f).has i g := fun i hi g hg => by
    refine has_add h.gq.len hc hg ?_
    have := roomGo_keep hc a.T.l a.T.first h2 i (by unfold pinQ; simp [hi]) hg.1 hg.lt
    exact this
  obtain ⟨g1, g2⟩ := h.gq.add hc
  exact ⟨g1, by rw [← h.cap]; exact g2, fun y hy => (h.ok y hy).mono (fun _ h => h) (Nat.le_refl _) hkeep, fun j hj => by
    obtain ⟨h3, g, h4⟩ := h.use j hj
    exact ⟨h3, g, hkeep j hj g h4⟩, h.cnt⟩
theorem QInv.step {cap : Nat} {a : Qa} (h : QInv cap a) (op : List Qs) (K : Nat) (free : Bool) (f : Fd) : QInv cap (qstep op K free a f) ∧ (qstep op K free a f).all.map (·.f) = a.all.map (·.f) ++ [f] := by
  unfold qstep
  cases hs : (findS T3 f).2.2 with
  | true =>
    obtain ⟨hi, he⟩ := findS_both hs
    simp only [if_true]
    exact ⟨h.line (.inl ⟨rfl, by rw [List.getElem?_eq_getElem hi, he]⟩), by simp [Qa.line]⟩
  | false =>
    simp only [Bool.false_eq_true, if_false]
    split
    · rename_i hd
      simp only [Bool.and_eq_true] at hd
      exact ⟨h.ref (findT_has hd.1), by simp [Qa.ref]⟩
    · split
      · rename_i hr
        simp only [Bool.and_eq_true] at hr
        have h2 := h.insd hr.2
        cases free with
        | true =>
          obtain ⟨_, h3, _⟩ := roomQ_size hr.2
          obtain ⟨g1, g2⟩ := add_has h.gq.len (show fsz f + 32 ≤ a.T.cap by omega)
          refine ⟨h2.ref ?_, by simp [Qa.ref, Qa.insd]⟩
          show (a.T.add f).has ((a.T.add f).tot - 1) f
          rw [g2, Nat.add_sub_cancel]
          exact g1
        | false =>
          exact ⟨h2.line (litQ_ok _ _ _ f).1, by simp [Qa.line, Qa.insd, (litQ_ok a.T a.u a.c f).2]⟩
      · exact ⟨h.line (litQ_ok _ _ _ f).1, by simp [Qa.line, (litQ_ok a.T a.u a.c f).2]⟩
theorem QInv.run {cap : Nat} (op : List Qs) (K : Nat) (free : Bool) : ∀ (l : List Fd) {a : Qa}, QInv cap a → QInv cap (qrun op K free l a) ∧ (qrun op K free l a).all.map (·.f) = a.all.map (·.f) ++ l
  | [], a, h => ⟨h, by simp [qrun]⟩
  | f :: l, a, h => by
    obtain ⟨h1, h2⟩ := h.step op K free f
    obtain ⟨h3, h4⟩ := QInv.run op K free l h1
    exact ⟨h3, by
      show (qrun op K free l (qstep op K free a f)).all.map (·.f) = _
      rw [h4, h2, List.append_assoc]; rfl⟩
theorem qrun_take (op : List Qs) (K : Nat) (free : Bool) (l : List Fd) (a : Qa) (k : Nat) (hk : k < l.length) : qrun op K free (l.take (k + 1)) a = qstep op K free (qrun op K free (l.take k) a) l[k] := by
  unfold qrun
  rw [List.take_succ_eq_append_getElem hk, List.foldl_append]
  rfl
/-- The count is within its window. -/
theorem QInv.window {cap : Nat} {a : Qa} (h : QInv cap a) : a.c ≤ a.T.tot ∧ (a.c ≠ 0 → cap / 32 ≠ 0 ∧ a.T.tot + cap / 32 < a.c + 2 * (cap / 32)) := by
  have hl := sizeF_len a.T.l
  have hs := h.gq.size
  rw [h.cap] at hs
  rcases h.cnt with h0 | ⟨i, hi, e⟩
  · exact ⟨by omega, fun hn => absurd h0 hn⟩
  · obtain ⟨_, f, hf⟩ := h.use i hi
    have h1 := hf.below h.gq.len
    have h2 := hf.lt
    have h3 := hf.1
    have h4 : a.T.l.length ≤ cap / 32 := by omega
    refine ⟨by omega, fun _ => ⟨by omega, ?_⟩⟩
    have := h.gq.len
    unfold Tab.first at *
    omega

end Go.Proofs.Ytebakjdeighdnaa

/-
  Maps told by what they answer; places told once; how many sections use a place; which streams are blocked: plain mathematics.
-/
namespace Go.Proofs.Ytebakjdeighdnaa
open Go.RowKit Go.Maps
set_option linter.unusedVariables false

/-! ### maps -/
/-- How keys read. -/
structure Kl {κ : Type} (kl : κ → Lit) (ok : κ → Prop) : Prop where
  inj : ∀ a b, ok a → ok b → kl a = kl b → a = b
  key : ∀ a, ok a → WideAt.IsKeyLit (kl a)
/-- What a map answers to each key. -/
structure Mf {κ : Type} (kl : κ → Lit) (ok : κ → Prop) (f : κ → Option (DataW Unit)) (D : DataW Unit) : Prop where
  tidy : Tidy D
  keys : ∀ es, D = .map es → ∀ p ∈ es, ∃ k, ok k ∧ p.1 = kl k
  has : ∀ k, ok k → Maps.has D (kl k) = (f k).isSome
  at_ : ∀ k, ok k → ∀ z, D.atKey (kl k) z = (f k).getD z
section
variable {κ : Type} {kl : κ → Lit} {ok : κ → Prop} {f g : κ → Option (DataW Unit)} {D : DataW Unit}
theorem Mf.congr (h : Mf kl ok f D) (e : ∀ k, ok k → f k = g k) : Mf kl ok g D :=
  ⟨h.tidy, h.keys, fun k hk => by rw [h.has k hk, e k hk], fun k hk z => by rw [h.at_ k hk z, e k hk]⟩
theorem Mf.new (kl : κ → Lit) (ok : κ → Prop) : Mf kl ok (fun _ => none) (.map []) :=
  ⟨tidy_empty, (fun es e p hp => by injection e with e; subst e; cases hp), fun _ _ => rfl, fun _ _ _ => rfl⟩
theorem Mf.put [DecidableEq κ] (K : Kl kl ok) (h : Mf kl ok f D) {k : κ} (hk : ok k) (d : DataW Unit) : Mf kl ok (fun j => if j = k then some d else f j) (D.put (kl k) d) := by
  refine ⟨h.tidy.put (K.key k hk) d, fun es e p hp => ?_, fun j hj => ?_, fun j hj z => ?_⟩
  · obtain ⟨es0, rfl, _⟩ := h.tidy
    rw [DataW.put_eq] at e
    injection e with e
    subst e
    rcases List.mem_cons.1 ((WideShapes.insert_perm (kl k, d) _).mem_iff.1 hp) with rfl | hp
    · exact ⟨k, hk, rfl⟩
    · exact h.keys _ rfl p (List.mem_filter.1 hp).1
  · by_cases he : j = k
    · subst he
      rw [has_put_same h.tidy.isMap (K.key j hj), if_pos rfl]
      rfl
    · rw [has_put_other (fun e => he (K.inj _ _ hj hk e)), h.has j hj, if_neg he]
  · by_cases he : j = k
    · subst he
      rw [atKey_put_same h.tidy.isMap (K.key j hj), if_pos rfl]
      rfl
    · rw [atKey_put_other (fun e => he (K.inj _ _ hj hk e)), h.at_ j hj, if_neg he]
theorem Mf.del [DecidableEq κ] (K : Kl kl ok) (h : Mf kl ok f D) {k : κ} (hk : ok k) : Mf kl ok (fun j => if j = k then none else f j) (D.del (kl k)) := by
  refine ⟨h.tidy.del _, fun es e p hp => ?_, fun j hj => ?_, fun j hj z => ?_⟩
  · obtain ⟨es0, rfl, _⟩ := h.tidy
    rw [DataW.del_eq] at e
    injection e with e
    subst e
    exact h.keys _ rfl p (List.mem_filter.1 hp).1
  · by_cases he : j = k
    · subst he
      rw [has_del_same, if_pos rfl]
      rfl
    · rw [has_del_other (fun e => he (K.inj _ _ hj hk e)), h.has j hj, if_neg he]
  · by_cases he : j = k
    · subst he
      rw [atKey_del_same, if_pos rfl]
      rfl
    · rw [atKey_del_other (fun e => he (K.inj _ _ hj hk e)), h.at_ j hj, if_neg he]
theorem Mf.mem (h : Mf kl ok f D) {es : List (Lit × DataW Unit)} (e : D = .map es) {k : κ} (hk : ok k) {d : DataW Unit} (K : Kl kl ok) : (kl k, d) ∈ es ↔ f k = some d := by
  subst e
  obtain ⟨es0, e, hp⟩ := h.tidy
  injection e with e
  subst e
  constructor
  · intro hm
    have h1 : Maps.has (DataW.map es) (kl k) = true := List.any_eq_true.2 ⟨_, hm, WideAt.sameKey_self (K.key k hk)⟩
    have h2 := WideAt.atKey_mem .nil (K.key k hk) hp hm
    rw [h.at_ k hk] at h2
    rw [h.has k hk] at h1
    obtain ⟨y, hy⟩ := Option.isSome_iff_exists.1 h1
    rw [hy] at h2 ⊢
    exact congrArg some h2
  · intro hf
    have h1 := h.has k hk
    rw [hf] at h1
    obtain ⟨p, hp1, hp2⟩ := List.any_eq_true.1 h1
    have e1 := WideAt.sameKey_eq hp2
    have h2 := WideAt.atKey_mem .nil (K.key k hk) hp (show (kl k, p.2) ∈ es by rw [← e1]; exact hp1)
    rw [h.at_ k hk, hf] at h2
    have h3 : d = p.2 := h2
    rw [h3, ← e1]
    exact hp1
theorem Mf.filter (K : Kl kl ok) (h : Mf kl ok f D) (pd : Lit → DataW Unit → Bool) : Mf kl ok (fun j => (f j).filter fun d => !pd (kl j) d) (Lib.deleteFuncD pd D) := by
  obtain ⟨es, rfl, hp⟩ := h.tidy
  have key : ∀ k, ok k → ∀ z, (DataW.map (es.filter fun p => !pd p.1 p.2)).atKey (kl k) z = ((f k).filter fun d => !pd (kl k) d).getD z ∧ Maps.has (.map (es.filter fun p => !pd p.1 p.2)) (kl k) = ((f k).filter fun d => !pd (kl k) d).isSome := by
    intro k hk z
    cases hc : (f k).filter fun d => !pd (kl k) d with
    | none =>
      have hn : Maps.has (.map (es.filter fun p => !pd p.1 p.2)) (kl k) = false := by
        rw [has_eq, List.any_eq_false]
        intro p hpm hs
        obtain ⟨hpe, hpp⟩ := List.mem_filter.1 hpm
        have e1 := WideAt.sameKey_eq hs
        have hf := (h.mem rfl hk K).1 (show (kl k, p.2) ∈ es by rw [← e1]; exact hpe)
        rw [hf] at hc
        rw [e1] at hpp
        simp only [Option.filter, hpp, if_true] at hc
        cases hc
      exact ⟨atKey_of_not_has hn z, hn⟩
    | some d =>
      have hd : f k = some d ∧ (!pd (kl k) d) = true := by
        cases hf : f k with
        | none => rw [hf] at hc; cases hc
        | some y =>
          rw [hf] at hc
          simp only [Option.filter] at hc
          split at hc
          · rename_i hy
            injection hc with hc
            subst hc
            exact ⟨rfl, hy⟩
          · cases hc
      have hm : (kl k, d) ∈ es.filter fun p => !pd p.1 p.2 := List.mem_filter.2 ⟨(h.mem rfl hk K).2 hd.1, hd.2⟩
      exact ⟨WideAt.atKey_mem z (K.key k hk) (hp.filter _) hm, List.any_eq_true.2 ⟨_, hm, WideAt.sameKey_self (K.key k hk)⟩⟩
  refine ⟨⟨_, rfl, hp.filter _⟩, fun es' e p hpm => ?_, fun k hk => (key k hk .nil).2, fun k hk z => (key k hk z).1⟩
  injection e with e
  subst e
  exact h.keys _ rfl p (List.mem_filter.1 hpm).1
/-- How many keys there are. -/
theorem Mf.size (K : Kl kl ok) (h : Mf kl ok f D) {ks : List κ} (hn : ks.Nodup) (hk : ∀ k, k ∈ ks ↔ ok k ∧ (f k).isSome = true) : Maps.size D = ks.length := by
  obtain ⟨es, rfl, hp⟩ := h.tidy
  have h1 : (es.map Prod.fst).Nodup := List.pairwise_map.2 hp
  have h2 : (ks.map kl).Nodup := List.pairwise_map.2 (List.Pairwise.imp_of_mem (fun {a b} ha hb hne e => hne (K.inj _ _ ((hk a).1 ha).1 ((hk b).1 hb).1 e)) hn)
  have hperm := (List.perm_ext_iff_of_nodup h1 h2).2 fun x => by
    constructor
    · intro hx
      obtain ⟨p, hp1, rfl⟩ := List.mem_map.1 hx
      obtain ⟨k, hok, e⟩ := h.keys _ rfl p hp1
      have hf := (h.mem rfl hok K).1 (show (kl k, p.2) ∈ es by rw [← e]; exact hp1)
      exact List.mem_map.2 ⟨k, (hk k).2 ⟨hok, by rw [hf]; rfl⟩, e.symm⟩
    · intro hx
      obtain ⟨k, hk1, rfl⟩ := List.mem_map.1 hx
      obtain ⟨hok, hs⟩ := (hk k).1 hk1
      obtain ⟨d, hd⟩ := Option.isSome_iff_exists.1 hs
      exact List.mem_map.2 ⟨_, (h.mem rfl hok K).2 hd, rfl⟩
  have := hperm.length_eq
  rw [List.length_map, List.length_map] at this
  exact this
end
theorem size_put_le {D : DataW Unit} (h : Tidy D) (k : Lit) (d : DataW Unit) : Maps.size (D.put k d) ≤ Maps.size D + 1 := by
  rw [size_put h]; split <;> omega
theorem size_put_old {D : DataW Unit} (h : Tidy D) {k : Lit} (d : DataW Unit) (hh : Maps.has D k = true) : Maps.size (D.put k d) = Maps.size D := by
  rw [size_put h, if_pos hh]
theorem size_del_le {D : DataW Unit} (h : Tidy D) (k : Lit) : Maps.size (D.del k) ≤ Maps.size D := by
  have := size_del (k := k) h; omega
theorem size_filter_le (pd : Lit → DataW Unit → Bool) {D : DataW Unit} (h : Tidy D) : Maps.size (Lib.deleteFuncD pd D) ≤ Maps.size D := by
  obtain ⟨es, rfl, _⟩ := h
  exact List.length_filter_le _ es

/-! ### places, each once -/
def uqGo (r l : List Nat) : List Nat := l.foldl (fun r a => if a ∈ r then r else r ++ [a]) r
def uq (l : List Nat) : List Nat := uqGo [] l
theorem uq_nil : uq [] = [] := rfl
theorem uq_snoc (l : List Nat) (a : Nat) : uq (l ++ [a]) = if a ∈ uq l then uq l else uq l ++ [a] := by
  unfold uq uqGo
  rw [List.foldl_append]
  rfl
theorem mem_uqGo (a : Nat) : ∀ l r : List Nat, a ∈ uqGo r l ↔ a ∈ r ∨ a ∈ l
  | [], r => by simp [uqGo]
  | b :: l, r => by
    show a ∈ uqGo (if b ∈ r then r else r ++ [b]) l ↔ _
    rw [mem_uqGo a l]
    split
    · rename_i hb
      rw [List.mem_cons]
      constructor
      · rintro (h | h)
        · exact .inl h
        · exact .inr (.inr h)
      · rintro (h | h | h)
        · exact .inl h
        · subst h; exact .inl hb
        · exact .inr h
    · rw [List.mem_append, List.mem_singleton, List.mem_cons, or_assoc]
theorem mem_uq {a : Nat} {l : List Nat} : a ∈ uq l ↔ a ∈ l := by
  unfold uq
  rw [mem_uqGo]
  simp
theorem uqGo_nodup : ∀ l r : List Nat, r.Nodup → (uqGo r l).Nodup
  | [], r, h => h
  | b :: l, r, h => by
    show (uqGo (if b ∈ r then r else r ++ [b]) l).Nodup
    refine uqGo_nodup l _ ?_
    split
    · exact h
    · rename_i hb
      rw [List.nodup_append]
      exact ⟨h, by simp, fun a ha c hc e => by rw [List.mem_singleton] at hc; subst hc; subst e; exact hb ha⟩
theorem uq_nodup (l : List Nat) : (uq l).Nodup := uqGo_nodup l [] List.nodup_nil
theorem uq_eq_nil {l : List Nat} : uq l = [] ↔ l = [] := by
  constructor
  · intro h
    cases l with
    | nil => rfl
    | cons a l => have : a ∈ uq (a :: l) := mem_uq.2 (List.mem_cons_self ..); rw [h] at this; cases this
  · rintro rfl; rfl

/-! ### sections -/
def secs (op : List Qs) (s : Nat) : List Qs := op.filter fun x => decide (x.s = s)
def dropS : List Qs → Nat → List Qs
  | [], _ => []
  | x :: op, s => if x.s = s then op else x :: dropS op s
def goneS (op : List Qs) (s : Nat) : List Qs := op.filter fun x => !decide (x.s = s)
/-- How many sections use a place. -/
def cntU (U : List Qs) (a : Nat) : Nat := U.countP fun x => decide (a ∈ x.u)
theorem secs_cons (x : Qs) (op : List Qs) (s : Nat) : secs (x :: op) s = if x.s = s then x :: secs op s else secs op s := by
  unfold secs
  rw [List.filter_cons]
  by_cases h : x.s = s <;> simp [h]
theorem goneS_cons (x : Qs) (op : List Qs) (s : Nat) : goneS (x :: op) s = if x.s = s then goneS op s else x :: goneS op s := by
  unfold goneS
  rw [List.filter_cons]
  by_cases h : x.s = s <;> simp [h]
theorem secs_snoc (op : List Qs) (x : Qs) (s : Nat) : secs (op ++ [x]) s = secs op s ++ (if x.s = s then [x] else []) := by
  unfold secs
  rw [List.filter_append]
  congr 1
  by_cases h : x.s = s <;> simp [h]
theorem secs_drop_other {s t : Nat} (h : t ≠ s) : ∀ op : List Qs, secs (dropS op s) t = secs op t
  | [] => rfl
  | x :: op => by
    unfold dropS
    by_cases hx : x.s = s
    · rw [if_pos hx, secs_cons, if_neg (by omega)]
    · rw [if_neg hx, secs_cons, secs_cons, secs_drop_other h op]
theorem secs_drop_same (s : Nat) : ∀ op : List Qs, secs (dropS op s) s = (secs op s).tail
  | [] => rfl
  | x :: op => by
    unfold dropS
    by_cases hx : x.s = s
    · rw [if_pos hx, secs_cons, if_pos hx]
      rfl
    · rw [if_neg hx, secs_cons, secs_cons, if_neg hx, if_neg hx, secs_drop_same s op]
theorem secs_gone_other {s t : Nat} (h : t ≠ s) (op : List Qs) : secs (goneS op s) t = secs op t := by
  induction op with
  | nil => rfl
  | cons x op ih =>
    rw [goneS_cons, secs_cons]
    by_cases hx : x.s = s
    · rw [if_pos hx, if_neg (by omega), ih]
    · rw [if_neg hx, secs_cons, ih]
theorem secs_gone_same (s : Nat) (op : List Qs) : secs (goneS op s) s = [] := by
  induction op with
  | nil => rfl
  | cons x op ih =>
    rw [goneS_cons]
    by_cases hx : x.s = s
    · rw [if_pos hx, ih]
    · rw [if_neg hx, secs_cons, if_neg hx, ih]
theorem secs_nil_iff {op : List Qs} {s : Nat} : secs op s = [] ↔ ∀ x ∈ op, x.s ≠ s := by
  unfold secs
  rw [List.filter_eq_nil_iff]
  simp
theorem dropS_none {s : Nat} : ∀ {op : List Qs}, secs op s = [] → dropS op s = op
  | [], _ => rfl
  | x :: op, h => by
    rw [secs_cons] at h
    by_cases hx : x.s = s
    · rw [if_pos hx] at h; cases h
    · rw [if_neg hx] at h
      unfold dropS
      rw [if_neg hx, dropS_none h]
theorem goneS_none {op : List Qs} {s : Nat} (h : secs op s = []) : goneS op s = op := by
  unfold goneS
  rw [List.filter_eq_self]
  intro x hx
  simpa using secs_nil_iff.1 h x hx
theorem goneS_drop (s : Nat) : ∀ op : List Qs, goneS (dropS op s) s = goneS op s
  | [] => rfl
  | x :: op => by
    unfold dropS
    by_cases hx : x.s = s
    · rw [if_pos hx, goneS_cons, if_pos hx]
    · rw [if_neg hx, goneS_cons, goneS_cons, if_neg hx, if_neg hx, goneS_drop s op]
theorem find_secs (s : Nat) : ∀ op : List Qs, op.find? (fun x => decide (x.s = s)) = (secs op s).head?
  | [] => rfl
  | x :: op => by
    rw [List.find?_cons, secs_cons]
    by_cases hx : x.s = s
    · simp [hx]
    · simp only [hx, decide_false, if_false]
      exact find_secs s op
theorem cntU_cons (x : Qs) (U : List Qs) (a : Nat) : cntU (x :: U) a = cntU U a + if a ∈ x.u then 1 else 0 := by
  unfold cntU
  rw [List.countP_cons]
  by_cases h : a ∈ x.u <;> simp [h]
theorem cntU_drop (a : Nat) {s : Nat} {x : Qs} : ∀ {op : List Qs}, (secs op s).head? = some x → cntU op a = cntU (dropS op s) a + if a ∈ x.u then 1 else 0
  | [], h => by cases h
  | y :: op, h => by
    rw [secs_cons] at h
    unfold dropS
    by_cases hx : y.s = s
    · rw [if_pos hx] at h ⊢
      injection h with h
      subst h
      exact cntU_cons _ _ _
    · rw [if_neg hx] at h ⊢
      rw [cntU_cons, cntU_cons, cntU_drop a h]
      omega
theorem cntU_snoc (U : List Qs) (x : Qs) (a : Nat) : cntU (U ++ [x]) a = cntU U a + if a ∈ x.u then 1 else 0 := by
  unfold cntU
  rw [List.countP_append, List.countP_cons, List.countP_nil]
  by_cases h : a ∈ x.u <;> simp [h]
theorem cntU_le (U : List Qs) (a : Nat) : cntU U a ≤ U.length := List.countP_le_length
theorem cntU_pos {U : List Qs} {a : Nat} : 0 < cntU U a ↔ U.any (fun x => decide (a ∈ x.u)) = true := by
  unfold cntU
  rw [List.countP_pos_iff, List.any_eq_true]

/-! ### blocked -/
def mxGo (l : List Qs) : Nat := l.foldr (fun x m => max x.c m) 0
def mxc (U : List Qs) (s : Nat) : Nat := mxGo (secs U s)
def blkF (U : List Qs) (K s : Nat) : Option Nat := if K < mxc U s then some (mxc U s - 1) else none
theorem mxGo_lt {l : List Qs} {K : Nat} : K < mxGo l ↔ ∃ x ∈ l, K < x.c := by
  induction l with
  | nil => simp [mxGo]
  | cons a l ih =>
    show K < max a.c (mxGo l) ↔ _
    rw [show K < max a.c (mxGo l) ↔ K < a.c ∨ K < mxGo l from by omega, ih]
    simp
theorem mxGo_append (l m : List Qs) : mxGo (l ++ m) = max (mxGo l) (mxGo m) := by
  induction l with
  | nil => simp [mxGo]
  | cons a l ih =>
    show max a.c (mxGo (l ++ m)) = max (max a.c (mxGo l)) (mxGo m)
    rw [ih, Nat.max_assoc]
theorem blkF_some {U : List Qs} {K s : Nat} : (blkF U K s).isSome = blkQ U K s := by
  have h : K < mxc U s ↔ blkQ U K s = true := by
    unfold mxc blkQ
    rw [mxGo_lt, List.any_eq_true]
    unfold secs
    constructor
    · rintro ⟨x, hx, hc⟩
      obtain ⟨h1, h2⟩ := List.mem_filter.1 hx
      exact ⟨x, h1, by simp only [Bool.and_eq_true]; exact ⟨h2, by simpa using hc⟩⟩
    · rintro ⟨x, hx, hc⟩
      simp only [Bool.and_eq_true] at hc
      exact ⟨x, List.mem_filter.2 ⟨hx, hc.1⟩, by simpa using hc.2⟩
  unfold blkF
  cases hb : blkQ U K s with
  | true => rw [if_pos (h.2 hb)]; rfl
  | false => rw [if_neg (fun hc => by rw [h.1 hc] at hb; cases hb)]; rfl
theorem mxc_snoc (U : List Qs) (x : Qs) (s : Nat) : mxc (U ++ [x]) s = if x.s = s then max (mxc U s) x.c else mxc U s := by
  unfold mxc
  rw [secs_snoc, mxGo_append]
  split
  · simp [mxGo]
  · simp [mxGo]
theorem blkF_none (U : List Qs) (K s u : Nat) (us : List Nat) : blkF (U ++ [⟨s, 0, us⟩]) K u = blkF U K u := by
  have : mxc (U ++ [⟨s, 0, us⟩]) u = mxc U u := by
    rw [mxc_snoc]
    split
    · exact Nat.max_eq_left (Nat.zero_le _)
    · rfl
  unfold blkF
  rw [this]
/-- One place more. -/
theorem blkF_use (op : List Qs) (K s c i u : Nat) (us : List Nat) :
    blkF (op ++ [⟨s, max c (i + 1), us ++ [i]⟩]) K u = if u = s ∧ K ≤ i then some (max ((blkF (op ++ [⟨s, c, us⟩]) K s).getD 0) i) else blkF (op ++ [⟨s, c, us⟩]) K u := by
  have e1 : ∀ v, mxc (op ++ [⟨s, max c (i + 1), us ++ [i]⟩]) v = if s = v then max (mxc op v) (max c (i + 1)) else mxc op v := fun v => mxc_snoc _ _ _
  have e2 : ∀ v, mxc (op ++ [⟨s, c, us⟩]) v = if s = v then max (mxc op v) c else mxc op v := fun v => mxc_snoc _ _ _
  unfold blkF
  rw [e1, e2, e2, if_pos rfl]
  by_cases hu : s = u
  · subst hu
    rw [if_pos rfl, if_pos rfl]
    obtain ⟨m, hm⟩ : ∃ m, max (mxc op s) c = m := ⟨_, rfl⟩
    have hm2 : max (mxc op s) (max c (i + 1)) = max m (i + 1) := by omega
    rw [hm, hm2]
    by_cases hk : K ≤ i
    · rw [if_pos (show s = s ∧ K ≤ i from ⟨rfl, hk⟩), if_pos (by omega)]
      by_cases h2 : K < m
      · rw [if_pos h2]
        simp only [Option.getD_some, Option.some.injEq]
        omega
      · rw [if_neg h2]
        simp only [Option.getD_none, Option.some.injEq]
        omega
    · rw [if_neg (show ¬ (s = s ∧ K ≤ i) from fun h => hk h.2)]
      by_cases h2 : K < m
      · rw [if_pos h2, if_pos (by omega)]
        simp only [Option.some.injEq]
        omega
      · rw [if_neg h2, if_neg (by omega)]
  · rw [if_neg hu, if_neg hu, if_neg (show ¬ (u = s ∧ K ≤ i) from fun h => hu h.1.symm)]
/-- More is known. -/
theorem blkF_learn (op : List Qs) (K n s : Nat) (h : K < n) : blkF op n s = (blkF op K s).filter fun v => !decide (v < n) := by
  unfold blkF
  generalize mxc op s = m
  by_cases h1 : K < m
  · rw [if_pos h1]
    simp only [Option.filter]
    by_cases h2 : n < m
    · rw [if_pos h2, if_pos (by simp; omega)]
    · rw [if_neg h2, if_neg (by simp; omega)]
  · rw [if_neg h1, if_neg (by omega)]
    rfl
theorem mxc_drop_le (op : List Qs) (s u : Nat) : mxc (dropS op s) u ≤ mxc op u := by
  unfold mxc
  by_cases h : u = s
  · subst h
    rw [secs_drop_same]
    cases secs op u with
    | nil => exact Nat.le_refl _
    | cons a l => exact Nat.le_max_right _ _
  · rw [secs_drop_other h]
    exact Nat.le_refl _
/-- A section that goes, whose entries are known. -/
theorem blkF_drop (op : List Qs) (K s u : Nat) {x : Qs} (hx : (secs op s).head? = some x) (hc : x.c ≤ K) : blkF (dropS op s) K u = blkF op K u := by
  have key : K < mxc op u → mxc (dropS op s) u = mxc op u := fun h => by
    unfold mxc at h ⊢
    by_cases hu : u = s
    · subst hu
      rw [secs_drop_same]
      cases hl : secs op u with
      | nil => rfl
      | cons a l =>
        rw [hl] at hx h
        injection hx with hx
        subst hx
        show mxGo l = max a.c (mxGo l)
        have h2 : K < max a.c (mxGo l) := h
        omega
    · rw [secs_drop_other hu]
  have hle := mxc_drop_le op s u
  unfold blkF
  by_cases h : K < mxc op u
  · rw [key h]
  · rw [if_neg h, if_neg (by omega)]
theorem blkF_gone (op : List Qs) (K s u : Nat) : blkF (goneS op s) K u = if u = s then none else blkF op K u := by
  unfold blkF mxc
  by_cases hu : u = s
  · subst hu
    rw [secs_gone_same, if_pos rfl]
    exact if_neg (Nat.not_lt_zero _)
  · rw [secs_gone_other hu, if_neg hu]
/-- The blocked streams, each once. -/
theorem many_list (op : List Qs) (K : Nat) : ∀ n, n ≤ op.length → ∃ bl : List Nat, bl.Nodup ∧ (∀ s, s ∈ bl ↔ blkQ op K s = true ∧ ∃ x ∈ op.take n, x.s = s) ∧ bl.length = manyQ op K n
  | 0, _ => ⟨[], List.nodup_nil, fun s => by simp, rfl⟩
  | n + 1, hn => by
    obtain ⟨bl, h1, h2, h3⟩ := many_list op K n (by omega)
    have hg : op[n]? = some op[n] := List.getElem?_eq_getElem (by omega)
    have ht : op.take (n + 1) = op.take n ++ [op[n]] := List.take_succ_eq_append_getElem (by omega)
    obtain ⟨y, hy⟩ : ∃ y, op[n] = y := ⟨_, rfl⟩
    unfold manyQ
    rw [hg, hy]
    rw [hy] at ht
    simp only
    have hfr : frstQ op n y = true ↔ ¬ ∃ x ∈ op.take n, x.s = y.s := by
      unfold frstQ
      rw [List.all_eq_true]
      constructor
      · rintro h ⟨x, hx, e⟩
        exact (of_decide_eq_true (h x hx)) e
      · intro h x hx
        exact decide_eq_true fun e => h ⟨x, hx, e⟩
    by_cases hc : (frstQ op n y && blkQ op K y.s) = true
    · rw [if_pos hc]
      rw [Bool.and_eq_true] at hc
      have hnb : y.s ∉ bl := fun hm => hfr.1 hc.1 ((h2 _).1 hm).2
      refine ⟨y.s :: bl, List.nodup_cons.2 ⟨hnb, h1⟩, fun s => ?_, by rw [List.length_cons, h3]⟩
      rw [List.mem_cons, h2 s, ht]
      constructor
      · rintro (rfl | ⟨a, x, hx, e⟩)
        · exact ⟨hc.2, y, by simp, rfl⟩
        · exact ⟨a, x, List.mem_append_left _ hx, e⟩
      · rintro ⟨a, x, hx, e⟩
        rcases List.mem_append.1 hx with hx | hx
        · exact .inr ⟨a, x, hx, e⟩
        · rw [List.mem_singleton.1 hx] at e
          exact .inl e.symm
    · rw [if_neg hc]
      refine ⟨bl, h1, fun s => ?_, by rw [h3]; rfl⟩
      rw [h2 s, ht]
      constructor
      · rintro ⟨a, x, hx, e⟩
        exact ⟨a, x, List.mem_append_left _ hx, e⟩
      · rintro ⟨a, x, hx, e⟩
        rcases List.mem_append.1 hx with hx | hx
        · exact ⟨a, x, hx, e⟩
        · rw [List.mem_singleton.1 hx] at e
          refine ⟨a, ?_⟩
          rw [Bool.and_eq_true, e] at hc
          refine Decidable.byContradiction fun hn2 => hc ⟨hfr.2 ?_, a⟩
          rw [e]
          exact hn2
theorem many_keys (op : List Qs) (K : Nat) : ∃ bl : List Nat, bl.Nodup ∧ (∀ s, s ∈ bl ↔ blkQ op K s = true) ∧ bl.length = manyQ op K op.length := by
  obtain ⟨bl, h1, h2, h3⟩ := many_list op K op.length (Nat.le_refl _)
  refine ⟨bl, h1, fun s => ?_, h3⟩
  rw [h2 s, List.take_length]
  constructor
  · exact fun h => h.1
  · intro h
    refine ⟨h, ?_⟩
    unfold blkQ at h
    obtain ⟨x, hx, hc⟩ := List.any_eq_true.1 h
    rw [Bool.and_eq_true] at hc
    exact ⟨x, hx, of_decide_eq_true hc.1⟩

end Go.Proofs.Ytebakjdeighdnaa

/-
  What is no row of bytes stands, whatever is appended to a row of bytes.
-/
namespace Go.Proofs.Ytebakjdeighdnaa
open Go.RowKit
set_option linter.unusedVariables false

/-- Blocks that are no rows of bytes stand. -/
def NonB (w w' : World) : Prop := ∀ (k : Nat) (o : Obj), w.heap[k]? = some o → (∀ (c : Array Value) (z : Nat × Nat), o ≠ Obj.cells c 5 z) → w'.heap[k]? = some o
theorem NonB.refl (w : World) : NonB w w := fun _ _ h _ => h
theorem NonB.trans {a b c : World} (h : NonB a b) (k : NonB b c) : NonB a c := fun i o hi ho => k i o (h i o hi ho) ho
theorem NonB.of_below {w w' : World} (h : Below w.heap.size w w') : NonB w w' := fun k o hk _ => by rw [h.block k (Array.getElem?_eq_some_iff.1 hk).1]; exact hk
theorem NonB.alloc (w : World) (o : Obj) : NonB w (w.alloc o) := NonB.of_below ((Below.refl _ _).alloc (Nat.le_refl _) o)
theorem NonB.drew (w : World) : NonB w w.drew := NonB.of_below (Below.refl _ _).drew
theorem OwB.nonB {w w' : World} {B : Nat} {v : Value} {l : List UInt8} (h : OwB w B v l) (hg : w.grownBy w' v.ownBlock) : NonB w w' := fun k o hk ho => by
  rw [hg.block k (Array.getElem?_eq_some_iff.1 hk).1 (fun e => ?_)]
  · exact hk
  · rcases h.2 with ⟨rfl, _⟩ | ⟨g, cap, cur, rfl, _, hh, _⟩
    · simp [Value.ownBlock] at e
    · simp only [Value.ownBlock, Option.some.injEq] at e
      subst e
      rw [hk] at hh
      injection hh with hh
      exact ho _ _ hh
theorem NonB.fb {w w' : World} (h : NonB w w') {g : Nat} {cs : Array Value} {t : TypeId} {z : Nat × Nat} (hf : w.heap[g]? = some (.cells cs t z)) (ht : t ≠ 5) : w'.heap[g]? = some (.cells cs t z) :=
  h g _ hf fun c z e => by injection e with _ e2 _; exact ht e2

end Go.Proofs.Ytebakjdeighdnaa

/-
  Words of what stands in memory, by the blocks that they hold: side by side, behind a head block; what a call does to one of several. No type of the program is named here.
-/
namespace Go.Proofs.Ytebakjdeighdnaa
open Go.RowKit
set_option linter.unusedVariables false

theorem below_next {wA W w' : World} (h : Below wA.heap.size wA W) (hb : Below W.heap.size W w') : Below wA.heap.size wA w' := h.trans (hb.mono h.size)
theorem Fp.up {B : Nat} {w w' : World} (h : Below B w w') : Fp (fun k => B ≤ k) w w' := ⟨h.os, h.tape, h.output, h.size, fun k _ hn => h.block k (Nat.lt_of_not_le hn)⟩
theorem OwB.cat {w : World} {B : Nat} {x : Value} {l m : List UInt8} (h : w.ownsRow B 5 1 x (l.map bv ++ m.map bv).length (l.map bv ++ m.map bv)) : OwB w B x (l ++ m) := by
  unfold OwB
  rw [List.map_append]
  exact h
/-- A word: what stands, and a set of blocks that holds all of it. -/
abbrev Wx := World → (Nat → Prop) → Prop
/-- The word tells of its blocks alone. -/
structure Wd (X : Wx) : Prop where
  lt : ∀ {w : World} {S : Nat → Prop}, X w S → ∀ k, S k → k < w.heap.size
  kept : ∀ {w w' : World} {S : Nat → Prop}, X w S → w.heap.size ≤ w'.heap.size → (∀ k, S k → w'.heap[k]? = w.heap[k]?) → X w' S
section
variable {X X' Y Y' : Wx} {w w' : World} {S S' : Nat → Prop} {B : Nat}
theorem Wd.keep (hX : Wd X) (h : X w S) (hb : Below w.heap.size w w') : X w' S := hX.kept h hb.size fun k hk => hb.block k (hX.lt h k hk)
theorem Wd.besides (hX : Wd X) (h : X w S) (hf : Fp S' w w') (hd : ∀ k, S k → ¬ S' k) : X w' S := hX.kept h hf.size fun k hk => hf.block k (hX.lt h k hk) (hd k hk)
theorem Wd.turned (hX : Wd X) (h : X w S) (hb : Below w.heap.size w w') : Turn X S w w' := ⟨S, hX.keep h hb, fun k hk => .inl hk, Fp.of_below hb⟩

theorem Wd.after (hX : Wd X) {a b c : World} (ht : Turn X S a b) (hb : Below b.heap.size b c) : Turn X S a c := by
  obtain ⟨S', x, s, f⟩ := ht
  exact ⟨S', hX.keep x hb, s, f.then (Fp.of_below hb)⟩
theorem Turn.before {a b c : World} (hb : Below a.heap.size a b) (ht : Turn X S b c) : Turn X S a c := Turn.step (fun k hk => .inl hk) (Fp.of_below hb) ht
/-- Both, apart from one another. -/
def Both (X Y : Wx) : Wx := fun w S => ∃ S1 S2, X w S1 ∧ Y w S2 ∧ (∀ k, S1 k → ¬ S2 k) ∧ ∀ k, S k ↔ S1 k ∨ S2 k
theorem Wd.both (hX : Wd X) (hY : Wd Y) : Wd (Both X Y) := by
  constructor
  · rintro w S ⟨S1, S2, h1, h2, h3, h4⟩ k hk
    rcases (h4 k).1 hk with h | h
    · exact hX.lt h1 k h
    · exact hY.lt h2 k h
  · rintro w w' S ⟨S1, S2, h1, h2, h3, h4⟩ hs hb
    exact ⟨S1, S2, hX.kept h1 hs fun k hk => hb k ((h4 k).2 (.inl hk)), hY.kept h2 hs fun k hk => hb k ((h4 k).2 (.inr hk)), h3, h4⟩
theorem Both.swap (h : Both X Y w S) : Both Y X w S := by
  obtain ⟨S1, S2, h1, h2, h3, h4⟩ := h
  exact ⟨S2, S1, h2, h1, fun k a b => h3 k b a, fun k => (h4 k).trans Or.comm⟩
/-- The first one turns. -/
theorem Both.left (hY : Wd Y) {S1 S2 : Nat → Prop} (h2 : Y w S2) (h3 : ∀ k, S1 k → ¬ S2 k) (h4 : ∀ k, S k ↔ S1 k ∨ S2 k) (ht : Turn X' S1 w w') : Turn (Both X' Y) S w w' := by
  obtain ⟨S', x, s, f⟩ := ht
  refine ⟨fun k => S' k ∨ S2 k, ⟨S', S2, x, hY.besides h2 f (fun k hk hs => h3 k hs hk), fun k hk hs => ?_, fun k => Iff.rfl⟩, fun k hk => ?_, f.mono fun k hk => (h4 k).2 (.inl hk)⟩
  · rcases s k hk with h | h
    · exact h3 k h hs
    · have := hY.lt h2 k hs; omega
  · rcases hk with hk | hk
    · rcases s k hk with h | h
      · exact .inl ((h4 k).2 (.inl h))
      · exact .inr h
    · exact .inl ((h4 k).2 (.inr hk))
theorem Both.right (hX : Wd X) {S1 S2 : Nat → Prop} (h1 : X w S1) (h3 : ∀ k, S1 k → ¬ S2 k) (h4 : ∀ k, S k ↔ S1 k ∨ S2 k) (ht : Turn Y' S2 w w') : Turn (Both X Y') S w w' := by
  obtain ⟨S', x, s, f⟩ := Both.left hX h1 (fun k a b => h3 k b a) (fun k => (h4 k).trans Or.comm) ht
  exact ⟨S', x.swap, s, f⟩
theorem Both.fst (h : Both X Y w S) : ∃ S1, X w S1 ∧ ∀ k, S1 k → S k := by
  obtain ⟨S1, S2, h1, h2, h3, h4⟩ := h
  exact ⟨S1, h1, fun k hk => (h4 k).2 (.inl hk)⟩
theorem Both.snd (h : Both X Y w S) : ∃ S2, Y w S2 ∧ ∀ k, S2 k → S k := by
  obtain ⟨S1, S2, h1, h2, h3, h4⟩ := h
  exact ⟨S2, h2, fun k hk => (h4 k).2 (.inr hk)⟩

/-- A head block q of n cells, and what it holds. -/
def Hd (q : Nat) (ty : TypeId) (n : Nat) (F : Nat → Value) (X : Wx) : Wx := fun w S => ∃ S', w.rowIs q ty n F ∧ X w S' ∧ ¬ S' q ∧ ∀ k, S k ↔ S' k ∨ k = q
section
variable {q n : Nat} {ty : TypeId} {F F' : Nat → Value}
theorem Wd.hd (hX : Wd X) : Wd (Hd q ty n F X) := by
  constructor
  · rintro w S ⟨S', h1, h2, h3, h4⟩ k hk
    rcases (h4 k).1 hk with h | rfl
    · exact hX.lt h2 k h
    · exact h1.lt
  · rintro w w' S ⟨S', h1, h2, h3, h4⟩ hs hb
    exact ⟨S', h1.of_block (hb q ((h4 q).2 (.inr rfl))), hX.kept h2 hs (fun k hk => hb k ((h4 k).2 (.inl hk))), h3, h4⟩
theorem Hd.row (h : Hd q ty n F X w S) : w.rowIs q ty n F := by obtain ⟨_, h1, _⟩ := h; exact h1
theorem Hd.lt (h : Hd q ty n F X w S) : q < w.heap.size := h.row.lt
theorem Hd.has (h : Hd q ty n F X w S) : S q := by obtain ⟨S', _, _, _, h4⟩ := h; exact (h4 q).2 (.inr rfl)
theorem Hd.sub (h : Hd q ty n F X w S) : ∃ S', X w S' ∧ ¬ S' q ∧ ∀ k, S' k → S k := by obtain ⟨S', _, h2, h3, h4⟩ := h; exact ⟨S', h2, h3, fun k hk => (h4 k).2 (.inl hk)⟩
/-- A store into one of the head's cells. -/
theorem Hd.put (hX : Wd X) (h : Hd q ty n F X w S) (i : Nat) (v : Value) (hF : ∀ j, j < n → (if j = i then v else F j) = F' j) : Hd q ty n F' X (w.setCell ⟨q, i, none⟩ v) S ∧ Fp S w (w.setCell ⟨q, i, none⟩ v) := by
  obtain ⟨S', h1, h2, h3, h4⟩ := h
  have hf : Fp (fun k => k = q) w (w.setCell ⟨q, i, none⟩ v) := Fp.set _ _ _ _ rfl
  exact ⟨⟨S', (h1.set i v).congr hF, hX.besides h2 hf (fun k hk e => h3 (e ▸ hk)), h3, h4⟩, hf.mono fun k hk => (h4 k).2 (.inr hk)⟩
theorem Hd.set (hX : Wd X) (h : Hd q ty n F X w S) (i : Nat) (v : Value) (hF : ∀ j, j < n → (if j = i then v else F j) = F' j) : Turn (Hd q ty n F' X) S w (w.setCell ⟨q, i, none⟩ v) :=
  ⟨S, (h.put hX i v hF).1, fun k hk => .inl hk, (h.put hX i v hF).2⟩
/-- What the head holds turns. -/
theorem Hd.turn (h : Hd q ty n F X w S) (ht : ∀ S', X w S' → Turn X' S' w w') : Turn (Hd q ty n F X') S w w' := by
  obtain ⟨S', h1, h2, h3, h4⟩ := h
  obtain ⟨S2, r2, s2, f2⟩ := ht S' h2
  have hsz := f2.size
  have hq := h1.lt
  refine ⟨fun k => S2 k ∨ k = q, ⟨S2, h1.of_block (f2.block q hq h3), r2, fun hs => ?_, fun k => Iff.rfl⟩, fun k hk => ?_, f2.mono fun k hk => (h4 k).2 (.inl hk)⟩
  · rcases s2 q hs with h | h
    · exact h3 h
    · omega
  · rcases hk with hk | rfl
    · rcases s2 k hk with h | h
      · exact .inl ((h4 k).2 (.inl h))
      · exact .inr h
    · exact .inl ((h4 k).2 (.inr rfl))
/-- What the head holds, for a call that turns it. -/
theorem Hd.opens (h : Hd q ty n F X w S) : ∃ S', X w S' ∧ ¬ S' q ∧ (∀ k, S' k → S k) ∧ ∀ (w' : World) (X' : Wx), Turn X' S' w w' → Turn (Hd q ty n F X') S w w' := by
  obtain ⟨S', h1, h2, h3, h4⟩ := h
  refine ⟨S', h2, h3, fun k hk => (h4 k).2 (.inl hk), fun w' X' ht => ?_⟩
  obtain ⟨S2, r2, s2, f2⟩ := ht
  have hsz := f2.size
  have hq := h1.lt
  refine ⟨fun k => S2 k ∨ k = q, ⟨S2, h1.of_block (f2.block q hq h3), r2, fun hs => ?_, fun k => Iff.rfl⟩, fun k hk => ?_, f2.mono fun k hk => (h4 k).2 (.inl hk)⟩
  · rcases s2 q hs with h | h
    · exact h3 h
    · omega
  · rcases hk with hk | rfl
    · rcases s2 k hk with h | h
      · exact .inl ((h4 k).2 (.inl h))
      · exact .inr h
    · exact .inl ((h4 k).2 (.inr rfl))
/-- A head that is made. -/
theorem Hd.new (hX : Wd X) (h : X w S) (c : Array Value) (hc : ∀ i, i < c.size → c[i]? = some (F i)) : Hd w.heap.size ty c.size F X (w.alloc (.cells c ty)) (fun k => S k ∨ k = w.heap.size) :=
  ⟨S, World.rowIs_alloc w c ty F hc, hX.keep h ((Below.refl _ _).alloc (Nat.le_refl _) _), fun hs => by have := hX.lt h _ hs; omega, fun k => Iff.rfl⟩
end

/-- All that the word tells of, made since block B. -/
def Up (B : Nat) (X : Wx) (w : World) : Prop := ∃ S, X w S ∧ ∀ k, S k → B ≤ k
theorem Up.keep (hX : Wd X) (h : Up B X w) (hb : Below w.heap.size w w') : Up B X w' := by
  obtain ⟨S, h1, h2⟩ := h
  exact ⟨S, hX.keep h1 hb, h2⟩
theorem Up.turn (hs : ∀ k, S k → B ≤ k) (hB : B ≤ w.heap.size) (ht : Turn X' S w w') : Up B X' w' ∧ Below B w w' := by
  obtain ⟨S1, x, s, f⟩ := ht
  exact ⟨⟨S1, x, fun k hk => (s k hk).elim (hs k) fun h => Nat.le_trans hB h⟩, f.below hB hs⟩
theorem Up.swap (h : Up B (Both X Y) w) : Up B (Both Y X) w := by
  obtain ⟨S, h1, h2⟩ := h
  exact ⟨S, h1.swap, h2⟩
theorem Up.fst (h : Up B (Both X Y) w) : Up B X w := by
  obtain ⟨S, h1, h2⟩ := h
  obtain ⟨S1, a, b⟩ := h1.fst
  exact ⟨S1, a, fun k hk => h2 k (b k hk)⟩
theorem Up.snd (h : Up B (Both X Y) w) : Up B Y w := h.swap.fst
/-- One of two, for a call that turns it. -/
theorem Up.open1 (hY : Wd Y) (h : Up B (Both X Y) w) (hB : B ≤ w.heap.size) : ∃ S1, X w S1 ∧ ∀ (w' : World) (X' : Wx), Turn X' S1 w w' → Up B (Both X' Y) w' ∧ Below B w w' := by
  obtain ⟨S, ⟨S1, S2, h1, h2, h3, h4⟩, h5⟩ := h
  exact ⟨S1, h1, fun w' X' ht => Up.turn h5 hB (Both.left hY h2 h3 h4 ht)⟩
theorem Up.open0 (h : Up B X w) (hB : B ≤ w.heap.size) : ∃ S1, X w S1 ∧ ∀ (w' : World) (X' : Wx), Turn X' S1 w w' → Up B X' w' ∧ Below B w w' := by
  obtain ⟨S, h1, h5⟩ := h
  exact ⟨S, h1, fun w' X' ht => Up.turn h5 hB ht⟩
/-- One more, made behind. -/
theorem Up.add (hX : Wd X) (h : Up B X w) (hB : B ≤ w.heap.size) (hb : Below w.heap.size w w') (hn : Up w.heap.size Y w') : Up B (Both X Y) w' := by
  obtain ⟨S, h1, h2⟩ := h
  obtain ⟨S', k1, k2⟩ := hn
  exact ⟨fun k => S k ∨ S' k, ⟨S, S', hX.keep h1 hb, k1, fun k a b => by have := hX.lt h1 k a; have := k2 k b; omega, fun k => Iff.rfl⟩, fun k hk => hk.elim (h2 k) fun h => Nat.le_trans hB (k2 k h)⟩
theorem Up.mono {B' : Nat} (h : Up B X w) (hB : B' ≤ B) : Up B' X w := by
  obtain ⟨S, h1, h2⟩ := h
  exact ⟨S, h1, fun k hk => Nat.le_trans hB (h2 k hk)⟩
theorem Up.assoc {Z : Wx} (h : Up B (Both X (Both Y Z)) w) : Up B (Both (Both X Y) Z) w := by
  obtain ⟨S, ⟨S1, S2, h1, ⟨S3, S4, k1, k2, k3, k4⟩, h3, h4⟩, h5⟩ := h
  refine ⟨S, ⟨fun k => S1 k ∨ S3 k, S4, ⟨S1, S3, h1, k1, fun k a b => h3 k a ((k4 k).2 (.inl b)), fun k => Iff.rfl⟩, k2, fun k a b => ?_, fun k => ?_⟩, h5⟩
  · rcases a with a | a
    · exact h3 k a ((k4 k).2 (.inr b))
    · exact k3 k a b
  · rw [h4 k, k4 k, or_assoc]

/-! ### what is no row of bytes -/
/-- The blocks of S stand, and none is a row of bytes. -/
def NoB (w : World) (S : Nat → Prop) : Prop := ∀ k, S k → ∃ o, w.heap[k]? = some o ∧ ∀ (c : Array Value) (z : Nat × Nat), o ≠ Obj.cells c 5 z
theorem NoB.same (hn : NoB w S) (h : NonB w w') : ∀ k, S k → w'.heap[k]? = w.heap[k]? := fun k hk => by
  obtain ⟨o, h1, h2⟩ := hn k hk
  rw [h1]; exact h k o h1 h2
theorem NoB.non (hn : NoB w S) (h : NonB w w') : NoB w' S := fun k hk => by
  obtain ⟨o, h1, h2⟩ := hn k hk
  exact ⟨o, h k o h1 h2, h2⟩
theorem NoB.keep (hn : NoB w S) (h : Below w.heap.size w w') : NoB w' S := hn.non (NonB.of_below h)
theorem NoB.not {v : Value} {l : List UInt8} (hn : NoB w S) (h : OwB w B v l) : ∀ k, v.ownBlock = some k → ¬ S k := fun k hk hs => by
  obtain ⟨o, h1, h2⟩ := hn k hs
  rcases h.2 with ⟨rfl, _⟩ | ⟨g, cap, cur, rfl, hg, hh, rest⟩
  · simp [Value.ownBlock] at hk
  · simp only [Value.ownBlock, Option.some.injEq] at hk
    subst hk
    rw [h1] at hh
    injection hh with hh
    exact h2 _ _ hh
theorem OwB.besides {v : Value} {l : List UInt8} (h : OwB w B v l) (hn : NoB w S) (hf : Fp S w w') : OwB w' B v l := h.kept fun k hk => hf.block k (h.lt hk) (hn.not h k hk)
theorem NoB.row {q n : Nat} {ty : TypeId} {F : Nat → Value} (h : w.rowIs q ty n F) (ht : ty ≠ 5) : ∃ o, w.heap[q]? = some o ∧ ∀ (c : Array Value) (z : Nat × Nat), o ≠ Obj.cells c 5 z := by
  obtain ⟨c, hc, _⟩ := h
  exact ⟨_, hc, fun c z e => by injection e with _ e2 _; exact ht e2⟩
/-- The word's blocks can be told so closely that none is a row of bytes. -/
def Ex (X : Wx) : Prop := ∀ (w : World) (S : Nat → Prop), X w S → ∃ E, X w E ∧ (∀ k, E k → S k) ∧ NoB w E
theorem Ex.hd {q n : Nat} {ty : TypeId} {F : Nat → Value} (hX : Ex X) (ht : ty ≠ 5) : Ex (Hd q ty n F X) := by
  rintro w S ⟨S', h1, h2, h3, h4⟩
  obtain ⟨E, e1, e2, e3⟩ := hX w S' h2
  refine ⟨fun k => E k ∨ k = q, ⟨E, h1, e1, fun h => h3 (e2 _ h), fun k => Iff.rfl⟩, fun k hk => (h4 k).2 (hk.imp (e2 k) id), fun k hk => ?_⟩
  rcases hk with hk | rfl
  · exact e3 k hk
  · exact NoB.row h1 ht
theorem Ex.both (hX : Ex X) (hY : Ex Y) : Ex (Both X Y) := by
  rintro w S ⟨S1, S2, h1, h2, h3, h4⟩
  obtain ⟨E, e1, e2, e3⟩ := hX w S1 h1
  obtain ⟨G, g1, g2, g3⟩ := hY w S2 h2
  exact ⟨fun k => E k ∨ G k, ⟨E, G, e1, g1, fun k a b => h3 k (e2 k a) (g2 k b), fun k => Iff.rfl⟩, fun k hk => (h4 k).2 (hk.imp (e2 k) (g2 k)), fun k hk => hk.elim (e3 k) (g3 k)⟩
theorem Turn.sub {E : Nat → Prop} (ht : Turn X E w w') (hs : ∀ k, E k → S k) : Turn X S w w' := by
  obtain ⟨S', x, s, f⟩ := ht
  exact ⟨S', x, fun k hk => (s k hk).imp (hs k) id, f.mono hs⟩
/-- A turn tells its blocks closely, too. -/
theorem Turn.close (hX : Ex X) (ht : Turn X S w w') : ∃ E, X w' E ∧ (∀ k, E k → S k ∨ w.heap.size ≤ k) ∧ Fp S w w' ∧ NoB w' E := by
  obtain ⟨S', x, s, f⟩ := ht
  obtain ⟨E, e1, e2, e3⟩ := hX w' S' x
  exact ⟨E, e1, fun k hk => s k (e2 k hk), f, e3⟩
end
end Go.Proofs.Ytebakjdeighdnaa

/-
  Contract of henc.number.
-/
namespace Go.Proofs.Ytebakjdeighdnaa
open Go.RowKit
set_option linter.unusedVariables false

set_option maxRecDepth 100000 in
set_option maxHeartbeats 1000000 in
theorem number_any (bV : Value) (bl : List UInt8) (m f : UInt8) (k : Nat) (hk1 : 1 ≤ k) (hk7 : k ≤ 7) (hf : IntKind.u8.wrap ((m.toNat : Int) * 2 ^ k) = (f.toNat : Int)) (v : Nat) (w : World) (hb : Bs w bV bl) (hbl : bl.length ≤ 200000) (hv : v < 18446744073709551616) :
    Calls Try.prog 66 #[bV, .int .u8 m.toNat, .int .i64 (k : Int), .int .u64 v] w fun e w' => ∃ v', e = .returned v' ∧ OwB w' w.heap.size v' (bl ++ pre f k v) ∧ Below w.heap.size w w' := by
  have hshl := shl_u8 k hk7 (m.toNat : Int)
  rw [hf] at hshl
  obtain ⟨mi, hmi⟩ : ∃ mi, (m.toNat : Int) = mi := ⟨_, rfl⟩
  obtain ⟨fi, hfi⟩ : ∃ fi, (f.toNat : Int) = fi := ⟨_, rfl⟩
  obtain ⟨ki, hki⟩ : ∃ ki, (k : Int) = ki := ⟨_, rfl⟩
  have hbk : bitsOf (k : Int) = k := by unfold bitsOf; omega
  have hc := prefix_own bV bl f (k : Int) v w hb hbl hv
  rw [hbk] at hc
  rw [hmi, hki]
  rw [hmi, hki, hfi] at hshl
  rw [hki, hfi] at hc
  have HC := Bx.mk hc
  clear hc hmi hki hfi hk1 hk7 hf hbk hb hbl hv
  go_enter Try.func66, Try.ntmps66
  go_wp2_with (go_at_call 41; refine HC.out.mono ?_; rintro e w1 ⟨v1, rfl, h1, b1⟩)
  go_ret
  exact ⟨_, rfl, h1, b1⟩

end Go.Proofs.Ytebakjdeighdnaa

/-
  Contracts of huff.Encode and henc.Str: what they hand back is a row of its own.
-/
namespace Go.Proofs.Ytebakjdeighdnaa
open Go.RowKit
set_option linter.unusedVariables false

def EncRelP (w : World) (s : ByteArray) (G : List UInt8) (o wd n i : Value) (wr : World) : Prop :=
  ∃ (k x m : Nat) (l1 : List UInt8), i = .int .i64 (k : Int) ∧ k ≤ s.size ∧ wd = .int .u64 (x : Int) ∧ x < 18446744073709551616 ∧ n = .int .i64 (m : Int) ∧ m < 8 ∧
    l1 ++ enc (s.data.toList.drop k) (x % 2 ^ m) m = G ∧ OwB wr w.heap.size o l1 ∧ Below w.heap.size w wr

/-- Within one sign: whole bytes are still to be written. -/
def EmitRelP (w : World) (G T : List UInt8) (y r : Nat) (o n : Value) (wr : World) : Prop :=
  ∃ (t : Nat) (l1 : List UInt8), n = .int .i64 (t : Int) ∧ t ≤ 37 ∧ t % 8 = r ∧ l1 ++ (emit (t / 8) y t ++ T) = G ∧ OwB wr w.heap.size o l1 ∧ Below w.heap.size w wr

set_option maxRecDepth 100000 in
set_option maxHeartbeats 1000000 in
theorem encode_own (bV : Value) (l : List UInt8) (s : ByteArray) (w : World) (hb : Bs w bV l) (hl : l.length ≤ 100000) (hs : s.size ≤ 100000) :
    Calls Try.prog 65 #[bV, .string s] w fun e w' => ∃ v', e = .returned v' ∧ OwB w' w.heap.size v' (l ++ enc s.data.toList 0 0) ∧ Below w.heap.size w w' := by
  obtain ⟨i0, hi, hz, hz1, hz2⟩ := info_parts infoU8
  have Hi := Lib.hid hi
  have Hz := Lib.hid hz
  have Hz1 := Lib.hid hz1
  have Hz2 := Lib.hid hz2
  clear hi hz hz1 hz2
  have HBV := Bx.mk hb
  have hlenb := fun ty W => hb.run_len ty W
  have hbl := bitLen_le s.data.toList
  have hsl : s.data.toList.length = s.size := by simp
  obtain ⟨c, hc⟩ : ∃ c, (bitLen s.data.toList + 7) / 8 = c := ⟨_, rfl⟩
  have hcb : c ≤ 400000 := by omega
  have HC := Bx.mk hc
  have HL := Bx.mk (show (enc s.data.toList 0 0).length = c by rw [enc_length _ _ _ (by omega), Nat.zero_add, hc])
  obtain ⟨G, hGd⟩ : ∃ G, l ++ enc s.data.toList 0 0 = G := ⟨_, rfl⟩
  rw [hGd]
  have HGD := Bx.mk hGd
  clear hb hbl hsl hc hGd
  generalize hL : l.length = L at hl hlenb
  have HLL := Bx.mk hL
  clear hL
  go_enter Try.func65, Try.ntmps65
  go_wp2_with (first
    | (go_at_call 77; refine (newCode_any _).mono ?_; rintro e w1 ⟨g, rfl, hg, b1⟩)
    | (with_reducible refine wpList_load (t := 117) (v := .agg LA) (by with_unfolding_all exact load_lengths hg) ?_)
    | (go_at_call 75; refine (hsize_any _ _ (by omega)).mono ?_; rintro e w2 ⟨rfl, b2⟩; rw [HC.out])
    | (at_make
       refine wpList_make_own _ rfl _ _ _ rfl w1.heap.size 5 i0 (.int .u8 0) 1 Try.underlying28 Hi.out Hz.out Hz1.out .i64 .i64 _ (L + c) rfl rfl (by simp) (by rw [Hz2.out]; omega) (by simp only [maxLen]; omega) b2.size ?_
       intro w3 hown hg3
       have b3 : Below w1.heap.size w1 w3 := b2.grown hg3 b2.size (by simp)
       clear b2 hg3)
    | (at_builtin
       refine wpList_append_og _ rfl _ _ 28 rfl w1.heap.size 5 i0 (.int .u8 0) 1 Try.underlying28 Hi.out Hz.out Hz1.out Hz2.out rfl _ _ [] (l.map bv) rfl rfl hown (Rd.keep (Rd.keep HBV.out b1) b3) one_bv (by have := HLL.out; simp; omega) (by have := HLL.out; simp [maxLen]; omega) b3.size ?_
       intro v4 w4 hap b4 _
       have b5 := b3.trans b4
       clear b3 b4 hown))
  rw [List.nil_append] at hap
  have HG := Bx.mk hg
  have HB1 := Bx.mk b1
  have HGL := Bx.mk (show G.length = L + c by rw [← HGD.out, List.length_append, HL.out, HLL.out])
  have hG : l ++ enc (s.data.toList.drop 0) (0 % 2 ^ 0) 0 = G := HGD.out
  clear hg b1 hlenb HLL HL HC HGD
  go_loopw [6, 7, 8, 27] (fun o wd n i wr => EncRelP w1 s G o wd n i wr) (fun _ _ _ i _ => s.size - (intOf i).toNat)
  case atStart => exact ⟨0, 0, 0, l, rfl, by omega, rfl, by omega, rfl, by omega, hG, hap, b5⟩
  case round =>
    obtain ⟨k, x, m, l1, rfl, hk, rfl, hx, rfl, hm, hG1, hap1, hb1⟩ := hrel
    clear hap b5 hG
    have HX := Bx.mk hx
    have HM := Bx.mk hm
    have HG1 := Bx.mk hG1
    have HAP := Bx.mk hap1
    have HB := Bx.mk hb1
    have hcode := HG.out.keep hb1
    clear hx hG1 hap1 hb1
    by_cases hlt : k < s.size
    · have hck : s[k].toNat < 256 := s[k].toNat_lt
      have hll := ll_byte s[k]
      have hc1 := (codeF_cell hcode).1 s[k].toNat (by omega)
      have hc2 := (codeF_cell hcode).2.1 s[k].toNat (by omega)
      clear hcode
      have HLB := Bx.mk hll
      obtain ⟨-, hll2, -⟩ := hll
      generalize hcl : ll s[k].toNat = n at hc1 hll2 HLB
      generalize hcc : cw s[k].toNat = v at hc2 HLB
      have HE : Bx (ll s[k].toNat = n ∧ cw s[k].toNat = v) := ⟨hcl, hcc⟩
      clear hcl hcc
      go_wp2
      go_region
      have hd1 : wr.drew.cell? ⟨g, 257 + s[k].toNat, none⟩ = some (.int .u32 (v : Int)) := hc2
      go_wp2
      go_region
      rw [word_or x n v hll2 HLB.out.2.2]
      have HY := Bx.mk (nw_lt x n v hll2 HLB.out.2.2)
      have HG2 : Bx (l1 ++ (emit ((m + n) / 8) (hnw x n v) (m + n) ++ enc (s.data.toList.drop (k + 1)) (hnw x n v % 2 ^ ((m + n) % 8)) ((m + n) % 8)) = G) := ⟨by
        have h := HG1.out
        rw [List.drop_eq_getElem_cons (by simpa using hlt)] at h
        have e := enc_step s[k] (s.data.toList.drop (k + 1)) x m hm
        rw [HE.out.1, HE.out.2] at e
        exact (congrArg (l1 ++ ·) e).symm.trans h⟩
      have HAP2 : Bx (OwB wr.drew.drew w1.heap.size u6 l1) := ⟨HAP.out.drew.drew⟩
      have HB2 : Bx (Below w1.heap.size w1 wr.drew.drew) := ⟨HB.out.drew.drew⟩
      have hmn : m + n ≤ 37 := by omega
      clear hc1 hc2 hd1 HG1 HAP HB HX HLB HE hck hll2
      generalize wr.drew.drew = w5 at HAP2 HB2 ⊢
      generalize hnw x n v = y at HY HG2 ⊢
      go_wp2
      go_loopw [6, 8] (fun o n' wr' => EmitRelP w1 G (enc (s.data.toList.drop (k + 1)) (y % 2 ^ ((m + n) % 8)) ((m + n) % 8)) y ((m + n) % 8) o n' wr') (fun _ n' _ => (intOf n').toNat)
      case atStart => exact ⟨m + n, l1, by go_num, hmn, rfl, HG2.out, HAP2.out, HB2.out⟩
      case round =>
        obtain ⟨t, l2, rfl, ht, ht8, hG2, hap2, hb2⟩ := hrel
        have HT8 := Bx.mk ht8
        have HG3 := Bx.mk hG2
        have HAP3 := Bx.mk hap2
        have HB3 := Bx.mk hb2
        clear ht8 hG2 hap2 hb2 HG2 HAP2 HB2
        have hlen : l2.length ≤ 500000 := by
          have h := congrArg List.length HG3.out
          rw [HGL.out, List.length_append] at h
          omega
        have hsz := HB3.out.size
        by_cases h8 : 8 ≤ t
        · go_wp2_with (first
            | (at_builtin
               refine wpList_append_og _ rfl _ _ 28 rfl w1.heap.size 5 i0 (.int .u8 0) 1 Try.underlying28 Hi.out Hz.out Hz1.out Hz2.out rfl _ _ (l2.map bv) _ rfl rfl (HAP3.out.alloc _) (Rd.lit wr 5 _ 1 rfl (by simp [maxLen])) (by simp [Value.oneCell']) (by simp; omega) (by simp [maxLen]; omega) (by simp; omega) ?_
               intro v6 w6 hap6 hb6 _))
          have HAP6 := Bx.mk (OwB.snoc hap6 (UInt8.ofNat (y / 2 ^ (t - 8) % 256)) (by rw [← byte_nat (by omega)]; simp))
          have HB6 : Bx (Below w1.heap.size w1 w6) := ⟨HB3.out.trans (((Below.refl _ _).alloc hsz _).trans hb6)⟩
          clear hap6 hb6
          go_wp2
          go_roundw
          case rel =>
            refine ⟨t - 8, l2 ++ [UInt8.ofNat (y / 2 ^ (t - 8) % 256)], by go_num, by omega, by have := HT8.out; omega, ?_, HAP6.out, HB6.out⟩
            have h := HG3.out
            rw [emit_next y t h8] at h
            rw [← h]
            simp
          case measure => simp [intOf]; omega
        · have HG4 : Bx (l2 ++ enc (s.data.toList.drop (k + 1)) (y % 2 ^ t) t = G) := ⟨by
            have h := HG3.out
            rw [emit_done y t (by omega), List.nil_append] at h
            have e := HT8.out
            rw [Nat.mod_eq_of_lt (by omega)] at e
            rw [e]; exact h⟩
          clear HG3 HT8
          go_wp2
          go_roundw
          case rel => exact ⟨k + 1, y, t, l2, by go_num, by omega, rfl, HY.out, rfl, by omega, HG4.out, HAP3.out, HB3.out⟩
          case measure => simp [intOf]; omega
    · clear hcode
      obtain rfl : k = s.size := by omega
      have HG4 : Bx (l1 ++ last (x % 2 ^ m) m = G) := ⟨by
        have h := HG1.out
        rw [List.drop_of_length_le (by simp)] at h
        exact h⟩
      have hlen : l1.length ≤ 500000 := by
        have h := congrArg List.length HG4.out
        rw [HGL.out, List.length_append] at h
        omega
      have hsz := HB.out.size
      clear HG1
      by_cases h0 : 0 < m
      · go_wp2
        go_region_law (refine step_append_og rfl (.tmp 72) (.tmp 81) 28 rfl w1.heap.size 5 i0 (.int .u8 0) 1 Try.underlying28 Hi.out Hz.out Hz1.out Hz2.out rfl _ _ (l1.map bv) _ rfl rfl (HAP.out.drew.alloc _) (Rd.lit wr.drew 5 _ 1 rfl (by simp [maxLen])) (by simp [Value.oneCell']) (by simp; omega) (by simp [maxLen]; omega) (by simp; omega) ?_; intro v2 w2 hap2 hb2 _)
        have HAP2 := Bx.mk (OwB.snoc hap2 (UInt8.ofNat (x % 2 ^ m * 2 ^ (8 - m) + (2 ^ (8 - m) - 1))) (by rw [last_byte x m h0 hm]; exact byte_nat (last_lt x m h0 hm)))
        have HB2 : Bx (Below w1.heap.size w1 w2) := ⟨HB.out.trans (((Below.refl _ _).alloc hsz _).drew.trans hb2)⟩
        clear hap2 hb2
        go_wp2
        go_ret
        refine ⟨_, rfl, ?_, HB1.out.trans (HB2.out.mono HB1.out.size)⟩
        have h := HG4.out
        rw [last, if_neg (by omega)] at h
        rw [← h]
        exact HAP2.out.mono HB1.out.size
      · obtain rfl : m = 0 := by omega
        go_wp2
        go_ret
        refine ⟨_, rfl, ?_, HB1.out.trans (HB.out.mono HB1.out.size)⟩
        have h := HG4.out
        simp only [last, if_true, List.append_nil] at h
        rw [← h]
        exact HAP.out.mono HB1.out.size

end Go.Proofs.Ytebakjdeighdnaa

/-
  Capacities that change between blocks, told ahead of the next one; a whole block, read back.
-/
namespace Go.Proofs.Ytebakjdeighdnaa
open Go.RowKit
set_option linter.unusedVariables false

theorem fits_fits (a b : Int) : ∀ l : List Fd, fits a (fits b l) = fits (min a b) l
  | [] => rfl
  | f :: l => by
    by_cases hb : b < (sizeF (f :: l) : Int)
    · have e1 : fits b (f :: l) = fits b l := by rw [fits, if_pos hb]
      have e2 : fits (min a b) (f :: l) = fits (min a b) l := by rw [fits, if_pos (by omega)]
      rw [e1, e2, fits_fits a b l]
    · have e1 : fits b (f :: l) = f :: l := by rw [fits, if_neg hb]
      rw [e1]
      by_cases ha : a < (sizeF (f :: l) : Int)
      · rw [show min a b = a by omega]
      · rw [fits, if_neg ha, fits, if_neg (by omega)]

/-- What is to be told ahead of the next block: the least capacity since the last one. -/
def lessN (le : Option Nat) (n : Nat) : Nat := match le with
  | none => n
  | some m => min n m
/-- The encoder's table, its least capacity since the last block, the table that the other side has. -/
structure Enc (U T : Tab) (le : Option Nat) : Prop where
  tot : T.tot = U.tot
  same : le = none → T = U
  less : ∀ m, le = some m → m ≤ T.cap ∧ T.l = fits (m : Int) U.l
theorem Enc.start (T : Tab) : Enc T T none := ⟨rfl, fun _ => rfl, fun m h => nomatch h⟩
theorem Enc.resize {U T : Tab} {le : Option Nat} (h : Enc U T le) (n : Nat) : Enc U (T.resize (n : Int)) (some (lessN le n)) := by
  refine ⟨h.tot, (fun e => nomatch e), fun m hm => ?_⟩
  injection hm with hm
  subst hm
  cases le with
  | none =>
    have := h.same rfl
    subst this
    exact ⟨by simp [lessN, Tab.resize], by simp [lessN, Tab.resize]⟩
  | some k =>
    obtain ⟨h1, h2⟩ := h.less k rfl
    refine ⟨by simp only [lessN, Tab.resize]; omega, ?_⟩
    simp only [lessN, Tab.resize]
    rw [h2, fits_fits]
    congr 1
    omega
/-- The sizes that are told. -/
def toldN (le : Option Nat) (cap : Nat) : List Nat := match le with
  | none => []
  | some m => if m < cap then [m, cap] else [cap]
theorem toldN_len (le : Option Nat) (cap : Nat) : (toldN le cap).length ≤ 2 := by
  unfold toldN
  cases le with
  | none => simp
  | some m => simp only; split <;> simp
theorem Enc.told {U T : Tab} {le : Option Nat} (h : Enc U T le) : U.sizes (toldN le T.cap) = T := by
  cases le with
  | none => exact (h.same rfl).symm
  | some m =>
    obtain ⟨h1, h2⟩ := h.less m rfl
    unfold toldN
    simp only
    obtain ⟨L, cap, tot⟩ := T
    obtain ⟨L', cap', tot'⟩ := U
    have h3 := h.tot
    simp only at h1 h2 h3
    subst h2; subst h3
    by_cases hc : m < cap
    · rw [if_pos hc]
      simp only [Tab.sizes, Tab.resize, Int.toNat_natCast]
      congr 1
      rw [fits_fits]
      congr 1
      omega
    · rw [if_neg hc]
      obtain rfl : m = cap := by omega
      simp only [Tab.sizes, Tab.resize, Int.toNat_natCast]
theorem toldN_le (le : Option Nat) (cap mx : Nat) (hc : cap ≤ mx) : ∀ n ∈ toldN le cap, n ≤ mx := by
  intro n hn
  unfold toldN at hn
  cases le with
  | none => simp at hn
  | some m =>
    simp only at hn
    split at hn
    · rcases List.mem_cons.1 hn with rfl | hn
      · omega
      · rw [List.mem_singleton.1 hn]; exact hc
    · rw [List.mem_singleton.1 hn]; exact hc
/-- A whole block: the sizes, the fields. -/
def encB (le : Option Nat) (T : Tab) (l : List Fd) : List UInt8 := upsW (toldN le T.cap) ++ (encL T l).1
theorem encB_dec {U T : Tab} {le : Option Nat} (h : Enc U T le) (mx : Nat) (hcap : le = none ∨ T.cap ≤ mx) (h64 : T.cap ≤ 65535) (l : List Fd) (h1 : T.l.length ≤ T.tot) (h2 : T.tot + l.length ≤ 1000000) (h3 : ∀ f ∈ l, f.1.size ≤ 4096 ∧ f.2.size ≤ 4096) (h4 : l.length ≤ 64) :
    ∃ ad, ldec mx false U (encB le T l) = some ⟨(encL T l).2, toldN le T.cap, ad, l, []⟩ := by
  obtain ⟨ad, hr⟩ := encL_run mx false (toldN le T.cap) (by simp) l T [] [] h1 h2 h3 (by simpa using h4)
  refine ⟨ad, ?_⟩
  unfold ldec encB
  rw [run_sizes mx false (encL T l).1 (toldN le T.cap) U [] (by simp) (toldN_le le T.cap 65535 h64), if_pos ⟨by
    rcases hcap with rfl | hc
    · intro n hn; simp [toldN] at hn
    · exact toldN_le le T.cap mx hc, by simpa using toldN_len le T.cap⟩, h.told, List.nil_append, hr]
  simp

end Go.Proofs.Ytebakjdeighdnaa

/-
  What stands in the table behind written blocks: nothing secret; a list that is written again.
-/
namespace Go.Proofs.Ytebakjdeighdnaa
open Go.RowKit
set_option linter.unusedVariables false

/-! ### nothing secret -/
theorem fits_sub (room : Int) (l : List Fd) : ∀ f ∈ fits room l, f ∈ l := fun f hf => by rw [fits_drop room l] at hf; exact List.mem_of_mem_drop hf
def NoSec (T : Tab) : Prop := ∀ f ∈ T.l, secN f.1 = false
theorem NoSec.encF {T : Tab} (h : NoSec T) (f : Fd) : NoSec (encF T f).2 := by
  unfold Go.Proofs.Ytebakjdeighdnaa.encF
  split
  · exact h
  · split
    · exact h
    · split
      · exact h
      · rename_i hs
        split
        · exact h
        · intro g hg
          have hs' : secN f.1 = false := by simpa using hs
          have hg' : g ∈ (T.add f).l := hg
          unfold Tab.add at hg'
          split at hg'
          · rcases List.mem_append.1 hg' with hg' | hg'
            · exact h g (fits_sub _ _ g hg')
            · rw [List.mem_singleton.1 hg']; exact hs'
          · exact h g (fits_sub _ _ g hg')
theorem NoSec.encL : ∀ (l : List Fd) {T : Tab}, NoSec T → NoSec (encL T l).2
  | [], T, h => h
  | f :: l, T, h => NoSec.encL l (h.encF f)
theorem NoSec.new (n : Int) : NoSec (Tab.new n) := fun f hf => by simp [Tab.new] at hf

/-! ### written again -/
theorem nw_mem {p : Fd → Bool} : ∀ {l : List Fd} {f : Fd} (b : Nat), f ∈ l → p f = true → ∃ a, nw p b l = some a
  | g :: l, f, b, hm, hp => by
    rcases List.mem_cons.1 hm with rfl | hm
    · exact nw_hit p b f l hp
    · obtain ⟨a, ha⟩ := nw_mem (b + 1) hm hp
      exact ⟨a, by simp only [nw, ha]⟩
theorem findT_mem {T : Tab} {f : Fd} (h : f ∈ T.l) : (findT T.l T.first f).2.2 = true := by
  obtain ⟨a, ha⟩ := nw_mem (p := hasF f) T.first h (by simp [hasF])
  unfold findT
  rw [ha]
/-- A field that is told by its place alone. -/
theorem encF_known {T : Tab} {f : Fd} (h : (findS T2 f).2.2 = true ∨ f ∈ T.l) (hall : T.tot = T.l.length) (ht : T.tot ≤ 20) : ∃ i, 1 ≤ i ∧ i ≤ 81 ∧ (encF T f).1 = pre 128 7 i ∧ (encF T f).2 = T := by
  unfold encF
  cases hs : (findS T2 f).2.2 with
  | true =>
    simp only [if_true]
    obtain ⟨hi, _⟩ := findS_both hs
    have := t2_len
    exact ⟨(findS T2 f).1 + 1, by omega, by omega, by simp, by simp⟩
  | false =>
    have hm : f ∈ T.l := h.resolve_left (by rw [hs]; simp)
    have hd := findT_mem (T := T) hm
    simp only [Bool.false_eq_true, if_false, hd, if_true]
    have e : dixT T f = 61 + T.tot - (findT T.l T.first f).1 := by unfold dixT; rw [findT_two hd]; rfl
    obtain ⟨h3, h4, _⟩ := findT_both hd
    have hf : T.first = 0 := by unfold Tab.first; omega
    exact ⟨dixT T f, by omega, by omega, by simp, by simp⟩
theorem pre_one (i : Nat) (h : i ≤ 81) : pre 128 7 i = [preFirst 128 7 i] := by
  unfold pre
  rw [if_pos (by omega)]
/-- Nothing went, all that was written stands, or is the static table's. -/
structure Kept (T : Tab) (l : List Fd) : Prop where
  cap : T.cap = 4096
  all : T.tot = T.l.length
  len : T.l.length ≤ l.length
  size : sizeF T.l ≤ sizeF l
  known : ∀ f ∈ l, (findS T2 f).2.2 = true ∨ f ∈ T.l
theorem Kept.new : Kept (Tab.new 4096) [] := ⟨rfl, rfl, Nat.le_refl _, Nat.le_refl _, fun f hf => by simp at hf⟩
theorem Kept.step {T : Tab} {l : List Fd} (h : Kept T l) (f : Fd) (hs : secN f.1 = false) (hsz : sizeF (l ++ [f]) ≤ 2048) : Kept (encF T f).2 (l ++ [f]) := by
  have hsz2 := hsz
  rw [sizeF_append] at hsz2
  have e1 : sizeF [f] = fsz f + 32 := by simp [sizeF]
  have hsize := h.size
  have hk : ∀ T' : Tab, (∀ g ∈ T.l, g ∈ T'.l) → ((findS T2 f).2.2 = true ∨ f ∈ T'.l) → ∀ g ∈ l ++ [f], (findS T2 g).2.2 = true ∨ g ∈ T'.l := fun T' h1 h2 g hg => by
    rcases List.mem_append.1 hg with hg | hg
    · exact (h.known g hg).imp id (h1 g)
    · rw [List.mem_singleton.1 hg]; exact h2
  have hsame : ((findS T2 f).2.2 = true ∨ f ∈ T.l) → Kept T (l ++ [f]) := fun h2 => ⟨h.cap, h.all, by rw [List.length_append]; have := h.len; omega, by rw [sizeF_append]; omega, hk T (fun g hg => hg) h2⟩
  unfold encF
  cases h1 : (findS T2 f).2.2 with
  | true => exact hsame (.inl h1)
  | false =>
    simp only [Bool.false_eq_true, if_false]
    cases h2 : (findT T.l T.first f).2.2 with
    | true =>
      simp only [if_true]
      obtain ⟨_, h4, h5⟩ := findT_both h2
      exact hsame (.inr (by rw [← h5]; exact List.getElem_mem h4))
    | false =>
      simp only [Bool.false_eq_true, if_false, hs]
      rw [if_neg (by rw [h.cap]; omega)]
      have hc := h.cap
      have ha : T.add f = ⟨T.l ++ [f], T.cap, T.tot + 1⟩ := by
        unfold Tab.add
        rw [if_pos (by omega), fits_all (by unfold Tab.room; omega)]
      simp only [ha]
      refine ⟨hc, by simp [h.all], by simp only [List.length_append, List.length_singleton]; have := h.len; omega, by simp only [sizeF_append]; omega, hk _ (fun g hg => List.mem_append_left _ hg) (.inr (List.mem_append_right _ (List.mem_singleton.2 rfl)))⟩
theorem Kept.list : ∀ (l : List Fd) {T : Tab} {l0 : List Fd}, Kept T l0 → (∀ f ∈ l, secN f.1 = false) → sizeF (l0 ++ l) ≤ 2048 → Kept (encL T l).2 (l0 ++ l)
  | [], T, l0, h, _, _ => by simpa [encL] using h
  | f :: l, T, l0, h, hs, hz => by
    have e : l0 ++ f :: l = (l0 ++ [f]) ++ l := by simp
    rw [e] at hz ⊢
    have hz1 : sizeF (l0 ++ [f]) ≤ 2048 := by rw [sizeF_append] at hz; omega
    exact Kept.list l (h.step f (hs f (by simp)) hz1) (fun g hg => hs g (by simp [hg])) hz
/-- Written again: a byte a field, the table as it was. -/
theorem again_list {T : Tab} {l0 : List Fd} (h : Kept T l0) (h20 : l0.length ≤ 20) : ∀ (l : List Fd), (∀ f ∈ l, f ∈ l0) → ∃ is : List Nat, is.length = l.length ∧ (∀ i ∈ is, 1 ≤ i ∧ i ≤ 81) ∧ (encL T l).1 = is.map (preFirst 128 7) ∧ (encL T l).2 = T
  | [], _ => ⟨[], rfl, by simp, rfl, rfl⟩
  | f :: l, hm => by
    obtain ⟨i, h1, h2, h3, h4⟩ := encF_known (h.known f (hm f (by simp))) h.all (by have := h.all; have := h.len; omega)
    obtain ⟨is, g1, g2, g3, g4⟩ := again_list h h20 l fun g hg => hm g (by simp [hg])
    refine ⟨i :: is, by simp [g1], fun j hj => ?_, ?_, ?_⟩
    · rcases List.mem_cons.1 hj with rfl | hj
      · exact ⟨h1, h2⟩
      · exact g2 j hj
    · show (encF T f).1 ++ (encL (encF T f).2 l).1 = _
      rw [h3, h4, g3, pre_one i h2]
      rfl
    · show (encL (encF T f).2 l).2 = T
      rw [h4, g4]
theorem encL_len : ∀ (T : Tab) (l : List Fd), l.length ≤ (encL T l).1.length
  | T, [] => by simp [encL]
  | T, f :: l => by
    show _ ≤ ((encF T f).1 ++ (encL (encF T f).2 l).1).length
    have h1 := encF_pos T f
    have h2 := encL_len (encF T f).2 l
    rw [List.length_append, List.length_cons]
    omega
/-- The byte of an index: its highest bit is set, and it does not go on. -/
theorem preFirst_ix (i : Nat) (h : i ≤ 81) : (preFirst 128 7 i).toNat = 128 + i := by
  have key : ∀ j : Fin 82, (preFirst 128 7 j.val).toNat = 128 + j.val := by decide +kernel
  exact key ⟨i, by omega⟩

end Go.Proofs.Ytebakjdeighdnaa

/-
  Contract of the document's StrBits.
-/
namespace Go.Proofs.Ytebakjdeighdnaa
open Go.RowKit
set_option linter.unusedVariables false

def AnsS (x : List UInt8 × Int × Int) : Ending := .returned (.tuple #[.string (bstr x.1), .int .i64 x.2.1, .int .i64 x.2.2])
theorem ansS {s : List UInt8} {b c : Int} {x : List UInt8 × Int × Int} (h : x = (s, b, c)) : Ending.returned (.tuple #[.string (bstr s), .int .i64 b, .int .i64 c]) = AnsS x := by subst h; rfl
theorem and_bit8 (c q : Nat) (hc : c < 256) : bits .and .u8 ((c : Int) / 2 ^ q) 1 = ((c / 2 ^ q % 2 : Nat) : Int) := by
  have h : c / 2 ^ q ≤ c := Nat.div_le_self _ _
  rw [show ((c : Int) / 2 ^ q) = ((c / 2 ^ q : Nat) : Int) from by simp, show (1 : Int) = ((1 : Nat) : Int) from rfl, u8_and_nat _ _ (by omega) (by omega), Nat.and_one_is_mod]

end Go.Proofs.Ytebakjdeighdnaa

/-
  Contract of the document's clamp.
-/
namespace Go.Proofs.Ytebakjdeighdnaa
open Go.RowKit
set_option linter.unusedVariables false

/-- A number between 0 and 4096. -/
def clampN (n : Int) : Nat := (min (max n 0) 4096).toNat
theorem clampN_eq (n : Int) : min (max n 0) 4096 = (clampN n : Int) := by unfold clampN; omega
theorem clampN_le (n : Int) : clampN n ≤ 4096 := by unfold clampN; omega

end Go.Proofs.Ytebakjdeighdnaa

/-
  Contracts of henc.Str, secret, size, nearest, literal and of the document's Secret.
-/
namespace Go.Proofs.Ytebakjdeighdnaa
open Go.RowKit
set_option linter.unusedVariables false

set_option maxRecDepth 100000 in
set_option maxHeartbeats 1000000 in
theorem hstr_any (bV : Value) (l : List UInt8) (s : ByteArray) (w : World) (hb : Bs w bV l) (hl : l.length ≤ 50000) (hs : s.size ≤ 20000) :
    Calls Try.prog 47 #[bV, .string s] w fun e w' => ∃ v', e = .returned v' ∧ OwB w' w.heap.size v' (l ++ putS s.data.toList) ∧ Below w.heap.size w w' := by
  have hsl : s.data.toList.length = s.size := by simp
  have hbl := bitLen_le s.data.toList
  have hhl := fun W => len_any s W (by omega)
  have hel := enc0_length s.data.toList
  obtain ⟨n, hn⟩ : ∃ n, (bitLen s.data.toList + 7) / 8 = n := ⟨_, rfl⟩
  rw [hn] at hhl hel
  have hn2 : n ≤ 100000 := by omega
  have hwn : IntKind.u64.wrap (n : Int) = (n : Int) := by simp only [IntKind.wrap_u64]; omega
  have hws : IntKind.u64.wrap (s.size : Int) = (s.size : Int) := by simp only [IntKind.wrap_u64]; omega
  have HL := Bx.mk hhl
  have HB := Bx.mk hb
  have HE := Bx.mk hel
  have HK : Bx (l.length ≤ 50000 ∧ s.size ≤ 20000 ∧ n ≤ 100000) := ⟨hl, hs, hn2⟩
  obtain ⟨i0, hi, hz, hz1, hz2⟩ := info_parts infoU8
  have HI : Bx (Try.prog.info? 5 = some i0 ∧ i0.zero = some (.int .u8 0) ∧ i0.size = 1 ∧ i0.bytes = 1) := ⟨hi, hz, hz1, hz2⟩
  have HPUT : Bx (putS s.data.toList = if n < s.size then pre 128 7 (enc s.data.toList 0 0).length ++ enc s.data.toList 0 0 else pre 0 7 s.size ++ s.data.toList) := ⟨by unfold putS strH strP; rw [hn, hsl]⟩
  have HPL : Bx ((pre 128 7 n).length ≤ 11 ∧ (pre 0 7 s.size).length ≤ 11) := ⟨(pre_len _ _ _).2, (pre_len _ _ _).2⟩
  clear hhl hb hel hl hs hn2 hi hz hz1 hz2 hbl hn
  by_cases hlt : n < s.size
  · have hd : decide (n < s.size) = true := decide_eq_true (by omega)
    have HP := HPUT.out
    rw [if_pos hlt, HE.out] at HP
    have HP2 := Bx.mk HP
    clear HPUT HP hlt
    go_enter Try.func47, Try.ntmps47
    go_wp2_with fail
    refine (HL.out w).mono ?_
    rintro e w1 ⟨rfl, b1⟩
    have HB1 := Bx.mk (HB.out.keep b1)
    have HW1 := Bx.mk b1
    clear b1
    go_wp2_with fail
    refine (number_any bV l 1 128 7 (by omega) (by omega) (by rfl) n w1 HB1.out (by have := HK.out; omega) (by have := HK.out; omega)).mono ?_
    rintro e w2 ⟨v2, rfl, ho2, b2⟩
    have HB2 := Bx.mk ho2.bs
    have HW2 := Bx.mk (HW1.out.trans (b2.mono HW1.out.size))
    clear ho2 b2
    go_wp2_with fail
    refine (encode_own v2 _ s w2 HB2.out (by have := HK.out; have := HPL.out.1; rw [List.length_append]; omega) (by have := HK.out; omega)).mono ?_
    rintro e w3 ⟨v3, rfl, ho3, b3⟩
    have HB3 := Bx.mk (ho3.mono HW2.out.size)
    have HW3 := Bx.mk (HW2.out.trans (b3.mono HW2.out.size))
    clear ho3 b3
    go_wp2_with fail
    go_ret
    refine ⟨_, rfl, ?_, HW3.out⟩
    rw [HP2.out, ← List.append_assoc]
    exact HB3.out
  · have hd : decide (n < s.size) = false := decide_eq_false (by omega)
    have HP := HPUT.out
    rw [if_neg hlt] at HP
    have HP2 := Bx.mk HP
    clear HPUT HP hlt
    go_enter Try.func47, Try.ntmps47
    go_wp2_with fail
    refine (HL.out w).mono ?_
    rintro e w1 ⟨rfl, b1⟩
    have HB1 := Bx.mk (HB.out.keep b1)
    have HW1 := Bx.mk b1
    clear b1
    go_wp2_with fail
    refine (number_any bV l 0 0 7 (by omega) (by omega) (by rfl) s.size w1 HB1.out (by have := HK.out; omega) (by have := HK.out; omega)).mono ?_
    rintro e w2 ⟨v2, rfl, ho2, b2⟩
    have HB2 := Bx.mk ho2
    have HW2 := Bx.mk (HW1.out.trans (b2.mono HW1.out.size))
    have HS2 := Bx.mk b2.size
    have HL2 : Bx ((l ++ pre 0 7 s.size).length ≤ 60000) := ⟨by have := HK.out; have := HPL.out.2; rw [List.length_append]; omega⟩
    clear ho2 b2
    go_wp2_with (at_builtin; refine Lib.wpList_append_own_string _ rfl _ _ 28 9 rfl w1.heap.size 5 i0 Try.underlying28 Try.underlying9 HI.out.1 HI.out.2.1 HI.out.2.2.1 HI.out.2.2.2 v2 _ _ rfl HB2.out s rfl (by have := HK.out; have := HL2.out; unfold maxLen; rw [List.length_map]; omega) (by have := HK.out; have := HL2.out; rw [List.length_map]; omega) HS2.out ?_; intro v3 w3 ho3 hg3 _)
    have HB3 := Bx.mk ((OwB.str ho3).mono HW1.out.size)
    have HW3 : Bx (Below w.heap.size w w3) := ⟨HW2.out.trans ((Below.refl _ _).grown hg3 HW2.out.size fun k hk => Nat.le_trans HW1.out.size (HB2.out.ge hk))⟩
    go_ret
    refine ⟨_, rfl, ?_, HW3.out⟩
    rw [HP2.out, ← List.append_assoc]
    exact HB3.out

end Go.Proofs.Ytebakjdeighdnaa

/-
  Contracts of henc.secret, henc.literal and of the document's Secret.
-/
namespace Go.Proofs.Ytebakjdeighdnaa
open Go.RowKit
set_option linter.unusedVariables false

def sAu : ByteArray := ⟨#[97, 117, 116, 104, 111, 114, 105, 122, 97, 116, 105, 111, 110]⟩
def sCo : ByteArray := ⟨#[99, 111, 111, 107, 105, 101]⟩
def sSc : ByteArray := ⟨#[115, 101, 116, 45, 99, 111, 111, 107, 105, 101]⟩
theorem secN_or (n : ByteArray) : secN n = ((n.toList == sAu.toList) || (n.toList == sCo.toList) || (n.toList == sSc.toList)) := by
  have key : ∀ a : ByteArray, (n.toList == a.toList) = decide (n = a) := fun a => by
    by_cases h : n = a
    · rw [str_beq_true h]; simp [h]
    · rw [str_beq_false h]; simp [h]
  rw [key, key, key]
  rfl
theorem sAu_l : sAu.toList = [97, 117, 116, 104, 111, 114, 105, 122, 97, 116, 105, 111, 110] := by rw [Lib.toList_data]; rfl
theorem sCo_l : sCo.toList = [99, 111, 111, 107, 105, 101] := by rw [Lib.toList_data]; rfl
theorem sSc_l : sSc.toList = [115, 101, 116, 45, 99, 111, 111, 107, 105, 101] := by rw [Lib.toList_data]; rfl

end Go.Proofs.Ytebakjdeighdnaa

/-
  The tables' words by their closest blocks; the program's encoder as a word; its size updates.
-/
namespace Go.Proofs.Ytebakjdeighdnaa
open Go.RowKit Go.Maps
set_option linter.unusedVariables false

theorem Wd.tb (p : Nat) (T : Tab) : Wd (Tb p T) := ⟨fun h => h.lt, fun h => h.kept⟩
theorem NoB.st {w : World} {v : Value} {L : List Fd} (h : St w v L) {k : Nat} (hk : v.ownBlock = some k) : ∃ o, w.heap[k]? = some o ∧ ∀ (c : Array Value) (z : Nat × Nat), o ≠ Obj.cells c 5 z := by
  rcases h with ⟨rfl, rfl⟩ | ⟨g, o, cap, m, F, rfl, hr, h1, h2, h3, h4⟩
  · simp [Value.ownBlock] at hk
  · simp only [Value.ownBlock, Option.some.injEq] at hk
    subst hk
    exact NoB.row hr (by decide)
theorem Ex.tb (p : Nat) (T : Tab) : Ex (Tb p T) := by
  rintro w S ⟨v, bw, bn, Dw, Dn, h1, h2, h3, h4, h5, h6⟩
  refine ⟨fun k => k = p ∨ k = bw ∨ k = bn ∨ v.ownBlock = some k, ⟨v, bw, bn, Dw, Dn, h1, h2, h3, ⟨.inl rfl, .inr (.inl rfl), .inr (.inr (.inl rfl)), fun k hk => .inr (.inr (.inr hk))⟩, ?_, h6⟩, ?_, ?_⟩
  · rintro k (rfl | rfl | rfl | hk)
    · exact h5 _ h4.1
    · exact h5 _ h4.2.1
    · exact h5 _ h4.2.2.1
    · exact h5 _ (h4.2.2.2 k hk)
  · rintro k (rfl | rfl | rfl | hk)
    · exact h4.1
    · exact h4.2.1
    · exact h4.2.2.1
    · exact h4.2.2.2 k hk
  · rintro k (rfl | rfl | rfl | hk)
    · exact NoB.row h1.row (by decide)
    · obtain ⟨es, cl, e1, _⟩ := h1.mw
      exact ⟨_, e1, fun c z e => by cases e⟩
    · obtain ⟨es, cl, e1, _⟩ := h1.mn
      exact ⟨_, e1, fun c z e => by cases e⟩
    · exact NoB.st h1.st hk
/-- The cells of the program's encoder. -/
def eF (p : Nat) (rs : Bool) (a b : Nat) (i : Nat) : Value := if i = 0 then .pointer (some ⟨p, 0, none⟩) else if i = 1 then .bool rs else if i = 2 then .int .i64 (a : Int) else .int .i64 (b : Int)
section
variable {q p : Nat} {T T' : Tab} {le : Option Nat} {w w' : World} {S : Nat → Prop}
end
end Go.Proofs.Ytebakjdeighdnaa
