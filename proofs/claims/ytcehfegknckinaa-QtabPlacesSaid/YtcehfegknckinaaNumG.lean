/-
  Contracts of num.Prefix and of the document's Prefix.
-/
import Derived.Test.YtcehfegknckinaaNumC
namespace Go.Proofs.Ytcehfegknckinaa
open Go.RowKit
set_option linter.unusedVariables false

/-- The bits of f above its lowest k. -/
def hiOf (f : UInt8) (k : Nat) : Nat := f.toNat / 2 ^ k * 2 ^ k
def preFirst (f : UInt8) (k v : Nat) : UInt8 := UInt8.ofNat (hiOf f k + min v (2 ^ k - 1))
def cont : Nat → Nat → List UInt8
  | 0, _ => []
  | n + 1, v => if v < 128 then [UInt8.ofNat v] else UInt8.ofNat (v % 128 + 128) :: cont n (v / 128)
/-- A number in a prefix of k bits. -/
def pre (f : UInt8) (k v : Nat) : List UInt8 := if v < 2 ^ k - 1 then [preFirst f k v] else preFirst f k v :: cont 10 (v - (2 ^ k - 1))
/-- The prefix's bits that count. -/
def bitsOf (n : Int) : Nat := (min (max n 1) 8).toNat

theorem bitsOf_range (n : Int) : 1 ≤ bitsOf n ∧ bitsOf n ≤ 8 ∧ min (max n 1) 8 = (bitsOf n : Int) := by unfold bitsOf; omega

theorem k8 {k : Nat} (h1 : 1 ≤ k) (h8 : k ≤ 8) : k = 1 ∨ k = 2 ∨ k = 3 ∨ k = 4 ∨ k = 5 ∨ k = 6 ∨ k = 7 ∨ k = 8 := by omega

theorem full_nat (k : Nat) : full (k : Int) = ((2 ^ k - 1 : Nat) : Int) := by
  unfold full
  have := Nat.two_pow_pos k
  rw [Int.toNat_natCast, Int.ofNat_sub this]
  simp
theorem full_range {k : Nat} (h1 : 1 ≤ k) (h8 : k ≤ 8) : 1 ≤ 2 ^ k - 1 ∧ 2 ^ k - 1 ≤ 255 := by
  rcases k8 h1 h8 with rfl | rfl | rfl | rfl | rfl | rfl | rfl | rfl <;> decide

theorem hi_andNot (f : UInt8) {k : Nat} (h1 : 1 ≤ k) (h8 : k ≤ 8) : bits .andNot .u8 (f.toNat : Int) ((2 ^ k - 1 : Nat) : Int) = (hiOf f k : Int) := by
  have hf := f.toNat_lt
  have hr := full_range h1 h8
  rw [u8_andNot_nat _ _ hf (by omega)]
  unfold hiOf
  have key : ∀ k, k < 9 → ∀ x, x < 256 → x &&& (255 - (2 ^ k - 1)) = x / 2 ^ k * 2 ^ k := by decide +kernel
  rw [key k (by omega) f.toNat hf]

theorem hi_lt (f : UInt8) {k : Nat} (h1 : 1 ≤ k) (h8 : k ≤ 8) : hiOf f k + (2 ^ k - 1) < 256 := by
  have hf : f.toNat < 256 := f.toNat_lt
  unfold hiOf
  have key : ∀ k, k < 9 → ∀ x, x < 256 → x / 2 ^ k * 2 ^ k + (2 ^ k - 1) < 256 := by decide +kernel
  exact key k (by omega) _ hf

theorem hi_or (f : UInt8) {k : Nat} (h1 : 1 ≤ k) (h8 : k ≤ 8) (v : Nat) (hv : v ≤ 2 ^ k - 1) : bits .or .u8 (hiOf f k : Int) (v : Int) = ((hiOf f k + v : Nat) : Int) := by
  have := hi_lt f h1 h8
  have hr := Nat.two_pow_pos k
  rw [u8_or_nat _ _ (by omega) (by omega)]
  unfold hiOf
  rw [or_add _ _ _ (by omega)]

theorem preFirst_val (f : UInt8) {k : Nat} (h1 : 1 ≤ k) (h8 : k ≤ 8) (v : Nat) : ((preFirst f k v).toNat : Int) = ((hiOf f k + min v (2 ^ k - 1) : Nat) : Int) := by
  have := hi_lt f h1 h8
  unfold preFirst
  rw [UInt8.toNat_ofNat', Nat.mod_eq_of_lt]
  have : (2:Nat) ^ 8 = 256 := rfl
  omega

theorem psnoc_any {w : World} {B : Nat} {x : Value} {l : List UInt8} {n : Int} (h : Ap w B 5 x (l.map bv ++ #[Value.int .u8 n].toList)) (b : UInt8) (hb : n = (b.toNat : Int)) : ApB w B x (l ++ [b]) := by
  unfold ApB
  rw [List.map_append, List.map_cons, List.map_nil]
  subst hb
  exact h

theorem or128 (x : Nat) : bits .or .u8 ((x : Int) % 256) 128 = ((x % 128 + 128 : Nat) : Int) := by
  have key : ∀ y, y < 256 → y ||| 128 = y % 128 + 128 := by decide +kernel
  rw [show ((x : Int) % 256) = ((x % 256 : Nat) : Int) from by omega, show (128 : Int) = ((128 : Nat) : Int) from rfl, u8_or_nat _ _ (by omega) (by omega), key _ (by omega)]
  omega

theorem cont_more (n v : Nat) (h : 128 ≤ v) : cont (n + 1) v = UInt8.ofNat (v % 128 + 128) :: cont n (v / 128) := by
  rw [cont, if_neg (by omega)]
theorem cont_last (n v : Nat) (h : v < 128) : cont (n + 1) v = [UInt8.ofNat v] := by
  rw [cont, if_pos h]
theorem cont_length (n v : Nat) : (cont n v).length ≤ n := by
  induction n generalizing v with
  | zero => simp [cont]
  | succ n ih =>
    rw [cont]
    split
    · simp
    · simp; exact ih _
/-- The loop's relation: what is still to write. -/
def PrefRel (G : List UInt8) (bl : List UInt8) (B : Nat) (w : World) (ov xv : Value) (wr : World) : Prop :=
  ∃ (m x : Nat) (l1 : List UInt8), xv = .int .u64 x ∧ x < 18446744073709551616 ∧ x < 128 ^ (m + 1) ∧ m ≤ 9 ∧ l1 ++ cont (m + 1) x = G ∧ l1.length + m ≤ bl.length + 10 ∧ ApB wr B ov l1 ∧ Below B w wr

theorem pow128 (x m : Nat) (h : x < 128 ^ (m + 1)) (hx : 128 ≤ x) : ∃ q, m = q + 1 ∧ x / 128 < 128 ^ (q + 1) := by
  cases m with
  | zero => simp at h; omega
  | succ q => exact ⟨q, rfl, by rw [Nat.pow_succ] at h; omega⟩

set_option maxRecDepth 100000 in
set_option maxHeartbeats 1000000 in
theorem prefix_any (bV : Value) (bl : List UInt8) (f : UInt8) (n : Int) (v : Nat) (w : World) (hb : Bs w bV bl) (hbl : bl.length ≤ 200000) (hv : v < 18446744073709551616) :
    Calls Try.prog 21 #[bV, .int .u8 f.toNat, .int .i64 n, .int .u64 v] w fun e w' => ∃ v', e = .returned v' ∧ ApB w' w.heap.size v' (bl ++ pre f (bitsOf n) v) ∧ Below w.heap.size w w' := by
  obtain ⟨i0, hi, hz, hz1, hz2⟩ := info_parts infoU8n
  have Hi := Lib.hid hi
  have Hz := Lib.hid hz
  have Hz1 := Lib.hid hz1
  have Hz2 := Lib.hid hz2
  clear hi hz hz1 hz2
  have Hb := Lib.hid hb
  obtain ⟨hk1, hk8, hkn⟩ := bitsOf_range n
  generalize bitsOf n = k at hk1 hk8 hkn ⊢
  have hM := full_range hk1 hk8
  have hfull : full (min (max n 1) 8) = ((2 ^ k - 1 : Nat) : Int) := by rw [hkn, full_nat]
  have ha := hi_andNot f hk1 hk8
  have hlt := hi_lt f hk1 hk8
  have Hor := Lib.hid (hi_or f hk1 hk8)
  have Hpf := Lib.hid (preFirst_val f hk1 hk8 v)
  have Hpre : Hid (pre f k v = if v < 2 ^ k - 1 then [preFirst f k v] else preFirst f k v :: cont 10 (v - (2 ^ k - 1))) := rfl
  clear hb
  
  
  generalize pre f k v = PL at Hpre ⊢
  generalize preFirst f k v = pf at Hpf Hpre
  generalize hiOf f k = hi at ha hlt Hor Hpf
  generalize 2 ^ k - 1 = M at hM ha hlt Hor Hpf Hpre hfull
  have Hfull := Lib.hid hfull
  clear hfull
  obtain ⟨hM1, hM2⟩ := hM
  
  have horM := Hor.out M (by omega)
  by_cases hvM : v < M
  · have hw8v : IntKind.u8.wrap (v : Int) = (v : Int) := by rw [IntKind.wrap_u8]; omega
    have horv := Hor.out v (by omega)
    have Hf := Hpf.out
    have Hp := Hpre.out
    rw [if_pos hvM] at Hp
    rw [show min v M = v from by omega] at Hf
    subst Hp
    have Hf2 := Lib.hid Hf
    clear Hpf Hpre Hf
    go_enter Try.func21, Try.ntmps21
    go_wp2_with (first
        | (go_at_call 24; refine (fullPrefix_any _ _).mono ?_; rintro e w' ⟨rfl, rfl⟩; rw [Hfull.out])
        | (go_at_call 25; refine (grown_int bV bl _ _ Hb.out (by omega) (by omega) (by omega)).mono ?_; rintro e w1 ⟨v1, rfl, hap, hb1⟩)
        | (at_builtin
           refine wpList_append_ap _ rfl _ _ 37 rfl w.heap.size 5 i0 (.int .u8 0) 1 Try.underlying37 Hi.out Hz.out Hz1.out Hz2.out rfl _ _ (bl.map bv) _ rfl rfl (hap.alloc _) (Rd.lit w1 5 _ 1 rfl (by simp [maxLen])) (by simp [Value.oneCell']) (by simp; omega) (by simp [maxLen]; omega) (by have := hb1.size; simp; omega) ?_
           intro v2 w2 hap2 hb2))
    go_ret
    refine ⟨v2, rfl, ?_, hb1.trans (((Below.refl _ _).alloc hb1.size _).trans hb2)⟩
    exact psnoc_any hap2 pf Hf2.out.symm
  · have Hf := Hpf.out
    have Hp := Hpre.out
    rw [if_neg hvM] at Hp
    rw [show min v M = M from by omega] at Hf
    have Hp2 := Lib.hid Hp
    have Hf2 := Lib.hid Hf
    clear Hpf Hpre Hf Hp
    have hsub : IntKind.u64.wrap ((v : Int) - (M : Int)) = ((v - M : Nat) : Int) := by rw [IntKind.wrap_u64]; omega
    go_enter Try.func21, Try.ntmps21
    go_wp2_with (first
        | (go_at_call 24; refine (fullPrefix_any _ _).mono ?_; rintro e w' ⟨rfl, rfl⟩; rw [Hfull.out])
        | (go_at_call 25; refine (grown_int bV bl _ _ Hb.out (by omega) (by omega) (by omega)).mono ?_; rintro e w1 ⟨v1, rfl, hap, hb1⟩)
        | (at_builtin
           refine wpList_append_ap _ rfl _ _ 37 rfl w.heap.size 5 i0 (.int .u8 0) 1 Try.underlying37 Hi.out Hz.out Hz1.out Hz2.out rfl _ _ (bl.map bv) _ rfl rfl (hap.alloc _) (Rd.lit w1 5 _ 1 rfl (by simp [maxLen])) (by simp [Value.oneCell']) (by simp; omega) (by simp [maxLen]; omega) (by have := hb1.size; simp; omega) ?_
           intro v2 w2 hap2 hb2))
    have hap3 := psnoc_any hap2 pf Hf2.out.symm
    have hb3 : Below w.heap.size w w2 := hb1.trans (((Below.refl _ _).alloc hb1.size _).trans hb2)
    clear hap2 hb2
    have hlen3 : (bl ++ [pf]).length = bl.length + 1 := by simp
    have Hgoal : Hid ((bl ++ [pf]) ++ cont 10 (v - M) = bl ++ PL) := by rw [Hp2.out]; simp [Hid]
    have hl1 : (bl ++ [pf]).length ≤ bl.length + 1 := by omega
    clear hlen3
    generalize bl ++ [pf] = l0 at hap3 Hgoal hl1
    have hq : v - M < 128 ^ (9 + 1) := by have : (18446744073709551616 : Nat) ≤ 128 ^ (9 + 1) := by decide
                                          omega
    clear ha horM Hor hsub hvM Hf2 Hfull Hp2
    have hq64 : v - M < 18446744073709551616 := by omega
    generalize v - M = q at hq hq64 Hgoal ⊢
    have Hgoal2 := Lib.hid Hgoal.out
    clear Hgoal
    go_wp2
    go_loopw [3, 11] (fun xv ov wr => PrefRel (bl ++ PL) bl w.heap.size w ov xv wr) (fun xv _ _ => (intOf xv).toNat)
    case atStart => exact ⟨9, q, l0, rfl, hq64, hq, by omega, Hgoal2.out, by omega, hap3, hb3⟩
    case round =>
      obtain ⟨m, x, l1, rfl, hxq, hxm, hm9, hG, hl, hap4, hb4⟩ := hrel
      have HG := Lib.hid hG
      clear hG hap3 hb3
      have hxi : (x : Int) < 18446744073709551616 := by omega
      have Hxq := Lib.hid hxq
      have Hxm := Lib.hid hxm
      have Hr0 : Hid (¬ x < 128 → ∃ q, m = q + 1 ∧ x / 128 < 128 ^ (q + 1)) := fun h => pow128 x m hxm (by omega)
      clear hxq hxm hv hq hq64 hxi
      have hsz := hb4.size
      by_cases hx : x < 128
      · have hx' : (x : Int) < 256 := by omega
        go_wp2_with (first
          | (at_builtin
             refine wpList_append_ap _ rfl _ _ 37 rfl w.heap.size 5 i0 (.int .u8 0) 1 Try.underlying37 Hi.out Hz.out Hz1.out Hz2.out rfl _ _ (l1.map bv) _ rfl rfl (hap4.alloc _) (Rd.lit wr 5 _ 1 rfl (by simp [maxLen])) (by simp [Value.oneCell']) (by simp; omega) (by simp [maxLen]; omega) (by have := hb4.size; simp; omega) ?_
             intro v2 w2 hap2 hb2))
        go_ret
        have hap5 := psnoc_any hap2 (UInt8.ofNat x) (by rw [UInt8.toNat_ofNat', Nat.mod_eq_of_lt (by have : (2:Nat) ^ 8 = 256 := rfl; omega)])
        refine ⟨_, rfl, ?_, hb4.trans (((Below.refl _ _).alloc (by have := hb4.size; omega) _).trans hb2)⟩
        rw [← HG.out, cont_last _ _ hx]
        exact hap5
      · obtain ⟨r, rfl, hr⟩ := Hr0.out hx
        have Hr := Lib.hid hr
        clear hr
        have ho := or128 x
        have hand := u64_mask x 7 127 (by rfl) (by omega) Hxq.out
        have ho2 : bits .or .u8 ((x : Int) % 128) 128 = ((x % 128 + 128 : Nat) : Int) := by have h := or128 (x % 128); rw [show (((x % 128 : Nat) : Int) % 256) = (x : Int) % 128 from by omega] at h; rw [h]; omega
        go_wp2_with (first
          | (at_builtin
             refine wpList_append_ap _ rfl _ _ 37 rfl w.heap.size 5 i0 (.int .u8 0) 1 Try.underlying37 Hi.out Hz.out Hz1.out Hz2.out rfl _ _ (l1.map bv) _ rfl rfl (hap4.alloc _) (Rd.lit wr 5 _ 1 rfl (by simp [maxLen])) (by simp [Value.oneCell']) (by simp; omega) (by simp [maxLen]; omega) (by have := hb4.size; simp; omega) ?_
             intro v2 w2 hap2 hb2))
        have hap5 := psnoc_any hap2 (UInt8.ofNat (x % 128 + 128)) (by rw [UInt8.toNat_ofNat', Nat.mod_eq_of_lt (by have : (2:Nat) ^ 8 = 256 := rfl; omega)]; omega)
        clear hap2
        go_roundw
        case rel =>
          refine ⟨r, x / 128, l1 ++ [UInt8.ofNat (x % 128 + 128)], by go_num, by have := Hxq.out; omega, Hr.out, by omega, ?_, by simp; omega, hap5, hb4.trans (((Below.refl _ _).alloc (by have := hb4.size; omega) _).trans hb2)⟩
          rw [← HG.out, cont_more (r + 1) x (by omega), List.append_assoc]
          rfl
        case measure => simp [intOf]; omega

end Go.Proofs.Ytcehfegknckinaa
