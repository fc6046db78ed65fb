/-
  Texts put together: StrA, HdA, HfD, HfE, HfF, StFds, StG, StH.
-/
import Derived.Test.YthnaapjefedalaaM13
import Derived.Test.YthnaapjefedalaaM04
import Derived.Test.YthnaapjefedalaaM15
import Derived.Lib.MinMax
import Derived.Test.YthnaapjefedalaaM05
import Derived.BigRegion
import Derived.Test.YthnaapjefedalaaM01
import Derived.Test.YthnaapjefedalaaM14
import Derived.WalkKit
import Derived.WalkSpells
import Derived.WalkLawsBesides
import Derived.Handy
import Derived.Lib.Hide
import Derived.IntWalk
import Derived.RegionTactic
import Derived.Deep.LoopGhost
import Derived.Lib.Strings
import Derived.Maps.Own
import Derived.Maps.OwnOps
import Derived.Maps.OwnSet
import Derived.Maps.Views
import Derived.DeepKeys4
import Derived.ProofKit

/-
  Contract of the document's StrBits.
-/
namespace Go.Proofs.Ythnaapjefedalaa
open Go.RowKit
set_option linter.unusedVariables false

def AnsS (x : List UInt8 × Int × Int) : Ending := .returned (.tuple #[.string (bstr x.1), .int .i64 x.2.1, .int .i64 x.2.2])
theorem ansS {s : List UInt8} {b c : Int} {x : List UInt8 × Int × Int} (h : x = (s, b, c)) : Ending.returned (.tuple #[.string (bstr s), .int .i64 b, .int .i64 c]) = AnsS x := by subst h; rfl
theorem and_bit8 (c q : Nat) (hc : c < 256) : bits .and .u8 ((c : Int) / 2 ^ q) 1 = ((c / 2 ^ q % 2 : Nat) : Int) := by
  have h : c / 2 ^ q ≤ c := Nat.div_le_self _ _
  rw [show ((c : Int) / 2 ^ q) = ((c / 2 ^ q : Nat) : Int) from by simp, show (1 : Int) = ((1 : Nat) : Int) from rfl, u8_and_nat _ _ (by omega) (by omega), Nat.and_one_is_mod]

set_option maxRecDepth 100000 in
set_option maxHeartbeats 1000000 in
theorem strBits_any (bV : Value) (l : List UInt8) (k : Nat) (w : World) (hk1 : 1 ≤ k) (hk7 : k ≤ 7) (hb : Bs w bV l) (hlm : l.length ≤ 1000000) :
    Calls Try.prog 43 #[bV, .int .i64 (k : Int)] w fun e w' => e = AnsS (sb k l) ∧ Below w.heap.size w w' := by
  have hk : bitsOf (k : Int) = k := by unfold bitsOf; omega
  have hcall := refReadPrefix_any bV l (k : Int) w hb hlm
  rw [hk] at hcall
  have HBV := Bx.mk hb
  have hlenb := fun ty W => hb.run_len ty W
  clear hb hk
  rcases rp_cases k l with hr | hr | ⟨n, m, hr, hm1, hml, hnv⟩
  · have HR := Bx.mk (sb_err hr (by decide))
    rw [hr] at hcall
    unfold Ans3 at hcall
    dsimp only at hcall
    have HCALL := Bx.mk hcall
    clear hr hcall hlenb
    go_enter Try.func43, Try.ntmps43
    go_wp2_with (go_at_call 39; refine HCALL.out.mono ?_; rintro e w1 ⟨rfl, rfl⟩)

    go_ret3
    exact ⟨by rw [HR.out]; rfl, Below.refl _ _⟩
  · have HR := Bx.mk (sb_err hr (by decide))
    rw [hr] at hcall
    unfold Ans3 at hcall
    dsimp only at hcall
    have HCALL := Bx.mk hcall
    clear hr hcall hlenb
    go_enter Try.func43, Try.ntmps43
    go_wp2_with (go_at_call 39; refine HCALL.out.mono ?_; rintro e w1 ⟨rfl, rfl⟩)
    go_ret3
    exact ⟨by rw [HR.out]; rfl, Below.refl _ _⟩
  · rw [hr] at hcall
    unfold Ans3 at hcall
    dsimp only at hcall
    have HCALL := Bx.mk hcall
    clear hcall
    have hnl : n < 9223372036854775808 := by unfold maxVar at hnv; omega
    by_cases hn : 4096 < n
    · have HR := Bx.mk (sb_long hr (by omega : (4096 : Int) < (n : Int)))
      have hd : decide ((4096 : Int) < (n : Int)) = true := by rw [decide_eq_true_iff]; omega
      clear hr hlenb
      go_enter Try.func43, Try.ntmps43
      go_wp2_with (go_at_call 39; refine HCALL.out.mono ?_; rintro e w1 ⟨rfl, rfl⟩)
      go_ret3
      exact ⟨by rw [HR.out]; rfl, Below.refl _ _⟩
    · have hd : decide ((4096 : Int) < (n : Int)) = false := by rw [decide_eq_false_iff_not]; omega
      obtain ⟨r, hr1⟩ : ∃ r : Nat, l.length = m + r := ⟨l.length - m, by omega⟩
      have hsub : ((l.length : Nat) : Int) - (m : Int) = (r : Int) := by omega
      by_cases hrn : r < n
      · have HR := Bx.mk (sb_more hr (by omega : ¬ (4096 : Int) < (n : Int)) (by omega))
        have hd2 : decide ((r : Int) < (n : Int)) = true := by rw [decide_eq_true_iff]; omega
        clear hr hr1
        go_enter Try.func43, Try.ntmps43
        go_wp2_with (go_at_call 39; refine HCALL.out.mono ?_; rintro e w1 ⟨rfl, rfl⟩)
        go_ret3
        exact ⟨by rw [HR.out]; rfl, Below.refl _ _⟩
      · have hd2 : decide ((r : Int) < (n : Int)) = false := by rw [decide_eq_false_iff_not]; omega
        obtain ⟨s, hs⟩ : ∃ s : Nat, m + n = s := ⟨_, rfl⟩
        have hs' : (m : Int) + (n : Int) = (s : Int) := by omega
        obtain ⟨v', hsl, hbs⟩ := HBV.out.mid (m : Int) (s : Int) (by omega) (by omega) (by omega)
        have HB' := Bx.mk (hbs w HBV.out)
        obtain ⟨p, hix, hcp⟩ := HBV.out.at_ 0 (by omega)
        have hc := hcp w HBV.out
        have hc256 : l[0].toNat < 256 := l[0].toNat_lt
        have hhd : l.headD 0 = l[0]'(by omega) := by cases l with | nil => simp at hr1; omega | cons x t => rfl
        rw [Int.toNat_natCast, Int.toNat_natCast] at HB'
        have hbl : ((l.take s).drop m).length = n := by simp; omega
        clear hcp hbs
        by_cases hbit : l[0].toNat / 2 ^ k % 2 = 0
        · have HR := Bx.mk (sb_plain hr (by omega : ¬ (4096 : Int) < (n : Int)) (by omega) (by rw [hhd]; exact hbit))
          rw [hs', Int.toNat_natCast, Int.toNat_natCast] at HR
          have hab := and_bit8 l[0].toNat k hc256
          rw [hbit] at hab
          generalize l[0].toNat = c at hc hc256 hab
          have hstr := conv_str HB'.out
          clear hr hbit hhd hr1
          generalize (l.take s).drop m = body at HR HB' hstr
          go_enter Try.func43, Try.ntmps43
          go_wp2_with (first
            | (go_at_call 39; refine HCALL.out.mono ?_; rintro e w1 ⟨rfl, rfl⟩)
            | (with_reducible refine wpList_indexAddr (v := .pointer (some p)) (by with_unfolding_all exact hix _) ?_))
          go_ret3
          exact ⟨by rw [HR.out]; rfl, Below.refl _ _⟩
        · obtain ⟨Rs, Re, hR⟩ : ∃ Rs Re, dec (allBits ((l.take s).drop m)) [] 0 0 = (Rs, Re) := ⟨_, _, rfl⟩
          have hR' : dec (allBits ((l.take ((m : Int) + (n : Int)).toNat).drop (m : Int).toNat)) [] 0 0 = (Rs, Re) := by rw [hs', Int.toNat_natCast, Int.toNat_natCast]; exact hR
          have hbit1 : l[0].toNat / 2 ^ k % 2 = 1 := by omega
          have hab := and_bit8 l[0].toNat k hc256
          rw [hbit1] at hab
          have hun := unhuffman_any v' _ w HB'.out (by omega)
          rw [hR] at hun
          unfold Ans at hun
          dsimp only at hun
          have HUN := Bx.mk hun
          clear hun
          by_cases he : Re = 0
          · have HR := Bx.mk (sb_coded hr (by omega : ¬ (4096 : Int) < (n : Int)) (by omega) (by rw [hhd]; exact hbit) hR' he)
            rw [hs'] at HR
            subst he
            generalize l[0].toNat = c at hc hc256 hab
            clear hr hbit hbit1 hhd hr1 hR hR' HB' hbl
            go_enter Try.func43, Try.ntmps43
            go_wp2_with (first
              | (go_at_call 39; refine HCALL.out.mono ?_; rintro e w1 ⟨rfl, rfl⟩)
              | (go_at_call 60; refine HUN.out.mono ?_; rintro e w2 ⟨rfl, hb2⟩)
              | (with_reducible refine wpList_indexAddr (v := .pointer (some p)) (by with_unfolding_all exact hix _) ?_))
            go_ret3
            exact ⟨by rw [HR.out]; rfl, hb2⟩
          · have HR := Bx.mk (sb_bad hr (by omega : ¬ (4096 : Int) < (n : Int)) (by omega) (by rw [hhd]; exact hbit) hR' he)
            have hbe : ((Re : Int) == 0) = false := by simp; exact he
            generalize l[0].toNat = c at hc hc256 hab
            clear hr hbit hbit1 hhd hr1 hR hR' HB' hbl
            go_enter Try.func43, Try.ntmps43
            go_wp2_with (first
              | (go_at_call 39; refine HCALL.out.mono ?_; rintro e w1 ⟨rfl, rfl⟩)
              | (go_at_call 60; refine HUN.out.mono ?_; rintro e w2 ⟨rfl, hb2⟩)
              | (with_reducible refine wpList_indexAddr (v := .pointer (some p)) (by with_unfolding_all exact hix _) ?_))
            go_ret3
            exact ⟨by rw [HR.out]; rfl, hb2⟩

end Go.Proofs.Ythnaapjefedalaa

/-
  Contract of the document's clamp.
-/
namespace Go.Proofs.Ythnaapjefedalaa
open Go.RowKit
set_option linter.unusedVariables false

/-- A number between 0 and 4096. -/
def clampN (n : Int) : Nat := (min (max n 0) 4096).toNat
theorem clampN_eq (n : Int) : min (max n 0) 4096 = (clampN n : Int) := by unfold clampN; omega
theorem clampN_le (n : Int) : clampN n ≤ 4096 := by unfold clampN; omega

set_option maxRecDepth 100000 in
set_option maxHeartbeats 1000000 in
theorem clampD_any (n : Int) (w : World) : Calls Try.prog 30 #[.int .i64 n] w fun e w' => e = .returned (.int .i64 (clampN n : Int)) ∧ w = w' := by
  have h := clampN_eq n
  go_enter Try.func30, Try.ntmps30
  go_wp2
  go_ret
  exact ⟨by rw [← h]; rfl, rfl⟩

end Go.Proofs.Ythnaapjefedalaa

/-
  Contracts of henc.Str, secret, size, nearest, literal and of the document's Secret.
-/
namespace Go.Proofs.Ythnaapjefedalaa
open Go.RowKit
set_option linter.unusedVariables false

set_option maxRecDepth 100000 in
set_option maxHeartbeats 1000000 in
theorem hstr_any (bV : Value) (l : List UInt8) (s : ByteArray) (w : World) (hb : Bs w bV l) (hl : l.length ≤ 50000) (hs : s.size ≤ 20000) :
    Calls Try.prog 23 #[bV, .string s] w fun e w' => ∃ v', e = .returned v' ∧ OwB w' w.heap.size v' (l ++ putS s.data.toList) ∧ Below w.heap.size w w' := by
  have hsl : s.data.toList.length = s.size := by simp
  have hbl := bitLen_le s.data.toList
  have hhl := fun W => len_any s W (by omega)
  have hel := enc0_length s.data.toList
  obtain ⟨n, hn⟩ : ∃ n, (bitLen s.data.toList + 7) / 8 = n := ⟨_, rfl⟩
  rw [hn] at hhl hel
  have hn2 : n ≤ 100000 := by omega
  have hwn : IntKind.u64.wrap (n : Int) = (n : Int) := by simp only [IntKind.wrap_u64]; omega
  have hws : IntKind.u64.wrap (s.size : Int) = (s.size : Int) := by simp only [IntKind.wrap_u64]; omega
  have HL := Bx.mk hhl
  have HB := Bx.mk hb
  have HE := Bx.mk hel
  have HK : Bx (l.length ≤ 50000 ∧ s.size ≤ 20000 ∧ n ≤ 100000) := ⟨hl, hs, hn2⟩
  obtain ⟨i0, hi, hz, hz1, hz2⟩ := info_parts infoU8
  have HI : Bx (Try.prog.info? 5 = some i0 ∧ i0.zero = some (.int .u8 0) ∧ i0.size = 1 ∧ i0.bytes = 1) := ⟨hi, hz, hz1, hz2⟩
  have HPUT : Bx (putS s.data.toList = if n < s.size then pre 128 7 (enc s.data.toList 0 0).length ++ enc s.data.toList 0 0 else pre 0 7 s.size ++ s.data.toList) := ⟨by unfold putS strH strP; rw [hn, hsl]⟩
  have HPL : Bx ((pre 128 7 n).length ≤ 11 ∧ (pre 0 7 s.size).length ≤ 11) := ⟨(pre_len _ _ _).2, (pre_len _ _ _).2⟩
  clear hhl hb hel hl hs hn2 hi hz hz1 hz2 hbl hn
  by_cases hlt : n < s.size
  · have hd : decide (n < s.size) = true := decide_eq_true (by omega)
    have HP := HPUT.out
    rw [if_pos hlt, HE.out] at HP
    have HP2 := Bx.mk HP
    clear HPUT HP hlt
    go_enter Try.func23, Try.ntmps23
    go_wp2_with fail
    refine (HL.out w).mono ?_
    rintro e w1 ⟨rfl, b1⟩
    have HB1 := Bx.mk (HB.out.keep b1)
    have HW1 := Bx.mk b1
    clear b1
    go_wp2_with fail
    refine (number_any bV l 1 128 7 (by omega) (by omega) (by rfl) n w1 HB1.out (by have := HK.out; omega) (by have := HK.out; omega)).mono ?_
    rintro e w2 ⟨v2, rfl, ho2, b2⟩
    have HB2 := Bx.mk ho2.bs
    have HW2 := Bx.mk (HW1.out.trans (b2.mono HW1.out.size))
    clear ho2 b2
    go_wp2_with fail
    refine (encode_own v2 _ s w2 HB2.out (by have := HK.out; have := HPL.out.1; rw [List.length_append]; omega) (by have := HK.out; omega)).mono ?_
    rintro e w3 ⟨v3, rfl, ho3, b3⟩
    have HB3 := Bx.mk (ho3.mono HW2.out.size)
    have HW3 := Bx.mk (HW2.out.trans (b3.mono HW2.out.size))
    clear ho3 b3
    go_wp2_with fail
    go_ret
    refine ⟨_, rfl, ?_, HW3.out⟩
    rw [HP2.out, ← List.append_assoc]
    exact HB3.out
  · have hd : decide (n < s.size) = false := decide_eq_false (by omega)
    have HP := HPUT.out
    rw [if_neg hlt] at HP
    have HP2 := Bx.mk HP
    clear HPUT HP hlt
    go_enter Try.func23, Try.ntmps23
    go_wp2_with fail
    refine (HL.out w).mono ?_
    rintro e w1 ⟨rfl, b1⟩
    have HB1 := Bx.mk (HB.out.keep b1)
    have HW1 := Bx.mk b1
    clear b1
    go_wp2_with fail
    refine (number_any bV l 0 0 7 (by omega) (by omega) (by rfl) s.size w1 HB1.out (by have := HK.out; omega) (by have := HK.out; omega)).mono ?_
    rintro e w2 ⟨v2, rfl, ho2, b2⟩
    have HB2 := Bx.mk ho2
    have HW2 := Bx.mk (HW1.out.trans (b2.mono HW1.out.size))
    have HS2 := Bx.mk b2.size
    have HL2 : Bx ((l ++ pre 0 7 s.size).length ≤ 60000) := ⟨by have := HK.out; have := HPL.out.2; rw [List.length_append]; omega⟩
    clear ho2 b2
    go_wp2_with (at_builtin; refine Lib.wpList_append_own_string _ rfl _ _ 33 9 rfl w1.heap.size 5 i0 Try.underlying33 Try.underlying9 HI.out.1 HI.out.2.1 HI.out.2.2.1 HI.out.2.2.2 v2 _ _ rfl HB2.out s rfl (by have := HK.out; have := HL2.out; unfold maxLen; rw [List.length_map]; omega) (by have := HK.out; have := HL2.out; rw [List.length_map]; omega) HS2.out ?_; intro v3 w3 ho3 hg3 _)
    have HB3 := Bx.mk ((OwB.str ho3).mono HW1.out.size)
    have HW3 : Bx (Below w.heap.size w w3) := ⟨HW2.out.trans ((Below.refl _ _).grown hg3 HW2.out.size fun k hk => Nat.le_trans HW1.out.size (HB2.out.ge hk))⟩
    go_ret
    refine ⟨_, rfl, ?_, HW3.out⟩
    rw [HP2.out, ← List.append_assoc]
    exact HB3.out

set_option maxRecDepth 100000 in
set_option maxHeartbeats 1000000 in
theorem nearest_any (n : Int) (w : World) : Calls Try.prog 28 #[.int .i64 n] w fun e w' => e = .returned (.int .i64 (clampN n : Int)) ∧ w = w' := by
  have h := clampN_eq n
  go_enter Try.func28, Try.ntmps28
  go_wp2
  go_ret
  exact ⟨by rw [← h]; rfl, rfl⟩

set_option maxRecDepth 100000 in
set_option maxHeartbeats 1000000 in
theorem fsize_any (f : Fd) (w : World) (hf : fsz f ≤ 1000000) :
    Calls Try.prog 54 #[.agg #[.string f.1, .string f.2]] w fun e w' => e = .returned (.int .i64 ((fsz f + 32 : Nat) : Int)) ∧ Below w.heap.size w w' := by
  obtain ⟨f1, f2⟩ := f
  unfold fsz at *
  simp only at *
  obtain ⟨e1, e2⟩ := (Fb.new 58 w (f1, f2)).cells
  go_enter Try.func54, Try.ntmps54
  go_wp2
  go_ret
  exact ⟨by go_num, (Below.refl _ _).alloc (Nat.le_refl _) _⟩

end Go.Proofs.Ythnaapjefedalaa

/-
  Contracts of henc.secret, henc.literal and of the document's Secret.
-/
namespace Go.Proofs.Ythnaapjefedalaa
open Go.RowKit
set_option linter.unusedVariables false

def sAu : ByteArray := ⟨#[97, 117, 116, 104, 111, 114, 105, 122, 97, 116, 105, 111, 110]⟩
def sCo : ByteArray := ⟨#[99, 111, 111, 107, 105, 101]⟩
def sSc : ByteArray := ⟨#[115, 101, 116, 45, 99, 111, 111, 107, 105, 101]⟩
theorem secN_or (n : ByteArray) : secN n = ((n.toList == sAu.toList) || (n.toList == sCo.toList) || (n.toList == sSc.toList)) := by
  have key : ∀ a : ByteArray, (n.toList == a.toList) = decide (n = a) := fun a => by
    by_cases h : n = a
    · rw [str_beq_true h]; simp [h]
    · rw [str_beq_false h]; simp [h]
  rw [key, key, key]
  rfl
theorem sAu_l : sAu.toList = [97, 117, 116, 104, 111, 114, 105, 122, 97, 116, 105, 111, 110] := by rw [Lib.toList_data]; rfl
theorem sCo_l : sCo.toList = [99, 111, 111, 107, 105, 101] := by rw [Lib.toList_data]; rfl
theorem sSc_l : sSc.toList = [115, 101, 116, 45, 99, 111, 111, 107, 105, 101] := by rw [Lib.toList_data]; rfl

set_option maxRecDepth 100000 in
set_option maxHeartbeats 1000000 in
theorem secret_any (n : ByteArray) (w : World) : Calls Try.prog 52 #[.string n] w fun e w' => e = .returned (.bool (secN n)) ∧ w = w' := by
  rw [secN_or]
  rw [sAu_l, sCo_l, sSc_l]
  cases h1 : (n.toList == [97, 117, 116, 104, 111, 114, 105, 122, 97, 116, 105, 111, 110]) with
  | true =>
    go_enter Try.func52, Try.ntmps52
    go_wp2
    go_ret
    exact ⟨rfl, rfl⟩
  | false =>
    cases h2 : (n.toList == [99, 111, 111, 107, 105, 101]) with
    | true =>
      go_enter Try.func52, Try.ntmps52
      go_wp2
      go_ret
      exact ⟨rfl, rfl⟩
    | false =>
      cases h3 : (n.toList == [115, 101, 116, 45, 99, 111, 111, 107, 105, 101]) with
      | true =>
        go_enter Try.func52, Try.ntmps52
        go_wp2
        go_ret
        exact ⟨rfl, rfl⟩
      | false =>
        go_enter Try.func52, Try.ntmps52
        go_wp2
        go_ret
        exact ⟨rfl, rfl⟩

set_option maxRecDepth 100000 in
set_option maxHeartbeats 1000000 in
theorem refSecret_any (n : ByteArray) (w : World) : Calls Try.prog 26 #[.string n] w fun e w' => e = .returned (.bool (secN n)) ∧ w = w' := by
  rw [secN_or]
  rw [sAu_l, sCo_l, sSc_l]
  cases h1 : (n.toList == [97, 117, 116, 104, 111, 114, 105, 122, 97, 116, 105, 111, 110]) with
  | true =>
    go_enter Try.func26, Try.ntmps26
    go_wp2
    go_ret
    exact ⟨rfl, rfl⟩
  | false =>
    cases h2 : (n.toList == [99, 111, 111, 107, 105, 101]) with
    | true =>
      go_enter Try.func26, Try.ntmps26
      go_wp2
      go_ret
      exact ⟨rfl, rfl⟩
    | false =>
      cases h3 : (n.toList == [115, 101, 116, 45, 99, 111, 111, 107, 105, 101]) with
      | true =>
        go_enter Try.func26, Try.ntmps26
        go_wp2
        go_ret
        exact ⟨rfl, rfl⟩
      | false =>
        go_enter Try.func26, Try.ntmps26
        go_wp2
        go_ret
        exact ⟨rfl, rfl⟩

set_option maxRecDepth 100000 in
set_option maxHeartbeats 1000000 in
theorem literal_any (m f : UInt8) (k : Nat) (hk1 : 1 ≤ k) (hk7 : k ≤ 7) (hf : IntKind.u8.wrap ((m.toNat : Int) * 2 ^ k) = (f.toNat : Int)) (i : Nat) (hi : i < 18446744073709551616) (x : Fd) (h1 : x.1.size ≤ 20000) (h2 : x.2.size ≤ 20000) (w : World) :
    Calls Try.prog 53 #[.int .u8 m.toNat, .int .i64 (k : Int), .int .u64 (i : Int), .agg #[.string x.1, .string x.2]] w fun e w' => ∃ v', e = .returned v' ∧ OwB w' w.heap.size v' (litW f k i true x.1.data.toList x.2.data.toList) ∧ Below w.heap.size w w' := by
  have hnum := fun W => number_any (.slice none 0 0) [] m f k hk1 hk7 hf i W (Rd.nil W) (by simp) hi
  have hpl : (pre f k i).length ≤ 11 := (pre_len _ _ _).2
  have hlit : litW f k i true x.1.data.toList x.2.data.toList = if i = 0 then (pre f k i ++ putS x.1.data.toList) ++ putS x.2.data.toList else pre f k i ++ putS x.2.data.toList := by
    unfold litW strW
    split
    · simp
    · simp
  have hsl : (putS x.1.data.toList).length ≤ 20011 := by
    have := (strW_len true x.1.data.toList).2
    have e : x.1.data.toList.length = x.1.size := by simp
    unfold strW at this
    simp only [if_true] at this
    omega
  obtain ⟨x1, x2⟩ := x
  obtain ⟨P, hP⟩ : ∃ P, pre f k i = P := ⟨_, rfl⟩
  rw [hP] at hpl hlit
  simp only [hP, List.nil_append] at hnum
  obtain ⟨mi, hmi⟩ : ∃ mi, (m.toNat : Int) = mi := ⟨_, rfl⟩
  obtain ⟨ki, hki⟩ : ∃ ki, (k : Int) = ki := ⟨_, rfl⟩
  rw [hmi, hki] at hnum ⊢
  obtain ⟨R, hR⟩ : ∃ R, litW f k i true x1.data.toList x2.data.toList = R := ⟨_, rfl⟩
  simp only at hlit h1 h2 hsl ⊢
  rw [hR] at hlit ⊢
  have HNUM := Bx.mk hnum
  have HLIT := Bx.mk hlit
  have HPL : Bx (P.length ≤ 11 ∧ (putS x1.data.toList).length ≤ 20011) := ⟨hpl, hsl⟩
  have HSZ : Bx (x1.size ≤ 20000 ∧ x2.size ≤ 20000) := ⟨h1, h2⟩
  have HB0 := Bx.mk ((Below.refl w.heap.size w).alloc (Nat.le_refl _) (.cells #[.string x1, .string x2] 58))
  have HF0 := Bx.mk (Fb.new 58 w (x1, x2))
  clear hnum hlit hpl hsl h1 h2 hmi hki hR hP hf hi hk1 hk7
  by_cases h0 : i = 0
  · have hd : ((i : Int) == 0) = true := by simp [h0]
    have HL := HLIT.out
    rw [if_pos h0] at HL
    have HL2 := Bx.mk HL
    clear HLIT HL h0
    go_enter Try.func53, Try.ntmps53
    go_wp2_with fail
    refine (HNUM.out _).mono ?_
    rintro e w1 ⟨v1, rfl, ho1, b1⟩
    have HO1 := Bx.mk ho1.bs
    have HB1 := Bx.mk (HB0.out.trans (b1.mono HB0.out.size))
    have HF1 := Bx.mk (HF0.out.keep b1)
    obtain ⟨e1, e2⟩ := HF1.out.cells
    clear ho1 b1
    go_wp2_with fail
    refine (hstr_any v1 P x1 w1 HO1.out (by have := HPL.out; omega) HSZ.out.1).mono ?_
    rintro e w2 ⟨v2, rfl, ho2, b2⟩
    have HO2 := Bx.mk ho2.bs
    have HB2 := Bx.mk (HB1.out.trans (b2.mono HB1.out.size))
    have HF2 := Bx.mk (HF1.out.keep b2)
    clear e1 e2 ho2 b2
    obtain ⟨e1, e2⟩ := HF2.out.cells
    go_wp2_with fail
    refine (hstr_any v2 _ x2 w2 HO2.out (by have := HPL.out; rw [List.length_append]; omega) HSZ.out.2).mono ?_
    rintro e w3 ⟨v3, rfl, ho3, b3⟩
    have HO3 := Bx.mk (ho3.mono HB2.out.size)
    have HB3 := Bx.mk (HB2.out.trans (b3.mono HB2.out.size))
    clear e1 e2 ho3 b3
    go_wp2_with fail
    go_ret
    refine ⟨_, rfl, ?_, HB3.out⟩
    rw [HL2.out]
    exact HO3.out
  · have hd : ((i : Int) == 0) = false := by simp; omega
    have HL := HLIT.out
    rw [if_neg h0] at HL
    have HL2 := Bx.mk HL
    clear HLIT HL h0
    go_enter Try.func53, Try.ntmps53
    go_wp2_with fail
    refine (HNUM.out _).mono ?_
    rintro e w1 ⟨v1, rfl, ho1, b1⟩
    have HO1 := Bx.mk ho1.bs
    have HB1 := Bx.mk (HB0.out.trans (b1.mono HB0.out.size))
    have HF1 := Bx.mk (HF0.out.keep b1)
    obtain ⟨e1, e2⟩ := HF1.out.cells
    clear ho1 b1
    go_wp2_with fail
    refine (hstr_any v1 P x2 w1 HO1.out (by have := HPL.out; omega) HSZ.out.2).mono ?_
    rintro e w3 ⟨v3, rfl, ho3, b3⟩
    have HO3 := Bx.mk (ho3.mono HB1.out.size)
    have HB3 := Bx.mk (HB1.out.trans (b3.mono HB1.out.size))
    clear e1 e2 ho3 b3
    go_wp2_with fail
    go_ret
    refine ⟨_, rfl, ?_, HB3.out⟩
    rw [HL2.out]
    exact HO3.out

end Go.Proofs.Ythnaapjefedalaa

/-
  The tables' words by their closest blocks; the program's encoder as a word; its size updates.
-/
namespace Go.Proofs.Ythnaapjefedalaa
open Go.RowKit Go.Maps
set_option linter.unusedVariables false

theorem Wd.tb (p : Nat) (T : Tab) : Wd (Tb p T) := ⟨fun h => h.lt, fun h => h.kept⟩
theorem Wd.rt (p : Nat) (T : Tab) : Wd (Rt p T) := ⟨fun h => h.lt, fun h => h.kept⟩
theorem NoB.st {w : World} {v : Value} {L : List Fd} (h : St w v L) {k : Nat} (hk : v.ownBlock = some k) : ∃ o, w.heap[k]? = some o ∧ ∀ (c : Array Value) (z : Nat × Nat), o ≠ Obj.cells c 5 z := by
  rcases h with ⟨rfl, rfl⟩ | ⟨g, o, cap, m, F, rfl, hr, h1, h2, h3, h4⟩
  · simp [Value.ownBlock] at hk
  · simp only [Value.ownBlock, Option.some.injEq] at hk
    subst hk
    exact NoB.row hr (by decide)
theorem Ex.tb (p : Nat) (T : Tab) : Ex (Tb p T) := by
  rintro w S ⟨v, bw, bn, Dw, Dn, h1, h2, h3, h4, h5, h6⟩
  refine ⟨fun k => k = p ∨ k = bw ∨ k = bn ∨ v.ownBlock = some k, ⟨v, bw, bn, Dw, Dn, h1, h2, h3, ⟨.inl rfl, .inr (.inl rfl), .inr (.inr (.inl rfl)), fun k hk => .inr (.inr (.inr hk))⟩, ?_, h6⟩, ?_, ?_⟩
  · rintro k (rfl | rfl | rfl | hk)
    · exact h5 _ h4.1
    · exact h5 _ h4.2.1
    · exact h5 _ h4.2.2.1
    · exact h5 _ (h4.2.2.2 k hk)
  · rintro k (rfl | rfl | rfl | hk)
    · exact h4.1
    · exact h4.2.1
    · exact h4.2.2.1
    · exact h4.2.2.2 k hk
  · rintro k (rfl | rfl | rfl | hk)
    · exact NoB.row h1.row (by decide)
    · obtain ⟨es, cl, e1, _⟩ := h1.mw
      exact ⟨_, e1, fun c z e => by cases e⟩
    · obtain ⟨es, cl, e1, _⟩ := h1.mn
      exact ⟨_, e1, fun c z e => by cases e⟩
    · exact NoB.st h1.st hk
theorem Ex.rt (p : Nat) (T : Tab) : Ex (Rt p T) := by
  rintro w S ⟨v, h1, h2, h3, h4, h5, h6⟩
  refine ⟨fun k => k = p ∨ v.ownBlock = some k, ⟨v, h1, h2, h3, ⟨.inl rfl, fun k hk => .inr hk⟩, ?_, h6⟩, ?_, ?_⟩
  · rintro k (rfl | hk)
    · exact h5 _ h4.1
    · exact h5 _ (h4.2 k hk)
  · rintro k (rfl | hk)
    · exact h4.1
    · exact h4.2 k hk
  · rintro k (rfl | hk)
    · exact NoB.row h1 (by decide)
    · exact NoB.st h2 hk

/-- The cells of the program's encoder. -/
def eF (p : Nat) (rs : Bool) (a b : Nat) (i : Nat) : Value := if i = 0 then .pointer (some ⟨p, 0, none⟩) else if i = 1 then .bool rs else if i = 2 then .int .i64 (a : Int) else .int .i64 (b : Int)
/-- The program's encoder behind the pointer to block q, its table at block p; le: the least capacity since the last block. -/
def Ep (q p : Nat) (T : Tab) (le : Option Nat) : Wx := fun w S => ∃ a b : Nat, (∀ m, le = some m → a = m ∧ b = T.cap) ∧ Hd q 69 4 (eF p le.isSome a b) (Tb p T) w S
theorem Wd.ep (q p : Nat) (T : Tab) (le : Option Nat) : Wd (Ep q p T le) := by
  constructor
  · rintro w S ⟨a, b, h, h1⟩
    exact (Wd.tb p T).hd.lt h1
  · rintro w w' S ⟨a, b, h, h1⟩ hs hb
    exact ⟨a, b, h, (Wd.tb p T).hd.kept h1 hs hb⟩
theorem Ex.ep (q p : Nat) (T : Tab) (le : Option Nat) : Ex (Ep q p T le) := by
  rintro w S ⟨a, b, h, h1⟩
  obtain ⟨E, e1, e2, e3⟩ := Ex.hd (Ex.tb p T) (by decide) w S h1
  exact ⟨E, ⟨a, b, h, e1⟩, e2, e3⟩
section
variable {q p : Nat} {T T' : Tab} {le : Option Nat} {w w' : World} {S : Nat → Prop}
theorem Ep.ptr (h : Ep q p T le w S) : w.cell? ⟨q, 0, none⟩ = some (.pointer (some ⟨p, 0, none⟩)) := by
  obtain ⟨a, b, _, h1⟩ := h
  exact h1.row.cell (by omega)
theorem Ep.ok (h : Ep q p T le w S) : T.ok := by
  obtain ⟨a, b, _, S', _, h2, _⟩ := h
  exact h2.ok
theorem Ep.opens (h : Ep q p T le w S) : ∃ S', Tb p T w S' ∧ ¬ S' q ∧ (∀ k, S' k → S k) ∧ ∀ (w' : World) (T' : Tab), T'.cap = T.cap → Turn (Tb p T') S' w w' → Turn (Ep q p T' le) S w w' := by
  obtain ⟨a, b, h0, h1⟩ := h
  obtain ⟨S', h2, h3, h4, h5⟩ := h1.opens
  refine ⟨S', h2, h3, h4, fun w' T' hc ht => ?_⟩
  obtain ⟨S2, x, s, f⟩ := h5 w' _ ht
  exact ⟨S2, ⟨a, b, fun m hm => by rw [hc]; exact h0 m hm, x⟩, s, f⟩
/-- Its table turns, its capacity stays. -/
theorem Ep.tab (h : Ep q p T le w S) (hc : T'.cap = T.cap) (ht : ∀ S', Tb p T w S' → Turn (Tb p T') S' w w') : Turn (Ep q p T' le) S w w' := by
  obtain ⟨a, b, h0, h1⟩ := h
  obtain ⟨S', x, s, f⟩ := h1.turn ht
  exact ⟨S', ⟨a, b, fun m hm => by rw [hc]; exact h0 m hm, x⟩, s, f⟩

set_option maxRecDepth 100000 in
set_option maxHeartbeats 2000000 in
theorem updates_any (h : Ep q p T le w S) (hm : ∀ m, le = some m → m ≤ 65535) (hc : T.cap ≤ 65535) :
    Calls Try.prog 31 #[.pointer (some ⟨q, 0, none⟩)] w fun e w' => ∃ v', e = .returned v' ∧ OwB w' w.heap.size v' (upsW (toldN le T.cap)) ∧ Ep q p T none w' S ∧ Fp S w w' := by
  have HE := Bx.mk h
  obtain ⟨a, b, h0, h1⟩ := h
  have c1 : w.cell? ⟨q, 1, none⟩ = some (.bool le.isSome) := h1.row.cell (by omega)
  cases le with
  | none =>
    clear h0 h1 hm hc
    simp only [Option.isSome_none] at c1
    go_enter Try.func31, Try.ntmps31
    go_wp2_with fail
    go_ret
    exact ⟨_, rfl, OwB.nil _ _, HE.out, Fp.refl _ _⟩
  | some m =>
    obtain ⟨rfl, rfl⟩ := h0 m rfl
    have hml := hm a rfl
    simp only [Option.isSome_some] at c1 h1
    have f1 : w.frozen? ⟨q, 1, none⟩ = false := h1.row.frozen 1
    have hp := h1.put (F' := eF p false a T.cap) (Wd.tb p T) 1 (.bool false) (fun j hj => by unfold eF; match j, hj with | 0, _ => rfl | 1, _ => rfl | 2, _ => rfl | 3, _ => rfl)
    have hsz : (w.setCell ⟨q, 1, none⟩ (.bool false)).heap.size = w.heap.size := by simp [World.setCell]
    obtain ⟨w1, hw1⟩ : ∃ w1, w.setCell ⟨q, 1, none⟩ (.bool false) = w1 := ⟨_, rfl⟩
    rw [hw1] at hp hsz
    have HP := Bx.mk hp
    have HSZ := Bx.mk hsz
    obtain ⟨cap, hcap⟩ : ∃ cap, T.cap = cap := ⟨_, rfl⟩
    have d2 : w1.cell? ⟨q, 2, none⟩ = some (.int .i64 (a : Int)) := hp.1.row.cell (by omega)
    have d3 : w1.cell? ⟨q, 3, none⟩ = some (.int .i64 (cap : Int)) := by rw [← hcap]; exact hp.1.row.cell (by omega)
    rw [hcap] at hc
    have ha1 : IntKind.u64.wrap (a : Int) = (a : Int) := by rw [IntKind.wrap_u64]; omega
    have ha2 : IntKind.u64.wrap (cap : Int) = (cap : Int) := by rw [IntKind.wrap_u64]; omega
    have HTOLD : Bx (upsW (toldN (some a) T.cap) = if a < cap then pre 32 5 a ++ pre 32 5 cap else pre 32 5 cap) := ⟨by
      unfold toldN upsW
      rw [hcap]
      simp only
      split <;> simp⟩
    have HN := Bx.mk (fun (W : World) (v : Nat) (hv : v ≤ 65535) (bV : Value) (bl : List UInt8) (hb : Bs W bV bl) (hbl : bl.length ≤ 200000) => number_any bV bl 1 32 5 (by omega) (by omega) (by rfl) v W hb hbl (by omega))
    have HCAP := Bx.mk hcap
    have HML := Bx.mk (show a ≤ 65535 ∧ cap ≤ 65535 from ⟨hml, hc⟩)
    have HPL := Bx.mk (pre_len 32 5 a).2
    have HFIN : Bx (∀ W : World, Below w1.heap.size w1 W → Ep q p T none W S ∧ Fp S w W) := ⟨fun W hW => ⟨⟨a, T.cap, (fun m hm => by cases hm), (Wd.tb p T).hd.keep hp.1 hW⟩, hp.2.then (Fp.of_below hW)⟩⟩
    clear hp hsz h0 h1 hm hcap hc hml
    go_enter Try.func31, Try.ntmps31
    by_cases hlt : a < cap
    · have hd : decide (a < cap) = true := decide_eq_true hlt
      have HT := HTOLD.out
      rw [if_pos hlt] at HT
      have HT2 := Bx.mk HT
      clear HT hlt HTOLD
      go_wp2_with fail
      go_region
      go_wp2_with fail
      have HB0 := Bx.mk ((Below.refl w1.heap.size w1).drew)
      have HS0 : Bx (w1.heap.size ≤ w1.drew.heap.size) := ⟨Nat.le_refl _⟩
      refine (HN.out _ a HML.out.1 _ [] (Rd.nil _) (by simp)).mono ?_
      rintro e w2 ⟨v2, rfl, ho2, b2⟩
      rw [List.nil_append] at ho2
      have HO2 := Bx.mk ho2.bs
      have HB2 := Bx.mk (HB0.out.trans b2)
      have e2 : w2.cell? ⟨q, 3, none⟩ = some (.int .i64 (cap : Int)) := by
        obtain ⟨⟨_, _, _, hx⟩, _⟩ := HFIN.out w2 HB2.out
        have hx := ((Wd.tb p T).hd.keep HP.out.1 HB2.out).row.cell (i := 3) (by omega)
        rw [hx]
        rw [← HCAP.out]
        rfl
      clear ho2 b2 d2 d3 c1 f1
      go_wp2_with fail
      refine (HN.out _ cap HML.out.2 _ _ HO2.out (by have := HPL.out; omega)).mono ?_
      rintro e w3 ⟨v3, rfl, ho3, b3⟩
      have HO3 := Bx.mk (ho3.mono HB2.out.size)
      have HB3 := Bx.mk (HB2.out.trans (b3.mono HB2.out.size))
      clear ho3 b3 e2
      go_wp2_with fail
      go_ret
      rw [HT2.out]
      rw [HSZ.out] at HO3
      exact ⟨_, rfl, HO3.out, HFIN.out _ HB3.out⟩
    · have hd : decide (a < cap) = false := decide_eq_false hlt
      have HT := HTOLD.out
      rw [if_neg hlt] at HT
      have HT2 := Bx.mk HT
      clear HT hlt HTOLD
      go_wp2_with fail
      go_region
      go_wp2_with fail
      have HB0 := Bx.mk ((Below.refl w1.heap.size w1).drew)
      refine (HN.out _ cap HML.out.2 _ [] (Rd.nil _) (by simp)).mono ?_
      rintro e w3 ⟨v3, rfl, ho3, b3⟩
      rw [List.nil_append] at ho3
      have HO3 : Bx (OwB w3 w1.heap.size v3 (pre 32 5 cap)) := ⟨ho3⟩
      have HB3 := Bx.mk (HB0.out.trans b3)
      clear ho3 b3
      go_wp2_with fail
      go_ret
      rw [HT2.out]
      rw [HSZ.out] at HO3
      exact ⟨_, rfl, HO3.out, HFIN.out _ HB3.out⟩
end
end Go.Proofs.Ythnaapjefedalaa

/-
  Slices of the static tables' rows: what they read as.
-/
namespace Go.Proofs.Ythnaapjefedalaa
open Go.RowKit
set_option linter.unusedVariables false

theorem Fs.row_len {w : World} {v : Value} {l : List Fd} (h : Fs w v l) (ty : TypeId) (W : World) : (Builtin.len_ #[119] ty #[v]).run Try.prog W = .ok (.int .i64 (l.length : Int)) W := by
  obtain ⟨A, c, rfl, h1, h2, h3⟩ := h
  simp [Builtin.len_, run_underlying Try.underlying119, goInt]
/-- The place of v[i], and what lies there. -/
theorem Fs.row_at {w : World} {v : Value} {l : List Fd} (h : Fs w v l) (i : Nat) (hi : i < l.length) :
    ∃ b o : Nat, (∀ (q : IntKind) (W : World), (Instr.indexAt 119 v (.int q (i : Int))).run Try.prog W = .ok (.pointer (some ⟨b, o, none⟩)) W) ∧
      ∀ W : World, Fs W v l → W.cell? ⟨b, o, none⟩ = some (.string l[i].1) ∧ W.cell? ⟨b, o + 1, none⟩ = some (.string l[i].2) := by
  obtain ⟨b, o, c, rfl, h1, h2, h3, hc⟩ := Rn.at_ h (by omega) (by omega)
  have hsz : ∀ W : World, (sizeOf (Try.prog.elem 119)).run Try.prog W = .ok 2 W := fun W => by kernel_rfl
  refine ⟨b, o + i * 2, fun q W => ?_, fun W hW => ?_⟩
  · simp [Instr.indexAt, asIntOf, run_underlying Try.underlying119, Sem.run_bind, hi, Result.andThen]
    simp [Addr.add]
  · obtain ⟨b', o', c', e, _, _, _, hc'⟩ := Rn.at_ hW (by omega) (by omega)
    injection e with e1 e2 e3
    injection e1 with e1
    injection e1 with e1 e4
    subst e1; subst e4
    have := fvl_at l i hi
    exact ⟨hc' _ _ this.1, hc' _ _ this.2⟩


end Go.Proofs.Ythnaapjefedalaa

/-
  Contracts of find's closure, of slices.IndexFunc with it.
-/
namespace Go.Proofs.Ythnaapjefedalaa
open Go.RowKit
set_option linter.unusedVariables false

theorem str_eqS (a b : ByteArray) (h : a.toList = b.toList) : a = b := by
  rw [Lib.toList_data, Lib.toList_data] at h
  have := Array.toList_inj.1 h
  cases a; cases b; simp_all
theorem str_beq_trueS {a b : ByteArray} (h : a = b) : (a.toList == b.toList) = true := by rw [h]; exact beq_self_eq_true _
theorem str_beq_falseS {a b : ByteArray} (h : ¬ a = b) : (a.toList == b.toList) = false := by
  rw [beq_eq_false_iff_ne]
  exact fun h2 => h (str_eqS a b h2)
theorem str_beq (a b : ByteArray) : (a.toList == b.toList) = decide (a = b) := by
  by_cases h : a = b
  · rw [str_beq_trueS h, decide_eq_true h]
  · rw [str_beq_falseS h, decide_eq_false h]

set_option maxRecDepth 100000 in
set_option maxHeartbeats 1000000 in
theorem named_any (r f : Fd) (g : Nat) (w : World) (hf : Fb 121 w g f) :
    Calls Try.prog 82 #[.agg #[.string r.1, .string r.2], .pointer (some ⟨g, 0, none⟩)] w fun e w' => e = .returned (.bool (decide (r.1 = f.1))) ∧ Below w.heap.size w w' := by
  obtain ⟨r1, r2⟩ := r
  obtain ⟨f1, f2⟩ := f
  have HF := Bx.mk (hf.alloc (.cells #[.string r1, .string r2] 121))
  obtain ⟨hc, _⟩ := HF.out.cells
  have HN := Fb.new 121 w (r1, r2)
  obtain ⟨hd, _⟩ := HN.cells
  have HE := Bx.mk (str_beq r1 f1)
  clear hf HN
  simp only at hc hd
  go_enter Try.func82, Try.ntmps82
  go_wp2
  go_ret
  exact ⟨by rw [← HE.out]; rfl, (Below.refl _ _).alloc (Nat.le_refl _) _⟩

/-- The number of the first that has f's name, or -1. -/
def namedI (l : List Fd) (f : Fd) : Int := match l.findIdx? (fun g => decide (g.1 = f.1)) with | some i => (i : Int) | none => -1

set_option maxRecDepth 100000 in
set_option maxHeartbeats 1000000 in
theorem index_any (v : Value) (l : List Fd) (f : Fd) (g : Nat) (w : World) (hv : Fs w v l) (hl : l.length ≤ 1000) (hf : Fb 121 w g f) :
    Calls Try.prog 81 #[v, .func (.func 82) #[] #[.pointer (some ⟨g, 0, none⟩)]] w fun e w' => e = .returned (.int .i64 (namedI l f)) ∧ Below w.heap.size w w' := by
  have HV := Bx.mk hv
  have HL := Bx.mk hl
  have HF := Bx.mk hf
  have hlen := fun ty W => hv.row_len ty W
  clear hv hf
  go_enter Try.func81, Try.ntmps81
  go_wp2
  go_loopg [8] l.length (fun n s8 wx => ∃ k : Nat, k + n = l.length ∧ s8 = .int .i64 k ∧ Bx (∀ j (hj : j < k) (hjl : j < l.length), l[j].1 ≠ f.1) ∧ Bx (Below w.heap.size w wx))
  case atStart => exact ⟨0, by omega, rfl, ⟨fun j hj => absurd hj (Nat.not_lt_zero _)⟩, ⟨Below.refl _ _⟩⟩
  case round =>
    obtain ⟨k, hkg, rfl, HP, HB⟩ := hrel
    cases gk with
    | zero =>
      obtain rfl : k = l.length := by omega
      go_wp2
      go_ret
      refine ⟨?_, HB.out⟩
      unfold namedI
      rw [findIdx_none (fun j hj => by simpa using HP.out j hj hj)]
      rfl
    | succ n =>
      have hk : k < l.length := by omega
      obtain ⟨b, o, hix, hcs⟩ := HV.out.row_at k hk
      obtain ⟨hc1, hc2⟩ := hcs wr (HV.out.keep HB.out)
      have HFW := Bx.mk (HF.out.keep HB.out)
      have HK := Bx.mk hk
      obtain ⟨f1, hf1⟩ : ∃ f1, l[k].1 = f1 := ⟨_, rfl⟩
      obtain ⟨f2, hf2⟩ : ∃ f2, l[k].2 = f2 := ⟨_, rfl⟩
      rw [hf1] at hc1
      rw [hf2] at hc2
      have HF1 := Bx.mk hf1
      clear hcs hf1 hf2
      by_cases hn : f1 = f.1
      · have HN := Bx.mk hn
        clear hn
        go_wp2_with fail
        refine (named_any (f1, f2) f g _ HFW.out).mono ?_
        rintro e w2 ⟨rfl, hb⟩
        have HB2 := Bx.mk (HB.out.trans (hb.mono HB.out.size))
        have ht : decide ((f1, f2).1 = f.1) = true := decide_eq_true HN.out
        rw [ht]
        clear hb ht
        go_wp2
        go_ret
        refine ⟨?_, HB2.out⟩
        unfold namedI
        rw [findIdx_some HK.out (by rw [HF1.out]; exact decide_eq_true HN.out) (fun j hj => decide_eq_false (HP.out j hj (by have := HK.out; omega)))]
        rfl
      · have HN := Bx.mk hn
        clear hn
        go_wp2_with fail
        refine (named_any (f1, f2) f g _ HFW.out).mono ?_
        rintro e w2 ⟨rfl, hb⟩
        have HB2 := Bx.mk (HB.out.trans (hb.mono HB.out.size))
        have ht : decide ((f1, f2).1 = f.1) = false := decide_eq_false HN.out
        rw [ht]
        clear hb ht
        go_wp2
        go_roundg n
        case measure => omega
        case rel => exact ⟨k + 1, by omega, by go_num, ⟨fun j hj hjl => by
          rcases Nat.lt_or_ge j k with h1 | h1
          · exact HP.out j h1 hjl
          · obtain rfl : j = k := by omega
            rw [HF1.out]; exact HN.out⟩, HB2⟩

end Go.Proofs.Ythnaapjefedalaa

/-
  Contract of static.places: the map from rows to their places.
-/
namespace Go.Proofs.Ythnaapjefedalaa
open Go.RowKit Go.Maps
set_option linter.unusedVariables false

theorem rowLaidOut : laidOutB Try.prog = true := by kernel_rfl
theorem rowLaw : Keyed Try.prog 121 := Keyed.of_law (deep_law_laid rowLaidOut (m := 2) (by omega) (of_decide_eq_true (by kernel_rfl)) (by kernel_rfl) (by kernel_rfl))

/-- What a row reads as, as a key. -/
def kfS (f : Fd) : Lit := .string (keyBytes [.string f.1.data.toList, .string f.2.data.toList])
def SizedS (f : Fd) : Prop := f.1.size ≤ maxLen ∧ f.2.size ≤ maxLen

theorem rowCells : Try.prog.cellsOf 121 = 2 := by kernel_rfl
theorem rowStr : Try.prog.cellsOf 9 = 1 := by kernel_rfl
theorem rowKey : Try.prog.keyType 121 = true := by kernel_rfl
theorem keyOf_fdS (f : Fd) (h : SizedS f) : keyOf Try.prog 121 (.agg #[.string f.1, .string f.2]) = some (kfS f) := by
  obtain ⟨f1, f2⟩ := f
  obtain ⟨h1, h2⟩ := h
  simp only at h1 h2
  have hs : ∀ (n : Nat) (s : ByteArray), s.size ≤ maxLen → Try.prog.keyLits (n + 1) 9 [.string s] = some [.string s.data.toList] := fun n s hs => by
    unfold Program.keyLits
    simp only [Try.underlying9, if_pos hs]
  unfold keyOf
  simp only [Try.underlying121]
  obtain ⟨n, hn⟩ : ∃ n, Try.prog.types.size = n + 1 := ⟨Try.prog.types.size - 1, by kernel_rfl⟩
  rw [rowKey, hn]
  have hf : (Value.agg #[.string f1, .string f2]).formed Try.prog 121 = true := by
    simp [Value.formed, Try.underlying121, rowCells]
  rw [hf]
  unfold Program.keyLits
  simp only [Try.underlying121]
  rw [if_pos (show (true && true) = true from rfl), if_pos ⟨by rw [rowCells]; rfl, by kernel_rfl⟩]
  simp only [List.mapM_cons, List.mapM_nil, rowStr, Value.cells, List.drop_zero, List.take_succ_cons, List.take_zero, List.drop_succ_cons, hs _ _ h1, hs _ _ h2]
  rfl

theorem kf_injS {f g : Fd} (hf : SizedS f) (hg : SizedS g) (h : kfS f = kfS g) : f = g := by
  have e := rowLaw.inj (keyOf_fdS f hf) (by rw [h]; exact keyOf_fdS g hg)
  obtain ⟨f1, f2⟩ := f
  obtain ⟨g1, g2⟩ := g
  simp only [Value.agg.injEq, Array.mk.injEq, List.cons.injEq, Value.string.injEq] at e
  rw [e.1, e.2.1]
theorem kf_keyS (f : Fd) (h : SizedS f) : WideAt.IsKeyLit (kfS f) := rowLaw.key (keyOf_fdS f h)

/-- The map tells where each of the first k stands, and nothing else. -/
def PlD (l : List Fd) (k : Nat) (D : DataW Unit) : Prop :=
  IsMap D ∧ (∀ f, SizedS f → Maps.has D (kfS f) = (l.take k).any (fun g => decide (g = f))) ∧ ∀ i (hi : i < k) (hl : i < l.length), D.atKey (kfS l[i]) (.lit (.int .i64 0)) = .lit (.int .i64 (i : Int))

theorem PlD.zero (l : List Fd) : PlD l 0 (.map []) := ⟨isMap_empty, fun f _ => by simp [Maps.has], fun i hi => absurd hi (Nat.not_lt_zero _)⟩

theorem PlD.succ {l : List Fd} (hn : l.Nodup) (hs : ∀ f ∈ l, SizedS f) {k : Nat} {D : DataW Unit} (h : PlD l k D) (hk : k < l.length) : PlD l (k + 1) (D.put (kfS l[k]) (.lit (.int .i64 (k : Int)))) := by
  obtain ⟨h0, h1, h2⟩ := h
  have hsk := hs l[k] (List.getElem_mem hk)
  refine ⟨h0.put _ _, fun f hf => ?_, fun i hi hl => ?_⟩
  · rw [List.take_succ_eq_append_getElem hk]
    by_cases he : f = l[k]
    · rw [he, has_put_same h0 (kf_keyS _ hsk), List.any_append]
      simp
    · rw [has_put_other (fun e => he (kf_injS hf hsk e)), h1 f hf, List.any_append]
      simp
      exact fun e => absurd e.symm he
  · by_cases he : i = k
    · subst he
      rw [atKey_put_same h0 (kf_keyS _ hsk)]
    · rw [atKey_put_other (fun e => he (nodup_idx hn hl hk (kf_injS (hs _ (List.getElem_mem hl)) hsk e)))]
      exact h2 i (by omega) hl

set_option maxRecDepth 100000 in
set_option maxHeartbeats 1000000 in
theorem places_any (v : Value) (l : List Fd) (w : World) (hv : Fs w v l) (hl : l.length ≤ 1000) (hn : l.Nodup) (hs : ∀ f ∈ l, SizedS f) :
    Calls Try.prog 83 #[v] w fun e w' => ∃ D, e = .returned (.map (some w.heap.size)) ∧ w'.ownsMap Try.prog 121 (plainElem Try.prog 3) w.heap.size l.length D ∧ PlD l l.length D ∧ Below w.heap.size w w' := by
  have hmm : ∀ (n : Nat) (W : World), (Instr.makeMap 127 (some (.int .i64 (n : Int)))).run Try.prog W = .ok (.map (some W.heap.size)) (W.alloc (.map #[] 0)) := fun n W => by
    simp [Instr.makeMap, run_underlying Try.underlying127, Sem.run_bind, asInt, asIntOf, Result.andThen]
  have HV := Bx.mk hv
  have HN := Bx.mk hn
  have HS := Bx.mk hs
  have hlen := fun ty W => hv.row_len ty W
  clear hv hn hs
  go_enter Try.func83, Try.ntmps83
  go_wp2
  go_loopg [11] l.length (fun n s11 wx => ∃ (k : Nat) (D : DataW Unit), k + n = l.length ∧ s11 = .int .i64 k ∧ Bx (wx.ownsMap Try.prog 121 (plainElem Try.prog 3) w.heap.size k D) ∧ Bx (PlD l k D) ∧ Bx (Below w.heap.size w wx))
  case atStart => exact ⟨0, _, by omega, rfl, ⟨World.ownsMap_made _ _ _ _⟩, ⟨PlD.zero l⟩, ⟨(Below.refl _ _).alloc (Nat.le_refl _) _⟩⟩
  case round =>
    obtain ⟨k, D, hkg, rfl, HO, HP, HB⟩ := hrel
    cases gk with
    | zero =>
      obtain rfl : k = l.length := by omega
      go_wp2
      go_ret
      exact ⟨_, rfl, HO.out, HP.out, HB.out⟩
    | succ n =>
      have hk : k < l.length := by omega
      obtain ⟨b, o, hix, hcs⟩ := HV.out.row_at k hk
      obtain ⟨hc1, hc2⟩ := hcs wr (HV.out.keep HB.out)
      have HK := Bx.mk hk
      have HKY := Bx.mk (keyOf_fdS l[k] (HS.out _ (List.getElem_mem hk)))
      obtain ⟨f1, hf1⟩ : ∃ f1, l[k].1 = f1 := ⟨_, rfl⟩
      obtain ⟨f2, hf2⟩ : ∃ f2, l[k].2 = f2 := ⟨_, rfl⟩
      rw [hf1, hf2] at HKY
      rw [hf1] at hc1
      rw [hf2] at hc2
      have hBs := HB.out.size
      clear hcs hf1 hf2
      go_wp2_with (first | (at_mapUpdate; refine wpList_mapUpdate_own _ rfl _ _ _ 127 rfl 121 3 rowLaw Try.underlying127 _ w.heap.size k _ rfl (HO.out.alloc _) (by unfold maxLen; omega) _ _ _ rfl rfl HKY.out _ [] (plainElem_int Try.underlying3 (WalkArith.wf_i64 (by omega))) ?_; intro w1 hown1 hgrow1))
      have HO1 := Bx.mk hown1
      have HB1 := Bx.mk ((HB.out.alloc hBs _).grown hgrow1 (HB.out.alloc hBs _).size (fun j hj => by cases hj; exact Nat.le_refl _))
      clear hown1 hgrow1
      go_wp2
      go_roundg n
      case measure => omega
      case rel => exact ⟨k + 1, _, by omega, by go_num, HO1, ⟨PlD.succ HN.out HS.out HP.out HK.out⟩, HB1⟩

end Go.Proofs.Ythnaapjefedalaa
