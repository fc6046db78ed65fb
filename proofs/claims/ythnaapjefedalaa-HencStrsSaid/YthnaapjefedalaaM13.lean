/-
  Texts put together: HuffK, SliceM, StrMath, NumE, NumF, NumMath.
-/
import Derived.Test.YthnaapjefedalaaM11
import Derived.Test.YthnaapjefedalaaM12
import Derived.Test.YthnaapjefedalaaM08

/-
  Contracts of the document's sign and Unhuffman.
-/
namespace Go.Proofs.Ythnaapjefedalaa
open Go.RowKit
set_option linter.unusedVariables false

set_option maxRecDepth 100000 in
set_option maxHeartbeats 1000000 in
theorem refSign_some (m n x s : Nat) (w : World) (hm : CodesAt w m) (hn : n < 31) (hs : sgn n x = some s) :
    Calls Try.prog 72 #[.slice (some ⟨m, 0, none⟩) 257 257, .int .u32 x, .int .i64 n] w fun e w' => e = .returned (.int .i64 (s : Int)) ∧ w = w' := by
  obtain ⟨h1, h2, h3⟩ := sgn_some hn hs
  have HM := Bx.mk hm
  have HS := Bx.mk hs
  have H23 := Bx.mk (And.intro h2 h3)
  clear hm hs h2 h3
  go_enter Try.func72, Try.ntmps72
  go_wp2
  go_loop [7] (fun i => ∃ k : Nat, k ≤ s ∧ i = .int .i64 k) (fun i => s - (intOf i).toNat)
  case atStart => exact ⟨0, Nat.zero_le _, rfl⟩
  case round =>
    obtain ⟨k, hk, rfl⟩ := hrel
    obtain ⟨hc1, hc2⟩ := HM.out.cells k (by omega)
    by_cases hks : k = s
    · rw [hks, H23.out.1] at hc2
      rw [hks, H23.out.2] at hc1
      subst hks
      go_wp2
      go_ret
      exact ⟨rfl, rfl⟩
    · have hne : ¬ (ll k = n ∧ cw k = x) := by
        rintro ⟨e1, e2⟩
        have h := sgn_of (s := k) (by omega)
        rw [e1, e2, HS.out] at h
        injection h with h
        exact hks h.symm
      generalize ll k = a at hc2 hne
      generalize cw k = b at hc1 hne
      have hlt : k < s := by omega
      by_cases ha : a = n
      · subst ha
        have hb : ((b : Int) == (x : Int)) = false := by simp; omega
        clear hne hks
        go_wp2
        go_round
        case rel => exact ⟨k + 1, by omega, by go_num⟩
        case measure => simp [intOf]; omega
      · have hb : ((a : Int) == (n : Int)) = false := by simp; omega
        clear hne hks ha
        go_wp2
        go_round
        case rel => exact ⟨k + 1, by omega, by go_num⟩
        case measure => simp [intOf]; omega

set_option maxRecDepth 100000 in
set_option maxHeartbeats 1000000 in
theorem refSign_none (m n x : Nat) (w : World) (hm : CodesAt w m) (hn : n < 31) (hs : sgn n x = none) :
    Calls Try.prog 72 #[.slice (some ⟨m, 0, none⟩) 257 257, .int .u32 x, .int .i64 n] w fun e w' => e = .returned (.int .i64 (-1)) ∧ w = w' := by
  have HM := Bx.mk hm
  have HS := Bx.mk hs
  clear hm hs
  go_enter Try.func72, Try.ntmps72
  go_wp2
  go_loop [7] (fun i => ∃ k : Nat, k ≤ 257 ∧ i = .int .i64 k) (fun i => 257 - (intOf i).toNat)
  case atStart => exact ⟨0, Nat.zero_le _, rfl⟩
  case round =>
    obtain ⟨k, hk, rfl⟩ := hrel
    by_cases hlt : k < 257
    · obtain ⟨hc1, hc2⟩ := HM.out.cells k (by omega)
      have hne : ¬ (ll k = n ∧ cw k = x) := by
        rintro ⟨e1, e2⟩
        have h := sgn_of (s := k) (by omega)
        rw [e1, e2, HS.out] at h
        cases h
      generalize ll k = a at hc2 hne
      generalize cw k = b at hc1 hne
      by_cases ha : a = n
      · subst ha
        have hb : ((b : Int) == (x : Int)) = false := by simp; omega
        clear hne
        go_wp2
        go_round
        case rel => exact ⟨k + 1, by omega, by go_num⟩
        case measure => simp [intOf]; omega
      · have hb : ((a : Int) == (n : Int)) = false := by simp; omega
        clear hne ha
        go_wp2
        go_round
        case rel => exact ⟨k + 1, by omega, by go_num⟩
        case measure => simp [intOf]; omega
    · go_wp2
      go_ret
      exact ⟨rfl, rfl⟩

theorem allBits_get (l : List UInt8) : ∀ k (hk : k / 8 < l.length), (allBits l)[k]? = some (l[k / 8].toNat / 2 ^ (7 - k % 8) % 2) := by
  induction l with
  | nil => intro k hk; simp at hk
  | cons x l ih =>
    intro k hk
    have e : allBits (x :: l) = byteBits x ++ allBits l := rfl
    have hl : (byteBits x).length = 8 := by unfold byteBits; rw [msb_length]
    rw [e]
    rcases Nat.lt_or_ge k 8 with h | h
    · rw [List.getElem?_append_left (by omega)]
      unfold byteBits
      rw [msb_get _ _ _ h]
      have h0 : k / 8 = 0 := by omega
      simp only [h0, List.getElem_cons_zero]
      rw [Nat.mod_eq_of_lt h]
    · rw [List.getElem?_append_right (by omega), hl, ih (k - 8) (by simp at hk; omega)]
      have h0 : k / 8 = (k - 8) / 8 + 1 := by omega
      have h1 : (k - 8) % 8 = k % 8 := by omega
      simp only [h0, List.getElem_cons_succ, h1]

theorem allBits_drop (l : List UInt8) (k : Nat) (hk : k / 8 < l.length) : (allBits l).drop k = l[k / 8].toNat / 2 ^ (7 - k % 8) % 2 :: (allBits l).drop (k + 1) := by
  have h := allBits_get l k hk
  have hl : k < (allBits l).length := by rw [allBits_length]; omega
  rw [List.drop_eq_getElem_cons hl]
  congr 1
  rw [List.getElem?_eq_getElem hl] at h
  injection h

theorem short_none : ∀ n, n < 5 → co n = 0 := by decide +kernel
theorem sgn_short {n x : Nat} (h : n < 5) : sgn n x = none := by
  unfold sgn
  rw [if_neg]
  rw [short_none n h]
  omega

theorem ones_next (x m b : Nat) (hb : b < 2) (hx : x < 2 ^ m) : (decide (x = 2 ^ m - 1) && (b == 1)) = decide (2 * x + b = 2 ^ (m + 1) - 1) := by
  have hp := Nat.two_pow_pos m
  have e : 2 ^ (m + 1) = 2 * 2 ^ m := by rw [Nat.pow_succ]; omega
  rw [Bool.eq_iff_iff]
  simp
  omega

theorem beq_cast (b : Nat) : ((b : Int) == 1) = (b == 1) := by rw [Bool.eq_iff_iff]; simp; omega

def RefDecRel (w : World) (l : List UInt8) (R : List UInt8 × Nat) (o wd n ones i : Value) (wr : World) : Prop :=
  ∃ (k x m : Nat) (o1 : Bool) (l1 : List UInt8), i = .int .i64 (k : Int) ∧ k ≤ 8 * l.length ∧ wd = .int .u32 (x : Int) ∧ n = .int .i64 (m : Int) ∧ ones = .bool o1 ∧ o1 = decide (x = 2 ^ m - 1) ∧ Open m x ∧
    dec ((allBits l).drop k) l1 x m = R ∧ l1.length ≤ 4096 ∧ ApB wr w.heap.size o l1 ∧ Below w.heap.size w wr

theorem and_bit (c q : Nat) (hc : c < 256) : bits .and .u32 ((c : Int) / 2 ^ q % 4294967296) 1 = ((c / 2 ^ q % 2 : Nat) : Int) := by
  have h : c / 2 ^ q ≤ c := Nat.div_le_self _ _
  have key : ((c : Int) / 2 ^ q % 4294967296) = ((c / 2 ^ q : Nat) : Int) := by
    have e : ((c : Int) / 2 ^ q) = ((c / 2 ^ q : Nat) : Int) := by simp
    rw [e]
    generalize c / 2 ^ q = z at h ⊢
    omega
  rw [key, show (1 : Int) = ((1 : Nat) : Int) from rfl, u32_and_nat _ _ (by omega) (by omega), Nat.and_one_is_mod]

set_option maxRecDepth 100000 in
set_option maxHeartbeats 1000000 in
theorem unhuffman_any (bV : Value) (l : List UInt8) (w : World) (hb : Bs w bV l) (hl : l.length ≤ 100000) :
    Calls Try.prog 60 #[bV] w fun e w' => e = Ans (dec (allBits l) [] 0 0) ∧ Below w.heap.size w w' := by
  obtain ⟨i0, hi, hz, hz1, hz2⟩ := info_parts infoU8
  have Hi := Lib.hid hi
  have Hz := Lib.hid hz
  have Hz1 := Lib.hid hz1
  have Hz2 := Lib.hid hz2
  clear hi hz hz1 hz2
  have HBV := Bx.mk hb
  have hlenb := fun ty W => hb.run_len ty W
  obtain ⟨R, hR⟩ : ∃ R, dec (allBits l) [] 0 0 = R := ⟨_, rfl⟩
  rw [hR]
  have HR := Bx.mk hR
  generalize hL : l.length = L at hl hlenb
  have HL := Bx.mk hL
  clear hb hL hR
  go_enter Try.func60, Try.ntmps60
  go_wp2_with (go_at_call 66; refine (codes_any _).mono ?_; rintro e w1 ⟨g, rfl, hm, b1⟩)
  have HC := Bx.mk hm
  have HB1 := Bx.mk b1
  clear hm b1
  have hR0 : dec ((allBits l).drop 0) [] 0 0 = R := HR.out
  go_loopw [5, 6, 7, 8, 9] (fun o wd n ones i wr => RefDecRel w1 l R o wd n ones i wr) (fun _ _ _ _ i _ => 8 * L - (intOf i).toNat)
  case atStart => exact ⟨0, 0, 0, true, [], rfl, by omega, rfl, rfl, rfl, rfl, open_zero, hR0, by simp, Ap.nil _ _ _, Below.refl _ _⟩
  case round =>
    obtain ⟨k, x, m, o1, l1, rfl, hk, rfl, rfl, rfl, ho1, hop, hR1, hl1, hap1, hb1⟩ := hrel
    clear hR0
    have HO1 := Bx.mk ho1
    have HOP := Bx.mk hop
    have HR1 := Bx.mk hR1
    have HAP := Bx.mk hap1
    have HB := Bx.mk hb1
    have hsz := hb1.size
    have hkL : k ≤ 8 * L := by rw [← HL.out]; exact hk
    have hm30 := open_lt hop
    clear ho1 hop hR1 hap1 hb1 hk
    by_cases hlt : k < 8 * L
    · have hkl : k / 8 < l.length := by rw [HL.out]; omega
      obtain ⟨p, hix, hcp⟩ := HBV.out.at_ (k / 8) hkl
      rw [show ((k / 8 : Nat) : Int) = (k : Int) / 8 from by omega] at hix
      have hc := hcp wr (Rd.keep (Rd.keep HBV.out HB1.out) HB.out)
      have hc256 : l[k / 8].toNat < 256 := l[k / 8].toNat_lt
      have HR2 : Bx (dec (l[k / 8].toNat / 2 ^ (7 - k % 8) % 2 :: (allBits l).drop (k + 1)) l1 x m = R) := ⟨by rw [← allBits_drop l k hkl]; exact HR1.out⟩
      clear hcp HR1
      generalize l[k / 8].toNat = c at hc hc256 HR2
      have hbit := and_bit c (7 - k % 8) hc256
      have HB2 : Bx (c / 2 ^ (7 - k % 8) % 2 < 2) := ⟨Nat.mod_lt _ (by omega)⟩
      generalize c / 2 ^ (7 - k % 8) % 2 = b at hbit HB2 HR2
      have hb2 : b ≤ 1 := by have := HB2.out; omega
      have hw := open_word HOP.out HB2.out
      have h30 : (2:Nat) ^ (m + 1) ≤ 2 ^ 30 := Nat.pow_le_pow_right (by omega) hw.1
      have hx30 : 2 * x + b < 1073741824 := by have h : (2:Nat) ^ 30 = 1073741824 := by decide
                                               omega
      have hor := or_bit x b (by omega) HB2.out
      have HONX := Bx.mk (ones_next x m b HB2.out HOP.out.2.2)
      have HBI := Bx.mk (beq_cast b)
      clear hw h30
      cases o1 with
      | false =>
        have HON : Bx (false = decide (2 * x + b = 2 ^ (m + 1) - 1)) := ⟨by rw [← HONX.out, ← HO1.out]; rfl⟩
        clear HO1
        by_cases h5 : m + 1 < 5
        · have HS : Bx (sgn (m + 1) (2 * x + b) = none) := ⟨sgn_short h5⟩
          have HOP5 := Bx.mk (open_next HOP.out HB2.out HS.out)
          have HR5 : Bx (dec ((allBits l).drop (k + 1)) l1 (2 * x + b) (m + 1) = R) := ⟨by rw [← HR2.out, dec_none HS.out]⟩
          clear HR2 HOP
          go_wp2_with (with_reducible refine wpList_indexAddr (v := .pointer (some p)) (by with_unfolding_all exact hix _) ?_)
          go_roundw
          case rel => exact ⟨k + 1, 2 * x + b, m + 1, _, l1, by go_num, by omega, by go_num, by go_num, rfl, HON.out, HOP5.out, HR5.out, hl1, HAP.out, HB.out⟩
          case measure => simp [intOf]; omega
        · cases hs : sgn (m + 1) (2 * x + b) with
          | none =>
            have hcall := refSign_none g (m + 1) (2 * x + b) wr (HC.out.keep HB.out) (by omega) hs
            rw [show ((2 * x + b : Nat) : Int) = 2 * (x : Int) + (b : Int) from by omega, show ((m + 1 : Nat) : Int) = (m : Int) + 1 from by omega] at hcall
            have HCALL := Bx.mk hcall
            have HOP5 := Bx.mk (open_next HOP.out HB2.out hs)
            have HR5 : Bx (dec ((allBits l).drop (k + 1)) l1 (2 * x + b) (m + 1) = R) := ⟨by rw [← HR2.out, dec_none hs]⟩
            clear HR2 HOP hcall hs
            go_wp2_with (first
              | (go_at_call 72; refine HCALL.out.mono ?_; rintro e w' ⟨rfl, rfl⟩)
              | (with_reducible refine wpList_indexAddr (v := .pointer (some p)) (by with_unfolding_all exact hix _) ?_))
            go_roundw
            case rel => exact ⟨k + 1, 2 * x + b, m + 1, _, l1, by go_num, by omega, by go_num, by go_num, rfl, HON.out, HOP5.out, HR5.out, hl1, HAP.out, HB.out⟩
            case measure => simp [intOf]; omega
          | some sg =>
            have hsg := (sgn_some (by omega) hs).1
            have hcall := refSign_some g (m + 1) (2 * x + b) sg wr (HC.out.keep HB.out) (by omega) hs
            rw [show ((2 * x + b : Nat) : Int) = 2 * (x : Int) + (b : Int) from by omega, show ((m + 1 : Nat) : Int) = (m : Int) + 1 from by omega] at hcall
            have HCALL := Bx.mk hcall
            by_cases h256 : sg = 256
            · subst h256
              have HR5 : Bx (R = ([], 22)) := ⟨by rw [← HR2.out, dec_end hs]⟩
              clear HR2 HOP hcall hs
              go_wp2_with (first
                | (go_at_call 72; refine HCALL.out.mono ?_; rintro e w' ⟨rfl, rfl⟩)
                | (with_reducible refine wpList_indexAddr (v := .pointer (some p)) (by with_unfolding_all exact hix _) ?_))
              go_ret2
              exact ⟨by rw [HR5.out]; rfl, HB1.out.trans (HB.out.mono HB1.out.size)⟩
            · have hlen5 := fun ty W => (show Bs wr u5 l1 from HAP.out.rd).run_len ty W
              have hn256 : ((sg : Int) == 256) = false := by simp; omega
              by_cases hfull : l1.length = 4096
              · have HR5 : Bx (R = ([], 23)) := ⟨by rw [← HR2.out, dec_long hs h256 hfull]⟩
                rw [hfull] at hlen5
                clear HR2 HOP hcall hs hfull h256
                go_wp2_with (first
                  | (go_at_call 72; refine HCALL.out.mono ?_; rintro e w' ⟨rfl, rfl⟩)
                  | (with_reducible refine wpList_indexAddr (v := .pointer (some p)) (by with_unfolding_all exact hix _) ?_))
                go_ret2
                exact ⟨by rw [HR5.out]; rfl, HB1.out.trans (HB.out.mono HB1.out.size)⟩
              · have HR5 : Bx (dec ((allBits l).drop (k + 1)) (l1 ++ [UInt8.ofNat sg]) 0 0 = R) := ⟨by rw [← HR2.out, dec_some hs h256 hfull]⟩
                have hsg8 : sg < 256 := by omega
                generalize hln : l1.length = ln at hlen5 hl1 hfull
                have HLN := Bx.mk hln
                have hlnl : ln < 4096 := by omega
                clear HR2 HOP hcall hs hfull h256 hln
                go_wp2_with (first
                  | (go_at_call 72; refine HCALL.out.mono ?_; rintro e w' ⟨rfl, rfl⟩)
                  | (with_reducible refine wpList_indexAddr (v := .pointer (some p)) (by with_unfolding_all exact hix _) ?_)
                  | (at_builtin
                     refine wpList_append_ap _ rfl _ _ 33 rfl w1.heap.size 5 i0 (.int .u8 0) 1 Try.underlying33 Hi.out Hz.out Hz1.out Hz2.out rfl _ _ (l1.map bv) _ rfl rfl (HAP.out.alloc _) (Rd.lit wr 5 _ 1 rfl (by simp [maxLen])) (by simp [Value.oneCell']) (by have := HLN.out; simp; omega) (by have := HLN.out; simp [maxLen]; omega) (by simp; omega) ?_
                     intro v6 w6 hap6 hb6))
                have HAP6 := Bx.mk (snoc_any hap6 (UInt8.ofNat sg) (byte_nat hsg8))
                have HB6 : Bx (Below w1.heap.size w1 w6) := ⟨HB.out.trans (((Below.refl _ _).alloc hsz _).trans hb6)⟩
                clear hap6 hb6 hlen5
                go_wp2
                go_roundw
                case rel => exact ⟨k + 1, 0, 0, true, l1 ++ [UInt8.ofNat sg], by go_num, by omega, rfl, rfl, rfl, rfl, open_zero, HR5.out, by rw [List.length_append, HLN.out]; simp; omega, HAP6.out, HB6.out⟩
                case measure => simp [intOf]; omega
      | true =>
        have HON : Bx (((b : Int) == 1) = decide (2 * x + b = 2 ^ (m + 1) - 1)) := ⟨by rw [← HONX.out, ← HO1.out, HBI.out]; rfl⟩
        clear HO1
        by_cases h5 : m + 1 < 5
        · have HS : Bx (sgn (m + 1) (2 * x + b) = none) := ⟨sgn_short h5⟩
          have HOP5 := Bx.mk (open_next HOP.out HB2.out HS.out)
          have HR5 : Bx (dec ((allBits l).drop (k + 1)) l1 (2 * x + b) (m + 1) = R) := ⟨by rw [← HR2.out, dec_none HS.out]⟩
          clear HR2 HOP
          go_wp2_with (with_reducible refine wpList_indexAddr (v := .pointer (some p)) (by with_unfolding_all exact hix _) ?_)
          go_roundw
          case rel => exact ⟨k + 1, 2 * x + b, m + 1, _, l1, by go_num, by omega, by go_num, by go_num, rfl, HON.out, HOP5.out, HR5.out, hl1, HAP.out, HB.out⟩
          case measure => simp [intOf]; omega
        · cases hs : sgn (m + 1) (2 * x + b) with
          | none =>
            have hcall := refSign_none g (m + 1) (2 * x + b) wr (HC.out.keep HB.out) (by omega) hs
            rw [show ((2 * x + b : Nat) : Int) = 2 * (x : Int) + (b : Int) from by omega, show ((m + 1 : Nat) : Int) = (m : Int) + 1 from by omega] at hcall
            have HCALL := Bx.mk hcall
            have HOP5 := Bx.mk (open_next HOP.out HB2.out hs)
            have HR5 : Bx (dec ((allBits l).drop (k + 1)) l1 (2 * x + b) (m + 1) = R) := ⟨by rw [← HR2.out, dec_none hs]⟩
            clear HR2 HOP hcall hs
            go_wp2_with (first
              | (go_at_call 72; refine HCALL.out.mono ?_; rintro e w' ⟨rfl, rfl⟩)
              | (with_reducible refine wpList_indexAddr (v := .pointer (some p)) (by with_unfolding_all exact hix _) ?_))
            go_roundw
            case rel => exact ⟨k + 1, 2 * x + b, m + 1, _, l1, by go_num, by omega, by go_num, by go_num, rfl, HON.out, HOP5.out, HR5.out, hl1, HAP.out, HB.out⟩
            case measure => simp [intOf]; omega
          | some sg =>
            have hsg := (sgn_some (by omega) hs).1
            have hcall := refSign_some g (m + 1) (2 * x + b) sg wr (HC.out.keep HB.out) (by omega) hs
            rw [show ((2 * x + b : Nat) : Int) = 2 * (x : Int) + (b : Int) from by omega, show ((m + 1 : Nat) : Int) = (m : Int) + 1 from by omega] at hcall
            have HCALL := Bx.mk hcall
            by_cases h256 : sg = 256
            · subst h256
              have HR5 : Bx (R = ([], 22)) := ⟨by rw [← HR2.out, dec_end hs]⟩
              clear HR2 HOP hcall hs
              go_wp2_with (first
                | (go_at_call 72; refine HCALL.out.mono ?_; rintro e w' ⟨rfl, rfl⟩)
                | (with_reducible refine wpList_indexAddr (v := .pointer (some p)) (by with_unfolding_all exact hix _) ?_))
              go_ret2
              exact ⟨by rw [HR5.out]; rfl, HB1.out.trans (HB.out.mono HB1.out.size)⟩
            · have hlen5 := fun ty W => (show Bs wr u5 l1 from HAP.out.rd).run_len ty W
              have hn256 : ((sg : Int) == 256) = false := by simp; omega
              by_cases hfull : l1.length = 4096
              · have HR5 : Bx (R = ([], 23)) := ⟨by rw [← HR2.out, dec_long hs h256 hfull]⟩
                rw [hfull] at hlen5
                clear HR2 HOP hcall hs hfull h256
                go_wp2_with (first
                  | (go_at_call 72; refine HCALL.out.mono ?_; rintro e w' ⟨rfl, rfl⟩)
                  | (with_reducible refine wpList_indexAddr (v := .pointer (some p)) (by with_unfolding_all exact hix _) ?_))
                go_ret2
                exact ⟨by rw [HR5.out]; rfl, HB1.out.trans (HB.out.mono HB1.out.size)⟩
              · have HR5 : Bx (dec ((allBits l).drop (k + 1)) (l1 ++ [UInt8.ofNat sg]) 0 0 = R) := ⟨by rw [← HR2.out, dec_some hs h256 hfull]⟩
                have hsg8 : sg < 256 := by omega
                generalize hln : l1.length = ln at hlen5 hl1 hfull
                have HLN := Bx.mk hln
                have hlnl : ln < 4096 := by omega
                clear HR2 HOP hcall hs hfull h256 hln
                go_wp2_with (first
                  | (go_at_call 72; refine HCALL.out.mono ?_; rintro e w' ⟨rfl, rfl⟩)
                  | (with_reducible refine wpList_indexAddr (v := .pointer (some p)) (by with_unfolding_all exact hix _) ?_)
                  | (at_builtin
                     refine wpList_append_ap _ rfl _ _ 33 rfl w1.heap.size 5 i0 (.int .u8 0) 1 Try.underlying33 Hi.out Hz.out Hz1.out Hz2.out rfl _ _ (l1.map bv) _ rfl rfl (HAP.out.alloc _) (Rd.lit wr 5 _ 1 rfl (by simp [maxLen])) (by simp [Value.oneCell']) (by have := HLN.out; simp; omega) (by have := HLN.out; simp [maxLen]; omega) (by simp; omega) ?_
                     intro v6 w6 hap6 hb6))
                have HAP6 := Bx.mk (snoc_any hap6 (UInt8.ofNat sg) (byte_nat hsg8))
                have HB6 : Bx (Below w1.heap.size w1 w6) := ⟨HB.out.trans (((Below.refl _ _).alloc hsz _).trans hb6)⟩
                clear hap6 hb6 hlen5
                go_wp2
                go_roundw
                case rel => exact ⟨k + 1, 0, 0, true, l1 ++ [UInt8.ofNat sg], by go_num, by omega, rfl, rfl, rfl, rfl, open_zero, HR5.out, by rw [List.length_append, HLN.out]; simp; omega, HAP6.out, HB6.out⟩
                case measure => simp [intOf]; omega
    · have HR2 : Bx (dec [] l1 x m = R) := ⟨by
        have h := HR1.out
        rw [List.drop_of_length_le (by rw [allBits_length, HL.out]; omega)] at h
        exact h⟩
      clear HR1 HOP
      by_cases h8 : 8 ≤ m
      · have HR5 : Bx (R = ([], 22)) := ⟨by rw [← HR2.out, dec, if_pos (.inl h8)]⟩
        go_wp2
        go_ret2
        exact ⟨by rw [HR5.out]; rfl, HB1.out.trans (HB.out.mono HB1.out.size)⟩
      · have hstr := conv_str (show Bs wr u5 l1 from HAP.out.rd)
        cases o1 with
        | true =>
          have HR5 : Bx (R = (l1, 0)) := ⟨by
            have h := HO1.out
            rw [← HR2.out, dec, if_neg]
            rintro (h1 | h1)
            · exact h8 h1
            · exact h1 (of_decide_eq_true h.symm)⟩
          go_wp2
          go_ret2
          exact ⟨by rw [HR5.out]; rfl, HB1.out.trans (HB.out.mono HB1.out.size)⟩
        | false =>
          have HR5 : Bx (R = ([], 22)) := ⟨by rw [← HR2.out, dec, if_pos (.inr (of_decide_eq_false HO1.out.symm))]⟩
          go_wp2
          go_ret2
          exact ⟨by rw [HR5.out]; rfl, HB1.out.trans (HB.out.mono HB1.out.size)⟩

end Go.Proofs.Ythnaapjefedalaa

/-
  v[i:j] of bytes.
-/
namespace Go.Proofs.Ythnaapjefedalaa
open Go.RowKit
set_option linter.unusedVariables false

/-- v[i:j] -/
theorem Bs.mid {w : World} {v : Value} {l : List UInt8} (h : Bs w v l) (i j : Int) (hi0 : 0 ≤ i) (hij : i ≤ j) (hj : j ≤ l.length) :
    ∃ v', (∀ W : World, (Instr.slice 33 v (some (.int .i64 i)) (some (.int .i64 j)) none).run Try.prog W = .ok v' W) ∧ ∀ W : World, Bs W v l → Bs W v' ((l.take j.toNat).drop i.toNat) := by
  obtain ⟨v1, r1, b1⟩ := h.upto j (by omega) hj
  obtain ⟨A, n, c, rfl, hn, h1, h2, h3, h4⟩ := h.open_
  have hnl : n = l.length := hn.out
  refine ⟨sliced A i.toNat j.toNat c 1, fun W => ?_, fun W hW => ?_⟩
  · rw [run_slice_lh W 33 A n c elemB .i64 .i64 i j hi0 hij (by omega), sizeB]
    rfl
  · obtain ⟨A', c', e, r1, r2, r3⟩ := hW
    injection e with e1 e2 e3
    subst e1; subst e3
    unfold sliced
    have hlen : (((l.take j.toNat).drop i.toNat).map bv).length = j.toNat - i.toNat := by simp; omega
    refine ⟨if c = i.toNat then A else A.map (·.add (i.toNat * 1)), c - i.toNat, by rw [hlen], by rw [hlen]; omega, by omega, ?_⟩
    rcases r3 with ⟨rfl, hc⟩ | ⟨x, rfl, hx⟩
    · refine .inl ⟨?_, by omega⟩
      split <;> rfl
    · refine .inr ?_
      split
      · rename_i hci
        refine ⟨x, rfl, fun q u hu => ?_⟩
        have : ((l.take j.toNat).drop i.toNat).map bv = [] := by
          apply List.eq_nil_of_length_eq_zero
          rw [hlen]; omega
        rw [this] at hu
        simp at hu
      · refine ⟨x.add (i.toNat * 1), rfl, fun q u hu => ?_⟩
        have hu' : (l.map bv)[i.toNat + q]? = some u := by
          rw [List.map_drop, List.map_take, List.getElem?_drop, List.getElem?_take] at hu
          split at hu
          · exact hu
          · simp at hu
        have hq := hx (i.toNat + q) u hu'
        rw [← hq]
        congr 1
        unfold Addr.add
        split <;> split <;> split <;> simp_all <;> omega

end Go.Proofs.Ythnaapjefedalaa

/-
  What StrBits answers, as a function of the bytes; what rp may come to.
-/
namespace Go.Proofs.Ythnaapjefedalaa
open Go.RowKit
set_option linter.unusedVariables false

/-- The three ways of a prefixed number. -/
theorem rpGo_cases (t : List UInt8) : ∀ i v, v ≤ maxVar → rpGo t i v = (0, 0, 20) ∨ rpGo t i v = (0, 0, 21) ∨
    ∃ n m : Nat, rpGo t i v = ((n : Int), (m : Int), 0) ∧ 1 ≤ m ∧ m ≤ i + 1 + t.length ∧ n ≤ maxVar := by
  induction t with
  | nil => intro i v h; exact .inl rfl
  | cons c t ih =>
    intro i v h
    rw [rpGo_ans]
    unfold rpAns
    split
    · exact .inr (.inl rfl)
    · rename_i hb
      have hf := pfits _ v i h hb
      split
      · exact .inr (.inr ⟨_, _, rfl, by omega, by simp; omega, hf⟩)
      · split
        · exact .inr (.inl rfl)
        · rcases ih (i + 1) _ hf with h1 | h1 | ⟨n, m, h1, h2, h3, h4⟩
          · exact .inl h1
          · exact .inr (.inl h1)
          · exact .inr (.inr ⟨n, m, h1, h2, by simp; omega, h4⟩)

theorem rp_cases (k : Nat) (l : List UInt8) : rp k l = (0, 0, 20) ∨ rp k l = (0, 0, 21) ∨
    ∃ n m : Nat, rp k l = ((n : Int), (m : Int), 0) ∧ 1 ≤ m ∧ m ≤ l.length ∧ n ≤ maxVar := by
  cases l with
  | nil => exact .inl rfl
  | cons c t =>
    have hc := c.toNat_lt
    have hm : c.toNat % 2 ^ k ≤ c.toNat := Nat.mod_le _ _
    rw [show rp k (c :: t) = if c.toNat % 2 ^ k < 2 ^ k - 1 then (((c.toNat % 2 ^ k : Nat) : Int), 1, 0) else rpGo t 0 (c.toNat % 2 ^ k) from rfl]
    split
    · exact .inr (.inr ⟨_, 1, rfl, by omega, by simp, by unfold maxVar; omega⟩)
    · rcases rpGo_cases t 0 (c.toNat % 2 ^ k) (by unfold maxVar; omega) with h1 | h1 | ⟨n, m, h1, h2, h3, h4⟩
      · exact .inl h1
      · exact .inr (.inl h1)
      · exact .inr (.inr ⟨n, m, h1, h2, by simp; omega, h4⟩)

/-- A string with a prefix of k bits, the bit above says whether it is coded: the string, the bytes it took, the error. -/
def sb (k : Nat) (l : List UInt8) : List UInt8 × Int × Int :=
  if (rp k l).2.2 ≠ 0 then ([], 0, (rp k l).2.2)
  else if 4096 < (rp k l).1 then ([], 0, 23)
  else if (l.length : Int) - (rp k l).2.1 < (rp k l).1 then ([], 0, 20)
  else if (l.headD 0).toNat / 2 ^ k % 2 = 0 then ((l.take ((rp k l).2.1 + (rp k l).1).toNat).drop (rp k l).2.1.toNat, (rp k l).2.1 + (rp k l).1, 0)
  else if (dec (allBits ((l.take ((rp k l).2.1 + (rp k l).1).toNat).drop (rp k l).2.1.toNat)) [] 0 0).2 ≠ 0 then
    ([], 0, ((dec (allBits ((l.take ((rp k l).2.1 + (rp k l).1).toNat).drop (rp k l).2.1.toNat)) [] 0 0).2 : Int))
  else ((dec (allBits ((l.take ((rp k l).2.1 + (rp k l).1).toNat).drop (rp k l).2.1.toNat)) [] 0 0).1, (rp k l).2.1 + (rp k l).1, 0)

theorem sb_err {k : Nat} {l : List UInt8} {n m e : Int} (h : rp k l = (n, m, e)) (he : e ≠ 0) : sb k l = ([], 0, e) := by simp [sb, h, he]
theorem sb_long {k : Nat} {l : List UInt8} {n m : Int} (h : rp k l = (n, m, 0)) (hn : 4096 < n) : sb k l = ([], 0, 23) := by simp [sb, h, hn]
theorem sb_more {k : Nat} {l : List UInt8} {n m : Int} (h : rp k l = (n, m, 0)) (hn : ¬ 4096 < n) (hm : (l.length : Int) - m < n) : sb k l = ([], 0, 20) := by simp [sb, h, hn, hm]
theorem sb_plain {k : Nat} {l : List UInt8} {n m : Int} (h : rp k l = (n, m, 0)) (hn : ¬ 4096 < n) (hm : ¬ (l.length : Int) - m < n) (hc : (l.headD 0).toNat / 2 ^ k % 2 = 0) :
    sb k l = ((l.take (m + n).toNat).drop m.toNat, m + n, 0) := by simp only [sb, h, hn, hm, hc, ne_eq, not_true, if_false, if_true]
theorem sb_bad {k : Nat} {l : List UInt8} {n m : Int} {R : List UInt8 × Nat} (h : rp k l = (n, m, 0)) (hn : ¬ 4096 < n) (hm : ¬ (l.length : Int) - m < n) (hc : ¬ (l.headD 0).toNat / 2 ^ k % 2 = 0)
    (hR : dec (allBits ((l.take (m + n).toNat).drop m.toNat)) [] 0 0 = R) (he : R.2 ≠ 0) : sb k l = ([], 0, (R.2 : Int)) := by
  subst hR; simp only [sb, h, hn, hm, hc, he, ne_eq, not_true, not_false_eq_true, if_false, if_true]
theorem sb_coded {k : Nat} {l : List UInt8} {n m : Int} {R : List UInt8 × Nat} (h : rp k l = (n, m, 0)) (hn : ¬ 4096 < n) (hm : ¬ (l.length : Int) - m < n) (hc : ¬ (l.headD 0).toNat / 2 ^ k % 2 = 0)
    (hR : dec (allBits ((l.take (m + n).toNat).drop m.toNat)) [] 0 0 = R) (he : R.2 = 0) : sb k l = (R.1, m + n, 0) := by
  subst hR; simp only [sb, h, hn, hm, hc, he, ne_eq, not_true, if_false]

end Go.Proofs.Ythnaapjefedalaa

/-
  Contracts of num.Var and of the document's Var, Vars.
-/
namespace Go.Proofs.Ythnaapjefedalaa
open Go.RowKit
set_option linter.unusedVariables false

def uv (x : UInt64) : Value := .int .u64 (x.toNat : Int)
/-- The word that is written for v: its mark above it. -/
def varWord (v : Int) : Int := v + cls v * 2 ^ (8 * (clsLen v).toNat - 2)
def varB (v : Int) : List UInt8 := bes (varWord v) (clsLen v).toNat
def small (x : UInt64) : Prop := x.toNat < 4611686018427387904
instance (x : UInt64) : Decidable (small x) := inferInstanceAs (Decidable (_ < _))
def varsB (l : List UInt64) : List UInt8 := l.flatMap fun x => varB x.toNat

theorem varsB_snoc (l : List UInt64) (k : Nat) (h : k < l.length) : varsB (l.take (k + 1)) = varsB (l.take k) ++ varB (l[k].toNat : Int) := by
  unfold varsB
  rw [List.take_succ_eq_append_getElem h, List.flatMap_append]
  simp

theorem bes_length (v : Int) (n : Nat) : (bes v n).length = n := by
  induction n with
  | zero => rfl
  | succ n ih => simp [bes, ih]

theorem clsLen_le (v : Int) : 0 ≤ clsLen v ∧ clsLen v ≤ 8 := by
  unfold clsLen
  repeat' split
  all_goals omega
theorem clsLen_ne (v : Int) (h0 : 0 ≤ v) (h : v < 4611686018427387904) : (clsLen v == 0) = false := by
  rw [beq_eq_false_iff_ne]
  unfold clsLen
  repeat' split
  all_goals omega
theorem clsLen_eq (v : Int) (h : ¬ v < 4611686018427387904) : (clsLen v == 0) = true := by
  rw [beq_iff_eq]
  unfold clsLen
  repeat' split
  all_goals omega
theorem varB_length (v : Int) : (varB v).length ≤ 8 := by
  have := clsLen_le v
  unfold varB; rw [bes_length]; omega
theorem varsB_length (l : List UInt64) : (varsB l).length ≤ 8 * l.length := by
  induction l with
  | nil => simp [varsB]
  | cons x l ih =>
    have := varB_length (x.toNat : Int)
    simp only [varsB, List.flatMap_cons, List.length_append, List.length_cons] at *
    omega

theorem cls_cases (v : Int) (h0 : 0 ≤ v) (h1 : v < 4611686018427387904) :
    (v < 64 ∧ varB v = bes v 1) ∨ (64 ≤ v ∧ v < 16384 ∧ varB v = bes (v + 16384) 2) ∨ (16384 ≤ v ∧ v < 1073741824 ∧ varB v = bes (v + 2147483648) 4) ∨ (1073741824 ≤ v ∧ varB v = bes (v + 13835058055282163712) 8) := by
  unfold varB varWord cls clsLen
  by_cases c1 : v < 64
  · simp only [if_pos c1]; left; refine ⟨c1, ?_⟩; simp
  by_cases c2 : v < 16384
  · simp only [if_neg c1, if_pos c2]; right; left; exact ⟨by omega, c2, rfl⟩
  by_cases c3 : v < 1073741824
  · simp only [if_neg c1, if_neg c2, if_pos c3]; right; right; left; exact ⟨by omega, c3, rfl⟩
  · simp only [if_neg c1, if_neg c2, if_neg c3, if_pos h1]; right; right; right; exact ⟨by omega, rfl⟩

theorem or_mark (x i k : Nat) (m : Int) (hm : m = ((k * 2 ^ i : Nat) : Int)) (h : x < 2 ^ i) (h2 : k * 2 ^ i + x < 18446744073709551616) : bits .or .u64 m (x : Int) = (x : Int) + m := by
  subst hm
  rw [u64_or_add k x i h h2]
  omega
theorem or_mark' (x i k : Nat) (m : Int) (hm : m = ((k * 2 ^ i : Nat) : Int)) (h : x < 2 ^ i) (h2 : k * 2 ^ i + x < 18446744073709551616) : bits .or .u64 (x : Int) m = (x : Int) + m := by
  subst hm
  rw [u64_or_nat _ _ (by omega) (by omega), Nat.or_comm, or_add k x i h]
  omega

/-- A list of numbers, read. -/
theorem Us.cell {w : World} {b o c L : Nat} {l : List UInt64} (h : Rd w (.slice (some ⟨b, o, none⟩) L c) (l.map uv)) (k : Nat) (hk : k < l.length) : w.cell? ⟨b, o + k, none⟩ = some (.int .u64 (l[k].toNat : Int)) := by
  obtain ⟨b', o', c', e, _, _, _, hc⟩ := Rd.at_ h (by simp; omega)
  injection e with e1 e2 e3
  injection e1 with e1
  injection e1 with e1 e4
  subst e1; subst e4
  exact hc k _ (by simp [hk, uv])
theorem Rd.place {w : World} {A : Option Addr} {L c : Nat} {xs : List Value} (h : Rd w (.slice A L c) xs) (hn : 0 < xs.length) : ∃ b o, A = some ⟨b, o, none⟩ := by
  obtain ⟨b, o, c', hv, -, -, -, -⟩ := h.at_ hn
  injection hv with hA _ _
  exact ⟨b, o, hA⟩
/-- Its value: nil or a place. -/
theorem Us.open_ {w : World} {v : Value} {l : List UInt64} (h : Rd w v (l.map uv)) : ∃ A L c, v = .slice A L c ∧ Hid (L = l.length) ∧ L ≤ c ∧ c ≤ maxLen ∧ L ≤ l.length ∧ l.length ≤ L := by
  obtain ⟨A, c, rfl, h1, h2, h3⟩ := h
  rw [List.length_map] at h1
  exact ⟨A, l.length, c, by rw [List.length_map], rfl, h1, h2, Nat.le_refl _, Nat.le_refl _⟩

def VarPost (w : World) (B : Nat) (bl : List UInt8) (l : List UInt64) (e : Ending) (w' : World) : Prop :=
  ((∀ x ∈ l, small x) ∧ ∃ v', e = .returned (.tuple #[v', .int .i64 0]) ∧ ApB w' B v' (bl ++ varsB l) ∧ Below B w w') ∨
  ((¬ ∀ x ∈ l, small x) ∧ e = .returned (.tuple #[.slice none 0 0, .int .i64 21]) ∧ Below B w w')

end Go.Proofs.Ythnaapjefedalaa

/-
  Contracts of the document's Var, Vars.
-/
namespace Go.Proofs.Ythnaapjefedalaa
open Go.RowKit
set_option linter.unusedVariables false

theorem clsLen_at (v : Int) : (v < 64 → clsLen v = 1) ∧ (64 ≤ v → v < 16384 → clsLen v = 2) ∧ (16384 ≤ v → v < 1073741824 → clsLen v = 4) ∧ (1073741824 ≤ v → v < 4611686018427387904 → clsLen v = 8) ∧ (4611686018427387904 ≤ v → clsLen v = 0) := by
  unfold clsLen
  refine ⟨?_, ?_, ?_, ?_, ?_⟩ <;> intros <;> (repeat' split) <;> omega

theorem bes_one (v : Int) (h0 : 0 ≤ v) (h1 : v < 256) : (bes v 1).map bv = [.int .u8 v] := by
  simp only [bes, List.map_cons, List.map_nil, byteAt_val]
  simp
  omega

end Go.Proofs.Ythnaapjefedalaa

/-
  Plain facts on the numbers' bytes: what is written is read back.
-/
namespace Go.Proofs.Ythnaapjefedalaa
open Go.RowKit
set_option linter.unusedVariables false

theorem rb_cons_from (l : List UInt8) : ∀ a : Nat, l.foldl (fun v c => v * 256 + c.toNat) a = a * 256 ^ l.length + rb l := by
  induction l with
  | nil => intro a; show a = a * 1 + 0; omega
  | cons c l ih =>
    intro a
    have h0 := ih (0 * 256 + c.toNat)
    show l.foldl (fun v c => v * 256 + c.toNat) (a * 256 + c.toNat) = a * 256 ^ (l.length + 1) + l.foldl (fun v c => v * 256 + c.toNat) (0 * 256 + c.toNat)
    rw [ih, h0, Nat.pow_succ, Nat.zero_mul, Nat.zero_add, Nat.add_mul, Nat.mul_assoc a, Nat.mul_comm 256, Nat.add_assoc]
theorem rb_cons (c : UInt8) (l : List UInt8) : rb (c :: l) = c.toNat * 256 ^ l.length + rb l := by
  have := rb_cons_from l (0 * 256 + c.toNat)
  rw [Nat.zero_mul, Nat.zero_add] at this
  rw [← this]
  show l.foldl (fun v c => v * 256 + c.toNat) (0 * 256 + c.toNat) = _
  rw [Nat.zero_mul, Nat.zero_add]

theorem pow256 (i : Nat) : (2 : Nat) ^ (8 * i) = 256 ^ i := by rw [Nat.pow_mul]
theorem byteAt_nat (v i : Nat) : (byteAt (v : Int) i).toNat = v / 256 ^ i % 256 := by
  have h := byteAt_val (v : Int) i
  unfold bv at h
  injection h with _ h
  rw [← Int.natCast_inj, h, ← pow256, Int.natCast_emod, Int.natCast_ediv, Int.natCast_pow]
  rfl

theorem bes_len (v : Int) (n : Nat) : (bes v n).length = n := bes_length v n

theorem rb_bes (v n : Nat) : rb (bes (v : Int) n) = v % 256 ^ n := by
  induction n with
  | zero => show rb [] = v % 1; rw [Nat.mod_one]; rfl
  | succ n ih =>
    rw [bes, rb_cons, ih, bes_len, byteAt_nat, Nat.pow_succ, Nat.mod_mul]
    rw [Nat.mul_comm, Nat.add_comm]

theorem bes_cons (v : Int) (n : Nat) : bes v (n + 1) = byteAt v n :: bes v n := rfl

/-- A marked number of n bytes is read as it is, whatever stands behind. -/
theorem rv_bes (q n V : Nat) (hq : q < 4) (hn : n = 2 ^ q) (hV : V < 2 ^ (8 * n - 2)) (rest : List UInt8) :
    rv (bes ((V + q * 2 ^ (8 * n - 2) : Nat) : Int) n ++ rest) = ((V : Int), (n : Int), 0) := by
  have hn4 : n = 1 ∧ q = 0 ∨ n = 2 ∧ q = 1 ∨ n = 4 ∧ q = 2 ∨ n = 8 ∧ q = 3 := by
    have : q = 0 ∨ q = 1 ∨ q = 2 ∨ q = 3 := by omega
    rcases this with rfl | rfl | rfl | rfl <;> simp_all
  obtain ⟨m, rfl⟩ : ∃ m, n = m + 1 := ⟨n - 1, by omega⟩
  generalize hW : V + q * 2 ^ (8 * (m + 1) - 2) = W
  have hc : (byteAt (W : Int) m).toNat / 64 = q := by
    rw [byteAt_nat]
    rcases hn4 with ⟨h, rfl⟩ | ⟨h, rfl⟩ | ⟨h, rfl⟩ | ⟨h, rfl⟩ <;> (obtain rfl := Nat.succ.inj h) <;> simp at hV hW ⊢ <;> omega
  have hlen : rvLen (byteAt (W : Int) m) = m + 1 := by unfold rvLen; rw [hc, ← hn]
  rw [bes_cons, List.cons_append, rv_ok _ _ (by rw [hlen]; simp [bes_len]), hlen]
  have htake : (byteAt (W : Int) m :: (bes (W : Int) m ++ rest)).take (m + 1) = bes (W : Int) (m + 1) := by
    rw [List.take_succ_cons, bes_cons, List.take_left' (bes_len _ _)]
  rw [htake, rb_bes]
  refine Prod.ext ?_ rfl
  show ((W % 256 ^ (m + 1) : Nat) : Int) % 2 ^ (8 * (m + 1) - 2) = (V : Int)
  rcases hn4 with ⟨h, rfl⟩ | ⟨h, rfl⟩ | ⟨h, rfl⟩ | ⟨h, rfl⟩ <;> (obtain rfl := Nat.succ.inj h) <;> simp at hV hW ⊢ <;> omega

theorem clsOf (x : Nat) (h : x < 4611686018427387904) : ∃ q n : Nat, q < 4 ∧ n = 2 ^ q ∧ x < 2 ^ (8 * n - 2) ∧ varB (x : Int) = bes ((x + q * 2 ^ (8 * n - 2) : Nat) : Int) n ∧ clsLen (x : Int) = (n : Int) := by
  have hl := clsLen_at (x : Int)
  rcases cls_cases (x : Int) (by omega) (by omega) with ⟨h1, he⟩ | ⟨h0, h1, he⟩ | ⟨h0, h1, he⟩ | ⟨h0, he⟩
  · exact ⟨0, 1, by omega, rfl, by simp; omega, by rw [he]; simp, hl.1 h1⟩
  · exact ⟨1, 2, by omega, rfl, by simp; omega, by rw [he]; simp, hl.2.1 h0 h1⟩
  · exact ⟨2, 4, by omega, rfl, by simp; omega, by rw [he]; simp, hl.2.2.1 h0 h1⟩
  · exact ⟨3, 8, by omega, rfl, by simp; omega, by rw [he]; simp, hl.2.2.2.1 h0 (by omega)⟩

/-- What Var writes is read back, whatever stands behind. -/
theorem rv_varB (x : Nat) (h : x < 4611686018427387904) (rest : List UInt8) : rv (varB (x : Int) ++ rest) = ((x : Int), clsLen (x : Int), 0) ∧ ((varB (x : Int)).length : Int) = clsLen (x : Int) := by
  obtain ⟨q, n, hq, hn, hx, he, hl⟩ := clsOf x h
  rw [he, hl, rv_bes q n x hq hn hx rest, bes_len]
  exact ⟨rfl, rfl⟩

end Go.Proofs.Ythnaapjefedalaa
