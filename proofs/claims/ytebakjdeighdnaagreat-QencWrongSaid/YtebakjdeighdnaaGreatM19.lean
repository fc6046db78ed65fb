/-
  Texts put together: HuffK, StrMath, StrA, HdA.
-/
import Derived.Test.YtebakjdeighdnaaGreatM16
import Derived.Test.YtebakjdeighdnaaGreatM15
import Derived.Test.YtebakjdeighdnaaGreatM13
import Derived.Test.YtebakjdeighdnaaGreatM01

/-
  Contracts of the document's sign and Unhuffman.
-/
namespace Go.Proofs.YtebakjdeighdnaaGreat
open Go.RowKit
set_option linter.unusedVariables false

set_option maxRecDepth 100000 in
set_option maxHeartbeats 1000000 in
theorem refSign_some (m n x s : Nat) (w : World) (hm : CodesAt w m) (hn : n < 31) (hs : sgn n x = some s) :
    Calls Tryz.prog 117 #[.slice (some ⟨m, 0, none⟩) 257 257, .int .u32 x, .int .i64 n] w fun e w' => e = .returned (.int .i64 (s : Int)) ∧ w = w' := by
  obtain ⟨h1, h2, h3⟩ := sgn_some hn hs
  have HM := Bx.mk hm
  have HS := Bx.mk hs
  have H23 := Bx.mk (And.intro h2 h3)
  clear hm hs h2 h3
  go_enter Tryz.func117, Tryz.ntmps117
  go_wp2
  go_loop [7] (fun i => ∃ k : Nat, k ≤ s ∧ i = .int .i64 k) (fun i => s - (intOf i).toNat)
  case atStart => exact ⟨0, Nat.zero_le _, rfl⟩
  case round =>
    obtain ⟨k, hk, rfl⟩ := hrel
    obtain ⟨hc1, hc2⟩ := HM.out.cells k (by omega)
    by_cases hks : k = s
    · rw [hks, H23.out.1] at hc2
      rw [hks, H23.out.2] at hc1
      subst hks
      go_wp2
      go_ret
      exact ⟨rfl, rfl⟩
    · have hne : ¬ (ll k = n ∧ cw k = x) := by
        rintro ⟨e1, e2⟩
        have h := sgn_of (s := k) (by omega)
        rw [e1, e2, HS.out] at h
        injection h with h
        exact hks h.symm
      generalize ll k = a at hc2 hne
      generalize cw k = b at hc1 hne
      have hlt : k < s := by omega
      by_cases ha : a = n
      · subst ha
        have hb : ((b : Int) == (x : Int)) = false := by simp; omega
        clear hne hks
        go_wp2
        go_round
        case rel => exact ⟨k + 1, by omega, by go_num⟩
        case measure => simp [intOf]; omega
      · have hb : ((a : Int) == (n : Int)) = false := by simp; omega
        clear hne hks ha
        go_wp2
        go_round
        case rel => exact ⟨k + 1, by omega, by go_num⟩
        case measure => simp [intOf]; omega

set_option maxRecDepth 100000 in
set_option maxHeartbeats 1000000 in
theorem refSign_none (m n x : Nat) (w : World) (hm : CodesAt w m) (hn : n < 31) (hs : sgn n x = none) :
    Calls Tryz.prog 117 #[.slice (some ⟨m, 0, none⟩) 257 257, .int .u32 x, .int .i64 n] w fun e w' => e = .returned (.int .i64 (-1)) ∧ w = w' := by
  have HM := Bx.mk hm
  have HS := Bx.mk hs
  clear hm hs
  go_enter Tryz.func117, Tryz.ntmps117
  go_wp2
  go_loop [7] (fun i => ∃ k : Nat, k ≤ 257 ∧ i = .int .i64 k) (fun i => 257 - (intOf i).toNat)
  case atStart => exact ⟨0, Nat.zero_le _, rfl⟩
  case round =>
    obtain ⟨k, hk, rfl⟩ := hrel
    by_cases hlt : k < 257
    · obtain ⟨hc1, hc2⟩ := HM.out.cells k (by omega)
      have hne : ¬ (ll k = n ∧ cw k = x) := by
        rintro ⟨e1, e2⟩
        have h := sgn_of (s := k) (by omega)
        rw [e1, e2, HS.out] at h
        cases h
      generalize ll k = a at hc2 hne
      generalize cw k = b at hc1 hne
      by_cases ha : a = n
      · subst ha
        have hb : ((b : Int) == (x : Int)) = false := by simp; omega
        clear hne
        go_wp2
        go_round
        case rel => exact ⟨k + 1, by omega, by go_num⟩
        case measure => simp [intOf]; omega
      · have hb : ((a : Int) == (n : Int)) = false := by simp; omega
        clear hne ha
        go_wp2
        go_round
        case rel => exact ⟨k + 1, by omega, by go_num⟩
        case measure => simp [intOf]; omega
    · go_wp2
      go_ret
      exact ⟨rfl, rfl⟩

theorem allBits_get (l : List UInt8) : ∀ k (hk : k / 8 < l.length), (allBits l)[k]? = some (l[k / 8].toNat / 2 ^ (7 - k % 8) % 2) := by
  induction l with
  | nil => intro k hk; simp at hk
  | cons x l ih =>
    intro k hk
    have e : allBits (x :: l) = byteBits x ++ allBits l := rfl
    have hl : (byteBits x).length = 8 := by unfold byteBits; rw [msb_length]
    rw [e]
    rcases Nat.lt_or_ge k 8 with h | h
    · rw [List.getElem?_append_left (by omega)]
      unfold byteBits
      rw [msb_get _ _ _ h]
      have h0 : k / 8 = 0 := by omega
      simp only [h0, List.getElem_cons_zero]
      rw [Nat.mod_eq_of_lt h]
    · rw [List.getElem?_append_right (by omega), hl, ih (k - 8) (by simp at hk; omega)]
      have h0 : k / 8 = (k - 8) / 8 + 1 := by omega
      have h1 : (k - 8) % 8 = k % 8 := by omega
      simp only [h0, List.getElem_cons_succ, h1]

theorem allBits_drop (l : List UInt8) (k : Nat) (hk : k / 8 < l.length) : (allBits l).drop k = l[k / 8].toNat / 2 ^ (7 - k % 8) % 2 :: (allBits l).drop (k + 1) := by
  have h := allBits_get l k hk
  have hl : k < (allBits l).length := by rw [allBits_length]; omega
  rw [List.drop_eq_getElem_cons hl]
  congr 1
  rw [List.getElem?_eq_getElem hl] at h
  injection h

theorem short_none : ∀ n, n < 5 → co n = 0 := by decide +kernel
theorem sgn_short {n x : Nat} (h : n < 5) : sgn n x = none := by
  unfold sgn
  rw [if_neg]
  rw [short_none n h]
  omega

theorem ones_next (x m b : Nat) (hb : b < 2) (hx : x < 2 ^ m) : (decide (x = 2 ^ m - 1) && (b == 1)) = decide (2 * x + b = 2 ^ (m + 1) - 1) := by
  have hp := Nat.two_pow_pos m
  have e : 2 ^ (m + 1) = 2 * 2 ^ m := by rw [Nat.pow_succ]; omega
  rw [Bool.eq_iff_iff]
  simp
  omega

theorem beq_cast (b : Nat) : ((b : Int) == 1) = (b == 1) := by rw [Bool.eq_iff_iff]; simp; omega

def RefDecRel (w : World) (l : List UInt8) (R : List UInt8 × Nat) (o wd n ones i : Value) (wr : World) : Prop :=
  ∃ (k x m : Nat) (o1 : Bool) (l1 : List UInt8), i = .int .i64 (k : Int) ∧ k ≤ 8 * l.length ∧ wd = .int .u32 (x : Int) ∧ n = .int .i64 (m : Int) ∧ ones = .bool o1 ∧ o1 = decide (x = 2 ^ m - 1) ∧ Open m x ∧
    dec ((allBits l).drop k) l1 x m = R ∧ l1.length ≤ 4096 ∧ ApB wr w.heap.size o l1 ∧ Below w.heap.size w wr

theorem and_bit (c q : Nat) (hc : c < 256) : bits .and .u32 ((c : Int) / 2 ^ q % 4294967296) 1 = ((c / 2 ^ q % 2 : Nat) : Int) := by
  have h : c / 2 ^ q ≤ c := Nat.div_le_self _ _
  have key : ((c : Int) / 2 ^ q % 4294967296) = ((c / 2 ^ q : Nat) : Int) := by
    have e : ((c : Int) / 2 ^ q) = ((c / 2 ^ q : Nat) : Int) := by simp
    rw [e]
    generalize c / 2 ^ q = z at h ⊢
    omega
  rw [key, show (1 : Int) = ((1 : Nat) : Int) from rfl, u32_and_nat _ _ (by omega) (by omega), Nat.and_one_is_mod]

set_option maxRecDepth 100000 in
set_option maxHeartbeats 1000000 in
theorem unhuffman_any (bV : Value) (l : List UInt8) (w : World) (hb : Bs w bV l) (hl : l.length ≤ 100000) :
    Calls Tryz.prog 97 #[bV] w fun e w' => e = Ans (dec (allBits l) [] 0 0) ∧ Below w.heap.size w w' := by
  obtain ⟨i0, hi, hz, hz1, hz2⟩ := info_parts infoU8
  have Hi := Lib.hid hi
  have Hz := Lib.hid hz
  have Hz1 := Lib.hid hz1
  have Hz2 := Lib.hid hz2
  clear hi hz hz1 hz2
  have HBV := Bx.mk hb
  have hlenb := fun ty W => hb.run_len ty W
  obtain ⟨R, hR⟩ : ∃ R, dec (allBits l) [] 0 0 = R := ⟨_, rfl⟩
  rw [hR]
  have HR := Bx.mk hR
  generalize hL : l.length = L at hl hlenb
  have HL := Bx.mk hL
  clear hb hL hR
  go_enter Tryz.func97, Tryz.ntmps97
  go_wp2_with (go_at_call 103; refine (codes_any _).mono ?_; rintro e w1 ⟨g, rfl, hm, b1⟩)
  have HC := Bx.mk hm
  have HB1 := Bx.mk b1
  clear hm b1
  have hR0 : dec ((allBits l).drop 0) [] 0 0 = R := HR.out
  go_loopw [5, 6, 7, 8, 9] (fun o wd n ones i wr => RefDecRel w1 l R o wd n ones i wr) (fun _ _ _ _ i _ => 8 * L - (intOf i).toNat)
  case atStart => exact ⟨0, 0, 0, true, [], rfl, by omega, rfl, rfl, rfl, rfl, open_zero, hR0, by simp, Ap.nil _ _ _, Below.refl _ _⟩
  case round =>
    obtain ⟨k, x, m, o1, l1, rfl, hk, rfl, rfl, rfl, ho1, hop, hR1, hl1, hap1, hb1⟩ := hrel
    clear hR0
    have HO1 := Bx.mk ho1
    have HOP := Bx.mk hop
    have HR1 := Bx.mk hR1
    have HAP := Bx.mk hap1
    have HB := Bx.mk hb1
    have hsz := hb1.size
    have hkL : k ≤ 8 * L := by rw [← HL.out]; exact hk
    have hm30 := open_lt hop
    clear ho1 hop hR1 hap1 hb1 hk
    by_cases hlt : k < 8 * L
    · have hkl : k / 8 < l.length := by rw [HL.out]; omega
      obtain ⟨p, hix, hcp⟩ := HBV.out.at_ (k / 8) hkl
      rw [show ((k / 8 : Nat) : Int) = (k : Int) / 8 from by omega] at hix
      have hc := hcp wr (Rd.keep (Rd.keep HBV.out HB1.out) HB.out)
      have hc256 : l[k / 8].toNat < 256 := l[k / 8].toNat_lt
      have HR2 : Bx (dec (l[k / 8].toNat / 2 ^ (7 - k % 8) % 2 :: (allBits l).drop (k + 1)) l1 x m = R) := ⟨by rw [← allBits_drop l k hkl]; exact HR1.out⟩
      clear hcp HR1
      generalize l[k / 8].toNat = c at hc hc256 HR2
      have hbit := and_bit c (7 - k % 8) hc256
      have HB2 : Bx (c / 2 ^ (7 - k % 8) % 2 < 2) := ⟨Nat.mod_lt _ (by omega)⟩
      generalize c / 2 ^ (7 - k % 8) % 2 = b at hbit HB2 HR2
      have hb2 : b ≤ 1 := by have := HB2.out; omega
      have hw := open_word HOP.out HB2.out
      have h30 : (2:Nat) ^ (m + 1) ≤ 2 ^ 30 := Nat.pow_le_pow_right (by omega) hw.1
      have hx30 : 2 * x + b < 1073741824 := by have h : (2:Nat) ^ 30 = 1073741824 := by decide
                                               omega
      have hor := or_bit x b (by omega) HB2.out
      have HONX := Bx.mk (ones_next x m b HB2.out HOP.out.2.2)
      have HBI := Bx.mk (beq_cast b)
      clear hw h30
      cases o1 with
      | false =>
        have HON : Bx (false = decide (2 * x + b = 2 ^ (m + 1) - 1)) := ⟨by rw [← HONX.out, ← HO1.out]; rfl⟩
        clear HO1
        by_cases h5 : m + 1 < 5
        · have HS : Bx (sgn (m + 1) (2 * x + b) = none) := ⟨sgn_short h5⟩
          have HOP5 := Bx.mk (open_next HOP.out HB2.out HS.out)
          have HR5 : Bx (dec ((allBits l).drop (k + 1)) l1 (2 * x + b) (m + 1) = R) := ⟨by rw [← HR2.out, dec_none HS.out]⟩
          clear HR2 HOP
          go_wp2_with (with_reducible refine wpList_indexAddr (v := .pointer (some p)) (by with_unfolding_all exact hix _) ?_)
          go_roundw
          case rel => exact ⟨k + 1, 2 * x + b, m + 1, _, l1, by go_num, by omega, by go_num, by go_num, rfl, HON.out, HOP5.out, HR5.out, hl1, HAP.out, HB.out⟩
          case measure => simp [intOf]; omega
        · cases hs : sgn (m + 1) (2 * x + b) with
          | none =>
            have hcall := refSign_none g (m + 1) (2 * x + b) wr (HC.out.keep HB.out) (by omega) hs
            rw [show ((2 * x + b : Nat) : Int) = 2 * (x : Int) + (b : Int) from by omega, show ((m + 1 : Nat) : Int) = (m : Int) + 1 from by omega] at hcall
            have HCALL := Bx.mk hcall
            have HOP5 := Bx.mk (open_next HOP.out HB2.out hs)
            have HR5 : Bx (dec ((allBits l).drop (k + 1)) l1 (2 * x + b) (m + 1) = R) := ⟨by rw [← HR2.out, dec_none hs]⟩
            clear HR2 HOP hcall hs
            go_wp2_with (first
              | (go_at_call 117; refine HCALL.out.mono ?_; rintro e w' ⟨rfl, rfl⟩)
              | (with_reducible refine wpList_indexAddr (v := .pointer (some p)) (by with_unfolding_all exact hix _) ?_))
            go_roundw
            case rel => exact ⟨k + 1, 2 * x + b, m + 1, _, l1, by go_num, by omega, by go_num, by go_num, rfl, HON.out, HOP5.out, HR5.out, hl1, HAP.out, HB.out⟩
            case measure => simp [intOf]; omega
          | some sg =>
            have hsg := (sgn_some (by omega) hs).1
            have hcall := refSign_some g (m + 1) (2 * x + b) sg wr (HC.out.keep HB.out) (by omega) hs
            rw [show ((2 * x + b : Nat) : Int) = 2 * (x : Int) + (b : Int) from by omega, show ((m + 1 : Nat) : Int) = (m : Int) + 1 from by omega] at hcall
            have HCALL := Bx.mk hcall
            by_cases h256 : sg = 256
            · subst h256
              have HR5 : Bx (R = ([], 22)) := ⟨by rw [← HR2.out, dec_end hs]⟩
              clear HR2 HOP hcall hs
              go_wp2_with (first
                | (go_at_call 117; refine HCALL.out.mono ?_; rintro e w' ⟨rfl, rfl⟩)
                | (with_reducible refine wpList_indexAddr (v := .pointer (some p)) (by with_unfolding_all exact hix _) ?_))
              go_ret2
              exact ⟨by rw [HR5.out]; rfl, HB1.out.trans (HB.out.mono HB1.out.size)⟩
            · have hlen5 := fun ty W => (show Bs wr u5 l1 from HAP.out.rd).run_len ty W
              have hn256 : ((sg : Int) == 256) = false := by simp; omega
              by_cases hfull : l1.length = 4096
              · have HR5 : Bx (R = ([], 23)) := ⟨by rw [← HR2.out, dec_long hs h256 hfull]⟩
                rw [hfull] at hlen5
                clear HR2 HOP hcall hs hfull h256
                go_wp2_with (first
                  | (go_at_call 117; refine HCALL.out.mono ?_; rintro e w' ⟨rfl, rfl⟩)
                  | (with_reducible refine wpList_indexAddr (v := .pointer (some p)) (by with_unfolding_all exact hix _) ?_))
                go_ret2
                exact ⟨by rw [HR5.out]; rfl, HB1.out.trans (HB.out.mono HB1.out.size)⟩
              · have HR5 : Bx (dec ((allBits l).drop (k + 1)) (l1 ++ [UInt8.ofNat sg]) 0 0 = R) := ⟨by rw [← HR2.out, dec_some hs h256 hfull]⟩
                have hsg8 : sg < 256 := by omega
                generalize hln : l1.length = ln at hlen5 hl1 hfull
                have HLN := Bx.mk hln
                have hlnl : ln < 4096 := by omega
                clear HR2 HOP hcall hs hfull h256 hln
                go_wp2_with (first
                  | (go_at_call 117; refine HCALL.out.mono ?_; rintro e w' ⟨rfl, rfl⟩)
                  | (with_reducible refine wpList_indexAddr (v := .pointer (some p)) (by with_unfolding_all exact hix _) ?_)
                  | (at_builtin
                     refine wpList_append_ap _ rfl _ _ 23 rfl w1.heap.size 5 i0 (.int .u8 0) 1 Tryz.underlying23 Hi.out Hz.out Hz1.out Hz2.out rfl _ _ (l1.map bv) _ rfl rfl (HAP.out.alloc _) (Rd.lit wr 5 _ 1 rfl (by simp [maxLen])) (by simp [Value.oneCell']) (by have := HLN.out; simp; omega) (by have := HLN.out; simp [maxLen]; omega) (by simp; omega) ?_
                     intro v6 w6 hap6 hb6))
                have HAP6 := Bx.mk (snoc_any hap6 (UInt8.ofNat sg) (byte_nat hsg8))
                have HB6 : Bx (Below w1.heap.size w1 w6) := ⟨HB.out.trans (((Below.refl _ _).alloc hsz _).trans hb6)⟩
                clear hap6 hb6 hlen5
                go_wp2
                go_roundw
                case rel => exact ⟨k + 1, 0, 0, true, l1 ++ [UInt8.ofNat sg], by go_num, by omega, rfl, rfl, rfl, rfl, open_zero, HR5.out, by rw [List.length_append, HLN.out]; simp; omega, HAP6.out, HB6.out⟩
                case measure => simp [intOf]; omega
      | true =>
        have HON : Bx (((b : Int) == 1) = decide (2 * x + b = 2 ^ (m + 1) - 1)) := ⟨by rw [← HONX.out, ← HO1.out, HBI.out]; rfl⟩
        clear HO1
        by_cases h5 : m + 1 < 5
        · have HS : Bx (sgn (m + 1) (2 * x + b) = none) := ⟨sgn_short h5⟩
          have HOP5 := Bx.mk (open_next HOP.out HB2.out HS.out)
          have HR5 : Bx (dec ((allBits l).drop (k + 1)) l1 (2 * x + b) (m + 1) = R) := ⟨by rw [← HR2.out, dec_none HS.out]⟩
          clear HR2 HOP
          go_wp2_with (with_reducible refine wpList_indexAddr (v := .pointer (some p)) (by with_unfolding_all exact hix _) ?_)
          go_roundw
          case rel => exact ⟨k + 1, 2 * x + b, m + 1, _, l1, by go_num, by omega, by go_num, by go_num, rfl, HON.out, HOP5.out, HR5.out, hl1, HAP.out, HB.out⟩
          case measure => simp [intOf]; omega
        · cases hs : sgn (m + 1) (2 * x + b) with
          | none =>
            have hcall := refSign_none g (m + 1) (2 * x + b) wr (HC.out.keep HB.out) (by omega) hs
            rw [show ((2 * x + b : Nat) : Int) = 2 * (x : Int) + (b : Int) from by omega, show ((m + 1 : Nat) : Int) = (m : Int) + 1 from by omega] at hcall
            have HCALL := Bx.mk hcall
            have HOP5 := Bx.mk (open_next HOP.out HB2.out hs)
            have HR5 : Bx (dec ((allBits l).drop (k + 1)) l1 (2 * x + b) (m + 1) = R) := ⟨by rw [← HR2.out, dec_none hs]⟩
            clear HR2 HOP hcall hs
            go_wp2_with (first
              | (go_at_call 117; refine HCALL.out.mono ?_; rintro e w' ⟨rfl, rfl⟩)
              | (with_reducible refine wpList_indexAddr (v := .pointer (some p)) (by with_unfolding_all exact hix _) ?_))
            go_roundw
            case rel => exact ⟨k + 1, 2 * x + b, m + 1, _, l1, by go_num, by omega, by go_num, by go_num, rfl, HON.out, HOP5.out, HR5.out, hl1, HAP.out, HB.out⟩
            case measure => simp [intOf]; omega
          | some sg =>
            have hsg := (sgn_some (by omega) hs).1
            have hcall := refSign_some g (m + 1) (2 * x + b) sg wr (HC.out.keep HB.out) (by omega) hs
            rw [show ((2 * x + b : Nat) : Int) = 2 * (x : Int) + (b : Int) from by omega, show ((m + 1 : Nat) : Int) = (m : Int) + 1 from by omega] at hcall
            have HCALL := Bx.mk hcall
            by_cases h256 : sg = 256
            · subst h256
              have HR5 : Bx (R = ([], 22)) := ⟨by rw [← HR2.out, dec_end hs]⟩
              clear HR2 HOP hcall hs
              go_wp2_with (first
                | (go_at_call 117; refine HCALL.out.mono ?_; rintro e w' ⟨rfl, rfl⟩)
                | (with_reducible refine wpList_indexAddr (v := .pointer (some p)) (by with_unfolding_all exact hix _) ?_))
              go_ret2
              exact ⟨by rw [HR5.out]; rfl, HB1.out.trans (HB.out.mono HB1.out.size)⟩
            · have hlen5 := fun ty W => (show Bs wr u5 l1 from HAP.out.rd).run_len ty W
              have hn256 : ((sg : Int) == 256) = false := by simp; omega
              by_cases hfull : l1.length = 4096
              · have HR5 : Bx (R = ([], 23)) := ⟨by rw [← HR2.out, dec_long hs h256 hfull]⟩
                rw [hfull] at hlen5
                clear HR2 HOP hcall hs hfull h256
                go_wp2_with (first
                  | (go_at_call 117; refine HCALL.out.mono ?_; rintro e w' ⟨rfl, rfl⟩)
                  | (with_reducible refine wpList_indexAddr (v := .pointer (some p)) (by with_unfolding_all exact hix _) ?_))
                go_ret2
                exact ⟨by rw [HR5.out]; rfl, HB1.out.trans (HB.out.mono HB1.out.size)⟩
              · have HR5 : Bx (dec ((allBits l).drop (k + 1)) (l1 ++ [UInt8.ofNat sg]) 0 0 = R) := ⟨by rw [← HR2.out, dec_some hs h256 hfull]⟩
                have hsg8 : sg < 256 := by omega
                generalize hln : l1.length = ln at hlen5 hl1 hfull
                have HLN := Bx.mk hln
                have hlnl : ln < 4096 := by omega
                clear HR2 HOP hcall hs hfull h256 hln
                go_wp2_with (first
                  | (go_at_call 117; refine HCALL.out.mono ?_; rintro e w' ⟨rfl, rfl⟩)
                  | (with_reducible refine wpList_indexAddr (v := .pointer (some p)) (by with_unfolding_all exact hix _) ?_)
                  | (at_builtin
                     refine wpList_append_ap _ rfl _ _ 23 rfl w1.heap.size 5 i0 (.int .u8 0) 1 Tryz.underlying23 Hi.out Hz.out Hz1.out Hz2.out rfl _ _ (l1.map bv) _ rfl rfl (HAP.out.alloc _) (Rd.lit wr 5 _ 1 rfl (by simp [maxLen])) (by simp [Value.oneCell']) (by have := HLN.out; simp; omega) (by have := HLN.out; simp [maxLen]; omega) (by simp; omega) ?_
                     intro v6 w6 hap6 hb6))
                have HAP6 := Bx.mk (snoc_any hap6 (UInt8.ofNat sg) (byte_nat hsg8))
                have HB6 : Bx (Below w1.heap.size w1 w6) := ⟨HB.out.trans (((Below.refl _ _).alloc hsz _).trans hb6)⟩
                clear hap6 hb6 hlen5
                go_wp2
                go_roundw
                case rel => exact ⟨k + 1, 0, 0, true, l1 ++ [UInt8.ofNat sg], by go_num, by omega, rfl, rfl, rfl, rfl, open_zero, HR5.out, by rw [List.length_append, HLN.out]; simp; omega, HAP6.out, HB6.out⟩
                case measure => simp [intOf]; omega
    · have HR2 : Bx (dec [] l1 x m = R) := ⟨by
        have h := HR1.out
        rw [List.drop_of_length_le (by rw [allBits_length, HL.out]; omega)] at h
        exact h⟩
      clear HR1 HOP
      by_cases h8 : 8 ≤ m
      · have HR5 : Bx (R = ([], 22)) := ⟨by rw [← HR2.out, dec, if_pos (.inl h8)]⟩
        go_wp2
        go_ret2
        exact ⟨by rw [HR5.out]; rfl, HB1.out.trans (HB.out.mono HB1.out.size)⟩
      · have hstr := conv_str (show Bs wr u5 l1 from HAP.out.rd)
        cases o1 with
        | true =>
          have HR5 : Bx (R = (l1, 0)) := ⟨by
            have h := HO1.out
            rw [← HR2.out, dec, if_neg]
            rintro (h1 | h1)
            · exact h8 h1
            · exact h1 (of_decide_eq_true h.symm)⟩
          go_wp2
          go_ret2
          exact ⟨by rw [HR5.out]; rfl, HB1.out.trans (HB.out.mono HB1.out.size)⟩
        | false =>
          have HR5 : Bx (R = ([], 22)) := ⟨by rw [← HR2.out, dec, if_pos (.inr (of_decide_eq_false HO1.out.symm))]⟩
          go_wp2
          go_ret2
          exact ⟨by rw [HR5.out]; rfl, HB1.out.trans (HB.out.mono HB1.out.size)⟩

end Go.Proofs.YtebakjdeighdnaaGreat

/-
  What StrBits answers, as a function of the bytes; what rp may come to.
-/
namespace Go.Proofs.YtebakjdeighdnaaGreat
open Go.RowKit
set_option linter.unusedVariables false

/-- The three ways of a prefixed number. -/
theorem rpGo_cases (t : List UInt8) : ∀ i v, v ≤ maxVar → rpGo t i v = (0, 0, 20) ∨ rpGo t i v = (0, 0, 21) ∨
    ∃ n m : Nat, rpGo t i v = ((n : Int), (m : Int), 0) ∧ 1 ≤ m ∧ m ≤ i + 1 + t.length ∧ n ≤ maxVar := by
  induction t with
  | nil => intro i v h; exact .inl rfl
  | cons c t ih =>
    intro i v h
    rw [rpGo_ans]
    unfold rpAns
    split
    · exact .inr (.inl rfl)
    · rename_i hb
      have hf := pfits _ v i h hb
      split
      · exact .inr (.inr ⟨_, _, rfl, by omega, by simp; omega, hf⟩)
      · split
        · exact .inr (.inl rfl)
        · rcases ih (i + 1) _ hf with h1 | h1 | ⟨n, m, h1, h2, h3, h4⟩
          · exact .inl h1
          · exact .inr (.inl h1)
          · exact .inr (.inr ⟨n, m, h1, h2, by simp; omega, h4⟩)

theorem rp_cases (k : Nat) (l : List UInt8) : rp k l = (0, 0, 20) ∨ rp k l = (0, 0, 21) ∨
    ∃ n m : Nat, rp k l = ((n : Int), (m : Int), 0) ∧ 1 ≤ m ∧ m ≤ l.length ∧ n ≤ maxVar := by
  cases l with
  | nil => exact .inl rfl
  | cons c t =>
    have hc := c.toNat_lt
    have hm : c.toNat % 2 ^ k ≤ c.toNat := Nat.mod_le _ _
    rw [show rp k (c :: t) = if c.toNat % 2 ^ k < 2 ^ k - 1 then (((c.toNat % 2 ^ k : Nat) : Int), 1, 0) else rpGo t 0 (c.toNat % 2 ^ k) from rfl]
    split
    · exact .inr (.inr ⟨_, 1, rfl, by omega, by simp, by unfold maxVar; omega⟩)
    · rcases rpGo_cases t 0 (c.toNat % 2 ^ k) (by unfold maxVar; omega) with h1 | h1 | ⟨n, m, h1, h2, h3, h4⟩
      · exact .inl h1
      · exact .inr (.inl h1)
      · exact .inr (.inr ⟨n, m, h1, h2, by simp; omega, h4⟩)

/-- A string with a prefix of k bits, the bit above says whether it is coded: the string, the bytes it took, the error. -/
def sb (k : Nat) (l : List UInt8) : List UInt8 × Int × Int :=
  if (rp k l).2.2 ≠ 0 then ([], 0, (rp k l).2.2)
  else if 4096 < (rp k l).1 then ([], 0, 23)
  else if (l.length : Int) - (rp k l).2.1 < (rp k l).1 then ([], 0, 20)
  else if (l.headD 0).toNat / 2 ^ k % 2 = 0 then ((l.take ((rp k l).2.1 + (rp k l).1).toNat).drop (rp k l).2.1.toNat, (rp k l).2.1 + (rp k l).1, 0)
  else if (dec (allBits ((l.take ((rp k l).2.1 + (rp k l).1).toNat).drop (rp k l).2.1.toNat)) [] 0 0).2 ≠ 0 then
    ([], 0, ((dec (allBits ((l.take ((rp k l).2.1 + (rp k l).1).toNat).drop (rp k l).2.1.toNat)) [] 0 0).2 : Int))
  else ((dec (allBits ((l.take ((rp k l).2.1 + (rp k l).1).toNat).drop (rp k l).2.1.toNat)) [] 0 0).1, (rp k l).2.1 + (rp k l).1, 0)

theorem sb_err {k : Nat} {l : List UInt8} {n m e : Int} (h : rp k l = (n, m, e)) (he : e ≠ 0) : sb k l = ([], 0, e) := by simp [sb, h, he]
theorem sb_long {k : Nat} {l : List UInt8} {n m : Int} (h : rp k l = (n, m, 0)) (hn : 4096 < n) : sb k l = ([], 0, 23) := by simp [sb, h, hn]
theorem sb_more {k : Nat} {l : List UInt8} {n m : Int} (h : rp k l = (n, m, 0)) (hn : ¬ 4096 < n) (hm : (l.length : Int) - m < n) : sb k l = ([], 0, 20) := by simp [sb, h, hn, hm]
theorem sb_plain {k : Nat} {l : List UInt8} {n m : Int} (h : rp k l = (n, m, 0)) (hn : ¬ 4096 < n) (hm : ¬ (l.length : Int) - m < n) (hc : (l.headD 0).toNat / 2 ^ k % 2 = 0) :
    sb k l = ((l.take (m + n).toNat).drop m.toNat, m + n, 0) := by simp only [sb, h, hn, hm, hc, ne_eq, not_true, if_false, if_true]
theorem sb_bad {k : Nat} {l : List UInt8} {n m : Int} {R : List UInt8 × Nat} (h : rp k l = (n, m, 0)) (hn : ¬ 4096 < n) (hm : ¬ (l.length : Int) - m < n) (hc : ¬ (l.headD 0).toNat / 2 ^ k % 2 = 0)
    (hR : dec (allBits ((l.take (m + n).toNat).drop m.toNat)) [] 0 0 = R) (he : R.2 ≠ 0) : sb k l = ([], 0, (R.2 : Int)) := by
  subst hR; simp only [sb, h, hn, hm, hc, he, ne_eq, not_true, not_false_eq_true, if_false, if_true]
theorem sb_coded {k : Nat} {l : List UInt8} {n m : Int} {R : List UInt8 × Nat} (h : rp k l = (n, m, 0)) (hn : ¬ 4096 < n) (hm : ¬ (l.length : Int) - m < n) (hc : ¬ (l.headD 0).toNat / 2 ^ k % 2 = 0)
    (hR : dec (allBits ((l.take (m + n).toNat).drop m.toNat)) [] 0 0 = R) (he : R.2 = 0) : sb k l = (R.1, m + n, 0) := by
  subst hR; simp only [sb, h, hn, hm, hc, he, ne_eq, not_true, if_false]

end Go.Proofs.YtebakjdeighdnaaGreat

/-
  Contract of the document's StrBits.
-/
namespace Go.Proofs.YtebakjdeighdnaaGreat
open Go.RowKit
set_option linter.unusedVariables false

def AnsS (x : List UInt8 × Int × Int) : Ending := .returned (.tuple #[.string (bstr x.1), .int .i64 x.2.1, .int .i64 x.2.2])
theorem and_bit8 (c q : Nat) (hc : c < 256) : bits .and .u8 ((c : Int) / 2 ^ q) 1 = ((c / 2 ^ q % 2 : Nat) : Int) := by
  have h : c / 2 ^ q ≤ c := Nat.div_le_self _ _
  rw [show ((c : Int) / 2 ^ q) = ((c / 2 ^ q : Nat) : Int) from by simp, show (1 : Int) = ((1 : Nat) : Int) from rfl, u8_and_nat _ _ (by omega) (by omega), Nat.and_one_is_mod]

set_option maxRecDepth 100000 in
set_option maxHeartbeats 1000000 in
theorem strBits_any (bV : Value) (l : List UInt8) (k : Nat) (w : World) (hk1 : 1 ≤ k) (hk7 : k ≤ 7) (hb : Bs w bV l) (hlm : l.length ≤ 1000000) :
    Calls Tryz.prog 64 #[bV, .int .i64 (k : Int)] w fun e w' => e = AnsS (sb k l) ∧ Below w.heap.size w w' := by
  have hk : bitsOf (k : Int) = k := by unfold bitsOf; omega
  have hcall := refReadPrefix_any bV l (k : Int) w hb hlm
  rw [hk] at hcall
  have HBV := Bx.mk hb
  have hlenb := fun ty W => hb.run_len ty W
  clear hb hk
  rcases rp_cases k l with hr | hr | ⟨n, m, hr, hm1, hml, hnv⟩
  · have HR := Bx.mk (sb_err hr (by decide))
    rw [hr] at hcall
    unfold Ans3 at hcall
    dsimp only at hcall
    have HCALL := Bx.mk hcall
    clear hr hcall hlenb
    go_enter Tryz.func64, Tryz.ntmps64
    go_wp2_with (go_at_call 47; refine HCALL.out.mono ?_; rintro e w1 ⟨rfl, rfl⟩)

    go_ret3
    exact ⟨by rw [HR.out]; rfl, Below.refl _ _⟩
  · have HR := Bx.mk (sb_err hr (by decide))
    rw [hr] at hcall
    unfold Ans3 at hcall
    dsimp only at hcall
    have HCALL := Bx.mk hcall
    clear hr hcall hlenb
    go_enter Tryz.func64, Tryz.ntmps64
    go_wp2_with (go_at_call 47; refine HCALL.out.mono ?_; rintro e w1 ⟨rfl, rfl⟩)
    go_ret3
    exact ⟨by rw [HR.out]; rfl, Below.refl _ _⟩
  · rw [hr] at hcall
    unfold Ans3 at hcall
    dsimp only at hcall
    have HCALL := Bx.mk hcall
    clear hcall
    have hnl : n < 9223372036854775808 := by unfold maxVar at hnv; omega
    by_cases hn : 4096 < n
    · have HR := Bx.mk (sb_long hr (by omega : (4096 : Int) < (n : Int)))
      have hd : decide ((4096 : Int) < (n : Int)) = true := by rw [decide_eq_true_iff]; omega
      clear hr hlenb
      go_enter Tryz.func64, Tryz.ntmps64
      go_wp2_with (go_at_call 47; refine HCALL.out.mono ?_; rintro e w1 ⟨rfl, rfl⟩)
      go_ret3
      exact ⟨by rw [HR.out]; rfl, Below.refl _ _⟩
    · have hd : decide ((4096 : Int) < (n : Int)) = false := by rw [decide_eq_false_iff_not]; omega
      obtain ⟨r, hr1⟩ : ∃ r : Nat, l.length = m + r := ⟨l.length - m, by omega⟩
      have hsub : ((l.length : Nat) : Int) - (m : Int) = (r : Int) := by omega
      by_cases hrn : r < n
      · have HR := Bx.mk (sb_more hr (by omega : ¬ (4096 : Int) < (n : Int)) (by omega))
        have hd2 : decide ((r : Int) < (n : Int)) = true := by rw [decide_eq_true_iff]; omega
        clear hr hr1
        go_enter Tryz.func64, Tryz.ntmps64
        go_wp2_with (go_at_call 47; refine HCALL.out.mono ?_; rintro e w1 ⟨rfl, rfl⟩)
        go_ret3
        exact ⟨by rw [HR.out]; rfl, Below.refl _ _⟩
      · have hd2 : decide ((r : Int) < (n : Int)) = false := by rw [decide_eq_false_iff_not]; omega
        obtain ⟨s, hs⟩ : ∃ s : Nat, m + n = s := ⟨_, rfl⟩
        have hs' : (m : Int) + (n : Int) = (s : Int) := by omega
        obtain ⟨v', hsl, hbs⟩ := HBV.out.mid (m : Int) (s : Int) (by omega) (by omega) (by omega)
        have HB' := Bx.mk (hbs w HBV.out)
        obtain ⟨p, hix, hcp⟩ := HBV.out.at_ 0 (by omega)
        have hc := hcp w HBV.out
        have hc256 : l[0].toNat < 256 := l[0].toNat_lt
        have hhd : l.headD 0 = l[0]'(by omega) := by cases l with | nil => simp at hr1; omega | cons x t => rfl
        rw [Int.toNat_natCast, Int.toNat_natCast] at HB'
        have hbl : ((l.take s).drop m).length = n := by simp; omega
        clear hcp hbs
        by_cases hbit : l[0].toNat / 2 ^ k % 2 = 0
        · have HR := Bx.mk (sb_plain hr (by omega : ¬ (4096 : Int) < (n : Int)) (by omega) (by rw [hhd]; exact hbit))
          rw [hs', Int.toNat_natCast, Int.toNat_natCast] at HR
          have hab := and_bit8 l[0].toNat k hc256
          rw [hbit] at hab
          generalize l[0].toNat = c at hc hc256 hab
          have hstr := conv_str HB'.out
          clear hr hbit hhd hr1
          generalize (l.take s).drop m = body at HR HB' hstr
          go_enter Tryz.func64, Tryz.ntmps64
          go_wp2_with (first
            | (go_at_call 47; refine HCALL.out.mono ?_; rintro e w1 ⟨rfl, rfl⟩)
            | (with_reducible refine wpList_indexAddr (v := .pointer (some p)) (by with_unfolding_all exact hix _) ?_))
          go_ret3
          exact ⟨by rw [HR.out]; rfl, Below.refl _ _⟩
        · obtain ⟨Rs, Re, hR⟩ : ∃ Rs Re, dec (allBits ((l.take s).drop m)) [] 0 0 = (Rs, Re) := ⟨_, _, rfl⟩
          have hR' : dec (allBits ((l.take ((m : Int) + (n : Int)).toNat).drop (m : Int).toNat)) [] 0 0 = (Rs, Re) := by rw [hs', Int.toNat_natCast, Int.toNat_natCast]; exact hR
          have hbit1 : l[0].toNat / 2 ^ k % 2 = 1 := by omega
          have hab := and_bit8 l[0].toNat k hc256
          rw [hbit1] at hab
          have hun := unhuffman_any v' _ w HB'.out (by omega)
          rw [hR] at hun
          unfold Ans at hun
          dsimp only at hun
          have HUN := Bx.mk hun
          clear hun
          by_cases he : Re = 0
          · have HR := Bx.mk (sb_coded hr (by omega : ¬ (4096 : Int) < (n : Int)) (by omega) (by rw [hhd]; exact hbit) hR' he)
            rw [hs'] at HR
            subst he
            generalize l[0].toNat = c at hc hc256 hab
            clear hr hbit hbit1 hhd hr1 hR hR' HB' hbl
            go_enter Tryz.func64, Tryz.ntmps64
            go_wp2_with (first
              | (go_at_call 47; refine HCALL.out.mono ?_; rintro e w1 ⟨rfl, rfl⟩)
              | (go_at_call 97; refine HUN.out.mono ?_; rintro e w2 ⟨rfl, hb2⟩)
              | (with_reducible refine wpList_indexAddr (v := .pointer (some p)) (by with_unfolding_all exact hix _) ?_))
            go_ret3
            exact ⟨by rw [HR.out]; rfl, hb2⟩
          · have HR := Bx.mk (sb_bad hr (by omega : ¬ (4096 : Int) < (n : Int)) (by omega) (by rw [hhd]; exact hbit) hR' he)
            have hbe : ((Re : Int) == 0) = false := by simp; exact he
            generalize l[0].toNat = c at hc hc256 hab
            clear hr hbit hbit1 hhd hr1 hR hR' HB' hbl
            go_enter Tryz.func64, Tryz.ntmps64
            go_wp2_with (first
              | (go_at_call 47; refine HCALL.out.mono ?_; rintro e w1 ⟨rfl, rfl⟩)
              | (go_at_call 97; refine HUN.out.mono ?_; rintro e w2 ⟨rfl, hb2⟩)
              | (with_reducible refine wpList_indexAddr (v := .pointer (some p)) (by with_unfolding_all exact hix _) ?_))
            go_ret3
            exact ⟨by rw [HR.out]; rfl, hb2⟩

end Go.Proofs.YtebakjdeighdnaaGreat

/-
  Contract of the document's clamp.
-/
namespace Go.Proofs.YtebakjdeighdnaaGreat
open Go.RowKit
set_option linter.unusedVariables false

/-- A number between 0 and 4096. -/
def clampN (n : Int) : Nat := (min (max n 0) 4096).toNat
theorem clampN_eq (n : Int) : min (max n 0) 4096 = (clampN n : Int) := by unfold clampN; omega
theorem clampN_le (n : Int) : clampN n ≤ 4096 := by unfold clampN; omega

end Go.Proofs.YtebakjdeighdnaaGreat
