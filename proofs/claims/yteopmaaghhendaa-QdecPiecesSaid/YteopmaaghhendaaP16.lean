/-
  Texts put together: PdA.
-/
import Derived.Test.YteopmaaghhendaaP10

/-
  Contract of hdec.Str.
-/
namespace Go.Proofs.Yteopmaaghhendaa
open Go.RowKit
set_option linter.unusedVariables false

set_option maxRecDepth 100000 in
set_option maxHeartbeats 1000000 in
theorem str_any (bV : Value) (l : List UInt8) (w : World) (hb : Bs w bV l) (hlm : l.length ≤ 1000000) :
    Calls Try.prog 68 #[bV] w fun e w' => e = AnsS (sb 7 l) ∧ Below w.heap.size w w' := by
  have hcall := readPrefix_any bV l 7 w hb hlm
  rw [show bitsOf 7 = 7 from rfl] at hcall
  have HBV := Bx.mk hb
  have hlenb := fun ty W => hb.run_len ty W
  clear hb
  rcases rp_cases 7 l with hr | hr | ⟨n, m, hr, hm1, hml, hnv⟩
  · have HR := Bx.mk (sb_err hr (by decide))
    rw [hr] at hcall
    unfold Ans3 at hcall
    dsimp only at hcall
    have HCALL := Bx.mk hcall
    clear hr hcall hlenb
    go_enter Try.func68, Try.ntmps68
    go_wp2_with (go_at_call 57; refine HCALL.out.mono ?_; rintro e w1 ⟨rfl, rfl⟩)

    go_ret3
    exact ⟨by rw [HR.out]; rfl, Below.refl _ _⟩
  · have HR := Bx.mk (sb_err hr (by decide))
    rw [hr] at hcall
    unfold Ans3 at hcall
    dsimp only at hcall
    have HCALL := Bx.mk hcall
    clear hr hcall hlenb
    go_enter Try.func68, Try.ntmps68
    go_wp2_with (go_at_call 57; refine HCALL.out.mono ?_; rintro e w1 ⟨rfl, rfl⟩)
    go_ret3
    exact ⟨by rw [HR.out]; rfl, Below.refl _ _⟩
  · rw [hr] at hcall
    unfold Ans3 at hcall
    dsimp only at hcall
    have HCALL := Bx.mk hcall
    clear hcall
    have hnl : n < 9223372036854775808 := by unfold maxVar at hnv; omega
    by_cases hn : 4096 < n
    · have HR := Bx.mk (sb_long hr (by omega : (4096 : Int) < (n : Int)))
      have hd : decide ((4096 : Int) < (n : Int)) = true := by rw [decide_eq_true_iff]; omega
      clear hr hlenb
      go_enter Try.func68, Try.ntmps68
      go_wp2_with (go_at_call 57; refine HCALL.out.mono ?_; rintro e w1 ⟨rfl, rfl⟩)
      go_ret3
      exact ⟨by rw [HR.out]; rfl, Below.refl _ _⟩
    · have hd : decide ((4096 : Int) < (n : Int)) = false := by rw [decide_eq_false_iff_not]; omega
      obtain ⟨r, hr1⟩ : ∃ r : Nat, l.length = m + r := ⟨l.length - m, by omega⟩
      have hwn : IntKind.i64.wrap (n : Int) = (n : Int) := by simp only [IntKind.wrap_i64]; omega
      obtain ⟨s, hs⟩ : ∃ s : Nat, m + n = s := ⟨_, rfl⟩
      have hs' : (m : Int) + (n : Int) = (s : Int) := by omega
      obtain ⟨nl, hnl⟩ : ∃ nl, l.length = nl := ⟨_, rfl⟩
      have hws : IntKind.i64.wrap (s : Int) = (s : Int) := by simp only [IntKind.wrap_i64]; omega
      rw [hnl] at hlenb
      by_cases hrn : r < n
      · have HR := Bx.mk (sb_more hr (by omega : ¬ (4096 : Int) < (n : Int)) (by omega))
        have hd2 : nl < s := by omega
        have hd3 : decide (nl < s) = true := decide_eq_true hd2
        clear hr hr1 hnl hs
        go_enter Try.func68, Try.ntmps68
        go_wp2_with (go_at_call 57; refine HCALL.out.mono ?_; rintro e w1 ⟨rfl, rfl⟩)
        go_ret3
        exact ⟨by rw [HR.out]; rfl, Below.refl _ _⟩
      · have hd2 : ¬ nl < s := by omega
        have hd3 : decide (nl < s) = false := decide_eq_false hd2
        obtain ⟨v', hsl, hbs⟩ := HBV.out.mid (m : Int) (s : Int) (by omega) (by omega) (by omega)
        have HB' := Bx.mk (hbs w HBV.out)
        obtain ⟨p, hix, hcp⟩ := HBV.out.at_ 0 (by omega)
        have hc := hcp w HBV.out
        have hc256 : l[0].toNat < 256 := l[0].toNat_lt
        have hhd : l.headD 0 = l[0]'(by omega) := by cases l with | nil => simp at hr1; omega | cons x t => rfl
        rw [Int.toNat_natCast, Int.toNat_natCast] at HB'
        have hbl : ((l.take s).drop m).length = n := by simp; omega
        clear hcp hbs
        by_cases hbit : l[0].toNat / 2 ^ 7 % 2 = 0
        · have HR := Bx.mk (sb_plain hr (by omega : ¬ (4096 : Int) < (n : Int)) (by omega) (by rw [hhd]; exact hbit))
          rw [hs', Int.toNat_natCast, Int.toNat_natCast] at HR
          have hab : ((l[0].toNat : Nat) : Int) / 2 ^ 7 = 0 := by omega
          have hab2 : ((l[0].toNat : Nat) : Int) / 128 = 0 := by omega
          generalize l[0].toNat = c at hc hc256 hab hab2
          have hstr := conv_str HB'.out
          clear hr hbit hhd hr1 hnl hs
          generalize (l.take s).drop m = body at HR HB' hstr
          go_enter Try.func68, Try.ntmps68
          go_wp2_with (first
            | (go_at_call 57; refine HCALL.out.mono ?_; rintro e w1 ⟨rfl, rfl⟩)
            | (with_reducible refine wpList_indexAddr (v := .pointer (some p)) (by with_unfolding_all exact hix _) ?_))
          go_ret3
          exact ⟨by rw [HR.out]; rfl, Below.refl _ _⟩
        · obtain ⟨Rs, Re, hR⟩ : ∃ Rs Re, dec (allBits ((l.take s).drop m)) [] 0 0 = (Rs, Re) := ⟨_, _, rfl⟩
          have hR' : dec (allBits ((l.take ((m : Int) + (n : Int)).toNat).drop (m : Int).toNat)) [] 0 0 = (Rs, Re) := by rw [hs', Int.toNat_natCast, Int.toNat_natCast]; exact hR
          have hbit1 : l[0].toNat / 2 ^ 7 % 2 = 1 := by omega
          have hab : ((l[0].toNat : Nat) : Int) / 2 ^ 7 = 1 := by omega
          have hab2 : ((l[0].toNat : Nat) : Int) / 128 = 1 := by omega
          have hun := decode_any v' _ w HB'.out (by omega)
          rw [hR] at hun
          unfold Ans at hun
          dsimp only at hun
          have HUN := Bx.mk hun
          clear hun
          by_cases he : Re = 0
          · have HR := Bx.mk (sb_coded hr (by omega : ¬ (4096 : Int) < (n : Int)) (by omega) (by rw [hhd]; exact hbit) hR' he)
            rw [hs'] at HR
            subst he
            generalize l[0].toNat = c at hc hc256 hab hab2
            clear hr hbit hbit1 hhd hr1 hR hR' HB' hbl hnl hs
            go_enter Try.func68, Try.ntmps68
            go_wp2_with (first
              | (go_at_call 57; refine HCALL.out.mono ?_; rintro e w1 ⟨rfl, rfl⟩)
              | (go_at_call 85; refine HUN.out.mono ?_; rintro e w2 ⟨rfl, hb2⟩)
              | (with_reducible refine wpList_indexAddr (v := .pointer (some p)) (by with_unfolding_all exact hix _) ?_))
            go_ret3
            exact ⟨by rw [HR.out]; rfl, hb2⟩
          · have HR := Bx.mk (sb_bad hr (by omega : ¬ (4096 : Int) < (n : Int)) (by omega) (by rw [hhd]; exact hbit) hR' he)
            have hbe : ((Re : Int) == 0) = false := by simp; exact he
            generalize l[0].toNat = c at hc hc256 hab hab2
            clear hr hbit hbit1 hhd hr1 hR hR' HB' hbl hnl hs
            go_enter Try.func68, Try.ntmps68
            go_wp2_with (first
              | (go_at_call 57; refine HCALL.out.mono ?_; rintro e w1 ⟨rfl, rfl⟩)
              | (go_at_call 85; refine HUN.out.mono ?_; rintro e w2 ⟨rfl, hb2⟩)
              | (with_reducible refine wpList_indexAddr (v := .pointer (some p)) (by with_unfolding_all exact hix _) ?_))
            go_ret3
            exact ⟨by rw [HR.out]; rfl, hb2⟩

end Go.Proofs.Yteopmaaghhendaa
