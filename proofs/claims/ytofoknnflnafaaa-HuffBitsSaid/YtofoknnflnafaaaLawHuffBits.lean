/-
  bifoldlaw2.HuffBits answers true, whatever its arguments: the walk.
-/
import Derived.Test.YtofoknnflnafaaaHuffL
import Derived.Test.YtofoknnflnafaaaOpenB
namespace Go.Proofs.Ytofoknnflnafaaa
open Go.RowKit
set_option linter.unusedVariables false

theorem strBits_get (s : List UInt8) : ∀ k (hk : k < s.length) i, i < ll s[k].toNat → (strBits s)[bitLen (s.take k) + i]? = some (cw s[k].toNat / 2 ^ (ll s[k].toNat - 1 - i) % 2) := by
  induction s with
  | nil => intro k hk; simp at hk
  | cons c s ih =>
    intro k hk i hi
    have e : strBits (c :: s) = codeBits c ++ strBits s := rfl
    have hl : (codeBits c).length = ll c.toNat := by unfold codeBits; rw [msb_length]
    rw [e]
    cases k with
    | zero =>
      simp only [List.getElem_cons_zero] at hi ⊢
      have h0 : bitLen (List.take 0 (c :: s)) = 0 := rfl
      rw [h0, Nat.zero_add, List.getElem?_append_left (by omega)]
      unfold codeBits
      exact msb_get _ _ _ hi
    | succ k =>
      simp only [List.getElem_cons_succ] at hi ⊢
      have h1 : bitLen (List.take (k + 1) (c :: s)) = ll c.toNat + bitLen (s.take k) := by simp [bitLen]
      rw [h1, List.getElem?_append_right (by omega), hl, show ll c.toNat + bitLen (s.take k) + i - ll c.toNat = bitLen (s.take k) + i from by omega]
      exact ih k (by simpa using hk) i hi

/-- A string's bits within its bytes. -/
theorem enc_get (s : List UInt8) (k : Nat) (hk : k < s.length) (i : Nat) (hi : i < ll s[k].toNat) (h : (bitLen (s.take k) + i) / 8 < (enc s 0 0).length) :
    (enc s 0 0)[(bitLen (s.take k) + i) / 8].toNat / 2 ^ (7 - (bitLen (s.take k) + i) % 8) % 2 = cw s[k].toNat / 2 ^ (ll s[k].toNat - 1 - i) % 2 := by
  have h1 := allBits_get (enc s 0 0) _ h
  have h2 := strBits_get s k hk i hi
  have hb := enc_bits s 0 0 (by omega) (by omega)
  have hlt : bitLen (s.take k) + i < (strBits s).length := by
    rcases Nat.lt_or_ge (bitLen (s.take k) + i) (strBits s).length with h | h
    · exact h
    · rw [List.getElem?_eq_none h] at h2; cases h2
  rw [hb, List.append_assoc] at h1
  have hm : msb 0 0 = [] := rfl
  rw [hm, List.nil_append, List.getElem?_append_left hlt, h2] at h1
  injection h1 with h1
  exact h1.symm
/-- The ones behind. -/
theorem enc_ones (s : List UInt8) (t : Nat) (ht : bitLen s ≤ t) (h : t / 8 < (enc s 0 0).length) : (enc s 0 0)[t / 8].toNat / 2 ^ (7 - t % 8) % 2 = 1 := by
  have h1 := allBits_get (enc s 0 0) t h
  have hb := enc_bits s 0 0 (by omega) (by omega)
  rw [hb] at h1
  have hm : msb 0 0 = [] := rfl
  rw [hm, List.nil_append, List.getElem?_append_right (by rw [strBits_length]; exact ht), List.getElem?_replicate] at h1
  split at h1
  · injection h1 with h1; exact h1.symm
  · cases h1

theorem and_bit32 (c q : Nat) (hc : c < 1073741824) : bits .and .u32 ((c : Int) / 2 ^ q) 1 = ((c / 2 ^ q % 2 : Nat) : Int) := by
  have h : c / 2 ^ q ≤ c := Nat.div_le_self _ _
  rw [show ((c : Int) / 2 ^ q) = ((c / 2 ^ q : Nat) : Int) from by simp, show (1 : Int) = ((1 : Nat) : Int) from rfl, u32_and_nat _ _ (by omega) (by omega), Nat.and_one_is_mod]

set_option maxRecDepth 100000 in
set_option maxHeartbeats 1000000 in
theorem huffBits_walk (a0 : ByteArray) (w0 : a0.size ≤ maxLen) (w : World) :
    Calls Try.prog 8 #[.string a0] w fun e w' => e = .returned (.bool true) ∧ Below w.heap.size w w' := by
  unfold maxLen at w0
  by_cases hbig : 100 < a0.size
  · have hbb : decide (100 < (a0.size : Int)) = true := by rw [decide_eq_true_iff]; omega
    clear hbig
    go_enter Try.func8, Try.ntmps8
    go_wp2_with (go_at_call 10; refine (known_any _).mono ?_; rintro e w1 ⟨rfl, b1⟩)
    go_ret
    exact ⟨rfl, b1⟩
  · have hbb : decide (100 < (a0.size : Int)) = false := by rw [decide_eq_false_iff_not]; omega
    have hsz : a0.size ≤ 100 := by omega
    clear hbig
    go_enter Try.func8, Try.ntmps8
    go_wp2_with fail
    refine (known_any _).mono ?_
    rintro e w1 ⟨rfl, b1⟩
    go_wp2_with fail
    refine (encode_any (.slice none 0 0) [] a0 w1 (Rd.nil w1) (by simp) (by omega)).mono ?_
    rintro e w2 ⟨v2, rfl, hap, b2⟩
    rw [List.nil_append] at hap
    have hbs : Bs w2 v2 (enc a0.data.toList 0 0) := hap.rd
    have hlenv := fun ty W => hbs.run_len ty W
    have hEL := enc_length a0.data.toList 0 0 (by omega)
    rw [Nat.zero_add] at hEL
    have HBS := Bx.mk hbs
    have HB := Bx.mk (b1.trans (b2.mono b1.size))
    have HBL := Bx.mk (bitLen_le a0.data.toList)
    have HSL := Bx.mk (show a0.data.toList.length = a0.size by simp)
    generalize hL : (enc a0.data.toList 0 0).length = L at hlenv hEL
    have HL := Bx.mk hL
    have HEL := Bx.mk hEL
    have hLb : L ≤ 400 := by have := HBL.out; have := HSL.out; omega
    clear b1 b2 hap hbs hL hEL hbb
    go_wp2
    go_loopw [4, 5] (fun t i wr => ∃ k : Nat, i = .int .i64 k ∧ k ≤ a0.size ∧ t = .int .i64 (bitLen (a0.data.toList.take k)) ∧ Below w2.heap.size w2 wr) (fun _ i _ => a0.size - (intOf i).toNat)
    case atStart => exact ⟨0, rfl, by omega, rfl, Below.refl _ _⟩
    case round =>
      obtain ⟨k, rfl, hk, rfl, hb⟩ := hrel
      have HBW := Bx.mk hb
      clear hb
      by_cases hlt : k < a0.size
      · have hll := ll_byte a0[k]
        have HS := Bx.mk (bitLen_snoc a0 k hlt)
        have hkl : k < a0.data.toList.length := by simpa using hlt
        have HT := Bx.mk (bitLen_le (a0.data.toList.take k))
        go_wp2_with (go_at_call 18; refine (bits_any a0[k] _).mono ?_; rintro e w5 ⟨rfl, b5⟩)
        have HB5 : Bx (Below w2.heap.size w2 w5) := ⟨HBW.out.trans (b5.mono HBW.out.size)⟩
        have HGET : Bx (∀ i, i < ll a0[k].toNat → ∀ (h : (bitLen (a0.data.toList.take k) + i) / 8 < (enc a0.data.toList 0 0).length), (enc a0.data.toList 0 0)[(bitLen (a0.data.toList.take k) + i) / 8].toNat / 2 ^ (7 - (bitLen (a0.data.toList.take k) + i) % 8) % 2 = cw a0[k].toNat / 2 ^ (ll a0[k].toNat - 1 - i) % 2) := ⟨fun i hi h => enc_get a0.data.toList k hkl i hi h⟩
        have HTOT : Bx (bitLen (a0.data.toList.take k) + ll a0[k].toNat ≤ bitLen a0.data.toList) := ⟨by
          rw [← HS.out]
          have h := bitLen_append (a0.data.toList.take (k + 1)) (a0.data.toList.drop (k + 1))
          rw [List.take_append_drop] at h
          omega⟩
        clear b5 HBW
        generalize hT : bitLen (a0.data.toList.take k) = T at HGET HTOT HT ⊢
        generalize hn : ll a0[k].toNat = n at hll HGET HTOT ⊢
        generalize hc : cw a0[k].toNat = c at hll HGET ⊢
        have HTN := Bx.mk hT
        have HNN := Bx.mk hn
        have hc30 : c < 1073741824 := by
          have h1 : (2:Nat) ^ n ≤ 2 ^ 30 := Nat.pow_le_pow_right (by omega) hll.2.1
          have h2 : (2:Nat) ^ 30 = 1073741824 := by decide
          omega
        obtain ⟨hn5, hn30, -⟩ := hll
        have hTb : T ≤ 3000 := by
          have h1 := HT.out
          have h2 : (a0.data.toList.take k).length ≤ k := List.length_take_le _ _
          omega
        have hTL : T + n ≤ 8 * L := by have := HTOT.out; have := HEL.out; omega
        clear hT hn hc
        go_wp2
        go_loopw [4, 8] (fun t i wr => ∃ j : Nat, i = .int .i64 ((j : Int) - 1) ∧ j ≤ n ∧ t = .int .i64 ((T + (n - j) : Nat) : Int) ∧ Below w2.heap.size w2 wr) (fun _ i _ => (intOf i + 1).toNat)
        case atStart => exact ⟨n, rfl, by omega, by simp, HB5.out⟩
        case round =>
          obtain ⟨j, rfl, hj, rfl, hb⟩ := hrel
          have HBJ := Bx.mk hb
          clear hb HB5
          rcases Nat.eq_zero_or_pos j with h0 | h0
          · subst h0
            go_wp2
            go_roundw
            case rel => exact ⟨k + 1, by go_num, by omega, by rw [HS.out, HTN.out, HNN.out]; go_num, HBJ.out⟩
            case measure => simp [intOf]; omega
          · obtain ⟨q, rfl⟩ : ∃ q, j = q + 1 := ⟨j - 1, by omega⟩
            rw [show (((q + 1 : Nat) : Int) - 1) = (q : Int) from by omega]
            obtain ⟨t, ht⟩ : ∃ t, T + (n - (q + 1)) = t := ⟨_, rfl⟩
            have hg := HGET.out (n - (q + 1)) (by omega)
            rw [ht, show n - 1 - (n - (q + 1)) = q from by omega] at hg
            rw [ht]
            have htL : t / 8 < (enc a0.data.toList 0 0).length := by rw [HL.out]; omega
            obtain ⟨p, hix, hcp⟩ := HBS.out.at_ (t / 8) htL
            rw [show ((t / 8 : Nat) : Int) = (t : Int) / 8 from by omega] at hix
            have hcell := hcp wr (Rd.keep HBS.out HBJ.out)
            have hb := hg htL
            have hx256 : (enc a0.data.toList 0 0)[t / 8].toNat < 256 := UInt8.toNat_lt _
            have ht3 : t ≤ 3030 := by omega
            have HT2 := Bx.mk ht
            clear hg hcp ht
            generalize (enc a0.data.toList 0 0)[t / 8].toNat = x at hcell hb hx256
            have h1 := and_bit x (7 - t % 8) hx256
            have h2 := and_bit32 c q hc30
            rw [hb] at h1
            clear hb
            generalize c / 2 ^ q % 2 = bt at h1 h2
            go_wp2
            go_region
            go_wp2
            go_roundw
            case rel => exact ⟨q, by go_num, by omega, by rw [← HT2.out]; go_num, HBJ.out.drew⟩
            case measure => simp [intOf]
      · have he : a0.data.toList.take k = a0.data.toList := List.take_of_length_le (by simp; omega)
        rw [he]
        have hEL := HEL.out
        have hbl := HBL.out.2
        rw [HSL.out] at hbl
        generalize hB0 : bitLen a0.data.toList = B0 at hEL hbl ⊢
        have HB0 := Bx.mk hB0
        have HEL2 := Bx.mk hEL
        clear he hB0 hEL
        go_wp2
        go_loopw [4] (fun t wr => ∃ t0 : Nat, t = .int .i64 (t0 : Int) ∧ B0 ≤ t0 ∧ t0 ≤ 8 * L ∧ Below w2.heap.size w2 wr) (fun t _ => 8 * L - (intOf t).toNat)
        case atStart => exact ⟨B0, rfl, by omega, by have := HEL2.out; omega, HBW.out⟩
        case round =>
          obtain ⟨t, rfl, ht0, htL8, hb⟩ := hrel
          have HBJ := Bx.mk hb
          clear hb
          by_cases htl : t < 8 * L
          · have htL : t / 8 < (enc a0.data.toList 0 0).length := by rw [HL.out]; omega
            obtain ⟨p, hix, hcp⟩ := HBS.out.at_ (t / 8) htL
            rw [show ((t / 8 : Nat) : Int) = (t : Int) / 8 from by omega] at hix
            have hcell := hcp wr (Rd.keep HBS.out HBJ.out)
            have hone := enc_ones a0.data.toList t (by rw [HB0.out]; exact ht0) htL
            have hx256 : (enc a0.data.toList 0 0)[t / 8].toNat < 256 := UInt8.toNat_lt _
            clear hcp
            generalize (enc a0.data.toList 0 0)[t / 8].toNat = x at hcell hone hx256
            have h1 := bit_of x (7 - t % 8) hx256
            rw [hone] at h1
            clear hone
            go_wp2_with (with_reducible refine wpList_indexAddr (v := .pointer (some p)) (by with_unfolding_all exact hix _) ?_)
            go_roundw
            case rel => exact ⟨t + 1, by go_num, by omega, by omega, HBJ.out⟩
            case measure => simp [intOf]; omega
          · go_wp2_with fail
            refine (huffLen_any a0 _ (by omega)).mono ?_
            rintro e w7 ⟨rfl, b7⟩
            rw [HB0.out, ← HEL2.out]
            go_wp2
            go_ret
            exact ⟨rfl, HB.out.trans ((HBJ.out.trans (b7.mono HBJ.out.size)).mono HB.out.size)⟩

end Go.Proofs.Ytofoknnflnafaaa
