/-
  bifoldlaw2.HuffEnds answers true, whatever its arguments: the walk.
-/
import Derived.Test.YtofoknnflnafaaaHuffL
import Derived.Test.YtofoknnflnafaaaOpenB
namespace Go.Proofs.Ytofoknnflnafaaa
open Go.RowKit
set_option linter.unusedVariables false

theorem wf_byte {a : Int} (h : (Lit.int .u8 a).wf = true) : ∃ c : UInt8, a = (c.toNat : Int) := by
  have h2 : 0 ≤ a ∧ a < 256 := by
    simp [Lit.wf, IntKind.min, IntKind.max, IntKind.signed, IntKind.bits] at h
    omega
  refine ⟨UInt8.ofNat a.toNat, ?_⟩
  rw [← byte_nat (by omega)]
  omega
theorem bstr_self (u : ByteArray) : bstr u.data.toList = u := by simp [bstr]

/-- The ones behind. -/
theorem enc_ones (s : List UInt8) (t : Nat) (ht : bitLen s ≤ t) (h : t / 8 < (enc s 0 0).length) : (enc s 0 0)[t / 8].toNat / 2 ^ (7 - t % 8) % 2 = 1 := by
  have h1 := allBits_get (enc s 0 0) t h
  have hb := enc_bits s 0 0 (by omega) (by omega)
  rw [hb] at h1
  have hm : msb 0 0 = [] := rfl
  rw [hm, List.nil_append, List.getElem?_append_right (by rw [strBits_length]; exact ht), List.getElem?_replicate] at h1
  split at h1
  · injection h1 with h1; exact h1.symm
  · cases h1

theorem of_own_n {w : World} {B n : Nat} {e : TypeId} {v : Value} {xs : List Value} (h : w.ownsRow B e 1 v n xs) (hn : xs.length = n) : Rd w v xs := by
  subst hn
  exact Rd.of_own h
theorem ones_or : ∀ F, F < 8 → ∀ e, e < 256 → (∀ i, i < F → e / 2 ^ i % 2 = 1) → (e &&& (255 - (2 ^ F - 1))) ||| (2 ^ F - 1) = e := by decide +kernel
theorem or_lt : ∀ a, a < 256 → ∀ b, b < 256 → a ||| b < 256 := fun a ha b hb => Nat.or_lt_two_pow (n := 8) ha hb

/-- The last byte, its free bits anew, is itself where they are all ones. -/
theorem last_same (s : List UInt8) (L F : Nat) (hL : (enc s 0 0).length = L) (hF : F = 8 * L - bitLen s) (hF8 : F < 8) (hL0 : 0 < L) (hbl : bitLen s ≤ 8 * L) (h : L - 1 < (enc s 0 0).length) :
    ((enc s 0 0)[L - 1].toNat &&& (255 - (2 ^ F - 1))) ||| (2 ^ F - 1) = (enc s 0 0)[L - 1].toNat := by
  refine ones_or F hF8 _ (UInt8.toNat_lt _) fun i hi => ?_
  have hq : (8 * L - 1 - i) / 8 = L - 1 := by omega
  have hr : 7 - (8 * L - 1 - i) % 8 = i := by omega
  have h1 := enc_ones s (8 * L - 1 - i) (by omega) (by rw [hq]; exact h)
  rw [hr] at h1
  simpa only [hq] using h1

theorem mask_byte (F : Nat) (h : F < 8) : ((2 : Int) ^ F - 1) % 256 = ((2 ^ F - 1 : Nat) : Int) := by
  have : F = 0 ∨ F = 1 ∨ F = 2 ∨ F = 3 ∨ F = 4 ∨ F = 5 ∨ F = 6 ∨ F = 7 := by omega
  rcases this with rfl | rfl | rfl | rfl | rfl | rfl | rfl | rfl <;> rfl
theorem and_le255 (a M : Nat) (h : M < 256) : a &&& M < 256 := Nat.lt_of_le_of_lt Nat.and_le_right h
theorem mask_lt (F : Nat) (h : F < 8) : 2 ^ F - 1 < 256 := by
  have : F = 0 ∨ F = 1 ∨ F = 2 ∨ F = 3 ∨ F = 4 ∨ F = 5 ∨ F = 6 ∨ F = 7 := by omega
  rcases this with rfl | rfl | rfl | rfl | rfl | rfl | rfl | rfl <;> decide

set_option maxRecDepth 100000 in
set_option maxHeartbeats 1000000 in
theorem huffEnds_walk (a0 : ByteArray) (a1 a2 : Int) (w0 : a0.size ≤ maxLen) (w1 : (Lit.int .u8 a1).wf = true) (w2 : (Lit.int .u8 a2).wf = true) (w : World) :
    Calls Try.prog 6 #[.string a0, .int .u8 a1, .int .u8 a2] w fun e w' => e = .returned (.bool true) ∧ Below w.heap.size w w' := by
  obtain ⟨fb, rfl⟩ := wf_byte w1
  clear w1 w2
  unfold maxLen at w0
  have hfl : fb.toNat < 256 := fb.toNat_lt
  generalize fb.toNat = fl at hfl ⊢
  by_cases hbig : 100 < a0.size
  · have hbb : decide (100 < (a0.size : Int)) = true := by rw [decide_eq_true_iff]; omega
    clear hbig
    go_enter Try.func6, Try.ntmps6
    go_wp2_with (go_at_call 10; refine (known_any _).mono ?_; rintro e w1 ⟨rfl, b1⟩)
    go_ret
    exact ⟨rfl, b1⟩
  · have hbb : decide (100 < (a0.size : Int)) = false := by rw [decide_eq_false_iff_not]; omega
    have hsz : a0.size ≤ 100 := by omega
    clear hbig
    go_enter Try.func6, Try.ntmps6
    go_wp2_with fail
    refine (known_any _).mono ?_
    rintro e w1 ⟨rfl, b1⟩
    go_wp2_with fail
    refine (encode_any (.slice none 0 0) [] a0 w1 (Rd.nil w1) (by simp) (by omega)).mono ?_
    rintro e w2 ⟨v2, rfl, hap, b2⟩
    rw [List.nil_append] at hap
    have hbs : Bs w2 v2 (enc a0.data.toList 0 0) := hap.rd
    have hlenv := fun ty W => hbs.run_len ty W
    have hEL := enc_length a0.data.toList 0 0 (by omega)
    rw [Nat.zero_add] at hEL
    have HBS := Bx.mk hbs
    have HB := Bx.mk (b1.trans (b2.mono b1.size))
    have HBL := Bx.mk (bitLen_le a0.data.toList)
    have HSL := Bx.mk (show a0.data.toList.length = a0.size by simp)
    generalize hL : (enc a0.data.toList 0 0).length = L at hlenv hEL
    have HL := Bx.mk hL
    have HEL := Bx.mk hEL
    have hLb : L ≤ 400 := by have := HBL.out; have := HSL.out; omega
    clear b1 b2 hap hbs hL hEL hbb
    go_wp2
    go_loopw [8, 9] (fun t i wr => ∃ k : Nat, i = .int .i64 k ∧ k ≤ a0.size ∧ t = .int .i64 (bitLen (a0.data.toList.take k)) ∧ Below w2.heap.size w2 wr) (fun _ i _ => a0.size - (intOf i).toNat)
    case atStart => exact ⟨0, rfl, by omega, rfl, Below.refl _ _⟩
    case round =>
      obtain ⟨k, rfl, hk, rfl, hb⟩ := hrel
      have HBW := Bx.mk hb
      have hbl := bitLen_le (a0.data.toList.take k)
      have hl : (a0.data.toList.take k).length ≤ k := List.length_take_le _ _
      clear hb
      by_cases hlt : k < a0.size
      · have hll := (ll_byte a0[k]).2.1
        have HS := Bx.mk (bitLen_snoc a0 k hlt)
        go_wp2_with (go_at_call 18; refine (bits_any a0[k] _).mono ?_; rintro e w5 ⟨rfl, b5⟩)
        go_roundw
        case rel => exact ⟨k + 1, by go_num, by omega, by rw [HS.out]; go_num, HBW.out.trans (b5.mono HBW.out.size)⟩
        case measure => simp [intOf]; omega
      · have he : a0.data.toList.take k = a0.data.toList := List.take_of_length_le (by simp; omega)
        rw [he] at hbl ⊢
        rw [HSL.out] at hbl
        have hEL := HEL.out
        have HBITS := Bx.mk (Eq.refl (bitLen a0.data.toList))
        generalize hB0 : bitLen a0.data.toList = B0 at hbl hEL ⊢
        have HB0 := Bx.mk hB0
        obtain ⟨F, hF⟩ : ∃ F, 8 * L - B0 = F := ⟨_, rfl⟩
        have hFi : 8 * (L : Int) - (B0 : Int) = (F : Int) := by omega
        have hF8 : F < 8 := by omega
        have hBL : B0 ≤ 8 * L := by omega
        have HFX := Bx.mk hF
        clear he hB0 hl HBITS hF hEL
        obtain ⟨i0, hi, hz, hz1, hz2⟩ := info_parts infoU8
        have Hi := Lib.hid hi
        have Hz := Lib.hid hz
        have Hz1 := Lib.hid hz1
        have Hz2 := Lib.hid hz2
        clear hi hz hz1 hz2
        have hsz2 := HBW.out.size
        have HBSW : Bx (Bs wr v2 (enc a0.data.toList 0 0)) := ⟨Rd.keep HBS.out HBW.out⟩
        have HLE := Bx.mk (dec_more a0.data.toList (by rw [HSL.out]; omega))
        go_wp2_with (first
          | (at_builtin
             refine wpList_append_oo rfl _ _ 22 rfl wr.heap.size 5 i0 (.int .u8 0) 1 Try.underlying22 Hi.out Hz.out Hz1.out Hz2.out rfl v5 _ ([] ++ (enc a0.data.toList 0 0).map bv) _ rfl rfl (own_keep hown5 ((Below.refl _ _).alloc (Nat.le_refl _) _)) (Rd.lit w5 5 _ 1 rfl (by simp [maxLen])) (by simp [Value.oneCell']) (by have := HL.out; simp; omega) (by have := HL.out; simp [maxLen]; omega) (by have := hb5.size; simp; omega) ?_
             intro v6 w6 hown6 hb6)
          | (at_builtin
             refine wpList_append_oo rfl _ _ 22 rfl wr.heap.size 5 i0 (.int .u8 0) 1 Try.underlying22 Hi.out Hz.out Hz1.out Hz2.out rfl _ v2 [] ((enc a0.data.toList 0 0).map bv) rfl rfl (World.ownsRow_nil _ _ _ 1) HBSW.out one_bv (by have := HL.out; simp; omega) (by have := HL.out; simp [maxLen]; omega) (Nat.le_refl _) ?_
             intro v5 w5 hown5 hb5))
        have H6 : Bx (Below wr.heap.size wr w6) := ⟨(hb5.alloc hb5.size _).trans hb6⟩
        have HBS6 : Bx (Bs w6 v6 (enc a0.data.toList 0 0 ++ [255])) := ⟨by
          have h := Rd.of_own hown6
          rw [List.nil_append] at h
          have e : (enc a0.data.toList 0 0 ++ [255]).map bv = (enc a0.data.toList 0 0).map bv ++ [Value.int .u8 255] := by rw [List.map_append]; rfl
          unfold Bs
          rw [e]; exact h⟩
        clear hown5 hb5 hown6 hb6
        refine (decode_any v6 _ w6 HBS6.out (by have := HL.out; simp; omega)).mono ?_
        rintro e w7 ⟨rfl, b7⟩
        rw [HLE.out]
        unfold Ans
        have H7 : Bx (Below wr.heap.size wr w7) := ⟨H6.out.trans (b7.mono H6.out.size)⟩
        have HBS7 : Bx (Bs w7 v2 (enc a0.data.toList 0 0)) := ⟨Rd.keep HBSW.out H7.out⟩
        clear b7 HBS6 H6 HLE
        by_cases hF0 : F = 0
        · subst hF0
          go_wp2
          go_ret
          exact ⟨rfl, (HB.out.trans (HBW.out.mono HB.out.size)).trans (H7.out.mono (by have := HB.out.size; omega))⟩
        · have hL0 : 0 < L := by omega
          have hmask := mask_byte F hF8
          have hML := mask_lt F hF8
          obtain ⟨M, hM⟩ : ∃ M, 2 ^ F - 1 = M := ⟨_, rfl⟩
          rw [hM] at hmask hML
          have HMX := Bx.mk hM
          have hF0i : ((F : Int) == 0) = false := by simp; omega
          have hsz7 := H7.out.size
          have hle : L - 1 < (enc a0.data.toList 0 0).length := by rw [HL.out]; omega
          have HSAME := Bx.mk (last_same a0.data.toList L F HL.out (by rw [HB0.out]; exact HFX.out.symm) hF8 hL0 (by rw [HB0.out]; exact hBL) hle)
          have HAND := Bx.mk (u8_and_nat fl M hfl hML)
          have hba := HAND.out
          have HBM := Bx.mk (and_le255 fl M hML)
          generalize hBm : fl &&& M = Bm at hba HBM
          have HBmX := Bx.mk hBm
          have hba2 := u8_andNot_nat (enc a0.data.toList 0 0)[L - 1].toNat M (UInt8.toNat_lt _) hML
          have HA := Bx.mk (and_le255 (enc a0.data.toList 0 0)[L - 1].toNat (255 - M) (by omega))
          generalize hA : (enc a0.data.toList 0 0)[L - 1].toNat &&& (255 - M) = A at hba2 HA
          have HAX := Bx.mk hA
          have hbo := u8_or_nat A Bm HA.out HBM.out
          have HY := Bx.mk (or_lt A HA.out Bm HBM.out)
          generalize hy : A ||| Bm = y at hbo HY
          have HYX := Bx.mk hy
          clear hM hBm hA hy HAND
          go_wp2_with (first
            | (at_builtin
               refine wpList_append_oo rfl _ _ 22 rfl w7.heap.size 5 i0 (.int .u8 0) 1 Try.underlying22 Hi.out Hz.out Hz1.out Hz2.out rfl _ v2 [] ((enc a0.data.toList 0 0).map bv) rfl rfl (World.ownsRow_nil _ _ _ 1) HBS7.out one_bv (by have := HL.out; simp; omega) (by have := HL.out; simp [maxLen]; omega) (Nat.le_refl _) ?_
               intro v8 w8 hown8 hb8
               rw [List.nil_append, List.length_map, HL.out] at hown8
               have HG := hb8.size
               obtain ⟨g, cap, hv8, hgB, hcapL⟩ : ∃ g cap, v8 = .slice (some ⟨g, 0, none⟩) L cap ∧ w7.heap.size ≤ g ∧ L ≤ cap ∧ cap ≤ maxLen := by
                 rcases hown8.2 with ⟨_, h0⟩ | ⟨g, cap, cur, hv, hg, _, hnc, hcm, _⟩
                 · omega
                 · exact ⟨g, cap, hv, hg, hnc, hcm⟩
               subst hv8
               have hcell := hown8.cellAt (L - 1) (by omega)
               rw [List.getElem?_map, List.getElem?_eq_getElem hle] at hcell
               simp only [Option.map_some, bv] at hcell
               have hfz := hown8.frozenAt (L - 1)))
          obtain ⟨hst, hgr⟩ := hown8.stored (L - 1) (.int .u8 (y : Int))
          have hE : ((enc a0.data.toList 0 0).map bv).set (L - 1) (.int .u8 (y : Int)) = ((enc a0.data.toList 0 0).set (L - 1) (UInt8.ofNat y)).map bv := by
            rw [List.map_set]
            congr 1
            unfold bv
            rw [← byte_nat HY.out]
          have HBSN : Bx (Bs (w8.setCell ⟨g, L - 1, none⟩ (.int .u8 (y : Int))) (.slice (some ⟨g, 0, none⟩) L cap) ((enc a0.data.toList 0 0).set (L - 1) (UInt8.ofNat y))) := ⟨by
            rw [hE] at hst
            have hl : (((enc a0.data.toList 0 0).set (L - 1) (UInt8.ofNat y)).map bv).length = L := by rw [List.length_map, List.length_set, HL.out]
            exact of_own_n hst hl⟩
          have H9 : Bx (Below wr.heap.size wr (w8.setCell ⟨g, L - 1, none⟩ (.int .u8 (y : Int)))) := ⟨(H7.out.trans (hb8.mono H7.out.size)).setCell (by have := H7.out.size; simp; omega) _⟩
          have HLN : Bx (((enc a0.data.toList 0 0).set (L - 1) (UInt8.ofNat y)).length ≤ 100000) := ⟨by rw [List.length_set, HL.out]; omega⟩
          have HFIN : Bx (Bm = M → dec (allBits ((enc a0.data.toList 0 0).set (L - 1) (UInt8.ofNat y))) [] 0 0 = (a0.data.toList, 0)) := ⟨fun e => by
            have hs := HSAME.out
            rw [HMX.out, HAX.out, ← e, HYX.out] at hs
            rw [hs, UInt8.ofNat_toNat, List.set_getElem_self, dec_back, if_pos (by rw [HSL.out]; omega)]⟩
          clear hst hgr hE hown8 hcell hfz hb8
          generalize (enc a0.data.toList 0 0).set (L - 1) (UInt8.ofNat y) = N at HBSN HLN HFIN
          generalize w8.setCell ⟨g, L - 1, none⟩ (.int .u8 (y : Int)) = w9 at HBSN H9 ⊢
          obtain ⟨⟨rs, re⟩, hd⟩ : ∃ x, dec (allBits N) [] 0 0 = x := ⟨_, rfl⟩
          have HD := Bx.mk hd
          clear hd
          refine (decode_any _ N w9 HBSN.out HLN.out).mono ?_
          rintro e w10 ⟨rfl, b10⟩
          rw [HD.out]
          unfold Ans
          have H10 : Bx (Below wr.heap.size wr w10) := ⟨H9.out.trans (b10.mono H9.out.size)⟩
          have HBSN2 : Bx (Bs w10 (.slice (some ⟨g, 0, none⟩) L cap) N) := ⟨Rd.keep HBSN.out b10⟩
          clear b10
          go_wp2_with fail
          refine (unhuffman_any _ N w10 HBSN2.out HLN.out).mono ?_
          rintro e w11 ⟨rfl, b11⟩
          rw [HD.out]
          unfold Ans
          have H11 : Bx (Below w.heap.size w w11) := ⟨(HB.out.trans (HBW.out.mono HB.out.size)).trans ((H10.out.trans (b11.mono H10.out.size)).mono (by have := HB.out.size; omega))⟩
          clear b11
          by_cases hBM : Bm = M
          · have hr := HFIN.out hBM
            rw [HD.out] at hr
            injection hr with hr1 hr2
            subst hr1; subst hr2
            rw [bstr_self]
            subst hBM
            go_wp2
            go_ret
            exact ⟨rfl, H11.out⟩
          · have hne : ((Bm : Int) != (M : Int)) = true := by simp; omega
            clear hBM
            go_wp2
            go_ret
            exact ⟨rfl, H11.out⟩

end Go.Proofs.Ytofoknnflnafaaa
