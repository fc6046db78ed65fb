/-
  bifoldlaw2.HuffBack answers true, whatever its arguments: the walk.
-/
import Derived.Test.YtofoknnflnafaaaHuffL
import Derived.Test.YtofoknnflnafaaaOpenB
import Derived.Deep.RegionHeld
namespace Go.Proofs.Ytofoknnflnafaaa
open Go.RowKit
set_option linter.unusedVariables false

theorem bstr_self (u : ByteArray) : bstr u.data.toList = u := by simp [bstr]
theorem below_drew {B : Nat} {a w : World} (h : Below B a w) : Below B a w.drew := h.drew

set_option maxRecDepth 100000 in
set_option maxHeartbeats 2000000 in
theorem huffBack_walk (a0 : Option Addr) (len0 cap0 : Nat) (z0 : List Int) (a1 : ByteArray) (w : World) (w0 : IsRow .u8 w a0 len0 cap0 z0) (w1 : a1.size ≤ maxLen) :
    Calls Try.prog 3 #[.slice a0 len0 cap0, .string a1] w fun e w' => e = .returned (.bool true) ∧ Below w.heap.size w w' := by
  obtain ⟨bl, hb, hlen⟩ := w0.bytes
  have Hb : Bx (Bs w (.slice a0 len0 cap0) bl) := ⟨hb⟩
  clear w0 hlen
  generalize Value.slice a0 len0 cap0 = bV at hb Hb ⊢
  have hlenb := fun ty W => hb.run_len ty W
  obtain ⟨bT, htight, hT⟩ := hb.tight
  have HT : Bx (∀ (W : World) (B : Nat), Bs W bV bl → ApB W B bT bl) := ⟨hT⟩
  generalize hL : bl.length = L at hlenb htight
  have HL : Bx (bl.length = L) := ⟨hL⟩
  have hLmax : L ≤ maxLen := by have := Rd.len hb; simpa [hL] using this
  unfold maxLen at hLmax w1
  clear hb hT hL
  by_cases hbig : 100 < L
  · have hbb : decide (100 < (L : Int)) = true := by rw [decide_eq_true_iff]; omega
    clear hbig
    go_enter Try.func3, Try.ntmps3
    go_wp2_with (go_at_call 10; refine (known_any _).mono ?_; rintro e w1 ⟨rfl, b1⟩)
    go_ret
    exact ⟨rfl, b1⟩
  have hbb : decide (100 < (L : Int)) = false := by rw [decide_eq_false_iff_not]; omega
  by_cases hbig2 : 300 < a1.size
  · have hbb2 : decide (300 < (a1.size : Int)) = true := by rw [decide_eq_true_iff]; omega
    clear hbig hbig2
    go_enter Try.func3, Try.ntmps3
    go_wp2_with (go_at_call 10; refine (known_any _).mono ?_; rintro e w1 ⟨rfl, b1⟩)
    go_ret
    exact ⟨rfl, b1⟩
  have hbb2 : decide (300 < (a1.size : Int)) = false := by rw [decide_eq_false_iff_not]; omega
  have hL100 : L ≤ 100 := by omega
  have hS300 : a1.size ≤ 300 := by omega
  clear hbig hbig2
  go_enter Try.func3, Try.ntmps3
  go_wp2_with fail
  refine (known_any _).mono ?_
  rintro e w1 ⟨rfl, b1⟩
  have hcb := conv_str (Rd.keep Hb.out b1 : Bs w1 bV bl)
  go_wp2_with fail
  refine (encode_any bV bl a1 w1 (Rd.keep Hb.out b1) (by have := HL.out; omega) (by omega)).mono ?_
  rintro e w2 ⟨v2, rfl, hap, b2⟩
  have H2 : Bx (Below w.heap.size w w2) := ⟨b1.trans (b2.mono b1.size)⟩
  have hbs : Bs w2 v2 (bl ++ enc a1.data.toList 0 0) := hap.rd
  have HBS := Bx.mk hbs
  have HEL := Bx.mk (show (bl ++ enc a1.data.toList 0 0).length = L + (bitLen a1.data.toList + 7) / 8 by rw [List.length_append, HL.out, enc_length _ _ _ (by omega), Nat.zero_add])
  have HBL := Bx.mk (bitLen_le a1.data.toList)
  have hlenc := fun ty W => hbs.run_len ty W
  rw [HEL.out] at hlenc
  have HSL := Bx.mk (show a1.data.toList.length = a1.size by simp)
  have hq : (bitLen a1.data.toList + 7) / 8 ≤ 2000 := by have := HBL.out; have := HSL.out; omega
  generalize hQ : (bitLen a1.data.toList + 7) / 8 = q at hlenc hq
  have HQ := Bx.mk hQ
  have hsum : IntKind.i64.wrap ((L : Int) + (q : Int)) = (L : Int) + (q : Int) := by rw [IntKind.wrap_i64]; omega
  have HBV2 : Bx (∀ W, Below w2.heap.size w2 W → Bs W bV bl) := ⟨fun W hW => Rd.keep (Rd.keep Hb.out H2.out) hW⟩
  have hcv : ∀ W, Below w2.heap.size w2 W → (convert 22 9 v2).run Try.prog W = .ok (.string (bstr (bl ++ enc a1.data.toList 0 0))) W := fun W hW => conv_str (Rd.keep HBS.out hW : Bs W v2 (bl ++ enc a1.data.toList 0 0))
  have hcw : ∀ W, Below w2.heap.size w2 W → (convert 22 9 bV).run Try.prog W = .ok (.string (bstr bl)) W := fun W hW => conv_str (HBV2.out W hW)
  have hS0 : Below w2.heap.size w2 w2.drew := (Below.refl _ _).drew
  clear b1 b2 hap hbs hcb hQ hbb hbb2
  go_wp2
  go_region_held (fun W => Below w2.heap.size w2 W) (assumption) (first
    | (go_at_call 12; refine (huffman_any bT bl a1 w2.drew (fun B W hW => HT.out W B (HBV2.out W (hS0.trans hW))) (by have := HL.out; omega) (by omega)).mono ?_; rintro e w3 ⟨v3, rfl, h3, b3⟩; have hB3 : Below w2.heap.size w2 w3 := hS0.trans b3; have hc3 := conv_str (show Bs w3 v3 (bl ++ enc a1.data.toList 0 0) from h3.rd))
    | (go_at_call 14; refine (huffLen_any a1 w5 (by omega)).mono ?_; rintro e w6 ⟨rfl, b6⟩; rw [HQ.out]; have hB6 : Below w2.heap.size w2 w6 := hB5.trans (b6.mono hB5.size))
    | (go_at_call 13; refine (len_any a1 w3 (by omega)).mono ?_; rintro e w4 ⟨rfl, b4⟩; rw [HQ.out]; have hB4 : Below w2.heap.size w2 w4 := hB3.trans (b4.mono hB3.size))
    | (go_at_call 13; refine (len_any a1 w4 (by omega)).mono ?_; rintro e w5 ⟨rfl, b5⟩; rw [HQ.out]; have hB5 : Below w2.heap.size w2 w5 := hB4.trans (b5.mono hB4.size)))
  have H6 : Bx (Below w.heap.size w w6) := ⟨H2.out.trans (hB6.mono H2.out.size)⟩
  have HBS6 := Rd.keep HBS.out hB6
  obtain ⟨s1, hs1, hr1⟩ := (show Bs w6 v2 (bl ++ enc a1.data.toList 0 0) from HBS6).from_ (L : Int) (by omega) (by have := HL.out; simp; omega)
  have hr2 := hr1 w6 HBS6
  rw [Int.toNat_natCast, ← HL.out, List.drop_left] at hr2
  have HR2 := Bx.mk hr2
  have hback := dec_back a1.data.toList
  rw [HSL.out, if_pos (by omega)] at hback
  have HDB := Bx.mk hback
  have HLE : Bx ((enc a1.data.toList 0 0).length ≤ 100000) := ⟨by have h := HEL.out; rw [List.length_append, HL.out, HQ.out] at h; omega⟩
  clear hcv hcw hc3 hB3 hB4 hB5 hB6 b3 b4 b5 b6 h3 hS0 hr1 hr2 hback HBS6 hlenc
  go_wp2_with fail
  refine (decode_any s1 _ w6 HR2.out HLE.out).mono ?_
  rintro e w7 ⟨rfl, b7⟩
  rw [HDB.out]
  unfold Ans
  rw [bstr_self]
  go_wp2
  go_ret
  exact ⟨rfl, H6.out.trans (b7.mono H6.out.size)⟩

end Go.Proofs.Ytofoknnflnafaaa
