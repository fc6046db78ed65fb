/-
  Texts put together: OwT.
-/
import Derived.Test.YtebakjdeighdnaaGreatM13
import Derived.Test.YtebakjdeighdnaaGreatM20
import Derived.Test.YtebakjdeighdnaaGreatM24

/-
  Contract of the document's PutStr, over a row of bytes of its own: what is no row of bytes stands.
-/
namespace Go.Proofs.YtebakjdeighdnaaGreat
open Go.RowKit
set_option linter.unusedVariables false

set_option maxRecDepth 100000 in
set_option maxHeartbeats 1000000 in
theorem putStr_non (B : Nat) (bV : Value) (l : List UInt8) (f : UInt8) (k : Nat) (hk1 : 1 ≤ k) (hk7 : k ≤ 7) (s : ByteArray) (w : World) (hb : OwB w B bV l) (hB : B ≤ w.heap.size) (hl : l.length ≤ 50000) (hs : s.size ≤ 20000) :
    Calls Tryz.prog 43 #[bV, .int .u8 f.toNat, .int .i64 (k : Int), .string s] w fun e w' => ∃ v', e = .returned v' ∧ OwB w' B v' (l ++ putSk f k s.data.toList) ∧ Below B w w' ∧ NonB w w' := by
  have hsl : s.data.toList.length = s.size := by simp
  have hbl := bitLen_le s.data.toList
  have hhl := fun W => huffLen_any s W (by omega)
  have hel := enc0_length s.data.toList
  obtain ⟨n, hn⟩ : ∃ n, (bitLen s.data.toList + 7) / 8 = n := ⟨_, rfl⟩
  rw [hn] at hhl hel
  have hn2 : n ≤ 100000 := by omega
  have hshl := shl_u8 k hk7 1
  rw [shl_one8 k hk7] at hshl
  have hor := hiB_val f k hk7
  obtain ⟨p2, hp2⟩ : ∃ p2, 2 ^ k = p2 := ⟨_, rfl⟩
  rw [hp2] at hshl hor
  clear hp2
  have hbk : bitsOf (k : Int) = k := by unfold bitsOf; omega
  have hwn : IntKind.u64.wrap (n : Int) = (n : Int) := by simp only [IntKind.wrap_u64]; omega
  have hws : IntKind.u64.wrap (s.size : Int) = (s.size : Int) := by simp only [IntKind.wrap_u64]; omega
  have HL := Bx.mk hhl
  have HB := Bx.mk hb
  have HBS := Bx.mk hB
  have HE := Bx.mk hel
  have HK : Bx (1 ≤ k ∧ k ≤ 7 ∧ l.length ≤ 50000 ∧ s.size ≤ 20000 ∧ n ≤ 100000 ∧ bitsOf (k : Int) = k) := ⟨hk1, hk7, hl, hs, hn2, hbk⟩
  obtain ⟨i0, hi, hz, hz1, hz2⟩ := info_parts infoU8
  have HI : Bx (Tryz.prog.info? 5 = some i0 ∧ i0.zero = some (.int .u8 0) ∧ i0.size = 1 ∧ i0.bytes = 1) := ⟨hi, hz, hz1, hz2⟩
  have HPUT : Bx (putSk f k s.data.toList = if n < s.size then pre (hiB f k) k (enc s.data.toList 0 0).length ++ enc s.data.toList 0 0 else pre f k s.size ++ s.data.toList) := ⟨by unfold putSk; rw [hn, hsl]⟩
  have HPL : Bx ((pre (hiB f k) k n).length ≤ 11 ∧ (pre f k s.size).length ≤ 11) := ⟨(pre_len _ _ _).2, (pre_len _ _ _).2⟩
  clear hhl hb hB hel hk1 hk7 hl hs hn2 hbk hi hz hz1 hz2 hbl hn
  by_cases hlt : n < s.size
  · have hd : decide (n < s.size) = true := decide_eq_true (by omega)
    have HP := HPUT.out
    rw [if_pos hlt, HE.out] at HP
    have HP2 := Bx.mk HP
    clear HPUT HP hlt
    go_enter Tryz.func43, Tryz.ntmps43
    go_wp2_with fail
    refine (HL.out w).mono ?_
    rintro e w1 ⟨rfl, b1⟩
    have HB1 := Bx.mk (HB.out.keep b1)
    have HB1S : Bx (B ≤ w1.heap.size) := ⟨Nat.le_trans HBS.out b1.size⟩
    have HW1 := Bx.mk (b1.mono HBS.out)
    have HN1 := Bx.mk (NonB.of_below b1)
    clear b1
    go_wp2_with fail
    refine (refPrefix_non B bV l (hiB f k) (k : Int) n w1 HB1.out HB1S.out (by have := HK.out; omega) (by have := HK.out; omega)).mono ?_
    rintro e w2 ⟨v2, rfl, ho2, b2, n2⟩
    have HN2 := Bx.mk (HN1.out.trans n2)
    rw [HK.out.2.2.2.2.2] at ho2
    have HB2 := Bx.mk ho2
    have HB2S : Bx (B ≤ w2.heap.size) := ⟨Nat.le_trans HB1S.out b2.size⟩
    have HW2 := Bx.mk (HW1.out.trans b2)
    clear ho2 b2
    go_wp2_with fail
    refine (huffman_non B v2 _ s w2 HB2.out HB2S.out (by have := HK.out; have := HPL.out.1; rw [List.length_append]; omega) (by have := HK.out; omega)).mono ?_
    rintro e w3 ⟨v3, rfl, ho3, b3, n3⟩
    have HN3 := Bx.mk (HN2.out.trans n3)
    have HB3 := Bx.mk ho3
    have HW3 := Bx.mk (HW2.out.trans b3)
    clear ho3 b3
    go_wp2_with fail
    go_ret
    refine ⟨_, rfl, ?_, HW3.out, HN3.out⟩
    rw [HP2.out, ← List.append_assoc]
    exact HB3.out
  · have hd : decide (n < s.size) = false := decide_eq_false (by omega)
    have HP := HPUT.out
    rw [if_neg hlt] at HP
    have HP2 := Bx.mk HP
    clear HPUT HP hlt
    go_enter Tryz.func43, Tryz.ntmps43
    go_wp2_with fail
    refine (HL.out w).mono ?_
    rintro e w1 ⟨rfl, b1⟩
    have HB1 := Bx.mk (HB.out.keep b1)
    have HB1S : Bx (B ≤ w1.heap.size) := ⟨Nat.le_trans HBS.out b1.size⟩
    have HW1 := Bx.mk (b1.mono HBS.out)
    have HN1 := Bx.mk (NonB.of_below b1)
    clear b1
    go_wp2_with fail
    refine (refPrefix_non B bV l f (k : Int) s.size w1 HB1.out HB1S.out (by have := HK.out; omega) (by have := HK.out; omega)).mono ?_
    rintro e w2 ⟨v2, rfl, ho2, b2, n2⟩
    have HN2 := Bx.mk (HN1.out.trans n2)
    rw [HK.out.2.2.2.2.2] at ho2
    have HB2 := Bx.mk ho2
    have HB2S : Bx (B ≤ w2.heap.size) := ⟨Nat.le_trans HB1S.out b2.size⟩
    have HW2 := Bx.mk (HW1.out.trans b2)
    have HL2 : Bx ((l ++ pre f k s.size).length ≤ 60000) := ⟨by have := HK.out; have := HPL.out.2; rw [List.length_append]; omega⟩
    clear ho2 b2
    go_wp2_with (at_builtin; refine Lib.wpList_append_own_string _ rfl _ _ 23 9 rfl B 5 i0 Tryz.underlying23 Tryz.underlying9 HI.out.1 HI.out.2.1 HI.out.2.2.1 HI.out.2.2.2 v2 _ _ rfl HB2.out s rfl (by have := HK.out; have := HL2.out; unfold maxLen; rw [List.length_map]; omega) (by have := HK.out; have := HL2.out; rw [List.length_map]; omega) HB2S.out ?_; intro v3 w3 ho3 hg3 _)
    have HB3 := Bx.mk (OwB.str ho3)
    have HN3 : Bx (NonB w w3) := ⟨HN2.out.trans (OwB.nonB HB2.out hg3)⟩
    have HW3 : Bx (Below B w w3) := ⟨HW2.out.trans ((Below.refl _ _).grown hg3 HB2S.out fun k hk => HB2.out.ge hk)⟩
    go_ret
    refine ⟨_, rfl, ?_, HW3.out, HN3.out⟩
    rw [HP2.out, ← List.append_assoc]
    exact HB3.out

end Go.Proofs.YtebakjdeighdnaaGreat
