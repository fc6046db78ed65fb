/-
  bifoldlaw2.HuffJoins answers true, whatever its arguments: the walk.
-/
import Derived.Test.YtofoknnflnafaaaHuffL
import Derived.Test.YtofoknnflnafaaaOpenB
namespace Go.Proofs.Ytofoknnflnafaaa
open Go.RowKit
set_option linter.unusedVariables false

theorem bstr_self (u : ByteArray) : bstr u.data.toList = u := by simp [bstr]

set_option maxRecDepth 100000 in
set_option maxHeartbeats 1000000 in
theorem huffJoins_walk (a0 a1 : ByteArray) (w0 : a0.size ≤ 140737488351232) (w1 : a1.size ≤ 140737488351232) (w : World) :
    Calls Try.prog 9 #[.string a0, .string a1] w fun e w' => e = .returned (.bool true) ∧ Below w.heap.size w w' := by
  by_cases hbig : 200 < a0.size + a1.size
  · have hbb : decide (200 < (a0.size : Int) + (a1.size : Int)) = true := by rw [decide_eq_true_iff]; omega
    clear hbig
    go_enter Try.func9, Try.ntmps9
    go_wp2_with (go_at_call 10; refine (known_any _).mono ?_; rintro e w1 ⟨rfl, b1⟩)
    go_ret
    exact ⟨rfl, b1⟩
  · have hbb : decide (200 < (a0.size : Int) + (a1.size : Int)) = false := by rw [decide_eq_false_iff_not]; omega
    obtain ⟨u, hu⟩ : ∃ u, a0 ++ a1 = u := ⟨_, rfl⟩
    have hus : u.size = a0.size + a1.size := by rw [← hu]; simp
    have hul : u.data.toList = a0.data.toList ++ a1.data.toList := by rw [← hu]; simp
    have HUS := Bx.mk hus
    have HUL := Bx.mk hul
    have hu2 : u.size ≤ 200 := by omega
    have hsum : ¬ 9223372036854775807 < a0.size + a1.size := by omega
    clear hus hul hbig
    go_enter Try.func9, Try.ntmps9
    go_wp2_with fail
    refine (known_any _).mono ?_
    rintro e w1 ⟨rfl, b1⟩
    go_wp2_with fail
    refine (encode_any (.slice none 0 0) [] u w1 (Rd.nil w1) (by simp) (by omega)).mono ?_
    rintro e w2 ⟨v2, rfl, hap, b2⟩
    rw [List.nil_append] at hap
    have h2 : Below w.heap.size w w2 := b1.trans (b2.mono b1.size)
    have hsz : u.data.toList.length = u.size := by simp
    have hlen : (enc u.data.toList 0 0).length ≤ 100000 := by
      rw [enc_length _ _ _ (by omega)]
      have h := bitLen_le u.data.toList
      omega
    have hback := dec_back u.data.toList
    rw [hsz, if_pos (by omega)] at hback
    go_wp2_with fail
    refine (decode_any v2 _ w2 hap.rd hlen).mono ?_
    rintro e w3 ⟨rfl, b3⟩
    have H3 : Bx (Below w.heap.size w w3) := ⟨h2.trans (b3.mono h2.size)⟩
    rw [hback]
    unfold Ans
    rw [bstr_self]
    clear b1 b2 hap h2 hsz hlen hback b3
    go_wp2
    go_loopw [7, 8] (fun t i wr => ∃ k : Nat, i = .int .i64 k ∧ k ≤ u.size ∧ t = .int .i64 (bitLen (u.data.toList.take k)) ∧ Below w.heap.size w wr) (fun _ i _ => u.size - (intOf i).toNat)
    case atStart => exact ⟨0, rfl, by omega, rfl, H3.out⟩
    case round =>
      obtain ⟨k, rfl, hk, rfl, hb⟩ := hrel
      have HB := Bx.mk hb
      have hbl := bitLen_le (u.data.toList.take k)
      have hl : (u.data.toList.take k).length ≤ k := List.length_take_le _ _
      clear hb H3
      by_cases hlt : k < u.size
      · have hll := (ll_byte u[k]).2.1
        have HS := Bx.mk (bitLen_snoc u k hlt)
        go_wp2_with (go_at_call 18; refine (bits_any u[k] _).mono ?_; rintro e w5 ⟨rfl, b5⟩)
        go_roundw
        case rel => exact ⟨k + 1, by go_num, by omega, by rw [HS.out]; go_num, HB.out.trans (b5.mono HB.out.size)⟩
        case measure => simp [intOf]; omega
      · have he : u.data.toList.take k = u.data.toList := List.take_of_length_le (by simp; omega)
        rw [he] at hbl ⊢
        have HL := Bx.mk (show bitLen u.data.toList = bitLen a0.data.toList + bitLen a1.data.toList by rw [HUL.out, bitLen_append])
        clear hl he
        have hA : a0.size ≤ 1000000 := by have := HUS.out; omega
        have hB : a1.size ≤ 1000000 := by have := HUS.out; omega
        have hU : u.size ≤ 1000000 := by omega
        generalize hbt : bitLen u.data.toList = t at hbl HL ⊢
        have HBT := Bx.mk hbt
        have hul : u.data.toList.length = u.size := by simp
        have ht : t ≤ 6000 := by omega
        clear hul
        have hq : (((t + 7) / 8 : Nat) : Int) = ((t : Int) + 7) / 8 := by omega
        clear hbt hbl
        go_wp2_with fail
        refine (len_any u _ hU).mono ?_
        rintro e w6 ⟨rfl, b6⟩
        rw [HBT.out]
        have h6 : Below w.heap.size w w6 := HB.out.trans (b6.mono HB.out.size)
        clear b6
        go_wp2_with fail
        refine (len_any u _ hU).mono ?_
        rintro e w7 ⟨rfl, b7⟩
        rw [HBT.out]
        have h7 : Below w.heap.size w w7 := h6.trans (b7.mono h6.size)
        clear b7 h6
        go_wp2_with fail
        refine (len_any a0 _ hA).mono ?_
        rintro e w8 ⟨rfl, b8⟩
        have h8 : Below w.heap.size w w8 := h7.trans (b8.mono h7.size)
        clear b8 h7
        have hta := (bitLen_le a0.data.toList).2
        have htb := (bitLen_le a1.data.toList).2
        have hsa : a0.data.toList.length = a0.size := by simp
        have hsb : a1.data.toList.length = a1.size := by simp
        rw [hsa] at hta
        rw [hsb] at htb
        have HLL := HL.out
        generalize bitLen a0.data.toList = ta at hta HLL HL ⊢
        generalize hbb1 : bitLen a1.data.toList = tb at htb HLL HL
        have HTB := Bx.mk hbb1
        clear hbb1 hsa hsb
        clear HLL
        go_wp2_with fail
        refine (len_any a1 _ hB).mono ?_
        rintro e w9 ⟨rfl, b9⟩
        rw [HTB.out]
        have h9 : Below w.heap.size w w9 := h8.trans (b9.mono h8.size)
        clear b9 h8
        go_wp2
        go_ret
        exact ⟨congrArg (fun b => Ending.returned (.bool b)) (decide_eq_true (by have := HL.out; omega)), h9⟩

end Go.Proofs.Ytofoknnflnafaaa
