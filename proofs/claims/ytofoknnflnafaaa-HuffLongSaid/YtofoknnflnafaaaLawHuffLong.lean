/-
  bifoldlaw2.HuffLong answers true, whatever its arguments: the walk.
-/
import Derived.Test.YtofoknnflnafaaaHuffL
import Derived.Test.YtofoknnflnafaaaOpenB
namespace Go.Proofs.Ytofoknnflnafaaa
open Go.RowKit
set_option linter.unusedVariables false

theorem wf_byte {a : Int} (h : (Lit.int .u8 a).wf = true) : ∃ c : UInt8, a = (c.toNat : Int) := by
  have h2 : 0 ≤ a ∧ a < 256 := by
    simp [Lit.wf, IntKind.min, IntKind.max, IntKind.signed, IntKind.bits] at h
    omega
  refine ⟨UInt8.ofNat a.toNat, ?_⟩
  rw [← byte_nat (by omega)]
  omega

def fillF (x : UInt8) (j i : Nat) : Value := if i < j then bv x else .int .u8 0
theorem fill_set {w : World} {g k j : Nat} {x : UInt8} (h : w.rowIs g 5 k (fillF x j)) : (w.setCell ⟨g, j, none⟩ (bv x)).rowIs g 5 k (fillF x (j + 1)) :=
  (h.set _ _).congr fun i hi => by
    unfold fillF
    by_cases h1 : i = j
    · rw [if_pos h1, if_pos (by omega)]
    · rw [if_neg h1]
      have e : i < j + 1 ↔ i < j := by omega
      simp only [e]
theorem fill_bytes {w : World} {g k : Nat} {x : UInt8} (h : w.rowIs g 5 k (fillF x k)) (hk : k ≤ maxLen) : Bs w (.slice (some ⟨g, 0, none⟩) k k) (List.replicate k x) := by
  refine ⟨some ⟨g, 0, none⟩, k, by simp, by simp, hk, .inr ⟨_, rfl, fun j u hu => ?_⟩⟩
  rw [Addr.add_lit, Nat.zero_add]
  rw [List.map_replicate, List.getElem?_replicate] at hu
  split at hu
  · rename_i hj
    injection hu with hu
    rw [h.cell hj]
    unfold fillF
    rw [if_pos hj, hu]
  · cases hu
theorem bstr_list (l : List UInt8) : (bstr l).data.toList = l := by simp [bstr]
theorem bstr_size (l : List UInt8) : (bstr l).size = l.length := by simp [bstr, ByteArray.size]

set_option maxRecDepth 100000 in
set_option maxHeartbeats 1000000 in
theorem huffLong_walk (a0 : Int) (a1 : Int) (w0 : (Lit.int .u8 a0).wf = true) (w1 : (Lit.int .u8 a1).wf = true) (w : World) :
    Calls Try.prog 7 #[.int .u8 a0, .int .u8 a1] w fun e w' => e = .returned (.bool true) ∧ Below w.heap.size w w' := by
  obtain ⟨n, rfl⟩ := wf_byte w0
  obtain ⟨c, rfl⟩ := wf_byte w1
  clear w0 w1
  obtain ⟨i0, hi, hz, hz1, hz2⟩ := info_parts infoU8
  have Hi := Lib.hid hi
  have Hz := Lib.hid hz
  have Hz1 := Lib.hid hz1
  have Hz2 := Lib.hid hz2
  clear hi hz hz1 hz2
  have hn : n.toNat < 256 := n.toNat_lt
  have hc : c.toNat < 256 := c.toNat_lt
  generalize n.toNat = nn at *
  generalize c.toNat = cc at *
  obtain ⟨k, hk⟩ : ∃ k, 4094 + nn % 5 = k := ⟨_, rfl⟩
  have hk1 : 4094 ≤ k ∧ k ≤ 4098 := by omega
  have hki : (4094 : Int) + (nn : Int) % 5 = (k : Int) := by omega
  obtain ⟨hk1, hk2⟩ := hk1
  have hmk : ∀ W : World, (Instr.makeSlice 22 (.int .i64 (k : Int)) (.int .i64 (k : Int))).run Try.prog W = .ok (.slice (some ⟨W.heap.size, 0, none⟩) k k) (W.alloc (.cells (madeCells #[.int .u8 0] k) 5)) := fun W => by
    have h := run_make (P := Try.prog) W 22 5 i0 (.int .u8 0) Try.underlying22 Hi.out Hz.out .i64 .i64 (k : Int) (k : Int) (by omega) (by omega) (by rw [Hz2.out]; omega) (by omega)
    rw [Hz1.out, Nat.mul_one, Int.toNat_natCast] at h
    exact h
  clear hk
  go_enter Try.func7, Try.ntmps7
  go_wp2_with (go_at_call 10; refine (known_any _).mono ?_; rintro e w1 ⟨rfl, b1⟩)
  have hrow := World.rowIs_made w1 (.int .u8 0) k 5
  have hb2 := b1.alloc b1.size (.cells (madeCells #[.int .u8 0] k) 5)
  have hwg : w.heap.size ≤ w1.heap.size := b1.size
  generalize w1.alloc (.cells (madeCells #[.int .u8 0] k) 5) = w2 at hrow hb2 ⊢
  generalize w1.heap.size = g at hrow hwg ⊢
  clear b1 hmk
  have h9 : cc % 9 < (⟨#[97, 101, 105, 111, 115, 116, 48, 49, 50]⟩ : ByteArray).size := Nat.mod_lt _ (by decide)
  obtain ⟨x, hx⟩ : ∃ x : UInt8, (⟨#[97, 101, 105, 111, 115, 116, 48, 49, 50]⟩ : ByteArray)[cc % 9] = x := ⟨_, rfl⟩
  have hrow0 : w2.rowIs g 5 k (fillF x 0) := hrow.congr fun i _ => by unfold fillF; rw [if_neg (by omega)]
  have HROW := Bx.mk hrow0
  have HB2 := Bx.mk hb2
  clear hrow hrow0 hb2 hki
  go_loopw [7] (fun i wr => ∃ j : Nat, i = .int .i64 j ∧ j ≤ k ∧ wr.rowIs g 5 k (fillF x j) ∧ Below w.heap.size w wr) (fun i _ => k - (intOf i).toNat)
  case atStart => exact ⟨0, rfl, by omega, HROW.out, HB2.out⟩
  case round =>
    obtain ⟨j, rfl, hj, hr, hb⟩ := hrel
    have HR := Bx.mk hr
    have HB := Bx.mk hb
    clear hr hb HROW HB2
    by_cases hlt : j < k
    · have hcell := HR.out.cell hlt
      have hfz := HR.out.frozen j
      unfold fillF at hcell
      rw [if_neg (by omega)] at hcell
      go_wp2
      go_roundw
      case rel => exact ⟨j + 1, by go_num, by omega, fill_set HR.out, HB.out.setCell hwg _⟩
      case measure => simp [intOf]; omega
    · obtain rfl : j = k := by omega
      have hbs := fill_bytes HR.out (by unfold maxLen; omega)
      have hcv := conv_str hbs
      have HBS := Bx.mk hbs
      clear hx h9 hbs HR
      go_wp2_with fail
      refine (encode_any (.slice none 0 0) [] (bstr (List.replicate j x)) wr (Rd.nil wr) (by simp) (by rw [bstr_size]; simp; omega)).mono ?_
      rintro e w3 ⟨v3, rfl, hap, b3⟩
      have h3 : Below w.heap.size w w3 := HB.out.trans (b3.mono HB.out.size)
      rw [List.nil_append, bstr_list] at hap
      have hlen : (enc (List.replicate j x) 0 0).length ≤ 100000 := by
        rw [enc_length _ _ _ (by omega)]
        have h := bitLen_le (List.replicate j x)
        simp at h
        omega
      have hback := dec_back (List.replicate j x)
      rw [List.length_replicate] at hback
      go_wp2_with fail
      refine (decode_any v3 _ w3 hap.rd hlen).mono ?_
      rintro e w4 ⟨rfl, b4⟩
      have h4 : Below w.heap.size w w4 := h3.trans (b4.mono h3.size)
      have hcv2 := conv_str (Rd.keep (Rd.keep HBS.out b3) b4 : Bs w4 _ _)
      have H4 := Bx.mk h4
      rw [hback]
      unfold Ans
      clear hcv HBS b3 h3 hap hlen hback b4 h4
      by_cases hbig : j ≤ 4096
      · rw [if_pos hbig]
        have hbb : decide (4096 < (j : Int)) = false := by rw [decide_eq_false_iff_not]; omega
        go_wp2
        go_ret
        exact ⟨rfl, H4.out⟩
      · rw [if_neg hbig]
        have hbb : decide (4096 < (j : Int)) = true := by rw [decide_eq_true_iff]; omega
        have he : ((bstr []).toList == []) = true := by decide +kernel
        go_wp2
        go_ret
        exact ⟨rfl, H4.out⟩

end Go.Proofs.Ytofoknnflnafaaa
