/-
  bifoldlaw2.known answers true.
-/
import Derived.Test.YtofoknnflnafaaaHuffJ
import Derived.Test.YtofoknnflnafaaaHuffK
import Derived.Lib.SlBytesConst
namespace Go.Proofs.Ytofoknnflnafaaa
open Go.RowKit
set_option linter.unusedVariables false

def KB : List UInt8 := [241, 227, 194, 229, 242, 58, 107, 160, 171, 144, 244, 255]
def KS : List UInt8 := [119, 119, 119, 46, 101, 120, 97, 109, 112, 108, 101, 46, 99, 111, 109]
theorem dec_kb : dec (allBits KB) [] 0 0 = (KS, 0) := by decide +kernel
theorem dec_0 : dec (allBits [0]) [] 0 0 = ([], 22) := by decide +kernel
theorem enc_a : ([] : List UInt8) ++ enc [97] 0 0 = [31] := by decide +kernel
theorem bits_a : cw (97 : UInt8).toNat = 3 ∧ ll (97 : UInt8).toNat = 5 := by decide +kernel
theorem len_302 : (((bitLen [51, 48, 50] + 7) / 8 : Nat) : Int) = 2 := by decide +kernel

def KC : Array Value := #[.int .u8 241, .int .u8 227, .int .u8 194, .int .u8 229, .int .u8 242, .int .u8 58, .int .u8 107, .int .u8 160, .int .u8 171, .int .u8 144, .int .u8 244, .int .u8 255]
theorem kc_kb : KC.toList = KB.map bv := by rfl
theorem lit_kb (w : World) : Bs (w.alloc (.cells KC 5 (12, 13))) (.slice (some ⟨w.heap.size, 0, none⟩) 12 12) KB := by
  refine ⟨some ⟨w.heap.size, 0, none⟩, 12, by simp [KB], by simp [KB], by simp [maxLen], .inr ⟨_, rfl, fun j u hu => ?_⟩⟩
  rw [Addr.add_lit, Nat.zero_add, World.cell?_alloc_mark]
  rw [← kc_kb] at hu
  simpa using hu
theorem lit_0 (w : World) : Bs (w.alloc (.cells #[.int .u8 0] 5)) (.slice (some ⟨w.heap.size, 0, none⟩) 1 1) [0] :=
  Rd.lit w 5 #[.int .u8 0] 1 rfl (by simp [maxLen])

set_option maxRecDepth 100000 in
set_option maxHeartbeats 1000000 in
theorem known_any (w : World) :
    Calls Try.prog 10 #[] w fun e w' => e = .returned (.bool true) ∧ Below w.heap.size w w' := by
  have t1 : ((bstr [31]).toList == [31]) = true := by decide +kernel
  have t2 : ((bstr KS).toList == [119, 119, 119, 46, 101, 120, 97, 109, 112, 108, 101, 46, 99, 111, 109]) = true := by decide +kernel
  have hcs : (convert 22 22 (.slice (some ⟨w.heap.size, 0, none⟩) 12 12)).run Try.prog (w.alloc (.cells #[.int .u8 241, .int .u8 227, .int .u8 194, .int .u8 229, .int .u8 242, .int .u8 58, .int .u8 107, .int .u8 160, .int .u8 171, .int .u8 144, .int .u8 244, .int .u8 255] 5)) = .ok (.slice (some ⟨w.heap.size, 0, none⟩) 12 12) (w.alloc (.cells KC 5 (12, 13))) :=
    Lib.run_convert_bytes_const (P := Try.prog) w 22 5 KC 12 12 Try.underlying22 Try.underlying5
  go_enter Try.func10, Try.ntmps10
  go_wp2_with fail
  refine (decode_any _ KB _ (lit_kb w) (by decide)).mono ?_
  rintro e w1 ⟨rfl, b1⟩
  have h1 : Below w.heap.size w w1 := ((Below.refl _ _).alloc (Nat.le_refl _) _).trans (b1.mono (by simp))
  rw [dec_kb]
  unfold Ans
  clear b1
  go_wp2_with fail
  refine (decode_any _ [0] _ (lit_0 w1) (by decide)).mono ?_
  rintro e w2 ⟨rfl, b2⟩
  have h2 : Below w.heap.size w w2 := (h1.alloc h1.size _).trans (b2.mono (by have := h1.size; simp; omega))
  rw [dec_0]
  unfold Ans
  clear b2 h1
  go_wp2_with fail
  refine (bits_any 97 _).mono ?_
  rintro e w3 ⟨rfl, b3⟩
  rw [bits_a.1, bits_a.2]
  have h3 : Below w.heap.size w w3 := h2.trans (b3.mono h2.size)
  clear b3 h2
  go_wp2_with fail
  refine (encode_any (.slice none 0 0) [] ⟨#[97]⟩ w3 (Rd.nil w3) (by simp) (by decide)).mono ?_
  rintro e w4 ⟨v4, rfl, hap, b4⟩
  rw [enc_a] at hap
  have hc := conv_str (show Bs w4 v4 [31] from hap.rd)
  have h4 : Below w.heap.size w w4 := h3.trans (b4.mono h3.size)
  clear b4 h3 hap
  go_wp2_with fail
  refine (len_any ⟨#[51, 48, 50]⟩ w4 (by decide)).mono ?_
  rintro e w5 ⟨rfl, b5⟩
  rw [show (⟨#[51, 48, 50]⟩ : ByteArray).data.toList = [51, 48, 50] from rfl, len_302]
  go_wp2
  go_ret
  exact ⟨rfl, h4.trans (b5.mono h4.size)⟩

end Go.Proofs.Ytofoknnflnafaaa
