/-
  Contract of known.
-/
import Derived.Test.YtnmjnolfoaengaaStF
import Derived.Test.YtnmjnolfoaengaaStJ
namespace Go.Proofs.Ytnmjnolfoaengaa
open Go.RowKit
set_option linter.unusedVariables false

theorem wf_u64n {a : Int} (h : (Lit.int .u64 a).wf = true) : ∃ i : Nat, a = (i : Int) ∧ i < 18446744073709551616 := by
  simp [Lit.wf, IntKind.min, IntKind.max, IntKind.signed, IntKind.bits] at h
  exact ⟨a.toNat, by omega, by omega⟩

theorem wf_u8n {a : Int} (h : (Lit.int .u8 a).wf = true) : ∃ i : Nat, a = (i : Int) ∧ i < 256 := by
  simp [Lit.wf, IntKind.min, IntKind.max, IntKind.signed, IntKind.bits] at h
  exact ⟨a.toNat, by omega, by omega⟩
theorem str_same (a : ByteArray) : (a.toList == a.toList) = true := beq_self_eq_true _

def sGET : ByteArray := ⟨#[71, 69, 84]⟩
def sMeth : ByteArray := ⟨#[58, 109, 101, 116, 104, 111, 100]⟩
def sPOST : ByteArray := ⟨#[80, 79, 83, 84]⟩
def sSame : ByteArray := ⟨#[115, 97, 109, 101, 111, 114, 105, 103, 105, 110]⟩
theorem k1 : (entF T2 1 2).2 = sGET ∧ isF T2 1 2 = true := by decide +kernel
theorem k2 : (entF T3 0 98).2 = sSame ∧ isF T3 0 98 = true := by decide +kernel
theorem kg : sGET.toList = [71, 69, 84] := by decide +kernel
theorem ks : sSame.toList = [115, 97, 109, 101, 111, 114, 105, 103, 105, 110] := by decide +kernel
theorem k3 : isF T2 1 0 = false := by decide +kernel
theorem k4 : findS T2 (sMeth, sPOST) = (2, true, true) := by decide +kernel
theorem k4p : findP T2 1 (sMeth, sPOST) = .tuple #[.int .u64 3, .bool true, .bool true] := by unfold findP; rw [k4]; rfl

set_option maxRecDepth 100000 in
set_option maxHeartbeats 1000000 in
theorem known_any (w : World) :
    Calls Try.prog 6 #[] w fun e w' => e = .returned (.bool true) ∧ Below w.heap.size w w' := by
  obtain ⟨f1, hf1⟩ : ∃ f1, (entF T2 1 2).1 = f1 := ⟨_, rfl⟩
  have HE1 := Bx.mk (show entF T2 1 2 = (f1, sGET) by rw [← hf1, ← k1.1])
  obtain ⟨f2, hf2⟩ : ∃ f2, (entF T3 0 98).1 = f2 := ⟨_, rfl⟩
  have HE2 := Bx.mk (show entF T3 0 98 = (f2, sSame) by rw [← hf2, ← k2.1])
  obtain ⟨f3, hf3⟩ : ∃ f3, entF T2 1 0 = f3 := ⟨_, rfl⟩
  have HE3 := Bx.mk hf3
  obtain ⟨f3a, f3b⟩ := f3
  clear hf1 hf2 hf3
  have ha : ∀ f : Fd, aggF f = .agg #[.string f.1, .string f.2] := fun _ => rfl
  go_enter Try.func6, Try.ntmps6
  go_wp2_with fail
  refine (h2_any 2 _ (by omega)).mono ?_
  rintro e w1 ⟨rfl, b1⟩
  rw [HE1.out, k1.2, ha]
  have HB1 := Bx.mk b1
  have HF1 := Bx.mk (Fb.new 26 w1 (f1, sGET))
  clear b1
  go_wp2_with fail
  refine (h3_any 98 _ (by omega)).mono ?_
  rintro e w2 ⟨rfl, b2⟩
  rw [HE2.out, k2.2, ha]
  have HF1b := Bx.mk ((HF1.out.keep b2).alloc (.cells #[.string f2, .string sSame] 26))
  have HF2 := Bx.mk (Fb.new 26 w2 (f2, sSame))
  have HB2 := Bx.mk ((HB1.out.alloc HB1.out.size _).trans (b2.mono (by have := HB1.out.size; simp; omega)))
  clear b2 HF1
  go_wp2_with fail
  refine (h2_any 0 _ (by omega)).mono ?_
  rintro e w3 ⟨rfl, b3⟩
  rw [HE3.out, k3, ha]
  have HF1c := Bx.mk ((HF1b.out.keep b3).alloc (.cells #[.string f3a, .string f3b] 26))
  have HF2c := Bx.mk ((HF2.out.keep b3).alloc (.cells #[.string f3a, .string f3b] 26))
  have HB3 := Bx.mk ((HB2.out.alloc HB2.out.size _).trans (b3.mono (by have := HB2.out.size; simp; omega)))
  clear b3 HF1b HF2
  go_wp2_with fail
  refine (findH2_any (sMeth, sPOST) _ (by unfold Sized maxLen; decide)).mono ?_
  rintro e w4 ⟨rfl, b4⟩
  rw [k4p]
  obtain ⟨_, hc1⟩ := (HF1c.out.keep b4).cells
  obtain ⟨_, hc2⟩ := (HF2c.out.keep b4).cells
  have HB4 := Bx.mk ((HB3.out.alloc HB3.out.size _).trans (b4.mono (by have := HB3.out.size; simp; omega)))
  have hkg := kg
  have hks := ks
  clear b4
  go_wp2
  go_ret
  exact ⟨rfl, HB4.out⟩

end Go.Proofs.Ytnmjnolfoaengaa
