/-
  Contracts of static.entry, the document's At.
-/
import Derived.Test.YtnmjnolfoaengaaStC0
import Derived.Test.YtnmjnolfoaengaaFb
import Derived.WalkArith
namespace Go.Proofs.Ytnmjnolfoaengaa
open Go.RowKit
set_option linter.unusedVariables false

/-- Entry i of a table whose first one's number is fr, or the empty one. -/
def entF (l : List Fd) (fr i : Nat) : Fd := if h : fr ≤ i ∧ i - fr < l.length then l[i - fr]'(h.2) else emp
def isF (l : List Fd) (fr i : Nat) : Bool := decide (fr ≤ i ∧ i - fr < l.length)

set_option maxRecDepth 100000 in
set_option maxHeartbeats 1000000 in
theorem entry_any (v : Value) (l : List Fd) (fr i : Nat) (w : World) (hv : Fs w v l) (hl : l.length ≤ 1000) (hfr : fr ≤ 1) (hi : i < 18446744073709551616) :
    Calls Try.prog 15 #[v, .int .u64 (fr : Int), .int .u64 (i : Int)] w fun e w' => e = .returned (.tuple #[aggF (entF l fr i), .bool (isF l fr i)]) ∧ Below w.heap.size w w' := by
  have HV := Bx.mk hv
  have HL := Bx.mk hl
  have HI := Bx.mk hi
  have hlen := fun ty W => hv.row_len ty W
  obtain ⟨e0, he0⟩ : ∃ e0, entF l fr i = e0 := ⟨_, rfl⟩
  obtain ⟨b0, hb0⟩ : ∃ b0, isF l fr i = b0 := ⟨_, rfl⟩
  rw [he0, hb0]
  have HE0 := Bx.mk he0
  have HB0 := Bx.mk hb0
  have hwl : IntKind.u64.wrap (l.length : Int) = (l.length : Int) := by have := HL.out; simp [IntKind.wrap, IntKind.signed, IntKind.bits]; omega
  clear hv he0 hb0
  by_cases h1 : i < fr
  · obtain rfl : fr = 1 := by omega
    obtain rfl : i = 0 := by omega
    obtain rfl : emp = e0 := by rw [← HE0.out]; unfold entF; rw [dif_neg (by omega)]
    obtain rfl : false = b0 := by rw [← HB0.out]; unfold isF; simp
    clear h1 hi hl hfr
    go_enter Try.func15, Try.ntmps15
    go_wp2
    exact bodyPost_ret (ret_field Try.results15 _ _ w.heap.size emp false rfl rfl (Fb.new _ w emp)) rfl ⟨rfl, (Below.refl _ _).alloc (Nat.le_refl _) _⟩
  · have hd : decide (i < fr) = false := by simp; omega
    have hw : IntKind.u64.wrap ((i : Int) - (fr : Int)) = ((i - fr : Nat) : Int) := by
      have := HI.out
      simp [IntKind.wrap, IntKind.signed, IntKind.bits]; omega
    by_cases h2 : l.length ≤ i - fr
    · have hd2 : decide (l.length ≤ i - fr) = true := by simp; omega
      obtain rfl : emp = e0 := by rw [← HE0.out]; unfold entF; rw [dif_neg (by omega)]
      obtain rfl : false = b0 := by rw [← HB0.out]; unfold isF; simp; omega
      clear h1 h2 hi hl hfr
      go_enter Try.func15, Try.ntmps15
      go_wp2
      exact bodyPost_ret (ret_field Try.results15 _ _ w.heap.size emp false rfl rfl (Fb.new _ w emp)) rfl ⟨rfl, (Below.refl _ _).alloc (Nat.le_refl _) _⟩
    · have hd2 : decide (l.length ≤ i - fr) = false := by simp; omega
      have hlt : i - fr < l.length := by omega
      obtain ⟨f1, hf1⟩ : ∃ f1, l[i - fr].1 = f1 := ⟨_, rfl⟩
      obtain ⟨f2, hf2⟩ : ∃ f2, l[i - fr].2 = f2 := ⟨_, rfl⟩
      obtain rfl : (f1, f2) = e0 := by rw [← HE0.out]; unfold entF; rw [dif_pos ⟨by omega, hlt⟩, ← hf1, ← hf2]
      obtain rfl : true = b0 := by rw [← HB0.out]; unfold isF; simp; omega
      obtain ⟨b, o, hix, hcs⟩ := HV.out.row_at (i - fr) hlt
      have hB := (Below.refl w.heap.size w).alloc (Nat.le_refl _) (.cells #[.string ⟨#[]⟩, .string ⟨#[]⟩] 26)
      obtain ⟨hc1, hc2⟩ := hcs _ (HV.out.keep hB)
      rw [hf1] at hc1
      rw [hf2] at hc2
      clear h1 h2 hi hl hfr hcs hf1 hf2 hB hlt
      go_enter Try.func15, Try.ntmps15
      go_wp2
      exact bodyPost_ret (ret_field Try.results15 _ _ w.heap.size (f1, f2) true rfl rfl (Fb.new _ w (f1, f2))) rfl ⟨rfl, (Below.refl _ _).alloc (Nat.le_refl _) _⟩

set_option maxRecDepth 100000 in
set_option maxHeartbeats 1000000 in
theorem at_any (v : Value) (l : List Fd) (i : Nat) (w : World) (hv : Fs w v l) (hl : l.length ≤ 1000) (hi : i < 18446744073709551616) :
    Calls Try.prog 8 #[v, .int .u64 (i : Int)] w fun e w' => e = .returned (.tuple #[aggF (entF l 0 i), .bool (isF l 0 i)]) ∧ Below w.heap.size w w' := by
  have HV := Bx.mk hv
  have HL := Bx.mk hl
  have HI := Bx.mk hi
  have hlen := fun ty W => hv.run_len ty W
  obtain ⟨e0, he0⟩ : ∃ e0, entF l 0 i = e0 := ⟨_, rfl⟩
  obtain ⟨b0, hb0⟩ : ∃ b0, isF l 0 i = b0 := ⟨_, rfl⟩
  rw [he0, hb0]
  have HE0 := Bx.mk he0
  have HB0 := Bx.mk hb0
  have hwl : IntKind.u64.wrap (l.length : Int) = (l.length : Int) := by have := HL.out; simp [IntKind.wrap, IntKind.signed, IntKind.bits]; omega
  clear hv he0 hb0
  by_cases h2 : l.length ≤ i
  · have hd2 : decide (l.length ≤ i) = true := by simp; omega
    obtain rfl : emp = e0 := by rw [← HE0.out]; unfold entF; rw [dif_neg (by omega)]
    obtain rfl : false = b0 := by rw [← HB0.out]; unfold isF; simp; omega
    clear h2 hi hl
    go_enter Try.func8, Try.ntmps8
    go_wp2
    exact bodyPost_ret (ret_field Try.results8 _ _ w.heap.size emp false rfl rfl (Fb.new _ w emp)) rfl ⟨rfl, (Below.refl _ _).alloc (Nat.le_refl _) _⟩
  · have hd2 : decide (l.length ≤ i) = false := by simp; omega
    have hlt : i < l.length := by omega
    obtain ⟨f1, hf1⟩ : ∃ f1, l[i].1 = f1 := ⟨_, rfl⟩
    obtain ⟨f2, hf2⟩ : ∃ f2, l[i].2 = f2 := ⟨_, rfl⟩
    obtain rfl : (f1, f2) = e0 := by rw [← HE0.out]; unfold entF; rw [dif_pos ⟨by omega, by omega⟩, ← hf1, ← hf2]; rfl
    obtain rfl : true = b0 := by rw [← HB0.out]; unfold isF; simp; omega
    obtain ⟨b, o, hix, hcs⟩ := HV.out.at_ i hlt
    have hB := (Below.refl w.heap.size w).alloc (Nat.le_refl _) (.cells #[.string ⟨#[]⟩, .string ⟨#[]⟩] 26)
    obtain ⟨hc1, hc2⟩ := hcs _ (HV.out.keep hB)
    rw [hf1] at hc1
    rw [hf2] at hc2
    clear h2 hi hl hcs hf1 hf2 hB hlt
    go_enter Try.func8, Try.ntmps8
    go_wp2
    exact bodyPost_ret (ret_field Try.results8 _ _ w.heap.size (f1, f2) true rfl rfl (Fb.new _ w (f1, f2))) rfl ⟨rfl, (Below.refl _ _).alloc (Nat.le_refl _) _⟩

end Go.Proofs.Ytnmjnolfoaengaa
