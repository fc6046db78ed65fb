/-
  bifoldlaw7.HencStrs answers true, whatever its arguments: the walk.
-/
import Derived.Test.YthnaapjefedalaaM21
import Derived.Deep.RegionHeld
namespace Go.Proofs.Ythnaapjefedalaa
open Go.RowKit
set_option linter.unusedVariables false

theorem Bs.tight2 {w : World} {v : Value} {l : List UInt8} (h : Bs w v l) :
    ∃ A, (∀ W : World, (Instr.slice 33 v none (some (.int .i64 (l.length : Int))) (some (.int .i64 (l.length : Int)))).run Try.prog W = .ok (.slice A l.length l.length) W) ∧ ∀ (W : World), Bs W v l → Bs W (.slice A l.length l.length) l := by
  obtain ⟨A, n, c, rfl, hn, h1, h2, h3, h4⟩ := h.open_
  have hnl : n = l.length := hn.out
  have hA : (if l.length = 0 then A else A.map (·.add (0 * 1))) = A := by
    split
    · rfl
    · cases A with
      | none => rfl
      | some x => simp [Addr.add]
  have hs : sliced A 0 l.length l.length 1 = .slice A l.length l.length := by
    unfold sliced
    rw [hA]
    rfl
  refine ⟨A, fun W => ?_, fun W hW => ?_⟩
  · rw [run_slice_hm W 33 A n c elemB .i64 .i64 (l.length : Int) (l.length : Int) (by omega) (by omega) (by omega), sizeB]
    simp only [Result.andThen, Int.toNat_natCast]
    rw [hs]
  · obtain ⟨A', c', e, r1, r2, r3⟩ := hW
    injection e with e1 e2 e3
    subst e1; subst e3
    have hlen : (l.map bv).length = l.length := by simp
    refine ⟨A, l.length, by rw [hlen], by rw [hlen]; omega, by omega, ?_⟩
    rcases r3 with ⟨rfl, hc⟩ | ⟨x, rfl, hx⟩
    · exact .inl ⟨rfl, by omega⟩
    · exact .inr ⟨x, rfl, hx⟩

set_option maxRecDepth 100000 in
set_option maxHeartbeats 4000000 in
theorem hencStrs_walk (a0 : Option Addr) (len0 cap0 : Nat) (z0 : List Int) (a1 : ByteArray) (w : World) (w0 : IsRow .u8 w a0 len0 cap0 z0) (w1 : a1.size ≤ maxLen) :
    Calls Try.prog 4 #[.slice a0 len0 cap0, .string a1] w fun e w' => e = .returned (.bool true) ∧ Below w.heap.size w w' := by
  obtain ⟨bl, hb, hlen⟩ := w0.bytes
  have Hb : Bx (Bs w (.slice a0 len0 cap0) bl) := ⟨hb⟩
  clear w0 hlen
  generalize Value.slice a0 len0 cap0 = bV at hb Hb ⊢
  have hlenb := fun ty W => hb.run_len ty W
  obtain ⟨A, htight, hT⟩ := hb.tight2
  have HT : Bx (∀ (W : World), Bs W bV bl → Bs W (.slice A bl.length bl.length) bl) := ⟨hT⟩
  obtain ⟨L, hL⟩ : ∃ L, bl.length = L := ⟨_, rfl⟩
  rw [hL] at hlenb htight HT
  have HL : Bx (bl.length = L) := ⟨hL⟩
  have hLmax : L ≤ maxLen := by have := Rd.len hb; simpa [hL] using this
  unfold maxLen at hLmax w1
  clear hb hT hL
  by_cases hbig : 100 < L
  · have hbb : decide (100 < (L : Int)) = true := by rw [decide_eq_true_iff]; omega
    clear hbig
    go_enter Try.func4, Try.ntmps4
    go_wp2_with fail
    refine (eknown_any _).mono ?_
    rintro e w1 ⟨rfl, b1⟩
    go_wp2_with fail
    go_ret
    exact ⟨rfl, b1⟩
  have hbb : decide (100 < (L : Int)) = false := by rw [decide_eq_false_iff_not]; omega
  by_cases hbig2 : 300 < a1.size
  · have hbb2 : decide (300 < (a1.size : Int)) = true := by rw [decide_eq_true_iff]; omega
    clear hbig hbig2
    go_enter Try.func4, Try.ntmps4
    go_wp2_with fail
    refine (eknown_any _).mono ?_
    rintro e w1 ⟨rfl, b1⟩
    go_wp2_with fail
    go_ret
    exact ⟨rfl, b1⟩
  have hbb2 : decide (300 < (a1.size : Int)) = false := by rw [decide_eq_false_iff_not]; omega
  have HS : Bx (L ≤ 100 ∧ a1.size ≤ 300) := ⟨by omega, by omega⟩
  clear hbig hbig2
  obtain ⟨X, hX⟩ : ∃ X, bl ++ putS a1.data.toList = X := ⟨_, rfl⟩
  have HX := Bx.mk hX
  clear hX
  go_enter Try.func4, Try.ntmps4
  go_wp2_with fail
  refine (eknown_any _).mono ?_
  rintro e w1 ⟨rfl, b1⟩
  have HB1 := Bx.mk b1
  have HSTR : Bx (∀ W, Below w1.heap.size w1 W → Calls Try.prog 23 #[bV, .string a1] W fun e w' => ∃ v', e = .returned v' ∧ OwB w' W.heap.size v' X ∧ Below W.heap.size W w') := ⟨fun W hW => by
    have h := hstr_any bV bl a1 W (Rd.keep (Rd.keep Hb.out HB1.out) hW) (by have := HL.out; have := HS.out; omega) (by have := HS.out; omega)
    rw [HX.out] at h
    exact h⟩
  have HPUT : Bx (∀ W, Below w1.heap.size w1 W → Calls Try.prog 24 #[.slice A L L, .int .u8 0, .int .i64 7, .string a1] W fun e w' => ∃ v', e = .returned v' ∧ OwB w' W.heap.size v' X ∧ Below W.heap.size W w') := ⟨fun W hW => by
    have h := putStr_tight A bl 0 7 (by omega) (by omega) a1 W (by have := HT.out W (Rd.keep (Rd.keep Hb.out HB1.out) hW); rw [HL.out]; exact this) (by have := HL.out; have := HS.out; omega) (by have := HS.out; omega)
    rw [putSk7, HX.out, HL.out] at h
    exact h⟩
  have HCV : Bx (∀ (W : World) (B : Nat) (v : Value), OwB W B v X → ∀ W', Below W.heap.size W W' → (convert 33 9 v).run Try.prog W' = .ok (.string (bstr X)) W') := ⟨fun W B v ho W' hW => conv_str (ho.keep hW).bs⟩
  have hS0 : Below w1.heap.size w1 w1.drew := (Below.refl _ _).drew
  have hrefl : ∀ W : World, Below W.heap.size W W := fun W => Below.refl _ _
  clear b1 hLmax
  go_wp2_with fail
  go_region_held (fun W => Below w1.heap.size w1 W) (first | assumption) (first
    | (go_at_call 23; refine (HSTR.out _ ?_).mono ?_; assumption; rintro e w2 ⟨v2, rfl, h2, b2⟩; have hc2 := HCV.out w2 _ v2 h2; have hS2 := below_next (by assumption) b2)
    | (go_at_call 24; refine (HPUT.out _ ?_).mono ?_; assumption; rintro e w3 ⟨v3, rfl, h3, b3⟩; have hc3 := HCV.out w3 _ v3 h3; have hS3 := below_next (by assumption) b3))
  all_goals go_wp2_with fail
  all_goals go_ret
  all_goals exact ⟨rfl, HB1.out.trans (Below.mono (by assumption) HB1.out.size)⟩
end Go.Proofs.Ythnaapjefedalaa
