/-
  Texts put together: HdD.
-/
import Derived.Test.YtejkbibahbcofaaM16
import Derived.Test.YtejkbibahbcofaaM15
import Derived.Test.YtejkbibahbcofaaM17

/-
  Contract of the document's entry.
-/
namespace Go.Proofs.Ytejkbibahbcofaa
open Go.RowKit Go.Maps
set_option linter.unusedVariables false

theorem below_put2 {B : Nat} {a w : World} {g : Nat} (h : Below B a w) (hg : B ≤ g) (hB : B ≤ w.heap.size) (x y : Value) : Below B a ((w.setCell ⟨g, 0, none⟩ x).setCell ⟨g, 1, none⟩ y) :=
  h.grown (grown_trans (grown_set w g 0 x) (grown_set _ g 1 y)) hB (fun k hk => by cases hk; exact hg)

set_option maxRecDepth 100000 in
set_option maxHeartbeats 1000000 in
theorem dentry_any {q t : Nat} {T : Tab} {mx : Nat} {mu bd : Bool} {w : World} {S : Nat → Prop} (h : Dc q t T mx mu bd w S) (i : Nat) (hi : i < 18446744073709551616) :
    Calls Try.prog 38 #[.pointer (some ⟨q, 0, none⟩), .int .u64 (i : Int)] w fun e w' => e = .returned (.tuple #[aggF (idxF T.l i), .bool (idxB T.l i)]) ∧ Below w.heap.size w w' := by
  obtain ⟨e0, he0⟩ : ∃ e0, idxF T.l i = e0 := ⟨_, rfl⟩
  obtain ⟨b0, hb0⟩ : ∃ b0, idxB T.l i = b0 := ⟨_, rfl⟩
  rw [he0, hb0]
  have HE0 := Bx.mk he0
  have HB0 := Bx.mk hb0
  have HI := Bx.mk hi
  have HD := Bx.mk h
  have HF := Bx.mk (Fb.new 61 w emp)
  have HB1 := Bx.mk ((Below.refl w.heap.size w).alloc (Nat.le_refl _) (.cells #[.string ⟨#[]⟩, .string ⟨#[]⟩] 61))
  clear h hi he0 hb0
  by_cases h0 : i = 0
  · subst h0
    obtain rfl : emp = e0 := by rw [← HE0.out]; unfold idxF; rw [if_pos (by omega)]; unfold entF; rw [dif_neg (by omega)]
    obtain rfl : false = b0 := by rw [← HB0.out]; unfold idxB; rw [if_pos (by omega)]; unfold isF; simp
    go_enter Try.func38, Try.ntmps38
    go_wp2_with fail
    exact bodyPost_ret (ret_field Try.results38 _ _ w.heap.size emp false rfl rfl (Fb.new _ w emp)) rfl ⟨rfl, (Below.refl _ _).alloc (Nat.le_refl _) _⟩
  · have hd0 : ((i : Int) == 0) = false := by simp; omega
    have hd0' : (i == 0) = false := by simp; omega
    obtain ⟨e1, e2⟩ := HF.out.cells
    obtain ⟨ef1, ef2⟩ := HF.out.free
    by_cases h1 : i ≤ 61
    · have hd1 : decide ((i : Int) ≤ 61) = true := decide_eq_true (by omega)
      have hw1 : IntKind.u64.wrap ((i : Int) - 1) = ((i - 1 : Nat) : Int) := by simp [IntKind.wrap, IntKind.signed, IntKind.bits]; omega
      obtain ⟨k, hk⟩ : ∃ k, i - 1 = k := ⟨_, rfl⟩
      rw [hk] at hw1
      have hlt : k < T2.length := by rw [t2_len]; omega
      obtain ⟨f1, hf1⟩ : ∃ f1, T2[k].1 = f1 := ⟨_, rfl⟩
      obtain ⟨f2, hf2⟩ : ∃ f2, T2[k].2 = f2 := ⟨_, rfl⟩
      obtain rfl : (f1, f2) = e0 := by
        rw [← HE0.out]; unfold idxF; rw [if_pos (by omega)]; unfold entF
        rw [dif_pos ⟨by omega, by rw [hk]; exact hlt⟩, ← hf1, ← hf2]
        simp only [hk]
      obtain rfl : true = b0 := by rw [← HB0.out]; unfold idxB; rw [if_pos (by omega)]; unfold isF; simp; rw [t2_len]; omega
      have HF1 := Bx.mk hf1
      have HF2 := Bx.mk hf2
      have HLT := Bx.mk hlt
      clear h0 h1 hk hf1 hf2
      go_enter Try.func38, Try.ntmps38
      go_wp2_with fail
      refine (h2s_any _).mono ?_
      rintro e w2 ⟨v, rfl, hv, hb⟩
      have hlen := fun ty W => hv.run_len ty W
      rw [t2_len] at hlen
      have HX := Bx.mk (HF.out.keep hb)
      have HB2 := Bx.mk (HB1.out.trans (hb.mono HB1.out.size))
      obtain ⟨b, o, hix, hcs⟩ := hv.at_ k HLT.out
      obtain ⟨q1, q2⟩ := hcs w2 hv
      rw [HF1.out] at q1
      rw [HF2.out] at q2
      clear hv hb hcs e1 e2 ef1 ef2
      obtain ⟨e1, e2⟩ := HX.out.cells
      obtain ⟨ef1, ef2⟩ := HX.out.free
      have HX3 := Bx.mk (HX.out.set2 f1 f2)
      go_wp2_with fail
      exact bodyPost_ret (ret_field Try.results38 _ _ w.heap.size (f1, f2) true rfl rfl HX3.out) rfl ⟨rfl, below_put2 HB2.out (Nat.le_refl _) HB2.out.size _ _⟩
    · have hd1 : decide ((i : Int) ≤ 61) = false := decide_eq_false (by omega)
      have hw1 : IntKind.u64.wrap ((i : Int) - 61) = ((i - 61 : Nat) : Int) := by have := HI.out; simp [IntKind.wrap, IntKind.signed, IntKind.bits]; omega
      obtain ⟨k, hk⟩ : ∃ k, i - 61 = k := ⟨_, rfl⟩
      rw [hk] at hw1
      have hw2 : IntKind.u64.wrap ((k : Int) - 1) = ((i - 62 : Nat) : Int) := by have := HI.out; simp [IntKind.wrap, IntKind.signed, IntKind.bits]; omega
      obtain ⟨m, hm⟩ : ∃ m, i - 62 = m := ⟨_, rfl⟩
      rw [hm] at hw2
      have HEN : Bx (entN T.l m = e0 ∧ isN T.l m = b0 ∧ m < 18446744073709551616) := ⟨by
        have := HI.out
        refine ⟨?_, ?_, by omega⟩
        · rw [← HE0.out]; unfold idxF; rw [if_neg (by omega), hm]
        · rw [← HB0.out]; unfold idxB; rw [if_neg (by omega), hm]⟩
      clear h0 h1 hk hm
      obtain ⟨f1, f2⟩ := e0
      have hag : aggF (f1, f2) = .agg #[.string f1, .string f2] := rfl
      go_enter Try.func38, Try.ntmps38
      go_wp2_with fail
      refine (h2s_any _).mono ?_
      rintro e w2 ⟨v, rfl, hv, hb⟩
      have hlen := fun ty W => hv.run_len ty W
      rw [t2_len] at hlen
      have HX := Bx.mk (HF.out.keep hb)
      have HB2 := Bx.mk (HB1.out.trans (hb.mono HB1.out.size))
      have HD2 := Bx.mk (HD.out.keep HB2.out)
      obtain ⟨c0, _⟩ := HD2.out.cells
      obtain ⟨S2, _, hdt, _⟩ := HD2.out
      have HDT := Bx.mk hdt
      clear hv hb hdt e1 e2 ef1 ef2
      have HNW := Bx.mk (fun W (hW : Below w2.heap.size w2 W) => refNewest_any (HDT.out.keep hW) m HEN.out.2.2)
      go_wp2_with fail
      refine (HNW.out _ (Below.refl _ _)).mono ?_
      rintro e w3 ⟨rfl, hb3⟩
      rw [HEN.out.1, HEN.out.2.1, hag]
      have HX3 := Bx.mk (HX.out.keep hb3)
      have HB3 := Bx.mk (HB2.out.trans (hb3.mono HB2.out.size))
      obtain ⟨e1, e2⟩ := HX3.out.cells
      obtain ⟨ef1, ef2⟩ := HX3.out.free
      have HX4 := Bx.mk (HX3.out.set2 f1 f2)
      clear hb3
      all_goals go_wp2_with fail
      all_goals exact bodyPost_ret (ret_field Try.results38 _ _ w.heap.size (f1, f2) b0 rfl rfl HX4.out) rfl ⟨rfl, below_put2 HB3.out (Nat.le_refl _) HB3.out.size _ _⟩

end Go.Proofs.Ytejkbibahbcofaa
