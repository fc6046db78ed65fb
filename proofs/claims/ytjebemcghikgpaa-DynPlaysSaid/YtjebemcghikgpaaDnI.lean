/-
  Contracts of the document's Abs, Newest.
-/
import Derived.Test.YtjebemcghikgpaaDnG
namespace Go.Proofs.Ytjebemcghikgpaa
open Go.RowKit Go.Maps
set_option linter.unusedVariables false

theorem Rt.first {q : Nat} {T : Tab} {w : World} {S : Nat → Prop} (h : Rt q T w S) : Calls Try.prog 30 #[.pointer (some ⟨q, 0, none⟩)] w fun e w' => e = .returned (.int .u64 (T.first : Int)) ∧ Below w.heap.size w w' := by
  obtain ⟨v, h1, h2, h3, h4, h5, h6⟩ := h
  exact first_any h1 h2 h6.len h6.tot

set_option maxRecDepth 100000 in
set_option maxHeartbeats 1000000 in
theorem refAbs_any {q : Nat} {T : Tab} {w : World} {S : Nat → Prop} (h : Rt q T w S) (i : Nat) (hi : i < 18446744073709551616) :
    Calls Try.prog 31 #[.pointer (some ⟨q, 0, none⟩), .int .u64 (i : Int)] w fun e w' => e = .returned (.tuple #[aggF (entF T.l T.first i), .bool (isF T.l T.first i)]) ∧ Below w.heap.size w w' := by
  have hok := h.ok
  have HT := Bx.mk h
  have hA : Rt q T (w.alloc (.cells #[.string ⟨#[]⟩, .string ⟨#[]⟩] 24)) S := h.keep ((Below.refl w.heap.size w).alloc (Nat.le_refl _) (.cells #[.string ⟨#[]⟩, .string ⟨#[]⟩] 24))
  have HTA := Bx.mk hA
  obtain ⟨v, c0, c1, c2, df, hst⟩ := hA.cells
  have HOLD : Bx (∀ W, Rt q T W S → Calls Try.prog 30 #[.pointer (some ⟨q, 0, none⟩)] W fun e w' => e = .returned (.int .u64 (T.first : Int)) ∧ Below W.heap.size W w') := ⟨fun W hW => hW.first⟩
  have HFR : Bx (T.first + T.l.length = T.tot) := ⟨by have := hok.len; unfold Tab.first; omega⟩
  obtain ⟨fr, hfr⟩ : ∃ fr, T.first = fr := ⟨_, rfl⟩
  obtain ⟨tot, htot⟩ : ∃ tot, T.tot = tot := ⟨_, rfl⟩
  obtain ⟨L, hL⟩ : ∃ L, T.l = L := ⟨_, rfl⟩
  rw [hfr] at HOLD
  rw [hfr, hL, htot] at HFR
  rw [hfr, hL]
  rw [htot] at c2
  rw [hL] at hst
  have HI := Bx.mk hi
  have HTT : Bx (tot ≤ 1000000) := ⟨by have := hok.tot; omega⟩
  obtain ⟨e0, he0⟩ : ∃ e0, entF L fr i = e0 := ⟨_, rfl⟩
  obtain ⟨b0, hb0⟩ : ∃ b0, isF L fr i = b0 := ⟨_, rfl⟩
  rw [he0, hb0]
  have HE0 := Bx.mk he0
  have HB0 := Bx.mk hb0
  have HLL := Bx.mk hL
  have HF1 := Bx.mk (Fb.new 24 w emp)
  obtain ⟨e1, e2⟩ := HF1.out.cells
  obtain ⟨ef1, ef2⟩ := HF1.out.free
  have HB1 := Bx.mk ((Below.refl w.heap.size w).alloc (Nat.le_refl _) (.cells #[.string ⟨#[]⟩, .string ⟨#[]⟩] 24))
  clear h hA hok hi hfr htot hL he0 hb0 df
  by_cases h2 : tot ≤ i
  · have hd3 : decide ((tot : Int) ≤ (i : Int)) = true := decide_eq_true (by omega)
    have hd4 : decide (tot ≤ i) = true := decide_eq_true h2
    obtain rfl : emp = e0 := by rw [← HE0.out]; unfold entF; rw [dif_neg (by have := HFR.out; omega)]
    obtain rfl : false = b0 := by rw [← HB0.out]; unfold isF; simp; have := HFR.out; omega
    clear h2
    go_enter Try.func31, Try.ntmps31
    go_wp2_with fail
    exact bodyPost_ret (ret_field Try.results31 _ _ w.heap.size emp false rfl rfl (Fb.new _ w emp)) rfl ⟨rfl, (Below.refl _ _).alloc (Nat.le_refl _) _⟩
  · have hd3 : decide ((tot : Int) ≤ (i : Int)) = false := decide_eq_false (by omega)
    have hd4 : decide (tot ≤ i) = false := decide_eq_false h2
    go_enter Try.func31, Try.ntmps31
    go_wp2_with fail
    refine (HOLD.out _ HTA.out).mono ?_
    rintro e w2 ⟨rfl, hb2⟩
    have HT2 := Bx.mk (HTA.out.keep hb2)
    have HF2 := Bx.mk (HF1.out.keep hb2)
    have HB2 := Bx.mk (HB1.out.trans (hb2.mono HB1.out.size))
    clear hb2 e1 e2 ef1 ef2 c0 c1 c2 hst
    obtain ⟨v, d0, d1, d2, df, hst⟩ := HT2.out.cells
    rw [HLL.out] at hst
    obtain ⟨e1, e2⟩ := HF2.out.cells
    obtain ⟨ef1, ef2⟩ := HF2.out.free
    clear d1 d2 df
    by_cases h1 : i < fr
    · have hd1 : decide ((i : Int) < (fr : Int)) = true := decide_eq_true (by omega)
      have hd2 : decide (i < fr) = true := decide_eq_true h1
      obtain rfl : emp = e0 := by rw [← HE0.out]; unfold entF; rw [dif_neg (by omega)]
      obtain rfl : false = b0 := by rw [← HB0.out]; unfold isF; simp; omega
      have HF3 := Bx.mk (HF2.out.set2 ⟨#[]⟩ ⟨#[]⟩)
      clear h1 h2
      go_wp2_with fail
      exact bodyPost_ret (ret_field Try.results31 _ _ w.heap.size emp false rfl rfl HF3.out) rfl ⟨rfl, below_set2 HB2.out _ (Nat.le_refl _) _ _⟩
    · have hd1 : decide ((i : Int) < (fr : Int)) = false := decide_eq_false (by omega)
      have hd2 : decide (i < fr) = false := decide_eq_false h1
      have hlt : i - fr < L.length := by have := HFR.out; omega
      obtain ⟨f1, hf1⟩ : ∃ f1, L[i - fr].1 = f1 := ⟨_, rfl⟩
      obtain ⟨f2, hf2⟩ : ∃ f2, L[i - fr].2 = f2 := ⟨_, rfl⟩
      obtain rfl : (f1, f2) = e0 := by rw [← HE0.out]; unfold entF; rw [dif_pos ⟨by omega, hlt⟩, ← hf1, ← hf2]
      obtain rfl : true = b0 := by rw [← HB0.out]; unfold isF; simp; omega
      obtain ⟨v, k0, _, _, _, kst⟩ := HT.out.cells
      rw [HLL.out] at kst
      obtain ⟨b, o, hix, hcs⟩ := kst.fs.at_ (i - fr) hlt
      have hws : IntKind.u64.wrap ((i : Int) - (fr : Int)) = ((i - fr : Nat) : Int) := by have := HI.out; simp [IntKind.wrap, IntKind.signed, IntKind.bits]; omega
      rw [hf1, hf2] at hcs
      have HST := Bx.mk kst
      have HCS := Bx.mk hcs
      have HK0 := Bx.mk k0
      have hX0 : ∀ W, Below w.heap.size w W → W.cell? ⟨q, 0, none⟩ = some v := fun W hW => (hW.cell (World.block_lt_of_cell? w _ HK0.out)).trans HK0.out
      have hX1 : ∀ W, Below w.heap.size w W → W.cell? ⟨b, o, none⟩ = some (.string f1) := fun W hW => (HCS.out W (HST.out.keep hW).fs).1
      have hX2 : ∀ W, Below w.heap.size w W → W.cell? ⟨b, o + 1, none⟩ = some (.string f2) := fun W hW => (HCS.out W (HST.out.keep hW).fs).2
      have hS0 : Below w.heap.size w w2.drew := HB2.out.drew
      clear h1 h2 hlt hf1 hf2 hcs hst d0 kst k0
      go_wp2_with fail
      go_region_held (fun W => Below w.heap.size w W) (first | assumption) (first
        | (go_at_call 30; refine (HOLD.out _ (HT2.out.keep (Below.refl _ _).drew)).mono ?_; rintro e w3 ⟨rfl, hb3⟩; have HF3 := Bx.mk ((HF2.out.keep (Below.refl _ _).drew).keep hb3); obtain ⟨r1, r2⟩ := HF3.out.cells; obtain ⟨r3, r4⟩ := HF3.out.free; have hT3 : Below w.heap.size w w3 := HB2.out.trans (((Below.refl w2.heap.size w2).drew.trans hb3).mono HB2.out.size); have hT4 := below_set2 hT3 w.heap.size (Nat.le_refl _) (.string f1) (.string f2)))
      all_goals go_wp2_with fail
      exact bodyPost_ret (ret_field Try.results31 _ _ w.heap.size (f1, f2) true rfl rfl (HF3.out.set2 f1 f2)) rfl ⟨rfl, hT4⟩

set_option maxRecDepth 100000 in
set_option maxHeartbeats 1000000 in
theorem refNewest_any {q : Nat} {T : Tab} {w : World} {S : Nat → Prop} (h : Rt q T w S) (i : Nat) (hi : i < 18446744073709551616) :
    Calls Try.prog 29 #[.pointer (some ⟨q, 0, none⟩), .int .u64 (i : Int)] w fun e w' => e = .returned (.tuple #[aggF (entN T.l i), .bool (isN T.l i)]) ∧ Below w.heap.size w w' := by
  obtain ⟨e0, he0⟩ : ∃ e0, entN T.l i = e0 := ⟨_, rfl⟩
  obtain ⟨b0, hb0⟩ : ∃ b0, isN T.l i = b0 := ⟨_, rfl⟩
  rw [he0, hb0]
  have HE0 := Bx.mk he0
  have HB0 := Bx.mk hb0
  have HSH := Bx.mk h.ok.short
  obtain ⟨v, c0, _, _, _, hst⟩ := (h.keep ((Below.refl w.heap.size w).alloc (Nat.le_refl _) (.cells #[.string ⟨#[]⟩, .string ⟨#[]⟩] 24))).cells
  have hlen := fun ty W => hst.fs.run_len ty W
  obtain ⟨n, hn⟩ : ∃ n, T.l.length = n := ⟨_, rfl⟩
  rw [hn] at hlen
  have HN := Bx.mk hn
  have HI := Bx.mk hi
  have hnb : n ≤ 31250 := by have := HSH.out; omega
  have hwn : IntKind.u64.wrap (n : Int) = (n : Int) := by simp [IntKind.wrap, IntKind.signed, IntKind.bits]; omega
  have HNB := Bx.mk hnb
  clear h hi he0 hb0 hn hnb
  by_cases h1 : n ≤ i
  · have hd1 : decide ((n : Int) ≤ (i : Int)) = true := decide_eq_true (by omega)
    have hd2 : decide (n ≤ i) = true := decide_eq_true h1
    obtain rfl : emp = e0 := by rw [← HE0.out]; unfold entN; rw [dif_neg (by have := HN.out; omega)]
    obtain rfl : false = b0 := by rw [← HB0.out]; unfold isN; simp; have := HN.out; omega
    clear h1 hst
    go_enter Try.func29, Try.ntmps29
    go_wp2_with fail
    exact bodyPost_ret (ret_field Try.results29 _ _ w.heap.size emp false rfl rfl (Fb.new _ w emp)) rfl ⟨rfl, (Below.refl _ _).alloc (Nat.le_refl _) _⟩
  · have hd1 : decide ((n : Int) ≤ (i : Int)) = false := decide_eq_false (by omega)
    have hd2 : decide (n ≤ i) = false := decide_eq_false h1
    have hw1 : IntKind.u64.wrap ((n : Int) - 1) = ((n - 1 : Nat) : Int) := by have := HNB.out; simp [IntKind.wrap, IntKind.signed, IntKind.bits]; omega
    obtain ⟨c1, hc1⟩ : ∃ c1, n - 1 = c1 := ⟨_, rfl⟩
    rw [hc1] at hw1
    have hw2 : IntKind.u64.wrap ((c1 : Int) - (i : Int)) = ((c1 - i : Nat) : Int) := by have := HNB.out; simp [IntKind.wrap, IntKind.signed, IntKind.bits]; omega
    obtain ⟨c2, hc2⟩ : ∃ c2, c1 - i = c2 := ⟨_, rfl⟩
    rw [hc2] at hw2
    have hlt : c2 < T.l.length := by have := HN.out; omega
    obtain ⟨f1, hf1⟩ : ∃ f1, T.l[c2].1 = f1 := ⟨_, rfl⟩
    obtain ⟨f2, hf2⟩ : ∃ f2, T.l[c2].2 = f2 := ⟨_, rfl⟩
    obtain rfl : (f1, f2) = e0 := by
      have b := HN.out
      rw [← HE0.out]
      unfold entN
      rw [dif_pos (by omega), ← hf1, ← hf2]
      simp only [show T.l.length - 1 - i = c2 by omega]
    obtain rfl : true = b0 := by rw [← HB0.out]; unfold isN; simp; have := HN.out; omega
    obtain ⟨b, o, hix, hcs⟩ := hst.fs.at_ c2 hlt
    obtain ⟨q1, q2⟩ := hcs _ hst.fs
    rw [hf1] at q1
    rw [hf2] at q2
    clear h1 hc1 hc2 hst hcs hlt hf1 hf2
    go_enter Try.func29, Try.ntmps29
    go_wp2_with fail
    go_region
    go_wp2_with fail
    exact bodyPost_ret (ret_field Try.results29 _ _ w.heap.size (f1, f2) true rfl rfl ((Fb.new _ w (f1, f2)).keep (Below.refl _ _).drew)) rfl ⟨rfl, ((Below.refl w.heap.size w).alloc (Nat.le_refl _) _).drew⟩

end Go.Proofs.Ytjebemcghikgpaa
