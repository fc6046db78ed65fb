/-
  Contracts of the table's shrink, and of drop and enter as turns of the table.
-/
import Derived.Test.YtjebemcghikgpaaDnC
namespace Go.Proofs.Ytjebemcghikgpaa
open Go.RowKit Go.Maps
set_option linter.unusedVariables false

theorem Fp.mono {S S' : Nat → Prop} {w w' : World} (h : Fp S w w') (hs : ∀ k, S k → S' k) : Fp S' w w' := ⟨h.os, h.tape, h.output, h.size, fun k hk hn => h.block k hk fun hk => hn (hs k hk)⟩

theorem Turn.step {Y : World → (Nat → Prop) → Prop} {S S1 : Nat → Prop} {a b c : World} (s1 : ∀ k, S1 k → S k ∨ a.heap.size ≤ k) (f1 : Fp S a b) (ht : Turn Y S1 b c) : Turn Y S a c := by
  obtain ⟨S2, y2, s2, f2⟩ := ht
  refine ⟨S2, y2, fun i hi => ?_, f1.trans f2 s1⟩
  rcases s2 i hi with h | h
  · exact s1 i h
  · exact .inr (Nat.le_trans f1.size h)

theorem drop_turn {p : Nat} {T : Tab} {w : World} {S : Nat → Prop} {f : Fd} {l : List Fd} (h : Tb p T w S) (hl : T.l = f :: l) :
    Calls Try.prog 34 #[.pointer (some ⟨p, 0, none⟩)] w fun e w' => e = .returned (.tuple #[]) ∧ Turn (Tb p ⟨l, T.cap, T.tot⟩) S w w' := by
  obtain ⟨v, bw, bn, Dw, Dn, h1, h2, h3, h4, h5, h6⟩ := h
  obtain ⟨L, cap, tot⟩ := T
  simp only at hl
  subst hl
  have hlen := h6.len
  simp only [List.length_cons] at hlen
  have hfi : Tab.first ⟨f :: l, cap, tot⟩ = tot - (l.length + 1) := rfl
  rw [hfi] at h2 h3
  refine (drop_any h1 h2 h3 (by show tot - (l.length + 1) + (l.length + 1) = tot; omega) h6.tot h6.size).mono ?_
  rintro e w' ⟨rfl, v', Dw', Dn', t1, t2, t3, t4, t5⟩
  have hs : sizeF (f :: l) = fsz f + 32 + sizeF l := rfl
  have hsz := h6.size
  have hcap := h6.cap
  have htot := h6.tot
  simp only at hsz hcap htot
  have hfi2 : Tab.first ⟨l, cap, tot⟩ = tot - (l.length + 1) + 1 := by show tot - l.length = _; omega
  refine ⟨rfl, S, ⟨v', bw, bn, Dw', Dn', t1, ?_, ?_, ⟨h4.1, h4.2.1, h4.2.2.1, fun k hk => h4.2.2.2 k (t2 ▸ hk)⟩, fun k hk => Nat.lt_of_lt_of_le (h5 k hk) t5.size, ⟨by show l.length ≤ tot; omega, by show sizeF l ≤ _; omega, hcap, htot⟩⟩, fun k hk => .inl hk, t5.mono ?_⟩
  · rw [hfi2]; exact t3
  · rw [hfi2]; exact t4
  · rintro k (rfl | rfl | rfl | hk)
    · exact h4.1
    · exact h4.2.1
    · exact h4.2.2.1
    · exact h4.2.2.2 k hk

theorem enter_turn {p : Nat} {T : Tab} {w : World} {S : Nat → Prop} {f : Fd} (h : Tb p T w S) (ht : T.tot + 1 ≤ 1000000) (hs : sizeF T.l + (fsz f + 32) ≤ 1000000) :
    Calls Try.prog 27 #[.pointer (some ⟨p, 0, none⟩), .agg #[.string f.1, .string f.2]] w fun e w' => e = .returned (.tuple #[]) ∧ Turn (Tb p ⟨T.l ++ [f], T.cap, T.tot + 1⟩) S w w' := by
  obtain ⟨v, bw, bn, Dw, Dn, h1, h2, h3, h4, h5, h6⟩ := h
  have hlen := h6.len
  refine (enter_any h1 h2 h3 (show T.tot - T.l.length + T.l.length = T.tot by omega) h6.tot hs h6.tot h6.tot).mono ?_
  rintro e w' ⟨rfl, v', Dw', Dn', t1, t2, t3, t4, t5⟩
  have hfi2 : Tab.first ⟨T.l ++ [f], T.cap, T.tot + 1⟩ = T.first := by show T.tot + 1 - (T.l ++ [f]).length = T.tot - T.l.length; rw [List.length_append, List.length_singleton]; omega
  refine ⟨rfl, fun k => S k ∨ (w.heap.size ≤ k ∧ k < w'.heap.size), ⟨v', bw, bn, Dw', Dn', t1, ?_, ?_, ⟨.inl h4.1, .inl h4.2.1, .inl h4.2.2.1, fun k hk => ?_⟩, ?_, ⟨?_, ?_, h6.cap, ht⟩⟩, ?_, t5.mono ?_⟩
  · rw [hfi2]; exact t3
  · rw [hfi2]; exact t4
  · rcases t2 with e | ⟨g, e, hg⟩
    · exact .inl (h4.2.2.2 k (e ▸ hk))
    · have := t1.st.lt hk
      rw [e] at hk
      injection hk with hk
      subst hk
      exact .inr ⟨hg, this⟩
  · rintro k (hk | hk)
    · exact Nat.lt_of_lt_of_le (h5 k hk) t5.size
    · exact hk.2
  · show (T.l ++ [f]).length ≤ T.tot + 1
    rw [List.length_append, List.length_singleton]; omega
  · show sizeF (T.l ++ [f]) ≤ _
    rw [sizeF_append]
    simp only [sizeF]
    omega
  · rintro k (hk | hk)
    · exact .inl hk
    · exact .inr hk.1
  · rintro k (rfl | rfl | rfl | hk)
    · exact h4.1
    · exact h4.2.1
    · exact h4.2.2.1
    · exact h4.2.2.2 k hk

set_option maxRecDepth 100000 in
set_option maxHeartbeats 1000000 in
theorem shrink_any {p : Nat} {T : Tab} {w : World} {S : Nat → Prop} (h : Tb p T w S) (room : Int) :
    Calls Try.prog 24 #[.pointer (some ⟨p, 0, none⟩), .int .i64 room] w fun e w' => e = .returned (.int .i64 (T.went room : Int)) ∧ Turn (Tb p ⟨fits room T.l, T.cap, T.tot⟩) S w w' := by
  have HT := Bx.mk h
  obtain ⟨L0, cap, tot⟩ := T
  have HLEN : Bx (L0.length ≤ 31250) := ⟨h.ok.short⟩
  obtain ⟨R, hR⟩ : ∃ R, Tab.went ⟨L0, cap, tot⟩ room = R := ⟨_, rfl⟩
  rw [hR]
  have HR : Bx (L0.length - (fits room L0).length = R) := ⟨hR⟩
  clear h hR
  go_enter Try.func24, Try.ntmps24
  go_wp2
  go_loopg [5] L0.length (fun g s5 wx => ∃ (k : Nat) (L : List Fd), k + L.length = L0.length ∧ L.length = g ∧ s5 = .int .i64 k ∧ Bx (fits room L = fits room L0) ∧ Bx (Turn (Tb p ⟨L, cap, tot⟩) S w wx))
  case atStart => exact ⟨0, L0, by omega, rfl, rfl, ⟨rfl⟩, ⟨Turn.refl HT.out (Below.refl _ _)⟩⟩
  case round =>
    obtain ⟨k, L, hk, hg, rfl, HFI, HTU⟩ := hrel
    obtain ⟨S1, hX, hs1, hf1⟩ := HTU.out
    have HX := Bx.mk hX
    have HS1 := Bx.mk hs1
    have HF1 := Bx.mk hf1
    obtain ⟨v, bw, bn, Dw, Dn, h1, _⟩ := hX
    obtain ⟨d0, d1, d2, d3, d4, d5⟩ := h1.cells
    have hlen := fun ty W => h1.st.fs.run_len ty W
    clear h1 hs1 hf1
    simp only at d0 d1 d2 d3 d4 d5 hlen
    obtain ⟨m, hm⟩ : ∃ m, L.length = m := ⟨_, rfl⟩
    rw [hm] at hlen
    have HM := Bx.mk hm
    clear hm
    by_cases hgo : room < (sizeF L : Int) ∧ L ≠ []
    · obtain ⟨hgt, hne⟩ := hgo
      obtain ⟨f, l, rfl⟩ : ∃ f l, L = f :: l := List.exists_cons_of_ne_nil hne
      have HGO := Bx.mk (fits_cons_go hgt)
      have hd1 : decide (room < (sizeF (f :: l) : Int)) = true := by simpa using hgt
      have hm0 : 0 < m := by have := HM.out; simp only [List.length_cons] at this; omega
      have hd2 : decide ((0 : Int) < (m : Int)) = true := decide_eq_true (by omega)
      have hd3 : decide (0 < m) = true := decide_eq_true hm0
      clear hgt hne
      go_wp2_with fail
      refine (drop_turn HX.out rfl).mono ?_
      rintro e w2 ⟨rfl, ht⟩
      have HT2 : Bx (Turn (Tb p ⟨l, cap, tot⟩) S w w2) := ⟨Turn.step HS1.out HF1.out ht⟩
      obtain ⟨g', rfl⟩ : ∃ g', gk = g' + 1 := ⟨l.length, by rw [← hg]; rfl⟩
      have hkk : k ≤ 31250 := by have := HLEN.out; omega
      clear ht hd1 hd2 hd3 hm0 hlen d0 d1 d2 d3 d4 d5
      go_wp2
      go_roundg g'
      case measure => omega
      case rel => exact ⟨k + 1, l, by simp only [List.length_cons] at hk; omega, by simp only [List.length_cons] at hg; omega, by go_num, ⟨by rw [← HGO.out]; exact HFI.out⟩, HT2⟩
    · have hfin : fits room L = L := by
        cases L with
        | nil => rfl
        | cons f l => exact fits_all (by have : ¬ room < (sizeF (f :: l) : Int) := fun h => hgo ⟨h, by simp⟩; omega)
      have HFI2 : Bx (L = fits room L0) := ⟨by rw [← hfin]; exact HFI.out⟩
      have HKR : Bx (k = R) := ⟨by have := HR.out; rw [← HFI2.out] at this; omega⟩
      rw [HFI2.out] at HTU
      by_cases hr : room < (sizeF L : Int)
      case' pos =>
        have hL : L = [] := Classical.byContradiction fun hne => hgo ⟨hr, hne⟩
        have hd1 : decide (room < (sizeF L : Int)) = true := decide_eq_true hr
        have hm0 : m = 0 := by have := HM.out; rw [hL] at this; exact this.symm
        have hd2 : decide ((0 : Int) < (m : Int)) = false := decide_eq_false (by omega)
        have hd3 : decide (0 < m) = false := decide_eq_false (by omega)
        clear hm0
        clear hr hL hgo hfin
      case' neg =>
        have hd1 : decide (room < (sizeF L : Int)) = false := decide_eq_false hr
        clear hr hgo hfin
      all_goals
        go_wp2_with fail
        go_ret
        exact ⟨by have := HKR.out; subst this; rfl, HTU.out⟩

end Go.Proofs.Ytjebemcghikgpaa
