/-
  Contracts of the table's At, Newest, Find and its numbers.
-/
import Derived.Test.YtjebemcghikgpaaDnE
namespace Go.Proofs.Ytjebemcghikgpaa
open Go.RowKit Go.Maps
set_option linter.unusedVariables false

/-- Entry i of a list whose first one's number is fr, or the empty one. -/
def entF (l : List Fd) (fr i : Nat) : Fd := if h : fr ≤ i ∧ i - fr < l.length then l[i - fr]'(h.2) else emp
def isF (l : List Fd) (fr i : Nat) : Bool := decide (fr ≤ i ∧ i - fr < l.length)
/-- The i-th from the end. -/
def entN (l : List Fd) (i : Nat) : Fd := if h : i < l.length then l[l.length - 1 - i]'(by omega) else emp
def isN (l : List Fd) (i : Nat) : Bool := decide (i < l.length)
/-- What is found of a field. -/
def findT (l : List Fd) (b : Nat) (f : Fd) : Nat × Bool × Bool :=
  match nw (hasF f) b l with
  | some a => (a, true, true)
  | none => match nw (hasN f.1) b l with
    | some a => (a, true, false)
    | none => (0, false, false)
def find3 (x : Nat × Bool × Bool) : Value := .tuple #[.int .u64 (x.1 : Int), .bool x.2.1, .bool x.2.2]

theorem Tb.tr {p : Nat} {T : Tab} {w : World} {S : Nat → Prop} (h : Tb p T w S) : ∃ v bw bn Dw Dn, Tr w p v bw bn (sizeF T.l) T.cap T.tot T.tot T.tot T.l Dw Dn ∧ Mp kf Sized id T.first T.l Dw ∧ Mp ks Short Prod.fst T.first T.l Dn := by
  obtain ⟨v, bw, bn, Dw, Dn, h1, h2, h3, _⟩ := h
  exact ⟨v, bw, bn, Dw, Dn, h1, h2, h3⟩
theorem size_any' {p : Nat} {T : Tab} {w : World} {S : Nat → Prop} (h : Tb p T w S) : Calls Try.prog 16 #[.pointer (some ⟨p, 0, none⟩)] w fun e w' => e = .returned (.int .i64 (sizeF T.l : Int)) ∧ Below w.heap.size w w' := by
  obtain ⟨v, bw, bn, Dw, Dn, h1, _⟩ := h.tr; exact size0_any h1
theorem cap_any {p : Nat} {T : Tab} {w : World} {S : Nat → Prop} (h : Tb p T w S) : Calls Try.prog 17 #[.pointer (some ⟨p, 0, none⟩)] w fun e w' => e = .returned (.int .i64 (T.cap : Int)) ∧ Below w.heap.size w w' := by
  obtain ⟨v, bw, bn, Dw, Dn, h1, _⟩ := h.tr; exact cap0_any h1
theorem len_any {p : Nat} {T : Tab} {w : World} {S : Nat → Prop} (h : Tb p T w S) : Calls Try.prog 18 #[.pointer (some ⟨p, 0, none⟩)] w fun e w' => e = .returned (.int .i64 (T.l.length : Int)) ∧ Below w.heap.size w w' := by
  obtain ⟨v, bw, bn, Dw, Dn, h1, _⟩ := h.tr; exact len0_any h1
theorem count_any {p : Nat} {T : Tab} {w : World} {S : Nat → Prop} (h : Tb p T w S) : Calls Try.prog 19 #[.pointer (some ⟨p, 0, none⟩)] w fun e w' => e = .returned (.int .u64 (T.tot : Int)) ∧ Below w.heap.size w w' := by
  obtain ⟨v, bw, bn, Dw, Dn, h1, _⟩ := h.tr; exact count0_any h1

set_option maxRecDepth 100000 in
set_option maxHeartbeats 1000000 in
theorem at_any {p : Nat} {T : Tab} {w : World} {S : Nat → Prop} (h : Tb p T w S) (i : Nat) (hi : i < 18446744073709551616) :
    Calls Try.prog 21 #[.pointer (some ⟨p, 0, none⟩), .int .u64 (i : Int)] w fun e w' => e = .returned (.tuple #[aggF (entF T.l T.first i), .bool (isF T.l T.first i)]) ∧ Below w.heap.size w w' := by
  obtain ⟨v, bw, bn, Dw, Dn, h1, h2, h3⟩ := h.tr
  have hok := h.ok
  obtain ⟨L, cap, tot⟩ := T
  obtain ⟨fr, hfr⟩ : ∃ fr, tot - L.length = fr := ⟨_, rfl⟩
  rw [show Tab.first ⟨L, cap, tot⟩ = fr from hfr]
  simp only at h1 ⊢
  have htot : tot ≤ 1000000 := hok.tot
  have hlen : L.length ≤ tot := hok.len
  have HI := Bx.mk hi
  have HFR : Bx (fr + L.length = tot) := ⟨by omega⟩
  have HTT := Bx.mk htot
  have HOLD : Bx (∀ W, Tr W p v bw bn (sizeF L) cap tot tot tot L Dw Dn → Calls Try.prog 33 #[.pointer (some ⟨p, 0, none⟩)] W fun e w' => e = .returned (.int .u64 (fr : Int)) ∧ Below W.heap.size W w') := ⟨fun W hW => hfr ▸ oldest_any hW hlen htot⟩
  obtain ⟨e0, he0⟩ : ∃ e0, entF L fr i = e0 := ⟨_, rfl⟩
  obtain ⟨b0, hb0⟩ : ∃ b0, isF L fr i = b0 := ⟨_, rfl⟩
  rw [he0, hb0]
  have HE0 := Bx.mk he0
  have HB0 := Bx.mk hb0
  have HT := Bx.mk h1
  have HTA := Bx.mk (h1.alloc (.cells #[.string ⟨#[]⟩, .string ⟨#[]⟩] 24))
  clear h h1 h2 h3 hok htot hlen hi hfr he0 hb0
  have enter : True := trivial
  go_enter Try.func21, Try.ntmps21
  go_wp2_with fail
  refine (HOLD.out _ HTA.out).mono ?_
  rintro e w2 ⟨rfl, hb2⟩
  have HT2 := Bx.mk (HTA.out.keep hb2)
  have HF2 := Bx.mk ((Fb.new 24 w emp).keep hb2)
  have HB2 : Bx (Below w.heap.size w w2) := ⟨((Below.refl w.heap.size w).alloc (Nat.le_refl _) _).trans (hb2.mono (by simp))⟩
  clear hb2 enter
  obtain ⟨d0, d1, d2, d3, d4, d5⟩ := HT2.out.cells
  obtain ⟨e1, e2⟩ := HF2.out.cells
  obtain ⟨ef1, ef2⟩ := HF2.out.free
  by_cases h1 : i < fr
  · have hd1 : decide ((i : Int) < (fr : Int)) = true := decide_eq_true (by omega)
    have hd2 : decide (i < fr) = true := decide_eq_true h1
    obtain rfl : emp = e0 := by rw [← HE0.out]; unfold entF; rw [dif_neg (by omega)]
    obtain rfl : false = b0 := by rw [← HB0.out]; unfold isF; simp; omega
    have HF3 := Bx.mk (HF2.out.set2 ⟨#[]⟩ ⟨#[]⟩)
    clear h1
    go_wp2_with fail
    exact bodyPost_ret (ret_field Try.results21 _ _ w.heap.size emp false rfl rfl HF3.out) rfl ⟨rfl, below_set2 HB2.out _ (Nat.le_refl _) _ _⟩
  · have hd1 : decide ((i : Int) < (fr : Int)) = false := decide_eq_false (by omega)
    have hd2 : decide (i < fr) = false := decide_eq_false h1
    by_cases h2 : tot ≤ i
    · have hd3 : decide ((tot : Int) ≤ (i : Int)) = true := decide_eq_true (by omega)
      have hd4 : decide (tot ≤ i) = true := decide_eq_true h2
      obtain rfl : emp = e0 := by rw [← HE0.out]; unfold entF; rw [dif_neg (by have := HFR.out; omega)]
      obtain rfl : false = b0 := by rw [← HB0.out]; unfold isF; simp; have := HFR.out; omega
      have HF3 := Bx.mk (HF2.out.set2 ⟨#[]⟩ ⟨#[]⟩)
      clear h1 h2
      go_wp2_with fail
      exact bodyPost_ret (ret_field Try.results21 _ _ w.heap.size emp false rfl rfl HF3.out) rfl ⟨rfl, below_set2 HB2.out _ (Nat.le_refl _) _ _⟩
    · have hd3 : decide ((tot : Int) ≤ (i : Int)) = false := decide_eq_false (by omega)
      have hd4 : decide (tot ≤ i) = false := decide_eq_false h2
      have hlt : i - fr < L.length := by have := HFR.out; omega
      obtain ⟨f1, hf1⟩ : ∃ f1, L[i - fr].1 = f1 := ⟨_, rfl⟩
      obtain ⟨f2, hf2⟩ : ∃ f2, L[i - fr].2 = f2 := ⟨_, rfl⟩
      obtain rfl : (f1, f2) = e0 := by rw [← HE0.out]; unfold entF; rw [dif_pos ⟨by omega, hlt⟩, ← hf1, ← hf2]
      obtain rfl : true = b0 := by rw [← HB0.out]; unfold isF; simp; omega
      obtain ⟨b, o, hix, hcs⟩ := HT2.out.st.fs.at_ (i - fr) hlt
      have hws : IntKind.u64.wrap ((i : Int) - (fr : Int)) = ((i - fr : Nat) : Int) := by have := HI.out; simp [IntKind.wrap, IntKind.signed, IntKind.bits]; omega
      rw [hf1, hf2] at hcs
      have HCS := Bx.mk hcs
      have hX0 : ∀ W, Tr W p v bw bn (sizeF L) cap tot tot tot L Dw Dn → W.cell? ⟨p, 0, none⟩ = some v := fun W h => h.cells.1
      have hX1 : ∀ W, Tr W p v bw bn (sizeF L) cap tot tot tot L Dw Dn → W.cell? ⟨b, o, none⟩ = some (.string f1) := fun W h => (HCS.out W h.st.fs).1
      have hX2 : ∀ W, Tr W p v bw bn (sizeF L) cap tot tot tot L Dw Dn → W.cell? ⟨b, o + 1, none⟩ = some (.string f2) := fun W h => (HCS.out W h.st.fs).2
      have hS0 := HT2.out.drew
      clear h1 h2 hlt hf1 hf2 hcs
      go_wp2_with fail
      go_region_held (fun W => Tr W p v bw bn (sizeF L) cap tot tot tot L Dw Dn) (first | assumption) (first
        | (go_at_call 33; refine (HOLD.out _ ?_).mono ?_; (with_reducible exact hS0); rintro e w3 ⟨rfl, hb3⟩; have hT3 := hS0.keep hb3; have HF3 := Bx.mk ((HF2.out.keep (Below.refl _ _).drew).keep hb3); obtain ⟨r1, r2⟩ := HF3.out.cells; obtain ⟨r3, r4⟩ := HF3.out.free; have hT4 := HT.out.away (HT.out.away hT3 w.heap.size (Nat.le_refl _) 0 (.string f1)) w.heap.size (Nat.le_refl _) 1 (.string f2)))
      all_goals go_wp2_with fail
      exact bodyPost_ret (ret_field Try.results21 _ _ w.heap.size (f1, f2) true rfl rfl (HF3.out.set2 f1 f2)) rfl ⟨rfl, below_set2 (HB2.out.trans (((Below.refl w2.heap.size w2).drew.trans hb3).mono HB2.out.size)) _ (Nat.le_refl _) _ _⟩

set_option maxRecDepth 100000 in
set_option maxHeartbeats 1000000 in
theorem newest_any {p : Nat} {T : Tab} {w : World} {S : Nat → Prop} (h : Tb p T w S) (i : Nat) (hi : i < 18446744073709551616) :
    Calls Try.prog 22 #[.pointer (some ⟨p, 0, none⟩), .int .u64 (i : Int)] w fun e w' => e = .returned (.tuple #[aggF (entN T.l i), .bool (isN T.l i)]) ∧ Below w.heap.size w w' := by
  obtain ⟨v, bw, bn, Dw, Dn, h1, h2, h3⟩ := h.tr
  have hok := h.ok
  obtain ⟨e0, he0⟩ : ∃ e0, entN T.l i = e0 := ⟨_, rfl⟩
  obtain ⟨b0, hb0⟩ : ∃ b0, isN T.l i = b0 := ⟨_, rfl⟩
  rw [he0, hb0]
  have HE0 := Bx.mk he0
  have HB0 := Bx.mk hb0
  have HT := Bx.mk h
  have hlen := fun ty W => h1.st.fs.run_len ty W
  obtain ⟨n, hn⟩ : ∃ n, T.l.length = n := ⟨_, rfl⟩
  rw [hn] at hlen
  have HN := Bx.mk hn
  have HI := Bx.mk hi
  obtain ⟨ct, hct⟩ : ∃ ct, T.tot = ct := ⟨_, rfl⟩
  rw [hct] at h1
  have HCT := Bx.mk hct
  have HTT : Bx (n ≤ ct ∧ ct ≤ 1000000) := ⟨by have a := hok.len; have b := hok.tot; omega⟩
  have hwn : IntKind.u64.wrap (n : Int) = (n : Int) := by have := HTT.out; simp [IntKind.wrap, IntKind.signed, IntKind.bits]; omega
  have HTA := Bx.mk (h.keep ((Below.refl w.heap.size w).alloc (Nat.le_refl _) (.cells #[.string ⟨#[]⟩, .string ⟨#[]⟩] 24)))
  obtain ⟨d0, d1, d2, d3, d4, d5⟩ := (h1.alloc (.cells #[.string ⟨#[]⟩, .string ⟨#[]⟩] 24)).cells
  have HF1 := Bx.mk (Fb.new 24 w emp)
  have HB1 := Bx.mk ((Below.refl w.heap.size w).alloc (Nat.le_refl _) (.cells #[.string ⟨#[]⟩, .string ⟨#[]⟩] 24))
  clear h h1 h2 h3 hok hi he0 hb0 hn hct
  by_cases h1 : n ≤ i
  · have hd1 : decide ((n : Int) ≤ (i : Int)) = true := decide_eq_true (by omega)
    have hd2 : decide (n ≤ i) = true := decide_eq_true h1
    obtain rfl : emp = e0 := by rw [← HE0.out]; unfold entN; rw [dif_neg (by have := HN.out; omega)]
    obtain rfl : false = b0 := by rw [← HB0.out]; unfold isN; simp; have := HN.out; omega
    clear h1
    go_enter Try.func22, Try.ntmps22
    go_wp2_with fail
    exact bodyPost_ret (ret_field Try.results22 _ _ w.heap.size emp false rfl rfl (Fb.new _ w emp)) rfl ⟨rfl, (Below.refl _ _).alloc (Nat.le_refl _) _⟩
  · have hd1 : decide ((n : Int) ≤ (i : Int)) = false := decide_eq_false (by omega)
    have hd2 : decide (n ≤ i) = false := decide_eq_false h1
    have hw1 : IntKind.u64.wrap ((ct : Int) - 1) = ((ct - 1 : Nat) : Int) := by have := HTT.out; simp [IntKind.wrap, IntKind.signed, IntKind.bits]; omega
    obtain ⟨c1, hc1⟩ : ∃ c1, ct - 1 = c1 := ⟨_, rfl⟩
    rw [hc1] at hw1
    have hw2 : IntKind.u64.wrap ((c1 : Int) - (i : Int)) = ((c1 - i : Nat) : Int) := by have := HTT.out; simp [IntKind.wrap, IntKind.signed, IntKind.bits]; omega
    obtain ⟨c2, hc2⟩ : ∃ c2, c1 - i = c2 := ⟨_, rfl⟩
    rw [hc2] at hw2
    have hfirst : T.first = ct - n := by show T.tot - T.l.length = _; rw [HCT.out, HN.out]
    have hE : entF T.l T.first c2 = e0 := by
      have a := HTT.out
      have b := HN.out
      rw [← HE0.out]
      unfold entF entN
      rw [dif_pos (by rw [hfirst]; omega), dif_pos (by omega)]
      congr 1
      rw [hfirst]
      omega
    have hBt : isF T.l T.first c2 = true := by
      have a := HTT.out
      have b := HN.out
      unfold isF
      rw [hfirst]
      simp; omega
    obtain rfl : true = b0 := by rw [← HB0.out]; unfold isN; simp; have := HN.out; omega
    have HE := Bx.mk hE
    have HBt := Bx.mk hBt
    have hc2b : c2 < 18446744073709551616 := by have := HTT.out; omega
    have HC2 := Bx.mk hc2b
    clear h1 hc1 hc2 hfirst hE hBt hc2b
    go_enter Try.func22, Try.ntmps22
    go_wp2_with fail
    refine (at_any HTA.out c2 HC2.out).mono ?_
    rintro e w2 ⟨rfl, hb2⟩
    rw [HE.out, HBt.out]
    obtain ⟨x1, x2⟩ := e0
    have HF2 := Bx.mk (HF1.out.keep hb2)
    have HB2 := Bx.mk (HB1.out.trans (hb2.mono HB1.out.size))
    have ha : aggF (x1, x2) = .agg #[.string x1, .string x2] := rfl
    rw [ha]
    obtain ⟨e1, e2⟩ := HF2.out.cells
    obtain ⟨ef1, ef2⟩ := HF2.out.free
    clear hb2 ha
    go_wp2_with fail
    exact bodyPost_ret (ret_field Try.results22 _ _ w.heap.size (x1, x2) true rfl rfl (HF2.out.set2 x1 x2)) rfl ⟨rfl, below_set2 HB2.out _ (Nat.le_refl _) _ _⟩

set_option maxRecDepth 100000 in
set_option maxHeartbeats 1000000 in
theorem find_any {p : Nat} {T : Tab} {w : World} {S : Nat → Prop} (h : Tb p T w S) (f : Fd) (hf : Sized f) :
    Calls Try.prog 23 #[.pointer (some ⟨p, 0, none⟩), .agg #[.string f.1, .string f.2]] w fun e w' => e = .returned (find3 (findT T.l T.first f)) ∧ Below w.heap.size w w' := by
  obtain ⟨f1, f2⟩ := f
  obtain ⟨v, bw, bn, Dw, Dn, h1, h2, h3⟩ := h.tr
  have HSF := Bx.mk hf
  have HSS : Bx (Short f1) := ⟨hf.1⟩
  have HT1 := Bx.mk (h1.alloc (.cells #[.string f1, .string f2] 24))
  have HF1 := Bx.mk (Fb.new 24 w (f1, f2))
  have HW := Bx.mk h2
  have HN := Bx.mk h3
  obtain ⟨fr, hfr⟩ : ∃ fr, T.first = fr := ⟨_, rfl⟩
  rw [hfr] at HW HN ⊢
  clear h h1 h2 h3 hf hfr
  obtain ⟨d0, d1, d2, d3, d4, d5⟩ := HT1.out.drew.cells
  obtain ⟨e1, e2⟩ := (HF1.out.keep (Below.refl _ _).drew).cells
  have hlk := lookWok HT1.out.drew.mw HW.out HSF.out
  cases hx : nw (hasF (f1, f2)) fr T.l with
  | some a =>
    rw [hx] at hlk
    have HFT : Bx (findT T.l fr (f1, f2) = (a, true, true)) := ⟨by unfold findT; rw [hx]⟩
    rw [HFT.out]
    clear hx
    simp only [Option.getD_some, Option.isSome_some] at hlk
    go_enter Try.func23, Try.ntmps23
    go_wp2_with fail
    go_region
    go_wp2_with fail
    go_ret3
    exact ⟨rfl, ((Below.refl w.heap.size w).alloc (Nat.le_refl _) _).drew⟩
  | none =>
    rw [hx] at hlk
    simp only [Option.getD_none, Option.isSome_none] at hlk
    have hlk2 := lookNok HT1.out.drew.drew.mn HN.out HSS.out
    cases hy : nw (hasN f1) fr T.l with
    | some a =>
      rw [hy] at hlk2
      simp only [Option.getD_some, Option.isSome_some] at hlk2
      have HFT : Bx (findT T.l fr (f1, f2) = (a, true, false)) := ⟨by unfold findT; rw [hx, hy]⟩
      rw [HFT.out]
      clear hx hy
      go_enter Try.func23, Try.ntmps23
      go_wp2_with fail
      go_region
      go_wp2_with fail
      go_region
      go_wp2_with fail
      go_ret3
      exact ⟨rfl, ((Below.refl w.heap.size w).alloc (Nat.le_refl _) _).drew.drew⟩
    | none =>
      rw [hy] at hlk2
      simp only [Option.getD_none, Option.isSome_none] at hlk2
      have HFT : Bx (findT T.l fr (f1, f2) = (0, false, false)) := ⟨by unfold findT; rw [hx, hy]⟩
      rw [HFT.out]
      clear hx hy
      go_enter Try.func23, Try.ntmps23
      go_wp2_with fail
      go_region
      go_wp2_with fail
      go_region
      go_wp2_with fail
      go_ret3
      exact ⟨rfl, ((Below.refl w.heap.size w).alloc (Nat.le_refl _) _).drew.drew⟩

end Go.Proofs.Ytjebemcghikgpaa
