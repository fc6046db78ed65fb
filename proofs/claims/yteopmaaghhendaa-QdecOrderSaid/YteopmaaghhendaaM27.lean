/-
  Texts put together: QqH, QqI, QqJ, QqK, QqL, QqM, QqN, QqO, QqP, QqQ, QqR.
-/
import Derived.Test.YteopmaaghhendaaM22
import Derived.Test.YteopmaaghhendaaM18
import Derived.Test.YteopmaaghhendaaM13

/-
  The draft's field: an entry is ordered.
-/
namespace Go.Proofs.Yteopmaaghhendaa
open Go.RowKit Go.Maps
set_option linter.unusedVariables false

section
variable {q p N N' s d : Nat} {E : Qe} {S : Nat → Prop} {w wx wy : World} {a a' : Qa} {ins ins' : List UInt8} {pl pl' : List Nat} {ln ln' : List (Ql × Value)} {oV pV lV oV' pV' lV' : Value} {e T : Nat → Prop}
end
end Go.Proofs.Yteopmaaghhendaa

/-
  The draft's field: its contract.
-/
namespace Go.Proofs.Yteopmaaghhendaa
open Go.RowKit Go.Maps
set_option linter.unusedVariables false

/-- What holds behind k fields of a section. -/
structure Gd (E : Qe) (s k : Nat) (a : Qa) : Prop where
  inv : QInv E.T.cap a
  lo : E.T.tot ≤ a.T.tot
  hi : a.T.tot ≤ E.T.tot + k
  ins : a.ins.length ≤ 11 + k * 45000
  u : a.u.length ≤ k
  all : a.all.length = k
  fr : E.K < a.c → freeQ E.op E.K E.B s = true
theorem add_tot {T : Tab} {op : List Qs} {K : Nat} {f : Fd} {u : List Nat} (hl : T.l.length ≤ T.tot) (h : roomQ op K T f u = true) : (T.add f).tot = T.tot + 1 := by
  obtain ⟨_, h1, _⟩ := roomQ_size h
  exact (add_has hl (by omega)).2
theorem bumpA {x k : Nat} (h : x ≤ 11 + k * 45000) : x ≤ 11 + (k + 1) * 45000 := Nat.le_trans h (Nat.add_le_add_left (Nat.mul_le_mul_right _ (Nat.le_succ k)) 11)
theorem bumpB {x y k : Nat} (h : x ≤ 11 + k * 45000) (h2 : y ≤ 40022) : x + y ≤ 11 + (k + 1) * 45000 := by
  rw [Nat.succ_mul]
  generalize k * 45000 = z at *
  omega
theorem Gd.step {E : Qe} {s k : Nat} {a : Qa} (h : Gd E s k a) (f : Fd) (hf : fsz f ≤ 40000) : Gd E s (k + 1) (qstep E.op E.K (freeQ E.op E.K E.B s) a f) := by
  obtain ⟨i1, i2⟩ := h.inv.step E.op E.K (freeQ E.op E.K E.B s) f
  have hlen : (qstep E.op E.K (freeQ E.op E.K E.B s) a f).all.length = k + 1 := by
    have := congrArg List.length i2
    rw [List.length_map, List.length_append, List.length_map, h.all] at this
    exact this
  have HL := Bx.mk hlen
  have HI := Bx.mk i1
  clear hlen i1 i2
  have h1 := h.lo
  have h2 := h.hi
  have h3 := h.ins
  have h4 := h.u
  have h5 := h.fr
  have hi1 : a.ins.length ≤ 11 + (k + 1) * 45000 := bumpA h3
  have hu1 : a.u.length ≤ k + 1 := Nat.le_succ_of_le h4
  have ht1 : a.T.tot ≤ E.T.tot + (k + 1) := Nat.le_succ_of_le h2
  have hu2 : ∀ i, (a.u ++ [i]).length ≤ k + 1 := fun i => by rw [List.length_append, List.length_singleton]; exact Nat.succ_le_succ h4
  have hi2 : (a.ins ++ insW f).length ≤ 11 + (k + 1) * 45000 := by
    rw [List.length_append]
    exact bumpB h3 (Nat.le_trans (insW_len f) (Nat.add_le_add_right hf 22))
  have HI2 := Bx.mk hi2
  clear hi2
  have key : E.T.tot ≤ (qstep E.op E.K (freeQ E.op E.K E.B s) a f).T.tot ∧ (qstep E.op E.K (freeQ E.op E.K E.B s) a f).T.tot ≤ E.T.tot + (k + 1) ∧ (qstep E.op E.K (freeQ E.op E.K E.B s) a f).ins.length ≤ 11 + (k + 1) * 45000 ∧ (qstep E.op E.K (freeQ E.op E.K E.B s) a f).u.length ≤ k + 1 ∧ (E.K < (qstep E.op E.K (freeQ E.op E.K E.B s) a f).c → freeQ E.op E.K E.B s = true) := by
    unfold qstep
    split
    · exact ⟨h1, ht1, hi1, hu1, h5⟩
    · split
      · rename_i hc
        simp only [Bool.and_eq_true, Bool.or_eq_true, decide_eq_true_eq] at hc
        refine ⟨h1, ht1, hi1, hu2 _, fun hk => ?_⟩
        have hk' : E.K < max a.c ((findT a.T.l a.T.first f).1 + 1) := hk
        rcases hc.2 with hc | hc
        · exact h5 (by omega)
        · exact hc
      · split
        · rename_i hr
          simp only [Bool.and_eq_true] at hr
          have hT := add_tot h.inv.gq.len hr.2
          split
          · rename_i hfr
            exact ⟨by show _ ≤ (a.T.add f).tot; omega, by show (a.T.add f).tot ≤ _; omega, HI2.out, hu2 _, fun _ => hfr⟩
          · exact ⟨by show _ ≤ (a.T.add f).tot; omega, by show (a.T.add f).tot ≤ _; omega, HI2.out, hu1, h5⟩
        · exact ⟨h1, ht1, hi1, hu1, h5⟩
  exact ⟨HI.out, key.1, key.2.1, key.2.2.1, key.2.2.2.1, HL.out, key.2.2.2.2⟩
section
variable {q p N N' s d k : Nat} {E : Qe} {S : Nat → Prop} {w wx wy : World} {a a' : Qa}
end
end Go.Proofs.Yteopmaaghhendaa

/-
  Contract of the encoder's begin.
-/
namespace Go.Proofs.Yteopmaaghhendaa
open Go.RowKit Go.Maps
set_option linter.unusedVariables false

section
variable {q p N : Nat} {E : Qe} {S : Nat → Prop} {w w' : World}
end
end Go.Proofs.Yteopmaaghhendaa

/-
  Contract of the draft's section.
-/
namespace Go.Proofs.Yteopmaaghhendaa
open Go.RowKit Go.Maps
set_option linter.unusedVariables false

section
variable {q p s d : Nat} {oV pV lV : Value} {u : List Nat} {ln : List (Ql × Value)} {w w' : World}
end
end Go.Proofs.Yteopmaaghhendaa

/-
  The section is kept.
-/
namespace Go.Proofs.Yteopmaaghhendaa
open Go.RowKit Go.Maps
set_option linter.unusedVariables false

section
variable {q p N s d : Nat} {E : Qe} {S : Nat → Prop} {w wx : World} {a : Qa} {ins : List UInt8} {ln : List (Ql × Value)} {oV pV lV : Value} {e T : Nat → Prop}
end
end Go.Proofs.Yteopmaaghhendaa

/-
  A section: its start, its end.
-/
namespace Go.Proofs.Yteopmaaghhendaa
open Go.RowKit Go.Maps
set_option linter.unusedVariables false

/-- What is so of all lines at a section's end. -/
theorem Gd.ends {E : Qe} {s k : Nat} {a : Qa} (h : Gd E s k a) : (0 < a.c ↔ a.u ≠ []) ∧ ctN (uq a.u) = a.c ∧ a.c ≤ a.T.tot ∧ (∀ i ∈ uq a.u, i < a.c) ∧ ∀ y ∈ a.all, y.k = 1 → y.i < a.c := by
  have hlt : ∀ i ∈ a.u, i < a.c := fun i hi => (h.inv.use i hi).1
  refine ⟨⟨fun hc hu => ?_, fun hu => ?_⟩, ?_, h.inv.window.1, fun i hi => hlt i (mem_uq.1 hi), fun y hy hk => ?_⟩
  · rcases h.inv.cnt with h0 | ⟨i, hi, _⟩
    · omega
    · rw [hu] at hi; cases hi
  · cases hh : a.u with
    | nil => exact absurd hh hu
    | cons x l => have := hlt x (by rw [hh]; exact List.mem_cons_self ..); omega
  · rcases h.inv.cnt with h0 | ⟨i, hi, e⟩
    · have hu : a.u = [] := by
        cases hh : a.u with
        | nil => rfl
        | cons x l => have := hlt x (by rw [hh]; exact List.mem_cons_self ..); omega
      rw [hu, h0]; rfl
    · exact ctN_of hlt (by rw [e, Nat.add_sub_cancel]; exact hi)
  · rcases h.inv.ok y hy with h1 | h1 | h1 | h1
    · omega
    · exact h1.2.2.1
    · omega
    · omega
theorem Gd.zero {E : Qe} (hg : E.good) (s : Nat) (said : Bool) : Gd E s 0 ⟨E.T, capW said E.T.cap, [], [], 0⟩ := by
  refine ⟨⟨hg.gq, rfl, fun x hx => (by cases hx), fun x hx => (by cases hx), .inl rfl⟩, Nat.le_refl _, Nat.le_refl _, ?_, Nat.le_refl _, rfl, fun h => absurd h (Nat.not_lt_zero _)⟩
  show (capW said E.T.cap).length ≤ 11 + 0 * 45000
  unfold capW
  split
  · exact pre_len11 _ _ _
  · exact Nat.zero_le _
section
variable {q p N s d : Nat} {E : Qe} {S : Nat → Prop} {w w1 wx wy : World} {a : Qa}
end
end Go.Proofs.Yteopmaaghhendaa

/-
  Contract of Encode.
-/
namespace Go.Proofs.Yteopmaaghhendaa
open Go.RowKit Go.Maps
set_option linter.unusedVariables false

section
variable {q p N s d : Nat} {E : Qe} {S : Nat → Prop} {w w1 wx wy : World} {a : Qa}
end
end Go.Proofs.Yteopmaaghhendaa

/-
  Contracts of New, Table, Known; what a section keeps.
-/
namespace Go.Proofs.Yteopmaaghhendaa
open Go.RowKit Go.Maps
set_option linter.unusedVariables false

section
variable {q p N s d : Nat} {E : Qe} {S : Nat → Prop} {w w1 wx wy : World}
/-- In order behind a section. -/
theorem Qe.good.enc (h : E.good) (s : Nat) (hs : s < 18446744073709551616) (l : List Fd) (hl : E.op.length + 1 ≤ 100000) (hz : ∀ f ∈ l, fsz f ≤ 40000) : (E.enc s l).good ∧ (E.enc s l).T.cap = E.T.cap ∧ E.T.tot ≤ (E.enc s l).T.tot ∧ (E.enc s l).T.tot ≤ E.T.tot + l.length := by
  have hG : ∀ (m : List Fd) (a : Qa) (k : Nat), (∀ f ∈ m, fsz f ≤ 40000) → Gd E s k a → Gd E s (k + m.length) (qrun E.op E.K (freeQ E.op E.K E.B s) m a) := by
    intro m
    induction m with
    | nil => intro a k _ h; exact h
    | cons f m ih =>
      intro a k hm hg
      have := ih _ (k + 1) (fun g hg => hm g (List.mem_cons_of_mem _ hg)) (hg.step f (hm f (List.mem_cons_self ..)))
      rw [show k + (f :: m).length = k + 1 + m.length by simp only [List.length_cons]; omega]
      exact this
  have hg := hG l ⟨E.T, capW E.said E.T.cap, [], [], 0⟩ 0 hz (Gd.zero h s E.said)
  rw [Nat.zero_add] at hg
  have hacc : E.acc s l = qrun E.op E.K (freeQ E.op E.K E.B s) l ⟨E.T, capW E.said E.T.cap, [], [], 0⟩ := rfl
  rw [← hacc] at hg
  obtain ⟨g1, g2, g3, g4, g5⟩ := hg.ends
  have h1 := hg.lo
  have h2 := hg.hi
  have hk := h.kn
  refine ⟨⟨hg.inv.gq, fun x hx => ?_, Nat.le_trans hk h1, ?_⟩, hg.inv.cap, h1, h2⟩
  · show x.s < _ ∧ 0 < x.c ∧ (∀ i ∈ x.u, i < x.c) ∧ x.c - 1 ∈ x.u ∧ x.c ≤ (E.acc s l).T.tot
    have hx' : x ∈ (if 0 < (E.acc s l).c then E.op ++ [⟨s, (E.acc s l).c, (E.acc s l).u⟩] else E.op) := hx
    split at hx'
    · rename_i hc
      rcases List.mem_append.1 hx' with hx' | hx'
      · obtain ⟨a1, a2, a3, a4, a5⟩ := h.sec x hx'
        exact ⟨a1, a2, a3, a4, Nat.le_trans a5 h1⟩
      · rw [List.mem_singleton.1 hx']
        refine ⟨hs, hc, fun i hi => g4 i (mem_uq.2 hi), ?_, g3⟩
        rcases hg.inv.cnt with h0 | ⟨i, hi, e⟩
        · omega
        · show (E.acc s l).c - 1 ∈ _
          rw [e, Nat.add_sub_cancel]; exact hi
    · obtain ⟨a1, a2, a3, a4, a5⟩ := h.sec x hx'
      exact ⟨a1, a2, a3, a4, Nat.le_trans a5 h1⟩
  · show (if 0 < (E.acc s l).c then E.op ++ [⟨s, (E.acc s l).c, (E.acc s l).u⟩] else E.op).length ≤ 100000
    split
    · rw [List.length_append, List.length_singleton]; exact hl
    · exact h.len
end
end Go.Proofs.Yteopmaaghhendaa

/-
  Contract of New.
-/
namespace Go.Proofs.Yteopmaaghhendaa
open Go.RowKit Go.Maps
set_option linter.unusedVariables false

end Go.Proofs.Yteopmaaghhendaa

/-
  bifoldlaw9.known answers true.
-/
namespace Go.Proofs.Yteopmaaghhendaa
open Go.RowKit Go.Maps
set_option linter.unusedVariables false

theorem Qe.good.new (cap B : Nat) : (Qe.new cap B).good := ⟨⟨Nat.le_refl _, Nat.zero_le _⟩, fun x hx => (by cases hx), Nat.le_refl _, Nat.zero_le _⟩
end Go.Proofs.Yteopmaaghhendaa

/-
  How many streams are blocked, section by section, without a word of the other side.
-/
namespace Go.Proofs.Yteopmaaghhendaa
open Go.RowKit Go.Maps
set_option linter.unusedVariables false

theorem pre_zero8 : pre 0 8 0 = [0] := by decide +kernel
theorem first_pos8 (v : Nat) (h : 0 < v) : preFirst 0 8 v ≠ 0 := fun hh => by
  have h2 : hiOf 0 8 = 0 := by decide
  unfold preFirst at hh
  rw [h2, Nat.zero_add] at hh
  have := congrArg UInt8.toNat hh
  rw [UInt8.toNat_ofNat'] at this
  simp only [UInt8.toNat_zero] at this
  omega
theorem pre_pos8 (v : Nat) (h : 0 < v) : ∃ b r, pre 0 8 v = b :: r ∧ b ≠ 0 := by
  unfold pre
  split
  · exact ⟨_, _, rfl, first_pos8 v h⟩
  · exact ⟨_, _, rfl, first_pos8 v h⟩
theorem qpre_head (c : Nat) (rest : List UInt8) : ∃ b r, qpre c c 128 ++ rest = b :: r ∧ (b ≠ 0 ↔ 0 < c) := by
  unfold qpre
  by_cases hc : c = 0
  · subst hc
    have : ecN 0 128 = 0 := rfl
    rw [this, pre_zero8]
    exact ⟨0, _, rfl, by simp⟩
  · have h1 : 0 < ecN c 128 := by
      unfold ecN
      rw [if_neg (by omega)]
      omega
    obtain ⟨b, r, e, hb⟩ := pre_pos8 _ h1
    rw [e]
    exact ⟨b, _, rfl, by simp [hb]; omega⟩
end Go.Proofs.Yteopmaaghhendaa
