/-
  Texts put together: HdD, HdE, Piece, HdF1, HdF2, HdF3.
-/
import Derived.Test.YthnaapjefedalaaM22
import Derived.Test.YthnaapjefedalaaM14
import Derived.Test.YthnaapjefedalaaM23
import Derived.Test.YthnaapjefedalaaM16
import Derived.Test.YthnaapjefedalaaM01
import Derived.Deep.LoopGhost

/-
  Contract of the document's entry.
-/
namespace Go.Proofs.Ythnaapjefedalaa
open Go.RowKit Go.Maps
set_option linter.unusedVariables false

theorem below_put2 {B : Nat} {a w : World} {g : Nat} (h : Below B a w) (hg : B ≤ g) (hB : B ≤ w.heap.size) (x y : Value) : Below B a ((w.setCell ⟨g, 0, none⟩ x).setCell ⟨g, 1, none⟩ y) :=
  h.grown (grown_trans (grown_set w g 0 x) (grown_set _ g 1 y)) hB (fun k hk => by cases hk; exact hg)

set_option maxRecDepth 100000 in
set_option maxHeartbeats 1000000 in
theorem dentry_any {q t : Nat} {T : Tab} {mx : Nat} {mu bd : Bool} {w : World} {S : Nat → Prop} (h : Dc q t T mx mu bd w S) (i : Nat) (hi : i < 18446744073709551616) :
    Calls Try.prog 42 #[.pointer (some ⟨q, 0, none⟩), .int .u64 (i : Int)] w fun e w' => e = .returned (.tuple #[aggF (idxF T.l i), .bool (idxB T.l i)]) ∧ Below w.heap.size w w' := by
  obtain ⟨e0, he0⟩ : ∃ e0, idxF T.l i = e0 := ⟨_, rfl⟩
  obtain ⟨b0, hb0⟩ : ∃ b0, idxB T.l i = b0 := ⟨_, rfl⟩
  rw [he0, hb0]
  have HE0 := Bx.mk he0
  have HB0 := Bx.mk hb0
  have HI := Bx.mk hi
  have HD := Bx.mk h
  have HF := Bx.mk (Fb.new 58 w emp)
  have HB1 := Bx.mk ((Below.refl w.heap.size w).alloc (Nat.le_refl _) (.cells #[.string ⟨#[]⟩, .string ⟨#[]⟩] 58))
  clear h hi he0 hb0
  by_cases h0 : i = 0
  · subst h0
    obtain rfl : emp = e0 := by rw [← HE0.out]; unfold idxF; rw [if_pos (by omega)]; unfold entF; rw [dif_neg (by omega)]
    obtain rfl : false = b0 := by rw [← HB0.out]; unfold idxB; rw [if_pos (by omega)]; unfold isF; simp
    go_enter Try.func42, Try.ntmps42
    go_wp2_with fail
    exact bodyPost_ret (ret_field Try.results42 _ _ w.heap.size emp false rfl rfl (Fb.new _ w emp)) rfl ⟨rfl, (Below.refl _ _).alloc (Nat.le_refl _) _⟩
  · have hd0 : ((i : Int) == 0) = false := by simp; omega
    have hd0' : (i == 0) = false := by simp; omega
    obtain ⟨e1, e2⟩ := HF.out.cells
    obtain ⟨ef1, ef2⟩ := HF.out.free
    by_cases h1 : i ≤ 61
    · have hd1 : decide ((i : Int) ≤ 61) = true := decide_eq_true (by omega)
      have hw1 : IntKind.u64.wrap ((i : Int) - 1) = ((i - 1 : Nat) : Int) := by simp [IntKind.wrap, IntKind.signed, IntKind.bits]; omega
      obtain ⟨k, hk⟩ : ∃ k, i - 1 = k := ⟨_, rfl⟩
      rw [hk] at hw1
      have hlt : k < T2.length := by rw [t2_len]; omega
      obtain ⟨f1, hf1⟩ : ∃ f1, T2[k].1 = f1 := ⟨_, rfl⟩
      obtain ⟨f2, hf2⟩ : ∃ f2, T2[k].2 = f2 := ⟨_, rfl⟩
      obtain rfl : (f1, f2) = e0 := by
        rw [← HE0.out]; unfold idxF; rw [if_pos (by omega)]; unfold entF
        rw [dif_pos ⟨by omega, by rw [hk]; exact hlt⟩, ← hf1, ← hf2]
        simp only [hk]
      obtain rfl : true = b0 := by rw [← HB0.out]; unfold idxB; rw [if_pos (by omega)]; unfold isF; simp; rw [t2_len]; omega
      have HF1 := Bx.mk hf1
      have HF2 := Bx.mk hf2
      have HLT := Bx.mk hlt
      clear h0 h1 hk hf1 hf2
      go_enter Try.func42, Try.ntmps42
      go_wp2_with fail
      refine (h2s_any _).mono ?_
      rintro e w2 ⟨v, rfl, hv, hb⟩
      have hlen := fun ty W => hv.run_len ty W
      rw [t2_len] at hlen
      have HX := Bx.mk (HF.out.keep hb)
      have HB2 := Bx.mk (HB1.out.trans (hb.mono HB1.out.size))
      obtain ⟨b, o, hix, hcs⟩ := hv.at_ k HLT.out
      obtain ⟨q1, q2⟩ := hcs w2 hv
      rw [HF1.out] at q1
      rw [HF2.out] at q2
      clear hv hb hcs e1 e2 ef1 ef2
      obtain ⟨e1, e2⟩ := HX.out.cells
      obtain ⟨ef1, ef2⟩ := HX.out.free
      have HX3 := Bx.mk (HX.out.set2 f1 f2)
      go_wp2_with fail
      exact bodyPost_ret (ret_field Try.results42 _ _ w.heap.size (f1, f2) true rfl rfl HX3.out) rfl ⟨rfl, below_put2 HB2.out (Nat.le_refl _) HB2.out.size _ _⟩
    · have hd1 : decide ((i : Int) ≤ 61) = false := decide_eq_false (by omega)
      have hw1 : IntKind.u64.wrap ((i : Int) - 61) = ((i - 61 : Nat) : Int) := by have := HI.out; simp [IntKind.wrap, IntKind.signed, IntKind.bits]; omega
      obtain ⟨k, hk⟩ : ∃ k, i - 61 = k := ⟨_, rfl⟩
      rw [hk] at hw1
      have hw2 : IntKind.u64.wrap ((k : Int) - 1) = ((i - 62 : Nat) : Int) := by have := HI.out; simp [IntKind.wrap, IntKind.signed, IntKind.bits]; omega
      obtain ⟨m, hm⟩ : ∃ m, i - 62 = m := ⟨_, rfl⟩
      rw [hm] at hw2
      have HEN : Bx (entN T.l m = e0 ∧ isN T.l m = b0 ∧ m < 18446744073709551616) := ⟨by
        have := HI.out
        refine ⟨?_, ?_, by omega⟩
        · rw [← HE0.out]; unfold idxF; rw [if_neg (by omega), hm]
        · rw [← HB0.out]; unfold idxB; rw [if_neg (by omega), hm]⟩
      clear h0 h1 hk hm
      obtain ⟨f1, f2⟩ := e0
      have hag : aggF (f1, f2) = .agg #[.string f1, .string f2] := rfl
      go_enter Try.func42, Try.ntmps42
      go_wp2_with fail
      refine (h2s_any _).mono ?_
      rintro e w2 ⟨v, rfl, hv, hb⟩
      have hlen := fun ty W => hv.run_len ty W
      rw [t2_len] at hlen
      have HX := Bx.mk (HF.out.keep hb)
      have HB2 := Bx.mk (HB1.out.trans (hb.mono HB1.out.size))
      have HD2 := Bx.mk (HD.out.keep HB2.out)
      obtain ⟨c0, _⟩ := HD2.out.cells
      obtain ⟨S2, _, hdt, _⟩ := HD2.out
      have HDT := Bx.mk hdt
      clear hv hb hdt e1 e2 ef1 ef2
      have HNW := Bx.mk (fun W (hW : Below w2.heap.size w2 W) => refNewest_any (HDT.out.keep hW) m HEN.out.2.2)
      go_wp2_with fail
      refine (HNW.out _ (Below.refl _ _)).mono ?_
      rintro e w3 ⟨rfl, hb3⟩
      rw [HEN.out.1, HEN.out.2.1, hag]
      have HX3 := Bx.mk (HX.out.keep hb3)
      have HB3 := Bx.mk (HB2.out.trans (hb3.mono HB2.out.size))
      obtain ⟨e1, e2⟩ := HX3.out.cells
      obtain ⟨ef1, ef2⟩ := HX3.out.free
      have HX4 := Bx.mk (HX3.out.set2 f1 f2)
      clear hb3
      all_goals go_wp2_with fail
      all_goals exact bodyPost_ret (ret_field Try.results42 _ _ w.heap.size (f1, f2) b0 rfl rfl HX4.out) rfl ⟨rfl, below_put2 HB3.out (Nat.le_refl _) HB3.out.size _ _⟩

end Go.Proofs.Ythnaapjefedalaa

/-
  What holds of the document's decoder while it reads a block; the calls that a line makes.
-/
namespace Go.Proofs.Ythnaapjefedalaa
open Go.RowKit Go.Maps
set_option linter.unusedVariables false

/-- The memory: the decoder, the fields so far, what is left of the block. -/
structure Dr (q t mx : Nat) (mu : Bool) (S : Nat → Prop) (w : World) (T : Tab) (out : List Fd) (b : List UInt8) (bv ov : Value) (wx : World) : Prop where
  dc : ∃ S', Dc q t T mx mu false wx S' ∧ (∀ k, S' k → S k ∨ w.heap.size ≤ k) ∧ ∀ k, ov.ownBlock = some k → w.heap.size ≤ k ∧ ¬ S' k
  fp : Fp S w wx
  st : St wx ov out
  bs : ∀ W, Fp S w W → Bs W bv b
/-- What Decode comes to. -/
def DPost (q t mx : Nat) (mu : Bool) (T : Tab) (S : Nat → Prop) (w : World) (l : List UInt8) (e : Ending) (w' : World) : Prop :=
  (ldec mx mu T l = none ∧ e = .returned (.tuple #[.slice none 0 0, .int .i64 26]) ∧ ∃ T', Turn (Dc q t T' mx mu true) S w w') ∨
  ∃ s v, ldec mx mu T l = some s ∧ e = .returned (.tuple #[v, .int .i64 0]) ∧ Fs w' v s.out ∧ (∀ k, v.ownBlock = some k → w.heap.size ≤ k) ∧ Turn (Dc q t s.T mx false false) S w w'

section
variable {q t mx : Nat} {mu : Bool} {S : Nat → Prop} {w : World} {T : Tab} {out : List Fd} {b : List UInt8} {bv ov : Value} {wx wy : World}
theorem Dr.keep (h : Dr q t mx mu S w T out b bv ov wx) (hb : Below wx.heap.size wx wy) : Dr q t mx mu S w T out b bv ov wy := by
  obtain ⟨⟨S', h1, h2, h3⟩, h4, h5, h6⟩ := h
  exact ⟨⟨S', h1.keep hb, h2, h3⟩, h4.then (Fp.of_below hb), h5.keep hb, h6⟩
theorem Dr.bytes (h : Dr q t mx mu S w T out b bv ov wx) : Bs wx bv b := h.bs wx h.fp
theorem Dr.cells (h : Dr q t mx mu S w T out b bv ov wx) : wx.cell? ⟨q, 0, none⟩ = some (.pointer (some ⟨t, 0, none⟩)) ∧ wx.cell? ⟨q, 1, none⟩ = some (.int .i64 (mx : Int)) ∧ wx.cell? ⟨q, 2, none⟩ = some (.bool mu) ∧ wx.cell? ⟨q, 3, none⟩ = some (.bool false) := by
  obtain ⟨⟨S', h1, _⟩, _⟩ := h
  exact h1.cells
theorem Dr.free (h : Dr q t mx mu S w T out b bv ov wx) (i : Nat) : wx.frozen? ⟨q, i, none⟩ = false := by
  obtain ⟨⟨S', h1, _⟩, _⟩ := h
  exact h1.free i
theorem Dr.ok (h : Dr q t mx mu S w T out b bv ov wx) : T.ok := by
  obtain ⟨⟨S', h1, _⟩, _⟩ := h
  exact h1.ok
theorem Dr.rest (h : Dr q t mx mu S w T out b bv ov wx) {b' : List UInt8} {bv' : Value} (hb : ∀ W, Bs W bv b → Bs W bv' b') : Dr q t mx mu S w T out b' bv' ov wx :=
  ⟨h.dc, h.fp, h.st, fun W hW => hb W (h.bs W hW)⟩
theorem Dr.bad {T0 : Tab} {l : List UInt8} (h : Dr q t mx mu S w T out b bv ov wx) (hn : ldec mx mu T0 l = none) :
    Calls Try.prog 40 #[.pointer (some ⟨q, 0, none⟩)] wx fun e w' => e = .returned (.tuple #[.slice none 0 0, .int .i64 26]) ∧ DPost q t mx mu T0 S w l (.returned (.tuple #[.slice none 0 0, .int .i64 26])) w' := by
  obtain ⟨⟨S', h1, h2, h3⟩, h4, h5, h6⟩ := h
  refine (bad_any h1).mono ?_
  rintro e w2 ⟨rfl, ht⟩
  exact ⟨rfl, .inl ⟨hn, rfl, T, Turn.step h2 h4 ht⟩⟩
theorem Dc.tab1 {bd : Bool} {S S1 : Nat → Prop} {w w' : World} {T T' : Tab} (k1 : w.rowIs q 51 4 (dF t mx mu bd)) (k2 : Rt t T w S1) (k3 : ¬ S1 q) (k4 : ∀ k, S k ↔ S1 k ∨ k = q) (k5 : q < w.heap.size) (ht : Turn (Rt t T') S1 w w') :
    Turn (Dc q t T' mx mu bd) S w w' := by
  obtain ⟨S2, r2, s2, f2⟩ := ht
  have hsz := f2.size
  refine ⟨fun k => S2 k ∨ k = q, ⟨S2, k1.of_block (f2.block q k5 k3), r2, fun hq => ?_, fun k => Iff.rfl, by omega⟩, fun k hk => ?_, f2.mono fun k hk => (k4 k).2 (.inl hk)⟩
  · rcases s2 q hq with h | h
    · exact k3 h
    · omega
  · rcases hk with hk | rfl
    · rcases s2 k hk with h | h
      · exact .inl ((k4 k).2 (.inl h))
      · exact .inr h
    · exact .inl ((k4 k).2 (.inr rfl))
theorem Dr.of_turn {S' : Nat → Prop} {T' : Tab} (h2 : ∀ k, S' k → S k ∨ w.heap.size ≤ k) (h3 : ∀ k, ov.ownBlock = some k → w.heap.size ≤ k ∧ ¬ S' k) (h4 : Fp S w wx) (h5 : St wx ov out) (h6 : ∀ W, Fp S w W → Bs W bv b) (ht : Turn (Dc q t T' mx mu false) S' wx wy) :
    Dr q t mx mu S w T' out b bv ov wy := by
  obtain ⟨S2, x2, s2, f2⟩ := ht
  refine ⟨⟨S2, x2, fun k hk => ?_, fun k hk => ⟨(h3 k hk).1, fun hs => ?_⟩⟩, h4.trans f2 h2, h5.kept fun k hk => f2.block k (h5.lt hk) (h3 k hk).2, h6⟩
  · rcases s2 k hk with h | h
    · exact h2 k h
    · exact .inr (Nat.le_trans h4.size h)
  · rcases s2 k hs with h | h
    · exact (h3 k hk).2 h
    · have := h5.lt hk; omega
theorem Dr.resize (h : Dr q t mx mu S w T out b bv ov wx) (n : Nat) (hn : n ≤ 4096) :
    Calls Try.prog 41 #[.pointer (some ⟨t, 0, none⟩), .int .i64 (n : Int)] wx fun e w' => (∃ g : Nat, e = .returned (.int .i64 (g : Int))) ∧ Dr q t mx mu S w (T.resize (n : Int)) out b bv ov w' := by
  obtain ⟨⟨S', h1, h2, h3⟩, h4, h5, h6⟩ := h
  obtain ⟨S1, k1, k2, k3, k4, k5⟩ := h1
  refine (refResize_any k2 (n : Int) (by omega)).mono ?_
  rintro e w2 ⟨rfl, ht⟩
  exact ⟨⟨_, rfl⟩, Dr.of_turn h2 h3 h4 h5 h6 (Dc.tab1 k1 k2 k3 k4 k5 ht)⟩
theorem Dr.add (h : Dr q t mx mu S w T out b bv ov wx) (f1 f2 : ByteArray) (hf : fsz (f1, f2) ≤ 8192) (ht : T.tot + 1 ≤ 1000000) :
    Calls Try.prog 38 #[.pointer (some ⟨t, 0, none⟩), .agg #[.string f1, .string f2]] wx fun e w' => (∃ g : Nat, e = .returned (.int .i64 (g : Int))) ∧ Dr q t mx mu S w (T.add (f1, f2)) out b bv ov w' := by
  obtain ⟨⟨S', h1, h2, h3⟩, h4, h5, h6⟩ := h
  obtain ⟨S1, k1, k2, k3, k4, k5⟩ := h1
  refine (refAdd_any k2 (f1, f2) (by omega) ht).mono ?_
  rintro e w2 ⟨rfl, ht⟩
  exact ⟨⟨_, rfl⟩, Dr.of_turn h2 h3 h4 h5 h6 (Dc.tab1 k1 k2 k3 k4 k5 ht)⟩
theorem Dr.entry (h : Dr q t mx mu S w T out b bv ov wx) (i : Nat) (hi : i ≤ maxVar) :
    Calls Try.prog 42 #[.pointer (some ⟨q, 0, none⟩), .int .u64 (i : Int)] wx fun e w' => e = .returned (.tuple #[aggF (idxF T.l i), .bool (idxB T.l i)]) ∧ Below wx.heap.size wx w' := by
  obtain ⟨⟨S', h1, h2, h3⟩, h4, h5, h6⟩ := h
  exact dentry_any h1 i (by unfold maxVar at hi; omega)
/-- One field more. -/
theorem Dr.push (h : Dr q t mx mu S w T out b bv ov wx) {u : Value} {f : Fd} (hu : Fs wx u [f]) (hl : out.length ≤ 64) (ty : TypeId) :
    ∃ A n c w', (Builtin.append_ #[31, 31] ty #[ov, u]).run Try.prog wx = .ok (.slice A n c) w' ∧ Dr q t mx mu S w T (out ++ [f]) b bv (.slice A n c) w' ∧ ∀ g, w.heap.size ≤ g → ov.ownBlock ≠ some g → g < wx.heap.size → w'.heap[g]? = wx.heap[g]? := by
  obtain ⟨⟨S', h1, h2, h3⟩, h4, h5, h6⟩ := h
  obtain ⟨v', w', hrun, r1, r2, r3, _⟩ := h5.append hu (by omega) ty
  obtain ⟨A, n, c, rfl⟩ : ∃ A n c, v' = .slice A n c := by
    rcases r1 with ⟨rfl, _⟩ | ⟨g, o, cap, m, F, rfl, _⟩
    · exact ⟨_, _, _, rfl⟩
    · exact ⟨_, _, _, rfl⟩
  have hn : ∀ k, S' k → some k ≠ ov.ownBlock := fun k hk e => (h3 k e.symm).2 hk
  refine ⟨A, n, c, w', hrun, ⟨⟨S', h1.kept r2.size fun k hk => r2.block k (h1.lt k hk) (hn k hk), h2, fun k hk => ?_⟩, ?_, r1, h6⟩, fun g hg hne hlt => r2.block g hlt fun e => hne e.symm⟩
  · rcases r3 with e | ⟨g, e, hg⟩
    · exact h3 k (e ▸ hk)
    · rw [e] at hk
      injection hk with hk
      subst hk
      exact ⟨Nat.le_trans h4.size hg, fun hs => by have := h1.lt _ hs; omega⟩
  · refine ⟨r2.os.trans h4.os, r2.tape.trans h4.tape, r2.output.trans h4.output, Nat.le_trans h4.size r2.size, fun k hk hs => ?_⟩
    rw [r2.block k (Nat.lt_of_lt_of_le hk h4.size) fun e => by have := (h3 k e.symm).1; omega]
    exact h4.block k hk hs

/-- The same, beside a block G of the call's own that holds the field f. -/
def Dg (q t mx : Nat) (mu : Bool) (S : Nat → Prop) (w : World) (T : Tab) (out : List Fd) (b : List UInt8) (bv ov : Value) (G : Nat) (f : Fd) (wx : World) : Prop :=
  ∃ S', Dc q t T mx mu false wx S' ∧ (∀ k, S' k → S k ∨ w.heap.size ≤ k) ∧ (∀ k, ov.ownBlock = some k → w.heap.size ≤ k ∧ ¬ S' k) ∧ ¬ S' G ∧ ov.ownBlock ≠ some G ∧ w.heap.size ≤ G ∧ Fb 58 wx G f ∧ Fp S w wx ∧ St wx ov out ∧ ∀ W, Fp S w W → Bs W bv b
variable {G : Nat} {f : Fd}
theorem Dg.of (h : Dr q t mx mu S w T out b bv ov wx) : Dg q t mx mu S w T out b bv ov wx.heap.size emp (wx.alloc (.cells #[.string ⟨#[]⟩, .string ⟨#[]⟩] 58)) := by
  have hb := (Below.refl wx.heap.size wx).alloc (Nat.le_refl _) (.cells #[.string ⟨#[]⟩, .string ⟨#[]⟩] 58)
  obtain ⟨⟨S', h1, h2, h3⟩, h4, h5, h6⟩ := h
  exact ⟨S', h1.keep hb, h2, h3, fun hs => Nat.lt_irrefl _ (h1.lt _ hs), fun e => Nat.lt_irrefl _ (h5.lt e), h4.size, Fb.new _ wx emp, h4.then (Fp.of_below hb), h5.keep hb, h6⟩
theorem Dg.dr (h : Dg q t mx mu S w T out b bv ov G f wx) : Dr q t mx mu S w T out b bv ov wx := by
  obtain ⟨S', h1, h2, h3, _, _, _, _, h4, h5, h6⟩ := h
  exact ⟨⟨S', h1, h2, h3⟩, h4, h5, h6⟩
theorem Dg.fb (h : Dg q t mx mu S w T out b bv ov G f wx) : Fb 58 wx G f := by
  obtain ⟨S', _, _, _, _, _, _, h, _⟩ := h
  exact h
theorem Dg.keep (h : Dg q t mx mu S w T out b bv ov G f wx) (hb : Below wx.heap.size wx wy) : Dg q t mx mu S w T out b bv ov G f wy := by
  obtain ⟨S', h1, h2, h3, h7, h8, h9, h10, h4, h5, h6⟩ := h
  exact ⟨S', h1.keep hb, h2, h3, h7, h8, h9, h10.keep hb, h4.then (Fp.of_below hb), h5.keep hb, h6⟩
theorem Dg.rest (h : Dg q t mx mu S w T out b bv ov G f wx) {b' : List UInt8} {bv' : Value} (hb : ∀ W, Bs W bv b → Bs W bv' b') : Dg q t mx mu S w T out b' bv' ov G f wx := by
  obtain ⟨S', h1, h2, h3, h7, h8, h9, h10, h4, h5, h6⟩ := h
  exact ⟨S', h1, h2, h3, h7, h8, h9, h10, h4, h5, fun W hW => hb W (h6 W hW)⟩
theorem Dg.put (h : Dg q t mx mu S w T out b bv ov G f wx) (i : Nat) (a : ByteArray) {f' : Fd} (hf : Fb 58 (wx.setCell ⟨G, i, none⟩ (.string a)) G f') : Dg q t mx mu S w T out b bv ov G f' (wx.setCell ⟨G, i, none⟩ (.string a)) := by
  obtain ⟨S', h1, h2, h3, h7, h8, h9, h10, h4, h5, h6⟩ := h
  have hg := grown_set wx G i (.string a)
  refine ⟨S', h1.kept hg.size fun k hk => hg.block k (h1.lt k hk) (fun e => h7 (Option.some.inj e ▸ hk)), h2, h3, h7, h8, h9, hf, ?_, h5.grown hg (fun k hk e => h8 (by rw [hk, e])), h6⟩
  refine ⟨hg.os.trans h4.os, hg.tape.trans h4.tape, hg.output.trans h4.output, Nat.le_trans h4.size hg.size, fun k hk hs => ?_⟩
  rw [hg.block k (Nat.lt_of_lt_of_le hk h4.size) fun e => by injection e with e; omega]
  exact h4.block k hk hs
theorem Fb.put0 {ty : TypeId} {w : World} {g : Nat} {f : Fd} (h : Fb ty w g f) (a : ByteArray) : Fb ty (w.setCell ⟨g, 0, none⟩ (.string a)) g (a, f.2) := by
  unfold Fb at *
  simp [World.setCell, Array.getElem?_modify, h]
theorem Fb.put1 {ty : TypeId} {w : World} {g : Nat} {f : Fd} (h : Fb ty w g f) (a : ByteArray) : Fb ty (w.setCell ⟨g, 1, none⟩ (.string a)) g (f.1, a) := by
  unfold Fb at *
  simp [World.setCell, Array.getElem?_modify, h]
theorem Dg.put0 (h : Dg q t mx mu S w T out b bv ov G f wx) (a : ByteArray) : Dg q t mx mu S w T out b bv ov G (a, f.2) (wx.setCell ⟨G, 0, none⟩ (.string a)) := h.put 0 a (h.fb.put0 a)
theorem Dg.put1 (h : Dg q t mx mu S w T out b bv ov G f wx) (a : ByteArray) : Dg q t mx mu S w T out b bv ov G (f.1, a) (wx.setCell ⟨G, 1, none⟩ (.string a)) := h.put 1 a (h.fb.put1 a)
theorem Dg.push (h : Dg q t mx mu S w T out b bv ov G f wx) {u : Value} {x : Fd} (hu : Fs wx u [x]) (hl : out.length ≤ 64) (ty : TypeId) :
    ∃ A n c w', (Builtin.append_ #[31, 31] ty #[ov, u]).run Try.prog wx = .ok (.slice A n c) w' ∧ Dg q t mx mu S w T (out ++ [x]) b bv (.slice A n c) G f w' := by
  obtain ⟨S', h1, h2, h3, h7, h8, h9, h10, h4, h5, h6⟩ := h
  obtain ⟨v', w', hrun, r1, r2, r3, _⟩ := h5.append hu (by omega) ty
  obtain ⟨A, n, c, rfl⟩ : ∃ A n c, v' = .slice A n c := by
    rcases r1 with ⟨rfl, _⟩ | ⟨g, o, cap, m, F, rfl, _⟩
    · exact ⟨_, _, _, rfl⟩
    · exact ⟨_, _, _, rfl⟩
  have hn : ∀ k, S' k → some k ≠ ov.ownBlock := fun k hk e => (h3 k e.symm).2 hk
  refine ⟨A, n, c, w', hrun, S', h1.kept r2.size fun k hk => r2.block k (h1.lt k hk) (hn k hk), h2, fun k hk => ?_, h7, fun e => ?_, h9, h10.grown r2 (fun e => h8 e.symm), ?_, r1, h6⟩
  · rcases r3 with e | ⟨g, e, hg⟩
    · exact h3 k (e ▸ hk)
    · rw [e] at hk
      injection hk with hk
      subst hk
      exact ⟨Nat.le_trans h4.size hg, fun hs => by have := h1.lt _ hs; omega⟩
  · rcases r3 with e' | ⟨g, e', hg⟩
    · exact h8 (e' ▸ e)
    · rw [e'] at e
      injection e with e
      have := h10.lt
      omega
  · refine ⟨r2.os.trans h4.os, r2.tape.trans h4.tape, r2.output.trans h4.output, Nat.le_trans h4.size r2.size, fun k hk hs => ?_⟩
    rw [r2.block k (Nat.lt_of_lt_of_le hk h4.size) fun e => by have := (h3 k e.symm).1; omega]
    exact h4.block k hk hs

end

end Go.Proofs.Ythnaapjefedalaa

/-
  A great function, walked in pieces: the code from a region on, the two ways of an if, a loop's body; a frame out of its slots. No program is named here.
-/
namespace Go.Proofs.Ythnaapjefedalaa
open Go.RowKit
set_option linter.unusedVariables false

/-- The code that stands from region n on. -/
def fromR (n : Nat) : Code → Option Code
  | .region m ops d => if m = n then some (.region m ops d) else none
  | .seq (.region m ops d) y => if m = n then some (.seq (.region m ops d) y) else fromR n y
  | .seq x y => match fromR n x with
    | some c => some c
    | none => fromR n y
  | .block _ c => fromR n c
  | .loop c => fromR n c
  | .scope c => fromR n c
  | .cond _ x y => match fromR n x with
    | some c => some c
    | none => fromR n y
  | _ => none
def firstR : Code → Option Nat
  | .region m _ _ => some m
  | .seq x _ => firstR x
  | .block _ c => firstR c
  | .loop c => firstR c
  | .scope c => firstR c
  | _ => none
/-- The code that stands from the statement on that begins with region n. -/
def fromS (n : Nat) : Code → Option Code
  | .seq x y => if firstR x = some n then some (.seq x y) else match fromS n x with
    | some c => some c
    | none => fromS n y
  | .block _ c => fromS n c
  | .loop c => fromS n c
  | .scope c => fromS n c
  | .cond _ x y => match fromS n x with
    | some c => some c
    | none => fromS n y
  | _ => none
/-- The if that asks slot n. -/
def condAt (n : Nat) : Code → Option Code
  | .cond (.tmp m) x y => if m = n then some (.cond (.tmp m) x y) else match condAt n x with
    | some c => some c
    | none => condAt n y
  | .cond _ x y => match condAt n x with
    | some c => some c
    | none => condAt n y
  | .seq x y => match condAt n x with
    | some c => some c
    | none => condAt n y
  | .block _ c => condAt n c
  | .loop c => condAt n c
  | .scope c => condAt n c
  | _ => none
/-- The body of loop n, counted from 0 in the text's order, inner ones behind their outer one. -/
def loopAt : Nat → Code → Option Code × Nat
  | n, .loop c => if n = 0 then (some c, 0) else loopAt (n - 1) c
  | n, .seq x y => match loopAt n x with
    | (some c, m) => (some c, m)
    | (none, m) => loopAt m y
  | n, .block _ c => loopAt n c
  | n, .scope c => loopAt n c
  | n, .cond _ x y => match loopAt n x with
    | (some c, m) => (some c, m)
    | (none, m) => loopAt m y
  | n, _ => (none, n)

theorem list_eta (n : Nat) (l : List Value) (h : l.length = n) : l = (List.range n).map fun i => l.getD i undef := by
  subst h
  apply List.ext_getElem
  · simp
  · intro i h1 h2
    simp [List.getElem?_eq_getElem h1]
theorem frame_eta (n : Nat) (a : Act) (hs : a.tmps.size = n) (hd : a.defers = []) : a = ⟨((List.range n).map fun i => a.tmps.getD i undef).toArray, []⟩ := by
  obtain ⟨⟨l⟩, d⟩ := a
  simp only at hd
  subst hd
  have := list_eta n l (by simpa using hs)
  congr 1
  conv => lhs; rw [this]
  congr 1
  apply List.map_congr_left
  intro i _
  simp [Array.getD, List.getD_eq_getElem?_getD]
  split
  · rename_i h; simp [List.getElem?_eq_getElem h]
  · rename_i h; simp [List.getElem?_eq_none (Nat.le_of_not_lt h)]

/-- What a piece comes to: at its end, at a return, at an exit; it never panics. -/
def Kx (N R : Act → World → Prop) (E : Nat → Act → World → Prop) : Exit → Act → World → Prop
  | .normal, a, w => N a w
  | .ret, a, w => R a w
  | .exit i, a, w => E i a w
  | _, _, _ => False
section
variable {N R : Act → World → Prop} {E : Nat → Act → World → Prop} {a : Act} {w : World}
theorem Kx.norm (h : N a w) : Kx N R E .normal a w := h
theorem Kx.ret (h : R a w) : Kx N R E .ret a w := h
theorem Kx.exit {i : Nat} (h : E i a w) : Kx N R E (.exit i) a w := h
end
theorem Kx.use {P : Program} {c : Code} {a : Act} {w : World} {N R : Act → World → Prop} {E : Nat → Act → World → Prop} {K : Exit → Act → World → Prop} (h : c.wp P (Kx N R E) a w)
    (hn : ∀ a' w', N a' w' → K .normal a' w') (hr : ∀ a' w', R a' w' → K .ret a' w') (he : ∀ i a' w', E i a' w' → K (.exit i) a' w') : c.wp P K a w := by
  refine wp_mono h ?_
  intro e a' w' hk
  cases e with
  | normal => exact hn a' w' hk
  | ret => exact hr a' w' hk
  | exit i => exact he i a' w' hk
  | goto l => exact hk.elim
  | panic ch => exact hk.elim
  | outgrown => exact hk.elim

end Go.Proofs.Ythnaapjefedalaa

/-
  The document's Decode, in pieces: its code, its frame; what holds between two lines.
-/
namespace Go.Proofs.Ythnaapjefedalaa
open Go.RowKit Go.Maps
set_option linter.unusedVariables false

noncomputable def dcode : Code := (Try.f19).body.getD .skip
noncomputable def dfrom (n : Nat) : Code := (fromR n dcode).getD .skip
noncomputable def dstmt (n : Nat) : Code := (fromS n dcode).getD .skip
noncomputable def dcond (n : Nat) : Code := (condAt n dcode).getD .skip
noncomputable def dloop : Code := ((loopAt 0 dcode).1).getD .skip

set_option maxRecDepth 1000000 in
theorem dframe (a : Act) (hs : a.tmps.size = 232) (hd : a.defers = []) : ∃ u : Nat → Value, (∀ i, a.tmps.getD i undef = u i) ∧ a = ⟨#[u 0, u 1, u 2, u 3, u 4, u 5, u 6, u 7, u 8, u 9, u 10, u 11, u 12, u 13, u 14, u 15, u 16, u 17, u 18, u 19, u 20, u 21, u 22, u 23, u 24, u 25, u 26, u 27, u 28, u 29, u 30, u 31, u 32, u 33, u 34, u 35, u 36, u 37, u 38, u 39, u 40, u 41, u 42, u 43, u 44, u 45, u 46, u 47, u 48, u 49, u 50, u 51, u 52, u 53, u 54, u 55, u 56, u 57, u 58, u 59, u 60, u 61, u 62, u 63, u 64, u 65, u 66, u 67, u 68, u 69, u 70, u 71, u 72, u 73, u 74, u 75, u 76, u 77, u 78, u 79, u 80, u 81, u 82, u 83, u 84, u 85, u 86, u 87, u 88, u 89, u 90, u 91, u 92, u 93, u 94, u 95, u 96, u 97, u 98, u 99, u 100, u 101, u 102, u 103, u 104, u 105, u 106, u 107, u 108, u 109, u 110, u 111, u 112, u 113, u 114, u 115, u 116, u 117, u 118, u 119, u 120, u 121, u 122, u 123, u 124, u 125, u 126, u 127, u 128, u 129, u 130, u 131, u 132, u 133, u 134, u 135, u 136, u 137, u 138, u 139, u 140, u 141, u 142, u 143, u 144, u 145, u 146, u 147, u 148, u 149, u 150, u 151, u 152, u 153, u 154, u 155, u 156, u 157, u 158, u 159, u 160, u 161, u 162, u 163, u 164, u 165, u 166, u 167, u 168, u 169, u 170, u 171, u 172, u 173, u 174, u 175, u 176, u 177, u 178, u 179, u 180, u 181, u 182, u 183, u 184, u 185, u 186, u 187, u 188, u 189, u 190, u 191, u 192, u 193, u 194, u 195, u 196, u 197, u 198, u 199, u 200, u 201, u 202, u 203, u 204, u 205, u 206, u 207, u 208, u 209, u 210, u 211, u 212, u 213, u 214, u 215, u 216, u 217, u 218, u 219, u 220, u 221, u 222, u 223, u 224, u 225, u 226, u 227, u 228, u 229, u 230, u 231], []⟩ :=
  ⟨fun i => a.tmps.getD i undef, fun _ => rfl, frame_eta 232 a hs hd⟩

/-- The slots that are read on: the decoder, the block, the fields, how many sizes. -/
structure At15 (a : Act) (q : Nat) (bw ow : Value) (ns : Nat) : Prop where
  d : a.defers = []
  s : a.tmps.size = 232
  t0 : a.tmps.getD 0 undef = .pointer (some ⟨q, 0, none⟩)
  t1 : a.tmps.getD 1 undef = bw
  t6 : a.tmps.getD 6 undef = ow
  t7 : a.tmps.getD 7 undef = .int .i64 (ns : Int)
theorem mask_facts : ∀ c, c < 256 → (c &&& 224 = 32 ↔ c / 32 = 1) ∧ (c &&& 128 = 0 ↔ c < 128) ∧ (c < 128 → (c &&& 64 = 0 ↔ c < 64)) := by decide +kernel
theorem and_128 : ∀ c, c < 256 → 128 ≤ c → c &&& 128 = 128 := by decide +kernel
theorem and_64 : ∀ c, c < 128 → 64 ≤ c → c &&& 64 = 64 := by decide +kernel
theorem and_128' : ∀ c, c < 128 → c &&& 128 = 0 := by decide +kernel
theorem and_64' : ∀ c, c < 64 → c &&& 64 = 0 := by decide +kernel
theorem idx_zero (L : List Fd) : idxF L 0 = emp := by unfold idxF; rw [if_pos (by omega)]; unfold entF; rw [dif_neg (by omega)]
theorem idxB_zero (L : List Fd) : idxB L 0 = false := by unfold idxB; rw [if_pos (by omega)]; unfold isF; simp
theorem u8_mask (c m : Nat) (hc : c < 256) (hm : m < 256) : bits .and .u8 (c : Int) (m : Int) = ((c &&& m : Nat) : Int) := u8_and_nat _ _ (by omega) (by omega)

section
variable {mx : Nat} {mu : Bool} {T0 T1 : Tab} {ss : List Nat} {ad out : List Fd} {b l : List UInt8}
theorem ldec_end (h : lrun mx mu ⟨T1, ss, ad, out, []⟩ = lrun mx mu ⟨T0, [], [], [], l⟩) : ldec mx mu T0 l = if mu = true ∧ ss = [] then none else some ⟨T1, ss, ad, out, []⟩ := by
  unfold ldec
  rw [← h, lrun_nil rfl]
theorem ldec_bad (h : lrun mx mu ⟨T1, ss, ad, out, b⟩ = lrun mx mu ⟨T0, [], [], [], l⟩) (hb : b ≠ []) (hn : lstep mx mu ⟨T1, ss, ad, out, b⟩ = none) : ldec mx mu T0 l = none := by
  unfold ldec
  rw [← h, lrun_bad hb hn]
theorem lit_step {s : Ls} {cn kb : Nat} (hh : headN s.b = cn) (hc : ¬ 128 ≤ cn) (hk : (if 64 ≤ cn then 6 else 4) = kb) : fdStep s = match litP kb s.T.l s.b with
    | none => none
    | some (f, r') => if 64 ≤ cn then some ⟨s.T.add f, s.ss, s.ad ++ [f], s.out ++ [f], r'⟩ else some ⟨s.T, s.ss, s.ad, s.out ++ [f], r'⟩ := by
  unfold fdStep
  rw [hh, if_neg hc]
  by_cases h : 64 ≤ cn
  · rw [if_pos h] at hk ⊢
    subst hk
    unfold adStep
    cases litP 6 s.T.l s.b <;> simp [h]
  · rw [if_neg h] at hk ⊢
    subst hk
    unfold plStep
    cases litP 4 s.T.l s.b <;> simp [h]
theorem next_of (hmx : mx ≤ 4096) {s s' : Ls} {R : Option Ls} (hi : s.inv mx T0) (hr : lrun mx mu s = R) (hb : s.b ≠ []) (hs : lstep mx mu s = some s') : s'.inv mx T0 ∧ s'.b.length < s.b.length ∧ lrun mx mu s' = R := by
  obtain ⟨h1, h2⟩ := inv_step hmx hi hs
  exact ⟨h1, h2, by rw [← hr, lrun_next hb hs h2]⟩
end

section
variable {q t mx : Nat} {mu : Bool} {T0 : Tab} {S : Nat → Prop} {w : World} {l : List UInt8}
/-- Between two lines. -/
structure Rel (q t mx : Nat) (mu : Bool) (T0 : Tab) (S : Nat → Prop) (w : World) (l : List UInt8) (T1 : Tab) (ss : List Nat) (ad out : List Fd) (b : List UInt8) (bw ow : Value) (wx : World) : Prop where
  dr : Dr q t mx mu S w T1 out b bw ow wx
  inv : Ls.inv mx T0 ⟨T1, ss, ad, out, b⟩
  run : lrun mx mu ⟨T1, ss, ad, out, b⟩ = lrun mx mu ⟨T0, [], [], [], l⟩
  len : b.length ≤ 100000
  mx4 : mx ≤ 4096
  tot : T0.tot + 64 ≤ 1000000
/-- A return with the error. -/
def Fails (q t mx : Nat) (mu : Bool) (T0 : Tab) (S : Nat → Prop) (w : World) (l : List UInt8) (a : Act) (w' : World) : Prop :=
  a.defers = [] ∧ a.tmps.getD 4 undef = .slice none 0 0 ∧ a.tmps.getD 5 undef = .int .i64 26 ∧ DPost q t mx mu T0 S w l (.returned (.tuple #[.slice none 0 0, .int .i64 26])) w'
/-- The next line, shorter than n. -/
def Goes (q t mx : Nat) (mu : Bool) (T0 : Tab) (S : Nat → Prop) (w : World) (l : List UInt8) (n : Nat) (a : Act) (w' : World) : Prop :=
  ∃ T1 ss ad out b bw ow, At15 a q bw ow ss.length ∧ Rel q t mx mu T0 S w l T1 ss ad out b bw ow w' ∧ b.length < n
theorem Rel.next {T1 T2 : Tab} {ss ss2 : List Nat} {ad ad2 out out2 : List Fd} {b b2 : List UInt8} {bw ow bw2 ow2 : Value} {wx wy : World} (h : Rel q t mx mu T0 S w l T1 ss ad out b bw ow wx) (hb : b ≠ [])
    (hs : lstep mx mu ⟨T1, ss, ad, out, b⟩ = some ⟨T2, ss2, ad2, out2, b2⟩) (hd : Dr q t mx mu S w T2 out2 b2 bw2 ow2 wy) : Rel q t mx mu T0 S w l T2 ss2 ad2 out2 b2 bw2 ow2 wy ∧ b2.length < b.length := by
  obtain ⟨h1, h2, h3⟩ := next_of h.mx4 h.inv h.run hb hs
  simp only at h2
  exact ⟨⟨hd, h1, h3, by have := h.len; omega, h.mx4, h.tot⟩, h2⟩
theorem Rel.none_ {T1 : Tab} {ss : List Nat} {ad out : List Fd} {b : List UInt8} {bw ow : Value} {wx : World} (h : Rel q t mx mu T0 S w l T1 ss ad out b bw ow wx) (hb : b ≠ [])
    (hs : lstep mx mu ⟨T1, ss, ad, out, b⟩ = none) : ldec mx mu T0 l = none := ldec_bad h.run hb hs
end

end Go.Proofs.Ythnaapjefedalaa

/-
  The document's Decode: a size update.
-/
namespace Go.Proofs.Ythnaapjefedalaa
open Go.RowKit Go.Maps
set_option linter.unusedVariables false

section
variable {q t mx : Nat} {mu : Bool} {T0 T1 : Tab} {S : Nat → Prop} {w wx : World} {l : List UInt8} {ss : List Nat} {ad out : List Fd} {c : UInt8} {r : List UInt8} {bw ow : Value}

set_option maxRecDepth 100000 in
set_option maxHeartbeats 40000000 in
/-- A size update. -/
theorem up_any (a : Act) (hA : At15 a q bw ow ss.length) (hR : Rel q t mx mu T0 S w l T1 ss ad out (c :: r) bw ow wx) (hup : c.toNat / 32 = 1) :
    Code.wp Try.prog (dfrom 8) (Kx (fun _ _ => False) (Fails q t mx mu T0 S w l) (fun i a' w' => i = 1 ∧ Goes q t mx mu T0 S w l (c :: r).length a' w')) a wx := by
  obtain ⟨d0, d1, d2, d3⟩ := hR.dr.cells
  have hleno := fun ty W => hR.dr.st.fs.run_len ty W
  obtain ⟨no, hno⟩ : ∃ no, out.length = no := ⟨_, rfl⟩
  rw [hno] at hleno
  have HNO := Bx.mk hno
  obtain ⟨ns, hns⟩ : ∃ ns, ss.length = ns := ⟨_, rfl⟩
  rw [hns] at hA
  have HNS := Bx.mk hns
  have hno64 : no ≤ 64 := by have := hR.inv.outs; simp only at this; omega
  have hns2 : ns ≤ 2 := by have := hR.inv.two; simp only at this; omega
  have HR := Bx.mk hR
  have hcall := refReadPrefix_any bw (c :: r) 5 wx hR.dr.bytes (by have := hR.len; omega)
  rw [show bitsOf 5 = 5 from rfl] at hcall
  have hmx := hR.mx4
  have hwm : IntKind.u64.wrap (mx : Int) = (mx : Int) := by simp [IntKind.wrap, IntKind.signed, IntKind.bits]; omega
  have HSTEP : Bx (lstep mx mu ⟨T1, ss, ad, out, c :: r⟩ = upStep mx ⟨T1, ss, ad, out, c :: r⟩) := ⟨by unfold lstep; rw [if_pos (show isUp (c :: r) from hup)]⟩
  obtain ⟨u, hu, ha⟩ := dframe a hA.s hA.d
  have h0 := (hu 0).symm.trans hA.t0
  have h1 := (hu 1).symm.trans hA.t1
  have h6 := (hu 6).symm.trans hA.t6
  have h7 := (hu 7).symm.trans hA.t7
  rw [ha]
  clear ha hA
  rw [h0, h1, h6, h7]
  clear h0 h1 h6 h7 hu
  conv => arg 2; whnf
  clear hno hns hR hup
  cases hn : numP 5 (c :: r) with
  | none =>
    obtain ⟨er, he, hrp⟩ := numP_none hn
    have HBAD := Bx.mk (HR.out.none_ (by simp) (by rw [HSTEP.out]; unfold upStep; rw [hn]))
    rw [hrp] at hcall
    unfold Ans3 at hcall
    dsimp only at hcall
    have HCALL := Bx.mk hcall
    have hne : (er == 0) = false := by simpa using he
    clear hcall hrp hn
    go_wp2_with fail
    refine HCALL.out.mono ?_
    rintro e w1 ⟨rfl, rfl⟩
    go_wp2_with fail
    refine (HR.out.dr.bad HBAD.out).mono ?_
    rintro e w9 ⟨rfl, hp⟩
    go_wp2_with fail
    exact Kx.ret ⟨rfl, rfl, rfl, hp⟩
  | some pr =>
    obtain ⟨n, r'⟩ := pr
    obtain ⟨m, hrp, hr', hm1, hml, hnv⟩ := numP_some hn
    rw [hrp] at hcall
    unfold Ans3 at hcall
    dsimp only at hcall
    have HCALL := Bx.mk hcall
    have HN := Bx.mk hn
    clear hcall hrp hn hm1 hnv
    by_cases h1 : mx < n
    · have HBAD := Bx.mk (HR.out.none_ (by simp) (by rw [HSTEP.out]; unfold upStep; rw [HN.out]; simp only; rw [if_pos (.inl h1)]))
      have hd1 : decide ((mx : Int) < (n : Int)) = true := decide_eq_true (by omega)
      clear hmx
      go_wp2_with fail
      refine HCALL.out.mono ?_
      rintro e w1 ⟨rfl, rfl⟩
      go_wp2_with fail
      refine (HR.out.dr.bad HBAD.out).mono ?_
      rintro e w9 ⟨rfl, hp⟩
      go_wp2_with fail
      exact Kx.ret ⟨rfl, rfl, rfl, hp⟩
    · have hd1 : decide ((mx : Int) < (n : Int)) = false := decide_eq_false (by omega)
      by_cases h2 : 0 < no
      · have HBAD := Bx.mk (HR.out.none_ (by simp) (by rw [HSTEP.out]; unfold upStep; rw [HN.out]; simp only; rw [if_pos (.inr (.inl (fun h => by have := HNO.out; rw [h] at this; simp at this; omega)))]))
        have hd2 : decide ((0 : Int) < (no : Int)) = true := decide_eq_true (by omega)
        go_wp2_with fail
        refine HCALL.out.mono ?_
        rintro e w1 ⟨rfl, rfl⟩
        go_wp2_with fail
        refine (HR.out.dr.bad HBAD.out).mono ?_
        rintro e w9 ⟨rfl, hp⟩
        go_wp2_with fail
        exact Kx.ret ⟨rfl, rfl, rfl, hp⟩
      · have hd2 : decide ((0 : Int) < (no : Int)) = false := decide_eq_false (by omega)
        by_cases h3 : 2 ≤ ns
        · have HBAD := Bx.mk (HR.out.none_ (by simp) (by rw [HSTEP.out]; unfold upStep; rw [HN.out]; simp only; rw [if_pos (.inr (.inr (by have := HNS.out; omega)))]))
          have hd3 : decide ((2 : Int) ≤ (ns : Int)) = true := decide_eq_true (by omega)
          go_wp2_with fail
          refine HCALL.out.mono ?_
          rintro e w1 ⟨rfl, rfl⟩
          go_wp2_with fail
          refine (HR.out.dr.bad HBAD.out).mono ?_
          rintro e w9 ⟨rfl, hp⟩
          go_wp2_with fail
          exact Kx.ret ⟨rfl, rfl, rfl, hp⟩
        · have hd3 : decide ((2 : Int) ≤ (ns : Int)) = false := decide_eq_false (by omega)
          have hst : lstep mx mu ⟨T1, ss, ad, out, c :: r⟩ = some ⟨T1.resize (n : Int), ss ++ [n], ad, out, r'⟩ := by
            rw [HSTEP.out]; unfold upStep; rw [HN.out]; simp only
            rw [if_neg]
            rintro (h | h | h)
            · exact h1 h
            · exact h2 (by rw [← HNO.out]; exact List.length_pos_iff.2 h)
            · exact h3 (by rw [← HNS.out]; exact h)
          have HST := Bx.mk hst
          obtain ⟨bw', hsl, hbs⟩ := HR.out.dr.bytes.from_ (m : Int) (by omega) (by omega)
          rw [Int.toNat_natCast, ← hr'] at hbs
          have HBS := Bx.mk hbs
          have hn4 : n ≤ 4096 := by omega
          have hwn : IntKind.i64.wrap (n : Int) = (n : Int) := by simp only [IntKind.wrap_i64]; omega
          clear hst hbs hr' hml hmx
          go_wp2_with fail
          refine HCALL.out.mono ?_
          rintro e w1 ⟨rfl, rfl⟩
          go_wp2_with fail
          refine (HR.out.dr.resize n hn4).mono ?_
          rintro e w2 ⟨⟨gg, rfl⟩, hr2⟩
          have HR2 := Bx.mk (HR.out.next (by simp) HST.out (hr2.rest HBS.out))
          clear hr2
          go_wp2_with fail
          exact Kx.exit ⟨rfl, _, _, _, _, _, _, _, ⟨rfl, rfl, rfl, rfl, rfl, by rw [List.length_append, HNS.out]; exact (by go_num : Value.int .i64 ((ns : Int) + 1) = .int .i64 ((ns + 1 : Nat) : Int))⟩, HR2.out.1, HR2.out.2⟩
end

end Go.Proofs.Ythnaapjefedalaa

/-
  The document's Decode: an indexed field.
-/
namespace Go.Proofs.Ythnaapjefedalaa
open Go.RowKit Go.Maps
set_option linter.unusedVariables false

section
variable {q t mx : Nat} {mu : Bool} {T0 T1 : Tab} {S : Nat → Prop} {w wx : World} {l : List UInt8} {ss : List Nat} {ad out : List Fd} {c : UInt8} {r : List UInt8} {bw ow : Value}

set_option maxRecDepth 100000 in
set_option maxHeartbeats 40000000 in
/-- An indexed field. -/
theorem ix_any (a : Act) (hA : At15 a q bw ow ss.length) (hR : Rel q t mx mu T0 S w l T1 ss ad out (c :: r) bw ow wx) (hst : lstep mx mu ⟨T1, ss, ad, out, c :: r⟩ = ixStep ⟨T1, ss, ad, out, c :: r⟩) (h64 : out.length < 64) :
    Code.wp Try.prog (dfrom 19) (Kx (fun _ _ => False) (Fails q t mx mu T0 S w l) (fun i a' w' => i = 1 ∧ Goes q t mx mu T0 S w l (c :: r).length a' w')) a wx := by
  obtain ⟨ns, hns⟩ : ∃ ns, ss.length = ns := ⟨_, rfl⟩
  rw [hns] at hA
  have HNS := Bx.mk hns
  have HR := Bx.mk hR
  have HST1 := Bx.mk hst
  have HLO := Bx.mk h64
  have hcall := refReadPrefix_any bw (c :: r) 7 wx hR.dr.bytes (by have := hR.len; omega)
  rw [show bitsOf 7 = 7 from rfl] at hcall
  obtain ⟨u, hu, ha⟩ := dframe a hA.s hA.d
  have h0 := (hu 0).symm.trans hA.t0
  have h1 := (hu 1).symm.trans hA.t1
  have h6 := (hu 6).symm.trans hA.t6
  have h7 := (hu 7).symm.trans hA.t7
  rw [ha]
  clear ha hA
  rw [h0, h1, h6, h7]
  clear h0 h1 h6 h7 hu
  conv => arg 2; whnf
  clear hns hR hst h64
  cases hn : numP 7 (c :: r) with
  | none =>
    obtain ⟨er, he, hrp⟩ := numP_none hn
    have HBAD := Bx.mk (HR.out.none_ (by simp) (by rw [HST1.out]; unfold ixStep; rw [hn]))
    rw [hrp] at hcall
    unfold Ans3 at hcall
    dsimp only at hcall
    have HCALL := Bx.mk hcall
    have hne : (er == 0) = false := by simpa using he
    clear hcall hrp hn
    go_wp2_with fail
    refine HCALL.out.mono ?_
    rintro e w1 ⟨rfl, rfl⟩
    go_wp2_with fail
    refine (HR.out.dr.entry 0 (by unfold maxVar; omega)).mono ?_
    rintro e w2 ⟨rfl, hb2⟩
    rw [idx_zero, idxB_zero, show aggF emp = .agg #[.string ⟨#[]⟩, .string ⟨#[]⟩] from rfl]
    have HR2 := Bx.mk ((HR.out.dr.keep hb2).keep ((Below.refl w2.heap.size w2).alloc (Nat.le_refl _) (.cells #[.string ⟨#[]⟩, .string ⟨#[]⟩] 58)))
    clear hb2
    go_wp2_with fail
    refine (HR2.out.bad HBAD.out).mono ?_
    rintro e w9 ⟨rfl, hp⟩
    go_wp2_with fail
    exact Kx.ret ⟨rfl, rfl, rfl, hp⟩
  | some pr =>
    obtain ⟨i, r'⟩ := pr
    obtain ⟨m, hrp, hr', hm1, hml, hnv⟩ := numP_some hn
    rw [hrp] at hcall
    unfold Ans3 at hcall
    dsimp only at hcall
    have HCALL := Bx.mk hcall
    have HN := Bx.mk hn
    have HNV := Bx.mk hnv
    obtain ⟨f, hf⟩ : ∃ f, idxF T1.l i = f := ⟨_, rfl⟩
    obtain ⟨f1, f2⟩ := f
    have HF := Bx.mk hf
    clear hcall hrp hn hnv hf
    cases hib : idxB T1.l i with
    | false =>
      have HBAD := Bx.mk (HR.out.none_ (by simp) (by rw [HST1.out]; unfold ixStep; rw [HN.out]; simp only; rw [if_neg (by rw [hib]; simp)]))
      have HIB := Bx.mk hib
      clear hib
      go_wp2_with fail
      refine HCALL.out.mono ?_
      rintro e w1 ⟨rfl, rfl⟩
      go_wp2_with fail
      refine (HR.out.dr.entry i HNV.out).mono ?_
      rintro e w2 ⟨rfl, hb2⟩
      rw [HF.out, HIB.out, show aggF (f1, f2) = .agg #[.string f1, .string f2] from rfl]
      have HR2 := Bx.mk ((HR.out.dr.keep hb2).keep ((Below.refl w2.heap.size w2).alloc (Nat.le_refl _) (.cells #[.string f1, .string f2] 58)))
      clear hb2
      go_wp2_with fail
      refine (HR2.out.bad HBAD.out).mono ?_
      rintro e w9 ⟨rfl, hp⟩
      go_wp2_with fail
      exact Kx.ret ⟨rfl, rfl, rfl, hp⟩
    | true =>
      have hst : lstep mx mu ⟨T1, ss, ad, out, c :: r⟩ = some ⟨T1, ss, ad, out ++ [(f1, f2)], r'⟩ := by
        rw [HST1.out]; unfold ixStep; rw [HN.out]; simp only; rw [if_pos hib, HF.out]
      have HST := Bx.mk hst
      obtain ⟨bw', hsl, hbs⟩ := HR.out.dr.bytes.from_ (m : Int) (by omega) (by omega)
      rw [Int.toNat_natCast, ← hr'] at hbs
      have HBS := Bx.mk hbs
      have HIB := Bx.mk hib
      clear hst hbs hr' hml hib
      go_wp2_with fail
      refine HCALL.out.mono ?_
      rintro e w1 ⟨rfl, rfl⟩
      go_wp2_with fail
      refine (HR.out.dr.entry i HNV.out).mono ?_
      rintro e w2 ⟨rfl, hb2⟩
      rw [HF.out, HIB.out, show aggF (f1, f2) = .agg #[.string f1, .string f2] from rfl]
      have HR2 := Bx.mk (((HR.out.dr.keep hb2).keep ((Below.refl w2.heap.size w2).alloc (Nat.le_refl _) (.cells #[.string f1, .string f2] 58))).keep ((Below.refl _ _).alloc (Nat.le_refl _) (.cells #[.string f1, .string f2] 58)))
      obtain ⟨A, nA, cA, w3, hrun3, hr3, _⟩ := HR2.out.push (Fs.one _ (w2.heap.size + 1) (by simp) (f1, f2)) (by have := HLO.out; omega) 31
      have HR3 := Bx.mk (HR.out.next (by simp) HST.out (hr3.rest HBS.out))
      have HF2 := Bx.mk (Fb.new 58 w2 (f1, f2))
      obtain ⟨e1, e2⟩ := HF2.out.cells
      clear hb2 hr3
      go_wp2_with (at_builtin; refine wpList_append_run rfl _ _ 31 rfl _ _ rfl rfl hrun3 ?_)
      exact Kx.exit ⟨rfl, _, _, _, _, _, _, _, ⟨rfl, rfl, rfl, rfl, rfl, by rw [HNS.out]; rfl⟩, HR3.out.1, HR3.out.2⟩
end

end Go.Proofs.Ythnaapjefedalaa
