/-
  Contracts of the document's windows.
-/
import Derived.Test.YtenoaljghbpaaaaWnMath
import Derived.Test.YtenoaljghbpaaaaRcW
import Derived.Test.YtenoaljghbpaaaaStep
import Derived.Lib.MinMax
import Derived.Deep.CutRange
import Derived.Deep.CutBlock
import Derived.BigRegion
import Derived.BigQuiet
import Derived.Handy
namespace Go.Proofs.Ytenoaljghbpaaaa
open Go.RowKit
set_option linter.unusedVariables false
set_option linter.unusedSimpArgs false

/-- The document's Out. -/
def Wo (q : Nat) (n : Int) : Wx := Rec q 136 1 (fun _ => .int .i64 n)
theorem Wd.wo (q : Nat) (n : Int) : Wd (Wo q n) := Wd.rc _ _ _ _
section
variable {q : Nat} {n : Int} {w : World} {S : Nat → Prop}
theorem wo_may (h : Wo q n w S) : Calls Try.prog 53 #[.pointer (some ⟨q, 0, none⟩)] w fun e w' => e = .returned (.int .i64 (max n 0)) ∧ w' = w := by
  have c0 := h.cell 0 (by omega)
  clear h
  go_enter Try.func53, Try.ntmps53
  go_wp2
  go_ret
  exact ⟨rfl, rfl⟩
theorem w64 {x : Int} (h1 : -4611686018427387904 ≤ x) (h2 : x ≤ 4611686018427387904) : wrap64 x = x ∧ IntKind.i64.wrap x = x := by
  refine ⟨?_, ?_⟩
  · unfold wrap64; omega
  · rw [IntKind.wrap_i64]; omega
set_option maxHeartbeats 1000000 in
theorem wo_use (h : Wo q n w S) (hn : oOk n) (x : Int) (hx : i64R x) : Calls Try.prog 47 #[.pointer (some ⟨q, 0, none⟩), .int .i64 x] w fun e w' => e = .returned (.bool (oUse n x).1) ∧ Turn (Wo q (oUse n x).2) S w w' := by
  have c0 := h.cell 0 (by omega)
  have cf := h.frozen 0
  have HM := Bx.mk (wo_may h)
  have H := Bx.mk h
  obtain ⟨hn1, hn2⟩ := hn
  obtain ⟨hx1, hx2⟩ := hx
  clear h
  by_cases h1 : x < 0
  · have e : oUse n x = (false, n) := by unfold oUse; rw [if_neg (by omega)]
    rw [e]
    have hd : decide (x < 0) = true := decide_eq_true h1
    clear h1 e hn1 hn2 hx1 hx2
    go_enter Try.func47, Try.ntmps47
    go_wp2_with fail
    go_ret
    exact ⟨rfl, H.out.stay (Below.refl _ _)⟩
  have hd : decide (x < 0) = false := decide_eq_false h1
  by_cases h2 : max n 0 < x
  · have e : oUse n x = (false, n) := by unfold oUse; rw [if_neg (by omega)]
    rw [e]
    have hd2 : decide (max n 0 < x) = true := decide_eq_true h2
    clear h1 h2 e hn1 hn2 hx1 hx2
    go_enter Try.func47, Try.ntmps47
    go_wp2_with (go_at_call 53; refine HM.out.mono ?_; rintro e w1 ⟨rfl, rfl⟩)
    go_ret
    exact ⟨rfl, H.out.stay (Below.refl _ _)⟩
  have e : oUse n x = (true, n - x) := by unfold oUse; rw [if_pos (by omega)]
  rw [e]
  have hd2 : decide (max n 0 < x) = false := decide_eq_false h2
  obtain ⟨hw1, hw2⟩ := w64 (x := n - x) (by omega) (by omega)
  clear h1 h2 e hn1 hn2 hx1 hx2
  go_enter Try.func47, Try.ntmps47
  go_wp2_with (go_at_call 53; refine HM.out.mono ?_; rintro e w1 ⟨rfl, rfl⟩)
  go_ret
  exact ⟨rfl, H.out.put 0 _ _ fun j hj => by rw [if_pos (by omega)]⟩
set_option maxHeartbeats 1000000 in
theorem wo_grow (h : Wo q n w S) (hn : oOk n) (x : Int) (hx : i64R x) : Calls Try.prog 49 #[.pointer (some ⟨q, 0, none⟩), .int .i64 x] w fun e w' => e = .returned (.bool (oGrow n x).1) ∧ Turn (Wo q (oGrow n x).2) S w w' := by
  have c0 := h.cell 0 (by omega)
  have cf := h.frozen 0
  have H := Bx.mk h
  obtain ⟨hn1, hn2⟩ := hn
  obtain ⟨hx1, hx2⟩ := hx
  obtain ⟨hs1, hs2⟩ := w64 (x := 2147483647 - n) (by omega) (by omega)
  clear h
  by_cases h1 : x < 1
  · have e : oGrow n x = (false, n) := by unfold oGrow; rw [if_neg (by omega)]
    rw [e]
    have hd : decide (x < 1) = true := decide_eq_true h1
    clear h1 e hn1 hn2 hx1 hx2 hs1 hs2
    go_enter Try.func49, Try.ntmps49
    go_wp2_with fail
    go_ret
    exact ⟨rfl, H.out.stay (Below.refl _ _)⟩
  have hd : decide (x < 1) = false := decide_eq_false h1
  by_cases h2 : 2147483647 - n < x
  · have e : oGrow n x = (false, n) := by unfold oGrow; rw [if_neg (by omega)]
    rw [e]
    have hd2 : decide (2147483647 - n < x) = true := decide_eq_true h2
    clear h1 h2 e hn1 hn2 hx1 hx2
    go_enter Try.func49, Try.ntmps49
    go_wp2_with fail
    go_ret
    exact ⟨rfl, H.out.stay (Below.refl _ _)⟩
  have e : oGrow n x = (true, n + x) := by unfold oGrow; rw [if_pos (by omega)]
  rw [e]
  have hd2 : decide (2147483647 - n < x) = false := decide_eq_false h2
  obtain ⟨hw1, hw2⟩ := w64 (x := n + x) (by omega) (by omega)
  clear h1 h2 e hn1 hn2 hx1 hx2
  go_enter Try.func49, Try.ntmps49
  go_wp2_with fail
  go_ret
  exact ⟨rfl, H.out.put 0 _ _ fun j hj => by rw [if_pos (by omega)]⟩
set_option maxHeartbeats 1000000 in
theorem wo_shift (h : Wo q n w S) (hn : oOk n) (x : Int) (hx : i64R x) : Calls Try.prog 51 #[.pointer (some ⟨q, 0, none⟩), .int .i64 x] w fun e w' => e = .returned (.bool (oShift n x).1) ∧ Turn (Wo q (oShift n x).2) S w w' := by
  have c0 := h.cell 0 (by omega)
  have cf := h.frozen 0
  have H := Bx.mk h
  obtain ⟨hn1, hn2⟩ := hn
  obtain ⟨hx1, hx2⟩ := hx
  clear h
  by_cases h1 : 4294967294 < x
  · have e : oShift n x = (false, n) := by unfold oShift; rw [if_neg (by omega)]
    rw [e]
    have hd : decide (4294967294 < x) = true := decide_eq_true h1
    clear h1 e hn1 hn2 hx1 hx2
    go_enter Try.func51, Try.ntmps51
    go_wp2_with fail
    go_ret
    exact ⟨rfl, H.out.stay (Below.refl _ _)⟩
  have hd : decide (4294967294 < x) = false := decide_eq_false h1
  by_cases h2 : x < -4294967294
  · have e : oShift n x = (false, n) := by unfold oShift; rw [if_neg (by omega)]
    rw [e]
    have hd2 : decide (x < -4294967294) = true := decide_eq_true h2
    clear h1 h2 e hn1 hn2 hx1 hx2
    go_enter Try.func51, Try.ntmps51
    go_wp2_with fail
    go_ret
    exact ⟨rfl, H.out.stay (Below.refl _ _)⟩
  have hd2 : decide (x < -4294967294) = false := decide_eq_false h2
  obtain ⟨hw1, hw2⟩ := w64 (x := n + x) (by omega) (by omega)
  by_cases h3 : 2147483647 < n + x
  · have e : oShift n x = (false, n) := by unfold oShift; rw [if_neg (by omega)]
    rw [e]
    have hd3 : decide (2147483647 < n + x) = true := decide_eq_true h3
    clear h1 h2 h3 e hn1 hn2 hx1 hx2
    go_enter Try.func51, Try.ntmps51
    go_wp2_with fail
    go_ret
    exact ⟨rfl, H.out.stay (Below.refl _ _)⟩
  have hd3 : decide (2147483647 < n + x) = false := decide_eq_false h3
  by_cases h4 : n + x < -2147483647
  · have e : oShift n x = (false, n) := by unfold oShift; rw [if_neg (by omega)]
    rw [e]
    have hd4 : decide (n + x < -2147483647) = true := decide_eq_true h4
    clear h1 h2 h3 h4 e hn1 hn2 hx1 hx2
    go_enter Try.func51, Try.ntmps51
    go_wp2_with fail
    go_ret
    exact ⟨rfl, H.out.stay (Below.refl _ _)⟩
  have e : oShift n x = (true, n + x) := by unfold oShift; rw [if_pos (by omega)]
  rw [e]
  have hd4 : decide (n + x < -2147483647) = false := decide_eq_false h4
  clear h1 h2 h3 h4 e hn1 hn2 hx1 hx2
  go_enter Try.func51, Try.ntmps51
  go_wp2_with fail
  go_ret
  exact ⟨rfl, H.out.put 0 _ _ fun j hj => by rw [if_pos (by omega)]⟩
end
theorem wo_limit (n : Int) (w : World) : Calls Try.prog 96 #[.int .i64 n] w fun e w' => e = .returned (.int .i64 (oNew n)) ∧ w' = w := by
  have e : oNew n = min (max n (-2147483647)) 2147483647 := rfl
  rw [e]
  clear e
  go_enter Try.func96, Try.ntmps96
  go_wp2
  go_ret
  exact ⟨rfl, rfl⟩
theorem one_all {v : Value} : ∀ i, i < #[v].size → #[v][i]? = some v := fun i hi => by
  obtain rfl : i = 0 := by simpa using hi
  rfl
theorem wo_new (n : Int) (w : World) : Calls Try.prog 44 #[.int .i64 n] w fun e w' => ∃ q, e = .returned (.pointer (some ⟨q, 0, none⟩)) ∧ Up w.heap.size (Wo q (oNew n)) w' ∧ Below w.heap.size w w' := by
  have HL := Bx.mk (wo_limit n w)
  go_enter Try.func44, Try.ntmps44
  go_wp2_with (go_at_call 96; refine HL.out.mono ?_; rintro e w1 ⟨rfl, rfl⟩)
  go_ret
  exact ⟨_, rfl, Rec.made w1 #[.int .i64 (oNew n)] _ (fun _ => .int .i64 (oNew n)) one_all, (Below.refl _ _).alloc (Nat.le_refl _) _⟩

/-- The document's In. -/
def inF (W : Ws) (i : Nat) : Value := if i = 0 then .int .i64 W.s else if i = 1 then .int .i64 W.l else if i = 2 then .int .i64 W.c else .int .i64 W.u
def Wi (q : Nat) (W : Ws) : Wx := Rec q 91 4 (inF W)
theorem Wd.wi (q : Nat) (W : Ws) : Wd (Wi q W) := Wd.rc _ _ _ _
theorem inF_0 (W : Ws) : inF W 0 = .int .i64 W.s := rfl
theorem inF_1 (W : Ws) : inF W 1 = .int .i64 W.l := rfl
theorem inF_2 (W : Ws) : inF W 2 = .int .i64 W.c := rfl
theorem inF_3 (W : Ws) : inF W 3 = .int .i64 W.u := rfl
theorem inF_all {P : Nat → Prop} (h0 : P 0) (h1 : P 1) (h2 : P 2) (h3 : P 3) : ∀ j, j < 4 → P j := fun j hj => by
  match j, hj with
  | 0, _ => exact h0
  | 1, _ => exact h1
  | 2, _ => exact h2
  | 3, _ => exact h3
theorem wi_new (n : Int) (w : World) : Calls Try.prog 55 #[.int .i64 n] w fun e w' => ∃ q, e = .returned (.pointer (some ⟨q, 0, none⟩)) ∧ Up w.heap.size (Wi q (wNew n)) w' ∧ Below w.heap.size w w' := by
  go_enter Try.func55, Try.ntmps55
  go_wp2
  go_ret
  exact ⟨_, rfl, Rec.made w #[.int .i64 (min (max n 1) 2147483647), .int .i64 (min (max n 1) 2147483647), .int .i64 0, .int .i64 0] _ (inF (wNew n)) (inF_all rfl rfl rfl rfl), (Below.refl _ _).alloc (Nat.le_refl _) _⟩
section
variable {q : Nat} {W : Ws} {w : World} {S : Nat → Prop}
set_option maxHeartbeats 1000000 in
theorem wi_take (h : Wi q W w S) (hW : W.ok) (x : Int) (hx : i64R x) : Calls Try.prog 57 #[.pointer (some ⟨q, 0, none⟩), .int .i64 x] w fun e w' => e = .returned (.bool (wTake W x).1) ∧ Turn (Wi q (wTake W x).2) S w w' := by
  have c1 := h.cell 1 (by omega)
  have c2 := h.cell 2 (by omega)
  have cf := h.frozen 1
  have cf2 := h.frozen 2
  have H := Bx.mk h
  obtain ⟨s, l, c, u⟩ := W
  obtain ⟨h1, h2, h3, h4, h5, h6, h7⟩ := hW
  simp only at h1 h2 h3 h4 h5 h6 h7
  rw [inF_1] at c1
  rw [inF_2] at c2
  simp only at c1 c2
  clear h
  by_cases g1 : x < 0
  · have e : wTake ⟨s, l, c, u⟩ x = (false, ⟨s, l, c, u⟩) := by unfold wTake; rw [if_neg (by omega)]
    rw [e]
    have hd : decide (x < 0) = true := decide_eq_true g1
    clear g1 e h1 h2 h3 h4 h5 h6 h7 hx
    go_enter Try.func57, Try.ntmps57
    go_wp2_with fail
    go_ret
    exact ⟨rfl, H.out.stay (Below.refl _ _)⟩
  have hd : decide (x < 0) = false := decide_eq_false g1
  by_cases g2 : l < x
  · have e : wTake ⟨s, l, c, u⟩ x = (false, ⟨s, l, c, u⟩) := by unfold wTake; rw [if_neg (by simp only; omega)]
    rw [e]
    have hd2 : decide (l < x) = true := decide_eq_true g2
    clear g1 g2 e h1 h2 h3 h4 h5 h6 h7 hx
    go_enter Try.func57, Try.ntmps57
    go_wp2_with fail
    go_ret
    exact ⟨rfl, H.out.stay (Below.refl _ _)⟩
  have hd2 : decide (l < x) = false := decide_eq_false g2
  have e : wTake ⟨s, l, c, u⟩ x = (true, ⟨s, l - x, c + x, u⟩) := by unfold wTake; rw [if_pos (by simp only; omega)]
  rw [e]
  obtain ⟨hw1, hw2⟩ := w64 (x := l - x) (by omega) (by omega)
  obtain ⟨hw3, hw4⟩ := w64 (x := c + x) (by omega) (by omega)
  have H2 := Bx.mk (H.out.set 1 (.int .i64 (l - x)) (inF ⟨s, l - x, c, u⟩) (inF_all rfl rfl rfl rfl))
  have c22 := H2.out.cell 2 (by omega)
  have cf22 := H2.out.frozen 2
  rw [inF_2] at c22
  simp only at c22
  clear g1 g2 e h1 h2 h3 h4 h5 h6 h7 hx
  go_enter Try.func57, Try.ntmps57
  go_wp2_with fail
  go_ret
  exact ⟨rfl, S, H2.out.set 2 _ _ (inF_all rfl rfl rfl rfl), fun k hk => .inl hk, (H.out.fp 1 _).then (H2.out.fp 2 _)⟩
set_option maxHeartbeats 2000000 in
theorem wi_done (h : Wi q W w S) (hW : W.ok) (x : Int) (hx : i64R x) : Calls Try.prog 59 #[.pointer (some ⟨q, 0, none⟩), .int .i64 x] w fun e w' => e = .returned (.int .i64 (wDone W x).1) ∧ Turn (Wi q (wDone W x).2) S w w' := by
  have H := Bx.mk h
  obtain ⟨s, l, c, u⟩ := W
  obtain ⟨h1, h2, h3, h4, h5, h6, h7⟩ := hW
  simp only at h1 h2 h3 h4 h5 h6 h7
  have c2 := h.cell 2 (by omega)
  rw [inF_2] at c2
  have cf2 := h.frozen 2
  obtain ⟨a, ha⟩ : ∃ a, min (max x 0) c = a := ⟨_, rfl⟩
  have ham : wAm ⟨s, l, c, u⟩ x = a := ha
  have H2 := Bx.mk (h.set 2 (.int .i64 (c - a)) (inF ⟨s, l, c - a, u⟩) (inF_all rfl rfl rfl rfl))
  have d3 := H2.out.cell 3 (by omega)
  rw [inF_3] at d3
  have df3 := H2.out.frozen 3
  have H3 := Bx.mk (H2.out.set 3 (.int .i64 (u + a)) (inF ⟨s, l, c - a, u + a⟩) (inF_all rfl rfl rfl rfl))
  have HF := Bx.mk ((h.fp 2 (.int .i64 (c - a))).then (H2.out.fp 3 (.int .i64 (u + a))))
  obtain ⟨hw1, hw2⟩ := w64 (x := c - a) (by omega) (by omega)
  obtain ⟨hw3, hw4⟩ := w64 (x := u + a) (by omega) (by omega)
  obtain ⟨hs, hhs⟩ : ∃ hs, s / 2 = hs := ⟨_, rfl⟩
  have hq1 : s.tdiv 2 = hs := by rw [Int.tdiv_eq_ediv_of_nonneg (by omega)]; exact hhs
  have hq2 : IntKind.i64.wrap hs = hs := (w64 (by omega) (by omega)).2
  have hq3 : wrap64 hs = hs := (w64 (by omega) (by omega)).1
  have ed : wDone ⟨s, l, c, u⟩ x = if u + a < max hs 1 then (0, ⟨s, l, c - a, u + a⟩) else (u + a, ⟨s, l + (u + a), c - a, 0⟩) := by
    unfold wDone
    rw [ham]
    simp only [hhs]
  rw [ed]
  obtain ⟨hl1, hl2⟩ := w64 (x := l + (u + a)) (by omega) (by omega)
  clear h ham ed hhs
  by_cases g : u + a < max hs 1
  · rw [if_pos g]
    have hd : decide (u + a < max hs 1) = true := decide_eq_true g
    clear h1 h2 h3 h4 h5 h6 h7 hx g
    go_enter Try.func59, Try.ntmps59
    go_upto_region 4 with fail
    generalize (w.setCell ⟨q, 2, none⟩ (.int .i64 (c - a))).setCell ⟨q, 3, none⟩ (.int .i64 (u + a)) = w2 at H3 HF ⊢
    have e0 := H3.out.cell 0 (by omega)
    have e3 := H3.out.cell 3 (by omega)
    rw [inF_0] at e0
    rw [inF_3] at e3
    clear c2 cf2 d3 df3 H2
    go_region
    go_wp2_with fail
    go_ret
    exact ⟨rfl, S, (Wd.wi _ _).keep H3.out (Below.refl _ _).drew, fun k hk => .inl hk, HF.out.then (Fp.of_below (Below.refl _ _).drew)⟩
  · rw [if_neg g]
    have hd : decide (u + a < max hs 1) = false := decide_eq_false g
    clear h1 h2 h3 h4 h5 h6 h7 hx g
    go_enter Try.func59, Try.ntmps59
    go_upto_region 4 with fail
    generalize (w.setCell ⟨q, 2, none⟩ (.int .i64 (c - a))).setCell ⟨q, 3, none⟩ (.int .i64 (u + a)) = w2 at H3 HF ⊢
    have e0 := H3.out.cell 0 (by omega)
    have e3 := H3.out.cell 3 (by omega)
    rw [inF_0] at e0
    rw [inF_3] at e3
    clear c2 cf2 d3 df3 H2
    go_region
    have H4 := Bx.mk ((Wd.wi _ _).keep H3.out (Below.refl w2.heap.size w2).drew)
    have HF4 := Bx.mk (HF.out.then (Fp.of_below (Below.refl w2.heap.size w2).drew))
    generalize w2.drew = w4 at H4 HF4 ⊢
    have f1 := H4.out.cell 1 (by omega)
    have f3 := H4.out.cell 3 (by omega)
    rw [inF_1] at f1
    rw [inF_3] at f3
    have ff1 := H4.out.frozen 1
    have H5 := Bx.mk (H4.out.set 1 (.int .i64 (l + (u + a))) (inF ⟨s, l + (u + a), c - a, u + a⟩) (inF_all rfl rfl rfl rfl))
    have ff3 := H5.out.frozen 3
    have f53 := H5.out.cell 3 (by omega)
    rw [inF_3] at f53
    clear e0 e3 H3 HF
    go_wp2_with fail
    go_ret
    exact ⟨rfl, S, H5.out.set 3 _ _ (inF_all rfl rfl rfl rfl), fun k hk => .inl hk, (HF4.out.then (H4.out.fp 1 _)).then (H5.out.fp 3 _)⟩
end
end Go.Proofs.Ytenoaljghbpaaaa
