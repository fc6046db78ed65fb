/-
  Contracts of the program's windows.
-/
import Derived.Test.YtenoaljghbpaaaaWnA
import Derived.Test.YtenoaljghbpaaaaRcW
import Derived.Test.YtenoaljghbpaaaaStep
import Derived.Lib.MinMax
import Derived.Deep.CutRange
import Derived.Deep.CutBlock
import Derived.BigRegion
import Derived.BigQuiet
import Derived.Handy
namespace Go.Proofs.Ytenoaljghbpaaaa
open Go.RowKit
set_option linter.unusedVariables false
set_option linter.unusedSimpArgs false

/-- The program's Out. -/
def Po (q : Nat) (n : Int) : Wx := fun w S => Rec q 134 1 (fun _ => .int .i32 n) w S ∧ oOk n
theorem Wd.and {X : Wx} {p : Prop} (h : Wd X) : Wd (fun w S => X w S ∧ p) := by
  constructor
  · rintro w S ⟨h1, h2⟩ k hk
    exact h.lt h1 k hk
  · rintro w w' S ⟨h1, h2⟩ hs hb
    exact ⟨h.kept h1 hs hb, h2⟩
theorem Wd.po (q : Nat) (n : Int) : Wd (Po q n) := (Wd.rc _ _ _ _).and
theorem Po.put {q : Nat} {n m : Int} {w : World} {S : Nat → Prop} (h : Po q n w S) (hm : oOk m) : Turn (Po q m) S w (w.setCell ⟨q, 0, none⟩ (.int .i32 m)) :=
  ⟨S, ⟨h.1.set 0 _ _ fun j hj => by rw [if_pos (by omega)], hm⟩, fun k hk => .inl hk, h.1.fp 0 _⟩
theorem Po.stay {q : Nat} {n : Int} {w w' : World} {S : Nat → Prop} (h : Po q n w S) (hb : Below w.heap.size w w') : Turn (Po q n) S w w' := (Wd.po q n).turned h hb
theorem w32 {x : Int} (h1 : -2147483648 ≤ x) (h2 : x ≤ 2147483647) : wrap32 x = x ∧ IntKind.i32.wrap x = x := by
  refine ⟨?_, ?_⟩
  · unfold wrap32; omega
  · rw [IntKind.wrap_i32]; omega
theorem pclamp_any (n a b : Int) (w : World) : Calls Try.prog 95 #[.int .i64 n, .int .i64 a, .int .i64 b] w fun e w' => e = .returned (.int .i64 (min (max n a) b)) ∧ w' = w := by
  go_enter Try.func95, Try.ntmps95
  go_wp2
  go_ret
  exact ⟨rfl, rfl⟩
section
variable {q : Nat} {n : Int} {w : World} {S : Nat → Prop}
theorem po_may (h : Po q n w S) : Calls Try.prog 52 #[.pointer (some ⟨q, 0, none⟩)] w fun e w' => e = .returned (.int .i64 (max n 0)) ∧ w' = w := by
  have c0 := h.1.cell 0 (by omega)
  obtain ⟨hz, hz2⟩ := w64 (x := n) (by have := h.2.1; omega) (by have := h.2.2; omega)
  clear h
  go_enter Try.func52, Try.ntmps52
  go_wp2
  go_ret
  exact ⟨rfl, rfl⟩
set_option maxHeartbeats 1000000 in
theorem po_shift (h : Po q n w S) (hn : oOk n) (x : Int) (hx : i64R x) : Calls Try.prog 50 #[.pointer (some ⟨q, 0, none⟩), .int .i64 x] w fun e w' => e = .returned (.bool (oShift n x).1) ∧ Turn (Po q (oShift n x).2) S w w' := by
  have c0 := h.1.cell 0 (by omega)
  have cf := h.1.frozen 0
  have H := Bx.mk h
  obtain ⟨hn1, hn2⟩ := hn
  obtain ⟨hx1, hx2⟩ := hx
  obtain ⟨hz, hz2⟩ := w64 (x := n) (by omega) (by omega)
  obtain ⟨ha1, ha2⟩ := w64 (x := 2147483647 - n) (by omega) (by omega)
  obtain ⟨hb1, hb2⟩ := w64 (x := -2147483647 - n) (by omega) (by omega)
  clear h
  by_cases h1 : 2147483647 - n < x
  · have e : oShift n x = (false, n) := by unfold oShift; rw [if_neg (by omega)]
    rw [e]
    have hd : decide (2147483647 - n < x) = true := decide_eq_true h1
    clear h1 e hn1 hn2 hx1 hx2
    go_enter Try.func50, Try.ntmps50
    go_wp2_with fail
    go_ret
    exact ⟨rfl, H.out.stay (Below.refl _ _)⟩
  have hd : decide (2147483647 - n < x) = false := decide_eq_false h1
  by_cases h2 : x < -2147483647 - n
  · have e : oShift n x = (false, n) := by unfold oShift; rw [if_neg (by omega)]
    rw [e]
    have hd2 : decide (x < -2147483647 - n) = true := decide_eq_true h2
    clear h1 h2 e hn1 hn2 hx1 hx2
    go_enter Try.func50, Try.ntmps50
    go_wp2_with fail
    go_ret
    exact ⟨rfl, H.out.stay (Below.refl _ _)⟩
  have hd2 : decide (x < -2147483647 - n) = false := decide_eq_false h2
  have e : oShift n x = (true, n + x) := by unfold oShift; rw [if_pos (by omega)]
  rw [e]
  obtain ⟨hw1, hw2⟩ := w64 (x := n + x) (by omega) (by omega)
  obtain ⟨hv1, hv2⟩ := w32 (x := n + x) (by omega) (by omega)
  have hok : oOk (n + x) := ⟨by omega, by omega⟩
  clear h1 h2 e hn1 hn2 hx1 hx2
  go_enter Try.func50, Try.ntmps50
  go_wp2_with fail
  go_ret
  exact ⟨rfl, H.out.put hok⟩
set_option maxHeartbeats 1000000 in
theorem po_use (h : Po q n w S) (hn : oOk n) (x : Int) (hx : i64R x) : Calls Try.prog 46 #[.pointer (some ⟨q, 0, none⟩), .int .i64 x] w fun e w' => e = .returned (.bool (oUse n x).1) ∧ Turn (Po q (oUse n x).2) S w w' := by
  have HM := Bx.mk (po_may h)
  have H := Bx.mk h
  by_cases h1 : x < 0
  · have e : oUse n x = (false, n) := by unfold oUse; rw [if_neg (by omega)]
    rw [e]
    have hd : decide (x < 0) = true := decide_eq_true h1
    clear h1 e hn hx h
    go_enter Try.func46, Try.ntmps46
    go_wp2_with fail
    go_ret
    exact ⟨rfl, H.out.stay (Below.refl _ _)⟩
  have hd : decide (x < 0) = false := decide_eq_false h1
  by_cases h2 : max n 0 < x
  · have e : oUse n x = (false, n) := by unfold oUse; rw [if_neg (by omega)]
    rw [e]
    have hd2 : decide (max n 0 < x) = true := decide_eq_true h2
    clear h1 h2 e hn hx h
    go_enter Try.func46, Try.ntmps46
    go_wp2_with (go_at_call 52; refine HM.out.mono ?_; rintro e w1 ⟨rfl, rfl⟩)
    go_ret
    exact ⟨rfl, H.out.stay (Below.refl _ _)⟩
  have hxn : i64R (-x) := ⟨by have := hx.2; omega, by omega⟩
  have HS := po_shift h hn (-x) hxn
  have es : oShift n (-x) = (true, n - x) := by
    obtain ⟨hn1, hn2⟩ := hn
    unfold oShift; rw [if_pos (by omega)]; rfl
  rw [es] at HS
  replace HS := Bx.mk HS
  have e : oUse n x = (true, n - x) := by unfold oUse; rw [if_pos (by omega)]
  rw [e]
  have hd2 : decide (max n 0 < x) = false := decide_eq_false h2
  obtain ⟨hw1, hw2⟩ := w64 (x := -x) (by have := hn.1; have := hn.2; omega) (by omega)
  clear h1 h2 e hn hx h hxn es
  go_enter Try.func46, Try.ntmps46
  go_wp2_with (first
    | (go_at_call 52; refine HM.out.mono ?_; rintro e w1 ⟨rfl, rfl⟩)
    | (go_at_call 50; refine HS.out.mono ?_; rintro e w1 ⟨rfl, hT⟩; replace hT := Bx.mk hT))
  go_ret
  exact ⟨rfl, hT.out⟩
set_option maxHeartbeats 1000000 in
theorem po_grow (h : Po q n w S) (hn : oOk n) (x : Int) (hx : i64R x) : Calls Try.prog 48 #[.pointer (some ⟨q, 0, none⟩), .int .i64 x] w fun e w' => e = .returned (.bool (oGrow n x).1) ∧ Turn (Po q (oGrow n x).2) S w w' := by
  have H := Bx.mk h
  by_cases h1 : x < 1
  · have e : oGrow n x = (false, n) := by unfold oGrow; rw [if_neg (by omega)]
    rw [e]
    have hd : decide (x < 1) = true := decide_eq_true h1
    clear h1 e hn hx h
    go_enter Try.func48, Try.ntmps48
    go_wp2_with fail
    go_ret
    exact ⟨rfl, H.out.stay (Below.refl _ _)⟩
  have hd : decide (x < 1) = false := decide_eq_false h1
  have HS := po_shift h hn x hx
  have es : oShift n x = oGrow n x := by
    obtain ⟨hn1, hn2⟩ := hn
    unfold oShift oGrow
    by_cases g : x ≤ 2147483647 - n
    · rw [if_pos (by omega), if_pos (by omega)]
    · rw [if_neg (by omega), if_neg (by omega)]
  rw [es] at HS
  obtain ⟨bb, m, hg⟩ : ∃ bb m, oGrow n x = (bb, m) := ⟨_, _, rfl⟩
  rw [hg] at HS ⊢
  replace HS := Bx.mk HS
  clear h1 hn hx h es hg
  go_enter Try.func48, Try.ntmps48
  go_wp2_with (go_at_call 50; refine HS.out.mono ?_; rintro e w1 ⟨rfl, hT⟩; replace hT := Bx.mk hT)
  go_ret
  exact ⟨rfl, hT.out⟩
end
theorem po_new (n : Int) (w : World) : Calls Try.prog 43 #[.int .i64 n] w fun e w' => ∃ q, e = .returned (.pointer (some ⟨q, 0, none⟩)) ∧ Up w.heap.size (Po q (oNew n)) w' ∧ Below w.heap.size w w' := by
  have HC := pclamp_any n (-2147483647) 2147483647 w
  rw [show min (max n (-2147483647)) 2147483647 = oNew n from rfl] at HC
  replace HC := Bx.mk HC
  have hok := oOk.new n
  obtain ⟨m, hm⟩ : ∃ m, oNew n = m := ⟨_, rfl⟩
  rw [hm] at HC hok ⊢
  obtain ⟨hn1, hn2⟩ := hok
  obtain ⟨hv1, hv2⟩ := w32 (x := m) (by omega) (by omega)
  have hok : oOk m := ⟨hn1, hn2⟩
  clear hn1 hn2 hm
  go_enter Try.func43, Try.ntmps43
  go_wp2_with (go_at_call 95; refine HC.out.mono ?_; rintro e w1 ⟨rfl, hw⟩; replace hw := hw.symm; subst hw)
  go_ret
  obtain ⟨S, hS, hl⟩ := Rec.made w #[.int .i32 m] 134 (fun _ => .int .i32 m) one_all
  exact ⟨_, rfl, ⟨S, ⟨hS, hok⟩, hl⟩, (Below.refl _ _).alloc (Nat.le_refl _) _⟩

/-- The program's In. -/
def pinF (W : Ws) (i : Nat) : Value := if i = 0 then .int .i32 W.s else if i = 1 then .int .i32 W.l else if i = 2 then .int .i32 W.c else .int .i32 W.u
def Pi0 (q : Nat) (W : Ws) : Wx := Rec q 138 4 (pinF W)
def Pi (q : Nat) (W : Ws) : Wx := fun w S => Pi0 q W w S ∧ W.ok
theorem Wd.pi (q : Nat) (W : Ws) : Wd (Pi q W) := (Wd.rc _ _ _ _).and
theorem Pi.stay {q : Nat} {W : Ws} {w w' : World} {S : Nat → Prop} (h : Pi q W w S) (hb : Below w.heap.size w w') : Turn (Pi q W) S w w' := (Wd.pi q W).turned h hb
theorem pinF_0 (W : Ws) : pinF W 0 = .int .i32 W.s := rfl
theorem pinF_1 (W : Ws) : pinF W 1 = .int .i32 W.l := rfl
theorem pinF_2 (W : Ws) : pinF W 2 = .int .i32 W.c := rfl
theorem pinF_3 (W : Ws) : pinF W 3 = .int .i32 W.u := rfl
theorem pinF_all {P : Nat → Prop} (h0 : P 0) (h1 : P 1) (h2 : P 2) (h3 : P 3) : ∀ j, j < 4 → P j := fun j hj => by
  match j, hj with
  | 0, _ => exact h0
  | 1, _ => exact h1
  | 2, _ => exact h2
  | 3, _ => exact h3
theorem pi_new (n : Int) (w : World) : Calls Try.prog 54 #[.int .i64 n] w fun e w' => ∃ q, e = .returned (.pointer (some ⟨q, 0, none⟩)) ∧ Up w.heap.size (Pi q (wNew n)) w' ∧ Below w.heap.size w w' := by
  have HC := pclamp_any n 1 2147483647 w
  have hW : wNew n = ⟨min (max n 1) 2147483647, min (max n 1) 2147483647, 0, 0⟩ := rfl
  rw [hW]
  have hok : 1 ≤ min (max n 1) 2147483647 ∧ min (max n 1) 2147483647 ≤ 2147483647 := by omega
  obtain ⟨m, hm⟩ : ∃ m, min (max n 1) 2147483647 = m := ⟨_, rfl⟩
  have hW2 := Ws.ok.new n
  rw [hW, hm] at hW2
  rw [hm] at HC hok ⊢
  replace HC := Bx.mk HC
  obtain ⟨hn1, hn2⟩ := hok
  have hok := Bx.mk hW2
  clear hW2
  obtain ⟨hv1, hv2⟩ := w32 (x := m) (by omega) (by omega)
  clear hn1 hn2 hm hW
  go_enter Try.func54, Try.ntmps54
  go_wp2_with (go_at_call 95; refine HC.out.mono ?_; rintro e w1 ⟨rfl, hw⟩; replace hw := hw.symm; subst hw)
  go_ret
  obtain ⟨S, hS, hl⟩ := Rec.made w #[.int .i32 m, .int .i32 m, .int .i32 0, .int .i32 0] 138 (pinF ⟨m, m, 0, 0⟩) (pinF_all rfl rfl rfl rfl)
  exact ⟨_, rfl, ⟨S, ⟨hS, hok.out⟩, hl⟩, (Below.refl _ _).alloc (Nat.le_refl _) _⟩
section
variable {q : Nat} {W : Ws} {w : World} {S : Nat → Prop}
theorem pi_left (h : Pi q W w S) : Calls Try.prog 60 #[.pointer (some ⟨q, 0, none⟩)] w fun e w' => e = .returned (.int .i64 W.l) ∧ w' = w := by
  have c1 := h.1.cell 1 (by omega)
  rw [pinF_1] at c1
  obtain ⟨hz, hz2⟩ := w64 (x := W.l) (by have := h.2.l; omega) (by have := h.2.s2; have := h.2.sum; have := h.2.c; have := h.2.u; omega)
  clear h
  go_enter Try.func60, Try.ntmps60
  go_wp2
  go_ret
  exact ⟨rfl, rfl⟩
set_option maxHeartbeats 1000000 in
theorem pi_take (h : Pi q W w S) (hW : W.ok) (x : Int) (hx : i64R x) : Calls Try.prog 56 #[.pointer (some ⟨q, 0, none⟩), .int .i64 x] w fun e w' => e = .returned (.bool (wTake W x).1) ∧ Turn (Pi q (wTake W x).2) S w w' := by
  have HL := Bx.mk (pi_left h)
  have c1 := h.1.cell 1 (by omega)
  have c2 := h.1.cell 2 (by omega)
  have cf := h.1.frozen 1
  have cf2 := h.1.frozen 2
  have H := Bx.mk h
  have HK := Bx.mk (hW.take x)
  obtain ⟨s, l, c, u⟩ := W
  obtain ⟨h1, h2, h3, h4, h5, h6, h7⟩ := hW
  simp only at h1 h2 h3 h4 h5 h6 h7
  rw [pinF_1] at c1
  rw [pinF_2] at c2
  simp only at c1 c2
  clear h
  by_cases g1 : x < 0
  · have e : wTake ⟨s, l, c, u⟩ x = (false, ⟨s, l, c, u⟩) := by unfold wTake; rw [if_neg (by omega)]
    rw [e]
    have hd : decide (x < 0) = true := decide_eq_true g1
    clear g1 e h1 h2 h3 h4 h5 h6 h7 hx
    go_enter Try.func56, Try.ntmps56
    go_wp2_with fail
    go_ret
    exact ⟨rfl, H.out.stay (Below.refl _ _)⟩
  have hd : decide (x < 0) = false := decide_eq_false g1
  by_cases g2 : l < x
  · have e : wTake ⟨s, l, c, u⟩ x = (false, ⟨s, l, c, u⟩) := by unfold wTake; rw [if_neg (by simp only; omega)]
    rw [e]
    have hd2 : decide (l < x) = true := decide_eq_true g2
    clear g1 g2 e h1 h2 h3 h4 h5 h6 h7 hx
    go_enter Try.func56, Try.ntmps56
    go_wp2_with (go_at_call 60; refine HL.out.mono ?_; rintro e w1 ⟨rfl, rfl⟩)
    go_ret
    exact ⟨rfl, H.out.stay (Below.refl _ _)⟩
  have hd2 : decide (l < x) = false := decide_eq_false g2
  have e : wTake ⟨s, l, c, u⟩ x = (true, ⟨s, l - x, c + x, u⟩) := by unfold wTake; rw [if_pos (by simp only; omega)]
  rw [e] at HK ⊢
  obtain ⟨hw0, hw00⟩ := w32 (x := x) (by omega) (by omega)
  obtain ⟨hw1, hw2⟩ := w32 (x := l - x) (by omega) (by omega)
  obtain ⟨hw3, hw4⟩ := w32 (x := c + x) (by omega) (by omega)
  have H2 := Bx.mk (H.out.1.set 1 (.int .i32 (l - x)) (pinF ⟨s, l - x, c, u⟩) (pinF_all rfl rfl rfl rfl))
  have c22 := H2.out.cell 2 (by omega)
  have cf22 := H2.out.frozen 2
  rw [pinF_2] at c22
  simp only at c22
  clear g1 g2 e h1 h2 h3 h4 h5 h6 h7 hx
  go_enter Try.func56, Try.ntmps56
  go_wp2_with (go_at_call 60; refine HL.out.mono ?_; rintro e w1 ⟨rfl, rfl⟩)
  go_ret
  exact ⟨rfl, S, ⟨H2.out.set 2 _ _ (pinF_all rfl rfl rfl rfl), HK.out⟩, fun k hk => .inl hk, (H.out.1.fp 1 _).then (H2.out.fp 2 _)⟩
set_option maxHeartbeats 2000000 in
theorem pi_done (h : Pi q W w S) (hW : W.ok) (x : Int) (hx : i64R x) : Calls Try.prog 58 #[.pointer (some ⟨q, 0, none⟩), .int .i64 x] w fun e w' => e = .returned (.int .i64 (wDone W x).1) ∧ Turn (Pi q (wDone W x).2) S w w' := by
  have H := Bx.mk h
  have HK := hW.done x
  obtain ⟨s, l, c, u⟩ := W
  obtain ⟨h1, h2, h3, h4, h5, h6, h7⟩ := hW
  simp only at h1 h2 h3 h4 h5 h6 h7
  have HC := pclamp_any x 0 c w
  have c2 := h.1.cell 2 (by omega)
  rw [pinF_2] at c2
  simp only at c2
  have cf2 := h.1.frozen 2
  obtain ⟨a, ha⟩ : ∃ a, min (max x 0) c = a := ⟨_, rfl⟩
  have ham : wAm ⟨s, l, c, u⟩ x = a := ha
  rw [ha] at HC
  replace HC := Bx.mk HC
  have H2 := Bx.mk (h.1.set 2 (.int .i32 (c - a)) (pinF ⟨s, l, c - a, u⟩) (pinF_all rfl rfl rfl rfl))
  have d3 := H2.out.cell 3 (by omega)
  rw [pinF_3] at d3
  simp only at d3
  have df3 := H2.out.frozen 3
  have H3 := Bx.mk (H2.out.set 3 (.int .i32 (u + a)) (pinF ⟨s, l, c - a, u + a⟩) (pinF_all rfl rfl rfl rfl))
  have HF := Bx.mk ((h.1.fp 2 (.int .i32 (c - a))).then (H2.out.fp 3 (.int .i32 (u + a))))
  obtain ⟨hz1, hz2⟩ := w64 (x := c) (by omega) (by omega)
  obtain ⟨hz3, hz4⟩ := w64 (x := u + a) (by omega) (by omega)
  obtain ⟨hv1, hv2⟩ := w32 (x := a) (by omega) (by omega)
  obtain ⟨hw1, hw2⟩ := w32 (x := c - a) (by omega) (by omega)
  obtain ⟨hw3, hw4⟩ := w32 (x := u + a) (by omega) (by omega)
  obtain ⟨hs, hhs⟩ : ∃ hs, s / 2 = hs := ⟨_, rfl⟩
  have hq1 : s.tdiv 2 = hs := by rw [Int.tdiv_eq_ediv_of_nonneg (by omega)]; exact hhs
  have hq2 : IntKind.i32.wrap hs = hs := (w32 (by omega) (by omega)).2
  have hq3 : wrap32 hs = hs := (w32 (by omega) (by omega)).1
  have ed : wDone ⟨s, l, c, u⟩ x = if u + a < max hs 1 then (0, ⟨s, l, c - a, u + a⟩) else (u + a, ⟨s, l + (u + a), c - a, 0⟩) := by
    unfold wDone
    rw [ham]
    simp only [hhs]
  rw [ed] at HK ⊢
  obtain ⟨hl1, hl2⟩ := w32 (x := l + (u + a)) (by omega) (by omega)
  clear h ham ed hhs ha
  by_cases g : u + a < max hs 1
  · rw [if_pos g] at HK ⊢
    replace HK := Bx.mk HK
    have hd : decide (u + a < max hs 1) = true := decide_eq_true g
    clear h1 h2 h3 h4 h5 h6 h7 hx g
    go_enter Try.func58, Try.ntmps58
    go_upto_region 4 with (go_at_call 95; refine HC.out.mono ?_; rintro e w1 ⟨rfl, hw⟩; replace hw := hw.symm; subst hw)
    generalize (w.setCell ⟨q, 2, none⟩ (.int .i32 (c - a))).setCell ⟨q, 3, none⟩ (.int .i32 (u + a)) = w2 at H3 HF ⊢
    have e0 := H3.out.cell 0 (by omega)
    have e3 := H3.out.cell 3 (by omega)
    rw [pinF_0] at e0
    rw [pinF_3] at e3
    clear c2 cf2 d3 df3 H2
    go_region
    go_wp2_with fail
    go_ret
    exact ⟨rfl, S, ⟨(Wd.rc _ _ _ _).keep H3.out (Below.refl _ _).drew, HK.out⟩, fun k hk => .inl hk, HF.out.then (Fp.of_below (Below.refl _ _).drew)⟩
  · rw [if_neg g] at HK ⊢
    replace HK := Bx.mk HK
    have hd : decide (u + a < max hs 1) = false := decide_eq_false g
    clear h1 h2 h3 h4 h5 h6 h7 hx g
    go_enter Try.func58, Try.ntmps58
    go_upto_region 4 with (go_at_call 95; refine HC.out.mono ?_; rintro e w1 ⟨rfl, hw⟩; replace hw := hw.symm; subst hw)
    generalize (w.setCell ⟨q, 2, none⟩ (.int .i32 (c - a))).setCell ⟨q, 3, none⟩ (.int .i32 (u + a)) = w2 at H3 HF ⊢
    have e0 := H3.out.cell 0 (by omega)
    have e3 := H3.out.cell 3 (by omega)
    rw [pinF_0] at e0
    rw [pinF_3] at e3
    clear c2 cf2 d3 df3 H2
    go_region
    have H4 := Bx.mk ((Wd.rc _ _ _ _).keep H3.out (Below.refl w2.heap.size w2).drew)
    have HF4 := Bx.mk (HF.out.then (Fp.of_below (Below.refl w2.heap.size w2).drew))
    generalize w2.drew = w4 at H4 HF4 ⊢
    have f1 := H4.out.cell 1 (by omega)
    have f3 := H4.out.cell 3 (by omega)
    rw [pinF_1] at f1
    rw [pinF_3] at f3
    have ff1 := H4.out.frozen 1
    have H5 := Bx.mk (H4.out.set 1 (.int .i32 (l + (u + a))) (pinF ⟨s, l + (u + a), c - a, u + a⟩) (pinF_all rfl rfl rfl rfl))
    have ff3 := H5.out.frozen 3
    clear e0 e3 H3 HF
    go_wp2_with fail
    go_ret
    exact ⟨rfl, S, ⟨H5.out.set 3 _ _ (pinF_all rfl rfl rfl rfl), HK.out⟩, fun k hk => .inl hk, (HF4.out.then (H4.out.fp 1 _)).then (H5.out.fp 3 _)⟩
end
end Go.Proofs.Ytenoaljghbpaaaa
