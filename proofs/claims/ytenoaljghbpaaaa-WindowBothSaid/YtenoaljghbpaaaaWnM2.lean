/-
  Both windows together, as plain mathematics: bifoldlaw14's WindowBoth, WindowHalf.
-/
import Derived.Test.YtenoaljghbpaaaaWnMath
namespace Go.Proofs.Ytenoaljghbpaaaa
set_option linter.unusedVariables false

theorem both_step (W : Ws) (h : W.ok) (hs : W.s ≤ 65536) (x y : Int) (hx : 0 ≤ x) (hy : 0 ≤ y) : ∃ (W1 W2 : Ws) (back : Int),
    oUse W.l (min x (max W.l 0)) = (true, W1.l) ∧ wTake W (min x (max W.l 0)) = (true, W1) ∧ W1.ok ∧ W1.s = W.s ∧ wDone W1 y = (back, W2) ∧ W2.ok ∧ W2.s = W.s ∧
    ((back = 0 ∧ W2.l = W1.l) ∨ (0 < back ∧ back ≤ 65536 ∧ oGrow W1.l back = (true, W2.l))) := by
  obtain ⟨s, l, c, u⟩ := W
  have hW := h
  obtain ⟨h1, h2, h3, h4, h5, h6, h7⟩ := h
  simp only at h1 h2 h3 h4 h5 h6 h7 hs
  obtain ⟨k, hk⟩ : ∃ k, min x (max l 0) = k := ⟨_, rfl⟩
  have e2 : wTake ⟨s, l, c, u⟩ k = (true, ⟨s, l - k, c + k, u⟩) := by unfold wTake; rw [if_pos (by simp only; omega)]
  have ok1 := hW.take k
  rw [e2] at ok1
  have ok2 := ok1.done y
  obtain ⟨a, ha⟩ : ∃ a, wAm ⟨s, l - k, c + k, u⟩ y = a := ⟨_, rfl⟩
  have ha2 : a = min (max y 0) (c + k) := ha.symm
  by_cases g : u + a < max (s / 2) 1
  · have e3 : wDone ⟨s, l - k, c + k, u⟩ y = (0, ⟨s, l - k, c + k - a, u + a⟩) := by unfold wDone; rw [ha]; rw [if_pos g]
    rw [e3] at ok2
    refine ⟨⟨s, l - k, c + k, u⟩, ⟨s, l - k, c + k - a, u + a⟩, 0, ?_, ?_, ok1, rfl, e3, ok2, rfl, .inl ⟨rfl, rfl⟩⟩
    · simp only [hk]; unfold oUse; rw [if_pos (by omega)]
    · simp only [hk]; exact e2
  · have e3 : wDone ⟨s, l - k, c + k, u⟩ y = (u + a, ⟨s, l - k + (u + a), c + k - a, 0⟩) := by unfold wDone; rw [ha]; rw [if_neg g]
    rw [e3] at ok2
    refine ⟨⟨s, l - k, c + k, u⟩, ⟨s, l - k + (u + a), c + k - a, 0⟩, u + a, ?_, ?_, ok1, rfl, e3, ok2, rfl, .inr ⟨by omega, by omega, ?_⟩⟩
    · simp only [hk]; unfold oUse; rw [if_pos (by omega)]
    · simp only [hk]; exact e2
    · unfold oGrow; simp only; rw [if_pos (by omega)]
theorem both_last (W : Ws) (h : W.ok) (hs : W.s ≤ 65536) : ∃ (W2 : Ws) (back : Int), wDone W 1099511627776 = (back, W2) ∧ W2.ok ∧ W2.s = W.s ∧ W.s ≤ 2 * max W2.l 0 ∧
    ((back = 0 ∧ W2.l = W.l) ∨ (0 < back ∧ back ≤ 65536 ∧ oGrow W.l back = (true, W2.l))) := by
  obtain ⟨s, l, c, u⟩ := W
  have hW := h
  obtain ⟨h1, h2, h3, h4, h5, h6, h7⟩ := h
  simp only at h1 h2 h3 h4 h5 h6 h7 hs
  have ok2 := hW.done 1099511627776
  have ha : wAm ⟨s, l, c, u⟩ 1099511627776 = c := by unfold wAm; simp only; omega
  by_cases g : u + c < max (s / 2) 1
  · have e3 : wDone ⟨s, l, c, u⟩ 1099511627776 = (0, ⟨s, l, c - c, u + c⟩) := by unfold wDone; rw [ha]; rw [if_pos g]
    rw [e3] at ok2
    exact ⟨_, 0, e3, ok2, rfl, by simp only; omega, .inl ⟨rfl, rfl⟩⟩
  · have e3 : wDone ⟨s, l, c, u⟩ 1099511627776 = (u + c, ⟨s, l + (u + c), c - c, 0⟩) := by unfold wDone; rw [ha]; rw [if_neg g]
    rw [e3] at ok2
    exact ⟨_, _, e3, ok2, rfl, by simp only; omega, .inr ⟨by omega, by omega, by unfold oGrow; simp only; rw [if_pos (by omega)]⟩⟩
end Go.Proofs.Ytenoaljghbpaaaa
