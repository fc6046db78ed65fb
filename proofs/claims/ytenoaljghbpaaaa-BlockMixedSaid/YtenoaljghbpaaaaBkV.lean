/-
  Blocks: the word of a block; what of its methods only read; what a frame of a block holds.
-/
import Derived.Test.YtenoaljghbpaaaaBkR
namespace Go.Proofs.Ytenoaljghbpaaaa
open Go.RowKit
set_option linter.unusedVariables false
set_option linter.unusedSimpArgs false

/-- A block's cells. -/
abbrev bkA (M : Int) (op wh : Bool) (st : Int) (en : Bool) (v : Value) : Array Value := #[.int .i64 M, .bool op, .bool wh, .int .u32 st, .bool en, v]
/-- The program's block at g, its bytes in a row of their own from block B on. -/
def Bk (w : World) (g B : Nat) (M : Nat) (op wh : Bool) (st : Int) (en : Bool) (v : Value) (D : List UInt8) : Prop := Sb 148 w g (bkA (M : Int) op wh st en v) ∧ OwB w B v D
/-- The blocks that a block's methods write. -/
abbrev Sg (g B : Nat) : Nat → Prop := fun k => k = g ∨ B ≤ k
theorem bk_size : (Try.prog.info? 148).map (·.size) = some 6 := by kernel_rfl
section
variable {w w' : World} {g B : Nat} {M : Nat} {op wh : Bool} {st : Int} {en : Bool} {v : Value} {D : List UInt8}
theorem Bk.keep (h : Bk w g B M op wh st en v D) (hb : Below w.heap.size w w') : Bk w' g B M op wh st en v D := ⟨h.1.keep hb, h.2.keep hb⟩
theorem Bk.shape (h : Bk w g B M op wh st en v D) : ∃ A n c, v = .slice A n c := h.2.shape
theorem Bk.ne (h : Bk w g B M op wh st en v D) : some g ≠ v.ownBlock := h.2.neSb h.1 (by decide)
theorem Bk.c0 (h : Bk w g B M op wh st en v D) : w.cell? ⟨g, 0, none⟩ = some (.int .i64 (M : Int)) := h.1.cell 0
theorem Bk.c1 (h : Bk w g B M op wh st en v D) : w.cell? ⟨g, 1, none⟩ = some (.bool op) := h.1.cell 1
theorem Bk.c2 (h : Bk w g B M op wh st en v D) : w.cell? ⟨g, 2, none⟩ = some (.bool wh) := h.1.cell 2
theorem Bk.c3 (h : Bk w g B M op wh st en v D) : w.cell? ⟨g, 3, none⟩ = some (.int .u32 st) := h.1.cell 3
theorem Bk.c4 (h : Bk w g B M op wh st en v D) : w.cell? ⟨g, 4, none⟩ = some (.bool en) := h.1.cell 4
theorem Bk.c5 (h : Bk w g B M op wh st en v D) : w.cell? ⟨g, 5, none⟩ = some v := h.1.cell 5
/-- A store into one of its cells. -/
theorem Bk.set (h : Bk w g B M op wh st en v D) (i : Nat) (x : Value) (hi : i < 6) {M' : Nat} {op' wh' : Bool} {st' : Int} {en' : Bool} (he : (bkA (M : Int) op wh st en v).set i x hi = bkA (M' : Int) op' wh' st' en' v) :
    Bk (w.setCell ⟨g, i, none⟩ x) g B M' op' wh' st' en' v D :=
  ⟨by rw [← he]; exact h.1.set i x hi, h.2.kept fun k hk => (grown_set w g i x).block k (h.2.lt hk) (fun e => h.ne (by rw [hk, e]))⟩
/-- A block with other bytes. -/
theorem Bk.bytes (h : Sb 148 w g (bkA (M : Int) op wh st en v)) {u : Value} {E : List UInt8} (hu : OwB w B u E) : Bk (w.setCell ⟨g, 5, none⟩ u) g B M op wh st en u E :=
  ⟨h.set 5 u (show 5 < 6 by decide), hu.kept fun k hk => (grown_set w g 5 u).block k (hu.lt hk) (fun e => hu.neSb h (by decide) (by rw [hk, e]))⟩
/-- Whether a block goes on. -/
theorem bkOpen_any (h : Bk w g B M op wh st en v D) : Calls Try.prog 68 #[.pointer (some ⟨g, 0, none⟩)] w fun e w' => e = .returned (.bool op) ∧ w' = w := by
  have c1 := h.c1
  clear h
  go_enter Try.func68, Try.ntmps68
  go_wp2
  go_ret
  exact ⟨rfl, rfl⟩
/-- How much more may come. -/
theorem bkRoom_any (h : Bk w g B M op wh st en v D) (hD : D.length ≤ 1000000) (hM : M ≤ 1000000) : Calls Try.prog 101 #[.pointer (some ⟨g, 0, none⟩)] w fun e w' => e = .returned (.int .i64 (if op then (M : Int) - (D.length : Int) else (M : Int))) ∧ ∃ m, w' = w.drewN m := by
  have c0 := h.c0
  have c1 := h.c1
  have c5 := h.c5
  have hlen := fun tr W => h.2.bs.run_len tr W
  obtain ⟨L, hL⟩ : ∃ L, D.length = L := ⟨_, rfl⟩
  rw [hL] at hlen hD ⊢
  obtain ⟨X, hX⟩ : ∃ X : Int, (M : Int) - (L : Int) = X := ⟨_, rfl⟩
  have hw : wrap64 X = X := by unfold wrap64; omega
  have hw2 : IntKind.i64.wrap X = X := by rw [IntKind.wrap_i64]; omega
  rw [hX]
  clear h hL hD hM
  cases op
  case' false =>
    go_enter Try.func101, Try.ntmps101
    go_wp2_with fail
    go_ret
    exact ⟨rfl, 0, rfl⟩
  case' true =>
    go_enter Try.func101, Try.ntmps101
    go_upto_region 2 with fail
    go_quiet (fail)
    go_wp2_with fail
    go_ret
    exact ⟨rfl, _, rfl⟩
end
/-- A new block. -/
theorem bkNew_any (M : Nat) (hM : M ≤ 1000000) (w : World) : Calls Try.prog 65 #[.int .i64 (M : Int)] w fun e w' => e = .returned (.pointer (some ⟨w.heap.size, 0, none⟩)) ∧ (∀ B, Bk w' w.heap.size B M false false 0 false nilV []) ∧ Below w.heap.size w w' ∧ w'.heap.size = w.heap.size + 1 := by
  have hmx : max (M : Int) 0 = (M : Int) := by omega
  go_enter Try.func65, Try.ntmps65
  go_wp2_with fail
  go_ret
  exact ⟨rfl, fun B => ⟨Sb.new _ w _, OwB.nil _ _⟩, (Below.refl _ _).alloc (Nat.le_refl _) _, by simp⟩
/-- What a frame of a block holds. -/
theorem pyRead_block (ty fl st : Nat) (hty : ty = 1 ∨ ty = 9) (hfl : fl = 0 ∨ fl = 1 ∨ fl = 4 ∨ fl = 5) (hst : st < 4294967296) (hs0 : ¬ st % 2147483648 = 0) (v : Value) (l : List UInt8) (w : World) (T F S : Int) (hT : (ty : Int) = T) (hF : (fl : Int) = F) (hS : (st : Int) = S) (hv : Bs w v l) (hl : l.length ≤ 1000000) :
    Calls Try.prog 31 #[.agg (fraA T F S v)] w fun e w' => ∃ (A1 : Option Addr) (n1 c1 : Nat) (A2 : Option Addr) (n2 c2 : Nat) (c s i : Int), e = .returned (.tuple #[.agg (payA (.slice A1 n1 c1) (.slice A2 n2 c2) c s i), .int .i64 0]) ∧ OwB w' w.heap.size (.slice A1 n1 c1) l ∧ Below w.heap.size w w' := by
  refine (pyRead_any ty fl st v l (by omega) (by omega) hst w T F S hT hF hS hv hl).mono ?_
  rintro e w' ⟨⟨A1, n1, c1, A2, n2, c2, c, s, i, he, hp⟩, hb⟩
  have h8 : hasN fl 8 = false := by rcases hfl with h | h | h | h <;> subst h <;> decide
  have h32 : hasN fl 32 = false := by rcases hfl with h | h | h | h <;> subst h <;> decide
  have hr : payR ty fl st l = 0 := by
    rcases hty with h | h
    · subst h
      have hm : misN 1 st = false := by simp [misN, hs0]
      have ha : aheadN 1 fl = 0 := by simp [aheadN, h8, h32]
      have hp2 : padN fl l = 0 := by simp [padN, h8]
      have hz : sizN 1 fl l.length = false := by simp [sizN, ha]
      unfold payR
      rw [if_neg (by rw [hm]; decide), if_neg (by rw [hz]; decide), if_pos (by decide), if_neg (by omega)]
    · subst h
      have hm : misN 9 st = false := by simp [misN, hs0]
      have hz : sizN 9 fl l.length = false := by simp [sizN]
      unfold payR
      rw [if_neg (by rw [hm]; decide), if_neg (by rw [hz]; decide), if_neg (by decide), if_neg (by decide)]
  rw [hr] at he
  refine ⟨A1, n1, c1, A2, n2, c2, c, s, i, he, ?_, hb⟩
  rcases hty with h | h
  · subst h
    have ha : aheadN 1 fl = 0 := by simp [aheadN, h8, h32]
    have hp2 : padN fl l = 0 := by simp [padN, h8]
    have h1 := ((hp hr).1 (.inr rfl)).1
    unfold dataN at h1
    rw [ha, hp2, Nat.sub_zero, List.take_length, List.drop_zero] at h1
    exact h1
  · exact (hp hr).2 h
end Go.Proofs.Ytenoaljghbpaaaa
