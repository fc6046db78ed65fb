/-
  A table that changes, as plain mathematics. No program is named here.
-/
import Derived.Test.YtjebemcghikgpaaFdMath
namespace Go.Proofs.Ytjebemcghikgpaa
set_option linter.unusedVariables false

/-- The number of the newest one for which p holds; b: the number of the oldest. -/
def nw (p : Fd → Bool) (b : Nat) : List Fd → Option Nat
  | [] => none
  | f :: l => match nw p (b + 1) l with
    | some a => some a
    | none => if p f then some b else none

theorem nw_snoc (p : Fd → Bool) (f : Fd) : ∀ (b : Nat) (l : List Fd), nw p b (l ++ [f]) = if p f then some (b + l.length) else nw p b l
  | b, [] => by simp [nw]
  | b, g :: l => by
    simp only [List.cons_append, nw, nw_snoc p f (b + 1) l]
    by_cases h : p f
    · simp [h]; omega
    · simp [h]
theorem nw_bound (p : Fd → Bool) : ∀ (b : Nat) (l : List Fd) (a : Nat), nw p b l = some a → b ≤ a ∧ a < b + l.length
  | b, [], a, h => by simp [nw] at h
  | b, f :: l, a, h => by
    simp only [nw] at h
    simp only [List.length_cons]
    cases hc : nw p (b + 1) l with
    | some c => rw [hc] at h; simp only [Option.some.injEq] at h; have := nw_bound p (b + 1) l c hc; omega
    | none => rw [hc] at h; simp at h; have := h.2; omega
theorem nw_hit (p : Fd → Bool) (b : Nat) (f : Fd) (l : List Fd) (h : p f = true) : ∃ a, nw p b (f :: l) = some a := by
  simp only [nw]
  cases nw p (b + 1) l with
  | some c => exact ⟨c, rfl⟩
  | none => exact ⟨b, by simp [h]⟩
theorem nw_miss (p : Fd → Bool) (b : Nat) (f : Fd) (l : List Fd) (h : p f = false) : nw p b (f :: l) = nw p (b + 1) l := by
  simp only [nw]
  cases nw p (b + 1) l <;> simp [h]
theorem nw_last (p : Fd → Bool) (b : Nat) (f : Fd) (l : List Fd) (h : p f = true) (hb : nw p b (f :: l) = some b) : nw p (b + 1) l = none := by
  simp only [nw] at hb
  cases hc : nw p (b + 1) l with
  | none => rfl
  | some c =>
    rw [hc] at hb
    have := nw_bound p _ _ _ hc
    simp only [Option.some.injEq] at hb
    omega
theorem nw_more (p : Fd → Bool) (b a : Nat) (f : Fd) (l : List Fd) (hb : nw p b (f :: l) = some a) (hne : a ≠ b) : nw p (b + 1) l = some a := by
  simp only [nw] at hb
  cases hc : nw p (b + 1) l with
  | some c => rw [hc] at hb; exact hb
  | none => rw [hc] at hb; simp at hb; have := hb.2; omega
theorem nw_take_succ (p : Fd → Bool) (b : Nat) (l : List Fd) (k : Nat) (hk : k < l.length) : nw p b (l.take (k + 1)) = if p l[k] then some (b + k) else nw p b (l.take k) := by
  rw [List.take_succ_eq_append_getElem hk, nw_snoc, List.length_take, Nat.min_eq_left (by omega)]

/-- What is left when the oldest go till no more than room is taken. -/
def fits (room : Int) : List Fd → List Fd
  | [] => []
  | f :: l => if room < (sizeF (f :: l) : Int) then fits room l else f :: l
theorem fits_len (room : Int) : ∀ l, (fits room l).length ≤ l.length
  | [] => Nat.le_refl _
  | f :: l => by
    unfold fits
    split
    · have := fits_len room l; simp; omega
    · exact Nat.le_refl _
theorem fits_drop (room : Int) : ∀ l, fits room l = l.drop (l.length - (fits room l).length)
  | [] => rfl
  | f :: l => by
    have h := fits_drop room l
    have hl := fits_len room l
    unfold fits
    split
    · rw [show (f :: l).length - (fits room l).length = (l.length - (fits room l).length) + 1 by simp; omega, List.drop_succ_cons]
      exact h
    · simp
theorem fits_le (room : Int) : ∀ l, fits room l = [] ∨ (sizeF (fits room l) : Int) ≤ room
  | [] => .inl rfl
  | f :: l => by
    unfold fits
    split
    · exact fits_le room l
    · exact .inr (by omega)
theorem fits_all {room : Int} {l : List Fd} (h : (sizeF l : Int) ≤ room) : fits room l = l := by
  cases l with
  | nil => rfl
  | cons f l => unfold fits; rw [if_neg (by omega)]
theorem fits_neg {room : Int} (h : room < 0) : ∀ l, fits room l = []
  | [] => rfl
  | f :: l => by unfold fits; rw [if_pos (by omega)]; exact fits_neg h l
theorem fits_cons_go {room : Int} {f : Fd} {l : List Fd} (h : room < (sizeF (f :: l) : Int)) : fits room (f :: l) = fits room l := by
  rw [fits, if_pos h]
theorem sizeF_drop (l : List Fd) (k : Nat) : sizeF (l.drop k) ≤ sizeF l := by
  have := sizeF_append (l.take k) (l.drop k)
  rw [List.take_append_drop] at this
  omega
theorem fits_size (room : Int) (l : List Fd) : sizeF (fits room l) ≤ sizeF l := by
  rw [fits_drop room l]; exact sizeF_drop _ _
theorem fits_mem {room : Int} {l : List Fd} {f : Fd} (h : f ∈ fits room l) : f ∈ l := by
  rw [fits_drop room l] at h; exact List.mem_of_mem_drop h
theorem sizeF_mem {l : List Fd} {f : Fd} (h : f ∈ l) : fsz f + 32 ≤ sizeF l := by
  induction l with
  | nil => cases h
  | cons g l ih =>
    rcases List.mem_cons.1 h with rfl | h
    · simp only [sizeF]; omega
    · have := ih h; simp only [sizeF]; omega
theorem sizeF_len (l : List Fd) : 32 * l.length ≤ sizeF l := by
  rw [sizeF_sum]; omega

/-- The table: what stands, the capacity, how many ever stood. -/
structure Tab where
  l : List Fd
  cap : Nat
  tot : Nat
def Tab.new (n : Int) : Tab := ⟨[], n.toNat, 0⟩
def Tab.room (T : Tab) (f : Fd) : Int := (T.cap : Int) - ((fsz f + 32 : Nat) : Int)
def Tab.add (T : Tab) (f : Fd) : Tab := if fsz f + 32 ≤ T.cap then ⟨fits (T.room f) T.l ++ [f], T.cap, T.tot + 1⟩ else ⟨fits (T.room f) T.l, T.cap, T.tot⟩
def Tab.went (T : Tab) (room : Int) : Nat := T.l.length - (fits room T.l).length
def Tab.resize (T : Tab) (n : Int) : Tab := ⟨fits (n.toNat : Int) T.l, n.toNat, T.tot⟩
def Tab.first (T : Tab) : Nat := T.tot - T.l.length
/-- No more stands than ever stood; all within bounds that no number of the program reaches. -/
structure Tab.ok (T : Tab) : Prop where
  len : T.l.length ≤ T.tot
  size : sizeF T.l ≤ 1000000
  cap : T.cap ≤ 1000000
  tot : T.tot ≤ 1000000
theorem Tab.ok.short {T : Tab} (h : T.ok) : T.l.length ≤ 31250 := by have := sizeF_len T.l; have := h.size; omega
theorem Tab.add_tot_le (T : Tab) (f : Fd) : (T.add f).tot ≤ T.tot + 1 := by unfold Tab.add; split <;> simp
theorem Tab.add_cap (T : Tab) (f : Fd) : (T.add f).cap = T.cap := by unfold Tab.add; split <;> rfl
theorem Tab.ok.fitted_ok {T : Tab} (h : T.ok) (room : Int) : Tab.ok ⟨fits room T.l, T.cap, T.tot⟩ :=
  ⟨Nat.le_trans (fits_len _ _) h.len, Nat.le_trans (fits_size _ _) h.size, h.cap, h.tot⟩
theorem Tab.add_size (T : Tab) (f : Fd) (hc : fsz f + 32 ≤ T.cap) : sizeF (fits (T.room f) T.l ++ [f]) ≤ T.cap := by
  rw [sizeF_append]
  have : sizeF [f] = fsz f + 32 := by simp [sizeF]
  rcases fits_le (T.room f) T.l with h | h
  · rw [h]; simp only [sizeF] at *; omega
  · unfold Tab.room at *; omega
theorem Tab.ok.add_ok {T : Tab} (h : T.ok) (f : Fd) (ht : T.tot + 1 ≤ 1000000) : (T.add f).ok := by
  unfold Tab.add
  split
  · rename_i hc
    refine ⟨?_, Nat.le_trans (T.add_size f hc) h.cap, h.cap, ht⟩
    have := fits_len (T.room f) T.l
    have := h.len
    simp only [List.length_append, List.length_singleton]; omega
  · exact h.fitted_ok _
theorem Tab.new_ok {n : Int} (h : n ≤ 1000000) : (Tab.new n).ok := ⟨Nat.le_refl _, by simp [Tab.new, sizeF], by simp only [Tab.new]; omega, by simp [Tab.new]⟩
theorem Tab.ok.resize_ok {T : Tab} (h : T.ok) {n : Int} (hn : n ≤ 1000000) : (T.resize n).ok :=
  ⟨Nat.le_trans (fits_len _ _) h.len, Nat.le_trans (fits_size _ _) h.size, by simp only [Tab.resize]; omega, h.tot⟩

end Go.Proofs.Ytjebemcghikgpaa
