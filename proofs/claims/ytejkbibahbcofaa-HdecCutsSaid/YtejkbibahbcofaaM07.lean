/-
  Texts put together: HuffI.
-/
import Derived.Test.YtejkbibahbcofaaM05
import Derived.Test.YtejkbibahbcofaaM06

/-
  The document's codes as cells.
-/
namespace Go.Proofs.Ytejkbibahbcofaa
open Go.RowKit
set_option linter.unusedVariables false

/-- The codes' cells where the first q places are written. -/
def outF (q i : Nat) : Value :=
  if i % 2 = 0 then .int .u32 (if pos (i / 2) < q then (cw (i / 2) : Int) else 0) else .int .i64 (if pos (i / 2) < q then (ll (i / 2) : Int) else 0)
def OZ : Array Value := ((List.range 514).map (outF 0)).toArray
theorem oz_row (w : World) : (w.alloc (.cells OZ 100)).rowIs w.heap.size 100 514 (outF 0) := by
  have h : OZ.size = 514 := by unfold OZ; simp
  have := World.rowIs_alloc w OZ 100 (outF 0) (fun i hi => by
    rw [h] at hi
    unfold OZ
    simp [hi])
  rwa [h] at this
theorem makeOZ (W : World) : (Instr.makeSlice 96 (.int .i64 257) (.int .i64 257)).run Try.prog W = .ok (.slice (some ⟨W.heap.size, 0, none⟩) 257 257) (W.alloc (.cells OZ 100)) := by kernel_rfl

theorem outF_set {w : World} {m s : Nat} (h : w.rowIs m 100 514 (outF (pos s))) (hs : s < 257) :
    ((w.setCell ⟨m, s * 2, none⟩ (.int .u32 (cw s : Int))).setCell ⟨m, s * 2 + 1, none⟩ (.int .i64 (ll s : Int))).rowIs m 100 514 (outF (pos s + 1)) :=
  ((h.set _ _).set _ _).congr fun i hi => by
    have hx : i / 2 < 257 := by omega
    by_cases h1 : i = s * 2 + 1
    · rw [if_pos h1]
      have e : i / 2 = s := by omega
      unfold outF
      rw [if_neg (by omega), e, if_pos (by omega)]
    · rw [if_neg h1]
      by_cases h0 : i = s * 2
      · rw [if_pos h0]
        have e : i / 2 = s := by omega
        unfold outF
        rw [if_pos (by omega), e, if_pos (by omega)]
      · rw [if_neg h0]
        have hne : pos (i / 2) ≠ pos s := fun e => by have := pos_inj hx hs e; omega
        unfold outF
        have hiff : pos (i / 2) < pos s ↔ pos (i / 2) < pos s + 1 := by omega
        simp only [hiff]

/-- The document's codes lie in block m. -/
def CodesAt (w : World) (m : Nat) : Prop := w.rowIs m 100 514 (outF 257)
theorem CodesAt.cells {w : World} {m : Nat} (h : CodesAt w m) (s : Nat) (hs : s < 257) :
    w.cell? ⟨m, s * 2, none⟩ = some (.int .u32 (cw s : Int)) ∧ w.cell? ⟨m, s * 2 + 1, none⟩ = some (.int .i64 (ll s : Int)) := by
  have hp := pos_lt hs
  have h0 := World.rowIs.cell h (i := s * 2) (by omega)
  have h1 := World.rowIs.cell h (i := s * 2 + 1) (by omega)
  unfold outF at h0 h1
  rw [if_pos (by omega), show s * 2 / 2 = s from by omega, if_pos hp] at h0
  rw [if_neg (by omega), show (s * 2 + 1) / 2 = s from by omega, if_pos hp] at h1
  exact ⟨h0, h1⟩
theorem CodesAt.keep {w w' : World} {g : Nat} (h : CodesAt w g) (hb : Below w.heap.size w w') : CodesAt w' g := World.rowIs.of_block h (hb.block g (World.rowIs.lt h))

/-- At a row's beginning, within a row. -/
def RowRel (g m : Nat) (w : World) (n c h : Value) (wr : World) : Prop :=
  ∃ k : Nat, n = .int .i64 (k : Int) ∧ 5 ≤ k ∧ k ≤ 31 ∧ c = .int .u32 (cs (pq k) : Int) ∧ h = .int .i64 (hs (pq k) : Int) ∧ wr.rowIs m 100 514 (outF (pq k)) ∧ wr.rowIs g 3 257 intF ∧ Below w.heap.size w wr
def ColRel (g m n : Nat) (w : World) (s c h : Value) (wr : World) : Prop :=
  ∃ k q : Nat, s = .int .i64 (k : Int) ∧ k ≤ 257 ∧ q = pq n + (LL.take k).count n ∧ c = .int .u32 (cs q : Int) ∧ h = .int .i64 (hs q : Int) ∧ wr.rowIs m 100 514 (outF q) ∧ wr.rowIs g 3 257 intF ∧ Below w.heap.size w wr

theorem pq_all : ∀ n, n < 32 → pq n ≤ 257 := by decide +kernel
end Go.Proofs.Ytejkbibahbcofaa
