/-
  What a call may write: a set of blocks; what it does to what a word tells of.
-/
import Derived.Test.YtcakppdabolfiaaOwB
import Derived.Deep.OwnRows
namespace Go.Proofs.Ytcakppdabolfiaa
open Go.RowKit
set_option linter.unusedVariables false

/-- Of the blocks that stood, those outside S are as they were. -/
structure Fp (S : Nat → Prop) (w w' : World) : Prop where
  os : w'.os = w.os
  tape : w'.tape = w.tape
  output : w'.output = w.output
  size : w.heap.size ≤ w'.heap.size
  block : ∀ k, k < w.heap.size → ¬ S k → w'.heap[k]? = w.heap[k]?
theorem Fp.refl (S : Nat → Prop) (w : World) : Fp S w w := ⟨rfl, rfl, rfl, Nat.le_refl _, fun _ _ _ => rfl⟩
theorem Fp.trans {S S' : Nat → Prop} {a b c : World} (h : Fp S a b) (k : Fp S' b c) (hs : ∀ i, S' i → S i ∨ a.heap.size ≤ i) : Fp S a c :=
  ⟨k.os.trans h.os, k.tape.trans h.tape, k.output.trans h.output, Nat.le_trans h.size k.size, fun i hi hn => (k.block i (Nat.lt_of_lt_of_le hi h.size) (fun hc => (hs i hc).elim hn fun h1 => by omega)).trans (h.block i hi hn)⟩
theorem Fp.then {S : Nat → Prop} {a b c : World} (h : Fp S a b) (k : Fp S b c) : Fp S a c := h.trans k fun _ h => .inl h
theorem Fp.of_below {S : Nat → Prop} {w w' : World} (h : Below w.heap.size w w') : Fp S w w' := ⟨h.os, h.tape, h.output, h.size, fun k hk _ => h.block k hk⟩
theorem Fp.of_grown {S : Nat → Prop} {w w' : World} {row : Option Nat} (h : w.grownBy w' row) (hr : ∀ k, row = some k → S k) : Fp S w w' :=
  ⟨h.os, h.tape, h.output, h.size, fun k hk hn => h.block k hk fun e => hn (hr k e.symm)⟩
theorem Fp.set (S : Nat → Prop) (w : World) (a : Addr) (v : Value) (ha : S a.block) : Fp S w (w.setCell a v) :=
  ⟨rfl, rfl, rfl, by simp [World.setCell], fun k hk hn => Go.Deep.blk_setCell_other _ _ _ _ (fun e => hn (e ▸ ha))⟩
theorem Fp.below {S : Nat → Prop} {w w' : World} {B : Nat} (h : Fp S w w') (hB : B ≤ w.heap.size) (hS : ∀ k, S k → B ≤ k) : Below B w w' :=
  ⟨h.os, h.tape, h.output, h.size, fun k hk => h.block k (by omega) fun hs => by have := hS k hs; omega⟩
theorem grown_set (w : World) (g i : Nat) (v : Value) : w.grownBy (w.setCell ⟨g, i, none⟩ v) (some g) :=
  ⟨rfl, rfl, rfl, by simp [World.setCell], fun k _ hne => Go.Deep.blk_setCell_other _ _ _ _ (fun e => hne (by rw [e]))⟩
theorem grown_trans {a b c : World} {row : Option Nat} (h : a.grownBy b row) (k : b.grownBy c row) : a.grownBy c row :=
  ⟨k.os.trans h.os, k.tape.trans h.tape, k.output.trans h.output, Nat.le_trans h.size k.size, fun i hi hn => (k.block i (Nat.lt_of_lt_of_le hi h.size) hn).trans (h.block i hi hn)⟩
theorem Fp.mono {S S' : Nat → Prop} {w w' : World} (h : Fp S w w') (hs : ∀ k, S k → S' k) : Fp S' w w' := ⟨h.os, h.tape, h.output, h.size, fun k hk hn => h.block k hk fun hk => hn (hs k hk)⟩
/-- What a call does to what word X tells of: its blocks, and new ones, alone have turned. -/
def Turn (X : World → (Nat → Prop) → Prop) (S : Nat → Prop) (w w' : World) : Prop :=
  ∃ S', X w' S' ∧ (∀ k, S' k → S k ∨ w.heap.size ≤ k) ∧ Fp S w w'
theorem Turn.refl {X : World → (Nat → Prop) → Prop} {S : Nat → Prop} {w w' : World} (h : X w' S) (hb : Below w.heap.size w w') : Turn X S w w' := ⟨S, h, fun k hk => .inl hk, Fp.of_below hb⟩
/-- One turn behind another. -/
theorem Turn.trans {X Y : World → (Nat → Prop) → Prop} {S : Nat → Prop} {a b c : World} (h : Turn X S a b) (k : ∀ S', X b S' → Turn Y S' b c) : Turn Y S a c := by
  obtain ⟨S1, x1, s1, f1⟩ := h
  obtain ⟨S2, y2, s2, f2⟩ := k S1 x1
  refine ⟨S2, y2, fun i hi => ?_, f1.trans f2 s1⟩
  rcases s2 i hi with h | h
  · exact s1 i h
  · exact .inr (Nat.le_trans f1.size h)
theorem Turn.size {X : World → (Nat → Prop) → Prop} {S : Nat → Prop} {w w' : World} (h : Turn X S w w') : w.heap.size ≤ w'.heap.size := by
  obtain ⟨_, _, _, hf⟩ := h; exact hf.size
theorem Turn.step {Y : World → (Nat → Prop) → Prop} {S S1 : Nat → Prop} {a b c : World} (s1 : ∀ k, S1 k → S k ∨ a.heap.size ≤ k) (f1 : Fp S a b) (ht : Turn Y S1 b c) : Turn Y S a c := by
  obtain ⟨S2, y2, s2, f2⟩ := ht
  refine ⟨S2, y2, fun i hi => ?_, f1.trans f2 s1⟩
  rcases s2 i hi with h | h
  · exact s1 i h
  · exact .inr (Nat.le_trans f1.size h)
end Go.Proofs.Ytcakppdabolfiaa
