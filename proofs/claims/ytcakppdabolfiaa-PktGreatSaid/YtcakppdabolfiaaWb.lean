/-
  Words of what stands in memory, by the blocks that they hold: side by side, behind a head block; what a call does to one of several; in any order. No type of the program is named here.
-/
import Derived.Test.YtcakppdabolfiaaFpB
import Derived.Test.YtcakppdabolfiaaOwN
namespace Go.Proofs.Ytcakppdabolfiaa
open Go.RowKit
set_option linter.unusedVariables false

theorem below_next {wA W w' : World} (h : Below wA.heap.size wA W) (hb : Below W.heap.size W w') : Below wA.heap.size wA w' := h.trans (hb.mono h.size)
theorem Fp.up {B : Nat} {w w' : World} (h : Below B w w') : Fp (fun k => B ≤ k) w w' := ⟨h.os, h.tape, h.output, h.size, fun k _ hn => h.block k (Nat.lt_of_not_le hn)⟩
theorem OwB.cat {w : World} {B : Nat} {x : Value} {l m : List UInt8} (h : w.ownsRow B 5 1 x (l.map bv ++ m.map bv).length (l.map bv ++ m.map bv)) : OwB w B x (l ++ m) := by
  unfold OwB
  rw [List.map_append]
  exact h
/-- A word: what stands, and a set of blocks that holds all of it. -/
abbrev Wx := World → (Nat → Prop) → Prop
/-- The word tells of its blocks alone. -/
structure Wd (X : Wx) : Prop where
  lt : ∀ {w : World} {S : Nat → Prop}, X w S → ∀ k, S k → k < w.heap.size
  kept : ∀ {w w' : World} {S : Nat → Prop}, X w S → w.heap.size ≤ w'.heap.size → (∀ k, S k → w'.heap[k]? = w.heap[k]?) → X w' S
section
variable {X X' Y Y' : Wx} {w w' : World} {S S' : Nat → Prop} {B : Nat}
theorem Wd.keep (hX : Wd X) (h : X w S) (hb : Below w.heap.size w w') : X w' S := hX.kept h hb.size fun k hk => hb.block k (hX.lt h k hk)
theorem Wd.besides (hX : Wd X) (h : X w S) (hf : Fp S' w w') (hd : ∀ k, S k → ¬ S' k) : X w' S := hX.kept h hf.size fun k hk => hf.block k (hX.lt h k hk) (hd k hk)
theorem Wd.turned (hX : Wd X) (h : X w S) (hb : Below w.heap.size w w') : Turn X S w w' := ⟨S, hX.keep h hb, fun k hk => .inl hk, Fp.of_below hb⟩

theorem Wd.after (hX : Wd X) {a b c : World} (ht : Turn X S a b) (hb : Below b.heap.size b c) : Turn X S a c := by
  obtain ⟨S', x, s, f⟩ := ht
  exact ⟨S', hX.keep x hb, s, f.then (Fp.of_below hb)⟩
theorem Turn.before {a b c : World} (hb : Below a.heap.size a b) (ht : Turn X S b c) : Turn X S a c := Turn.step (fun k hk => .inl hk) (Fp.of_below hb) ht
/-- Both, apart from one another. -/
def Both (X Y : Wx) : Wx := fun w S => ∃ S1 S2, X w S1 ∧ Y w S2 ∧ (∀ k, S1 k → ¬ S2 k) ∧ ∀ k, S k ↔ S1 k ∨ S2 k
theorem Wd.both (hX : Wd X) (hY : Wd Y) : Wd (Both X Y) := by
  constructor
  · rintro w S ⟨S1, S2, h1, h2, h3, h4⟩ k hk
    rcases (h4 k).1 hk with h | h
    · exact hX.lt h1 k h
    · exact hY.lt h2 k h
  · rintro w w' S ⟨S1, S2, h1, h2, h3, h4⟩ hs hb
    exact ⟨S1, S2, hX.kept h1 hs fun k hk => hb k ((h4 k).2 (.inl hk)), hY.kept h2 hs fun k hk => hb k ((h4 k).2 (.inr hk)), h3, h4⟩
theorem Both.swap (h : Both X Y w S) : Both Y X w S := by
  obtain ⟨S1, S2, h1, h2, h3, h4⟩ := h
  exact ⟨S2, S1, h2, h1, fun k a b => h3 k b a, fun k => (h4 k).trans Or.comm⟩
/-- The first one turns. -/
theorem Both.left (hY : Wd Y) {S1 S2 : Nat → Prop} (h2 : Y w S2) (h3 : ∀ k, S1 k → ¬ S2 k) (h4 : ∀ k, S k ↔ S1 k ∨ S2 k) (ht : Turn X' S1 w w') : Turn (Both X' Y) S w w' := by
  obtain ⟨S', x, s, f⟩ := ht
  refine ⟨fun k => S' k ∨ S2 k, ⟨S', S2, x, hY.besides h2 f (fun k hk hs => h3 k hs hk), fun k hk hs => ?_, fun k => Iff.rfl⟩, fun k hk => ?_, f.mono fun k hk => (h4 k).2 (.inl hk)⟩
  · rcases s k hk with h | h
    · exact h3 k h hs
    · have := hY.lt h2 k hs; omega
  · rcases hk with hk | hk
    · rcases s k hk with h | h
      · exact .inl ((h4 k).2 (.inl h))
      · exact .inr h
    · exact .inl ((h4 k).2 (.inr hk))
theorem Both.right (hX : Wd X) {S1 S2 : Nat → Prop} (h1 : X w S1) (h3 : ∀ k, S1 k → ¬ S2 k) (h4 : ∀ k, S k ↔ S1 k ∨ S2 k) (ht : Turn Y' S2 w w') : Turn (Both X Y') S w w' := by
  obtain ⟨S', x, s, f⟩ := Both.left hX h1 (fun k a b => h3 k b a) (fun k => (h4 k).trans Or.comm) ht
  exact ⟨S', x.swap, s, f⟩
theorem Both.fst (h : Both X Y w S) : ∃ S1, X w S1 ∧ ∀ k, S1 k → S k := by
  obtain ⟨S1, S2, h1, h2, h3, h4⟩ := h
  exact ⟨S1, h1, fun k hk => (h4 k).2 (.inl hk)⟩
theorem Both.snd (h : Both X Y w S) : ∃ S2, Y w S2 ∧ ∀ k, S2 k → S k := by
  obtain ⟨S1, S2, h1, h2, h3, h4⟩ := h
  exact ⟨S2, h2, fun k hk => (h4 k).2 (.inr hk)⟩

/-- A head block q of n cells, and what it holds. -/
def Hd (q : Nat) (ty : TypeId) (n : Nat) (F : Nat → Value) (X : Wx) : Wx := fun w S => ∃ S', w.rowIs q ty n F ∧ X w S' ∧ ¬ S' q ∧ ∀ k, S k ↔ S' k ∨ k = q
section
variable {q n : Nat} {ty : TypeId} {F F' : Nat → Value}
theorem Wd.hd (hX : Wd X) : Wd (Hd q ty n F X) := by
  constructor
  · rintro w S ⟨S', h1, h2, h3, h4⟩ k hk
    rcases (h4 k).1 hk with h | rfl
    · exact hX.lt h2 k h
    · exact h1.lt
  · rintro w w' S ⟨S', h1, h2, h3, h4⟩ hs hb
    exact ⟨S', h1.of_block (hb q ((h4 q).2 (.inr rfl))), hX.kept h2 hs (fun k hk => hb k ((h4 k).2 (.inl hk))), h3, h4⟩
theorem Hd.row (h : Hd q ty n F X w S) : w.rowIs q ty n F := by obtain ⟨_, h1, _⟩ := h; exact h1
theorem Hd.lt (h : Hd q ty n F X w S) : q < w.heap.size := h.row.lt
theorem Hd.has (h : Hd q ty n F X w S) : S q := by obtain ⟨S', _, _, _, h4⟩ := h; exact (h4 q).2 (.inr rfl)
theorem Hd.sub (h : Hd q ty n F X w S) : ∃ S', X w S' ∧ ¬ S' q ∧ ∀ k, S' k → S k := by obtain ⟨S', _, h2, h3, h4⟩ := h; exact ⟨S', h2, h3, fun k hk => (h4 k).2 (.inl hk)⟩
/-- A store into one of the head's cells. -/
theorem Hd.put (hX : Wd X) (h : Hd q ty n F X w S) (i : Nat) (v : Value) (hF : ∀ j, j < n → (if j = i then v else F j) = F' j) : Hd q ty n F' X (w.setCell ⟨q, i, none⟩ v) S ∧ Fp S w (w.setCell ⟨q, i, none⟩ v) := by
  obtain ⟨S', h1, h2, h3, h4⟩ := h
  have hf : Fp (fun k => k = q) w (w.setCell ⟨q, i, none⟩ v) := Fp.set _ _ _ _ rfl
  exact ⟨⟨S', (h1.set i v).congr hF, hX.besides h2 hf (fun k hk e => h3 (e ▸ hk)), h3, h4⟩, hf.mono fun k hk => (h4 k).2 (.inr hk)⟩
theorem Hd.set (hX : Wd X) (h : Hd q ty n F X w S) (i : Nat) (v : Value) (hF : ∀ j, j < n → (if j = i then v else F j) = F' j) : Turn (Hd q ty n F' X) S w (w.setCell ⟨q, i, none⟩ v) :=
  ⟨S, (h.put hX i v hF).1, fun k hk => .inl hk, (h.put hX i v hF).2⟩
/-- What the head holds turns. -/
theorem Hd.turn (h : Hd q ty n F X w S) (ht : ∀ S', X w S' → Turn X' S' w w') : Turn (Hd q ty n F X') S w w' := by
  obtain ⟨S', h1, h2, h3, h4⟩ := h
  obtain ⟨S2, r2, s2, f2⟩ := ht S' h2
  have hsz := f2.size
  have hq := h1.lt
  refine ⟨fun k => S2 k ∨ k = q, ⟨S2, h1.of_block (f2.block q hq h3), r2, fun hs => ?_, fun k => Iff.rfl⟩, fun k hk => ?_, f2.mono fun k hk => (h4 k).2 (.inl hk)⟩
  · rcases s2 q hs with h | h
    · exact h3 h
    · omega
  · rcases hk with hk | rfl
    · rcases s2 k hk with h | h
      · exact .inl ((h4 k).2 (.inl h))
      · exact .inr h
    · exact .inl ((h4 k).2 (.inr rfl))
/-- What the head holds, for a call that turns it. -/
theorem Hd.opens (h : Hd q ty n F X w S) : ∃ S', X w S' ∧ ¬ S' q ∧ (∀ k, S' k → S k) ∧ ∀ (w' : World) (X' : Wx), Turn X' S' w w' → Turn (Hd q ty n F X') S w w' := by
  obtain ⟨S', h1, h2, h3, h4⟩ := h
  refine ⟨S', h2, h3, fun k hk => (h4 k).2 (.inl hk), fun w' X' ht => ?_⟩
  obtain ⟨S2, r2, s2, f2⟩ := ht
  have hsz := f2.size
  have hq := h1.lt
  refine ⟨fun k => S2 k ∨ k = q, ⟨S2, h1.of_block (f2.block q hq h3), r2, fun hs => ?_, fun k => Iff.rfl⟩, fun k hk => ?_, f2.mono fun k hk => (h4 k).2 (.inl hk)⟩
  · rcases s2 q hs with h | h
    · exact h3 h
    · omega
  · rcases hk with hk | rfl
    · rcases s2 k hk with h | h
      · exact .inl ((h4 k).2 (.inl h))
      · exact .inr h
    · exact .inl ((h4 k).2 (.inr rfl))
/-- A head that is made. -/
theorem Hd.new (hX : Wd X) (h : X w S) (c : Array Value) (hc : ∀ i, i < c.size → c[i]? = some (F i)) : Hd w.heap.size ty c.size F X (w.alloc (.cells c ty)) (fun k => S k ∨ k = w.heap.size) :=
  ⟨S, World.rowIs_alloc w c ty F hc, hX.keep h ((Below.refl _ _).alloc (Nat.le_refl _) _), fun hs => by have := hX.lt h _ hs; omega, fun k => Iff.rfl⟩
end

/-- All that the word tells of, made since block B. -/
def Up (B : Nat) (X : Wx) (w : World) : Prop := ∃ S, X w S ∧ ∀ k, S k → B ≤ k
theorem Up.keep (hX : Wd X) (h : Up B X w) (hb : Below w.heap.size w w') : Up B X w' := by
  obtain ⟨S, h1, h2⟩ := h
  exact ⟨S, hX.keep h1 hb, h2⟩
theorem Up.turn (hs : ∀ k, S k → B ≤ k) (hB : B ≤ w.heap.size) (ht : Turn X' S w w') : Up B X' w' ∧ Below B w w' := by
  obtain ⟨S1, x, s, f⟩ := ht
  exact ⟨⟨S1, x, fun k hk => (s k hk).elim (hs k) fun h => Nat.le_trans hB h⟩, f.below hB hs⟩
theorem Up.swap (h : Up B (Both X Y) w) : Up B (Both Y X) w := by
  obtain ⟨S, h1, h2⟩ := h
  exact ⟨S, h1.swap, h2⟩
theorem Up.fst (h : Up B (Both X Y) w) : Up B X w := by
  obtain ⟨S, h1, h2⟩ := h
  obtain ⟨S1, a, b⟩ := h1.fst
  exact ⟨S1, a, fun k hk => h2 k (b k hk)⟩
theorem Up.snd (h : Up B (Both X Y) w) : Up B Y w := h.swap.fst
/-- One of two, for a call that turns it. -/
theorem Up.open1 (hY : Wd Y) (h : Up B (Both X Y) w) (hB : B ≤ w.heap.size) : ∃ S1, X w S1 ∧ ∀ (w' : World) (X' : Wx), Turn X' S1 w w' → Up B (Both X' Y) w' ∧ Below B w w' := by
  obtain ⟨S, ⟨S1, S2, h1, h2, h3, h4⟩, h5⟩ := h
  exact ⟨S1, h1, fun w' X' ht => Up.turn h5 hB (Both.left hY h2 h3 h4 ht)⟩
theorem Up.open0 (h : Up B X w) (hB : B ≤ w.heap.size) : ∃ S1, X w S1 ∧ ∀ (w' : World) (X' : Wx), Turn X' S1 w w' → Up B X' w' ∧ Below B w w' := by
  obtain ⟨S, h1, h5⟩ := h
  exact ⟨S, h1, fun w' X' ht => Up.turn h5 hB ht⟩
/-- One more, made behind. -/
theorem Up.add (hX : Wd X) (h : Up B X w) (hB : B ≤ w.heap.size) (hb : Below w.heap.size w w') (hn : Up w.heap.size Y w') : Up B (Both X Y) w' := by
  obtain ⟨S, h1, h2⟩ := h
  obtain ⟨S', k1, k2⟩ := hn
  exact ⟨fun k => S k ∨ S' k, ⟨S, S', hX.keep h1 hb, k1, fun k a b => by have := hX.lt h1 k a; have := k2 k b; omega, fun k => Iff.rfl⟩, fun k hk => hk.elim (h2 k) fun h => Nat.le_trans hB (k2 k h)⟩
theorem Up.mono {B' : Nat} (h : Up B X w) (hB : B' ≤ B) : Up B' X w := by
  obtain ⟨S, h1, h2⟩ := h
  exact ⟨S, h1, fun k hk => Nat.le_trans hB (h2 k hk)⟩
theorem Up.assoc {Z : Wx} (h : Up B (Both X (Both Y Z)) w) : Up B (Both (Both X Y) Z) w := by
  obtain ⟨S, ⟨S1, S2, h1, ⟨S3, S4, k1, k2, k3, k4⟩, h3, h4⟩, h5⟩ := h
  refine ⟨S, ⟨fun k => S1 k ∨ S3 k, S4, ⟨S1, S3, h1, k1, fun k a b => h3 k a ((k4 k).2 (.inl b)), fun k => Iff.rfl⟩, k2, fun k a b => ?_, fun k => ?_⟩, h5⟩
  · rcases a with a | a
    · exact h3 k a ((k4 k).2 (.inr b))
    · exact k3 k a b
  · rw [h4 k, k4 k, or_assoc]

/-! ### what is no row of bytes -/
/-- The blocks of S stand, and none is a row of bytes. -/
def NoB (w : World) (S : Nat → Prop) : Prop := ∀ k, S k → ∃ o, w.heap[k]? = some o ∧ ∀ (c : Array Value) (z : Nat × Nat), o ≠ Obj.cells c 5 z
theorem NoB.same (hn : NoB w S) (h : NonB w w') : ∀ k, S k → w'.heap[k]? = w.heap[k]? := fun k hk => by
  obtain ⟨o, h1, h2⟩ := hn k hk
  rw [h1]; exact h k o h1 h2
theorem NoB.non (hn : NoB w S) (h : NonB w w') : NoB w' S := fun k hk => by
  obtain ⟨o, h1, h2⟩ := hn k hk
  exact ⟨o, h k o h1 h2, h2⟩
theorem NoB.keep (hn : NoB w S) (h : Below w.heap.size w w') : NoB w' S := hn.non (NonB.of_below h)
theorem NoB.not {v : Value} {l : List UInt8} (hn : NoB w S) (h : OwB w B v l) : ∀ k, v.ownBlock = some k → ¬ S k := fun k hk hs => by
  obtain ⟨o, h1, h2⟩ := hn k hs
  rcases h.2 with ⟨rfl, _⟩ | ⟨g, cap, cur, rfl, hg, hh, rest⟩
  · simp [Value.ownBlock] at hk
  · simp only [Value.ownBlock, Option.some.injEq] at hk
    subst hk
    rw [h1] at hh
    injection hh with hh
    exact h2 _ _ hh
theorem OwB.besides {v : Value} {l : List UInt8} (h : OwB w B v l) (hn : NoB w S) (hf : Fp S w w') : OwB w' B v l := h.kept fun k hk => hf.block k (h.lt hk) (hn.not h k hk)
theorem NoB.row {q n : Nat} {ty : TypeId} {F : Nat → Value} (h : w.rowIs q ty n F) (ht : ty ≠ 5) : ∃ o, w.heap[q]? = some o ∧ ∀ (c : Array Value) (z : Nat × Nat), o ≠ Obj.cells c 5 z := by
  obtain ⟨c, hc, _⟩ := h
  exact ⟨_, hc, fun c z e => by injection e with _ e2 _; exact ht e2⟩
/-- The word's blocks can be told so closely that none is a row of bytes. -/
def Ex (X : Wx) : Prop := ∀ (w : World) (S : Nat → Prop), X w S → ∃ E, X w E ∧ (∀ k, E k → S k) ∧ NoB w E
theorem Ex.hd {q n : Nat} {ty : TypeId} {F : Nat → Value} (hX : Ex X) (ht : ty ≠ 5) : Ex (Hd q ty n F X) := by
  rintro w S ⟨S', h1, h2, h3, h4⟩
  obtain ⟨E, e1, e2, e3⟩ := hX w S' h2
  refine ⟨fun k => E k ∨ k = q, ⟨E, h1, e1, fun h => h3 (e2 _ h), fun k => Iff.rfl⟩, fun k hk => (h4 k).2 (hk.imp (e2 k) id), fun k hk => ?_⟩
  rcases hk with hk | rfl
  · exact e3 k hk
  · exact NoB.row h1 ht
theorem Ex.both (hX : Ex X) (hY : Ex Y) : Ex (Both X Y) := by
  rintro w S ⟨S1, S2, h1, h2, h3, h4⟩
  obtain ⟨E, e1, e2, e3⟩ := hX w S1 h1
  obtain ⟨G, g1, g2, g3⟩ := hY w S2 h2
  exact ⟨fun k => E k ∨ G k, ⟨E, G, e1, g1, fun k a b => h3 k (e2 k a) (g2 k b), fun k => Iff.rfl⟩, fun k hk => (h4 k).2 (hk.imp (e2 k) (g2 k)), fun k hk => hk.elim (e3 k) (g3 k)⟩
theorem Turn.sub {E : Nat → Prop} (ht : Turn X E w w') (hs : ∀ k, E k → S k) : Turn X S w w' := by
  obtain ⟨S', x, s, f⟩ := ht
  exact ⟨S', x, fun k hk => (s k hk).imp (hs k) id, f.mono hs⟩
/-- A turn tells its blocks closely, too. -/
theorem Turn.close (hX : Ex X) (ht : Turn X S w w') : ∃ E, X w' E ∧ (∀ k, E k → S k ∨ w.heap.size ≤ k) ∧ Fp S w w' ∧ NoB w' E := by
  obtain ⟨S', x, s, f⟩ := ht
  obtain ⟨E, e1, e2, e3⟩ := hX w' S' x
  exact ⟨E, e1, fun k hk => s k (e2 k hk), f, e3⟩
end

/-! ### in any order -/
theorem Both.comm (X Y : Wx) : Both X Y = Both Y X := by
  funext w S
  exact propext ⟨Both.swap, Both.swap⟩
theorem Both.assoc (X Y Z : Wx) : Both (Both X Y) Z = Both X (Both Y Z) := by
  funext w S
  refine propext ⟨?_, ?_⟩
  · rintro ⟨S1, S2, ⟨S3, S4, k1, k2, k3, k4⟩, h2, h3, h4⟩
    exact ⟨S3, fun k => S4 k ∨ S2 k, k1, ⟨S4, S2, k2, h2, fun k a b => h3 k ((k4 k).2 (.inr a)) b, fun k => Iff.rfl⟩, fun k a b => b.elim (k3 k a) (h3 k ((k4 k).2 (.inl a))), fun k => by rw [h4 k, k4 k, or_assoc]⟩
  · rintro ⟨S1, S2, h1, ⟨S3, S4, k1, k2, k3, k4⟩, h3, h4⟩
    exact ⟨fun k => S1 k ∨ S3 k, S4, ⟨S1, S3, h1, k1, fun k a b => h3 k a ((k4 k).2 (.inl b)), fun k => Iff.rfl⟩, k2, fun k a b => a.elim (fun a => h3 k a ((k4 k).2 (.inr b))) fun a => k3 k a b, fun k => by rw [h4 k, k4 k, or_assoc]⟩
instance : Std.Commutative Both := ⟨Both.comm⟩
instance : Std.Associative Both := ⟨Both.assoc⟩
theorem Up.ac {B : Nat} {X X' : Wx} {w : World} (h : Up B X w) (e : X = X') : Up B X' w := e ▸ h
end Go.Proofs.Ytcakppdabolfiaa
