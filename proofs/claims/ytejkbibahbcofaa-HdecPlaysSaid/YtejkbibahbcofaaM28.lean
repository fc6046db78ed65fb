/-
  Texts put together: Pt.
-/
import Derived.Test.YtejkbibahbcofaaM27
import Derived.Test.YtejkbibahbcofaaM11

/-
  Parts of a block: their values; slices of them, slices of such slices.
-/
namespace Go.Proofs.Ytejkbibahbcofaa
open Go.RowKit
set_option linter.unusedVariables false

/-- A part: its kind, its index, its strings, whether they are coded. -/
structure Pv where
  k : Nat
  i : Nat
  n : ByteArray
  v : ByteArray
  h : Bool
instance : Inhabited Pv := ⟨⟨0, 0, ByteArray.empty, ByteArray.empty, false⟩⟩
def Pv.cs (p : Pv) : Array Value := #[.int .u8 (p.k : Int), .int .u64 (p.i : Int), .string p.n, .string p.v, .bool p.h]
def Pv.ok (p : Pv) : Prop := p.k < 256 ∧ p.i < 18446744073709551616 ∧ p.n.size ≤ 200 ∧ p.v.size ≤ 200
/-- What a part's line begins with. -/
def lineF (k : Nat) : UInt8 := if k = 4 then 0 else if k = 5 then 16 else 64
def lineK (k : Nat) : Nat := if k = 4 then 4 else if k = 5 then 4 else 6
def Pv.w (p : Pv) : List UInt8 :=
  if p.k % 8 < 2 then pre 128 7 p.i else if p.k % 8 = 7 then pre 32 5 p.i else litW (lineF (p.k % 8)) (lineK (p.k % 8)) p.i p.h p.n.data.toList p.v.data.toList
theorem Pv.w_len (p : Pv) (h : p.ok) : p.w.length ≤ 440 := by
  unfold Pv.w
  have h1 : p.n.data.toList.length = p.n.size := by simp
  have h2 : p.v.data.toList.length = p.v.size := by simp
  have h3 := h.2.2
  split
  · have := (pre_len 128 7 p.i).2; omega
  · split
    · have := (pre_len 32 5 p.i).2; omega
    · have := (litW_len (lineF (p.k % 8)) (lineK (p.k % 8)) p.i p.h p.n.data.toList p.v.data.toList).2; omega
/-- Block g holds the part p. -/
def Pb (w : World) (g : Nat) (p : Pv) : Prop := w.heap[g]? = some (.cells p.cs 33 (0, 0))
theorem Pb.cells {w : World} {g : Nat} {p : Pv} (h : Pb w g p) : w.cell? ⟨g, 0, none⟩ = some (.int .u8 (p.k : Int)) ∧ w.cell? ⟨g, 1, none⟩ = some (.int .u64 (p.i : Int)) ∧ w.cell? ⟨g, 2, none⟩ = some (.string p.n) ∧ w.cell? ⟨g, 3, none⟩ = some (.string p.v) ∧ w.cell? ⟨g, 4, none⟩ = some (.bool p.h) := by
  unfold Pb at h
  refine ⟨?_, ?_, ?_, ?_, ?_⟩ <;> simp [World.cell?, h, Pv.cs]
theorem Pb.new (w : World) (p : Pv) : Pb (w.alloc (.cells p.cs 33)) w.heap.size p := heap_alloc_last w _
theorem Pb.lt {w : World} {g : Nat} {p : Pv} (h : Pb w g p) : g < w.heap.size := (Array.getElem?_eq_some_iff.1 h).1
theorem Pb.keep {w w' : World} {g : Nat} {p : Pv} (h : Pb w g p) (hb : Below w.heap.size w w') : Pb w' g p := by
  unfold Pb
  rw [hb.block g h.lt]
  exact h
theorem Pb.non {w w' : World} {g : Nat} {p : Pv} (h : Pb w g p) (hn : NonB w w') : Pb w' g p := hn.fb h (by decide)

/-! ### slices of parts -/
def pvl (p : Pv) : List Value := [.int .u8 (p.k : Int), .int .u64 (p.i : Int), .string p.n, .string p.v, .bool p.h]
def Ps (w : World) (v : Value) (l : List Pv) : Prop := Rn 5 w v l.length (l.flatMap pvl)
theorem pvl_length (l : List Pv) : (l.flatMap pvl).length = l.length * 5 := by
  induction l with
  | nil => rfl
  | cons a l ih => rw [List.flatMap_cons, List.length_append, ih]; simp [pvl]; omega
theorem pvl_at (l : List Pv) (i j : Nat) (h : i < l.length) (hj : j < 5) : (l.flatMap pvl)[i * 5 + j]? = (pvl l[i])[j]? := by
  induction l generalizing i with
  | nil => simp at h
  | cons a l ih =>
    rw [List.flatMap_cons]
    cases i with
    | zero => rw [Nat.zero_mul, Nat.zero_add, List.getElem?_append_left (by simpa [pvl] using hj)]; rfl
    | succ i =>
      have := ih i (by simpa using h)
      have e1 : (i + 1) * 5 + j = (pvl a).length + (i * 5 + j) := by simp [pvl]; omega
      rw [e1, List.getElem?_append_right (by omega), Nat.add_sub_cancel_left]
      simpa using this
theorem Ps.keep {w w' : World} {v : Value} {l : List Pv} (h : Ps w v l) (hb : Below w.heap.size w w') : Ps w' v l := Rn.keep h hb
theorem Ps.run_len {w : World} {v : Value} {l : List Pv} (h : Ps w v l) (ty : TypeId) (W : World) : (Builtin.len_ #[30] ty #[v]).run Try.prog W = .ok (.int .i64 (l.length : Int)) W := by
  obtain ⟨A, c, rfl, h1, h2, h3⟩ := h
  simp [Builtin.len_, run_underlying Try.underlying30, goInt]
theorem Ps.at_ {w : World} {v : Value} {l : List Pv} (h : Ps w v l) (i : Nat) (hi : i < l.length) :
    ∃ b o : Nat, (∀ (q : IntKind) (W : World), (Instr.indexAt 30 v (.int q (i : Int))).run Try.prog W = .ok (.pointer (some ⟨b, o, none⟩)) W) ∧
      ∀ W : World, Ps W v l → W.cell? ⟨b, o, none⟩ = some (.int .u8 (l[i].k : Int)) ∧ W.cell? ⟨b, o + 1, none⟩ = some (.int .u64 (l[i].i : Int)) ∧ W.cell? ⟨b, o + 2, none⟩ = some (.string l[i].n) ∧ W.cell? ⟨b, o + 3, none⟩ = some (.string l[i].v) ∧ W.cell? ⟨b, o + 4, none⟩ = some (.bool l[i].h) := by
  obtain ⟨b, o, c, rfl, h1, h2, h3, hc⟩ := Rn.at_ h (by omega) (by omega)
  have hsz : ∀ W : World, (sizeOf (Try.prog.elem 30)).run Try.prog W = .ok 5 W := fun W => by kernel_rfl
  refine ⟨b, o + i * 5, fun q W => ?_, fun W hW => ?_⟩
  · simp [Instr.indexAt, asIntOf, run_underlying Try.underlying30, Sem.run_bind, hi, Result.andThen]
    simp [Addr.add]
  · obtain ⟨b', o', c', e, _, _, _, hc'⟩ := Rn.at_ hW (by omega) (by omega)
    injection e with e1 e2 e3
    injection e1 with e1
    injection e1 with e1 e4
    subst e1; subst e4
    have g := fun j hj u hu => hc' (i * 5 + j) u (by rw [pvl_at l i j hi hj]; exact hu)
    exact ⟨g 0 (by omega) _ rfl, by have := g 1 (by omega) _ rfl; rwa [← Nat.add_assoc] at this, by have := g 2 (by omega) _ rfl; rwa [← Nat.add_assoc] at this, by have := g 3 (by omega) _ rfl; rwa [← Nat.add_assoc] at this, by have := g 4 (by omega) _ rfl; rwa [← Nat.add_assoc] at this⟩
/-- Each part's numbers fit, and its strings are no longer than any machine holds. -/
def SmallP (l : List Pv) : Prop := ∀ p ∈ l, p.k < 256 ∧ p.i < 18446744073709551616 ∧ p.n.size ≤ 140737488351232 ∧ p.v.size ≤ 140737488351232

/-! ### slices of slices of parts -/
/-- The value reads as these slices; each of them reads as its parts. -/
def Pss (w : World) (v : Value) (vs : List Value) (ll : List (List Pv)) : Prop := Rd w v vs ∧ vs.length = ll.length ∧ ∀ i (h : i < vs.length) (h' : i < ll.length), Ps w vs[i] ll[i]
theorem Pss.keep {w w' : World} {v : Value} {vs : List Value} {ll : List (List Pv)} (h : Pss w v vs ll) (hb : Below w.heap.size w w') : Pss w' v vs ll := ⟨Rd.keep h.1 hb, h.2.1, fun i a b => (h.2.2 i a b).keep hb⟩
theorem Pss.run_len {w : World} {v : Value} {vs : List Value} {ll : List (List Pv)} (h : Pss w v vs ll) (ty : TypeId) (W : World) : (Builtin.len_ #[22] ty #[v]).run Try.prog W = .ok (.int .i64 (ll.length : Int)) W := by
  obtain ⟨⟨A, c, rfl, h1, h2, h3⟩, h4, _⟩ := h
  rw [← h4]
  simp [Builtin.len_, run_underlying Try.underlying22, goInt]
theorem Pss.at_ {w : World} {v : Value} {vs : List Value} {ll : List (List Pv)} (h : Pss w v vs ll) (i : Nat) (hi : i < ll.length) :
    ∃ (b o : Nat) (u : Value), (∀ (W : World), (Instr.indexAt 22 v (.int .i64 (i : Int))).run Try.prog W = .ok (.pointer (some ⟨b, o, none⟩)) W) ∧ (∃ a n c, u = .slice a n c) ∧ Ps w u ll[i] ∧
      ∀ W : World, Pss W v vs ll → W.cell? ⟨b, o, none⟩ = some u ∧ Ps W u ll[i] := by
  have hiv : i < vs.length := by have := h.2.1; omega
  obtain ⟨b, o, c, rfl, h1, h2, h3, hc⟩ := Rd.at_ h.1 (by omega)
  refine ⟨b, o + i, vs[i], fun W => ?_, ?_, h.2.2 i hiv hi, fun W hW => ⟨?_, hW.2.2 i hiv hi⟩⟩
  · simp [Instr.indexAt, asIntOf, run_underlying Try.underlying22, Sem.run_bind, hiv, Result.andThen]
    simp [Addr.add]
  · obtain ⟨A, c', e, _⟩ := h.2.2 i hiv hi
    exact ⟨_, _, _, e⟩
  · obtain ⟨b', o', c', e, _, _, _, hc'⟩ := Rd.at_ hW.1 (by omega)
    injection e with e1 e2 e3
    injection e1 with e1
    injection e1 with e1 e4
    subst e1; subst e4
    exact hc' i _ (List.getElem?_eq_getElem hiv)

end Go.Proofs.Ytejkbibahbcofaa
