/-
  Texts put together: Sn, DnFds, DnFb, DnSt, DnMath, DnMap, DnTb, Shelf, DnA, DnStep.
-/
import Derived.Test.YtebakjdeighdnaaM01
import Derived.Test.YtebakjdeighdnaaM03
import Derived.Test.YtebakjdeighdnaaRows
import Derived.Laws.Tables
import Derived.Laws.Rows
import Derived.Laws.ResultCell
import Derived.Deep.WholeRow
import Derived.Deep.OwnRows
import Derived.Laws.IdiomCopy
import Derived.ArgAppend
import Derived.Maps.Own
import Derived.Maps.OwnOps
import Derived.Maps.OwnSet
import Derived.Maps.Views
import Derived.DeepKeys4
import Derived.ProofKit
import Derived.Shelf.LaysM
import Derived.Shelf.Strconv.Clone
import Derived.Test.YtebakjdeighdnaaProg
import Derived.IntWalk
import Derived.Handy
import Derived.Deep.LoopGhost
import Derived.BigRegion
import Derived.RegionTactic
import Derived.Deep.RegionLaw
import Derived.Deep.RegionHeld

/-
  Slices whose elements have k cells each: what reads as n elements, what may be appended to without a write to older memory; append's law. No program is named here.
-/
namespace Go.Proofs.Ytebakjdeighdnaa
open Go.RowKit
set_option linter.unusedVariables false

/-- The value reads in this world as n elements of k cells, the cells xs. -/
def Rn (k : Nat) (w : World) (v : Value) (n : Nat) (xs : List Value) : Prop :=
  ∃ A c, v = .slice A n c ∧ n ≤ c ∧ c ≤ maxLen ∧ xs.length = n * k ∧
    ((A = none ∧ c = 0) ∨ ∃ x, A = some x ∧ ∀ j u, xs[j]? = some u → w.cell? (x.add j) = some u)

theorem Rn.nil (k : Nat) (w : World) : Rn k w (.slice none 0 0) 0 [] := ⟨none, 0, rfl, Nat.le_refl _, Nat.zero_le _, by simp, .inl ⟨rfl, rfl⟩⟩

theorem Rn.len {k : Nat} {w : World} {v : Value} {n : Nat} {xs : List Value} (h : Rn k w v n xs) : n ≤ maxLen := by
  obtain ⟨A, c, _, h1, h2, _⟩ := h; omega
theorem Rn.cells {k : Nat} {w : World} {v : Value} {n : Nat} {xs : List Value} (h : Rn k w v n xs) : xs.length = n * k := by
  obtain ⟨A, c, _, h1, h2, h3, _⟩ := h; exact h3

/-- A list that is not empty: where it lies. -/
theorem Rn.at_ {k : Nat} {w : World} {v : Value} {n : Nat} {xs : List Value} (h : Rn k w v n xs) (hn : 0 < n) (hk : 0 < k) :
    ∃ b o c, v = .slice (some ⟨b, o, none⟩) n c ∧ n ≤ c ∧ c ≤ maxLen ∧ b < w.heap.size ∧ ∀ j u, xs[j]? = some u → w.cell? ⟨b, o + j, none⟩ = some u := by
  obtain ⟨A, c, rfl, h1, h2, hl, h3⟩ := h
  rcases h3 with ⟨_, rfl⟩ | ⟨x, rfl, hc⟩
  · omega
  · obtain ⟨b, off, spot⟩ := x
    have h0l : 0 < xs.length := by rw [hl]; exact Nat.mul_pos hn hk
    have h0 := hc 0 xs[0] (List.getElem?_eq_getElem h0l)
    have hspot : spot = none := by simpa [Addr.add] using World.cell?_spot h0
    subst hspot
    refine ⟨b, off, c, rfl, h1, h2, World.block_lt_of_cell? w ⟨b, off + 0, none⟩ (by simpa [Addr.add] using h0), fun j u hu => ?_⟩
    have := hc j u hu
    rwa [Addr.add_lit] at this

theorem Rn.keep {k : Nat} {w w' : World} {v : Value} {n : Nat} {xs : List Value} (h : Rn k w v n xs) (hb : Below w.heap.size w w') : Rn k w' v n xs := by
  obtain ⟨A, c, rfl, h1, h2, hl, h3⟩ := h
  refine ⟨A, c, rfl, h1, h2, hl, h3.imp id ?_⟩
  rintro ⟨x, rfl, hc⟩
  refine ⟨x, rfl, fun j u hu => ?_⟩
  have hj := hc j u hu
  rw [hb.cell (World.block_lt_of_cell? w _ hj)]
  exact hj

/-- May be appended to: a row of its own from block B on, or a slice with no room. -/
def An (k : Nat) (w : World) (B : Nat) (e : TypeId) (v : Value) (n : Nat) (xs : List Value) : Prop :=
  w.ownsRow B e k v n xs ∨ ((∃ A, v = .slice A n n) ∧ Rn k w v n xs)

theorem Rn.of_own {k : Nat} {w : World} {B : Nat} {e : TypeId} {v : Value} {n : Nat} {xs : List Value} (h : w.ownsRow B e k v n xs) : Rn k w v n xs := by
  have hh := h
  have hl : xs.length = n * k := h.1
  rcases h.2 with ⟨rfl, rfl⟩ | ⟨g, cap, cur, rfl, _, _, hnc, hcm, _⟩
  · obtain rfl : xs = [] := List.eq_nil_of_length_eq_zero (by rw [hl]; omega)
    exact Rn.nil k w
  · exact ⟨_, cap, rfl, hnc, hcm, hl, .inr ⟨_, rfl, hh.cells (g := g) rfl⟩⟩

theorem An.rd {k : Nat} {w : World} {B : Nat} {e : TypeId} {v : Value} {n : Nat} {xs : List Value} (h : An k w B e v n xs) : Rn k w v n xs := by
  rcases h with h | ⟨_, h⟩
  · exact Rn.of_own h
  · exact h

theorem An.nil (k : Nat) (w : World) (B : Nat) (e : TypeId) : An k w B e (.slice none 0 0) 0 [] := .inl (World.ownsRow_nil w B e k)

theorem ownN_keep {k : Nat} {w w' : World} {B : Nat} {e : TypeId} {v : Value} {n : Nat} {xs : List Value} (h : w.ownsRow B e k v n xs) (hb : Below w.heap.size w w') : w'.ownsRow B e k v n xs := by
  refine ⟨h.1, ?_⟩
  rcases h.2 with h0 | ⟨g, cap, cur, rfl, hg, hh, rest⟩
  · exact .inl h0
  · refine .inr ⟨g, cap, cur, rfl, hg, ?_, rest⟩
    rw [hb.block g (Array.getElem?_eq_some_iff.1 hh).1]; exact hh

theorem An.keep {k : Nat} {w w' : World} {B : Nat} {e : TypeId} {v : Value} {n : Nat} {xs : List Value} (h : An k w B e v n xs) (hb : Below w.heap.size w w') : An k w' B e v n xs := by
  rcases h with h | ⟨h1, h⟩
  · exact .inl (ownN_keep h hb)
  · exact .inr ⟨h1, h.keep hb⟩

theorem An.mono {k : Nat} {w : World} {B B' : Nat} {e : TypeId} {v : Value} {n : Nat} {xs : List Value} (h : An k w B e v n xs) (hB : B' ≤ B) : An k w B' e v n xs := by
  rcases h with ⟨h1, h⟩ | h
  · refine .inl ⟨h1, h.imp id ?_⟩
    rintro ⟨g, cap, cur, a, b, c⟩
    exact ⟨g, cap, cur, a, by omega, c⟩
  · exact .inr h

theorem Rn.alloc {k : Nat} {w : World} {v : Value} {n : Nat} {xs : List Value} (h : Rn k w v n xs) (o : Obj) : Rn k (w.alloc o) v n xs := h.keep ((Below.refl _ _).alloc (Nat.le_refl _) o)

/-- A row written out. -/
theorem An.lit {k : Nat} (w : World) (e : TypeId) (cs : Array Value) (n : Nat) (hn : cs.size = n * k) (hm : n ≤ maxLen) : An k (w.alloc (.cells cs e)) w.heap.size e (.slice (some ⟨w.heap.size, 0, none⟩) n n) n cs.toList :=
  .inl (World.ownsRow_lit (base := w.heap.size) (e := e) (size := k) w cs n (Nat.le_refl _) hm (by omega))

section
variable {P : Program} (w : World)

theorem run_append_an (k : Nat) (hk : 0 < k) (B : Nat) (t ty e : TypeId) (i : TypeInfo) (z : Value) (bytes : Nat) (ht : P.underlying t = some (.slice e)) (hi : P.info? e = some i) (hz : i.zero = some z)
    (hsize : i.size = k) (hby : i.bytes = bytes) (hzs : z.cells.size = k)
    (v u : Value) (n m : Nat) (xs news : List Value) (hv : An k w B e v n xs) (hu : Rn k w u m news) (h1 : ∀ x ∈ news, x.oneCell' = true)
    (hbytes : (n + m) * bytes ≤ 140737488355328) (hmax : n + m ≤ maxLen) (hB : B ≤ w.heap.size) :
    ∃ v' w', (Builtin.append_ #[t, t] ty #[v, u]).run P w = .ok v' w' ∧ An k w' B e v' (n + m) (xs ++ news) ∧ Below B w w' := by
  have hul := hu.cells
  rcases hv with hv | ⟨⟨A, rfl⟩, hr⟩
  · obtain ⟨Au, c, rfl, c1, c2, c4, c3⟩ := hu
    rcases c3 with ⟨rfl, rfl⟩ | ⟨x, rfl, hc⟩
    · obtain rfl : m = 0 := by omega
      obtain rfl : news = [] := List.eq_nil_of_length_eq_zero (by omega)
      exact ⟨v, w, run_append_owned_none w B t ty e i k ht hi v _ xs hv, by rw [List.append_nil, Nat.add_zero]; exact .inl hv, Below.refl _ _⟩
    · obtain ⟨v', w', hrun, r1, r2, _⟩ := run_append_own (P := P) w B t ty e i z k bytes ht hi hz hsize hby hzs hk v _ xs hv x m c news (by omega) hc h1 hmax hbytes hB
      refine ⟨v', w', hrun, .inl r1, (Below.refl _ _).grown r2 hB ?_⟩
      intro q hq
      exact (hv.lt q hq).1
  · by_cases hn : m = 0
    · subst hn
      obtain rfl : news = [] := List.eq_nil_of_length_eq_zero (by omega)
      obtain ⟨Au, c, rfl, c1, c2, _, c3⟩ := hu
      refine ⟨.slice A n n, w, ?_, by rw [List.append_nil, Nat.add_zero]; exact .inr ⟨⟨A, rfl⟩, hr⟩, Below.refl _ _⟩
      have hr2 := hr
      obtain ⟨A', c', hv', _, _, _, h3⟩ := hr2
      injection hv' with hA _ hc'
      subst hA; subst hc'
      rcases h3 with ⟨rfl, h0⟩ | ⟨x, rfl, _⟩
      · rcases c3 with ⟨rfl, rfl⟩ | ⟨y, rfl, _⟩ <;> simp [Builtin.append_, run_underlying ht, sizeOf, typeInfo, hi, Builtin.lenOf, Builtin.firstCells, h0, loadCells, loadCellsFrom]
      · rcases c3 with ⟨rfl, rfl⟩ | ⟨y, rfl, _⟩ <;> simp [Builtin.append_, run_underlying ht, sizeOf, typeInfo, hi, Builtin.lenOf, Builtin.firstCells, storeCells, loadCells, loadCellsFrom]
    · obtain ⟨b, o, c, rfl, c1, c2, _, hcu⟩ := hu.at_ (by omega) hk
      obtain ⟨A', c', hv', _, _, hl, h3⟩ := hr
      injection hv' with hA _ hc'
      subst hA; subst hc'
      rcases h3 with ⟨rfl, h0⟩ | ⟨x, rfl, hcx⟩
      · obtain rfl : n = 0 := by omega
        obtain rfl : xs = [] := List.eq_nil_of_length_eq_zero (by omega)
        obtain ⟨v', w', hrun, r1, r2, _⟩ := run_append_own (P := P) w B t ty e i z k bytes ht hi hz hsize hby hzs hk (.slice none 0 0) 0 [] (World.ownsRow_nil w B e k) ⟨b, o, none⟩ m c news (by omega) (by simpa only [Addr.add_lit] using hcu) h1 (by simpa using hmax) (by simpa using hbytes) hB
        exact ⟨v', w', hrun, .inl r1, (Below.refl _ _).grown r2 hB (by simp [Value.ownBlock])⟩
      · obtain ⟨v', w', hrun, r1, r2⟩ := run_append_arg_grows (P := P) w t ty e i z k bytes ht hi hz hsize hby hzs hk x n n xs hl hcx ⟨b, o, none⟩ m c news (by omega) (by simpa only [Addr.add_lit] using hcu) (by omega) hmax hbytes
        refine ⟨v', w', hrun, An.mono (B := w.heap.size) (.inl r1) hB, ((Below.refl _ _).grown r2 (Nat.le_refl _) (by simp)).mono hB⟩

theorem wp_append_an (k : Nat) (hk : 0 < k) {o : Oper} {a : Act} {K : Act → World → Prop} {Q : Exit → Act → World → Prop} (s x : Operand) (t : TypeId)
    (ho : o.op = .call { callee := .builtin .append, args := #[s, x], argTypes := #[t, t] })
    (B : Nat) (e : TypeId) (i : TypeInfo) (z : Value) (bytes : Nat) (ht : P.underlying t = some (.slice e)) (hi : P.info? e = some i) (hz : i.zero = some z)
    (hsize : i.size = k) (hby : i.bytes = bytes) (hzs : z.cells.size = k)
    (v u : Value) (n m : Nat) (xs news : List Value) (hs : a.eval s = v) (hx : a.eval x = u) (hv : An k w B e v n xs) (hu : Rn k w u m news) (h1 : ∀ x ∈ news, x.oneCell' = true)
    (hbytes : (n + m) * bytes ≤ 140737488355328) (hmax : n + m ≤ maxLen) (hB : B ≤ w.heap.size)
    (h : ∀ v' w', An k w' B e v' (n + m) (xs ++ news) → Below B w w' → K (a.put o.dst v') w') : o.wp P a w K Q := by
  obtain ⟨v', w', hr, h2, h3⟩ := run_append_an (P := P) w k hk B t o.type e i z bytes ht hi hz hsize hby hzs v u n m xs news hv hu h1 hbytes hmax hB
  unfold Oper.wp execOp
  simp only [ho, resolve, invoke, builtin, Sem.run_bind, Sem.run_pure, Result.andThen_ok, List.map_toArray, List.map_cons, List.map_nil, hs, hx, hr]
  exact h v' w' h2 h3

theorem wpList_append_an (k : Nat) (hk : 0 < k) {ops : Array Oper} {rest : List Oper} {o : Oper} {a : Act} {Q : Exit → Act → World → Prop} (hgd : o.guard = none) (s x : Operand) (t : TypeId)
    (ho : o.op = .call { callee := .builtin .append, args := #[s, x], argTypes := #[t, t] })
    (B : Nat) (e : TypeId) (i : TypeInfo) (z : Value) (bytes : Nat) (ht : P.underlying t = some (.slice e)) (hi : P.info? e = some i) (hz : i.zero = some z)
    (hsize : i.size = k) (hby : i.bytes = bytes) (hzs : z.cells.size = k)
    (v u : Value) (n m : Nat) (xs news : List Value) (hs : a.eval s = v) (hx : a.eval x = u) (hv : An k w B e v n xs) (hu : Rn k w u m news) (h1 : ∀ x ∈ news, x.oneCell' = true)
    (hbytes : (n + m) * bytes ≤ 140737488355328) (hmax : n + m ≤ maxLen) (hB : B ≤ w.heap.size)
    (h : ∀ v' w', An k w' B e v' (n + m) (xs ++ news) → Below B w w' → wpList P ops Q rest (a.put o.dst v') w') : wpList P ops Q (o :: rest) a w :=
  wpList_plain hgd fun _ hK => wp_append_an w k hk s x t ho B e i z bytes ht hi hz hsize hby hzs v u n m xs news hs hx hv hu h1 hbytes hmax hB fun v' w' h2 h3 => hK _ _ (h v' w' h2 h3)

/-- append as one step of a region that draws its order. -/
theorem step_append_an (k : Nat) (hk : 0 < k) {ops : Array Oper} {o : Oper} {a : Act} {K : Act → World → Prop} {Q : Exit → Act → World → Prop} {E : Prop}
    (hgd : o.guard = none) (s x : Operand) (t : TypeId)
    (ho : o.op = .call { callee := .builtin .append, args := #[s, x], argTypes := #[t, t] })
    (B : Nat) (e : TypeId) (i : TypeInfo) (z : Value) (bytes : Nat) (ht : P.underlying t = some (.slice e)) (hi : P.info? e = some i) (hz : i.zero = some z)
    (hsize : i.size = k) (hby : i.bytes = bytes) (hzs : z.cells.size = k)
    (v u : Value) (n m : Nat) (xs news : List Value) (hs : a.eval s = v) (hx : a.eval x = u) (hv : An k w B e v n xs) (hu : Rn k w u m news) (h1 : ∀ x ∈ news, x.oneCell' = true)
    (hbytes : (n + m) * bytes ≤ 140737488355328) (hmax : n + m ≤ maxLen) (hB : B ≤ w.heap.size)
    (h : ∀ v' w', An k w' B e v' (n + m) (xs ++ news) → Below B w w' → K (a.put o.dst v') w') : if Region.wanted o (yielded ops a.tmps) = true then Oper.wp P o a w K Q else E := by
  rw [if_pos (by simp [Region.wanted, hgd])]
  exact wp_append_an w k hk s x t ho B e i z bytes ht hi hz hsize hby hzs v u n m xs news hs hx hv hu h1 hbytes hmax hB h
end

end Go.Proofs.Ytebakjdeighdnaa

/-
  Slices of fields: what they read as. No type of slices of strings is named.
-/
namespace Go.Proofs.Ytebakjdeighdnaa
open Go.RowKit
set_option linter.unusedVariables false

def fvl (f : Fd) : List Value := [.string f.1, .string f.2]
/-- The value reads as these fields. -/
def Fs (w : World) (v : Value) (l : List Fd) : Prop := Rn 2 w v l.length (l.flatMap fvl)
/-- The value reads as these strings. -/
def Ss (w : World) (v : Value) (l : List ByteArray) : Prop := Rd w v (l.map Value.string)

theorem fvl_length (l : List Fd) : (l.flatMap fvl).length = l.length * 2 := by
  induction l with
  | nil => rfl
  | cons a l ih => rw [List.flatMap_cons, List.length_append, ih]; simp [fvl]; omega
theorem fvl_at (l : List Fd) (i : Nat) (h : i < l.length) : (l.flatMap fvl)[i * 2]? = some (.string l[i].1) ∧ (l.flatMap fvl)[i * 2 + 1]? = some (.string l[i].2) := by
  induction l generalizing i with
  | nil => simp at h
  | cons a l ih =>
    rw [List.flatMap_cons]
    cases i with
    | zero => exact ⟨rfl, rfl⟩
    | succ i =>
      have := ih i (by simpa using h)
      have e1 : (i + 1) * 2 = (fvl a).length + i * 2 := by simp [fvl]; omega
      have e2 : (i + 1) * 2 + 1 = (fvl a).length + (i * 2 + 1) := by simp [fvl]; omega
      rw [e2, e1, List.getElem?_append_right (by omega), List.getElem?_append_right (by omega)]
      simpa using this
theorem one_fvl {l : List Fd} : ∀ x ∈ l.flatMap fvl, x.oneCell' = true := by
  intro x hx
  obtain ⟨f, _, hf⟩ := List.mem_flatMap.1 hx
  rcases List.mem_cons.1 hf with rfl | hf
  · rfl
  · rcases List.mem_cons.1 hf with rfl | hf
    · rfl
    · cases hf
theorem one_str {l : List ByteArray} : ∀ x ∈ l.map Value.string, x.oneCell' = true := by
  intro x hx
  obtain ⟨b, _, rfl⟩ := List.mem_map.1 hx
  rfl

theorem Fs.len {w : World} {v : Value} {l : List Fd} (h : Fs w v l) : l.length ≤ maxLen := Rn.len h
theorem Ss.len {w : World} {v : Value} {l : List ByteArray} (h : Ss w v l) : l.length ≤ maxLen := by have := Rd.len h; simpa using this
theorem Fs.keep {w w' : World} {v : Value} {l : List Fd} (h : Fs w v l) (hb : Below w.heap.size w w') : Fs w' v l := Rn.keep h hb
theorem Ss.keep {w w' : World} {v : Value} {l : List ByteArray} (h : Ss w v l) (hb : Below w.heap.size w w') : Ss w' v l := Rd.keep h hb

theorem Fs.run_len {w : World} {v : Value} {l : List Fd} (h : Fs w v l) (ty : TypeId) (W : World) : (Builtin.len_ #[26] ty #[v]).run Try.prog W = .ok (.int .i64 (l.length : Int)) W := by
  obtain ⟨A, c, rfl, h1, h2, h3⟩ := h
  simp [Builtin.len_, run_underlying Try.underlying26, goInt]
/-- The place of v[i], and what lies there. -/
theorem Fs.at_ {w : World} {v : Value} {l : List Fd} (h : Fs w v l) (i : Nat) (hi : i < l.length) :
    ∃ b o : Nat, (∀ (q : IntKind) (W : World), (Instr.indexAt 26 v (.int q (i : Int))).run Try.prog W = .ok (.pointer (some ⟨b, o, none⟩)) W) ∧
      ∀ W : World, Fs W v l → W.cell? ⟨b, o, none⟩ = some (.string l[i].1) ∧ W.cell? ⟨b, o + 1, none⟩ = some (.string l[i].2) := by
  obtain ⟨b, o, c, rfl, h1, h2, h3, hc⟩ := Rn.at_ h (by omega) (by omega)
  have hsz : ∀ W : World, (sizeOf (Try.prog.elem 26)).run Try.prog W = .ok 2 W := fun W => by kernel_rfl
  refine ⟨b, o + i * 2, fun q W => ?_, fun W hW => ?_⟩
  · simp [Instr.indexAt, asIntOf, run_underlying Try.underlying26, Sem.run_bind, hi, Result.andThen]
    simp [Addr.add]
  · obtain ⟨b', o', c', e, _, _, _, hc'⟩ := Rn.at_ hW (by omega) (by omega)
    injection e with e1 e2 e3
    injection e1 with e1
    injection e1 with e1 e4
    subst e1; subst e4
    have := fvl_at l i hi
    exact ⟨hc' _ _ this.1, hc' _ _ this.2⟩

end Go.Proofs.Ytebakjdeighdnaa

/-
  A block that holds one field: made, read, stored into; what a call hands back out of one.
-/
namespace Go.Proofs.Ytebakjdeighdnaa
open Go.RowKit
set_option linter.unusedVariables false

def emp : Fd := (⟨#[]⟩, ⟨#[]⟩)
def aggF (f : Fd) : Value := .agg #[.string f.1, .string f.2]
/-- Block g holds the field f. -/
def Fb (t : TypeId) (w : World) (g : Nat) (f : Fd) : Prop := w.heap[g]? = some (.cells #[.string f.1, .string f.2] t (0, 0))

theorem Fb.new (t : TypeId) (w : World) (f : Fd) : Fb t (w.alloc (.cells #[.string f.1, .string f.2] t)) w.heap.size f := heap_alloc_last w _
theorem Fb.newg (t : TypeId) (w : World) (g : Nat) (hg : w.heap.size = g) (f : Fd) : Fb t (w.alloc (.cells #[.string f.1, .string f.2] t)) g f := by subst hg; exact Fb.new t w f
theorem Fb.lt {t : TypeId} {w : World} {g : Nat} {f : Fd} (h : Fb t w g f) : g < w.heap.size := (Array.getElem?_eq_some_iff.1 h).1
theorem Fb.below {t : TypeId} {w w' : World} {g B : Nat} {f : Fd} (h : Fb t w g f) (hb : Below B w w') (hg : g < B) : Fb t w' g f := by
  unfold Fb; rw [hb.block g hg]; exact h
theorem Fb.keep {t : TypeId} {w w' : World} {g : Nat} {f : Fd} (h : Fb t w g f) (hb : Below w.heap.size w w') : Fb t w' g f := h.below hb h.lt
theorem Fb.alloc {t : TypeId} {w : World} {g : Nat} {f : Fd} (h : Fb t w g f) (o : Obj) : Fb t (w.alloc o) g f := h.keep ((Below.refl _ _).alloc (Nat.le_refl _) o)
theorem Fb.grown {t : TypeId} {w w' : World} {g : Nat} {f : Fd} {row : Option Nat} (h : Fb t w g f) (hb : w.grownBy w' row) (hg : some g ≠ row) : Fb t w' g f := by
  unfold Fb; rw [hb.block g h.lt hg]; exact h
theorem Fb.cells {t : TypeId} {w : World} {g : Nat} {f : Fd} (h : Fb t w g f) : w.cell? ⟨g, 0, none⟩ = some (.string f.1) ∧ w.cell? ⟨g, 1, none⟩ = some (.string f.2) := by
  unfold Fb at h
  constructor
  · simp [World.cell?, h]
  · simp [World.cell?, h]
theorem Fb.free {t : TypeId} {w : World} {g : Nat} {f : Fd} (h : Fb t w g f) : w.frozen? ⟨g, 0, none⟩ = false ∧ w.frozen? ⟨g, 1, none⟩ = false := by
  unfold Fb at h
  constructor
  · simp [World.frozen?, h]
  · simp [World.frozen?, h]

theorem fieldSize : (Try.prog.info? 35).map (·.size) = some 2 := by kernel_rfl

theorem grown_setRow (w : World) (g : Nat) (cs : Array Value) : w.grownBy (w.setRow g cs) (some g) :=
  ⟨rfl, rfl, rfl, by simp, fun k _ hne => setRow_other w g k cs (fun e => hne (by rw [e]))⟩

section
variable {ops : Array Oper} {Q : Exit → Act → World → Prop} {a : Act} {w : World} {rest : List Oper}

/-- A store of a whole field into its block. -/
theorem wpList_storeF {x y : Operand} {ty : TypeId} {pos : String} {af : Array Edge} (t : TypeId) (g : Nat) (old f : Fd)
    (hx : a.eval x = .pointer (some ⟨g, 0, none⟩)) (hy : a.eval y = .agg #[.string f.1, .string f.2]) (hfb : Fb t w g old)
    (h : ∀ w2, Fb t w2 g f → w.grownBy w2 (some g) → wpList Try.prog ops Q rest (a.put none undef) w2) :
    wpList Try.prog ops Q (⟨none, .store 35 x y, ty, pos, af, none⟩ :: rest) a w :=
  wpList_store_row rfl 35 x y rfl g #[.string f.1, .string f.2] hx hy t _ hfb fieldSize rfl (by simp [Value.oneCell']) (h _ (setRow_heap w g _ _ t (0, 0) hfb) (grown_setRow w g _))

/-- A load of a whole field. -/
theorem wpList_loadF {x : Operand} {d : Option Tmp} {ty : TypeId} {pos : String} {af : Array Edge} (t : TypeId) (g : Nat) (f : Fd)
    (hx : a.eval x = .pointer (some ⟨g, 0, none⟩)) (hfb : Fb t w g f)
    (h : wpList Try.prog ops Q rest (a.put d (.agg #[.string f.1, .string f.2])) w) :
    wpList Try.prog ops Q (⟨d, .load 35 x, ty, pos, af, none⟩ :: rest) a w :=
  wpList_load_row rfl 35 x rfl g hx t _ (0, 0) _ hfb Try.underlying35 rfl fieldSize h
end

theorem results_row_tmp {P : Program} {fn : Func} {p u : Tmp} {ty : TypeId} (h : fn.results = #[.cell p ty, .tmp u]) (tmps : Array Value) (w : World) (g : Nat) (t : TypeId) (cs : Array Value) (fr : Nat × Nat) (d : TypeDesc)
    (hp : tmps.getD p undef = .pointer (some ⟨g, 0, none⟩)) (hg : w.heap[g]? = some (.cells cs t fr))
    (hu : P.underlying ty = some d) (hd : (match d with | .struct _ | .array _ _ => true | _ => false) = true) (hi : (P.info? ty).map (·.size) = some cs.size) :
    (results fn tmps).run P w = .ok (.tuple #[.agg cs, tmps.getD u undef]) w := by
  rw [results_cell_tmp h, hp]
  simp [asAddr, run_loadVar_row w g t ty cs fr d hg hu hd hi]

/-- What a call hands back that ends with a field in a cell of its own, and a bool. -/
theorem ret_field {fn : Func} {p u : Tmp} (h : fn.results = #[.cell p 35, .tmp u]) (tmps : Array Value) (w : World) (g : Nat) (f : Fd) (b : Bool)
    (hp : tmps.getD p undef = .pointer (some ⟨g, 0, none⟩)) (hu : tmps.getD u undef = .bool b) (h0 : Fb 35 w g f) :
    (results fn tmps).run Try.prog w = .ok (.tuple #[aggF f, .bool b]) w := by
  rw [results_row_tmp h tmps _ g 35 #[.string f.1, .string f.2] (0, 0) _ hp h0 Try.underlying35 rfl fieldSize, hu]
  rfl

/-- Entry i of a list whose first one's number is fr, or the empty one. -/
def entF (l : List Fd) (fr i : Nat) : Fd := if h : fr ≤ i ∧ i - fr < l.length then l[i - fr]'(h.2) else emp
def isF (l : List Fd) (fr i : Nat) : Bool := decide (fr ≤ i ∧ i - fr < l.length)

end Go.Proofs.Ytebakjdeighdnaa

/-
  What a call may write: a set of blocks. A slice of fields in a row of its own, that may begin anywhere within it: read, appended to, its head written, cut.
-/
namespace Go.Proofs.Ytebakjdeighdnaa
open Go.RowKit
set_option linter.unusedVariables false

/-- Of the blocks that stood, those outside S are as they were. -/
structure Fp (S : Nat → Prop) (w w' : World) : Prop where
  os : w'.os = w.os
  tape : w'.tape = w.tape
  output : w'.output = w.output
  size : w.heap.size ≤ w'.heap.size
  block : ∀ k, k < w.heap.size → ¬ S k → w'.heap[k]? = w.heap[k]?

theorem Fp.refl (S : Nat → Prop) (w : World) : Fp S w w := ⟨rfl, rfl, rfl, Nat.le_refl _, fun _ _ _ => rfl⟩
theorem Fp.trans {S S' : Nat → Prop} {a b c : World} (h : Fp S a b) (k : Fp S' b c) (hs : ∀ i, S' i → S i ∨ a.heap.size ≤ i) : Fp S a c :=
  ⟨k.os.trans h.os, k.tape.trans h.tape, k.output.trans h.output, Nat.le_trans h.size k.size, fun i hi hn => (k.block i (Nat.lt_of_lt_of_le hi h.size) (fun hc => (hs i hc).elim hn fun h1 => by omega)).trans (h.block i hi hn)⟩
theorem Fp.then {S : Nat → Prop} {a b c : World} (h : Fp S a b) (k : Fp S b c) : Fp S a c := h.trans k fun _ h => .inl h
theorem Fp.of_below {S : Nat → Prop} {w w' : World} (h : Below w.heap.size w w') : Fp S w w' := ⟨h.os, h.tape, h.output, h.size, fun k hk _ => h.block k hk⟩
theorem Fp.of_grown {S : Nat → Prop} {w w' : World} {row : Option Nat} (h : w.grownBy w' row) (hr : ∀ k, row = some k → S k) : Fp S w w' :=
  ⟨h.os, h.tape, h.output, h.size, fun k hk hn => h.block k hk fun e => hn (hr k e.symm)⟩
theorem Fp.set (S : Nat → Prop) (w : World) (a : Addr) (v : Value) (ha : S a.block) : Fp S w (w.setCell a v) :=
  ⟨rfl, rfl, rfl, by simp [World.setCell], fun k hk hn => Go.Deep.blk_setCell_other _ _ _ _ (fun e => hn (e ▸ ha))⟩
theorem Fp.below {S : Nat → Prop} {w w' : World} {B : Nat} (h : Fp S w w') (hB : B ≤ w.heap.size) (hS : ∀ k, S k → B ≤ k) : Below B w w' :=
  ⟨h.os, h.tape, h.output, h.size, fun k hk => h.block k (by omega) fun hs => by have := hS k hs; omega⟩

theorem grown_set (w : World) (g i : Nat) (v : Value) : w.grownBy (w.setCell ⟨g, i, none⟩ v) (some g) :=
  ⟨rfl, rfl, rfl, by simp [World.setCell], fun k _ hne => Go.Deep.blk_setCell_other _ _ _ _ (fun e => hne (by rw [e]))⟩
theorem grown_trans {a b c : World} {row : Option Nat} (h : a.grownBy b row) (k : b.grownBy c row) : a.grownBy c row :=
  ⟨k.os.trans h.os, k.tape.trans h.tape, k.output.trans h.output, Nat.le_trans h.size k.size, fun i hi hn => (k.block i (Nat.lt_of_lt_of_le hi h.size) hn).trans (h.block i hi hn)⟩

/-- The value reads as these fields, in a row that no other slice is to write. -/
def St (w : World) (v : Value) (L : List Fd) : Prop :=
  (v = .slice none 0 0 ∧ L = []) ∨ ∃ (g o cap m : Nat) (F : Nat → Value), v = .slice (some ⟨g, o, none⟩) L.length cap ∧ w.rowIs g 35 m F ∧ L.length ≤ cap ∧ cap ≤ maxLen ∧ o + cap * 2 ≤ m ∧ ∀ j u, (L.flatMap fvl)[j]? = some u → F (o + j) = u

theorem St.nil (w : World) : St w (.slice none 0 0) [] := .inl ⟨rfl, rfl⟩
theorem St.fs {w : World} {v : Value} {L : List Fd} (h : St w v L) : Fs w v L := by
  rcases h with ⟨rfl, rfl⟩ | ⟨g, o, cap, m, F, rfl, hr, h1, h2, h3, h4⟩
  · exact Rn.nil 2 w
  · refine ⟨_, cap, rfl, h1, h2, fvl_length L, .inr ⟨_, rfl, fun j u hu => ?_⟩⟩
    have hj : j < (L.flatMap fvl).length := (List.getElem?_eq_some_iff.1 hu).1
    rw [fvl_length] at hj
    rw [Addr.add_lit, hr.cell (by omega), h4 j u hu]
theorem St.lt {w : World} {v : Value} {L : List Fd} (h : St w v L) {k : Nat} (hk : v.ownBlock = some k) : k < w.heap.size := by
  rcases h with ⟨rfl, rfl⟩ | ⟨g, o, cap, m, F, rfl, hr, h1, h2, h3, h4⟩
  · simp [Value.ownBlock] at hk
  · simp only [Value.ownBlock, Option.some.injEq] at hk
    subst hk
    exact hr.lt
theorem St.kept {w w' : World} {v : Value} {L : List Fd} (h : St w v L) (hb : ∀ k, v.ownBlock = some k → w'.heap[k]? = w.heap[k]?) : St w' v L := by
  rcases h with h | ⟨g, o, cap, m, F, rfl, hr, h1, h2, h3, h4⟩
  · exact .inl h
  · exact .inr ⟨g, o, cap, m, F, rfl, hr.of_block (hb g rfl), h1, h2, h3, h4⟩
theorem St.keep {w w' : World} {v : Value} {L : List Fd} (h : St w v L) (hb : Below w.heap.size w w') : St w' v L := h.kept fun k hk => hb.block k (h.lt hk)
theorem St.grown {w w' : World} {row : Option Nat} {v : Value} {L : List Fd} (h : St w v L) (hg : w.grownBy w' row) (hn : ∀ k, v.ownBlock = some k → some k ≠ row) : St w' v L :=
  h.kept fun k hk => hg.block k (h.lt hk) (hn k hk)

theorem St.of_own {w : World} {B : Nat} {v : Value} {L : List Fd} (h : w.ownsRow B 35 2 v L.length (L.flatMap fvl)) : St w v L := by
  rcases h.2 with ⟨rfl, h0⟩ | ⟨g, cap, cur, rfl, _, hg, hnc, hcm, hcs, ht⟩
  · exact .inl ⟨rfl, List.eq_nil_of_length_eq_zero h0⟩
  · refine .inr ⟨g, 0, cap, cap * 2, fun i => cur.getD i undef, rfl, ⟨cur, hg, hcs, fun i hi => ?_⟩, hnc, hcm, by omega, fun j u hu => ?_⟩
    · have : i < cur.size := by omega
      simp [Array.getD, this]
    · have hj : j < (L.flatMap fvl).length := (List.getElem?_eq_some_iff.1 hu).1
      rw [fvl_length] at hj
      rw [← ht, List.getElem?_take] at hu
      rw [if_pos hj] at hu
      have : j < cur.size := by omega
      simp only [Nat.zero_add, Array.getD, this, ↓reduceDIte]
      simpa [this] using hu

theorem flatMap_fvl_snoc (L : List Fd) (f : Fd) : (L ++ [f]).flatMap fvl = L.flatMap fvl ++ fvl f := by simp
theorem infoF : (Try.prog.info? 35).map (fun i => (i.zero, i.size, i.bytes)) = some (some (.agg #[.string ⟨#[]⟩, .string ⟨#[]⟩]), 2, 32) := by kernel_rfl
theorem infoF_get : ∃ i, Try.prog.info? 35 = some i ∧ i.zero = some (.agg #[.string ⟨#[]⟩, .string ⟨#[]⟩]) ∧ i.size = 2 ∧ i.bytes = 32 := by
  have h := infoF
  cases hi : Try.prog.info? 35 with
  | none => rw [hi] at h; simp at h
  | some i =>
    rw [hi] at h
    simp only [Option.map_some, Option.some.injEq, Prod.mk.injEq] at h
    exact ⟨i, rfl, h.1, h.2.1, h.2.2⟩

/-- One field more. -/
theorem St.append {w : World} {v u : Value} {L : List Fd} {f : Fd} (h : St w v L) (hu : Fs w u [f]) (hl : L.length ≤ 1000000) (ty : TypeId) :
    ∃ v' w', (Builtin.append_ #[26, 26] ty #[v, u]).run Try.prog w = .ok v' w' ∧ St w' v' (L ++ [f]) ∧ w.grownBy w' v.ownBlock ∧ (v'.ownBlock = v.ownBlock ∨ ∃ g, v'.ownBlock = some g ∧ w.heap.size ≤ g) ∧
      (∀ A n, v = .slice A n n → w.grownBy w' none ∧ ∃ g, v'.ownBlock = some g ∧ w.heap.size ≤ g) := by
  obtain ⟨i, hi, hz, hs, hb⟩ := infoF_get
  obtain ⟨b, o', c', rfl, c1, c2, hbl, hcu⟩ := Rn.at_ hu (by simp) (by omega)
  have hone : ∀ x ∈ fvl f, x.oneCell' = true := by intro x hx; rcases List.mem_cons.1 hx with rfl | hx; · rfl
                                                   · rcases List.mem_cons.1 hx with rfl | hx; · rfl
                                                     · cases hx
  have hnews : ∀ j u, (fvl f)[j]? = some u → w.cell? ((⟨b, o', none⟩ : Addr).add j) = some u := fun j u hj => by
    rw [Addr.add_lit]; exact hcu j u (by simpa using hj)
  have hlen1 : (L ++ [f]).length = L.length + 1 := by simp
  have fresh : ∀ (v' : Value) (w' : World) (row : Option Nat), w'.ownsRow w.heap.size 35 2 v' (L.length + 1) (L.flatMap fvl ++ fvl f) → w.grownBy w' row → St w' v' (L ++ [f]) ∧ ∃ g, v'.ownBlock = some g ∧ w.heap.size ≤ g := by
    intro v' w' row ho hg
    rw [← flatMap_fvl_snoc, ← hlen1] at ho
    refine ⟨St.of_own ho, ?_⟩
    rcases ho.2 with ⟨rfl, h0⟩ | ⟨g, cap, cur, rfl, hb, _⟩
    · simp at h0
    · exact ⟨g, rfl, hb⟩
  rcases h with ⟨rfl, rfl⟩ | ⟨g, o, cap, m, F, rfl, hr, h1, h2, h3, h4⟩
  · obtain ⟨v', w', hrun, r1, r2, _⟩ := run_append_own (P := Try.prog) w w.heap.size 26 ty 35 i _ 2 32 Try.underlying26 hi hz hs hb rfl (by omega) (.slice none 0 0) 0 [] (World.ownsRow_nil w _ _ 2) ⟨b, o', none⟩ 1 c' (fvl f) rfl hnews hone (by simp [maxLen]) (by omega) (Nat.le_refl _)
    obtain ⟨hst, hfr⟩ := fresh v' w' none (by simpa using r1) r2
    exact ⟨v', w', hrun, hst, r2, .inr hfr, fun A n e => ⟨r2, hfr⟩⟩
  · have hlo : (L.flatMap fvl).length = L.length * 2 := fvl_length L
    have holds : ∀ j u, (L.flatMap fvl)[j]? = some u → w.cell? ((⟨g, o, none⟩ : Addr).add j) = some u := fun j u hu => by
      have hj : j < (L.flatMap fvl).length := (List.getElem?_eq_some_iff.1 hu).1
      rw [Addr.add_lit, hr.cell (by omega), h4 j u hu]
    by_cases hroom : L.length + 1 ≤ cap
    · have hrun := run_append_room_cells (P := Try.prog) w 26 ty 35 i Try.underlying26 hi g o L.length cap ⟨b, o', none⟩ 1 c' (fvl f) (by rw [hs]; rfl) hnews hone hroom
        (by intro j hj; have : j < 2 := hj; rw [hs, hr.cell (by omega)]; rfl) (by intro j hj; exact hr.frozen _)
      rw [hs] at hrun
      refine ⟨_, _, hrun, .inr ⟨g, o, cap, m, _, by rw [hlen1], (hr.set (o + L.length * 2) (.string f.1)).set (o + L.length * 2 + 1) (.string f.2), by omega, h2, h3, fun j u hu => ?_⟩, grown_trans (grown_set w g _ _) (grown_set _ g _ _), .inl rfl, fun A n e => ?_⟩
      · rw [flatMap_fvl_snoc] at hu
        rcases Nat.lt_or_ge j (L.length * 2) with hj | hj
        · rw [List.getElem?_append_left (by omega)] at hu
          rw [if_neg (by omega), if_neg (by omega)]
          exact h4 j u hu
        · rw [List.getElem?_append_right (by omega), hlo] at hu
          obtain ⟨d, rfl⟩ : ∃ d, j = L.length * 2 + d := ⟨j - L.length * 2, by omega⟩
          rw [Nat.add_sub_cancel_left] at hu
          have hd : d < 2 := (List.getElem?_eq_some_iff.1 hu).1
          rcases Nat.lt_or_ge d 1 with h0 | h0
          · obtain rfl : d = 0 := by omega
            rw [if_neg (by omega), if_pos (by omega)]
            simpa [fvl] using hu
          · obtain rfl : d = 1 := by omega
            rw [if_pos (by omega)]
            simpa [fvl] using hu
      · injection e with _ e1 e2
        omega
    · obtain ⟨v', w', hrun, r1, r2⟩ := run_append_arg_grows (P := Try.prog) w 26 ty 35 i _ 2 32 Try.underlying26 hi hz hs hb rfl (by omega) ⟨g, o, none⟩ L.length cap (L.flatMap fvl) hlo holds ⟨b, o', none⟩ 1 c' (fvl f) rfl hnews (by omega) (by unfold maxLen; omega) (by omega)
      obtain ⟨hst, hfr⟩ := fresh v' w' none r1 r2
      exact ⟨v', w', hrun, hst, ⟨r2.os, r2.tape, r2.output, r2.size, fun k hk _ => r2.block k hk (by simp)⟩, .inr hfr, fun A n e => ⟨r2, hfr⟩⟩

set_option maxRecDepth 100000 in
/-- The head's place, and what lies there; written empty. -/
theorem St.head {w : World} {v : Value} {f : Fd} {L : List Fd} (h : St w v (f :: L)) :
    ∃ g o, v.ownBlock = some g ∧ (∀ (q : IntKind) (W : World), (Instr.indexAt 26 v (.int q 0)).run Try.prog W = .ok (.pointer (some ⟨g, o, none⟩)) W) ∧
      (∀ W, St W v (f :: L) → W.cell? ⟨g, o, none⟩ = some (.string f.1) ∧ W.cell? ⟨g, o + 1, none⟩ = some (.string f.2) ∧ W.frozen? ⟨g, o, none⟩ = false ∧ W.frozen? ⟨g, o + 1, none⟩ = false) ∧
      (∀ W, St W v (f :: L) → St ((W.setCell ⟨g, o, none⟩ (.string ⟨#[]⟩)).setCell ⟨g, o + 1, none⟩ (.string ⟨#[]⟩)) v (emp :: L)) ∧
      ∃ v', (∀ (q : IntKind) (W : World), (Instr.slice 26 v (some (.int q 1)) none none).run Try.prog W = .ok v' W) ∧ (∀ W x, St W v (x :: L) → St W v' L) ∧ v'.ownBlock = some g := by
  rcases h with ⟨rfl, h⟩ | ⟨g, o, cap, m, F, rfl, hr, h1, h2, h3, h4⟩
  · cases h
  · have hsz : ∀ W : World, (sizeOf (Try.prog.elem 26)).run Try.prog W = .ok 2 W := fun W => by kernel_rfl
    have helem : Try.prog.underlying 26 = some (.slice (Try.prog.elem 26)) := by kernel_rfl
    have hopen : ∀ (W : World) (x : Fd), St W (.slice (some ⟨g, o, none⟩) (f :: L).length cap) (x :: L) → ∃ m F, W.rowIs g 35 m F ∧ o + cap * 2 ≤ m ∧ ∀ j u, ((x :: L).flatMap fvl)[j]? = some u → F (o + j) = u := by
      intro W x hW
      rcases hW with ⟨e, _⟩ | ⟨g', o', cap', m', F', e, hr', _, _, h3', h4'⟩
      · cases e
      · injection e with e1 e2 e3
        injection e1 with e1
        injection e1 with e1 e4
        subst e1; subst e4; subst e3
        exact ⟨m', F', hr', h3', h4'⟩
    simp only [List.length_cons] at h1
    refine ⟨g, o, rfl, fun q W => ?_, fun W hW => ?_, fun W hW => ?_, sliced (some ⟨g, o, none⟩) 1 (f :: L).length cap 2, fun q W => ?_, fun W x hW => ?_, ?_⟩
    · simp [Instr.indexAt, asIntOf, run_underlying Try.underlying26, Sem.run_bind, Result.andThen]
      simp [Addr.add]
    · obtain ⟨m, F, hr, hm, hF⟩ := hopen W f hW
      refine ⟨?_, ?_, hr.frozen _, hr.frozen _⟩
      · rw [hr.cell (by omega)]; congr 1; exact hF 0 _ (by simp [fvl])
      · rw [hr.cell (by omega)]; congr 1; exact hF 1 _ (by simp [fvl])
    · obtain ⟨m, F, hr, hm, hF⟩ := hopen W f hW
      refine .inr ⟨g, o, cap, m, _, rfl, (hr.set o (.string ⟨#[]⟩)).set (o + 1) (.string ⟨#[]⟩), by simp only [List.length_cons]; omega, h2, hm, fun j u hu => ?_⟩
      rcases j with _ | _ | j
      · rw [if_neg (by omega), if_pos (by omega)]; simpa [fvl, emp] using hu
      · rw [if_pos (by omega)]; simpa [fvl, emp] using hu
      · rw [if_neg (by omega), if_neg (by omega)]
        exact hF (j + 1 + 1) u (by simpa [fvl] using hu)
    · rw [run_slice_l W 26 (some ⟨g, o, none⟩) (f :: L).length cap helem q 1 (by omega) (by simp only [List.length_cons]; omega), hsz]
      rfl
    · obtain ⟨m, F, hr, hm, hF⟩ := hopen W x hW
      unfold sliced
      simp only [List.length_cons, Nat.add_sub_cancel]
      by_cases hc : cap = 1
      · rw [if_pos hc]
        have hL : L = [] := List.eq_nil_of_length_eq_zero (by omega)
        subst hL
        subst hc
        exact .inr ⟨g, o, 0, m, F, rfl, hr, Nat.le_refl _, Nat.zero_le _, by omega, fun j u hu => by simp at hu⟩
      · rw [if_neg hc]
        refine .inr ⟨g, o + 2, cap - 1, m, F, ?_, hr, by omega, by omega, by omega, fun j u hu => ?_⟩
        · simp [Addr.add]
        · rw [show o + 2 + j = o + (j + 1 + 1) by omega]
          exact hF (j + 1 + 1) u (by simpa [fvl] using hu)
    · unfold sliced
      split
      · rfl
      · simp [Value.ownBlock, Addr.add]

end Go.Proofs.Ytebakjdeighdnaa

/-
  A table that changes, as plain mathematics. No program is named here.
-/
namespace Go.Proofs.Ytebakjdeighdnaa
set_option linter.unusedVariables false

/-- The number of the newest one for which p holds; b: the number of the oldest. -/
def nw (p : Fd → Bool) (b : Nat) : List Fd → Option Nat
  | [] => none
  | f :: l => match nw p (b + 1) l with
    | some a => some a
    | none => if p f then some b else none

theorem nw_snoc (p : Fd → Bool) (f : Fd) : ∀ (b : Nat) (l : List Fd), nw p b (l ++ [f]) = if p f then some (b + l.length) else nw p b l
  | b, [] => by simp [nw]
  | b, g :: l => by
    simp only [List.cons_append, nw, nw_snoc p f (b + 1) l]
    by_cases h : p f
    · simp [h]; omega
    · simp [h]
theorem nw_bound (p : Fd → Bool) : ∀ (b : Nat) (l : List Fd) (a : Nat), nw p b l = some a → b ≤ a ∧ a < b + l.length
  | b, [], a, h => by simp [nw] at h
  | b, f :: l, a, h => by
    simp only [nw] at h
    simp only [List.length_cons]
    cases hc : nw p (b + 1) l with
    | some c => rw [hc] at h; simp only [Option.some.injEq] at h; have := nw_bound p (b + 1) l c hc; omega
    | none => rw [hc] at h; simp at h; have := h.2; omega
theorem nw_hit (p : Fd → Bool) (b : Nat) (f : Fd) (l : List Fd) (h : p f = true) : ∃ a, nw p b (f :: l) = some a := by
  simp only [nw]
  cases nw p (b + 1) l with
  | some c => exact ⟨c, rfl⟩
  | none => exact ⟨b, by simp [h]⟩
theorem nw_miss (p : Fd → Bool) (b : Nat) (f : Fd) (l : List Fd) (h : p f = false) : nw p b (f :: l) = nw p (b + 1) l := by
  simp only [nw]
  cases nw p (b + 1) l <;> simp [h]
theorem nw_last (p : Fd → Bool) (b : Nat) (f : Fd) (l : List Fd) (h : p f = true) (hb : nw p b (f :: l) = some b) : nw p (b + 1) l = none := by
  simp only [nw] at hb
  cases hc : nw p (b + 1) l with
  | none => rfl
  | some c =>
    rw [hc] at hb
    have := nw_bound p _ _ _ hc
    simp only [Option.some.injEq] at hb
    omega
theorem nw_more (p : Fd → Bool) (b a : Nat) (f : Fd) (l : List Fd) (hb : nw p b (f :: l) = some a) (hne : a ≠ b) : nw p (b + 1) l = some a := by
  simp only [nw] at hb
  cases hc : nw p (b + 1) l with
  | some c => rw [hc] at hb; exact hb
  | none => rw [hc] at hb; simp at hb; have := hb.2; omega
theorem nw_take_succ (p : Fd → Bool) (b : Nat) (l : List Fd) (k : Nat) (hk : k < l.length) : nw p b (l.take (k + 1)) = if p l[k] then some (b + k) else nw p b (l.take k) := by
  rw [List.take_succ_eq_append_getElem hk, nw_snoc, List.length_take, Nat.min_eq_left (by omega)]

/-- What is left when the oldest go till no more than room is taken. -/
def fits (room : Int) : List Fd → List Fd
  | [] => []
  | f :: l => if room < (sizeF (f :: l) : Int) then fits room l else f :: l
theorem fits_len (room : Int) : ∀ l, (fits room l).length ≤ l.length
  | [] => Nat.le_refl _
  | f :: l => by
    unfold fits
    split
    · have := fits_len room l; simp; omega
    · exact Nat.le_refl _
theorem fits_drop (room : Int) : ∀ l, fits room l = l.drop (l.length - (fits room l).length)
  | [] => rfl
  | f :: l => by
    have h := fits_drop room l
    have hl := fits_len room l
    unfold fits
    split
    · rw [show (f :: l).length - (fits room l).length = (l.length - (fits room l).length) + 1 by simp; omega, List.drop_succ_cons]
      exact h
    · simp
theorem fits_le (room : Int) : ∀ l, fits room l = [] ∨ (sizeF (fits room l) : Int) ≤ room
  | [] => .inl rfl
  | f :: l => by
    unfold fits
    split
    · exact fits_le room l
    · exact .inr (by omega)
theorem fits_all {room : Int} {l : List Fd} (h : (sizeF l : Int) ≤ room) : fits room l = l := by
  cases l with
  | nil => rfl
  | cons f l => unfold fits; rw [if_neg (by omega)]
theorem fits_neg {room : Int} (h : room < 0) : ∀ l, fits room l = []
  | [] => rfl
  | f :: l => by unfold fits; rw [if_pos (by omega)]; exact fits_neg h l
theorem fits_cons_go {room : Int} {f : Fd} {l : List Fd} (h : room < (sizeF (f :: l) : Int)) : fits room (f :: l) = fits room l := by
  rw [fits, if_pos h]
theorem sizeF_drop (l : List Fd) (k : Nat) : sizeF (l.drop k) ≤ sizeF l := by
  have := sizeF_append (l.take k) (l.drop k)
  rw [List.take_append_drop] at this
  omega
theorem fits_size (room : Int) (l : List Fd) : sizeF (fits room l) ≤ sizeF l := by
  rw [fits_drop room l]; exact sizeF_drop _ _
theorem fits_mem {room : Int} {l : List Fd} {f : Fd} (h : f ∈ fits room l) : f ∈ l := by
  rw [fits_drop room l] at h; exact List.mem_of_mem_drop h
theorem sizeF_mem {l : List Fd} {f : Fd} (h : f ∈ l) : fsz f + 32 ≤ sizeF l := by
  induction l with
  | nil => cases h
  | cons g l ih =>
    rcases List.mem_cons.1 h with rfl | h
    · simp only [sizeF]; omega
    · have := ih h; simp only [sizeF]; omega
theorem sizeF_len (l : List Fd) : 32 * l.length ≤ sizeF l := by
  rw [sizeF_sum]; omega

/-- The table: what stands, the capacity, how many ever stood. -/
structure Tab where
  l : List Fd
  cap : Nat
  tot : Nat
def Tab.new (n : Int) : Tab := ⟨[], n.toNat, 0⟩
def Tab.room (T : Tab) (f : Fd) : Int := (T.cap : Int) - ((fsz f + 32 : Nat) : Int)
def Tab.add (T : Tab) (f : Fd) : Tab := if fsz f + 32 ≤ T.cap then ⟨fits (T.room f) T.l ++ [f], T.cap, T.tot + 1⟩ else ⟨fits (T.room f) T.l, T.cap, T.tot⟩
def Tab.went (T : Tab) (room : Int) : Nat := T.l.length - (fits room T.l).length
def Tab.resize (T : Tab) (n : Int) : Tab := ⟨fits (n.toNat : Int) T.l, n.toNat, T.tot⟩
def Tab.first (T : Tab) : Nat := T.tot - T.l.length
/-- No more stands than ever stood; all within bounds that no number of the program reaches. -/
structure Tab.ok (T : Tab) : Prop where
  len : T.l.length ≤ T.tot
  size : sizeF T.l ≤ 1000000
  cap : T.cap ≤ 1000000
  tot : T.tot ≤ 1000000
theorem Tab.ok.short {T : Tab} (h : T.ok) : T.l.length ≤ 31250 := by have := sizeF_len T.l; have := h.size; omega
theorem Tab.add_tot_le (T : Tab) (f : Fd) : (T.add f).tot ≤ T.tot + 1 := by unfold Tab.add; split <;> simp
theorem Tab.add_cap (T : Tab) (f : Fd) : (T.add f).cap = T.cap := by unfold Tab.add; split <;> rfl
theorem Tab.ok.fitted_ok {T : Tab} (h : T.ok) (room : Int) : Tab.ok ⟨fits room T.l, T.cap, T.tot⟩ :=
  ⟨Nat.le_trans (fits_len _ _) h.len, Nat.le_trans (fits_size _ _) h.size, h.cap, h.tot⟩
theorem Tab.add_size (T : Tab) (f : Fd) (hc : fsz f + 32 ≤ T.cap) : sizeF (fits (T.room f) T.l ++ [f]) ≤ T.cap := by
  rw [sizeF_append]
  have : sizeF [f] = fsz f + 32 := by simp [sizeF]
  rcases fits_le (T.room f) T.l with h | h
  · rw [h]; simp only [sizeF] at *; omega
  · unfold Tab.room at *; omega
theorem Tab.ok.add_ok {T : Tab} (h : T.ok) (f : Fd) (ht : T.tot + 1 ≤ 1000000) : (T.add f).ok := by
  unfold Tab.add
  split
  · rename_i hc
    refine ⟨?_, Nat.le_trans (T.add_size f hc) h.cap, h.cap, ht⟩
    have := fits_len (T.room f) T.l
    have := h.len
    simp only [List.length_append, List.length_singleton]; omega
  · exact h.fitted_ok _
theorem Tab.new_ok {n : Int} (h : n ≤ 1000000) : (Tab.new n).ok := ⟨Nat.le_refl _, by simp [Tab.new, sizeF], by simp only [Tab.new]; omega, by simp [Tab.new]⟩
theorem Tab.ok.resize_ok {T : Tab} (h : T.ok) {n : Int} (hn : n ≤ 1000000) : (T.resize n).ok :=
  ⟨Nat.le_trans (fits_len _ _) h.len, Nat.le_trans (fits_size _ _) h.size, by simp only [Tab.resize]; omega, h.tot⟩

end Go.Proofs.Ytebakjdeighdnaa

/-
  Maps from fields, or from names, to the number of the newest one.
-/
namespace Go.Proofs.Ytebakjdeighdnaa
open Go.RowKit Go.Maps
set_option linter.unusedVariables false

theorem fdLaidOut : laidOutB Try.prog = true := by kernel_rfl
theorem fdLaw : Keyed Try.prog 35 := Keyed.of_law (deep_law_laid fdLaidOut (m := 2) (by omega) (of_decide_eq_true (by kernel_rfl)) (by kernel_rfl) (by kernel_rfl))
theorem stLaw : Keyed Try.prog 9 := string_keyed Try.underlying9

/-- What a field reads as, as a key. -/
def kf (f : Fd) : Lit := .string (keyBytes [.string f.1.data.toList, .string f.2.data.toList])
def ks (s : ByteArray) : Lit := .string s.data.toList
def Sized (f : Fd) : Prop := f.1.size ≤ maxLen ∧ f.2.size ≤ maxLen
def Short (s : ByteArray) : Prop := s.size ≤ maxLen

theorem fdCells : Try.prog.cellsOf 35 = 2 := by kernel_rfl
theorem fdStr : Try.prog.cellsOf 9 = 1 := by kernel_rfl
theorem fdKey : Try.prog.keyType 35 = true := by kernel_rfl
theorem keyOf_fd (f : Fd) (h : Sized f) : keyOf Try.prog 35 (.agg #[.string f.1, .string f.2]) = some (kf f) := by
  obtain ⟨f1, f2⟩ := f
  obtain ⟨h1, h2⟩ := h
  simp only at h1 h2
  have hs : ∀ (n : Nat) (s : ByteArray), s.size ≤ maxLen → Try.prog.keyLits (n + 1) 9 [.string s] = some [.string s.data.toList] := fun n s hs => by
    unfold Program.keyLits
    simp only [Try.underlying9, if_pos hs]
  unfold keyOf
  simp only [Try.underlying35]
  obtain ⟨n, hn⟩ : ∃ n, Try.prog.types.size = n + 1 := ⟨Try.prog.types.size - 1, by kernel_rfl⟩
  rw [fdKey, hn]
  have hf : (Value.agg #[.string f1, .string f2]).formed Try.prog 35 = true := by
    simp [Value.formed, Try.underlying35, fdCells]
  rw [hf]
  unfold Program.keyLits
  simp only [Try.underlying35]
  rw [if_pos (show (true && true) = true from rfl), if_pos ⟨by rw [fdCells]; rfl, by kernel_rfl⟩]
  simp only [List.mapM_cons, List.mapM_nil, fdStr, Value.cells, List.drop_zero, List.take_succ_cons, List.take_zero, List.drop_succ_cons, hs _ _ h1, hs _ _ h2]
  rfl
theorem kf_inj (f g : Fd) (hf : Sized f) (hg : Sized g) (h : kf f = kf g) : f = g := by
  have e := fdLaw.inj (keyOf_fd f hf) (by rw [h]; exact keyOf_fd g hg)
  obtain ⟨f1, f2⟩ := f
  obtain ⟨g1, g2⟩ := g
  simp only [Value.agg.injEq, Array.mk.injEq, List.cons.injEq, Value.string.injEq] at e
  rw [e.1, e.2.1]
theorem kf_key (f : Fd) (h : Sized f) : WideAt.IsKeyLit (kf f) := fdLaw.key (keyOf_fd f h)
theorem keyOf_st (s : ByteArray) (h : Short s) : keyOf Try.prog 9 (.string s) = some (ks s) := WideMaps.keyOf_string_mk (P := Try.prog) Try.underlying9 h
theorem ks_inj (f g : ByteArray) (hf : Short f) (hg : Short g) (h : ks f = ks g) : f = g := by
  have e := stLaw.inj (keyOf_st f hf) (by rw [h]; exact keyOf_st g hg)
  exact Value.string.inj e
theorem ks_key (s : ByteArray) (h : Short s) : WideAt.IsKeyLit (ks s) := stLaw.key (keyOf_st s h)

/-- The map tells of each key which one is the newest that has it. -/
def Mp {κ : Type} [DecidableEq κ] (kl : κ → Lit) (ok : κ → Prop) (pr : Fd → κ) (b : Nat) (l : List Fd) (D : DataW Unit) : Prop :=
  IsMap D ∧ ∀ k, ok k → Maps.has D (kl k) = (nw (fun g => decide (pr g = k)) b l).isSome ∧ D.atKey (kl k) (.lit (.int .u64 0)) = .lit (.int .u64 (((nw (fun g => decide (pr g = k)) b l).getD 0 : Nat) : Int))

section
variable {κ : Type} [DecidableEq κ] {kl : κ → Lit} {ok : κ → Prop} {pr : Fd → κ} {b : Nat} {l : List Fd} {f : Fd} {D : DataW Unit}
theorem Mp.nil (kl : κ → Lit) (ok : κ → Prop) (pr : Fd → κ) (b : Nat) : Mp kl ok pr b [] (.map []) := ⟨isMap_empty, fun k _ => by simp [nw, Maps.has, DataW.atKey]⟩
theorem Mp.put (hi : ∀ k k', ok k → ok k' → kl k = kl k' → k = k') (hk : ∀ k, ok k → WideAt.IsKeyLit (kl k)) (h : Mp kl ok pr b l D) (hf : ok (pr f)) {c : Nat} (hc : c = b + l.length) : Mp kl ok pr b (l ++ [f]) (D.put (kl (pr f)) (.lit (.int .u64 (c : Int)))) := by
  subst hc
  obtain ⟨h0, h1⟩ := h
  refine ⟨h0.put _ _, fun k hok => ?_⟩
  rw [nw_snoc]
  by_cases he : pr f = k
  · subst he
    rw [has_put_same h0 (hk _ hf), atKey_put_same h0 (hk _ hf)]
    simp
  · have hne : kl k ≠ kl (pr f) := fun e => he (hi _ _ hok hf e).symm
    rw [has_put_other hne, atKey_put_other hne]
    simp only [he, decide_false, Bool.false_eq_true, if_false]
    exact h1 k hok
theorem Mp.last (hi : ∀ k k', ok k → ok k' → kl k = kl k' → k = k') (h : Mp kl ok pr b (f :: l) D) (hf : ok (pr f)) (hb : (nw (fun g => decide (pr g = pr f)) b (f :: l)).getD 0 = b) : Mp kl ok pr (b + 1) l (D.del (kl (pr f))) := by
  obtain ⟨h0, h1⟩ := h
  refine ⟨h0.del _, fun k hok => ?_⟩
  by_cases he : pr f = k
  · subst he
    obtain ⟨a, ha⟩ := nw_hit (fun g => decide (pr g = pr f)) b f l (by simp)
    rw [ha] at hb
    simp only [Option.getD_some] at hb
    rw [hb] at ha
    rw [has_del_same, atKey_del_same, nw_last _ b f l (by simp) ha]
    simp
  · have hne : kl k ≠ kl (pr f) := fun e => he (hi _ _ hok hf e).symm
    rw [has_del_other hne, atKey_del_other hne, (h1 k hok).1, (h1 k hok).2, nw_miss _ _ _ _ (by simp [he])]
    exact ⟨rfl, rfl⟩
theorem Mp.more (h : Mp kl ok pr b (f :: l) D) (hb : (nw (fun g => decide (pr g = pr f)) b (f :: l)).getD 0 ≠ b) : Mp kl ok pr (b + 1) l D := by
  obtain ⟨h0, h1⟩ := h
  refine ⟨h0, fun k hok => ?_⟩
  rw [(h1 k hok).1, (h1 k hok).2]
  by_cases he : pr f = k
  · subst he
    obtain ⟨a, ha⟩ := nw_hit (fun g => decide (pr g = pr f)) b f l (by simp)
    rw [ha] at hb ⊢
    rw [nw_more _ b a f l ha (by simpa using hb)]
    exact ⟨rfl, rfl⟩
  · rw [nw_miss _ _ _ _ (by simp [he])]
    exact ⟨rfl, rfl⟩
end

theorem zeroU64 (w : World) : (zeroValue 31).run Try.prog w = .ok (.int .u64 0) w := by kernel_rfl

def hasF (f : Fd) : Fd → Bool := fun g => decide (g = f)
def hasN (s : ByteArray) : Fd → Bool := fun g => decide (g.1 = s)
/-- Look-ups in the two maps, as equations. -/
theorem lookW {w : World} {b n m : Nat} {l : List Fd} {D : DataW Unit} (ho : w.ownsMap Try.prog 35 (plainElem Try.prog 31) b n D) (h : Mp kf Sized id m l D) {f : Fd} (hf : Sized f) :
    (Instr.lookup 59 (.map (some b)) (.agg #[.string f.1, .string f.2]) false).run Try.prog w = .ok (.int .u64 (((nw (hasF f) m l).getD 0 : Nat) : Int)) w := by
  obtain ⟨c, hrun, hc, _⟩ := ho.lookup_int fdLaw Try.underlying59 Try.underlying31 (zeroU64 w) (keyOf_fd f hf)
  rw [(h.2 f hf).2] at hc
  simp only [DataW.lit.injEq, Lit.int.injEq, true_and] at hc
  rw [hrun, ← hc]
  rfl
theorem lookN {w : World} {b n m : Nat} {l : List Fd} {D : DataW Unit} (ho : w.ownsMap Try.prog 9 (plainElem Try.prog 31) b n D) (h : Mp ks Short Prod.fst m l D) {s : ByteArray} (hf : Short s) :
    (Instr.lookup 60 (.map (some b)) (.string s) false).run Try.prog w = .ok (.int .u64 (((nw (hasN s) m l).getD 0 : Nat) : Int)) w := by
  obtain ⟨c, hrun, hc, _⟩ := ho.lookup_int stLaw Try.underlying60 Try.underlying31 (zeroU64 w) (keyOf_st s hf)
  rw [(h.2 s hf).2] at hc
  simp only [DataW.lit.injEq, Lit.int.injEq, true_and] at hc
  rw [hrun, ← hc]
  rfl
theorem lookWok {w : World} {b n m : Nat} {l : List Fd} {D : DataW Unit} (ho : w.ownsMap Try.prog 35 (plainElem Try.prog 31) b n D) (h : Mp kf Sized id m l D) {f : Fd} (hf : Sized f) :
    (Instr.lookup 59 (.map (some b)) (.agg #[.string f.1, .string f.2]) true).run Try.prog w = .ok (.tuple #[.int .u64 (((nw (hasF f) m l).getD 0 : Nat) : Int), .bool (nw (hasF f) m l).isSome]) w := by
  obtain ⟨v, ps, hrun, hv⟩ := ho.look_ok fdLaw Try.underlying59 (zeroU64 w) (plainElem_int Try.underlying31 (by decide)) (keyOf_fd f hf)
  obtain ⟨c, rfl, hc, hw⟩ := plainElem_int_inv Try.underlying31 hv
  simp only [Prod.mk.injEq] at hc
  have hc := hc.1
  rw [(h.2 f hf).2] at hc
  simp only [DataW.lit.injEq, Lit.int.injEq, true_and] at hc
  rw [hrun, ← hc, (h.2 f hf).1]
  rfl
theorem lookNok {w : World} {b n m : Nat} {l : List Fd} {D : DataW Unit} (ho : w.ownsMap Try.prog 9 (plainElem Try.prog 31) b n D) (h : Mp ks Short Prod.fst m l D) {s : ByteArray} (hf : Short s) :
    (Instr.lookup 60 (.map (some b)) (.string s) true).run Try.prog w = .ok (.tuple #[.int .u64 (((nw (hasN s) m l).getD 0 : Nat) : Int), .bool (nw (hasN s) m l).isSome]) w := by
  obtain ⟨v, ps, hrun, hv⟩ := ho.look_ok stLaw Try.underlying60 (zeroU64 w) (plainElem_int Try.underlying31 (by decide)) (keyOf_st s hf)
  obtain ⟨c, rfl, hc, hw⟩ := plainElem_int_inv Try.underlying31 hv
  simp only [Prod.mk.injEq] at hc
  have hc := hc.1
  rw [(h.2 s hf).2] at hc
  simp only [DataW.lit.injEq, Lit.int.injEq, true_and] at hc
  rw [hrun, ← hc, (h.2 s hf).1]
  rfl

end Go.Proofs.Ytebakjdeighdnaa

/-
  The program's table in memory, the document's table in memory, and what a call does to one of them.
-/
namespace Go.Proofs.Ytebakjdeighdnaa
open Go.RowKit Go.Maps
set_option linter.unusedVariables false

/-- The cells of the program's table. -/
def tF (v : Value) (bw bn sz cp ct : Nat) (i : Nat) : Value :=
  if i = 0 then v else if i = 1 then .map (some bw) else if i = 2 then .map (some bn) else if i = 3 then .int .i64 (sz : Int) else if i = 4 then .int .i64 (cp : Int) else .int .u64 (ct : Int)

/-- The program's table, part by part; na, nb: bounds of the two maps. -/
structure Tr (w : World) (p : Nat) (v : Value) (bw bn sz cp ct na nb : Nat) (L : List Fd) (Dw Dn : DataW Unit) : Prop where
  row : w.rowIs p 62 6 (tF v bw bn sz cp ct)
  st : St w v L
  mw : w.ownsMap Try.prog 35 (plainElem Try.prog 31) bw na Dw
  mn : w.ownsMap Try.prog 9 (plainElem Try.prog 31) bn nb Dn
  ne : p ≠ bw ∧ p ≠ bn ∧ bw ≠ bn
  nv : ∀ k, v.ownBlock = some k → k ≠ p ∧ k ≠ bw ∧ k ≠ bn

section
variable {w w' : World} {p : Nat} {v : Value} {bw bn sz cp ct na nb : Nat} {L : List Fd} {Dw Dn : DataW Unit}
theorem Tr.cells (h : Tr w p v bw bn sz cp ct na nb L Dw Dn) : w.cell? ⟨p, 0, none⟩ = some v ∧ w.cell? ⟨p, 1, none⟩ = some (.map (some bw)) ∧ w.cell? ⟨p, 2, none⟩ = some (.map (some bn)) ∧
    w.cell? ⟨p, 3, none⟩ = some (.int .i64 (sz : Int)) ∧ w.cell? ⟨p, 4, none⟩ = some (.int .i64 (cp : Int)) ∧ w.cell? ⟨p, 5, none⟩ = some (.int .u64 (ct : Int)) :=
  ⟨h.row.cell (by omega), h.row.cell (by omega), h.row.cell (by omega), h.row.cell (by omega), h.row.cell (by omega), h.row.cell (by omega)⟩
theorem Tr.free (h : Tr w p v bw bn sz cp ct na nb L Dw Dn) (i : Nat) : w.frozen? ⟨p, i, none⟩ = false := h.row.frozen i
theorem Tr.kept (h : Tr w p v bw bn sz cp ct na nb L Dw Dn) (hb : ∀ k, k < w.heap.size → (k = p ∨ k = bw ∨ k = bn ∨ v.ownBlock = some k) → w'.heap[k]? = w.heap[k]?) : Tr w' p v bw bn sz cp ct na nb L Dw Dn := by
  refine ⟨h.row.of_block (hb p h.row.lt (.inl rfl)), h.st.kept fun k hk => hb k (h.st.lt hk) (.inr (.inr (.inr hk))), ?_, ?_, h.ne, h.nv⟩
  · have hlt := h.mw.lt
    obtain ⟨es, cl, h1, h2, h3, h4⟩ := h.mw
    exact ⟨es, cl, (hb bw hlt (.inr (.inl rfl))).trans h1, h2, h3, h4⟩
  · have hlt := h.mn.lt
    obtain ⟨es, cl, h1, h2, h3, h4⟩ := h.mn
    exact ⟨es, cl, (hb bn hlt (.inr (.inr (.inl rfl)))).trans h1, h2, h3, h4⟩
theorem Tr.keep (h : Tr w p v bw bn sz cp ct na nb L Dw Dn) (hb : Below w.heap.size w w') : Tr w' p v bw bn sz cp ct na nb L Dw Dn := h.kept fun k hk _ => hb.block k hk
theorem Tr.alloc (h : Tr w p v bw bn sz cp ct na nb L Dw Dn) (o : Obj) : Tr (w.alloc o) p v bw bn sz cp ct na nb L Dw Dn := h.keep ((Below.refl _ _).alloc (Nat.le_refl _) o)
theorem Tr.drew (h : Tr w p v bw bn sz cp ct na nb L Dw Dn) : Tr w.drew p v bw bn sz cp ct na nb L Dw Dn := h.keep (Below.refl _ _).drew
theorem Tr.drewN (h : Tr w p v bw bn sz cp ct na nb L Dw Dn) (n : Nat) : Tr (w.drewN n) p v bw bn sz cp ct na nb L Dw Dn := h.keep (below_drewN (Below.refl _ _) n)

/-- A store into one of the table's own cells. -/
theorem Tr.rest (h : Tr w p v bw bn sz cp ct na nb L Dw Dn) (i : Nat) (x : Value) {f : Nat → Value} (hr : (w.setCell ⟨p, i, none⟩ x).rowIs p 62 6 f) {v' : Value} {sz' cp' ct' : Nat}
    (hf : ∀ j, j < 6 → f j = tF v' bw bn sz' cp' ct' j) {L' : List Fd} (hst : St (w.setCell ⟨p, i, none⟩ x) v' L') (hv : v'.ownBlock = v.ownBlock) : Tr (w.setCell ⟨p, i, none⟩ x) p v' bw bn sz' cp' ct' na nb L' Dw Dn :=
  ⟨hr.congr hf, hst, h.mw.setCell (fun e => h.ne.1 e.symm) x, h.mn.setCell (fun e => h.ne.2.1 e.symm) x, h.ne, fun k hk => h.nv k (hv ▸ hk)⟩
theorem Tr.stSet (h : Tr w p v bw bn sz cp ct na nb L Dw Dn) (i : Nat) (x : Value) : St (w.setCell ⟨p, i, none⟩ x) v L :=
  h.st.grown (grown_set w p i x) fun k hk e => (h.nv k hk).1 (Option.some.inj e)
theorem Tr.setSz (h : Tr w p v bw bn sz cp ct na nb L Dw Dn) (n : Nat) : Tr (w.setCell ⟨p, 3, none⟩ (.int .i64 (n : Int))) p v bw bn n cp ct na nb L Dw Dn :=
  h.rest 3 _ (h.row.set 3 _) (fun j hj => by unfold tF; match j, hj with | 0, _ => rfl | 1, _ => rfl | 2, _ => rfl | 3, _ => rfl | 4, _ => rfl | 5, _ => rfl) (h.stSet 3 _) rfl
theorem Tr.setCp (h : Tr w p v bw bn sz cp ct na nb L Dw Dn) (n : Nat) : Tr (w.setCell ⟨p, 4, none⟩ (.int .i64 (n : Int))) p v bw bn sz n ct na nb L Dw Dn :=
  h.rest 4 _ (h.row.set 4 _) (fun j hj => by unfold tF; match j, hj with | 0, _ => rfl | 1, _ => rfl | 2, _ => rfl | 3, _ => rfl | 4, _ => rfl | 5, _ => rfl) (h.stSet 4 _) rfl
theorem Tr.setCt (h : Tr w p v bw bn sz cp ct na nb L Dw Dn) (n : Nat) : Tr (w.setCell ⟨p, 5, none⟩ (.int .u64 (n : Int))) p v bw bn sz cp n na nb L Dw Dn :=
  h.rest 5 _ (h.row.set 5 _) (fun j hj => by unfold tF; match j, hj with | 0, _ => rfl | 1, _ => rfl | 2, _ => rfl | 3, _ => rfl | 4, _ => rfl | 5, _ => rfl) (h.stSet 5 _) rfl
/-- The slice's own cell: another slice, in the same block or in a new one. -/
theorem Tr.setV (h : Tr w p v bw bn sz cp ct na nb L Dw Dn) {v' : Value} {L' : List Fd} (hst : St w v' L') (hv : ∀ k, v'.ownBlock = some k → k ≠ p ∧ k ≠ bw ∧ k ≠ bn) : Tr (w.setCell ⟨p, 0, none⟩ v') p v' bw bn sz cp ct na nb L' Dw Dn :=
  ⟨(h.row.set 0 v').congr (fun j hj => by unfold tF; match j, hj with | 0, _ => rfl | 1, _ => rfl | 2, _ => rfl | 3, _ => rfl | 4, _ => rfl | 5, _ => rfl),
    hst.grown (grown_set w p 0 v') fun k hk e => (hv k hk).1 (Option.some.inj e), h.mw.setCell (fun e => h.ne.1 e.symm) v', h.mn.setCell (fun e => h.ne.2.1 e.symm) v', h.ne, hv⟩
/-- The slice's block written, or a new one made. -/
theorem Tr.slice (h : Tr w p v bw bn sz cp ct na nb L Dw Dn) (hg : w.grownBy w' v.ownBlock) {L' : List Fd} (hst : St w' v L') : Tr w' p v bw bn sz cp ct na nb L' Dw Dn := by
  have hp : some p ≠ v.ownBlock := fun e => (h.nv p e.symm).1 rfl
  have hw : some bw ≠ v.ownBlock := fun e => (h.nv bw e.symm).2.1 rfl
  have hn : some bn ≠ v.ownBlock := fun e => (h.nv bn e.symm).2.2 rfl
  exact ⟨h.row.of_block (hg.block p h.row.lt hp), hst, h.mw.kept hg hw, h.mn.kept hg hn, h.ne, h.nv⟩
theorem Tr.grew (h : Tr w p v bw bn sz cp ct na nb L Dw Dn) (hg : w.grownBy w' v.ownBlock) {v' : Value} {L' : List Fd} (hst : St w' v' L') (hv : v'.ownBlock = v.ownBlock ∨ ∃ g, v'.ownBlock = some g ∧ w.heap.size ≤ g) : Tr (w'.setCell ⟨p, 0, none⟩ v') p v' bw bn sz cp ct na nb L' Dw Dn := by
  have hp : some p ≠ v.ownBlock := fun e => (h.nv p e.symm).1 rfl
  have hw : some bw ≠ v.ownBlock := fun e => (h.nv bw e.symm).2.1 rfl
  have hn : some bn ≠ v.ownBlock := fun e => (h.nv bn e.symm).2.2 rfl
  have hnv : ∀ k, v'.ownBlock = some k → k ≠ p ∧ k ≠ bw ∧ k ≠ bn := by
    intro k hk
    rcases hv with e | ⟨g, e, hge⟩
    · exact h.nv k (e ▸ hk)
    · rw [e] at hk
      injection hk with hk
      have h1 := h.row.lt
      have h2 := h.mw.lt
      have h3 := h.mn.lt
      omega
  have hrow := h.row.of_block (hg.block p h.row.lt hp)
  exact ⟨(hrow.set 0 v').congr (fun j hj => by unfold tF; match j, hj with | 0, _ => rfl | 1, _ => rfl | 2, _ => rfl | 3, _ => rfl | 4, _ => rfl | 5, _ => rfl),
    hst.grown (grown_set w' p 0 v') fun k hk e => (hnv k hk).1 (Option.some.inj e), (h.mw.kept hg hw).setCell (fun e => h.ne.1 e.symm) v', (h.mn.kept hg hn).setCell (fun e => h.ne.2.1 e.symm) v', h.ne, hnv⟩
/-- One of the maps has turned. -/
theorem Tr.turnW (h : Tr w p v bw bn sz cp ct na nb L Dw Dn) (hg : w.grownBy w' (some bw)) {D : DataW Unit} {n : Nat} (ho : w'.ownsMap Try.prog 35 (plainElem Try.prog 31) bw n D) : Tr w' p v bw bn sz cp ct n nb L D Dn :=
  ⟨h.row.of_block (hg.block p h.row.lt (fun e => h.ne.1 (Option.some.inj e))), h.st.grown hg (fun k hk e => (h.nv k hk).2.1 (Option.some.inj e)), ho, h.mn.kept hg (fun e => h.ne.2.2 (Option.some.inj e).symm), h.ne, h.nv⟩
theorem Tr.turnN (h : Tr w p v bw bn sz cp ct na nb L Dw Dn) (hg : w.grownBy w' (some bn)) {D : DataW Unit} {n : Nat} (ho : w'.ownsMap Try.prog 9 (plainElem Try.prog 31) bn n D) : Tr w' p v bw bn sz cp ct na n L Dw D :=
  ⟨h.row.of_block (hg.block p h.row.lt (fun e => h.ne.2.1 (Option.some.inj e))), h.st.grown hg (fun k hk e => (h.nv k hk).2.2 (Option.some.inj e)), h.mw.kept hg (fun e => h.ne.2.2 (Option.some.inj e)), ho, h.ne, h.nv⟩
end

/-- The program's table behind the pointer to block p; S: a set of blocks that holds all of its. -/
def Tb (p : Nat) (T : Tab) (w : World) (S : Nat → Prop) : Prop :=
  ∃ v bw bn Dw Dn, Tr w p v bw bn (sizeF T.l) T.cap T.tot T.tot T.tot T.l Dw Dn ∧ Mp kf Sized id T.first T.l Dw ∧ Mp ks Short Prod.fst T.first T.l Dn ∧
    (S p ∧ S bw ∧ S bn ∧ ∀ k, v.ownBlock = some k → S k) ∧ (∀ k, S k → k < w.heap.size) ∧ T.ok

/-- The cells of the document's table. -/
def rF (v : Value) (cp ct : Nat) (i : Nat) : Value := if i = 0 then v else if i = 1 then .int .i64 (cp : Int) else .int .u64 (ct : Int)
/-- What a call does to what word X tells of: its blocks, and new ones, alone have turned. -/
def Turn (X : World → (Nat → Prop) → Prop) (S : Nat → Prop) (w w' : World) : Prop :=
  ∃ S', X w' S' ∧ (∀ k, S' k → S k ∨ w.heap.size ≤ k) ∧ Fp S w w'

theorem Tb.ok {p : Nat} {T : Tab} {w : World} {S : Nat → Prop} (h : Tb p T w S) : T.ok := by
  obtain ⟨_, _, _, _, _, _, _, _, _, _, h⟩ := h; exact h
theorem Tb.kept {p : Nat} {T : Tab} {w w' : World} {S : Nat → Prop} (h : Tb p T w S) (hs : w.heap.size ≤ w'.heap.size) (hb : ∀ k, S k → w'.heap[k]? = w.heap[k]?) : Tb p T w' S := by
  obtain ⟨v, bw, bn, Dw, Dn, h1, h2, h3, h4, h5, h6⟩ := h
  refine ⟨v, bw, bn, Dw, Dn, h1.kept ?_, h2, h3, h4, fun k hk => Nat.lt_of_lt_of_le (h5 k hk) hs, h6⟩
  rintro k _ (rfl | rfl | rfl | hk)
  · exact hb _ h4.1
  · exact hb _ h4.2.1
  · exact hb _ h4.2.2.1
  · exact hb _ (h4.2.2.2 k hk)
theorem Tb.lt {p : Nat} {T : Tab} {w : World} {S : Nat → Prop} (h : Tb p T w S) : ∀ k, S k → k < w.heap.size := by
  obtain ⟨_, _, _, _, _, _, _, _, _, h, _⟩ := h; exact h
theorem Tb.keep {p : Nat} {T : Tab} {w w' : World} {S : Nat → Prop} (h : Tb p T w S) (hb : Below w.heap.size w w') : Tb p T w' S := h.kept hb.size fun k hk => hb.block k (h.lt k hk)
theorem Tb.besides {p : Nat} {T : Tab} {w w' : World} {S S' : Nat → Prop} (h : Tb p T w S) (hf : Fp S' w w') (hd : ∀ k, S k → ¬ S' k) : Tb p T w' S := h.kept hf.size fun k hk => hf.block k (h.lt k hk) (hd k hk)
theorem Turn.refl {X : World → (Nat → Prop) → Prop} {S : Nat → Prop} {w w' : World} (h : X w' S) (hb : Below w.heap.size w w') : Turn X S w w' := ⟨S, h, fun k hk => .inl hk, Fp.of_below hb⟩
/-- One turn behind another. -/
theorem Turn.trans {X Y : World → (Nat → Prop) → Prop} {S : Nat → Prop} {a b c : World} (h : Turn X S a b) (k : ∀ S', X b S' → Turn Y S' b c) : Turn Y S a c := by
  obtain ⟨S1, x1, s1, f1⟩ := h
  obtain ⟨S2, y2, s2, f2⟩ := k S1 x1
  refine ⟨S2, y2, fun i hi => ?_, f1.trans f2 s1⟩
  rcases s2 i hi with h | h
  · exact s1 i h
  · exact .inr (Nat.le_trans f1.size h)
theorem Turn.size {X : World → (Nat → Prop) → Prop} {S : Nat → Prop} {w w' : World} (h : Turn X S w w') : w.heap.size ≤ w'.heap.size := by
  obtain ⟨_, _, _, hf⟩ := h; exact hf.size

end Go.Proofs.Ytebakjdeighdnaa

/-
  Contracts of the Go library at this dump: each is one application of a theorem of the library that is imported; the tables of numbers and the comparisons by the kernel. Written by program.
-/
namespace Go.Proofs.Ytebakjdeighdnaa
open Go.Shelf
def laysM316_ren : Go.Shelf.Ren := ⟨fun | 316 => 74 | n => n, fun | 9 => 9 | 3 => 3 | 4 => 4 | 37 => 28 | 0 => 0 | 127 => 128 | 5 => 5 | n => n, fun | n => n⟩
theorem laysM316 : Go.Proofs.LaysM.n316 Try.prog laysM316_ren := {
  mixed := by kernel_rfl
  f316 := Try.func74.trans (congrArg some (by kernel_rfl))
  t0 := Try.underlying0
  a0 := Try.isAgg0
  z0 := Try.sizeOf0
  v0 := Try.zeroValue0
  t3 := Try.underlying3
  a3 := Try.isAgg3
  z3 := Try.sizeOf3
  v3 := Try.zeroValue3
  t4 := Try.underlying4
  a4 := Try.isAgg4
  z4 := Try.sizeOf4
  v4 := Try.zeroValue4
  t9 := Try.underlying9
  a9 := Try.isAgg9
  z9 := Try.sizeOf9
  v9 := Try.zeroValue9
  t37 := Try.underlying28
  a37 := Try.isAgg28
  z37 := Try.sizeOf28
  v37 := Try.zeroValue28
  t127 := Try.underlying128
  a127 := Try.isAgg128
  z127 := Try.sizeOf128
  v127 := Try.zeroValue128
  t5 := Try.underlying5
  a5 := Try.isAgg5
  z5 := Try.sizeOf5
  v5 := Try.zeroValue5
  i0 := by kernel_rfl
  i3 := by kernel_rfl
  i4 := by kernel_rfl
  i5 := by kernel_rfl
  i9 := by kernel_rfl
  i37 := by kernel_rfl
  i127 := by kernel_rfl }
open Go.RowKit in
theorem stringslite_Clone (s : ByteArray) (w : World) (hlim : s.size ≤ 281474976710656) :
    Calls Try.prog 74 #[.string s] w fun e w' => e = .returned (.string s) ∧ Below w.heap.size w w' := Any.stringslite_Clone laysM316 s w hlim
end Go.Proofs.Ytebakjdeighdnaa

/-
  Small contracts: field.Size, the document's Size and size, strings.Clone, the tables' numbers.
-/
namespace Go.Proofs.Ytebakjdeighdnaa
open Go.RowKit Go.Maps
set_option linter.unusedVariables false

set_option maxRecDepth 100000 in
set_option maxHeartbeats 1000000 in
theorem size_any (v : Value) (l : List Fd) (w : World) (hv : Fs w v l) (hm : sizeF l ≤ 9223372036854775807) :
    Calls Try.prog 42 #[v] w fun e w' => e = .returned (.int .i64 (sizeF l : Int)) ∧ Below w.heap.size w w' := by
  have HV := Bx.mk hv
  have hlen := fun ty W => hv.run_len ty W
  have hlm := hv.len
  unfold maxLen at hlm
  clear hv
  go_enter Try.func42, Try.ntmps42
  go_wp2
  go_loopg [3, 8] l.length (fun g s3 s8 wx => ∃ k : Nat, k + g = l.length ∧ s8 = .int .i64 k ∧ s3 = .int .i64 (sizeF (l.take k) : Int) ∧ Bx (Below w.heap.size w wx))
  case atStart => exact ⟨0, by omega, rfl, rfl, ⟨Below.refl _ _⟩⟩
  case round =>
    obtain ⟨k, hkg, rfl, rfl, HB⟩ := hrel
    cases gk with
    | zero =>
      obtain rfl : k = l.length := by omega
      go_wp2
      go_ret
      rw [List.take_length]
      exact ⟨rfl, HB.out⟩
    | succ g =>
      have hk : k < l.length := by omega
      have hkz : (k : Int) < (l.length : Int) := by omega
      obtain ⟨b, o, hix, hcs⟩ := HV.out.at_ k hk
      obtain ⟨hc1, hc2⟩ := hcs wr (HV.out.keep HB.out)
      have hst := sizeF_take_succ l k hk
      have hle : sizeF (l.take (k + 1)) ≤ 9223372036854775807 := by
        have := sizeF_append (l.take (k + 1)) (l.drop (k + 1))
        rw [List.take_append_drop] at this
        omega
      have HST := Bx.mk hst
      unfold fsz at hst
      obtain ⟨f1, hf1⟩ : ∃ f1, l[k].1 = f1 := ⟨_, rfl⟩
      obtain ⟨f2, hf2⟩ : ∃ f2, l[k].2 = f2 := ⟨_, rfl⟩
      rw [hf1] at hc1 hst
      rw [hf2] at hc2 hst
      clear hcs
      have hb1 : sizeF (l.take k) + (f1.size + f2.size + 32) ≤ 9223372036854775807 := by omega
      clear hst hle
      go_wp2
      go_roundg g
      case measure => omega
      case rel => exact ⟨k + 1, by omega, by go_num, by rw [HST.out]; unfold fsz; rw [hf1, hf2]; go_num, ⟨HB.out.alloc HB.out.size _⟩⟩

theorem clone_any (s : ByteArray) (w : World) (hs : s.size ≤ 1000000) :
    Calls Try.prog 63 #[.string s] w fun e w' => e = .returned (.string s) ∧ Below w.heap.size w w' := by
  go_enter Try.func63, Try.ntmps63
  go_wp2_with fail
  refine (stringslite_Clone s _ (by omega)).mono ?_
  rintro e w2 ⟨rfl, hb⟩
  go_wp2
  go_ret
  exact ⟨rfl, hb⟩

set_option maxRecDepth 100000 in
set_option maxHeartbeats 1000000 in
theorem oldest_any {w : World} {p : Nat} {v : Value} {bw bn sz cp ct na nb : Nat} {L : List Fd} {Dw Dn : DataW Unit} (h : Tr w p v bw bn sz cp ct na nb L Dw Dn) (hl : L.length ≤ ct) (ht : ct ≤ 1000000) :
    Calls Try.prog 73 #[.pointer (some ⟨p, 0, none⟩)] w fun e w' => e = .returned (.int .u64 ((ct - L.length : Nat) : Int)) ∧ Below w.heap.size w w' := by
  have hlen := fun ty W => h.st.fs.run_len ty W
  obtain ⟨c0, c1, c2, c3, c4, c5⟩ := h.cells
  have hw1 : IntKind.u64.wrap (L.length : Int) = (L.length : Int) := by simp [IntKind.wrap, IntKind.signed, IntKind.bits]; omega
  have hw2 : IntKind.u64.wrap ((ct : Int) - (L.length : Int)) = ((ct - L.length : Nat) : Int) := by simp [IntKind.wrap, IntKind.signed, IntKind.bits]; omega
  clear h c1 c2 c3 c4
  go_enter Try.func73, Try.ntmps73
  go_wp2
  go_region
  go_wp2
  go_ret
  exact ⟨rfl, (Below.refl _ _).drew⟩

set_option maxRecDepth 100000 in
theorem size0_any {w : World} {p : Nat} {v : Value} {bw bn sz cp ct na nb : Nat} {L : List Fd} {Dw Dn : DataW Unit} (h : Tr w p v bw bn sz cp ct na nb L Dw Dn) :
    Calls Try.prog 60 #[.pointer (some ⟨p, 0, none⟩)] w fun e w' => e = .returned (.int .i64 (sz : Int)) ∧ Below w.heap.size w w' := by
  obtain ⟨c0, c1, c2, c3, c4, c5⟩ := h.cells
  clear h
  go_enter Try.func60, Try.ntmps60
  go_wp2
  go_ret
  exact ⟨rfl, Below.refl _ _⟩
set_option maxRecDepth 100000 in
theorem cap0_any {w : World} {p : Nat} {v : Value} {bw bn sz cp ct na nb : Nat} {L : List Fd} {Dw Dn : DataW Unit} (h : Tr w p v bw bn sz cp ct na nb L Dw Dn) :
    Calls Try.prog 20 #[.pointer (some ⟨p, 0, none⟩)] w fun e w' => e = .returned (.int .i64 (cp : Int)) ∧ Below w.heap.size w w' := by
  obtain ⟨c0, c1, c2, c3, c4, c5⟩ := h.cells
  clear h
  go_enter Try.func20, Try.ntmps20
  go_wp2
  go_ret
  exact ⟨rfl, Below.refl _ _⟩
set_option maxRecDepth 100000 in
theorem count0_any {w : World} {p : Nat} {v : Value} {bw bn sz cp ct na nb : Nat} {L : List Fd} {Dw Dn : DataW Unit} (h : Tr w p v bw bn sz cp ct na nb L Dw Dn) :
    Calls Try.prog 26 #[.pointer (some ⟨p, 0, none⟩)] w fun e w' => e = .returned (.int .u64 (ct : Int)) ∧ Below w.heap.size w w' := by
  obtain ⟨c0, c1, c2, c3, c4, c5⟩ := h.cells
  clear h
  go_enter Try.func26, Try.ntmps26
  go_wp2
  go_ret
  exact ⟨rfl, Below.refl _ _⟩
set_option maxRecDepth 100000 in
theorem len0_any {w : World} {p : Nat} {v : Value} {bw bn sz cp ct na nb : Nat} {L : List Fd} {Dw Dn : DataW Unit} (h : Tr w p v bw bn sz cp ct na nb L Dw Dn) :
    Calls Try.prog 11 #[.pointer (some ⟨p, 0, none⟩)] w fun e w' => e = .returned (.int .i64 (L.length : Int)) ∧ Below w.heap.size w w' := by
  have hlen := fun ty W => h.st.fs.run_len ty W
  obtain ⟨c0, c1, c2, c3, c4, c5⟩ := h.cells
  clear h
  go_enter Try.func11, Try.ntmps11
  go_wp2
  go_ret
  exact ⟨rfl, Below.refl _ _⟩

end Go.Proofs.Ytebakjdeighdnaa

/-
  delete, a store into a map, and any operation whose run is known, as one step of a region that draws its order. No program is named here.
-/
namespace Go.Proofs.Ytebakjdeighdnaa
open Go.RowKit Go.Maps
set_option linter.unusedVariables false
set_option linter.unusedSimpArgs false

section
variable {H : Type} {P : Program} {w : World} {ops : Array Oper} {o : Oper} {a : Act} {K : Act → World → Prop} {Q : Exit → Act → World → Prop} {E : Prop}
theorem step_delete_own (hg : o.guard = none) (hdst : o.dst = none) (m x : Operand) (t k : TypeId) (hop : o.op = Op.call { callee := Callee.builtin Builtin.delete, args := #[m, x], argTypes := #[t, k] })
    (e : TypeId) (L : Keyed P k) (ht : P.underlying t = some (.map k e)) (R : Value → Option (DataW H × List MemPlace)) (b n : Nat) (D : DataW H)
    (hm : a.eval m = .map (some b)) (hown : w.ownsMap P k R b n D) (key : Value) (kl : Lit) (hx : a.eval x = key) (hkey : keyOf P k key = some kl)
    (hK : ∀ w', w'.ownsMap P k R b n (D.del kl) → w.mapTurned w' b → K a w') : if Region.wanted o (yielded ops a.tmps) = true then Oper.wp P o a w K Q else E := by
  rw [if_pos (by simp [Region.wanted, hg])]
  obtain ⟨w', hrun, r1, r2⟩ := hown.drop L ht hkey o.type
  unfold Oper.wp
  simp [execOp, hop, resolve, invoke, builtin, hm, hx, hrun, Result.andThen]
  show K (a.put o.dst (.tuple #[])) w'
  rw [hdst]
  exact hK w' r1 r2
theorem step_mapUpdate_own (hg : o.guard = none) (m x v : Operand) (t : TypeId) (hop : o.op = Op.mapUpdate t m x v)
    (k e : TypeId) (L : Keyed P k) (ht : P.underlying t = some (.map k e)) (R : Value → Option (DataW H × List MemPlace)) (b n : Nat) (D : DataW H)
    (hm : a.eval m = .map (some b)) (hown : w.ownsMap P k R b n D) (hn : n < maxLen) (key val : Value) (kl : Lit) (hx : a.eval x = key) (hv : a.eval v = val) (hkey : keyOf P k key = some kl)
    (d : DataW H) (ps : List MemPlace) (hval : R val = some (d, ps))
    (hK : ∀ w', w'.ownsMap P k R b (n + 1) (D.put kl d) → w.grownBy w' (some b) → K (a.put o.dst undef) w') : if Region.wanted o (yielded ops a.tmps) = true then Oper.wp P o a w K Q else E := by
  rw [if_pos (by simp [Region.wanted, hg])]
  obtain ⟨w', hrun, r1, r2⟩ := hown.update L ht hn hkey hval
  unfold Oper.wp
  simp [execOp, hop, hm, hx, hv, hrun, Result.andThen]
  exact hK w' r1 r2
/-- An append whose run is known. -/
theorem step_append_run (hg : o.guard = none) (s x : Operand) (t : TypeId) (ho : o.op = .call { callee := .builtin .append, args := #[s, x], argTypes := #[t, t] })
    (v u : Value) (hs : a.eval s = v) (hx : a.eval x = u) {v' : Value} {w' : World} (hr : (Builtin.append_ #[t, t] o.type #[v, u]).run P w = .ok v' w') (hK : K (a.put o.dst v') w') :
    if Region.wanted o (yielded ops a.tmps) = true then Oper.wp P o a w K Q else E := by
  rw [if_pos (by simp [Region.wanted, hg])]
  unfold Oper.wp execOp
  simp only [ho, resolve, invoke, builtin, Sem.run_bind, Sem.run_pure, Result.andThen_ok, List.map_toArray, List.map_cons, List.map_nil, hs, hx, hr]
  exact hK
theorem wpList_append_run {rest : List Oper} (hg : o.guard = none) (s x : Operand) (t : TypeId) (ho : o.op = .call { callee := .builtin .append, args := #[s, x], argTypes := #[t, t] })
    (v u : Value) (hs : a.eval s = v) (hx : a.eval x = u) {v' : Value} {w' : World} (hr : (Builtin.append_ #[t, t] o.type #[v, u]).run P w = .ok v' w') (hK : wpList P ops Q rest (a.put o.dst v') w') :
    wpList P ops Q (o :: rest) a w :=
  wpList_plain hg fun _ hK' => by
    unfold Oper.wp execOp
    simp only [ho, resolve, invoke, builtin, Sem.run_bind, Sem.run_pure, Result.andThen_ok, List.map_toArray, List.map_cons, List.map_nil, hs, hx, hr]
    exact hK' _ _ hK
end

/-! ### A region whose last operation may break the condition that the others keep -/
section
variable {P : Program} {ops : Array Oper} {Q : Exit → Act → World → Prop} {md : Region.Mode} {S : World → Prop} {last : Nat}

/-- Whatever order is picked from here on, and S holds behind every operation that is carried out, till the last one has been. -/
def wpAnyX (P : Program) (md : Region.Mode) (ops : Array Oper) (Q : Exit → Act → World → Prop) (S : World → Prop) (last : Nat) : Nat → Array Bool → Act → World → Prop
  | 0, listed, a, w => Region.ready md ops listed = [] ∧ Q .normal a w
  | fuel + 1, listed, a, w =>
    (Region.ready md ops listed = [] → Q .normal a w) ∧
    ∀ i ∈ Region.ready md ops listed, wpOp P ops Q i (fun a' w' => ((listed.setIfInBounds i true).getD last true = false → S w') ∧ wpAnyX P md ops Q S last fuel (listed.setIfInBounds i true) a' w') a w

theorem wpAny_of_x : ∀ (fuel : Nat) (listed : Array Bool) (a : Act) (w : World), wpAnyX P md ops Q S last fuel listed a w → wpAny P md ops Q fuel listed a w
  | 0, _, _, _, h => h
  | fuel + 1, _, _, _, h => ⟨h.1, fun i hi => wpOp_mono (fun a' w' h' => wpAny_of_x fuel _ a' w' h'.2) (h.2 i hi)⟩

/-- The last one is bound to come behind number i. -/
def lastAfter (md : Region.Mode) (ops : Array Oper) (last i : Nat) : Bool :=
  match ops[last]? with
  | some o => o.after.any (fun e => Region.binds md e && e.on == i)
  | none => true

theorem set_last {listed : Array Bool} {i j last : Nat} (hi : i ≠ last) : ((listed.setIfInBounds i true).setIfInBounds j true).getD last true = (listed.setIfInBounds j true).getD last true := by
  by_cases h : i = j
  · subst h
    rw [getD_set_ne true hi]
  · rw [Array.setIfInBounds_comm _ _ h, getD_set_ne true hi]

theorem wpAnyX_first {i : Nat} {oi : Oper} {v : Value} (hi : ops[i]? = some oi) (hil : i ≠ last) (hsel : ∀ (j : Nat) (o : Oper) cs b, ops[j]? = some o → o.op ≠ .select cs b)
    (hQ : ∀ c a w, Q (.panic c) (a.put oi.dst v) w → Q (.panic c) a w) (hla : lastAfter md ops last i = true) :
    ∀ (fuel : Nat) (listed : Array Bool) (a : Act) (w : World),
      (∀ j oj, ops[j]? = some oj → j ≠ i → listed.getD j true = false → (∀ e ∈ oj.after, Region.binds md e = true → e.on ≠ i) → oi.apart ops oj = true) →
      i ∈ Region.ready md ops listed → YieldsIf P ops S oi v a → S w → listed.getD last true = false →
      wpAnyX P md ops Q S last fuel (listed.setIfInBounds i true) (a.put oi.dst v) w → wpAnyX P md ops Q S last (fuel + 1) listed a w := by
  intro fuel
  induction fuel with
  | zero =>
    intro listed a w _ hr hy hS hun0 H
    refine ⟨fun h => (by rw [h] at hr; cases hr), fun j hj => ?_⟩
    by_cases hji : j = i
    · subst hji; exact hy.wpOp hi hS ⟨fun _ => hS, H⟩
    · have := ready_mono hj hji
      rw [H.1] at this
      cases this
  | succ fuel ih =>
    intro listed a w hfree hr hy hS hun0 H
    refine ⟨fun h => (by rw [h] at hr; cases hr), fun j hj => ?_⟩
    by_cases hji : j = i
    · subst hji; exact hy.wpOp hi hS ⟨fun _ => hS, H⟩
    · have h1 := H.2 j (ready_mono hj hji)
      obtain ⟨hjun, oj, hoj, hall⟩ := mem_ready.1 hj
      have hnot : ∀ e ∈ oj.after, Region.binds md e = true → e.on ≠ i := fun e he hb heq => by
        have h1 := hall e he hb
        have h0 := (mem_ready.1 hr).1
        rw [heq] at h1
        rcases Nat.lt_or_ge i listed.size with h' | h'
        · simp [h'] at h0 h1; rw [h0] at h1; cases h1
        · simp [Array.getElem?_eq_none h'] at h1
      have hjl : j ≠ last := fun hc => by
        subst hc
        unfold lastAfter at hla
        rw [hoj] at hla
        simp only [Array.any_eq_true, Bool.and_eq_true, beq_iff_eq] at hla
        obtain ⟨k, hk, hb, he⟩ := hla
        exact hnot _ (Array.getElem_mem hk) hb he
      have h2 := wpOp_putIf hoj (hfree j oj hoj hji hjun hnot) (fun cs b => hsel i oi cs b hi) (fun cs b => hsel j oj cs b hoj) hQ hy h1
      have hfree' : ∀ k ok, ops[k]? = some ok → k ≠ i → (listed.setIfInBounds j true).getD k true = false →
          (∀ e ∈ ok.after, Region.binds md e = true → e.on ≠ i) → oi.apart ops ok = true := fun k ok hk hki hun hno => by
        refine hfree k ok hk hki ?_ hno
        by_cases hjk : j = k
        · subst hjk; exact hjun
        · rw [getD_set_ne true hjk] at hun; exact hun
      have hun1 : (listed.setIfInBounds j true).getD last true = false := by rw [getD_set_ne true hjl]; exact hun0
      refine wpOp_mono (fun a' w' h3 => ?_) h2
      have hS' : S w' := h3.2.1 (by rw [set_last hil]; exact hun1)
      refine ⟨fun _ => hS', ih (listed.setIfInBounds j true) a' w' hfree' (ready_mono hr (Ne.symm hji)) h3.1 hS' hun1 ?_⟩
      rw [Array.setIfInBounds_comm _ _ hji]
      exact h3.2.2

/-- What yields in whatever world. -/
theorem wpAnyX_first0 {i : Nat} {oi : Oper} {v : Value} (hi : ops[i]? = some oi) (hil : i ≠ last) (hsel : ∀ (j : Nat) (o : Oper) cs b, ops[j]? = some o → o.op ≠ .select cs b)
    (hQ : ∀ c a w, Q (.panic c) (a.put oi.dst v) w → Q (.panic c) a w) :
    ∀ (fuel : Nat) (listed : Array Bool) (a : Act) (w : World),
      (∀ j oj, ops[j]? = some oj → j ≠ i → listed.getD j true = false → (∀ e ∈ oj.after, Region.binds md e = true → e.on ≠ i) → oi.apart ops oj = true) →
      i ∈ Region.ready md ops listed → YieldsIf P ops (fun _ => True) oi v a → (listed.getD last true = false → S w) →
      wpAnyX P md ops Q S last fuel (listed.setIfInBounds i true) (a.put oi.dst v) w → wpAnyX P md ops Q S last (fuel + 1) listed a w := by
  intro fuel
  induction fuel with
  | zero =>
    intro listed a w _ hr hy hS H
    refine ⟨fun h => (by rw [h] at hr; cases hr), fun j hj => ?_⟩
    by_cases hji : j = i
    · subst hji; exact hy.wpOp hi trivial ⟨fun h => hS (by rw [getD_set_ne true hil] at h; exact h), H⟩
    · have := ready_mono hj hji
      rw [H.1] at this
      cases this
  | succ fuel ih =>
    intro listed a w hfree hr hy hS H
    refine ⟨fun h => (by rw [h] at hr; cases hr), fun j hj => ?_⟩
    by_cases hji : j = i
    · subst hji; exact hy.wpOp hi trivial ⟨fun h => hS (by rw [getD_set_ne true hil] at h; exact h), H⟩
    · have h1 := H.2 j (ready_mono hj hji)
      obtain ⟨hjun, oj, hoj, hall⟩ := mem_ready.1 hj
      have hnot : ∀ e ∈ oj.after, Region.binds md e = true → e.on ≠ i := fun e he hb heq => by
        have h1 := hall e he hb
        have h0 := (mem_ready.1 hr).1
        rw [heq] at h1
        rcases Nat.lt_or_ge i listed.size with h' | h'
        · simp [h'] at h0 h1; rw [h0] at h1; cases h1
        · simp [Array.getElem?_eq_none h'] at h1
      have h2 := wpOp_putIf hoj (hfree j oj hoj hji hjun hnot) (fun cs b => hsel i oi cs b hi) (fun cs b => hsel j oj cs b hoj) hQ hy h1
      have hfree' : ∀ k ok, ops[k]? = some ok → k ≠ i → (listed.setIfInBounds j true).getD k true = false →
          (∀ e ∈ ok.after, Region.binds md e = true → e.on ≠ i) → oi.apart ops ok = true := fun k ok hk hki hun hno => by
        refine hfree k ok hk hki ?_ hno
        by_cases hjk : j = k
        · subst hjk; exact hjun
        · rw [getD_set_ne true hjk] at hun; exact hun
      refine wpOp_mono (fun a' w' h3 => ?_) h2
      have hS' : (listed.setIfInBounds j true).getD last true = false → S w' := fun h => h3.2.1 (by rw [set_last hil]; exact h)
      refine ⟨hS', ih (listed.setIfInBounds j true) a' w' hfree' (ready_mono hr (Ne.symm hji)) h3.1 hS' ?_⟩
      rw [Array.setIfInBounds_comm _ _ hji]
      exact h3.2.2

theorem wpAnyX_take {i : Nat} {oi : Oper} {v : Value} {fuel : Nat} {listed : Array Bool} {a : Act} {w : World} (hi : ops[i]? = some oi) (hil : i ≠ last) (hla : lastAfter md ops last i = true) (hun : listed.getD last true = false)
    (hs : Region.noSelect ops = true) (hf : Region.free md ops listed i = true) (hr : (Region.ready md ops listed).contains i = true)
    (hQ : ∀ c a w, Q (.panic c) (a.put oi.dst v) w → Q (.panic c) a w) (hy : YieldsIf P ops S oi v a) (hS : S w)
    (h : wpAnyX P md ops Q S last fuel (listed.setIfInBounds i true) (a.put oi.dst v) w) : wpAnyX P md ops Q S last (fuel + 1) listed a w :=
  wpAnyX_first hi hil (Region.noSelect_spec hs) hQ hla fuel listed a w (Region.free_spec hi hf) (by simpa using hr) hy hS hun h
theorem wpAnyX_take0 {i : Nat} {oi : Oper} {v : Value} {fuel : Nat} {listed : Array Bool} {a : Act} {w : World} (hi : ops[i]? = some oi) (hil : i ≠ last)
    (hs : Region.noSelect ops = true) (hf : Region.free md ops listed i = true) (hr : (Region.ready md ops listed).contains i = true)
    (hQ : ∀ c a w, Q (.panic c) (a.put oi.dst v) w → Q (.panic c) a w) (hy : YieldsIf P ops (fun _ => True) oi v a) (hS : S w)
    (h : wpAnyX P md ops Q S last fuel (listed.setIfInBounds i true) (a.put oi.dst v) w) : wpAnyX P md ops Q S last (fuel + 1) listed a w :=
  wpAnyX_first0 hi hil (Region.noSelect_spec hs) hQ fuel listed a w (Region.free_spec hi hf) (by simpa using hr) hy (fun _ => hS) h

/-- One alone may come up. -/
theorem wpAnyX_one {i : Nat} {o : Oper} {fuel : Nat} {listed : Array Bool} {a : Act} {w : World} (hr : Region.ready md ops listed = [i]) (ho : ops[i]? = some o)
    (h : ∀ K' : Act → World → Prop, Shut (∀ a w, ((listed.setIfInBounds i true).getD last true = false → S w) → wpAnyX P md ops Q S last fuel (listed.setIfInBounds i true) a w → K' a w) → if Region.wanted o (yielded ops a.tmps) = true then Oper.wp P o a w K' Q else K' (a.put o.dst undef) w) :
    wpAnyX P md ops Q S last (fuel + 1) listed a w :=
  ⟨fun h0 => absurd (hr ▸ h0) (by simp), hr ▸ fun j hj => by
    rcases List.mem_cons.1 hj with rfl | hj
    · exact wpOp_step ho (fun K' hK => h K' (fun a w hS hW => hK a w ⟨hS, hW⟩))
    · cases hj⟩

theorem wpAnyX_done {listed : Array Bool} {a : Act} {w : World} (hr : Region.ready md ops listed = []) (h : Q .normal a w) :
    ∀ fuel, wpAnyX P md ops Q S last fuel listed a w
  | 0 => ⟨hr, h⟩
  | _ + 1 => ⟨fun _ => h, by rw [hr]; simp⟩

theorem wp_region_x {id : Nat} {a : Act} {w : World} (last : Nat) (S : World → Prop) (hm : P.follows .mixedOrders = true) (hS : S w.drew)
    (h : S w.drew → wpAnyX P .any ops Q S last ops.size (Array.replicate ops.size false) a w.drew) : (Code.region id ops true).wp P Q a w :=
  wp_region_any hm (wpAny_of_x (S := S) (last := last) _ _ _ _ (h hS))
end

end Go.Proofs.Ytebakjdeighdnaa
