/-
  Texts put together: Sl, Sn, FdMath, Step, DnFds, DnFb, DnSt, DnMath, DnMap, HuffMath, DnTb, DnStep, HuffA, HuffB, HuffMath3, Conv.
-/
import Derived.WalkKit
import Derived.WalkSpells
import Derived.WalkLawsBesides
import Derived.Maps.AppendAt
import Derived.Deep.AppendLies
import Derived.Deep.Draws
import Derived.Lib.Hide
import GoSem.Core.Utf8
import Derived.Test.YteopmaaghhendaaRows
import Derived.Laws.Tables
import Derived.Laws.Rows
import Derived.Laws.ResultCell
import Derived.Deep.WholeRow
import Derived.Deep.OwnRows
import Derived.Laws.IdiomCopy
import Derived.ArgAppend
import Derived.Maps.Own
import Derived.Maps.OwnOps
import Derived.Maps.OwnSet
import Derived.Maps.Views
import Derived.DeepKeys4
import Derived.ProofKit
import Derived.Deep.RegionLaw
import Derived.Deep.RegionHeld
import Derived.Lib.MinMax
import Derived.Handy
import Derived.Laws.BytesArg

/-
  Slices of one-cell elements, as lists: what reads as a list, what may be appended to without a write to older memory; the laws for append, len, index over them. No program is named here.
-/
namespace Go.Proofs.Yteopmaaghhendaa
open Go.RowKit
set_option linter.unusedVariables false

/-- The value reads in this world as the list xs. -/
def Rd (w : World) (v : Value) (xs : List Value) : Prop :=
  ∃ A c, v = .slice A xs.length c ∧ xs.length ≤ c ∧ c ≤ maxLen ∧
    ((A = none ∧ c = 0) ∨ ∃ x, A = some x ∧ ∀ j u, xs[j]? = some u → w.cell? (x.add j) = some u)

theorem Rd.nil (w : World) : Rd w (.slice none 0 0) [] := ⟨none, 0, rfl, Nat.le_refl _, Nat.zero_le _, .inl ⟨rfl, rfl⟩⟩

/-- A list that is not empty: where it lies. -/
theorem Rd.at_ {w : World} {v : Value} {xs : List Value} (h : Rd w v xs) (hn : 0 < xs.length) :
    ∃ b o c, v = .slice (some ⟨b, o, none⟩) xs.length c ∧ xs.length ≤ c ∧ c ≤ maxLen ∧ b < w.heap.size ∧ ∀ j u, xs[j]? = some u → w.cell? ⟨b, o + j, none⟩ = some u := by
  obtain ⟨A, c, rfl, h1, h2, h3⟩ := h
  rcases h3 with ⟨_, rfl⟩ | ⟨x, rfl, hc⟩
  · omega
  · obtain ⟨b, off, spot⟩ := x
    have h0 := hc 0 xs[0] (List.getElem?_eq_getElem hn)
    have hspot : spot = none := by simpa [Addr.add] using World.cell?_spot h0
    subst hspot
    refine ⟨b, off, c, rfl, h1, h2, World.block_lt_of_cell? w ⟨b, off + 0, none⟩ (by simpa [Addr.add] using h0), fun j u hu => ?_⟩
    have := hc j u hu
    rwa [Addr.add_lit] at this

/-- What is read depends on the cells alone. -/
theorem Rd.keep {w w' : World} {v : Value} {xs : List Value} (h : Rd w v xs) (hb : Below w.heap.size w w') : Rd w' v xs := by
  obtain ⟨A, c, rfl, h1, h2, h3⟩ := h
  refine ⟨A, c, rfl, h1, h2, h3.imp id ?_⟩
  rintro ⟨x, rfl, hc⟩
  refine ⟨x, rfl, fun j u hu => ?_⟩
  have hj := hc j u hu
  rw [hb.cell (World.block_lt_of_cell? w _ hj)]
  exact hj

theorem below_drewN {B : Nat} {a w : World} (h : Below B a w) (n : Nat) : Below B a (w.drewN n) := ⟨h.os, h.tape, h.output, h.size, h.block⟩

/-- May be appended to: a row of its own from block B on, or a slice with no room. -/
def Ap (w : World) (B : Nat) (e : TypeId) (v : Value) (xs : List Value) : Prop :=
  w.ownsRow B e 1 v xs.length xs ∨ ((∃ A, v = .slice A xs.length xs.length) ∧ Rd w v xs)

theorem Rd.of_own {w : World} {B : Nat} {e : TypeId} {v : Value} {xs : List Value} (h : w.ownsRow B e 1 v xs.length xs) : Rd w v xs := by
  have hh := h
  rcases h.2 with ⟨rfl, h0⟩ | ⟨g, cap, cur, rfl, _, _, hnc, hcm, _⟩
  · obtain rfl : xs = [] := List.eq_nil_of_length_eq_zero h0
    exact Rd.nil w
  · exact ⟨_, cap, rfl, hnc, hcm, .inr ⟨_, rfl, hh.cells (g := g) rfl⟩⟩

theorem Ap.rd {w : World} {B : Nat} {e : TypeId} {v : Value} {xs : List Value} (h : Ap w B e v xs) : Rd w v xs := by
  rcases h with h | ⟨_, h⟩
  · exact Rd.of_own h
  · exact h

theorem own_keep {w w' : World} {B : Nat} {e : TypeId} {v : Value} {n : Nat} {xs : List Value} (h : w.ownsRow B e 1 v n xs) (hb : Below w.heap.size w w') : w'.ownsRow B e 1 v n xs := by
  refine ⟨h.1, ?_⟩
  rcases h.2 with h0 | ⟨g, cap, cur, rfl, hg, hh, rest⟩
  · exact .inl h0
  · refine .inr ⟨g, cap, cur, rfl, hg, ?_, rest⟩
    rw [hb.block g (Array.getElem?_eq_some_iff.1 hh).1]; exact hh

theorem Ap.keep {w w' : World} {B : Nat} {e : TypeId} {v : Value} {xs : List Value} (h : Ap w B e v xs) (hb : Below w.heap.size w w') : Ap w' B e v xs := by
  rcases h with h | ⟨h1, h⟩
  · exact .inl (own_keep h hb)
  · exact .inr ⟨h1, h.keep hb⟩

theorem Ap.mono {w : World} {B B' : Nat} {e : TypeId} {v : Value} {xs : List Value} (h : Ap w B e v xs) (hB : B' ≤ B) : Ap w B' e v xs := by
  rcases h with ⟨h1, h⟩ | h
  · refine .inl ⟨h1, h.imp id ?_⟩
    rintro ⟨g, cap, cur, a, b, c⟩
    exact ⟨g, cap, cur, a, by omega, c⟩
  · exact .inr h

theorem Ap.alloc {w : World} {B : Nat} {e : TypeId} {v : Value} {xs : List Value} (h : Ap w B e v xs) (o : Obj) : Ap (w.alloc o) B e v xs := h.keep ((Below.refl _ _).alloc (Nat.le_refl _) o)
/-- A row written out. -/
theorem Rd.lit (w : World) (e : TypeId) (cs : Array Value) (n : Nat) (hn : cs.size = n) (hm : n ≤ maxLen) : Rd (w.alloc (.cells cs e)) (.slice (some ⟨w.heap.size, 0, none⟩) n n) cs.toList := by
  have h := World.ownsRow_lit (base := 0) (e := e) (size := 1) w cs n (Nat.zero_le _) hm (by omega)
  have hl : cs.toList.length = n := by simpa using hn
  rw [← hl] at h ⊢
  exact Rd.of_own h
section
variable {P : Program} (w : World)

theorem run_append_ap (B : Nat) (t ty e : TypeId) (i : TypeInfo) (z : Value) (bytes : Nat) (ht : P.underlying t = some (.slice e)) (hi : P.info? e = some i) (hz : i.zero = some z)
    (hsize : i.size = 1) (hby : i.bytes = bytes) (hzs : z.cells.size = 1)
    (v u : Value) (xs news : List Value) (hv : Ap w B e v xs) (hu : Rd w u news) (h1 : ∀ x ∈ news, x.oneCell' = true)
    (hbytes : (xs.length + news.length) * bytes ≤ 140737488355328) (hmax : xs.length + news.length ≤ maxLen) (hB : B ≤ w.heap.size) :
    ∃ v' w', (Builtin.append_ #[t, t] ty #[v, u]).run P w = .ok v' w' ∧ Ap w' B e v' (xs ++ news) ∧ Below B w w' := by
  rcases hv with hv | ⟨⟨A, rfl⟩, hr⟩
  · obtain ⟨Au, c, rfl, c1, c2, c3⟩ := hu
    rcases c3 with ⟨rfl, rfl⟩ | ⟨x, rfl, hc⟩
    · obtain rfl : news = [] := List.eq_nil_of_length_eq_zero (by omega)
      exact ⟨v, w, run_append_owned_none w B t ty e i 1 ht hi v _ xs hv, by rw [List.append_nil]; exact .inl hv, Below.refl _ _⟩
    · obtain ⟨v', w', hrun, r1, r2, _⟩ := run_append_own (P := P) w B t ty e i z 1 bytes ht hi hz hsize hby hzs (by omega) v _ xs hv x _ c news (by omega) hc h1 hmax hbytes hB
      refine ⟨v', w', hrun, .inl (by rw [List.length_append]; exact r1), (Below.refl _ _).grown r2 hB ?_⟩
      intro k hk
      exact (hv.lt k hk).1
  · by_cases hn : news.length = 0
    · obtain rfl : news = [] := List.eq_nil_of_length_eq_zero hn
      obtain ⟨Au, c, rfl, c1, c2, c3⟩ := hu
      refine ⟨.slice A xs.length xs.length, w, ?_, by rw [List.append_nil]; exact .inr ⟨⟨A, rfl⟩, hr⟩, Below.refl _ _⟩
      have hr2 := hr
      obtain ⟨A', c', hv', _, _, h3⟩ := hr2
      injection hv' with hA _ hc'
      subst hA; subst hc'
      rcases h3 with ⟨rfl, h0⟩ | ⟨x, rfl, _⟩
      · rcases c3 with ⟨rfl, rfl⟩ | ⟨y, rfl, _⟩ <;> simp [Builtin.append_, run_underlying ht, sizeOf, typeInfo, hi, Builtin.lenOf, Builtin.firstCells, h0, loadCells, loadCellsFrom]
      · rcases c3 with ⟨rfl, rfl⟩ | ⟨y, rfl, _⟩ <;> simp [Builtin.append_, run_underlying ht, sizeOf, typeInfo, hi, Builtin.lenOf, Builtin.firstCells, storeCells, loadCells, loadCellsFrom]
    · obtain ⟨b, o, c, rfl, c1, c2, _, hcu⟩ := hu.at_ (by omega)
      obtain ⟨A', c', hv', _, _, h3⟩ := hr
      injection hv' with hA _ hc'
      subst hA; subst hc'
      rcases h3 with ⟨rfl, h0⟩ | ⟨x, rfl, hcx⟩
      · obtain rfl : xs = [] := List.eq_nil_of_length_eq_zero (by omega)
        obtain ⟨v', w', hrun, r1, r2, _⟩ := run_append_own (P := P) w B t ty e i z 1 bytes ht hi hz hsize hby hzs (by omega) (.slice none 0 0) 0 [] (World.ownsRow_nil w B e 1) ⟨b, o, none⟩ news.length c news (by omega) (by simpa only [Addr.add_lit] using hcu) h1 (by simpa using hmax) (by simpa using hbytes) hB
        exact ⟨v', w', hrun, .inl (by rw [List.length_append]; exact r1), (Below.refl _ _).grown r2 hB (by simp [Value.ownBlock])⟩
      · obtain ⟨v', w', hrun, r1, r2⟩ := run_append_arg_grows (P := P) w t ty e i z 1 bytes ht hi hz hsize hby hzs (by omega) x xs.length xs.length xs (by omega) hcx ⟨b, o, none⟩ news.length c news (by omega) (by simpa only [Addr.add_lit] using hcu) (by omega) hmax hbytes
        refine ⟨v', w', hrun, Ap.mono (B := w.heap.size) (.inl (by rw [List.length_append]; exact r1)) hB, ((Below.refl _ _).grown r2 (Nat.le_refl _) (by simp)).mono hB⟩

theorem wp_append_ap {o : Oper} {a : Act} {K : Act → World → Prop} {Q : Exit → Act → World → Prop} (s x : Operand) (t : TypeId)
    (ho : o.op = .call { callee := .builtin .append, args := #[s, x], argTypes := #[t, t] })
    (B : Nat) (e : TypeId) (i : TypeInfo) (z : Value) (bytes : Nat) (ht : P.underlying t = some (.slice e)) (hi : P.info? e = some i) (hz : i.zero = some z)
    (hsize : i.size = 1) (hby : i.bytes = bytes) (hzs : z.cells.size = 1)
    (v u : Value) (xs news : List Value) (hs : a.eval s = v) (hx : a.eval x = u) (hv : Ap w B e v xs) (hu : Rd w u news) (h1 : ∀ x ∈ news, x.oneCell' = true)
    (hbytes : (xs.length + news.length) * bytes ≤ 140737488355328) (hmax : xs.length + news.length ≤ maxLen) (hB : B ≤ w.heap.size)
    (h : ∀ v' w', Ap w' B e v' (xs ++ news) → Below B w w' → K (a.put o.dst v') w') : o.wp P a w K Q := by
  obtain ⟨v', w', hr, h2, h3⟩ := run_append_ap (P := P) w B t o.type e i z bytes ht hi hz hsize hby hzs v u xs news hv hu h1 hbytes hmax hB
  unfold Oper.wp execOp
  simp only [ho, resolve, invoke, builtin, Sem.run_bind, Sem.run_pure, Result.andThen_ok, List.map_toArray, List.map_cons, List.map_nil, hs, hx, hr]
  exact h v' w' h2 h3

theorem wpList_append_ap {ops : Array Oper} {rest : List Oper} {o : Oper} {a : Act} {Q : Exit → Act → World → Prop} (hgd : o.guard = none) (s x : Operand) (t : TypeId)
    (ho : o.op = .call { callee := .builtin .append, args := #[s, x], argTypes := #[t, t] })
    (B : Nat) (e : TypeId) (i : TypeInfo) (z : Value) (bytes : Nat) (ht : P.underlying t = some (.slice e)) (hi : P.info? e = some i) (hz : i.zero = some z)
    (hsize : i.size = 1) (hby : i.bytes = bytes) (hzs : z.cells.size = 1)
    (v u : Value) (xs news : List Value) (hs : a.eval s = v) (hx : a.eval x = u) (hv : Ap w B e v xs) (hu : Rd w u news) (h1 : ∀ x ∈ news, x.oneCell' = true)
    (hbytes : (xs.length + news.length) * bytes ≤ 140737488355328) (hmax : xs.length + news.length ≤ maxLen) (hB : B ≤ w.heap.size)
    (h : ∀ v' w', Ap w' B e v' (xs ++ news) → Below B w w' → wpList P ops Q rest (a.put o.dst v') w') : wpList P ops Q (o :: rest) a w :=
  wpList_plain hgd fun _ hK => wp_append_ap w s x t ho B e i z bytes ht hi hz hsize hby hzs v u xs news hs hx hv hu h1 hbytes hmax hB fun v' w' h2 h3 => hK _ _ (h v' w' h2 h3)
end

/-! ### bytes -/
def bv (b : UInt8) : Value := .int .u8 (b.toNat : Int)
def Bs (w : World) (v : Value) (l : List UInt8) : Prop := Rd w v (l.map bv)
def ApB (w : World) (B : Nat) (v : Value) (l : List UInt8) : Prop := Ap w B 5 v (l.map bv)

/-- A byte list's value, its length under a name. -/
theorem Bs.open_ {w : World} {v : Value} {l : List UInt8} (h : Bs w v l) : ∃ A L c, v = .slice A L c ∧ Hid (L = l.length) ∧ L ≤ c ∧ c ≤ maxLen ∧ L ≤ l.length ∧ l.length ≤ L := by
  obtain ⟨A, c, rfl, h1, h2, h3⟩ := h
  rw [List.length_map] at h1
  exact ⟨A, l.length, c, by rw [List.length_map], rfl, h1, h2, Nat.le_refl _, Nat.le_refl _⟩

theorem one_bv {l : List UInt8} : ∀ x ∈ l.map bv, x.oneCell' = true := by
  intro x hx
  obtain ⟨b, _, rfl⟩ := List.mem_map.1 hx
  rfl

end Go.Proofs.Yteopmaaghhendaa

/-
  Slices whose elements have k cells each: what reads as n elements, what may be appended to without a write to older memory; append's law. No program is named here.
-/
namespace Go.Proofs.Yteopmaaghhendaa
open Go.RowKit
set_option linter.unusedVariables false

/-- The value reads in this world as n elements of k cells, the cells xs. -/
def Rn (k : Nat) (w : World) (v : Value) (n : Nat) (xs : List Value) : Prop :=
  ∃ A c, v = .slice A n c ∧ n ≤ c ∧ c ≤ maxLen ∧ xs.length = n * k ∧
    ((A = none ∧ c = 0) ∨ ∃ x, A = some x ∧ ∀ j u, xs[j]? = some u → w.cell? (x.add j) = some u)

theorem Rn.nil (k : Nat) (w : World) : Rn k w (.slice none 0 0) 0 [] := ⟨none, 0, rfl, Nat.le_refl _, Nat.zero_le _, by simp, .inl ⟨rfl, rfl⟩⟩

theorem Rn.len {k : Nat} {w : World} {v : Value} {n : Nat} {xs : List Value} (h : Rn k w v n xs) : n ≤ maxLen := by
  obtain ⟨A, c, _, h1, h2, _⟩ := h; omega
theorem Rn.cells {k : Nat} {w : World} {v : Value} {n : Nat} {xs : List Value} (h : Rn k w v n xs) : xs.length = n * k := by
  obtain ⟨A, c, _, h1, h2, h3, _⟩ := h; exact h3

/-- A list that is not empty: where it lies. -/
theorem Rn.at_ {k : Nat} {w : World} {v : Value} {n : Nat} {xs : List Value} (h : Rn k w v n xs) (hn : 0 < n) (hk : 0 < k) :
    ∃ b o c, v = .slice (some ⟨b, o, none⟩) n c ∧ n ≤ c ∧ c ≤ maxLen ∧ b < w.heap.size ∧ ∀ j u, xs[j]? = some u → w.cell? ⟨b, o + j, none⟩ = some u := by
  obtain ⟨A, c, rfl, h1, h2, hl, h3⟩ := h
  rcases h3 with ⟨_, rfl⟩ | ⟨x, rfl, hc⟩
  · omega
  · obtain ⟨b, off, spot⟩ := x
    have h0l : 0 < xs.length := by rw [hl]; exact Nat.mul_pos hn hk
    have h0 := hc 0 xs[0] (List.getElem?_eq_getElem h0l)
    have hspot : spot = none := by simpa [Addr.add] using World.cell?_spot h0
    subst hspot
    refine ⟨b, off, c, rfl, h1, h2, World.block_lt_of_cell? w ⟨b, off + 0, none⟩ (by simpa [Addr.add] using h0), fun j u hu => ?_⟩
    have := hc j u hu
    rwa [Addr.add_lit] at this

theorem Rn.keep {k : Nat} {w w' : World} {v : Value} {n : Nat} {xs : List Value} (h : Rn k w v n xs) (hb : Below w.heap.size w w') : Rn k w' v n xs := by
  obtain ⟨A, c, rfl, h1, h2, hl, h3⟩ := h
  refine ⟨A, c, rfl, h1, h2, hl, h3.imp id ?_⟩
  rintro ⟨x, rfl, hc⟩
  refine ⟨x, rfl, fun j u hu => ?_⟩
  have hj := hc j u hu
  rw [hb.cell (World.block_lt_of_cell? w _ hj)]
  exact hj

/-- May be appended to: a row of its own from block B on, or a slice with no room. -/
def An (k : Nat) (w : World) (B : Nat) (e : TypeId) (v : Value) (n : Nat) (xs : List Value) : Prop :=
  w.ownsRow B e k v n xs ∨ ((∃ A, v = .slice A n n) ∧ Rn k w v n xs)

theorem Rn.of_own {k : Nat} {w : World} {B : Nat} {e : TypeId} {v : Value} {n : Nat} {xs : List Value} (h : w.ownsRow B e k v n xs) : Rn k w v n xs := by
  have hh := h
  have hl : xs.length = n * k := h.1
  rcases h.2 with ⟨rfl, rfl⟩ | ⟨g, cap, cur, rfl, _, _, hnc, hcm, _⟩
  · obtain rfl : xs = [] := List.eq_nil_of_length_eq_zero (by rw [hl]; omega)
    exact Rn.nil k w
  · exact ⟨_, cap, rfl, hnc, hcm, hl, .inr ⟨_, rfl, hh.cells (g := g) rfl⟩⟩

theorem An.rd {k : Nat} {w : World} {B : Nat} {e : TypeId} {v : Value} {n : Nat} {xs : List Value} (h : An k w B e v n xs) : Rn k w v n xs := by
  rcases h with h | ⟨_, h⟩
  · exact Rn.of_own h
  · exact h

theorem ownN_keep {k : Nat} {w w' : World} {B : Nat} {e : TypeId} {v : Value} {n : Nat} {xs : List Value} (h : w.ownsRow B e k v n xs) (hb : Below w.heap.size w w') : w'.ownsRow B e k v n xs := by
  refine ⟨h.1, ?_⟩
  rcases h.2 with h0 | ⟨g, cap, cur, rfl, hg, hh, rest⟩
  · exact .inl h0
  · refine .inr ⟨g, cap, cur, rfl, hg, ?_, rest⟩
    rw [hb.block g (Array.getElem?_eq_some_iff.1 hh).1]; exact hh

/-- A row written out. -/
theorem An.lit {k : Nat} (w : World) (e : TypeId) (cs : Array Value) (n : Nat) (hn : cs.size = n * k) (hm : n ≤ maxLen) : An k (w.alloc (.cells cs e)) w.heap.size e (.slice (some ⟨w.heap.size, 0, none⟩) n n) n cs.toList :=
  .inl (World.ownsRow_lit (base := w.heap.size) (e := e) (size := k) w cs n (Nat.le_refl _) hm (by omega))

section
variable {P : Program} (w : World)

end

end Go.Proofs.Yteopmaaghhendaa

/-
  Names, values, lists of fields as plain mathematics. No program is named here.
-/
namespace Go.Proofs.Yteopmaaghhendaa
set_option linter.unusedVariables false

abbrev Fd := ByteArray × ByteArray
def fsz (f : Fd) : Nat := f.1.size + f.2.size
/-- What a list of fields takes up. -/
def sizeF : List Fd → Nat
  | [] => 0
  | f :: l => fsz f + 32 + sizeF l
/-- The bytes alone. -/
def sumF : List Fd → Nat
  | [] => 0
  | f :: l => fsz f + sumF l
theorem sizeF_append (a b : List Fd) : sizeF (a ++ b) = sizeF a + sizeF b := by
  induction a with
  | nil => simp [sizeF]
  | cons x a ih => simp only [List.cons_append, sizeF, ih]; omega
theorem sizeF_sum (a : List Fd) : sizeF a = sumF a + 32 * a.length := by
  induction a with
  | nil => rfl
  | cons x a ih => simp only [sizeF, sumF, ih, List.length_cons]; omega
theorem sizeF_take_succ (l : List Fd) (k : Nat) (h : k < l.length) : sizeF (l.take (k + 1)) = sizeF (l.take k) + (fsz l[k] + 32) := by
  rw [List.take_succ_eq_append_getElem h, sizeF_append]; simp [sizeF]
/-- Do two lists agree in the first k places? -/
def AgreeTo {α : Type} (a b : List α) (k : Nat) : Prop := ∀ i, i < k → a[i]? = b[i]?
theorem AgreeTo.zero {α : Type} (a b : List α) : AgreeTo a b 0 := fun i h => absurd h (Nat.not_lt_zero _)
theorem AgreeTo.succ {α : Type} {a b : List α} {k : Nat} (h : AgreeTo a b k) (hk : a[k]? = b[k]?) : AgreeTo a b (k + 1) := fun i hi => by
  rcases Nat.lt_or_ge i k with h1 | h1
  · exact h i h1
  · obtain rfl : i = k := by omega
    exact hk
theorem AgreeTo.eq {α : Type} {a b : List α} (hl : a.length = b.length) (h : AgreeTo a b a.length) : a = b := by
  apply List.ext_getElem?
  intro i
  rcases Nat.lt_or_ge i a.length with h1 | h1
  · exact h i h1
  · rw [List.getElem?_eq_none h1, List.getElem?_eq_none (by omega)]

end Go.Proofs.Yteopmaaghhendaa

/-
  One operation whose run is known, as a step of the walk. No program is named here.
-/
namespace Go.Proofs.Yteopmaaghhendaa
open Go.RowKit
set_option linter.unusedVariables false

/-- A fact that the walk does not use by itself. -/
structure Bx (p : Prop) : Prop where
  out : p

variable {P : Program} {ops : Array Oper} {Q : Exit → Act → World → Prop} {a : Act} {w : World} {rest : List Oper} {o : Oper}

theorem wpList_gives (hg : o.guard = none) {v : Value} {w' : World} (hrun : (execOp a.eval o).run P w = .ok (.value v) w') (h : wpList P ops Q rest (a.put o.dst v) w') : wpList P ops Q (o :: rest) a w :=
  wpList_plain hg fun K hK => by
    unfold Oper.wp
    rw [hrun]
    exact hK _ _ h
/-- A struct or an array out of its parts, whose value is known. -/
theorem wpList_build {d : Option Tmp} {t ty : TypeId} {parts : Array (Nat × Operand)} {pos : String} {af : Array Edge} {v : Value}
    (hrun : (Instr.build t (parts.map fun (i, x) => (i, a.eval x))).run P w = .ok v w) (h : wpList P ops Q rest (a.put d v) w) : wpList P ops Q (⟨d, .build t parts, ty, pos, af, none⟩ :: rest) a w :=
  wpList_gives rfl (by simp only [execOp, Sem.run_bind]; rw [hrun]; rfl) h
theorem wpList_buildSlice {d : Option Tmp} {t ty : TypeId} {n : Nat} {parts : Array (Nat × Operand)} {pos : String} {af : Array Edge} {v : Value} {w' : World}
    (hrun : (Instr.buildSlice t n (parts.map fun (i, x) => (i, a.eval x))).run P w = .ok v w') (h : wpList P ops Q rest (a.put d v) w') : wpList P ops Q (⟨d, .buildSlice t n parts, ty, pos, af, none⟩ :: rest) a w :=
  wpList_gives rfl (by simp only [execOp, Sem.run_bind]; rw [hrun]; rfl) h
theorem wpList_load {d : Option Tmp} {t ty : TypeId} {x : Operand} {pos : String} {af : Array Edge} {v : Value}
    (hrun : (Instr.loadAt t (a.eval x)).run P w = .ok v w) (h : wpList P ops Q rest (a.put d v) w) : wpList P ops Q (⟨d, .load t x, ty, pos, af, none⟩ :: rest) a w :=
  wpList_gives rfl (by simp only [execOp, Sem.run_bind]; rw [hrun]; rfl) h
/-- A struct or an array boxed: its block and the world are new names. -/
theorem wpList_boxAgg {d : Option Tmp} {t ty : TypeId} {x : Operand} {pos : String} {af : Array Edge} {cs : Array Value}
    (hx : a.eval x = .agg cs) (h : ∀ w2 g, w2 = w.alloc (.cells cs t) → g = w.heap.size → wpList P ops Q rest (a.put d (.pointer (some ⟨g, 0, none⟩))) w2) : wpList P ops Q (⟨d, .box t x, ty, pos, af, none⟩ :: rest) a w :=
  wpList_gives rfl (v := .pointer (some ⟨w.heap.size, 0, none⟩)) (w' := w.alloc (.cells cs t)) (by simp only [execOp]; rw [hx]; simp [Instr.box, newVar, newRow, Value.cells, go_sem]) (h _ _ rfl rfl)
/-- A new variable whose type's zero value is known. -/
theorem wpList_allocAgg {d : Option Tmp} {t ty : TypeId} {pos : String} {af : Array Edge} {cs : Array Value}
    (hz : (zeroValue t).run P w = .ok (.agg cs) w) (h : ∀ w2 g, w2 = w.alloc (.cells cs t) → g = w.heap.size → wpList P ops Q rest (a.put d (.pointer (some ⟨g, 0, none⟩))) w2) : wpList P ops Q (⟨d, .alloc t, ty, pos, af, none⟩ :: rest) a w :=
  wpList_gives rfl (v := .pointer (some ⟨w.heap.size, 0, none⟩)) (w' := w.alloc (.cells cs t)) (by simp [execOp, Instr.alloc, hz, newVar, newRow, Value.cells, go_sem]) (h _ _ rfl rfl)
theorem parts1 {a : Act} {i : Nat} {x : Operand} {v : Value} (hx : a.eval x = v) : (#[(i, x)] : Array (Nat × Operand)).map (fun (i, x) => (i, a.eval x)) = #[(i, v)] := by subst hx; simp
theorem wpList_indexAddr {d : Option Tmp} {t ty : TypeId} {x ix : Operand} {pos : String} {af : Array Edge} {v : Value}
    (hrun : (Instr.indexAt t (a.eval x) (a.eval ix)).run P w = .ok v w) (h : wpList P ops Q rest (a.put d v) w) : wpList P ops Q (⟨d, .indexAddr t x ix, ty, pos, af, none⟩ :: rest) a w :=
  wpList_gives rfl (by simp only [execOp, Sem.run_bind]; rw [hrun]; rfl) h
theorem wpList_makeRun {d : Option Tmp} {t ty : TypeId} {l c : Operand} {pos : String} {af : Array Edge} {v : Value} {w' : World}
    (hrun : (Instr.makeSlice t (a.eval l) (a.eval c)).run P w = .ok v w') (h : wpList P ops Q rest (a.put d v) w') : wpList P ops Q (⟨d, .makeSlice t l c, ty, pos, af, none⟩ :: rest) a w :=
  wpList_gives rfl (by simp only [execOp, Sem.run_bind]; rw [hrun]; rfl) h
end Go.Proofs.Yteopmaaghhendaa

/-
  Slices of fields: what they read as. No type of slices of strings is named.
-/
namespace Go.Proofs.Yteopmaaghhendaa
open Go.RowKit
set_option linter.unusedVariables false

def fvl (f : Fd) : List Value := [.string f.1, .string f.2]
/-- The value reads as these fields. -/
def Fs (w : World) (v : Value) (l : List Fd) : Prop := Rn 2 w v l.length (l.flatMap fvl)
theorem fvl_length (l : List Fd) : (l.flatMap fvl).length = l.length * 2 := by
  induction l with
  | nil => rfl
  | cons a l ih => rw [List.flatMap_cons, List.length_append, ih]; simp [fvl]; omega
theorem fvl_at (l : List Fd) (i : Nat) (h : i < l.length) : (l.flatMap fvl)[i * 2]? = some (.string l[i].1) ∧ (l.flatMap fvl)[i * 2 + 1]? = some (.string l[i].2) := by
  induction l generalizing i with
  | nil => simp at h
  | cons a l ih =>
    rw [List.flatMap_cons]
    cases i with
    | zero => exact ⟨rfl, rfl⟩
    | succ i =>
      have := ih i (by simpa using h)
      have e1 : (i + 1) * 2 = (fvl a).length + i * 2 := by simp [fvl]; omega
      have e2 : (i + 1) * 2 + 1 = (fvl a).length + (i * 2 + 1) := by simp [fvl]; omega
      rw [e2, e1, List.getElem?_append_right (by omega), List.getElem?_append_right (by omega)]
      simpa using this
theorem Fs.len {w : World} {v : Value} {l : List Fd} (h : Fs w v l) : l.length ≤ maxLen := Rn.len h
theorem Fs.keep {w w' : World} {v : Value} {l : List Fd} (h : Fs w v l) (hb : Below w.heap.size w w') : Fs w' v l := Rn.keep h hb
theorem Fs.run_len {w : World} {v : Value} {l : List Fd} (h : Fs w v l) (ty : TypeId) (W : World) : (Builtin.len_ #[38] ty #[v]).run Try.prog W = .ok (.int .i64 (l.length : Int)) W := by
  obtain ⟨A, c, rfl, h1, h2, h3⟩ := h
  simp [Builtin.len_, run_underlying Try.underlying38, goInt]
/-- The place of v[i], and what lies there. -/
theorem Fs.at_ {w : World} {v : Value} {l : List Fd} (h : Fs w v l) (i : Nat) (hi : i < l.length) :
    ∃ b o : Nat, (∀ (q : IntKind) (W : World), (Instr.indexAt 38 v (.int q (i : Int))).run Try.prog W = .ok (.pointer (some ⟨b, o, none⟩)) W) ∧
      ∀ W : World, Fs W v l → W.cell? ⟨b, o, none⟩ = some (.string l[i].1) ∧ W.cell? ⟨b, o + 1, none⟩ = some (.string l[i].2) := by
  obtain ⟨b, o, c, rfl, h1, h2, h3, hc⟩ := Rn.at_ h (by omega) (by omega)
  have hsz : ∀ W : World, (sizeOf (Try.prog.elem 38)).run Try.prog W = .ok 2 W := fun W => by kernel_rfl
  refine ⟨b, o + i * 2, fun q W => ?_, fun W hW => ?_⟩
  · simp [Instr.indexAt, asIntOf, run_underlying Try.underlying38, Sem.run_bind, hi, Result.andThen]
    simp [Addr.add]
  · obtain ⟨b', o', c', e, _, _, _, hc'⟩ := Rn.at_ hW (by omega) (by omega)
    injection e with e1 e2 e3
    injection e1 with e1
    injection e1 with e1 e4
    subst e1; subst e4
    have := fvl_at l i hi
    exact ⟨hc' _ _ this.1, hc' _ _ this.2⟩

end Go.Proofs.Yteopmaaghhendaa

/-
  A block that holds one field: made, read, stored into; what a call hands back out of one.
-/
namespace Go.Proofs.Yteopmaaghhendaa
open Go.RowKit
set_option linter.unusedVariables false

def emp : Fd := (⟨#[]⟩, ⟨#[]⟩)
def aggF (f : Fd) : Value := .agg #[.string f.1, .string f.2]
/-- Block g holds the field f. -/
def Fb (t : TypeId) (w : World) (g : Nat) (f : Fd) : Prop := w.heap[g]? = some (.cells #[.string f.1, .string f.2] t (0, 0))

theorem Fb.new (t : TypeId) (w : World) (f : Fd) : Fb t (w.alloc (.cells #[.string f.1, .string f.2] t)) w.heap.size f := heap_alloc_last w _
theorem Fb.lt {t : TypeId} {w : World} {g : Nat} {f : Fd} (h : Fb t w g f) : g < w.heap.size := (Array.getElem?_eq_some_iff.1 h).1
theorem Fb.below {t : TypeId} {w w' : World} {g B : Nat} {f : Fd} (h : Fb t w g f) (hb : Below B w w') (hg : g < B) : Fb t w' g f := by
  unfold Fb; rw [hb.block g hg]; exact h
theorem Fb.keep {t : TypeId} {w w' : World} {g : Nat} {f : Fd} (h : Fb t w g f) (hb : Below w.heap.size w w') : Fb t w' g f := h.below hb h.lt
theorem Fb.alloc {t : TypeId} {w : World} {g : Nat} {f : Fd} (h : Fb t w g f) (o : Obj) : Fb t (w.alloc o) g f := h.keep ((Below.refl _ _).alloc (Nat.le_refl _) o)
theorem Fb.grown {t : TypeId} {w w' : World} {g : Nat} {f : Fd} {row : Option Nat} (h : Fb t w g f) (hb : w.grownBy w' row) (hg : some g ≠ row) : Fb t w' g f := by
  unfold Fb; rw [hb.block g h.lt hg]; exact h
theorem Fb.cells {t : TypeId} {w : World} {g : Nat} {f : Fd} (h : Fb t w g f) : w.cell? ⟨g, 0, none⟩ = some (.string f.1) ∧ w.cell? ⟨g, 1, none⟩ = some (.string f.2) := by
  unfold Fb at h
  constructor
  · simp [World.cell?, h]
  · simp [World.cell?, h]
theorem Fb.free {t : TypeId} {w : World} {g : Nat} {f : Fd} (h : Fb t w g f) : w.frozen? ⟨g, 0, none⟩ = false ∧ w.frozen? ⟨g, 1, none⟩ = false := by
  unfold Fb at h
  constructor
  · simp [World.frozen?, h]
  · simp [World.frozen?, h]

theorem fieldSize : (Try.prog.info? 56).map (·.size) = some 2 := by kernel_rfl

theorem grown_setRow (w : World) (g : Nat) (cs : Array Value) : w.grownBy (w.setRow g cs) (some g) :=
  ⟨rfl, rfl, rfl, by simp, fun k _ hne => setRow_other w g k cs (fun e => hne (by rw [e]))⟩

section
variable {ops : Array Oper} {Q : Exit → Act → World → Prop} {a : Act} {w : World} {rest : List Oper}

/-- A store of a whole field into its block. -/
theorem wpList_storeF {x y : Operand} {ty : TypeId} {pos : String} {af : Array Edge} (t : TypeId) (g : Nat) (old f : Fd)
    (hx : a.eval x = .pointer (some ⟨g, 0, none⟩)) (hy : a.eval y = .agg #[.string f.1, .string f.2]) (hfb : Fb t w g old)
    (h : ∀ w2, Fb t w2 g f → w.grownBy w2 (some g) → wpList Try.prog ops Q rest (a.put none undef) w2) :
    wpList Try.prog ops Q (⟨none, .store 56 x y, ty, pos, af, none⟩ :: rest) a w :=
  wpList_store_row rfl 56 x y rfl g #[.string f.1, .string f.2] hx hy t _ hfb fieldSize rfl (by simp [Value.oneCell']) (h _ (setRow_heap w g _ _ t (0, 0) hfb) (grown_setRow w g _))

end

theorem results_row_tmp {P : Program} {fn : Func} {p u : Tmp} {ty : TypeId} (h : fn.results = #[.cell p ty, .tmp u]) (tmps : Array Value) (w : World) (g : Nat) (t : TypeId) (cs : Array Value) (fr : Nat × Nat) (d : TypeDesc)
    (hp : tmps.getD p undef = .pointer (some ⟨g, 0, none⟩)) (hg : w.heap[g]? = some (.cells cs t fr))
    (hu : P.underlying ty = some d) (hd : (match d with | .struct _ | .array _ _ => true | _ => false) = true) (hi : (P.info? ty).map (·.size) = some cs.size) :
    (results fn tmps).run P w = .ok (.tuple #[.agg cs, tmps.getD u undef]) w := by
  rw [results_cell_tmp h, hp]
  simp [asAddr, run_loadVar_row w g t ty cs fr d hg hu hd hi]

/-- What a call hands back that ends with a field in a cell of its own, and a bool. -/
theorem ret_field {fn : Func} {p u : Tmp} (h : fn.results = #[.cell p 56, .tmp u]) (tmps : Array Value) (w : World) (g : Nat) (f : Fd) (b : Bool)
    (hp : tmps.getD p undef = .pointer (some ⟨g, 0, none⟩)) (hu : tmps.getD u undef = .bool b) (h0 : Fb 56 w g f) :
    (results fn tmps).run Try.prog w = .ok (.tuple #[aggF f, .bool b]) w := by
  rw [results_row_tmp h tmps _ g 56 #[.string f.1, .string f.2] (0, 0) _ hp h0 Try.underlying56 rfl fieldSize, hu]
  rfl

/-- Entry i of a list whose first one's number is fr, or the empty one. -/
def entF (l : List Fd) (fr i : Nat) : Fd := if h : fr ≤ i ∧ i - fr < l.length then l[i - fr]'(h.2) else emp
def isF (l : List Fd) (fr i : Nat) : Bool := decide (fr ≤ i ∧ i - fr < l.length)

end Go.Proofs.Yteopmaaghhendaa

/-
  What a call may write: a set of blocks. A slice of fields in a row of its own, that may begin anywhere within it: read, appended to, its head written, cut.
-/
namespace Go.Proofs.Yteopmaaghhendaa
open Go.RowKit
set_option linter.unusedVariables false

/-- Of the blocks that stood, those outside S are as they were. -/
structure Fp (S : Nat → Prop) (w w' : World) : Prop where
  os : w'.os = w.os
  tape : w'.tape = w.tape
  output : w'.output = w.output
  size : w.heap.size ≤ w'.heap.size
  block : ∀ k, k < w.heap.size → ¬ S k → w'.heap[k]? = w.heap[k]?

theorem Fp.refl (S : Nat → Prop) (w : World) : Fp S w w := ⟨rfl, rfl, rfl, Nat.le_refl _, fun _ _ _ => rfl⟩
theorem Fp.trans {S S' : Nat → Prop} {a b c : World} (h : Fp S a b) (k : Fp S' b c) (hs : ∀ i, S' i → S i ∨ a.heap.size ≤ i) : Fp S a c :=
  ⟨k.os.trans h.os, k.tape.trans h.tape, k.output.trans h.output, Nat.le_trans h.size k.size, fun i hi hn => (k.block i (Nat.lt_of_lt_of_le hi h.size) (fun hc => (hs i hc).elim hn fun h1 => by omega)).trans (h.block i hi hn)⟩
theorem Fp.then {S : Nat → Prop} {a b c : World} (h : Fp S a b) (k : Fp S b c) : Fp S a c := h.trans k fun _ h => .inl h
theorem Fp.of_below {S : Nat → Prop} {w w' : World} (h : Below w.heap.size w w') : Fp S w w' := ⟨h.os, h.tape, h.output, h.size, fun k hk _ => h.block k hk⟩
theorem Fp.of_grown {S : Nat → Prop} {w w' : World} {row : Option Nat} (h : w.grownBy w' row) (hr : ∀ k, row = some k → S k) : Fp S w w' :=
  ⟨h.os, h.tape, h.output, h.size, fun k hk hn => h.block k hk fun e => hn (hr k e.symm)⟩
theorem Fp.set (S : Nat → Prop) (w : World) (a : Addr) (v : Value) (ha : S a.block) : Fp S w (w.setCell a v) :=
  ⟨rfl, rfl, rfl, by simp [World.setCell], fun k hk hn => Go.Deep.blk_setCell_other _ _ _ _ (fun e => hn (e ▸ ha))⟩
theorem Fp.below {S : Nat → Prop} {w w' : World} {B : Nat} (h : Fp S w w') (hB : B ≤ w.heap.size) (hS : ∀ k, S k → B ≤ k) : Below B w w' :=
  ⟨h.os, h.tape, h.output, h.size, fun k hk => h.block k (by omega) fun hs => by have := hS k hs; omega⟩

theorem grown_set (w : World) (g i : Nat) (v : Value) : w.grownBy (w.setCell ⟨g, i, none⟩ v) (some g) :=
  ⟨rfl, rfl, rfl, by simp [World.setCell], fun k _ hne => Go.Deep.blk_setCell_other _ _ _ _ (fun e => hne (by rw [e]))⟩
theorem grown_trans {a b c : World} {row : Option Nat} (h : a.grownBy b row) (k : b.grownBy c row) : a.grownBy c row :=
  ⟨k.os.trans h.os, k.tape.trans h.tape, k.output.trans h.output, Nat.le_trans h.size k.size, fun i hi hn => (k.block i (Nat.lt_of_lt_of_le hi h.size) hn).trans (h.block i hi hn)⟩

/-- The value reads as these fields, in a row that no other slice is to write. -/
def St (w : World) (v : Value) (L : List Fd) : Prop :=
  (v = .slice none 0 0 ∧ L = []) ∨ ∃ (g o cap m : Nat) (F : Nat → Value), v = .slice (some ⟨g, o, none⟩) L.length cap ∧ w.rowIs g 56 m F ∧ L.length ≤ cap ∧ cap ≤ maxLen ∧ o + cap * 2 ≤ m ∧ ∀ j u, (L.flatMap fvl)[j]? = some u → F (o + j) = u

theorem St.nil (w : World) : St w (.slice none 0 0) [] := .inl ⟨rfl, rfl⟩
theorem St.fs {w : World} {v : Value} {L : List Fd} (h : St w v L) : Fs w v L := by
  rcases h with ⟨rfl, rfl⟩ | ⟨g, o, cap, m, F, rfl, hr, h1, h2, h3, h4⟩
  · exact Rn.nil 2 w
  · refine ⟨_, cap, rfl, h1, h2, fvl_length L, .inr ⟨_, rfl, fun j u hu => ?_⟩⟩
    have hj : j < (L.flatMap fvl).length := (List.getElem?_eq_some_iff.1 hu).1
    rw [fvl_length] at hj
    rw [Addr.add_lit, hr.cell (by omega), h4 j u hu]
theorem St.lt {w : World} {v : Value} {L : List Fd} (h : St w v L) {k : Nat} (hk : v.ownBlock = some k) : k < w.heap.size := by
  rcases h with ⟨rfl, rfl⟩ | ⟨g, o, cap, m, F, rfl, hr, h1, h2, h3, h4⟩
  · simp [Value.ownBlock] at hk
  · simp only [Value.ownBlock, Option.some.injEq] at hk
    subst hk
    exact hr.lt
theorem St.kept {w w' : World} {v : Value} {L : List Fd} (h : St w v L) (hb : ∀ k, v.ownBlock = some k → w'.heap[k]? = w.heap[k]?) : St w' v L := by
  rcases h with h | ⟨g, o, cap, m, F, rfl, hr, h1, h2, h3, h4⟩
  · exact .inl h
  · exact .inr ⟨g, o, cap, m, F, rfl, hr.of_block (hb g rfl), h1, h2, h3, h4⟩
theorem St.grown {w w' : World} {row : Option Nat} {v : Value} {L : List Fd} (h : St w v L) (hg : w.grownBy w' row) (hn : ∀ k, v.ownBlock = some k → some k ≠ row) : St w' v L :=
  h.kept fun k hk => hg.block k (h.lt hk) (hn k hk)

theorem St.of_own {w : World} {B : Nat} {v : Value} {L : List Fd} (h : w.ownsRow B 56 2 v L.length (L.flatMap fvl)) : St w v L := by
  rcases h.2 with ⟨rfl, h0⟩ | ⟨g, cap, cur, rfl, _, hg, hnc, hcm, hcs, ht⟩
  · exact .inl ⟨rfl, List.eq_nil_of_length_eq_zero h0⟩
  · refine .inr ⟨g, 0, cap, cap * 2, fun i => cur.getD i undef, rfl, ⟨cur, hg, hcs, fun i hi => ?_⟩, hnc, hcm, by omega, fun j u hu => ?_⟩
    · have : i < cur.size := by omega
      simp [Array.getD, this]
    · have hj : j < (L.flatMap fvl).length := (List.getElem?_eq_some_iff.1 hu).1
      rw [fvl_length] at hj
      rw [← ht, List.getElem?_take] at hu
      rw [if_pos hj] at hu
      have : j < cur.size := by omega
      simp only [Nat.zero_add, Array.getD, this, ↓reduceDIte]
      simpa [this] using hu

theorem flatMap_fvl_snoc (L : List Fd) (f : Fd) : (L ++ [f]).flatMap fvl = L.flatMap fvl ++ fvl f := by simp
theorem infoF : (Try.prog.info? 56).map (fun i => (i.zero, i.size, i.bytes)) = some (some (.agg #[.string ⟨#[]⟩, .string ⟨#[]⟩]), 2, 32) := by kernel_rfl
theorem infoF_get : ∃ i, Try.prog.info? 56 = some i ∧ i.zero = some (.agg #[.string ⟨#[]⟩, .string ⟨#[]⟩]) ∧ i.size = 2 ∧ i.bytes = 32 := by
  have h := infoF
  cases hi : Try.prog.info? 56 with
  | none => rw [hi] at h; simp at h
  | some i =>
    rw [hi] at h
    simp only [Option.map_some, Option.some.injEq, Prod.mk.injEq] at h
    exact ⟨i, rfl, h.1, h.2.1, h.2.2⟩

/-- One field more. -/
theorem St.append {w : World} {v u : Value} {L : List Fd} {f : Fd} (h : St w v L) (hu : Fs w u [f]) (hl : L.length ≤ 1000000) (ty : TypeId) :
    ∃ v' w', (Builtin.append_ #[38, 38] ty #[v, u]).run Try.prog w = .ok v' w' ∧ St w' v' (L ++ [f]) ∧ w.grownBy w' v.ownBlock ∧ (v'.ownBlock = v.ownBlock ∨ ∃ g, v'.ownBlock = some g ∧ w.heap.size ≤ g) ∧
      (∀ A n, v = .slice A n n → w.grownBy w' none ∧ ∃ g, v'.ownBlock = some g ∧ w.heap.size ≤ g) := by
  obtain ⟨i, hi, hz, hs, hb⟩ := infoF_get
  obtain ⟨b, o', c', rfl, c1, c2, hbl, hcu⟩ := Rn.at_ hu (by simp) (by omega)
  have hone : ∀ x ∈ fvl f, x.oneCell' = true := by intro x hx; rcases List.mem_cons.1 hx with rfl | hx; · rfl
                                                   · rcases List.mem_cons.1 hx with rfl | hx; · rfl
                                                     · cases hx
  have hnews : ∀ j u, (fvl f)[j]? = some u → w.cell? ((⟨b, o', none⟩ : Addr).add j) = some u := fun j u hj => by
    rw [Addr.add_lit]; exact hcu j u (by simpa using hj)
  have hlen1 : (L ++ [f]).length = L.length + 1 := by simp
  have fresh : ∀ (v' : Value) (w' : World) (row : Option Nat), w'.ownsRow w.heap.size 56 2 v' (L.length + 1) (L.flatMap fvl ++ fvl f) → w.grownBy w' row → St w' v' (L ++ [f]) ∧ ∃ g, v'.ownBlock = some g ∧ w.heap.size ≤ g := by
    intro v' w' row ho hg
    rw [← flatMap_fvl_snoc, ← hlen1] at ho
    refine ⟨St.of_own ho, ?_⟩
    rcases ho.2 with ⟨rfl, h0⟩ | ⟨g, cap, cur, rfl, hb, _⟩
    · simp at h0
    · exact ⟨g, rfl, hb⟩
  rcases h with ⟨rfl, rfl⟩ | ⟨g, o, cap, m, F, rfl, hr, h1, h2, h3, h4⟩
  · obtain ⟨v', w', hrun, r1, r2, _⟩ := run_append_own (P := Try.prog) w w.heap.size 38 ty 56 i _ 2 32 Try.underlying38 hi hz hs hb rfl (by omega) (.slice none 0 0) 0 [] (World.ownsRow_nil w _ _ 2) ⟨b, o', none⟩ 1 c' (fvl f) rfl hnews hone (by simp [maxLen]) (by omega) (Nat.le_refl _)
    obtain ⟨hst, hfr⟩ := fresh v' w' none (by simpa using r1) r2
    exact ⟨v', w', hrun, hst, r2, .inr hfr, fun A n e => ⟨r2, hfr⟩⟩
  · have hlo : (L.flatMap fvl).length = L.length * 2 := fvl_length L
    have holds : ∀ j u, (L.flatMap fvl)[j]? = some u → w.cell? ((⟨g, o, none⟩ : Addr).add j) = some u := fun j u hu => by
      have hj : j < (L.flatMap fvl).length := (List.getElem?_eq_some_iff.1 hu).1
      rw [Addr.add_lit, hr.cell (by omega), h4 j u hu]
    by_cases hroom : L.length + 1 ≤ cap
    · have hrun := run_append_room_cells (P := Try.prog) w 38 ty 56 i Try.underlying38 hi g o L.length cap ⟨b, o', none⟩ 1 c' (fvl f) (by rw [hs]; rfl) hnews hone hroom
        (by intro j hj; have : j < 2 := hj; rw [hs, hr.cell (by omega)]; rfl) (by intro j hj; exact hr.frozen _)
      rw [hs] at hrun
      refine ⟨_, _, hrun, .inr ⟨g, o, cap, m, _, by rw [hlen1], (hr.set (o + L.length * 2) (.string f.1)).set (o + L.length * 2 + 1) (.string f.2), by omega, h2, h3, fun j u hu => ?_⟩, grown_trans (grown_set w g _ _) (grown_set _ g _ _), .inl rfl, fun A n e => ?_⟩
      · rw [flatMap_fvl_snoc] at hu
        rcases Nat.lt_or_ge j (L.length * 2) with hj | hj
        · rw [List.getElem?_append_left (by omega)] at hu
          rw [if_neg (by omega), if_neg (by omega)]
          exact h4 j u hu
        · rw [List.getElem?_append_right (by omega), hlo] at hu
          obtain ⟨d, rfl⟩ : ∃ d, j = L.length * 2 + d := ⟨j - L.length * 2, by omega⟩
          rw [Nat.add_sub_cancel_left] at hu
          have hd : d < 2 := (List.getElem?_eq_some_iff.1 hu).1
          rcases Nat.lt_or_ge d 1 with h0 | h0
          · obtain rfl : d = 0 := by omega
            rw [if_neg (by omega), if_pos (by omega)]
            simpa [fvl] using hu
          · obtain rfl : d = 1 := by omega
            rw [if_pos (by omega)]
            simpa [fvl] using hu
      · injection e with _ e1 e2
        omega
    · obtain ⟨v', w', hrun, r1, r2⟩ := run_append_arg_grows (P := Try.prog) w 38 ty 56 i _ 2 32 Try.underlying38 hi hz hs hb rfl (by omega) ⟨g, o, none⟩ L.length cap (L.flatMap fvl) hlo holds ⟨b, o', none⟩ 1 c' (fvl f) rfl hnews (by omega) (by unfold maxLen; omega) (by omega)
      obtain ⟨hst, hfr⟩ := fresh v' w' none r1 r2
      exact ⟨v', w', hrun, hst, ⟨r2.os, r2.tape, r2.output, r2.size, fun k hk _ => r2.block k hk (by simp)⟩, .inr hfr, fun A n e => ⟨r2, hfr⟩⟩

set_option maxRecDepth 100000 in
/-- The head's place, and what lies there; written empty. -/
theorem St.head {w : World} {v : Value} {f : Fd} {L : List Fd} (h : St w v (f :: L)) :
    ∃ g o, v.ownBlock = some g ∧ (∀ (q : IntKind) (W : World), (Instr.indexAt 38 v (.int q 0)).run Try.prog W = .ok (.pointer (some ⟨g, o, none⟩)) W) ∧
      (∀ W, St W v (f :: L) → W.cell? ⟨g, o, none⟩ = some (.string f.1) ∧ W.cell? ⟨g, o + 1, none⟩ = some (.string f.2) ∧ W.frozen? ⟨g, o, none⟩ = false ∧ W.frozen? ⟨g, o + 1, none⟩ = false) ∧
      (∀ W, St W v (f :: L) → St ((W.setCell ⟨g, o, none⟩ (.string ⟨#[]⟩)).setCell ⟨g, o + 1, none⟩ (.string ⟨#[]⟩)) v (emp :: L)) ∧
      ∃ v', (∀ (q : IntKind) (W : World), (Instr.slice 38 v (some (.int q 1)) none none).run Try.prog W = .ok v' W) ∧ (∀ W x, St W v (x :: L) → St W v' L) ∧ v'.ownBlock = some g := by
  rcases h with ⟨rfl, h⟩ | ⟨g, o, cap, m, F, rfl, hr, h1, h2, h3, h4⟩
  · cases h
  · have hsz : ∀ W : World, (sizeOf (Try.prog.elem 38)).run Try.prog W = .ok 2 W := fun W => by kernel_rfl
    have helem : Try.prog.underlying 38 = some (.slice (Try.prog.elem 38)) := by kernel_rfl
    have hopen : ∀ (W : World) (x : Fd), St W (.slice (some ⟨g, o, none⟩) (f :: L).length cap) (x :: L) → ∃ m F, W.rowIs g 56 m F ∧ o + cap * 2 ≤ m ∧ ∀ j u, ((x :: L).flatMap fvl)[j]? = some u → F (o + j) = u := by
      intro W x hW
      rcases hW with ⟨e, _⟩ | ⟨g', o', cap', m', F', e, hr', _, _, h3', h4'⟩
      · cases e
      · injection e with e1 e2 e3
        injection e1 with e1
        injection e1 with e1 e4
        subst e1; subst e4; subst e3
        exact ⟨m', F', hr', h3', h4'⟩
    simp only [List.length_cons] at h1
    refine ⟨g, o, rfl, fun q W => ?_, fun W hW => ?_, fun W hW => ?_, sliced (some ⟨g, o, none⟩) 1 (f :: L).length cap 2, fun q W => ?_, fun W x hW => ?_, ?_⟩
    · simp [Instr.indexAt, asIntOf, run_underlying Try.underlying38, Sem.run_bind, Result.andThen]
      simp [Addr.add]
    · obtain ⟨m, F, hr, hm, hF⟩ := hopen W f hW
      refine ⟨?_, ?_, hr.frozen _, hr.frozen _⟩
      · rw [hr.cell (by omega)]; congr 1; exact hF 0 _ (by simp [fvl])
      · rw [hr.cell (by omega)]; congr 1; exact hF 1 _ (by simp [fvl])
    · obtain ⟨m, F, hr, hm, hF⟩ := hopen W f hW
      refine .inr ⟨g, o, cap, m, _, rfl, (hr.set o (.string ⟨#[]⟩)).set (o + 1) (.string ⟨#[]⟩), by simp only [List.length_cons]; omega, h2, hm, fun j u hu => ?_⟩
      rcases j with _ | _ | j
      · rw [if_neg (by omega), if_pos (by omega)]; simpa [fvl, emp] using hu
      · rw [if_pos (by omega)]; simpa [fvl, emp] using hu
      · rw [if_neg (by omega), if_neg (by omega)]
        exact hF (j + 1 + 1) u (by simpa [fvl] using hu)
    · rw [run_slice_l W 38 (some ⟨g, o, none⟩) (f :: L).length cap helem q 1 (by omega) (by simp only [List.length_cons]; omega), hsz]
      rfl
    · obtain ⟨m, F, hr, hm, hF⟩ := hopen W x hW
      unfold sliced
      simp only [List.length_cons, Nat.add_sub_cancel]
      by_cases hc : cap = 1
      · rw [if_pos hc]
        have hL : L = [] := List.eq_nil_of_length_eq_zero (by omega)
        subst hL
        subst hc
        exact .inr ⟨g, o, 0, m, F, rfl, hr, Nat.le_refl _, Nat.zero_le _, by omega, fun j u hu => by simp at hu⟩
      · rw [if_neg hc]
        refine .inr ⟨g, o + 2, cap - 1, m, F, ?_, hr, by omega, by omega, by omega, fun j u hu => ?_⟩
        · simp [Addr.add]
        · rw [show o + 2 + j = o + (j + 1 + 1) by omega]
          exact hF (j + 1 + 1) u (by simpa [fvl] using hu)
    · unfold sliced
      split
      · rfl
      · simp [Value.ownBlock, Addr.add]

end Go.Proofs.Yteopmaaghhendaa

/-
  A table that changes, as plain mathematics. No program is named here.
-/
namespace Go.Proofs.Yteopmaaghhendaa
set_option linter.unusedVariables false

/-- The number of the newest one for which p holds; b: the number of the oldest. -/
def nw (p : Fd → Bool) (b : Nat) : List Fd → Option Nat
  | [] => none
  | f :: l => match nw p (b + 1) l with
    | some a => some a
    | none => if p f then some b else none

theorem nw_snoc (p : Fd → Bool) (f : Fd) : ∀ (b : Nat) (l : List Fd), nw p b (l ++ [f]) = if p f then some (b + l.length) else nw p b l
  | b, [] => by simp [nw]
  | b, g :: l => by
    simp only [List.cons_append, nw, nw_snoc p f (b + 1) l]
    by_cases h : p f
    · simp [h]; omega
    · simp [h]
theorem nw_bound (p : Fd → Bool) : ∀ (b : Nat) (l : List Fd) (a : Nat), nw p b l = some a → b ≤ a ∧ a < b + l.length
  | b, [], a, h => by simp [nw] at h
  | b, f :: l, a, h => by
    simp only [nw] at h
    simp only [List.length_cons]
    cases hc : nw p (b + 1) l with
    | some c => rw [hc] at h; simp only [Option.some.injEq] at h; have := nw_bound p (b + 1) l c hc; omega
    | none => rw [hc] at h; simp at h; have := h.2; omega
theorem nw_hit (p : Fd → Bool) (b : Nat) (f : Fd) (l : List Fd) (h : p f = true) : ∃ a, nw p b (f :: l) = some a := by
  simp only [nw]
  cases nw p (b + 1) l with
  | some c => exact ⟨c, rfl⟩
  | none => exact ⟨b, by simp [h]⟩
theorem nw_miss (p : Fd → Bool) (b : Nat) (f : Fd) (l : List Fd) (h : p f = false) : nw p b (f :: l) = nw p (b + 1) l := by
  simp only [nw]
  cases nw p (b + 1) l <;> simp [h]
theorem nw_last (p : Fd → Bool) (b : Nat) (f : Fd) (l : List Fd) (h : p f = true) (hb : nw p b (f :: l) = some b) : nw p (b + 1) l = none := by
  simp only [nw] at hb
  cases hc : nw p (b + 1) l with
  | none => rfl
  | some c =>
    rw [hc] at hb
    have := nw_bound p _ _ _ hc
    simp only [Option.some.injEq] at hb
    omega
theorem nw_more (p : Fd → Bool) (b a : Nat) (f : Fd) (l : List Fd) (hb : nw p b (f :: l) = some a) (hne : a ≠ b) : nw p (b + 1) l = some a := by
  simp only [nw] at hb
  cases hc : nw p (b + 1) l with
  | some c => rw [hc] at hb; exact hb
  | none => rw [hc] at hb; simp at hb; have := hb.2; omega
/-- What is left when the oldest go till no more than room is taken. -/
def fits (room : Int) : List Fd → List Fd
  | [] => []
  | f :: l => if room < (sizeF (f :: l) : Int) then fits room l else f :: l
theorem fits_len (room : Int) : ∀ l, (fits room l).length ≤ l.length
  | [] => Nat.le_refl _
  | f :: l => by
    unfold fits
    split
    · have := fits_len room l; simp; omega
    · exact Nat.le_refl _
theorem fits_drop (room : Int) : ∀ l, fits room l = l.drop (l.length - (fits room l).length)
  | [] => rfl
  | f :: l => by
    have h := fits_drop room l
    have hl := fits_len room l
    unfold fits
    split
    · rw [show (f :: l).length - (fits room l).length = (l.length - (fits room l).length) + 1 by simp; omega, List.drop_succ_cons]
      exact h
    · simp
theorem fits_le (room : Int) : ∀ l, fits room l = [] ∨ (sizeF (fits room l) : Int) ≤ room
  | [] => .inl rfl
  | f :: l => by
    unfold fits
    split
    · exact fits_le room l
    · exact .inr (by omega)
theorem fits_all {room : Int} {l : List Fd} (h : (sizeF l : Int) ≤ room) : fits room l = l := by
  cases l with
  | nil => rfl
  | cons f l => unfold fits; rw [if_neg (by omega)]
theorem fits_cons_go {room : Int} {f : Fd} {l : List Fd} (h : room < (sizeF (f :: l) : Int)) : fits room (f :: l) = fits room l := by
  rw [fits, if_pos h]
theorem sizeF_drop (l : List Fd) (k : Nat) : sizeF (l.drop k) ≤ sizeF l := by
  have := sizeF_append (l.take k) (l.drop k)
  rw [List.take_append_drop] at this
  omega
theorem fits_size (room : Int) (l : List Fd) : sizeF (fits room l) ≤ sizeF l := by
  rw [fits_drop room l]; exact sizeF_drop _ _
theorem sizeF_mem {l : List Fd} {f : Fd} (h : f ∈ l) : fsz f + 32 ≤ sizeF l := by
  induction l with
  | nil => cases h
  | cons g l ih =>
    rcases List.mem_cons.1 h with rfl | h
    · simp only [sizeF]; omega
    · have := ih h; simp only [sizeF]; omega
theorem sizeF_len (l : List Fd) : 32 * l.length ≤ sizeF l := by
  rw [sizeF_sum]; omega

/-- The table: what stands, the capacity, how many ever stood. -/
structure Tab where
  l : List Fd
  cap : Nat
  tot : Nat
def Tab.new (n : Int) : Tab := ⟨[], n.toNat, 0⟩
def Tab.room (T : Tab) (f : Fd) : Int := (T.cap : Int) - ((fsz f + 32 : Nat) : Int)
def Tab.add (T : Tab) (f : Fd) : Tab := if fsz f + 32 ≤ T.cap then ⟨fits (T.room f) T.l ++ [f], T.cap, T.tot + 1⟩ else ⟨fits (T.room f) T.l, T.cap, T.tot⟩
def Tab.went (T : Tab) (room : Int) : Nat := T.l.length - (fits room T.l).length
def Tab.resize (T : Tab) (n : Int) : Tab := ⟨fits (n.toNat : Int) T.l, n.toNat, T.tot⟩
def Tab.first (T : Tab) : Nat := T.tot - T.l.length
/-- No more stands than ever stood; all within bounds that no number of the program reaches. -/
structure Tab.ok (T : Tab) : Prop where
  len : T.l.length ≤ T.tot
  size : sizeF T.l ≤ 1000000
  cap : T.cap ≤ 1000000
  tot : T.tot ≤ 1000000
theorem Tab.ok.short {T : Tab} (h : T.ok) : T.l.length ≤ 31250 := by have := sizeF_len T.l; have := h.size; omega
theorem Tab.add_tot_le (T : Tab) (f : Fd) : (T.add f).tot ≤ T.tot + 1 := by unfold Tab.add; split <;> simp
theorem Tab.add_size (T : Tab) (f : Fd) (hc : fsz f + 32 ≤ T.cap) : sizeF (fits (T.room f) T.l ++ [f]) ≤ T.cap := by
  rw [sizeF_append]
  have : sizeF [f] = fsz f + 32 := by simp [sizeF]
  rcases fits_le (T.room f) T.l with h | h
  · rw [h]; simp only [sizeF] at *; omega
  · unfold Tab.room at *; omega
theorem Tab.new_ok {n : Int} (h : n ≤ 1000000) : (Tab.new n).ok := ⟨Nat.le_refl _, by simp [Tab.new, sizeF], by simp only [Tab.new]; omega, by simp [Tab.new]⟩
end Go.Proofs.Yteopmaaghhendaa

/-
  Maps from fields, or from names, to the number of the newest one.
-/
namespace Go.Proofs.Yteopmaaghhendaa
open Go.RowKit Go.Maps
set_option linter.unusedVariables false

theorem fdLaidOut : laidOutB Try.prog = true := by kernel_rfl
theorem fdLaw : Keyed Try.prog 56 := Keyed.of_law (deep_law_laid fdLaidOut (m := 2) (by omega) (of_decide_eq_true (by kernel_rfl)) (by kernel_rfl) (by kernel_rfl))
theorem stLaw : Keyed Try.prog 9 := string_keyed Try.underlying9

/-- What a field reads as, as a key. -/
def kf (f : Fd) : Lit := .string (keyBytes [.string f.1.data.toList, .string f.2.data.toList])
def ks (s : ByteArray) : Lit := .string s.data.toList
def Sized (f : Fd) : Prop := f.1.size ≤ maxLen ∧ f.2.size ≤ maxLen
def Short (s : ByteArray) : Prop := s.size ≤ maxLen

theorem fdCells : Try.prog.cellsOf 56 = 2 := by kernel_rfl
theorem fdStr : Try.prog.cellsOf 9 = 1 := by kernel_rfl
theorem fdKey : Try.prog.keyType 56 = true := by kernel_rfl
theorem keyOf_fd (f : Fd) (h : Sized f) : keyOf Try.prog 56 (.agg #[.string f.1, .string f.2]) = some (kf f) := by
  obtain ⟨f1, f2⟩ := f
  obtain ⟨h1, h2⟩ := h
  simp only at h1 h2
  have hs : ∀ (n : Nat) (s : ByteArray), s.size ≤ maxLen → Try.prog.keyLits (n + 1) 9 [.string s] = some [.string s.data.toList] := fun n s hs => by
    unfold Program.keyLits
    simp only [Try.underlying9, if_pos hs]
  unfold keyOf
  simp only [Try.underlying56]
  obtain ⟨n, hn⟩ : ∃ n, Try.prog.types.size = n + 1 := ⟨Try.prog.types.size - 1, by kernel_rfl⟩
  rw [fdKey, hn]
  have hf : (Value.agg #[.string f1, .string f2]).formed Try.prog 56 = true := by
    simp [Value.formed, Try.underlying56, fdCells]
  rw [hf]
  unfold Program.keyLits
  simp only [Try.underlying56]
  rw [if_pos (show (true && true) = true from rfl), if_pos ⟨by rw [fdCells]; rfl, by kernel_rfl⟩]
  simp only [List.mapM_cons, List.mapM_nil, fdStr, Value.cells, List.drop_zero, List.take_succ_cons, List.take_zero, List.drop_succ_cons, hs _ _ h1, hs _ _ h2]
  rfl
theorem kf_inj (f g : Fd) (hf : Sized f) (hg : Sized g) (h : kf f = kf g) : f = g := by
  have e := fdLaw.inj (keyOf_fd f hf) (by rw [h]; exact keyOf_fd g hg)
  obtain ⟨f1, f2⟩ := f
  obtain ⟨g1, g2⟩ := g
  simp only [Value.agg.injEq, Array.mk.injEq, List.cons.injEq, Value.string.injEq] at e
  rw [e.1, e.2.1]
theorem kf_key (f : Fd) (h : Sized f) : WideAt.IsKeyLit (kf f) := fdLaw.key (keyOf_fd f h)
theorem keyOf_st (s : ByteArray) (h : Short s) : keyOf Try.prog 9 (.string s) = some (ks s) := WideMaps.keyOf_string_mk (P := Try.prog) Try.underlying9 h
theorem ks_inj (f g : ByteArray) (hf : Short f) (hg : Short g) (h : ks f = ks g) : f = g := by
  have e := stLaw.inj (keyOf_st f hf) (by rw [h]; exact keyOf_st g hg)
  exact Value.string.inj e
theorem ks_key (s : ByteArray) (h : Short s) : WideAt.IsKeyLit (ks s) := stLaw.key (keyOf_st s h)

/-- The map tells of each key which one is the newest that has it. -/
def Mp {κ : Type} [DecidableEq κ] (kl : κ → Lit) (ok : κ → Prop) (pr : Fd → κ) (b : Nat) (l : List Fd) (D : DataW Unit) : Prop :=
  IsMap D ∧ ∀ k, ok k → Maps.has D (kl k) = (nw (fun g => decide (pr g = k)) b l).isSome ∧ D.atKey (kl k) (.lit (.int .u64 0)) = .lit (.int .u64 (((nw (fun g => decide (pr g = k)) b l).getD 0 : Nat) : Int))

section
variable {κ : Type} [DecidableEq κ] {kl : κ → Lit} {ok : κ → Prop} {pr : Fd → κ} {b : Nat} {l : List Fd} {f : Fd} {D : DataW Unit}
theorem Mp.nil (kl : κ → Lit) (ok : κ → Prop) (pr : Fd → κ) (b : Nat) : Mp kl ok pr b [] (.map []) := ⟨isMap_empty, fun k _ => by simp [nw, Maps.has, DataW.atKey]⟩
theorem Mp.put (hi : ∀ k k', ok k → ok k' → kl k = kl k' → k = k') (hk : ∀ k, ok k → WideAt.IsKeyLit (kl k)) (h : Mp kl ok pr b l D) (hf : ok (pr f)) {c : Nat} (hc : c = b + l.length) : Mp kl ok pr b (l ++ [f]) (D.put (kl (pr f)) (.lit (.int .u64 (c : Int)))) := by
  subst hc
  obtain ⟨h0, h1⟩ := h
  refine ⟨h0.put _ _, fun k hok => ?_⟩
  rw [nw_snoc]
  by_cases he : pr f = k
  · subst he
    rw [has_put_same h0 (hk _ hf), atKey_put_same h0 (hk _ hf)]
    simp
  · have hne : kl k ≠ kl (pr f) := fun e => he (hi _ _ hok hf e).symm
    rw [has_put_other hne, atKey_put_other hne]
    simp only [he, decide_false, Bool.false_eq_true, if_false]
    exact h1 k hok
theorem Mp.last (hi : ∀ k k', ok k → ok k' → kl k = kl k' → k = k') (h : Mp kl ok pr b (f :: l) D) (hf : ok (pr f)) (hb : (nw (fun g => decide (pr g = pr f)) b (f :: l)).getD 0 = b) : Mp kl ok pr (b + 1) l (D.del (kl (pr f))) := by
  obtain ⟨h0, h1⟩ := h
  refine ⟨h0.del _, fun k hok => ?_⟩
  by_cases he : pr f = k
  · subst he
    obtain ⟨a, ha⟩ := nw_hit (fun g => decide (pr g = pr f)) b f l (by simp)
    rw [ha] at hb
    simp only [Option.getD_some] at hb
    rw [hb] at ha
    rw [has_del_same, atKey_del_same, nw_last _ b f l (by simp) ha]
    simp
  · have hne : kl k ≠ kl (pr f) := fun e => he (hi _ _ hok hf e).symm
    rw [has_del_other hne, atKey_del_other hne, (h1 k hok).1, (h1 k hok).2, nw_miss _ _ _ _ (by simp [he])]
    exact ⟨rfl, rfl⟩
theorem Mp.more (h : Mp kl ok pr b (f :: l) D) (hb : (nw (fun g => decide (pr g = pr f)) b (f :: l)).getD 0 ≠ b) : Mp kl ok pr (b + 1) l D := by
  obtain ⟨h0, h1⟩ := h
  refine ⟨h0, fun k hok => ?_⟩
  rw [(h1 k hok).1, (h1 k hok).2]
  by_cases he : pr f = k
  · subst he
    obtain ⟨a, ha⟩ := nw_hit (fun g => decide (pr g = pr f)) b f l (by simp)
    rw [ha] at hb ⊢
    rw [nw_more _ b a f l ha (by simpa using hb)]
    exact ⟨rfl, rfl⟩
  · rw [nw_miss _ _ _ _ (by simp [he])]
    exact ⟨rfl, rfl⟩
end

theorem zeroU64 (w : World) : (zeroValue 27).run Try.prog w = .ok (.int .u64 0) w := by kernel_rfl

def hasF (f : Fd) : Fd → Bool := fun g => decide (g = f)
def hasN (s : ByteArray) : Fd → Bool := fun g => decide (g.1 = s)
/-- Look-ups in the two maps, as equations. -/
theorem lookW {w : World} {b n m : Nat} {l : List Fd} {D : DataW Unit} (ho : w.ownsMap Try.prog 56 (plainElem Try.prog 27) b n D) (h : Mp kf Sized id m l D) {f : Fd} (hf : Sized f) :
    (Instr.lookup 66 (.map (some b)) (.agg #[.string f.1, .string f.2]) false).run Try.prog w = .ok (.int .u64 (((nw (hasF f) m l).getD 0 : Nat) : Int)) w := by
  obtain ⟨c, hrun, hc, _⟩ := ho.lookup_int fdLaw Try.underlying66 Try.underlying27 (zeroU64 w) (keyOf_fd f hf)
  rw [(h.2 f hf).2] at hc
  simp only [DataW.lit.injEq, Lit.int.injEq, true_and] at hc
  rw [hrun, ← hc]
  rfl
theorem lookN {w : World} {b n m : Nat} {l : List Fd} {D : DataW Unit} (ho : w.ownsMap Try.prog 9 (plainElem Try.prog 27) b n D) (h : Mp ks Short Prod.fst m l D) {s : ByteArray} (hf : Short s) :
    (Instr.lookup 67 (.map (some b)) (.string s) false).run Try.prog w = .ok (.int .u64 (((nw (hasN s) m l).getD 0 : Nat) : Int)) w := by
  obtain ⟨c, hrun, hc, _⟩ := ho.lookup_int stLaw Try.underlying67 Try.underlying27 (zeroU64 w) (keyOf_st s hf)
  rw [(h.2 s hf).2] at hc
  simp only [DataW.lit.injEq, Lit.int.injEq, true_and] at hc
  rw [hrun, ← hc]
  rfl
end Go.Proofs.Yteopmaaghhendaa

/-
  The Huffman code as plain numbers and lists: its tables, its signs, what a string's bits are, what bits tell. No program is named here.
-/
namespace Go.Proofs.Yteopmaaghhendaa
set_option linter.unusedVariables false

def LL : List Nat := [13, 23, 28, 28, 28, 28, 28, 28, 28, 24, 30, 28, 28, 30, 28, 28, 28, 28, 28, 28, 28, 28, 30, 28, 28, 28, 28, 28, 28, 28, 28, 28, 6, 10, 10, 12, 13, 6, 8, 11, 10, 10, 8, 11, 8, 6, 6, 6, 5, 5, 5, 6, 6, 6, 6, 6, 6, 6, 7, 8, 15, 6, 12, 10, 13, 6, 7, 7, 7, 7, 7, 7, 7, 7, 7, 7, 7, 7, 7, 7, 7, 7, 7, 7, 7, 7, 7, 7, 8, 7, 8, 13, 19, 13, 14, 6, 15, 5, 6, 5, 6, 5, 6, 6, 6, 5, 7, 7, 6, 6, 6, 5, 6, 7, 6, 5, 5, 6, 7, 7, 7, 7, 7, 15, 11, 14, 13, 28, 20, 22, 20, 20, 22, 22, 22, 23, 22, 23, 23, 23, 23, 23, 24, 23, 24, 24, 22, 23, 24, 23, 23, 23, 23, 21, 22, 23, 22, 23, 23, 24, 22, 21, 20, 22, 22, 23, 23, 21, 23, 22, 22, 24, 21, 22, 23, 23, 21, 21, 22, 21, 23, 22, 23, 23, 20, 22, 22, 22, 23, 22, 22, 23, 26, 26, 20, 19, 22, 23, 22, 25, 26, 26, 26, 27, 27, 26, 24, 25, 19, 21, 26, 27, 27, 26, 27, 24, 21, 21, 26, 26, 28, 27, 27, 27, 20, 24, 20, 21, 22, 21, 21, 23, 22, 22, 25, 25, 24, 24, 26, 23, 26, 27, 26, 26, 27, 27, 27, 27, 27, 28, 27, 27, 27, 27, 27, 26, 30]
def CW : List Nat := [8184, 8388568, 268435426, 268435427, 268435428, 268435429, 268435430, 268435431, 268435432, 16777194, 1073741820, 268435433, 268435434, 1073741821, 268435435, 268435436, 268435437, 268435438, 268435439, 268435440, 268435441, 268435442, 1073741822, 268435443, 268435444, 268435445, 268435446, 268435447, 268435448, 268435449, 268435450, 268435451, 20, 1016, 1017, 4090, 8185, 21, 248, 2042, 1018, 1019, 249, 2043, 250, 22, 23, 24, 0, 1, 2, 25, 26, 27, 28, 29, 30, 31, 92, 251, 32764, 32, 4091, 1020, 8186, 33, 93, 94, 95, 96, 97, 98, 99, 100, 101, 102, 103, 104, 105, 106, 107, 108, 109, 110, 111, 112, 113, 114, 252, 115, 253, 8187, 524272, 8188, 16380, 34, 32765, 3, 35, 4, 36, 5, 37, 38, 39, 6, 116, 117, 40, 41, 42, 7, 43, 118, 44, 8, 9, 45, 119, 120, 121, 122, 123, 32766, 2044, 16381, 8189, 268435452, 1048550, 4194258, 1048551, 1048552, 4194259, 4194260, 4194261, 8388569, 4194262, 8388570, 8388571, 8388572, 8388573, 8388574, 16777195, 8388575, 16777196, 16777197, 4194263, 8388576, 16777198, 8388577, 8388578, 8388579, 8388580, 2097116, 4194264, 8388581, 4194265, 8388582, 8388583, 16777199, 4194266, 2097117, 1048553, 4194267, 4194268, 8388584, 8388585, 2097118, 8388586, 4194269, 4194270, 16777200, 2097119, 4194271, 8388587, 8388588, 2097120, 2097121, 4194272, 2097122, 8388589, 4194273, 8388590, 8388591, 1048554, 4194274, 4194275, 4194276, 8388592, 4194277, 4194278, 8388593, 67108832, 67108833, 1048555, 524273, 4194279, 8388594, 4194280, 33554412, 67108834, 67108835, 67108836, 134217694, 134217695, 67108837, 16777201, 33554413, 524274, 2097123, 67108838, 134217696, 134217697, 67108839, 134217698, 16777202, 2097124, 2097125, 67108840, 67108841, 268435453, 134217699, 134217700, 134217701, 1048556, 16777203, 1048557, 2097126, 4194281, 2097127, 2097128, 8388595, 4194282, 4194283, 33554414, 33554415, 16777204, 16777205, 67108842, 8388596, 67108843, 134217702, 67108844, 67108845, 134217703, 134217704, 134217705, 134217706, 134217707, 268435454, 134217708, 134217709, 134217710, 134217711, 134217712, 67108846, 1073741823]
def FI : List Nat := [0, 0, 0, 0, 0, 0, 20, 92, 248, 508, 1016, 2042, 4090, 8184, 16380, 32764, 65534, 131068, 262136, 524272, 1048550, 2097116, 4194258, 8388568, 16777194, 33554412, 67108832, 134217694, 268435426, 536870910, 1073741820]
def CO : List Nat := [0, 0, 0, 0, 0, 10, 26, 32, 6, 0, 5, 3, 2, 6, 2, 3, 0, 0, 0, 3, 8, 13, 26, 29, 12, 4, 15, 19, 29, 0, 4]
def PL : List Nat := [0, 0, 0, 0, 0, 0, 10, 36, 68, 74, 74, 79, 82, 84, 90, 92, 95, 95, 95, 95, 98, 106, 119, 145, 174, 186, 190, 205, 224, 253, 253]
def OR : List Nat := [48, 49, 50, 97, 99, 101, 105, 111, 115, 116, 32, 37, 45, 46, 47, 51, 52, 53, 54, 55, 56, 57, 61, 65, 95, 98, 100, 102, 103, 104, 108, 109, 110, 112, 114, 117, 58, 66, 67, 68, 69, 70, 71, 72, 73, 74, 75, 76, 77, 78, 79, 80, 81, 82, 83, 84, 85, 86, 87, 89, 106, 107, 113, 118, 119, 120, 121, 122, 38, 42, 44, 59, 88, 90, 33, 34, 40, 41, 63, 39, 43, 124, 35, 62, 0, 36, 64, 91, 93, 126, 94, 125, 60, 96, 123, 92, 195, 208, 128, 130, 131, 162, 184, 194, 224, 226, 153, 161, 167, 172, 176, 177, 179, 209, 216, 217, 227, 229, 230, 129, 132, 133, 134, 136, 146, 154, 156, 160, 163, 164, 169, 170, 173, 178, 181, 185, 186, 187, 189, 190, 196, 198, 228, 232, 233, 1, 135, 137, 138, 139, 140, 141, 143, 147, 149, 150, 151, 152, 155, 157, 158, 165, 166, 168, 174, 175, 180, 182, 183, 188, 191, 197, 231, 239, 9, 142, 144, 145, 148, 159, 171, 206, 215, 225, 236, 237, 199, 207, 234, 235, 192, 193, 200, 201, 202, 205, 210, 213, 218, 219, 238, 240, 242, 243, 255, 203, 204, 211, 212, 214, 221, 222, 223, 241, 244, 245, 246, 247, 248, 250, 251, 252, 253, 254, 2, 3, 4, 5, 6, 7, 8, 11, 12, 14, 15, 16, 17, 18, 19, 20, 21, 23, 24, 25, 26, 27, 28, 29, 30, 31, 127, 220, 249, 10, 13, 22, 256]

def ll (s : Nat) : Nat := LL.getD s 0
def cw (s : Nat) : Nat := CW.getD s 0
def fi (n : Nat) : Nat := FI.getD n 0
def co (n : Nat) : Nat := CO.getD n 0
def pl (n : Nat) : Nat := PL.getD n 0
def orr (k : Nat) : Nat := OR.getD k 0

theorem tab_len : LL.length = 257 ∧ CW.length = 257 ∧ FI.length = 31 ∧ CO.length = 31 ∧ PL.length = 31 ∧ OR.length = 257 := by decide +kernel

theorem sign_facts : ∀ s, s < 257 → 5 ≤ ll s ∧ ll s ≤ 30 ∧ cw s < 2 ^ ll s ∧ fi (ll s) ≤ cw s ∧ cw s < fi (ll s) + co (ll s) ∧ orr (pl (ll s) + (cw s - fi (ll s))) = s := by decide +kernel

theorem place_facts : ∀ n, n < 31 → fi n + co n ≤ 2 ^ n ∧ pl n + co n ≤ 257 ∧ ∀ i, i < co n → orr (pl n + i) < 257 ∧ ll (orr (pl n + i)) = n ∧ cw (orr (pl n + i)) = fi n + i := by decide +kernel

theorem next_facts : ∀ n, n < 30 → fi (n + 1) = 2 * (fi n + co n) ∧ pl (n + 1) = pl n + co n := by decide +kernel
theorem start_facts : fi 0 = 0 ∧ co 0 = 0 ∧ pl 0 = 0 ∧ fi 30 + co 30 = 2 ^ 30 := by decide +kernel

/-- The sign of a code of n bits. -/
def sgn (n w : Nat) : Option Nat := if fi n ≤ w ∧ w < fi n + co n then some (orr (pl n + (w - fi n))) else none

theorem sgn_some {n w s : Nat} (hn : n < 31) (h : sgn n w = some s) : s < 257 ∧ ll s = n ∧ cw s = w := by
  unfold sgn at h
  split at h
  · rename_i hc
    injection h with h
    have hp := (place_facts n hn).2.2 (w - fi n) (by omega)
    rw [h] at hp
    refine ⟨hp.1, hp.2.1, ?_⟩
    rw [hp.2.2]; omega
  · cases h

/-- w, of n bits, is neither a code nor begins behind one: codes of more bits begin so. -/
def Open (n w : Nat) : Prop := n ≤ 30 ∧ fi n + co n ≤ w ∧ w < 2 ^ n

theorem open_zero : Open 0 0 := by unfold Open; decide +kernel
theorem open_lt {n w : Nat} (h : Open n w) : n < 30 := by
  obtain ⟨h1, h2, h3⟩ := h
  rcases Nat.lt_or_ge n 30 with h | h
  · exact h
  · obtain rfl : n = 30 := by omega
    have := start_facts.2.2.2
    omega
theorem open_next {n w b : Nat} (h : Open n w) (hb : b < 2) (hn : sgn (n + 1) (2 * w + b) = none) : Open (n + 1) (2 * w + b) := by
  have hlt := open_lt h
  obtain ⟨h1, h2, h3⟩ := h
  have hx := (next_facts n hlt).1
  have hp : 2 ^ (n + 1) = 2 * 2 ^ n := by rw [Nat.pow_succ]; omega
  unfold sgn at hn
  split at hn
  · cases hn
  · refine ⟨by omega, by omega, by omega⟩
theorem open_word {n w b : Nat} (h : Open n w) (hb : b < 2) : n + 1 ≤ 30 ∧ 2 * w + b < 2 ^ (n + 1) := by
  have hlt := open_lt h
  obtain ⟨h1, h2, h3⟩ := h
  have hp : 2 ^ (n + 1) = 2 * 2 ^ n := by rw [Nat.pow_succ]; omega
  omega

/-! ### reading -/
def dec : List Nat → List UInt8 → Nat → Nat → List UInt8 × Nat
  | [], out, w, n => if 8 ≤ n ∨ w ≠ 2 ^ n - 1 then ([], 22) else (out, 0)
  | b :: bs, out, w, n =>
    match sgn (n + 1) (2 * w + b) with
    | none => dec bs out (2 * w + b) (n + 1)
    | some s => if s = 256 then ([], 22) else if out.length = 4096 then ([], 23) else dec bs (out ++ [UInt8.ofNat s]) 0 0

theorem dec_none {b : Nat} {bs : List Nat} {out : List UInt8} {w n : Nat} (h : sgn (n + 1) (2 * w + b) = none) : dec (b :: bs) out w n = dec bs out (2 * w + b) (n + 1) := by
  rw [dec, h]
theorem dec_end {b : Nat} {bs : List Nat} {out : List UInt8} {w n : Nat} (h : sgn (n + 1) (2 * w + b) = some 256) : dec (b :: bs) out w n = ([], 22) := by
  rw [dec, h]; rfl
theorem dec_long {b s : Nat} {bs : List Nat} {out : List UInt8} {w n : Nat} (h : sgn (n + 1) (2 * w + b) = some s) (hs : s ≠ 256) (ho : out.length = 4096) : dec (b :: bs) out w n = ([], 23) := by
  rw [dec, h]; simp [hs, ho]
theorem dec_some {b s : Nat} {bs : List Nat} {out : List UInt8} {w n : Nat} (h : sgn (n + 1) (2 * w + b) = some s) (hs : s ≠ 256) (ho : out.length ≠ 4096) : dec (b :: bs) out w n = dec bs (out ++ [UInt8.ofNat s]) 0 0 := by
  rw [dec, h]; simp [hs, ho]

/-! ### bits -/
/-- v's lowest n bits, the highest first. -/
def msb : Nat → Nat → List Nat
  | 0, _ => []
  | n + 1, v => v / 2 ^ n % 2 :: msb n v

def byteBits (x : UInt8) : List Nat := msb 8 x.toNat
def allBits (l : List UInt8) : List Nat := l.flatMap byteBits
/-- How many bits. -/
def bitLen (l : List UInt8) : Nat := (l.map fun c => ll c.toNat).sum

theorem bitLen_append (a b : List UInt8) : bitLen (a ++ b) = bitLen a + bitLen b := by simp [bitLen]
theorem ll_byte (c : UInt8) : 5 ≤ ll c.toNat ∧ ll c.toNat ≤ 30 ∧ cw c.toNat < 2 ^ ll c.toNat := by
  have h := sign_facts c.toNat (by have := c.toNat_lt; omega)
  exact ⟨h.1, h.2.1, h.2.2.1⟩
theorem bitLen_le (l : List UInt8) : 5 * l.length ≤ bitLen l ∧ bitLen l ≤ 30 * l.length := by
  induction l with
  | nil => simp [bitLen]
  | cons x l ih =>
    have h := ll_byte x
    have e : bitLen (x :: l) = ll x.toNat + bitLen l := by simp [bitLen]
    rw [e, List.length_cons]
    omega
/-! ### writing -/
/-- The whole bytes of w's lowest n bits. -/
def emit : Nat → Nat → Nat → List UInt8
  | 0, _, _ => []
  | k + 1, w, n => UInt8.ofNat (w / 2 ^ (n - 8) % 256) :: emit k w (n - 8)
def last (w n : Nat) : List UInt8 := if n = 0 then [] else [UInt8.ofNat (w * 2 ^ (8 - n) + (2 ^ (8 - n) - 1))]
/-- The bytes of a string behind n bits w that are still to be written. -/
def enc : List UInt8 → Nat → Nat → List UInt8
  | [], w, n => last w n
  | c :: cs, w, n => emit ((n + ll c.toNat) / 8) (w * 2 ^ ll c.toNat + cw c.toNat) (n + ll c.toNat) ++ enc cs ((w * 2 ^ ll c.toNat + cw c.toNat) % 2 ^ ((n + ll c.toNat) % 8)) ((n + ll c.toNat) % 8)

theorem emit_length (k w n : Nat) : (emit k w n).length = k := by
  induction k generalizing n with
  | zero => rfl
  | succ k ih => simp [emit, ih]
theorem enc_length (s : List UInt8) : ∀ (w n : Nat), n < 8 → (enc s w n).length = (n + bitLen s + 7) / 8 := by
  induction s with
  | nil =>
    intro w n hn
    have h2 : bitLen [] = 0 := rfl
    rw [enc, last, h2]
    split
    · subst_vars; rfl
    · simp; omega
  | cons c cs ih =>
    intro w n hn
    have e2 : bitLen (c :: cs) = ll c.toNat + bitLen cs := by simp [bitLen]
    rw [enc, List.length_append, emit_length, ih _ _ (Nat.mod_lt _ (by omega)), e2]
    omega

/-! ### back -/
end Go.Proofs.Yteopmaaghhendaa

/-
  The program's table in memory, the document's table in memory, and what a call does to one of them.
-/
namespace Go.Proofs.Yteopmaaghhendaa
open Go.RowKit Go.Maps
set_option linter.unusedVariables false

/-- The cells of the program's table. -/
def tF (v : Value) (bw bn sz cp ct : Nat) (i : Nat) : Value :=
  if i = 0 then v else if i = 1 then .map (some bw) else if i = 2 then .map (some bn) else if i = 3 then .int .i64 (sz : Int) else if i = 4 then .int .i64 (cp : Int) else .int .u64 (ct : Int)

/-- The program's table, part by part; na, nb: bounds of the two maps. -/
structure Tr (w : World) (p : Nat) (v : Value) (bw bn sz cp ct na nb : Nat) (L : List Fd) (Dw Dn : DataW Unit) : Prop where
  row : w.rowIs p 69 6 (tF v bw bn sz cp ct)
  st : St w v L
  mw : w.ownsMap Try.prog 56 (plainElem Try.prog 27) bw na Dw
  mn : w.ownsMap Try.prog 9 (plainElem Try.prog 27) bn nb Dn
  ne : p ≠ bw ∧ p ≠ bn ∧ bw ≠ bn
  nv : ∀ k, v.ownBlock = some k → k ≠ p ∧ k ≠ bw ∧ k ≠ bn

section
variable {w w' : World} {p : Nat} {v : Value} {bw bn sz cp ct na nb : Nat} {L : List Fd} {Dw Dn : DataW Unit}
theorem Tr.cells (h : Tr w p v bw bn sz cp ct na nb L Dw Dn) : w.cell? ⟨p, 0, none⟩ = some v ∧ w.cell? ⟨p, 1, none⟩ = some (.map (some bw)) ∧ w.cell? ⟨p, 2, none⟩ = some (.map (some bn)) ∧
    w.cell? ⟨p, 3, none⟩ = some (.int .i64 (sz : Int)) ∧ w.cell? ⟨p, 4, none⟩ = some (.int .i64 (cp : Int)) ∧ w.cell? ⟨p, 5, none⟩ = some (.int .u64 (ct : Int)) :=
  ⟨h.row.cell (by omega), h.row.cell (by omega), h.row.cell (by omega), h.row.cell (by omega), h.row.cell (by omega), h.row.cell (by omega)⟩
theorem Tr.free (h : Tr w p v bw bn sz cp ct na nb L Dw Dn) (i : Nat) : w.frozen? ⟨p, i, none⟩ = false := h.row.frozen i
theorem Tr.kept (h : Tr w p v bw bn sz cp ct na nb L Dw Dn) (hb : ∀ k, k < w.heap.size → (k = p ∨ k = bw ∨ k = bn ∨ v.ownBlock = some k) → w'.heap[k]? = w.heap[k]?) : Tr w' p v bw bn sz cp ct na nb L Dw Dn := by
  refine ⟨h.row.of_block (hb p h.row.lt (.inl rfl)), h.st.kept fun k hk => hb k (h.st.lt hk) (.inr (.inr (.inr hk))), ?_, ?_, h.ne, h.nv⟩
  · have hlt := h.mw.lt
    obtain ⟨es, cl, h1, h2, h3, h4⟩ := h.mw
    exact ⟨es, cl, (hb bw hlt (.inr (.inl rfl))).trans h1, h2, h3, h4⟩
  · have hlt := h.mn.lt
    obtain ⟨es, cl, h1, h2, h3, h4⟩ := h.mn
    exact ⟨es, cl, (hb bn hlt (.inr (.inr (.inl rfl)))).trans h1, h2, h3, h4⟩
theorem Tr.keep (h : Tr w p v bw bn sz cp ct na nb L Dw Dn) (hb : Below w.heap.size w w') : Tr w' p v bw bn sz cp ct na nb L Dw Dn := h.kept fun k hk _ => hb.block k hk
theorem Tr.alloc (h : Tr w p v bw bn sz cp ct na nb L Dw Dn) (o : Obj) : Tr (w.alloc o) p v bw bn sz cp ct na nb L Dw Dn := h.keep ((Below.refl _ _).alloc (Nat.le_refl _) o)
theorem Tr.drew (h : Tr w p v bw bn sz cp ct na nb L Dw Dn) : Tr w.drew p v bw bn sz cp ct na nb L Dw Dn := h.keep (Below.refl _ _).drew
/-- A store into one of the table's own cells. -/
theorem Tr.rest (h : Tr w p v bw bn sz cp ct na nb L Dw Dn) (i : Nat) (x : Value) {f : Nat → Value} (hr : (w.setCell ⟨p, i, none⟩ x).rowIs p 69 6 f) {v' : Value} {sz' cp' ct' : Nat}
    (hf : ∀ j, j < 6 → f j = tF v' bw bn sz' cp' ct' j) {L' : List Fd} (hst : St (w.setCell ⟨p, i, none⟩ x) v' L') (hv : v'.ownBlock = v.ownBlock) : Tr (w.setCell ⟨p, i, none⟩ x) p v' bw bn sz' cp' ct' na nb L' Dw Dn :=
  ⟨hr.congr hf, hst, h.mw.setCell (fun e => h.ne.1 e.symm) x, h.mn.setCell (fun e => h.ne.2.1 e.symm) x, h.ne, fun k hk => h.nv k (hv ▸ hk)⟩
theorem Tr.stSet (h : Tr w p v bw bn sz cp ct na nb L Dw Dn) (i : Nat) (x : Value) : St (w.setCell ⟨p, i, none⟩ x) v L :=
  h.st.grown (grown_set w p i x) fun k hk e => (h.nv k hk).1 (Option.some.inj e)
theorem Tr.setSz (h : Tr w p v bw bn sz cp ct na nb L Dw Dn) (n : Nat) : Tr (w.setCell ⟨p, 3, none⟩ (.int .i64 (n : Int))) p v bw bn n cp ct na nb L Dw Dn :=
  h.rest 3 _ (h.row.set 3 _) (fun j hj => by unfold tF; match j, hj with | 0, _ => rfl | 1, _ => rfl | 2, _ => rfl | 3, _ => rfl | 4, _ => rfl | 5, _ => rfl) (h.stSet 3 _) rfl
theorem Tr.setCp (h : Tr w p v bw bn sz cp ct na nb L Dw Dn) (n : Nat) : Tr (w.setCell ⟨p, 4, none⟩ (.int .i64 (n : Int))) p v bw bn sz n ct na nb L Dw Dn :=
  h.rest 4 _ (h.row.set 4 _) (fun j hj => by unfold tF; match j, hj with | 0, _ => rfl | 1, _ => rfl | 2, _ => rfl | 3, _ => rfl | 4, _ => rfl | 5, _ => rfl) (h.stSet 4 _) rfl
theorem Tr.setCt (h : Tr w p v bw bn sz cp ct na nb L Dw Dn) (n : Nat) : Tr (w.setCell ⟨p, 5, none⟩ (.int .u64 (n : Int))) p v bw bn sz cp n na nb L Dw Dn :=
  h.rest 5 _ (h.row.set 5 _) (fun j hj => by unfold tF; match j, hj with | 0, _ => rfl | 1, _ => rfl | 2, _ => rfl | 3, _ => rfl | 4, _ => rfl | 5, _ => rfl) (h.stSet 5 _) rfl
/-- The slice's own cell: another slice, in the same block or in a new one. -/
theorem Tr.setV (h : Tr w p v bw bn sz cp ct na nb L Dw Dn) {v' : Value} {L' : List Fd} (hst : St w v' L') (hv : ∀ k, v'.ownBlock = some k → k ≠ p ∧ k ≠ bw ∧ k ≠ bn) : Tr (w.setCell ⟨p, 0, none⟩ v') p v' bw bn sz cp ct na nb L' Dw Dn :=
  ⟨(h.row.set 0 v').congr (fun j hj => by unfold tF; match j, hj with | 0, _ => rfl | 1, _ => rfl | 2, _ => rfl | 3, _ => rfl | 4, _ => rfl | 5, _ => rfl),
    hst.grown (grown_set w p 0 v') fun k hk e => (hv k hk).1 (Option.some.inj e), h.mw.setCell (fun e => h.ne.1 e.symm) v', h.mn.setCell (fun e => h.ne.2.1 e.symm) v', h.ne, hv⟩
/-- The slice's block written, or a new one made. -/
theorem Tr.slice (h : Tr w p v bw bn sz cp ct na nb L Dw Dn) (hg : w.grownBy w' v.ownBlock) {L' : List Fd} (hst : St w' v L') : Tr w' p v bw bn sz cp ct na nb L' Dw Dn := by
  have hp : some p ≠ v.ownBlock := fun e => (h.nv p e.symm).1 rfl
  have hw : some bw ≠ v.ownBlock := fun e => (h.nv bw e.symm).2.1 rfl
  have hn : some bn ≠ v.ownBlock := fun e => (h.nv bn e.symm).2.2 rfl
  exact ⟨h.row.of_block (hg.block p h.row.lt hp), hst, h.mw.kept hg hw, h.mn.kept hg hn, h.ne, h.nv⟩
theorem Tr.grew (h : Tr w p v bw bn sz cp ct na nb L Dw Dn) (hg : w.grownBy w' v.ownBlock) {v' : Value} {L' : List Fd} (hst : St w' v' L') (hv : v'.ownBlock = v.ownBlock ∨ ∃ g, v'.ownBlock = some g ∧ w.heap.size ≤ g) : Tr (w'.setCell ⟨p, 0, none⟩ v') p v' bw bn sz cp ct na nb L' Dw Dn := by
  have hp : some p ≠ v.ownBlock := fun e => (h.nv p e.symm).1 rfl
  have hw : some bw ≠ v.ownBlock := fun e => (h.nv bw e.symm).2.1 rfl
  have hn : some bn ≠ v.ownBlock := fun e => (h.nv bn e.symm).2.2 rfl
  have hnv : ∀ k, v'.ownBlock = some k → k ≠ p ∧ k ≠ bw ∧ k ≠ bn := by
    intro k hk
    rcases hv with e | ⟨g, e, hge⟩
    · exact h.nv k (e ▸ hk)
    · rw [e] at hk
      injection hk with hk
      have h1 := h.row.lt
      have h2 := h.mw.lt
      have h3 := h.mn.lt
      omega
  have hrow := h.row.of_block (hg.block p h.row.lt hp)
  exact ⟨(hrow.set 0 v').congr (fun j hj => by unfold tF; match j, hj with | 0, _ => rfl | 1, _ => rfl | 2, _ => rfl | 3, _ => rfl | 4, _ => rfl | 5, _ => rfl),
    hst.grown (grown_set w' p 0 v') fun k hk e => (hnv k hk).1 (Option.some.inj e), (h.mw.kept hg hw).setCell (fun e => h.ne.1 e.symm) v', (h.mn.kept hg hn).setCell (fun e => h.ne.2.1 e.symm) v', h.ne, hnv⟩
/-- One of the maps has turned. -/
theorem Tr.turnW (h : Tr w p v bw bn sz cp ct na nb L Dw Dn) (hg : w.grownBy w' (some bw)) {D : DataW Unit} {n : Nat} (ho : w'.ownsMap Try.prog 56 (plainElem Try.prog 27) bw n D) : Tr w' p v bw bn sz cp ct n nb L D Dn :=
  ⟨h.row.of_block (hg.block p h.row.lt (fun e => h.ne.1 (Option.some.inj e))), h.st.grown hg (fun k hk e => (h.nv k hk).2.1 (Option.some.inj e)), ho, h.mn.kept hg (fun e => h.ne.2.2 (Option.some.inj e).symm), h.ne, h.nv⟩
theorem Tr.turnN (h : Tr w p v bw bn sz cp ct na nb L Dw Dn) (hg : w.grownBy w' (some bn)) {D : DataW Unit} {n : Nat} (ho : w'.ownsMap Try.prog 9 (plainElem Try.prog 27) bn n D) : Tr w' p v bw bn sz cp ct na n L Dw D :=
  ⟨h.row.of_block (hg.block p h.row.lt (fun e => h.ne.2.1 (Option.some.inj e))), h.st.grown hg (fun k hk e => (h.nv k hk).2.2 (Option.some.inj e)), h.mw.kept hg (fun e => h.ne.2.2 (Option.some.inj e)), ho, h.ne, h.nv⟩
end

/-- The program's table behind the pointer to block p; S: a set of blocks that holds all of its. -/
def Tb (p : Nat) (T : Tab) (w : World) (S : Nat → Prop) : Prop :=
  ∃ v bw bn Dw Dn, Tr w p v bw bn (sizeF T.l) T.cap T.tot T.tot T.tot T.l Dw Dn ∧ Mp kf Sized id T.first T.l Dw ∧ Mp ks Short Prod.fst T.first T.l Dn ∧
    (S p ∧ S bw ∧ S bn ∧ ∀ k, v.ownBlock = some k → S k) ∧ (∀ k, S k → k < w.heap.size) ∧ T.ok

/-- What a call does to what word X tells of: its blocks, and new ones, alone have turned. -/
def Turn (X : World → (Nat → Prop) → Prop) (S : Nat → Prop) (w w' : World) : Prop :=
  ∃ S', X w' S' ∧ (∀ k, S' k → S k ∨ w.heap.size ≤ k) ∧ Fp S w w'

theorem Tb.ok {p : Nat} {T : Tab} {w : World} {S : Nat → Prop} (h : Tb p T w S) : T.ok := by
  obtain ⟨_, _, _, _, _, _, _, _, _, _, h⟩ := h; exact h
theorem Tb.kept {p : Nat} {T : Tab} {w w' : World} {S : Nat → Prop} (h : Tb p T w S) (hs : w.heap.size ≤ w'.heap.size) (hb : ∀ k, S k → w'.heap[k]? = w.heap[k]?) : Tb p T w' S := by
  obtain ⟨v, bw, bn, Dw, Dn, h1, h2, h3, h4, h5, h6⟩ := h
  refine ⟨v, bw, bn, Dw, Dn, h1.kept ?_, h2, h3, h4, fun k hk => Nat.lt_of_lt_of_le (h5 k hk) hs, h6⟩
  rintro k _ (rfl | rfl | rfl | hk)
  · exact hb _ h4.1
  · exact hb _ h4.2.1
  · exact hb _ h4.2.2.1
  · exact hb _ (h4.2.2.2 k hk)
theorem Tb.lt {p : Nat} {T : Tab} {w : World} {S : Nat → Prop} (h : Tb p T w S) : ∀ k, S k → k < w.heap.size := by
  obtain ⟨_, _, _, _, _, _, _, _, _, h, _⟩ := h; exact h
theorem Tb.keep {p : Nat} {T : Tab} {w w' : World} {S : Nat → Prop} (h : Tb p T w S) (hb : Below w.heap.size w w') : Tb p T w' S := h.kept hb.size fun k hk => hb.block k (h.lt k hk)
theorem Turn.refl {X : World → (Nat → Prop) → Prop} {S : Nat → Prop} {w w' : World} (h : X w' S) (hb : Below w.heap.size w w') : Turn X S w w' := ⟨S, h, fun k hk => .inl hk, Fp.of_below hb⟩
/-- One turn behind another. -/
theorem Turn.trans {X Y : World → (Nat → Prop) → Prop} {S : Nat → Prop} {a b c : World} (h : Turn X S a b) (k : ∀ S', X b S' → Turn Y S' b c) : Turn Y S a c := by
  obtain ⟨S1, x1, s1, f1⟩ := h
  obtain ⟨S2, y2, s2, f2⟩ := k S1 x1
  refine ⟨S2, y2, fun i hi => ?_, f1.trans f2 s1⟩
  rcases s2 i hi with h | h
  · exact s1 i h
  · exact .inr (Nat.le_trans f1.size h)
end Go.Proofs.Yteopmaaghhendaa

/-
  delete, a store into a map, and any operation whose run is known, as one step of a region that draws its order. No program is named here.
-/
namespace Go.Proofs.Yteopmaaghhendaa
open Go.RowKit Go.Maps
set_option linter.unusedVariables false
set_option linter.unusedSimpArgs false

section
variable {H : Type} {P : Program} {w : World} {ops : Array Oper} {o : Oper} {a : Act} {K : Act → World → Prop} {Q : Exit → Act → World → Prop} {E : Prop}
theorem step_delete_own (hg : o.guard = none) (hdst : o.dst = none) (m x : Operand) (t k : TypeId) (hop : o.op = Op.call { callee := Callee.builtin Builtin.delete, args := #[m, x], argTypes := #[t, k] })
    (e : TypeId) (L : Keyed P k) (ht : P.underlying t = some (.map k e)) (R : Value → Option (DataW H × List MemPlace)) (b n : Nat) (D : DataW H)
    (hm : a.eval m = .map (some b)) (hown : w.ownsMap P k R b n D) (key : Value) (kl : Lit) (hx : a.eval x = key) (hkey : keyOf P k key = some kl)
    (hK : ∀ w', w'.ownsMap P k R b n (D.del kl) → w.mapTurned w' b → K a w') : if Region.wanted o (yielded ops a.tmps) = true then Oper.wp P o a w K Q else E := by
  rw [if_pos (by simp [Region.wanted, hg])]
  obtain ⟨w', hrun, r1, r2⟩ := hown.drop L ht hkey o.type
  unfold Oper.wp
  simp [execOp, hop, resolve, invoke, builtin, hm, hx, hrun, Result.andThen]
  show K (a.put o.dst (.tuple #[])) w'
  rw [hdst]
  exact hK w' r1 r2
/-- An append whose run is known. -/
theorem step_append_run (hg : o.guard = none) (s x : Operand) (t : TypeId) (ho : o.op = .call { callee := .builtin .append, args := #[s, x], argTypes := #[t, t] })
    (v u : Value) (hs : a.eval s = v) (hx : a.eval x = u) {v' : Value} {w' : World} (hr : (Builtin.append_ #[t, t] o.type #[v, u]).run P w = .ok v' w') (hK : K (a.put o.dst v') w') :
    if Region.wanted o (yielded ops a.tmps) = true then Oper.wp P o a w K Q else E := by
  rw [if_pos (by simp [Region.wanted, hg])]
  unfold Oper.wp execOp
  simp only [ho, resolve, invoke, builtin, Sem.run_bind, Sem.run_pure, Result.andThen_ok, List.map_toArray, List.map_cons, List.map_nil, hs, hx, hr]
  exact hK
end

/-! ### A region whose last operation may break the condition that the others keep -/
section
variable {P : Program} {ops : Array Oper} {Q : Exit → Act → World → Prop} {md : Region.Mode} {S : World → Prop} {last : Nat}

/-- Whatever order is picked from here on, and S holds behind every operation that is carried out, till the last one has been. -/
def wpAnyX (P : Program) (md : Region.Mode) (ops : Array Oper) (Q : Exit → Act → World → Prop) (S : World → Prop) (last : Nat) : Nat → Array Bool → Act → World → Prop
  | 0, listed, a, w => Region.ready md ops listed = [] ∧ Q .normal a w
  | fuel + 1, listed, a, w =>
    (Region.ready md ops listed = [] → Q .normal a w) ∧
    ∀ i ∈ Region.ready md ops listed, wpOp P ops Q i (fun a' w' => ((listed.setIfInBounds i true).getD last true = false → S w') ∧ wpAnyX P md ops Q S last fuel (listed.setIfInBounds i true) a' w') a w

theorem wpAny_of_x : ∀ (fuel : Nat) (listed : Array Bool) (a : Act) (w : World), wpAnyX P md ops Q S last fuel listed a w → wpAny P md ops Q fuel listed a w
  | 0, _, _, _, h => h
  | fuel + 1, _, _, _, h => ⟨h.1, fun i hi => wpOp_mono (fun a' w' h' => wpAny_of_x fuel _ a' w' h'.2) (h.2 i hi)⟩

/-- The last one is bound to come behind number i. -/
def lastAfter (md : Region.Mode) (ops : Array Oper) (last i : Nat) : Bool :=
  match ops[last]? with
  | some o => o.after.any (fun e => Region.binds md e && e.on == i)
  | none => true

theorem set_last {listed : Array Bool} {i j last : Nat} (hi : i ≠ last) : ((listed.setIfInBounds i true).setIfInBounds j true).getD last true = (listed.setIfInBounds j true).getD last true := by
  by_cases h : i = j
  · subst h
    rw [getD_set_ne true hi]
  · rw [Array.setIfInBounds_comm _ _ h, getD_set_ne true hi]

theorem wpAnyX_first {i : Nat} {oi : Oper} {v : Value} (hi : ops[i]? = some oi) (hil : i ≠ last) (hsel : ∀ (j : Nat) (o : Oper) cs b, ops[j]? = some o → o.op ≠ .select cs b)
    (hQ : ∀ c a w, Q (.panic c) (a.put oi.dst v) w → Q (.panic c) a w) (hla : lastAfter md ops last i = true) :
    ∀ (fuel : Nat) (listed : Array Bool) (a : Act) (w : World),
      (∀ j oj, ops[j]? = some oj → j ≠ i → listed.getD j true = false → (∀ e ∈ oj.after, Region.binds md e = true → e.on ≠ i) → oi.apart ops oj = true) →
      i ∈ Region.ready md ops listed → YieldsIf P ops S oi v a → S w → listed.getD last true = false →
      wpAnyX P md ops Q S last fuel (listed.setIfInBounds i true) (a.put oi.dst v) w → wpAnyX P md ops Q S last (fuel + 1) listed a w := by
  intro fuel
  induction fuel with
  | zero =>
    intro listed a w _ hr hy hS hun0 H
    refine ⟨fun h => (by rw [h] at hr; cases hr), fun j hj => ?_⟩
    by_cases hji : j = i
    · subst hji; exact hy.wpOp hi hS ⟨fun _ => hS, H⟩
    · have := ready_mono hj hji
      rw [H.1] at this
      cases this
  | succ fuel ih =>
    intro listed a w hfree hr hy hS hun0 H
    refine ⟨fun h => (by rw [h] at hr; cases hr), fun j hj => ?_⟩
    by_cases hji : j = i
    · subst hji; exact hy.wpOp hi hS ⟨fun _ => hS, H⟩
    · have h1 := H.2 j (ready_mono hj hji)
      obtain ⟨hjun, oj, hoj, hall⟩ := mem_ready.1 hj
      have hnot : ∀ e ∈ oj.after, Region.binds md e = true → e.on ≠ i := fun e he hb heq => by
        have h1 := hall e he hb
        have h0 := (mem_ready.1 hr).1
        rw [heq] at h1
        rcases Nat.lt_or_ge i listed.size with h' | h'
        · simp [h'] at h0 h1; rw [h0] at h1; cases h1
        · simp [Array.getElem?_eq_none h'] at h1
      have hjl : j ≠ last := fun hc => by
        subst hc
        unfold lastAfter at hla
        rw [hoj] at hla
        simp only [Array.any_eq_true, Bool.and_eq_true, beq_iff_eq] at hla
        obtain ⟨k, hk, hb, he⟩ := hla
        exact hnot _ (Array.getElem_mem hk) hb he
      have h2 := wpOp_putIf hoj (hfree j oj hoj hji hjun hnot) (fun cs b => hsel i oi cs b hi) (fun cs b => hsel j oj cs b hoj) hQ hy h1
      have hfree' : ∀ k ok, ops[k]? = some ok → k ≠ i → (listed.setIfInBounds j true).getD k true = false →
          (∀ e ∈ ok.after, Region.binds md e = true → e.on ≠ i) → oi.apart ops ok = true := fun k ok hk hki hun hno => by
        refine hfree k ok hk hki ?_ hno
        by_cases hjk : j = k
        · subst hjk; exact hjun
        · rw [getD_set_ne true hjk] at hun; exact hun
      have hun1 : (listed.setIfInBounds j true).getD last true = false := by rw [getD_set_ne true hjl]; exact hun0
      refine wpOp_mono (fun a' w' h3 => ?_) h2
      have hS' : S w' := h3.2.1 (by rw [set_last hil]; exact hun1)
      refine ⟨fun _ => hS', ih (listed.setIfInBounds j true) a' w' hfree' (ready_mono hr (Ne.symm hji)) h3.1 hS' hun1 ?_⟩
      rw [Array.setIfInBounds_comm _ _ hji]
      exact h3.2.2

/-- What yields in whatever world. -/
theorem wpAnyX_first0 {i : Nat} {oi : Oper} {v : Value} (hi : ops[i]? = some oi) (hil : i ≠ last) (hsel : ∀ (j : Nat) (o : Oper) cs b, ops[j]? = some o → o.op ≠ .select cs b)
    (hQ : ∀ c a w, Q (.panic c) (a.put oi.dst v) w → Q (.panic c) a w) :
    ∀ (fuel : Nat) (listed : Array Bool) (a : Act) (w : World),
      (∀ j oj, ops[j]? = some oj → j ≠ i → listed.getD j true = false → (∀ e ∈ oj.after, Region.binds md e = true → e.on ≠ i) → oi.apart ops oj = true) →
      i ∈ Region.ready md ops listed → YieldsIf P ops (fun _ => True) oi v a → (listed.getD last true = false → S w) →
      wpAnyX P md ops Q S last fuel (listed.setIfInBounds i true) (a.put oi.dst v) w → wpAnyX P md ops Q S last (fuel + 1) listed a w := by
  intro fuel
  induction fuel with
  | zero =>
    intro listed a w _ hr hy hS H
    refine ⟨fun h => (by rw [h] at hr; cases hr), fun j hj => ?_⟩
    by_cases hji : j = i
    · subst hji; exact hy.wpOp hi trivial ⟨fun h => hS (by rw [getD_set_ne true hil] at h; exact h), H⟩
    · have := ready_mono hj hji
      rw [H.1] at this
      cases this
  | succ fuel ih =>
    intro listed a w hfree hr hy hS H
    refine ⟨fun h => (by rw [h] at hr; cases hr), fun j hj => ?_⟩
    by_cases hji : j = i
    · subst hji; exact hy.wpOp hi trivial ⟨fun h => hS (by rw [getD_set_ne true hil] at h; exact h), H⟩
    · have h1 := H.2 j (ready_mono hj hji)
      obtain ⟨hjun, oj, hoj, hall⟩ := mem_ready.1 hj
      have hnot : ∀ e ∈ oj.after, Region.binds md e = true → e.on ≠ i := fun e he hb heq => by
        have h1 := hall e he hb
        have h0 := (mem_ready.1 hr).1
        rw [heq] at h1
        rcases Nat.lt_or_ge i listed.size with h' | h'
        · simp [h'] at h0 h1; rw [h0] at h1; cases h1
        · simp [Array.getElem?_eq_none h'] at h1
      have h2 := wpOp_putIf hoj (hfree j oj hoj hji hjun hnot) (fun cs b => hsel i oi cs b hi) (fun cs b => hsel j oj cs b hoj) hQ hy h1
      have hfree' : ∀ k ok, ops[k]? = some ok → k ≠ i → (listed.setIfInBounds j true).getD k true = false →
          (∀ e ∈ ok.after, Region.binds md e = true → e.on ≠ i) → oi.apart ops ok = true := fun k ok hk hki hun hno => by
        refine hfree k ok hk hki ?_ hno
        by_cases hjk : j = k
        · subst hjk; exact hjun
        · rw [getD_set_ne true hjk] at hun; exact hun
      refine wpOp_mono (fun a' w' h3 => ?_) h2
      have hS' : (listed.setIfInBounds j true).getD last true = false → S w' := fun h => h3.2.1 (by rw [set_last hil]; exact h)
      refine ⟨hS', ih (listed.setIfInBounds j true) a' w' hfree' (ready_mono hr (Ne.symm hji)) h3.1 hS' ?_⟩
      rw [Array.setIfInBounds_comm _ _ hji]
      exact h3.2.2

theorem wpAnyX_take {i : Nat} {oi : Oper} {v : Value} {fuel : Nat} {listed : Array Bool} {a : Act} {w : World} (hi : ops[i]? = some oi) (hil : i ≠ last) (hla : lastAfter md ops last i = true) (hun : listed.getD last true = false)
    (hs : Region.noSelect ops = true) (hf : Region.free md ops listed i = true) (hr : (Region.ready md ops listed).contains i = true)
    (hQ : ∀ c a w, Q (.panic c) (a.put oi.dst v) w → Q (.panic c) a w) (hy : YieldsIf P ops S oi v a) (hS : S w)
    (h : wpAnyX P md ops Q S last fuel (listed.setIfInBounds i true) (a.put oi.dst v) w) : wpAnyX P md ops Q S last (fuel + 1) listed a w :=
  wpAnyX_first hi hil (Region.noSelect_spec hs) hQ hla fuel listed a w (Region.free_spec hi hf) (by simpa using hr) hy hS hun h
theorem wpAnyX_take0 {i : Nat} {oi : Oper} {v : Value} {fuel : Nat} {listed : Array Bool} {a : Act} {w : World} (hi : ops[i]? = some oi) (hil : i ≠ last)
    (hs : Region.noSelect ops = true) (hf : Region.free md ops listed i = true) (hr : (Region.ready md ops listed).contains i = true)
    (hQ : ∀ c a w, Q (.panic c) (a.put oi.dst v) w → Q (.panic c) a w) (hy : YieldsIf P ops (fun _ => True) oi v a) (hS : S w)
    (h : wpAnyX P md ops Q S last fuel (listed.setIfInBounds i true) (a.put oi.dst v) w) : wpAnyX P md ops Q S last (fuel + 1) listed a w :=
  wpAnyX_first0 hi hil (Region.noSelect_spec hs) hQ fuel listed a w (Region.free_spec hi hf) (by simpa using hr) hy (fun _ => hS) h

/-- One alone may come up. -/
theorem wpAnyX_one {i : Nat} {o : Oper} {fuel : Nat} {listed : Array Bool} {a : Act} {w : World} (hr : Region.ready md ops listed = [i]) (ho : ops[i]? = some o)
    (h : ∀ K' : Act → World → Prop, Shut (∀ a w, ((listed.setIfInBounds i true).getD last true = false → S w) → wpAnyX P md ops Q S last fuel (listed.setIfInBounds i true) a w → K' a w) → if Region.wanted o (yielded ops a.tmps) = true then Oper.wp P o a w K' Q else K' (a.put o.dst undef) w) :
    wpAnyX P md ops Q S last (fuel + 1) listed a w :=
  ⟨fun h0 => absurd (hr ▸ h0) (by simp), hr ▸ fun j hj => by
    rcases List.mem_cons.1 hj with rfl | hj
    · exact wpOp_step ho (fun K' hK => h K' (fun a w hS hW => hK a w ⟨hS, hW⟩))
    · cases hj⟩

theorem wpAnyX_done {listed : Array Bool} {a : Act} {w : World} (hr : Region.ready md ops listed = []) (h : Q .normal a w) :
    ∀ fuel, wpAnyX P md ops Q S last fuel listed a w
  | 0 => ⟨hr, h⟩
  | _ + 1 => ⟨fun _ => h, by rw [hr]; simp⟩

theorem wp_region_x {id : Nat} {a : Act} {w : World} (last : Nat) (S : World → Prop) (hm : P.follows .mixedOrders = true) (hS : S w.drew)
    (h : S w.drew → wpAnyX P .any ops Q S last ops.size (Array.replicate ops.size false) a w.drew) : (Code.region id ops true).wp P Q a w :=
  wp_region_any hm (wpAny_of_x (S := S) (last := last) _ _ _ _ (h hS))
end

end Go.Proofs.Yteopmaaghhendaa

/-
  Contracts of huff.lengths, huff.size.
-/
namespace Go.Proofs.Yteopmaaghhendaa
open Go.RowKit
set_option linter.unusedVariables false

/-- The lengths, as an array's cells. -/
def LA : Array Value := (LL.map fun (n : Nat) => Value.int .u8 (n : Int)).toArray
def ZA : Array Value := Array.replicate 257 (.int .u8 0)

theorem infoArr : (Try.prog.info? 154).map (fun i => (i.zero, i.size)) = some (some (.agg ZA), 257) := by kernel_rfl
theorem la_one : LA.all (·.oneCell') = true := by decide +kernel
theorem la_size : LA.size = 257 := by decide +kernel
theorem za_size : ZA.size = 257 := by decide +kernel

set_option maxRecDepth 100000 in
set_option maxHeartbeats 1000000 in
theorem lengths_any (w : World) :
    Calls Try.prog 102 #[] w fun e w' => e = .returned (.agg LA) ∧ Below w.heap.size w w' := by
  obtain ⟨hz, hs⟩ := zero_of_info infoArr
  have hst := run_storeCells_new (P := Try.prog) w 154 ZA LA (by rw [hs, la_size]) (by rw [la_size, za_size]) la_one
  have hsz := la_size
  go_enter Try.func102, Try.ntmps102
  go_wp2_with (with_reducible refine wpList_build (v := .agg LA) (by kernel_rfl) ?_)
  exact bodyPost_ret (results_cell_row Try.results102 _ _ w.heap.size 154 LA (0, 0) _ rfl (heap_alloc_last w _) Try.underlying154 rfl (by rw [hs, la_size])) rfl ⟨rfl, (Below.refl _ _).alloc (Nat.le_refl _) _⟩


theorem la_get (k : Nat) (hk : k < 257) : LA[k]? = some (.int .u8 (ll k : Int)) := by
  unfold LA ll
  have h := tab_len.1
  rw [List.getElem?_toArray, List.getElem?_map, List.getElem?_eq_getElem (by omega), List.getD_eq_getElem?_getD, List.getElem?_eq_getElem (by omega)]
  rfl

end Go.Proofs.Yteopmaaghhendaa

/-
  Contracts of huff.size, huff.Len.
-/
namespace Go.Proofs.Yteopmaaghhendaa
open Go.RowKit
set_option linter.unusedVariables false

theorem hret_int {k : IntKind} {a b : Int} (h : a = b) : Ending.returned (.int k a) = .returned (.int k b) := by rw [h]

theorem take_snocB (s : ByteArray) (k : Nat) (h : k < s.size) : s.data.toList.take (k + 1) = s.data.toList.take k ++ [s[k]] := by
  rw [List.take_succ_eq_append_getElem (by simpa using h)]; rfl
theorem bitLen_snoc (s : ByteArray) (k : Nat) (h : k < s.size) : bitLen (s.data.toList.take (k + 1)) = bitLen (s.data.toList.take k) + ll s[k].toNat := by
  rw [take_snocB s k h, bitLen_append]; simp [bitLen]

end Go.Proofs.Yteopmaaghhendaa

/-
  The codes in their order: where each sign stands in it. No program is named here.
-/
namespace Go.Proofs.Yteopmaaghhendaa
set_option linter.unusedVariables false

/-- The place of sign s in the order of the codes. -/
def pos (s : Nat) : Nat := pl (ll s) + (cw s - fi (ll s))
/-- The code and the length of the sign at place q - 1. -/
def cs (q : Nat) : Nat := if q = 0 then 0 else cw (orr (q - 1))
def hs (q : Nat) : Nat := if q = 0 then 0 else ll (orr (q - 1))
/-- How many signs have fewer than n bits. -/
def pq (n : Nat) : Nat := pl (n - 1) + co (n - 1)

theorem pos_orr {s : Nat} (h : s < 257) : orr (pos s) = s := (sign_facts s h).2.2.2.2.2
theorem pos_lt {s : Nat} (h : s < 257) : pos s < 257 := by
  have h1 := sign_facts s h
  have h2 := (place_facts (ll s) (by omega)).2.1
  unfold pos
  omega
theorem pos_inj {s k : Nat} (hs : s < 257) (hk : k < 257) (h : pos s = pos k) : s = k := by
  have h1 := pos_orr hs
  rw [h, pos_orr hk] at h1
  exact h1.symm
theorem step_facts : ∀ s, s < 257 → (pos s = 0 → cw s = 0) ∧ (0 < pos s → 5 ≤ hs (pos s) ∧ hs (pos s) ≤ ll s ∧ (cs (pos s) + 1) * 2 ^ (ll s - hs (pos s)) = cw s ∧ cs (pos s) < 1073741824) := by decide +kernel
theorem after_facts : ∀ s, s < 257 → cs (pos s + 1) = cw s ∧ hs (pos s + 1) = ll s := by decide +kernel
set_option maxRecDepth 100000 in
theorem here_facts : ∀ s, s < 257 → pq (ll s) + (LL.take s).count (ll s) = pos s := by decide +kernel
set_option maxRecDepth 100000 in
theorem row_facts : ∀ n, n < 31 → 5 ≤ n → pq n + (LL.take 257).count n = pq (n + 1) := by decide +kernel
theorem ends_facts : pq 5 = 0 ∧ pq 31 = 257 ∧ cs 0 = 0 ∧ hs 0 = 0 := by decide +kernel
end Go.Proofs.Yteopmaaghhendaa

/-
  A slice of bytes made a string; the byte type's row.
-/
namespace Go.Proofs.Yteopmaaghhendaa
open Go.RowKit
set_option linter.unusedVariables false

theorem infoU8 : (Try.prog.info? 5).map (fun i => (i.zero, i.size, i.bytes)) = some (some (.int .u8 0), 1, 1) := by kernel_rfl

/-- The string of some bytes. -/
def bstr (l : List UInt8) : ByteArray := ⟨l.toArray⟩
set_option maxRecDepth 100000 in
theorem conv_str {w : World} {v : Value} {l : List UInt8} (h : Bs w v l) : (convert 23 9 v).run Try.prog w = .ok (.string (bstr l)) w := by
  rcases Nat.eq_zero_or_pos l.length with h0 | h0
  · obtain rfl : l = [] := List.eq_nil_of_length_eq_zero h0
    obtain ⟨A, c, rfl, h1, h2, h3⟩ := h
    rcases h3 with ⟨rfl, rfl⟩ | ⟨x, rfl, _⟩
    · exact run_convert_bytes_nil (P := Try.prog) w 23 5 Try.underlying23 Try.underlying5 _ _ 9 Try.underlying9
    · rw [run_convert_bytes_string w 23 9 5 _ _ _ Try.underlying23 Try.underlying5 Try.underlying9]
      have := run_bytesToString (P := Try.prog) w x 0 c [] (by simp [loadCells, loadCellsFrom])
      exact this
  · obtain ⟨b, o, c, rfl, h1, h2, h3, hc⟩ := Rd.at_ h (by simpa using h0)
    rw [List.length_map]
    have := run_convert_bytes_arg (P := Try.prog) w 23 5 Try.underlying23 Try.underlying5 b o l.length c (l.map fun x => (x.toNat : Int)) (by simp) (fun i hi => by
      have := hc i (.int .u8 (l[i].toNat : Int)) (by simp [bv, hi])
      rw [this]
      simp [List.getD, hi]) 9 Try.underlying9
    rw [this]
    congr 2
    unfold strOfNums bstr
    congr 2
    rw [List.map_map]
    conv => rhs; rw [← List.map_id l]
    apply List.map_congr_left
    intro x _
    simp

theorem snoc_any {w : World} {B : Nat} {x : Value} {l : List UInt8} {n : Int} (h : Ap w B 5 x (l.map bv ++ #[Value.int .u8 n].toList)) (b : UInt8) (hb : n = (b.toNat : Int)) : ApB w B x (l ++ [b]) := by
  unfold ApB
  rw [List.map_append, List.map_cons, List.map_nil]
  subst hb
  exact h
theorem byte_nat {n : Nat} (h : n < 256) : (n : Int) = ((UInt8.ofNat n).toNat : Int) := by
  rw [UInt8.toNat_ofNat', Nat.mod_eq_of_lt (by have : (2:Nat) ^ 8 = 256 := rfl; omega)]

end Go.Proofs.Yteopmaaghhendaa
