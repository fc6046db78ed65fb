/-
  Texts put together: Sl, Step, FdMath, Sn, DnFds, DnFb, DnSt, DnMath, DnMap, DnTb, Shelf, DnA, DnStep, DnB, DnC, DnD, DnE, DnF, DnG, Conv.
-/
import Derived.WalkKit
import Derived.WalkSpells
import Derived.WalkLawsBesides
import Derived.Maps.AppendAt
import Derived.Deep.AppendLies
import Derived.Deep.Draws
import Derived.Lib.Hide
import GoSem.Core.Utf8
import Derived.Test.YteopmaaghhendaaRows
import Derived.Laws.Tables
import Derived.Laws.Rows
import Derived.Laws.ResultCell
import Derived.Deep.WholeRow
import Derived.Deep.OwnRows
import Derived.Laws.IdiomCopy
import Derived.ArgAppend
import Derived.Maps.Own
import Derived.Maps.OwnOps
import Derived.Maps.OwnSet
import Derived.Maps.Views
import Derived.DeepKeys4
import Derived.ProofKit
import Derived.Shelf.LaysM
import Derived.Shelf.Strconv.Clone
import Derived.Test.YteopmaaghhendaaProg
import Derived.IntWalk
import Derived.Handy
import Derived.Deep.LoopGhost
import Derived.BigRegion
import Derived.RegionTactic
import Derived.Deep.RegionLaw
import Derived.Deep.RegionHeld
import Derived.Deep.RegionWith
import Derived.Deep.RegionHeldLaw
import Derived.Deep.Cut
import Derived.Deep.CutRange
import Derived.WalkArith
import Derived.Lib.MinMax
import Derived.Laws.BytesArg

/-
  Slices of one-cell elements, as lists: what reads as a list, what may be appended to without a write to older memory; the laws for append, len, index over them. No program is named here.
-/
namespace Go.Proofs.Yteopmaaghhendaa
open Go.RowKit
set_option linter.unusedVariables false

/-- The value reads in this world as the list xs. -/
def Rd (w : World) (v : Value) (xs : List Value) : Prop :=
  ∃ A c, v = .slice A xs.length c ∧ xs.length ≤ c ∧ c ≤ maxLen ∧
    ((A = none ∧ c = 0) ∨ ∃ x, A = some x ∧ ∀ j u, xs[j]? = some u → w.cell? (x.add j) = some u)

theorem Rd.nil (w : World) : Rd w (.slice none 0 0) [] := ⟨none, 0, rfl, Nat.le_refl _, Nat.zero_le _, .inl ⟨rfl, rfl⟩⟩

theorem Rd.len {w : World} {v : Value} {xs : List Value} (h : Rd w v xs) : xs.length ≤ maxLen := by
  obtain ⟨A, c, _, h1, h2, _⟩ := h; omega

/-- A list that is not empty: where it lies. -/
theorem Rd.at_ {w : World} {v : Value} {xs : List Value} (h : Rd w v xs) (hn : 0 < xs.length) :
    ∃ b o c, v = .slice (some ⟨b, o, none⟩) xs.length c ∧ xs.length ≤ c ∧ c ≤ maxLen ∧ b < w.heap.size ∧ ∀ j u, xs[j]? = some u → w.cell? ⟨b, o + j, none⟩ = some u := by
  obtain ⟨A, c, rfl, h1, h2, h3⟩ := h
  rcases h3 with ⟨_, rfl⟩ | ⟨x, rfl, hc⟩
  · omega
  · obtain ⟨b, off, spot⟩ := x
    have h0 := hc 0 xs[0] (List.getElem?_eq_getElem hn)
    have hspot : spot = none := by simpa [Addr.add] using World.cell?_spot h0
    subst hspot
    refine ⟨b, off, c, rfl, h1, h2, World.block_lt_of_cell? w ⟨b, off + 0, none⟩ (by simpa [Addr.add] using h0), fun j u hu => ?_⟩
    have := hc j u hu
    rwa [Addr.add_lit] at this

/-- What is read depends on the cells alone. -/
theorem Rd.keep {w w' : World} {v : Value} {xs : List Value} (h : Rd w v xs) (hb : Below w.heap.size w w') : Rd w' v xs := by
  obtain ⟨A, c, rfl, h1, h2, h3⟩ := h
  refine ⟨A, c, rfl, h1, h2, h3.imp id ?_⟩
  rintro ⟨x, rfl, hc⟩
  refine ⟨x, rfl, fun j u hu => ?_⟩
  have hj := hc j u hu
  rw [hb.cell (World.block_lt_of_cell? w _ hj)]
  exact hj

theorem below_drewN {B : Nat} {a w : World} (h : Below B a w) (n : Nat) : Below B a (w.drewN n) := ⟨h.os, h.tape, h.output, h.size, h.block⟩

/-- May be appended to: a row of its own from block B on, or a slice with no room. -/
def Ap (w : World) (B : Nat) (e : TypeId) (v : Value) (xs : List Value) : Prop :=
  w.ownsRow B e 1 v xs.length xs ∨ ((∃ A, v = .slice A xs.length xs.length) ∧ Rd w v xs)

theorem Rd.of_own {w : World} {B : Nat} {e : TypeId} {v : Value} {xs : List Value} (h : w.ownsRow B e 1 v xs.length xs) : Rd w v xs := by
  have hh := h
  rcases h.2 with ⟨rfl, h0⟩ | ⟨g, cap, cur, rfl, _, _, hnc, hcm, _⟩
  · obtain rfl : xs = [] := List.eq_nil_of_length_eq_zero h0
    exact Rd.nil w
  · exact ⟨_, cap, rfl, hnc, hcm, .inr ⟨_, rfl, hh.cells (g := g) rfl⟩⟩

theorem Ap.rd {w : World} {B : Nat} {e : TypeId} {v : Value} {xs : List Value} (h : Ap w B e v xs) : Rd w v xs := by
  rcases h with h | ⟨_, h⟩
  · exact Rd.of_own h
  · exact h

theorem own_keep {w w' : World} {B : Nat} {e : TypeId} {v : Value} {n : Nat} {xs : List Value} (h : w.ownsRow B e 1 v n xs) (hb : Below w.heap.size w w') : w'.ownsRow B e 1 v n xs := by
  refine ⟨h.1, ?_⟩
  rcases h.2 with h0 | ⟨g, cap, cur, rfl, hg, hh, rest⟩
  · exact .inl h0
  · refine .inr ⟨g, cap, cur, rfl, hg, ?_, rest⟩
    rw [hb.block g (Array.getElem?_eq_some_iff.1 hh).1]; exact hh

theorem Ap.keep {w w' : World} {B : Nat} {e : TypeId} {v : Value} {xs : List Value} (h : Ap w B e v xs) (hb : Below w.heap.size w w') : Ap w' B e v xs := by
  rcases h with h | ⟨h1, h⟩
  · exact .inl (own_keep h hb)
  · exact .inr ⟨h1, h.keep hb⟩

theorem Ap.mono {w : World} {B B' : Nat} {e : TypeId} {v : Value} {xs : List Value} (h : Ap w B e v xs) (hB : B' ≤ B) : Ap w B' e v xs := by
  rcases h with ⟨h1, h⟩ | h
  · refine .inl ⟨h1, h.imp id ?_⟩
    rintro ⟨g, cap, cur, a, b, c⟩
    exact ⟨g, cap, cur, a, by omega, c⟩
  · exact .inr h

theorem Ap.alloc {w : World} {B : Nat} {e : TypeId} {v : Value} {xs : List Value} (h : Ap w B e v xs) (o : Obj) : Ap (w.alloc o) B e v xs := h.keep ((Below.refl _ _).alloc (Nat.le_refl _) o)
/-- A row written out. -/
theorem Rd.lit (w : World) (e : TypeId) (cs : Array Value) (n : Nat) (hn : cs.size = n) (hm : n ≤ maxLen) : Rd (w.alloc (.cells cs e)) (.slice (some ⟨w.heap.size, 0, none⟩) n n) cs.toList := by
  have h := World.ownsRow_lit (base := 0) (e := e) (size := 1) w cs n (Nat.zero_le _) hm (by omega)
  have hl : cs.toList.length = n := by simpa using hn
  rw [← hl] at h ⊢
  exact Rd.of_own h
section
variable {P : Program} (w : World)

theorem run_append_ap (B : Nat) (t ty e : TypeId) (i : TypeInfo) (z : Value) (bytes : Nat) (ht : P.underlying t = some (.slice e)) (hi : P.info? e = some i) (hz : i.zero = some z)
    (hsize : i.size = 1) (hby : i.bytes = bytes) (hzs : z.cells.size = 1)
    (v u : Value) (xs news : List Value) (hv : Ap w B e v xs) (hu : Rd w u news) (h1 : ∀ x ∈ news, x.oneCell' = true)
    (hbytes : (xs.length + news.length) * bytes ≤ 140737488355328) (hmax : xs.length + news.length ≤ maxLen) (hB : B ≤ w.heap.size) :
    ∃ v' w', (Builtin.append_ #[t, t] ty #[v, u]).run P w = .ok v' w' ∧ Ap w' B e v' (xs ++ news) ∧ Below B w w' := by
  rcases hv with hv | ⟨⟨A, rfl⟩, hr⟩
  · obtain ⟨Au, c, rfl, c1, c2, c3⟩ := hu
    rcases c3 with ⟨rfl, rfl⟩ | ⟨x, rfl, hc⟩
    · obtain rfl : news = [] := List.eq_nil_of_length_eq_zero (by omega)
      exact ⟨v, w, run_append_owned_none w B t ty e i 1 ht hi v _ xs hv, by rw [List.append_nil]; exact .inl hv, Below.refl _ _⟩
    · obtain ⟨v', w', hrun, r1, r2, _⟩ := run_append_own (P := P) w B t ty e i z 1 bytes ht hi hz hsize hby hzs (by omega) v _ xs hv x _ c news (by omega) hc h1 hmax hbytes hB
      refine ⟨v', w', hrun, .inl (by rw [List.length_append]; exact r1), (Below.refl _ _).grown r2 hB ?_⟩
      intro k hk
      exact (hv.lt k hk).1
  · by_cases hn : news.length = 0
    · obtain rfl : news = [] := List.eq_nil_of_length_eq_zero hn
      obtain ⟨Au, c, rfl, c1, c2, c3⟩ := hu
      refine ⟨.slice A xs.length xs.length, w, ?_, by rw [List.append_nil]; exact .inr ⟨⟨A, rfl⟩, hr⟩, Below.refl _ _⟩
      have hr2 := hr
      obtain ⟨A', c', hv', _, _, h3⟩ := hr2
      injection hv' with hA _ hc'
      subst hA; subst hc'
      rcases h3 with ⟨rfl, h0⟩ | ⟨x, rfl, _⟩
      · rcases c3 with ⟨rfl, rfl⟩ | ⟨y, rfl, _⟩ <;> simp [Builtin.append_, run_underlying ht, sizeOf, typeInfo, hi, Builtin.lenOf, Builtin.firstCells, h0, loadCells, loadCellsFrom]
      · rcases c3 with ⟨rfl, rfl⟩ | ⟨y, rfl, _⟩ <;> simp [Builtin.append_, run_underlying ht, sizeOf, typeInfo, hi, Builtin.lenOf, Builtin.firstCells, storeCells, loadCells, loadCellsFrom]
    · obtain ⟨b, o, c, rfl, c1, c2, _, hcu⟩ := hu.at_ (by omega)
      obtain ⟨A', c', hv', _, _, h3⟩ := hr
      injection hv' with hA _ hc'
      subst hA; subst hc'
      rcases h3 with ⟨rfl, h0⟩ | ⟨x, rfl, hcx⟩
      · obtain rfl : xs = [] := List.eq_nil_of_length_eq_zero (by omega)
        obtain ⟨v', w', hrun, r1, r2, _⟩ := run_append_own (P := P) w B t ty e i z 1 bytes ht hi hz hsize hby hzs (by omega) (.slice none 0 0) 0 [] (World.ownsRow_nil w B e 1) ⟨b, o, none⟩ news.length c news (by omega) (by simpa only [Addr.add_lit] using hcu) h1 (by simpa using hmax) (by simpa using hbytes) hB
        exact ⟨v', w', hrun, .inl (by rw [List.length_append]; exact r1), (Below.refl _ _).grown r2 hB (by simp [Value.ownBlock])⟩
      · obtain ⟨v', w', hrun, r1, r2⟩ := run_append_arg_grows (P := P) w t ty e i z 1 bytes ht hi hz hsize hby hzs (by omega) x xs.length xs.length xs (by omega) hcx ⟨b, o, none⟩ news.length c news (by omega) (by simpa only [Addr.add_lit] using hcu) (by omega) hmax hbytes
        refine ⟨v', w', hrun, Ap.mono (B := w.heap.size) (.inl (by rw [List.length_append]; exact r1)) hB, ((Below.refl _ _).grown r2 (Nat.le_refl _) (by simp)).mono hB⟩

theorem wp_append_ap {o : Oper} {a : Act} {K : Act → World → Prop} {Q : Exit → Act → World → Prop} (s x : Operand) (t : TypeId)
    (ho : o.op = .call { callee := .builtin .append, args := #[s, x], argTypes := #[t, t] })
    (B : Nat) (e : TypeId) (i : TypeInfo) (z : Value) (bytes : Nat) (ht : P.underlying t = some (.slice e)) (hi : P.info? e = some i) (hz : i.zero = some z)
    (hsize : i.size = 1) (hby : i.bytes = bytes) (hzs : z.cells.size = 1)
    (v u : Value) (xs news : List Value) (hs : a.eval s = v) (hx : a.eval x = u) (hv : Ap w B e v xs) (hu : Rd w u news) (h1 : ∀ x ∈ news, x.oneCell' = true)
    (hbytes : (xs.length + news.length) * bytes ≤ 140737488355328) (hmax : xs.length + news.length ≤ maxLen) (hB : B ≤ w.heap.size)
    (h : ∀ v' w', Ap w' B e v' (xs ++ news) → Below B w w' → K (a.put o.dst v') w') : o.wp P a w K Q := by
  obtain ⟨v', w', hr, h2, h3⟩ := run_append_ap (P := P) w B t o.type e i z bytes ht hi hz hsize hby hzs v u xs news hv hu h1 hbytes hmax hB
  unfold Oper.wp execOp
  simp only [ho, resolve, invoke, builtin, Sem.run_bind, Sem.run_pure, Result.andThen_ok, List.map_toArray, List.map_cons, List.map_nil, hs, hx, hr]
  exact h v' w' h2 h3

theorem wpList_append_ap {ops : Array Oper} {rest : List Oper} {o : Oper} {a : Act} {Q : Exit → Act → World → Prop} (hgd : o.guard = none) (s x : Operand) (t : TypeId)
    (ho : o.op = .call { callee := .builtin .append, args := #[s, x], argTypes := #[t, t] })
    (B : Nat) (e : TypeId) (i : TypeInfo) (z : Value) (bytes : Nat) (ht : P.underlying t = some (.slice e)) (hi : P.info? e = some i) (hz : i.zero = some z)
    (hsize : i.size = 1) (hby : i.bytes = bytes) (hzs : z.cells.size = 1)
    (v u : Value) (xs news : List Value) (hs : a.eval s = v) (hx : a.eval x = u) (hv : Ap w B e v xs) (hu : Rd w u news) (h1 : ∀ x ∈ news, x.oneCell' = true)
    (hbytes : (xs.length + news.length) * bytes ≤ 140737488355328) (hmax : xs.length + news.length ≤ maxLen) (hB : B ≤ w.heap.size)
    (h : ∀ v' w', Ap w' B e v' (xs ++ news) → Below B w w' → wpList P ops Q rest (a.put o.dst v') w') : wpList P ops Q (o :: rest) a w :=
  wpList_plain hgd fun _ hK => wp_append_ap w s x t ho B e i z bytes ht hi hz hsize hby hzs v u xs news hs hx hv hu h1 hbytes hmax hB fun v' w' h2 h3 => hK _ _ (h v' w' h2 h3)
end

/-! ### bytes -/
def bv (b : UInt8) : Value := .int .u8 (b.toNat : Int)
def Bs (w : World) (v : Value) (l : List UInt8) : Prop := Rd w v (l.map bv)
def ApB (w : World) (B : Nat) (v : Value) (l : List UInt8) : Prop := Ap w B 5 v (l.map bv)

/-- A byte list's value, its length under a name. -/
theorem Bs.open_ {w : World} {v : Value} {l : List UInt8} (h : Bs w v l) : ∃ A L c, v = .slice A L c ∧ Hid (L = l.length) ∧ L ≤ c ∧ c ≤ maxLen ∧ L ≤ l.length ∧ l.length ≤ L := by
  obtain ⟨A, c, rfl, h1, h2, h3⟩ := h
  rw [List.length_map] at h1
  exact ⟨A, l.length, c, by rw [List.length_map], rfl, h1, h2, Nat.le_refl _, Nat.le_refl _⟩

theorem one_bv {l : List UInt8} : ∀ x ∈ l.map bv, x.oneCell' = true := by
  intro x hx
  obtain ⟨b, _, rfl⟩ := List.mem_map.1 hx
  rfl

end Go.Proofs.Yteopmaaghhendaa

/-
  One operation whose run is known, as a step of the walk. No program is named here.
-/
namespace Go.Proofs.Yteopmaaghhendaa
open Go.RowKit
set_option linter.unusedVariables false

/-- A fact that the walk does not use by itself. -/
structure Bx (p : Prop) : Prop where
  out : p

variable {P : Program} {ops : Array Oper} {Q : Exit → Act → World → Prop} {a : Act} {w : World} {rest : List Oper} {o : Oper}

theorem wpList_gives (hg : o.guard = none) {v : Value} {w' : World} (hrun : (execOp a.eval o).run P w = .ok (.value v) w') (h : wpList P ops Q rest (a.put o.dst v) w') : wpList P ops Q (o :: rest) a w :=
  wpList_plain hg fun K hK => by
    unfold Oper.wp
    rw [hrun]
    exact hK _ _ h
/-- A struct or an array out of its parts, whose value is known. -/
theorem wpList_build {d : Option Tmp} {t ty : TypeId} {parts : Array (Nat × Operand)} {pos : String} {af : Array Edge} {v : Value}
    (hrun : (Instr.build t (parts.map fun (i, x) => (i, a.eval x))).run P w = .ok v w) (h : wpList P ops Q rest (a.put d v) w) : wpList P ops Q (⟨d, .build t parts, ty, pos, af, none⟩ :: rest) a w :=
  wpList_gives rfl (by simp only [execOp, Sem.run_bind]; rw [hrun]; rfl) h
theorem wpList_buildSlice {d : Option Tmp} {t ty : TypeId} {n : Nat} {parts : Array (Nat × Operand)} {pos : String} {af : Array Edge} {v : Value} {w' : World}
    (hrun : (Instr.buildSlice t n (parts.map fun (i, x) => (i, a.eval x))).run P w = .ok v w') (h : wpList P ops Q rest (a.put d v) w') : wpList P ops Q (⟨d, .buildSlice t n parts, ty, pos, af, none⟩ :: rest) a w :=
  wpList_gives rfl (by simp only [execOp, Sem.run_bind]; rw [hrun]; rfl) h
theorem wpList_load {d : Option Tmp} {t ty : TypeId} {x : Operand} {pos : String} {af : Array Edge} {v : Value}
    (hrun : (Instr.loadAt t (a.eval x)).run P w = .ok v w) (h : wpList P ops Q rest (a.put d v) w) : wpList P ops Q (⟨d, .load t x, ty, pos, af, none⟩ :: rest) a w :=
  wpList_gives rfl (by simp only [execOp, Sem.run_bind]; rw [hrun]; rfl) h
/-- A struct or an array boxed: its block and the world are new names. -/
theorem wpList_boxAgg {d : Option Tmp} {t ty : TypeId} {x : Operand} {pos : String} {af : Array Edge} {cs : Array Value}
    (hx : a.eval x = .agg cs) (h : ∀ w2 g, w2 = w.alloc (.cells cs t) → g = w.heap.size → wpList P ops Q rest (a.put d (.pointer (some ⟨g, 0, none⟩))) w2) : wpList P ops Q (⟨d, .box t x, ty, pos, af, none⟩ :: rest) a w :=
  wpList_gives rfl (v := .pointer (some ⟨w.heap.size, 0, none⟩)) (w' := w.alloc (.cells cs t)) (by simp only [execOp]; rw [hx]; simp [Instr.box, newVar, newRow, Value.cells, go_sem]) (h _ _ rfl rfl)
/-- A new variable whose type's zero value is known. -/
theorem wpList_allocAgg {d : Option Tmp} {t ty : TypeId} {pos : String} {af : Array Edge} {cs : Array Value}
    (hz : (zeroValue t).run P w = .ok (.agg cs) w) (h : ∀ w2 g, w2 = w.alloc (.cells cs t) → g = w.heap.size → wpList P ops Q rest (a.put d (.pointer (some ⟨g, 0, none⟩))) w2) : wpList P ops Q (⟨d, .alloc t, ty, pos, af, none⟩ :: rest) a w :=
  wpList_gives rfl (v := .pointer (some ⟨w.heap.size, 0, none⟩)) (w' := w.alloc (.cells cs t)) (by simp [execOp, Instr.alloc, hz, newVar, newRow, Value.cells, go_sem]) (h _ _ rfl rfl)
theorem parts1 {a : Act} {i : Nat} {x : Operand} {v : Value} (hx : a.eval x = v) : (#[(i, x)] : Array (Nat × Operand)).map (fun (i, x) => (i, a.eval x)) = #[(i, v)] := by subst hx; simp
theorem wpList_indexAddr {d : Option Tmp} {t ty : TypeId} {x ix : Operand} {pos : String} {af : Array Edge} {v : Value}
    (hrun : (Instr.indexAt t (a.eval x) (a.eval ix)).run P w = .ok v w) (h : wpList P ops Q rest (a.put d v) w) : wpList P ops Q (⟨d, .indexAddr t x ix, ty, pos, af, none⟩ :: rest) a w :=
  wpList_gives rfl (by simp only [execOp, Sem.run_bind]; rw [hrun]; rfl) h
theorem wpList_makeRun {d : Option Tmp} {t ty : TypeId} {l c : Operand} {pos : String} {af : Array Edge} {v : Value} {w' : World}
    (hrun : (Instr.makeSlice t (a.eval l) (a.eval c)).run P w = .ok v w') (h : wpList P ops Q rest (a.put d v) w') : wpList P ops Q (⟨d, .makeSlice t l c, ty, pos, af, none⟩ :: rest) a w :=
  wpList_gives rfl (by simp only [execOp, Sem.run_bind]; rw [hrun]; rfl) h
end Go.Proofs.Yteopmaaghhendaa

/-
  Names, values, lists of fields as plain mathematics. No program is named here.
-/
namespace Go.Proofs.Yteopmaaghhendaa
set_option linter.unusedVariables false

abbrev Fd := ByteArray × ByteArray
def fsz (f : Fd) : Nat := f.1.size + f.2.size
/-- What a list of fields takes up. -/
def sizeF : List Fd → Nat
  | [] => 0
  | f :: l => fsz f + 32 + sizeF l
/-- The bytes alone. -/
def sumF : List Fd → Nat
  | [] => 0
  | f :: l => fsz f + sumF l
theorem sizeF_append (a b : List Fd) : sizeF (a ++ b) = sizeF a + sizeF b := by
  induction a with
  | nil => simp [sizeF]
  | cons x a ih => simp only [List.cons_append, sizeF, ih]; omega
theorem sumF_append (a b : List Fd) : sumF (a ++ b) = sumF a + sumF b := by
  induction a with
  | nil => simp [sumF]
  | cons x a ih => simp only [List.cons_append, sumF, ih]; omega
theorem sizeF_sum (a : List Fd) : sizeF a = sumF a + 32 * a.length := by
  induction a with
  | nil => rfl
  | cons x a ih => simp only [sizeF, sumF, ih, List.length_cons]; omega
theorem sizeF_take_succ (l : List Fd) (k : Nat) (h : k < l.length) : sizeF (l.take (k + 1)) = sizeF (l.take k) + (fsz l[k] + 32) := by
  rw [List.take_succ_eq_append_getElem h, sizeF_append]; simp [sizeF]
theorem sumF_take_succ (l : List Fd) (k : Nat) (h : k < l.length) : sumF (l.take (k + 1)) = sumF (l.take k) + fsz l[k] := by
  rw [List.take_succ_eq_append_getElem h, sumF_append]; simp [sumF]
theorem sumF_take_le (l : List Fd) (k : Nat) : sumF (l.take k) ≤ sumF l := by
  have := sumF_append (l.take k) (l.drop k)
  rw [List.take_append_drop] at this
  omega
theorem fsz_le (l : List Fd) (k : Nat) (h : k < l.length) : fsz l[k] ≤ sumF l := by
  have h1 := sumF_take_succ l k h
  have h2 := sumF_take_le l (k + 1)
  omega

/-- Do two lists agree in the first k places? -/
def AgreeTo {α : Type} (a b : List α) (k : Nat) : Prop := ∀ i, i < k → a[i]? = b[i]?
theorem AgreeTo.zero {α : Type} (a b : List α) : AgreeTo a b 0 := fun i h => absurd h (Nat.not_lt_zero _)
theorem AgreeTo.succ {α : Type} {a b : List α} {k : Nat} (h : AgreeTo a b k) (hk : a[k]? = b[k]?) : AgreeTo a b (k + 1) := fun i hi => by
  rcases Nat.lt_or_ge i k with h1 | h1
  · exact h i h1
  · obtain rfl : i = k := by omega
    exact hk
theorem AgreeTo.eq {α : Type} {a b : List α} (hl : a.length = b.length) (h : AgreeTo a b a.length) : a = b := by
  apply List.ext_getElem?
  intro i
  rcases Nat.lt_or_ge i a.length with h1 | h1
  · exact h i h1
  · rw [List.getElem?_eq_none h1, List.getElem?_eq_none (by omega)]

end Go.Proofs.Yteopmaaghhendaa

/-
  Slices whose elements have k cells each: what reads as n elements, what may be appended to without a write to older memory; append's law. No program is named here.
-/
namespace Go.Proofs.Yteopmaaghhendaa
open Go.RowKit
set_option linter.unusedVariables false

/-- The value reads in this world as n elements of k cells, the cells xs. -/
def Rn (k : Nat) (w : World) (v : Value) (n : Nat) (xs : List Value) : Prop :=
  ∃ A c, v = .slice A n c ∧ n ≤ c ∧ c ≤ maxLen ∧ xs.length = n * k ∧
    ((A = none ∧ c = 0) ∨ ∃ x, A = some x ∧ ∀ j u, xs[j]? = some u → w.cell? (x.add j) = some u)

theorem Rn.nil (k : Nat) (w : World) : Rn k w (.slice none 0 0) 0 [] := ⟨none, 0, rfl, Nat.le_refl _, Nat.zero_le _, by simp, .inl ⟨rfl, rfl⟩⟩

theorem Rn.len {k : Nat} {w : World} {v : Value} {n : Nat} {xs : List Value} (h : Rn k w v n xs) : n ≤ maxLen := by
  obtain ⟨A, c, _, h1, h2, _⟩ := h; omega
theorem Rn.cells {k : Nat} {w : World} {v : Value} {n : Nat} {xs : List Value} (h : Rn k w v n xs) : xs.length = n * k := by
  obtain ⟨A, c, _, h1, h2, h3, _⟩ := h; exact h3

/-- A list that is not empty: where it lies. -/
theorem Rn.at_ {k : Nat} {w : World} {v : Value} {n : Nat} {xs : List Value} (h : Rn k w v n xs) (hn : 0 < n) (hk : 0 < k) :
    ∃ b o c, v = .slice (some ⟨b, o, none⟩) n c ∧ n ≤ c ∧ c ≤ maxLen ∧ b < w.heap.size ∧ ∀ j u, xs[j]? = some u → w.cell? ⟨b, o + j, none⟩ = some u := by
  obtain ⟨A, c, rfl, h1, h2, hl, h3⟩ := h
  rcases h3 with ⟨_, rfl⟩ | ⟨x, rfl, hc⟩
  · omega
  · obtain ⟨b, off, spot⟩ := x
    have h0l : 0 < xs.length := by rw [hl]; exact Nat.mul_pos hn hk
    have h0 := hc 0 xs[0] (List.getElem?_eq_getElem h0l)
    have hspot : spot = none := by simpa [Addr.add] using World.cell?_spot h0
    subst hspot
    refine ⟨b, off, c, rfl, h1, h2, World.block_lt_of_cell? w ⟨b, off + 0, none⟩ (by simpa [Addr.add] using h0), fun j u hu => ?_⟩
    have := hc j u hu
    rwa [Addr.add_lit] at this

theorem Rn.keep {k : Nat} {w w' : World} {v : Value} {n : Nat} {xs : List Value} (h : Rn k w v n xs) (hb : Below w.heap.size w w') : Rn k w' v n xs := by
  obtain ⟨A, c, rfl, h1, h2, hl, h3⟩ := h
  refine ⟨A, c, rfl, h1, h2, hl, h3.imp id ?_⟩
  rintro ⟨x, rfl, hc⟩
  refine ⟨x, rfl, fun j u hu => ?_⟩
  have hj := hc j u hu
  rw [hb.cell (World.block_lt_of_cell? w _ hj)]
  exact hj

/-- May be appended to: a row of its own from block B on, or a slice with no room. -/
def An (k : Nat) (w : World) (B : Nat) (e : TypeId) (v : Value) (n : Nat) (xs : List Value) : Prop :=
  w.ownsRow B e k v n xs ∨ ((∃ A, v = .slice A n n) ∧ Rn k w v n xs)

theorem Rn.of_own {k : Nat} {w : World} {B : Nat} {e : TypeId} {v : Value} {n : Nat} {xs : List Value} (h : w.ownsRow B e k v n xs) : Rn k w v n xs := by
  have hh := h
  have hl : xs.length = n * k := h.1
  rcases h.2 with ⟨rfl, rfl⟩ | ⟨g, cap, cur, rfl, _, _, hnc, hcm, _⟩
  · obtain rfl : xs = [] := List.eq_nil_of_length_eq_zero (by rw [hl]; omega)
    exact Rn.nil k w
  · exact ⟨_, cap, rfl, hnc, hcm, hl, .inr ⟨_, rfl, hh.cells (g := g) rfl⟩⟩

theorem An.rd {k : Nat} {w : World} {B : Nat} {e : TypeId} {v : Value} {n : Nat} {xs : List Value} (h : An k w B e v n xs) : Rn k w v n xs := by
  rcases h with h | ⟨_, h⟩
  · exact Rn.of_own h
  · exact h

theorem ownN_keep {k : Nat} {w w' : World} {B : Nat} {e : TypeId} {v : Value} {n : Nat} {xs : List Value} (h : w.ownsRow B e k v n xs) (hb : Below w.heap.size w w') : w'.ownsRow B e k v n xs := by
  refine ⟨h.1, ?_⟩
  rcases h.2 with h0 | ⟨g, cap, cur, rfl, hg, hh, rest⟩
  · exact .inl h0
  · refine .inr ⟨g, cap, cur, rfl, hg, ?_, rest⟩
    rw [hb.block g (Array.getElem?_eq_some_iff.1 hh).1]; exact hh

/-- A row written out. -/
theorem An.lit {k : Nat} (w : World) (e : TypeId) (cs : Array Value) (n : Nat) (hn : cs.size = n * k) (hm : n ≤ maxLen) : An k (w.alloc (.cells cs e)) w.heap.size e (.slice (some ⟨w.heap.size, 0, none⟩) n n) n cs.toList :=
  .inl (World.ownsRow_lit (base := w.heap.size) (e := e) (size := k) w cs n (Nat.le_refl _) hm (by omega))

section
variable {P : Program} (w : World)

end

end Go.Proofs.Yteopmaaghhendaa

/-
  Slices of fields: what they read as. No type of slices of strings is named.
-/
namespace Go.Proofs.Yteopmaaghhendaa
open Go.RowKit
set_option linter.unusedVariables false

def fvl (f : Fd) : List Value := [.string f.1, .string f.2]
/-- The value reads as these fields. -/
def Fs (w : World) (v : Value) (l : List Fd) : Prop := Rn 2 w v l.length (l.flatMap fvl)
theorem fvl_length (l : List Fd) : (l.flatMap fvl).length = l.length * 2 := by
  induction l with
  | nil => rfl
  | cons a l ih => rw [List.flatMap_cons, List.length_append, ih]; simp [fvl]; omega
theorem fvl_at (l : List Fd) (i : Nat) (h : i < l.length) : (l.flatMap fvl)[i * 2]? = some (.string l[i].1) ∧ (l.flatMap fvl)[i * 2 + 1]? = some (.string l[i].2) := by
  induction l generalizing i with
  | nil => simp at h
  | cons a l ih =>
    rw [List.flatMap_cons]
    cases i with
    | zero => exact ⟨rfl, rfl⟩
    | succ i =>
      have := ih i (by simpa using h)
      have e1 : (i + 1) * 2 = (fvl a).length + i * 2 := by simp [fvl]; omega
      have e2 : (i + 1) * 2 + 1 = (fvl a).length + (i * 2 + 1) := by simp [fvl]; omega
      rw [e2, e1, List.getElem?_append_right (by omega), List.getElem?_append_right (by omega)]
      simpa using this
theorem Fs.len {w : World} {v : Value} {l : List Fd} (h : Fs w v l) : l.length ≤ maxLen := Rn.len h
theorem Fs.keep {w w' : World} {v : Value} {l : List Fd} (h : Fs w v l) (hb : Below w.heap.size w w') : Fs w' v l := Rn.keep h hb
theorem Fs.run_len {w : World} {v : Value} {l : List Fd} (h : Fs w v l) (ty : TypeId) (W : World) : (Builtin.len_ #[38] ty #[v]).run Try.prog W = .ok (.int .i64 (l.length : Int)) W := by
  obtain ⟨A, c, rfl, h1, h2, h3⟩ := h
  simp [Builtin.len_, run_underlying Try.underlying38, goInt]
/-- The place of v[i], and what lies there. -/
theorem Fs.at_ {w : World} {v : Value} {l : List Fd} (h : Fs w v l) (i : Nat) (hi : i < l.length) :
    ∃ b o : Nat, (∀ (q : IntKind) (W : World), (Instr.indexAt 38 v (.int q (i : Int))).run Try.prog W = .ok (.pointer (some ⟨b, o, none⟩)) W) ∧
      ∀ W : World, Fs W v l → W.cell? ⟨b, o, none⟩ = some (.string l[i].1) ∧ W.cell? ⟨b, o + 1, none⟩ = some (.string l[i].2) := by
  obtain ⟨b, o, c, rfl, h1, h2, h3, hc⟩ := Rn.at_ h (by omega) (by omega)
  have hsz : ∀ W : World, (sizeOf (Try.prog.elem 38)).run Try.prog W = .ok 2 W := fun W => by kernel_rfl
  refine ⟨b, o + i * 2, fun q W => ?_, fun W hW => ?_⟩
  · simp [Instr.indexAt, asIntOf, run_underlying Try.underlying38, Sem.run_bind, hi, Result.andThen]
    simp [Addr.add]
  · obtain ⟨b', o', c', e, _, _, _, hc'⟩ := Rn.at_ hW (by omega) (by omega)
    injection e with e1 e2 e3
    injection e1 with e1
    injection e1 with e1 e4
    subst e1; subst e4
    have := fvl_at l i hi
    exact ⟨hc' _ _ this.1, hc' _ _ this.2⟩

end Go.Proofs.Yteopmaaghhendaa

/-
  A block that holds one field: made, read, stored into; what a call hands back out of one.
-/
namespace Go.Proofs.Yteopmaaghhendaa
open Go.RowKit
set_option linter.unusedVariables false

def emp : Fd := (⟨#[]⟩, ⟨#[]⟩)
def aggF (f : Fd) : Value := .agg #[.string f.1, .string f.2]
/-- Block g holds the field f. -/
def Fb (t : TypeId) (w : World) (g : Nat) (f : Fd) : Prop := w.heap[g]? = some (.cells #[.string f.1, .string f.2] t (0, 0))

theorem Fb.new (t : TypeId) (w : World) (f : Fd) : Fb t (w.alloc (.cells #[.string f.1, .string f.2] t)) w.heap.size f := heap_alloc_last w _
theorem Fb.lt {t : TypeId} {w : World} {g : Nat} {f : Fd} (h : Fb t w g f) : g < w.heap.size := (Array.getElem?_eq_some_iff.1 h).1
theorem Fb.below {t : TypeId} {w w' : World} {g B : Nat} {f : Fd} (h : Fb t w g f) (hb : Below B w w') (hg : g < B) : Fb t w' g f := by
  unfold Fb; rw [hb.block g hg]; exact h
theorem Fb.keep {t : TypeId} {w w' : World} {g : Nat} {f : Fd} (h : Fb t w g f) (hb : Below w.heap.size w w') : Fb t w' g f := h.below hb h.lt
theorem Fb.alloc {t : TypeId} {w : World} {g : Nat} {f : Fd} (h : Fb t w g f) (o : Obj) : Fb t (w.alloc o) g f := h.keep ((Below.refl _ _).alloc (Nat.le_refl _) o)
theorem Fb.grown {t : TypeId} {w w' : World} {g : Nat} {f : Fd} {row : Option Nat} (h : Fb t w g f) (hb : w.grownBy w' row) (hg : some g ≠ row) : Fb t w' g f := by
  unfold Fb; rw [hb.block g h.lt hg]; exact h
theorem Fb.cells {t : TypeId} {w : World} {g : Nat} {f : Fd} (h : Fb t w g f) : w.cell? ⟨g, 0, none⟩ = some (.string f.1) ∧ w.cell? ⟨g, 1, none⟩ = some (.string f.2) := by
  unfold Fb at h
  constructor
  · simp [World.cell?, h]
  · simp [World.cell?, h]
theorem Fb.free {t : TypeId} {w : World} {g : Nat} {f : Fd} (h : Fb t w g f) : w.frozen? ⟨g, 0, none⟩ = false ∧ w.frozen? ⟨g, 1, none⟩ = false := by
  unfold Fb at h
  constructor
  · simp [World.frozen?, h]
  · simp [World.frozen?, h]

theorem fieldSize : (Try.prog.info? 56).map (·.size) = some 2 := by kernel_rfl

theorem grown_setRow (w : World) (g : Nat) (cs : Array Value) : w.grownBy (w.setRow g cs) (some g) :=
  ⟨rfl, rfl, rfl, by simp, fun k _ hne => setRow_other w g k cs (fun e => hne (by rw [e]))⟩

section
variable {ops : Array Oper} {Q : Exit → Act → World → Prop} {a : Act} {w : World} {rest : List Oper}

/-- A store of a whole field into its block. -/
theorem wpList_storeF {x y : Operand} {ty : TypeId} {pos : String} {af : Array Edge} (t : TypeId) (g : Nat) (old f : Fd)
    (hx : a.eval x = .pointer (some ⟨g, 0, none⟩)) (hy : a.eval y = .agg #[.string f.1, .string f.2]) (hfb : Fb t w g old)
    (h : ∀ w2, Fb t w2 g f → w.grownBy w2 (some g) → wpList Try.prog ops Q rest (a.put none undef) w2) :
    wpList Try.prog ops Q (⟨none, .store 56 x y, ty, pos, af, none⟩ :: rest) a w :=
  wpList_store_row rfl 56 x y rfl g #[.string f.1, .string f.2] hx hy t _ hfb fieldSize rfl (by simp [Value.oneCell']) (h _ (setRow_heap w g _ _ t (0, 0) hfb) (grown_setRow w g _))

end

theorem results_row_tmp {P : Program} {fn : Func} {p u : Tmp} {ty : TypeId} (h : fn.results = #[.cell p ty, .tmp u]) (tmps : Array Value) (w : World) (g : Nat) (t : TypeId) (cs : Array Value) (fr : Nat × Nat) (d : TypeDesc)
    (hp : tmps.getD p undef = .pointer (some ⟨g, 0, none⟩)) (hg : w.heap[g]? = some (.cells cs t fr))
    (hu : P.underlying ty = some d) (hd : (match d with | .struct _ | .array _ _ => true | _ => false) = true) (hi : (P.info? ty).map (·.size) = some cs.size) :
    (results fn tmps).run P w = .ok (.tuple #[.agg cs, tmps.getD u undef]) w := by
  rw [results_cell_tmp h, hp]
  simp [asAddr, run_loadVar_row w g t ty cs fr d hg hu hd hi]

/-- What a call hands back that ends with a field in a cell of its own, and a bool. -/
theorem ret_field {fn : Func} {p u : Tmp} (h : fn.results = #[.cell p 56, .tmp u]) (tmps : Array Value) (w : World) (g : Nat) (f : Fd) (b : Bool)
    (hp : tmps.getD p undef = .pointer (some ⟨g, 0, none⟩)) (hu : tmps.getD u undef = .bool b) (h0 : Fb 56 w g f) :
    (results fn tmps).run Try.prog w = .ok (.tuple #[aggF f, .bool b]) w := by
  rw [results_row_tmp h tmps _ g 56 #[.string f.1, .string f.2] (0, 0) _ hp h0 Try.underlying56 rfl fieldSize, hu]
  rfl

/-- Entry i of a list whose first one's number is fr, or the empty one. -/
def entF (l : List Fd) (fr i : Nat) : Fd := if h : fr ≤ i ∧ i - fr < l.length then l[i - fr]'(h.2) else emp
def isF (l : List Fd) (fr i : Nat) : Bool := decide (fr ≤ i ∧ i - fr < l.length)

end Go.Proofs.Yteopmaaghhendaa

/-
  What a call may write: a set of blocks. A slice of fields in a row of its own, that may begin anywhere within it: read, appended to, its head written, cut.
-/
namespace Go.Proofs.Yteopmaaghhendaa
open Go.RowKit
set_option linter.unusedVariables false

/-- Of the blocks that stood, those outside S are as they were. -/
structure Fp (S : Nat → Prop) (w w' : World) : Prop where
  os : w'.os = w.os
  tape : w'.tape = w.tape
  output : w'.output = w.output
  size : w.heap.size ≤ w'.heap.size
  block : ∀ k, k < w.heap.size → ¬ S k → w'.heap[k]? = w.heap[k]?

theorem Fp.refl (S : Nat → Prop) (w : World) : Fp S w w := ⟨rfl, rfl, rfl, Nat.le_refl _, fun _ _ _ => rfl⟩
theorem Fp.trans {S S' : Nat → Prop} {a b c : World} (h : Fp S a b) (k : Fp S' b c) (hs : ∀ i, S' i → S i ∨ a.heap.size ≤ i) : Fp S a c :=
  ⟨k.os.trans h.os, k.tape.trans h.tape, k.output.trans h.output, Nat.le_trans h.size k.size, fun i hi hn => (k.block i (Nat.lt_of_lt_of_le hi h.size) (fun hc => (hs i hc).elim hn fun h1 => by omega)).trans (h.block i hi hn)⟩
theorem Fp.then {S : Nat → Prop} {a b c : World} (h : Fp S a b) (k : Fp S b c) : Fp S a c := h.trans k fun _ h => .inl h
theorem Fp.of_below {S : Nat → Prop} {w w' : World} (h : Below w.heap.size w w') : Fp S w w' := ⟨h.os, h.tape, h.output, h.size, fun k hk _ => h.block k hk⟩
theorem Fp.of_grown {S : Nat → Prop} {w w' : World} {row : Option Nat} (h : w.grownBy w' row) (hr : ∀ k, row = some k → S k) : Fp S w w' :=
  ⟨h.os, h.tape, h.output, h.size, fun k hk hn => h.block k hk fun e => hn (hr k e.symm)⟩
theorem Fp.set (S : Nat → Prop) (w : World) (a : Addr) (v : Value) (ha : S a.block) : Fp S w (w.setCell a v) :=
  ⟨rfl, rfl, rfl, by simp [World.setCell], fun k hk hn => Go.Deep.blk_setCell_other _ _ _ _ (fun e => hn (e ▸ ha))⟩
theorem Fp.below {S : Nat → Prop} {w w' : World} {B : Nat} (h : Fp S w w') (hB : B ≤ w.heap.size) (hS : ∀ k, S k → B ≤ k) : Below B w w' :=
  ⟨h.os, h.tape, h.output, h.size, fun k hk => h.block k (by omega) fun hs => by have := hS k hs; omega⟩

theorem grown_set (w : World) (g i : Nat) (v : Value) : w.grownBy (w.setCell ⟨g, i, none⟩ v) (some g) :=
  ⟨rfl, rfl, rfl, by simp [World.setCell], fun k _ hne => Go.Deep.blk_setCell_other _ _ _ _ (fun e => hne (by rw [e]))⟩
theorem grown_trans {a b c : World} {row : Option Nat} (h : a.grownBy b row) (k : b.grownBy c row) : a.grownBy c row :=
  ⟨k.os.trans h.os, k.tape.trans h.tape, k.output.trans h.output, Nat.le_trans h.size k.size, fun i hi hn => (k.block i (Nat.lt_of_lt_of_le hi h.size) hn).trans (h.block i hi hn)⟩

/-- The value reads as these fields, in a row that no other slice is to write. -/
def St (w : World) (v : Value) (L : List Fd) : Prop :=
  (v = .slice none 0 0 ∧ L = []) ∨ ∃ (g o cap m : Nat) (F : Nat → Value), v = .slice (some ⟨g, o, none⟩) L.length cap ∧ w.rowIs g 56 m F ∧ L.length ≤ cap ∧ cap ≤ maxLen ∧ o + cap * 2 ≤ m ∧ ∀ j u, (L.flatMap fvl)[j]? = some u → F (o + j) = u

theorem St.nil (w : World) : St w (.slice none 0 0) [] := .inl ⟨rfl, rfl⟩
theorem St.fs {w : World} {v : Value} {L : List Fd} (h : St w v L) : Fs w v L := by
  rcases h with ⟨rfl, rfl⟩ | ⟨g, o, cap, m, F, rfl, hr, h1, h2, h3, h4⟩
  · exact Rn.nil 2 w
  · refine ⟨_, cap, rfl, h1, h2, fvl_length L, .inr ⟨_, rfl, fun j u hu => ?_⟩⟩
    have hj : j < (L.flatMap fvl).length := (List.getElem?_eq_some_iff.1 hu).1
    rw [fvl_length] at hj
    rw [Addr.add_lit, hr.cell (by omega), h4 j u hu]
theorem St.lt {w : World} {v : Value} {L : List Fd} (h : St w v L) {k : Nat} (hk : v.ownBlock = some k) : k < w.heap.size := by
  rcases h with ⟨rfl, rfl⟩ | ⟨g, o, cap, m, F, rfl, hr, h1, h2, h3, h4⟩
  · simp [Value.ownBlock] at hk
  · simp only [Value.ownBlock, Option.some.injEq] at hk
    subst hk
    exact hr.lt
theorem St.kept {w w' : World} {v : Value} {L : List Fd} (h : St w v L) (hb : ∀ k, v.ownBlock = some k → w'.heap[k]? = w.heap[k]?) : St w' v L := by
  rcases h with h | ⟨g, o, cap, m, F, rfl, hr, h1, h2, h3, h4⟩
  · exact .inl h
  · exact .inr ⟨g, o, cap, m, F, rfl, hr.of_block (hb g rfl), h1, h2, h3, h4⟩
theorem St.keep {w w' : World} {v : Value} {L : List Fd} (h : St w v L) (hb : Below w.heap.size w w') : St w' v L := h.kept fun k hk => hb.block k (h.lt hk)
theorem St.grown {w w' : World} {row : Option Nat} {v : Value} {L : List Fd} (h : St w v L) (hg : w.grownBy w' row) (hn : ∀ k, v.ownBlock = some k → some k ≠ row) : St w' v L :=
  h.kept fun k hk => hg.block k (h.lt hk) (hn k hk)

theorem St.of_own {w : World} {B : Nat} {v : Value} {L : List Fd} (h : w.ownsRow B 56 2 v L.length (L.flatMap fvl)) : St w v L := by
  rcases h.2 with ⟨rfl, h0⟩ | ⟨g, cap, cur, rfl, _, hg, hnc, hcm, hcs, ht⟩
  · exact .inl ⟨rfl, List.eq_nil_of_length_eq_zero h0⟩
  · refine .inr ⟨g, 0, cap, cap * 2, fun i => cur.getD i undef, rfl, ⟨cur, hg, hcs, fun i hi => ?_⟩, hnc, hcm, by omega, fun j u hu => ?_⟩
    · have : i < cur.size := by omega
      simp [Array.getD, this]
    · have hj : j < (L.flatMap fvl).length := (List.getElem?_eq_some_iff.1 hu).1
      rw [fvl_length] at hj
      rw [← ht, List.getElem?_take] at hu
      rw [if_pos hj] at hu
      have : j < cur.size := by omega
      simp only [Nat.zero_add, Array.getD, this, ↓reduceDIte]
      simpa [this] using hu

theorem flatMap_fvl_snoc (L : List Fd) (f : Fd) : (L ++ [f]).flatMap fvl = L.flatMap fvl ++ fvl f := by simp
theorem infoF : (Try.prog.info? 56).map (fun i => (i.zero, i.size, i.bytes)) = some (some (.agg #[.string ⟨#[]⟩, .string ⟨#[]⟩]), 2, 32) := by kernel_rfl
theorem infoF_get : ∃ i, Try.prog.info? 56 = some i ∧ i.zero = some (.agg #[.string ⟨#[]⟩, .string ⟨#[]⟩]) ∧ i.size = 2 ∧ i.bytes = 32 := by
  have h := infoF
  cases hi : Try.prog.info? 56 with
  | none => rw [hi] at h; simp at h
  | some i =>
    rw [hi] at h
    simp only [Option.map_some, Option.some.injEq, Prod.mk.injEq] at h
    exact ⟨i, rfl, h.1, h.2.1, h.2.2⟩

/-- One field more. -/
theorem St.append {w : World} {v u : Value} {L : List Fd} {f : Fd} (h : St w v L) (hu : Fs w u [f]) (hl : L.length ≤ 1000000) (ty : TypeId) :
    ∃ v' w', (Builtin.append_ #[38, 38] ty #[v, u]).run Try.prog w = .ok v' w' ∧ St w' v' (L ++ [f]) ∧ w.grownBy w' v.ownBlock ∧ (v'.ownBlock = v.ownBlock ∨ ∃ g, v'.ownBlock = some g ∧ w.heap.size ≤ g) ∧
      (∀ A n, v = .slice A n n → w.grownBy w' none ∧ ∃ g, v'.ownBlock = some g ∧ w.heap.size ≤ g) := by
  obtain ⟨i, hi, hz, hs, hb⟩ := infoF_get
  obtain ⟨b, o', c', rfl, c1, c2, hbl, hcu⟩ := Rn.at_ hu (by simp) (by omega)
  have hone : ∀ x ∈ fvl f, x.oneCell' = true := by intro x hx; rcases List.mem_cons.1 hx with rfl | hx; · rfl
                                                   · rcases List.mem_cons.1 hx with rfl | hx; · rfl
                                                     · cases hx
  have hnews : ∀ j u, (fvl f)[j]? = some u → w.cell? ((⟨b, o', none⟩ : Addr).add j) = some u := fun j u hj => by
    rw [Addr.add_lit]; exact hcu j u (by simpa using hj)
  have hlen1 : (L ++ [f]).length = L.length + 1 := by simp
  have fresh : ∀ (v' : Value) (w' : World) (row : Option Nat), w'.ownsRow w.heap.size 56 2 v' (L.length + 1) (L.flatMap fvl ++ fvl f) → w.grownBy w' row → St w' v' (L ++ [f]) ∧ ∃ g, v'.ownBlock = some g ∧ w.heap.size ≤ g := by
    intro v' w' row ho hg
    rw [← flatMap_fvl_snoc, ← hlen1] at ho
    refine ⟨St.of_own ho, ?_⟩
    rcases ho.2 with ⟨rfl, h0⟩ | ⟨g, cap, cur, rfl, hb, _⟩
    · simp at h0
    · exact ⟨g, rfl, hb⟩
  rcases h with ⟨rfl, rfl⟩ | ⟨g, o, cap, m, F, rfl, hr, h1, h2, h3, h4⟩
  · obtain ⟨v', w', hrun, r1, r2, _⟩ := run_append_own (P := Try.prog) w w.heap.size 38 ty 56 i _ 2 32 Try.underlying38 hi hz hs hb rfl (by omega) (.slice none 0 0) 0 [] (World.ownsRow_nil w _ _ 2) ⟨b, o', none⟩ 1 c' (fvl f) rfl hnews hone (by simp [maxLen]) (by omega) (Nat.le_refl _)
    obtain ⟨hst, hfr⟩ := fresh v' w' none (by simpa using r1) r2
    exact ⟨v', w', hrun, hst, r2, .inr hfr, fun A n e => ⟨r2, hfr⟩⟩
  · have hlo : (L.flatMap fvl).length = L.length * 2 := fvl_length L
    have holds : ∀ j u, (L.flatMap fvl)[j]? = some u → w.cell? ((⟨g, o, none⟩ : Addr).add j) = some u := fun j u hu => by
      have hj : j < (L.flatMap fvl).length := (List.getElem?_eq_some_iff.1 hu).1
      rw [Addr.add_lit, hr.cell (by omega), h4 j u hu]
    by_cases hroom : L.length + 1 ≤ cap
    · have hrun := run_append_room_cells (P := Try.prog) w 38 ty 56 i Try.underlying38 hi g o L.length cap ⟨b, o', none⟩ 1 c' (fvl f) (by rw [hs]; rfl) hnews hone hroom
        (by intro j hj; have : j < 2 := hj; rw [hs, hr.cell (by omega)]; rfl) (by intro j hj; exact hr.frozen _)
      rw [hs] at hrun
      refine ⟨_, _, hrun, .inr ⟨g, o, cap, m, _, by rw [hlen1], (hr.set (o + L.length * 2) (.string f.1)).set (o + L.length * 2 + 1) (.string f.2), by omega, h2, h3, fun j u hu => ?_⟩, grown_trans (grown_set w g _ _) (grown_set _ g _ _), .inl rfl, fun A n e => ?_⟩
      · rw [flatMap_fvl_snoc] at hu
        rcases Nat.lt_or_ge j (L.length * 2) with hj | hj
        · rw [List.getElem?_append_left (by omega)] at hu
          rw [if_neg (by omega), if_neg (by omega)]
          exact h4 j u hu
        · rw [List.getElem?_append_right (by omega), hlo] at hu
          obtain ⟨d, rfl⟩ : ∃ d, j = L.length * 2 + d := ⟨j - L.length * 2, by omega⟩
          rw [Nat.add_sub_cancel_left] at hu
          have hd : d < 2 := (List.getElem?_eq_some_iff.1 hu).1
          rcases Nat.lt_or_ge d 1 with h0 | h0
          · obtain rfl : d = 0 := by omega
            rw [if_neg (by omega), if_pos (by omega)]
            simpa [fvl] using hu
          · obtain rfl : d = 1 := by omega
            rw [if_pos (by omega)]
            simpa [fvl] using hu
      · injection e with _ e1 e2
        omega
    · obtain ⟨v', w', hrun, r1, r2⟩ := run_append_arg_grows (P := Try.prog) w 38 ty 56 i _ 2 32 Try.underlying38 hi hz hs hb rfl (by omega) ⟨g, o, none⟩ L.length cap (L.flatMap fvl) hlo holds ⟨b, o', none⟩ 1 c' (fvl f) rfl hnews (by omega) (by unfold maxLen; omega) (by omega)
      obtain ⟨hst, hfr⟩ := fresh v' w' none r1 r2
      exact ⟨v', w', hrun, hst, ⟨r2.os, r2.tape, r2.output, r2.size, fun k hk _ => r2.block k hk (by simp)⟩, .inr hfr, fun A n e => ⟨r2, hfr⟩⟩

set_option maxRecDepth 100000 in
/-- The head's place, and what lies there; written empty. -/
theorem St.head {w : World} {v : Value} {f : Fd} {L : List Fd} (h : St w v (f :: L)) :
    ∃ g o, v.ownBlock = some g ∧ (∀ (q : IntKind) (W : World), (Instr.indexAt 38 v (.int q 0)).run Try.prog W = .ok (.pointer (some ⟨g, o, none⟩)) W) ∧
      (∀ W, St W v (f :: L) → W.cell? ⟨g, o, none⟩ = some (.string f.1) ∧ W.cell? ⟨g, o + 1, none⟩ = some (.string f.2) ∧ W.frozen? ⟨g, o, none⟩ = false ∧ W.frozen? ⟨g, o + 1, none⟩ = false) ∧
      (∀ W, St W v (f :: L) → St ((W.setCell ⟨g, o, none⟩ (.string ⟨#[]⟩)).setCell ⟨g, o + 1, none⟩ (.string ⟨#[]⟩)) v (emp :: L)) ∧
      ∃ v', (∀ (q : IntKind) (W : World), (Instr.slice 38 v (some (.int q 1)) none none).run Try.prog W = .ok v' W) ∧ (∀ W x, St W v (x :: L) → St W v' L) ∧ v'.ownBlock = some g := by
  rcases h with ⟨rfl, h⟩ | ⟨g, o, cap, m, F, rfl, hr, h1, h2, h3, h4⟩
  · cases h
  · have hsz : ∀ W : World, (sizeOf (Try.prog.elem 38)).run Try.prog W = .ok 2 W := fun W => by kernel_rfl
    have helem : Try.prog.underlying 38 = some (.slice (Try.prog.elem 38)) := by kernel_rfl
    have hopen : ∀ (W : World) (x : Fd), St W (.slice (some ⟨g, o, none⟩) (f :: L).length cap) (x :: L) → ∃ m F, W.rowIs g 56 m F ∧ o + cap * 2 ≤ m ∧ ∀ j u, ((x :: L).flatMap fvl)[j]? = some u → F (o + j) = u := by
      intro W x hW
      rcases hW with ⟨e, _⟩ | ⟨g', o', cap', m', F', e, hr', _, _, h3', h4'⟩
      · cases e
      · injection e with e1 e2 e3
        injection e1 with e1
        injection e1 with e1 e4
        subst e1; subst e4; subst e3
        exact ⟨m', F', hr', h3', h4'⟩
    simp only [List.length_cons] at h1
    refine ⟨g, o, rfl, fun q W => ?_, fun W hW => ?_, fun W hW => ?_, sliced (some ⟨g, o, none⟩) 1 (f :: L).length cap 2, fun q W => ?_, fun W x hW => ?_, ?_⟩
    · simp [Instr.indexAt, asIntOf, run_underlying Try.underlying38, Sem.run_bind, Result.andThen]
      simp [Addr.add]
    · obtain ⟨m, F, hr, hm, hF⟩ := hopen W f hW
      refine ⟨?_, ?_, hr.frozen _, hr.frozen _⟩
      · rw [hr.cell (by omega)]; congr 1; exact hF 0 _ (by simp [fvl])
      · rw [hr.cell (by omega)]; congr 1; exact hF 1 _ (by simp [fvl])
    · obtain ⟨m, F, hr, hm, hF⟩ := hopen W f hW
      refine .inr ⟨g, o, cap, m, _, rfl, (hr.set o (.string ⟨#[]⟩)).set (o + 1) (.string ⟨#[]⟩), by simp only [List.length_cons]; omega, h2, hm, fun j u hu => ?_⟩
      rcases j with _ | _ | j
      · rw [if_neg (by omega), if_pos (by omega)]; simpa [fvl, emp] using hu
      · rw [if_pos (by omega)]; simpa [fvl, emp] using hu
      · rw [if_neg (by omega), if_neg (by omega)]
        exact hF (j + 1 + 1) u (by simpa [fvl] using hu)
    · rw [run_slice_l W 38 (some ⟨g, o, none⟩) (f :: L).length cap helem q 1 (by omega) (by simp only [List.length_cons]; omega), hsz]
      rfl
    · obtain ⟨m, F, hr, hm, hF⟩ := hopen W x hW
      unfold sliced
      simp only [List.length_cons, Nat.add_sub_cancel]
      by_cases hc : cap = 1
      · rw [if_pos hc]
        have hL : L = [] := List.eq_nil_of_length_eq_zero (by omega)
        subst hL
        subst hc
        exact .inr ⟨g, o, 0, m, F, rfl, hr, Nat.le_refl _, Nat.zero_le _, by omega, fun j u hu => by simp at hu⟩
      · rw [if_neg hc]
        refine .inr ⟨g, o + 2, cap - 1, m, F, ?_, hr, by omega, by omega, by omega, fun j u hu => ?_⟩
        · simp [Addr.add]
        · rw [show o + 2 + j = o + (j + 1 + 1) by omega]
          exact hF (j + 1 + 1) u (by simpa [fvl] using hu)
    · unfold sliced
      split
      · rfl
      · simp [Value.ownBlock, Addr.add]

end Go.Proofs.Yteopmaaghhendaa

/-
  A table that changes, as plain mathematics. No program is named here.
-/
namespace Go.Proofs.Yteopmaaghhendaa
set_option linter.unusedVariables false

/-- The number of the newest one for which p holds; b: the number of the oldest. -/
def nw (p : Fd → Bool) (b : Nat) : List Fd → Option Nat
  | [] => none
  | f :: l => match nw p (b + 1) l with
    | some a => some a
    | none => if p f then some b else none

theorem nw_snoc (p : Fd → Bool) (f : Fd) : ∀ (b : Nat) (l : List Fd), nw p b (l ++ [f]) = if p f then some (b + l.length) else nw p b l
  | b, [] => by simp [nw]
  | b, g :: l => by
    simp only [List.cons_append, nw, nw_snoc p f (b + 1) l]
    by_cases h : p f
    · simp [h]; omega
    · simp [h]
theorem nw_bound (p : Fd → Bool) : ∀ (b : Nat) (l : List Fd) (a : Nat), nw p b l = some a → b ≤ a ∧ a < b + l.length
  | b, [], a, h => by simp [nw] at h
  | b, f :: l, a, h => by
    simp only [nw] at h
    simp only [List.length_cons]
    cases hc : nw p (b + 1) l with
    | some c => rw [hc] at h; simp only [Option.some.injEq] at h; have := nw_bound p (b + 1) l c hc; omega
    | none => rw [hc] at h; simp at h; have := h.2; omega
theorem nw_hit (p : Fd → Bool) (b : Nat) (f : Fd) (l : List Fd) (h : p f = true) : ∃ a, nw p b (f :: l) = some a := by
  simp only [nw]
  cases nw p (b + 1) l with
  | some c => exact ⟨c, rfl⟩
  | none => exact ⟨b, by simp [h]⟩
theorem nw_miss (p : Fd → Bool) (b : Nat) (f : Fd) (l : List Fd) (h : p f = false) : nw p b (f :: l) = nw p (b + 1) l := by
  simp only [nw]
  cases nw p (b + 1) l <;> simp [h]
theorem nw_last (p : Fd → Bool) (b : Nat) (f : Fd) (l : List Fd) (h : p f = true) (hb : nw p b (f :: l) = some b) : nw p (b + 1) l = none := by
  simp only [nw] at hb
  cases hc : nw p (b + 1) l with
  | none => rfl
  | some c =>
    rw [hc] at hb
    have := nw_bound p _ _ _ hc
    simp only [Option.some.injEq] at hb
    omega
theorem nw_more (p : Fd → Bool) (b a : Nat) (f : Fd) (l : List Fd) (hb : nw p b (f :: l) = some a) (hne : a ≠ b) : nw p (b + 1) l = some a := by
  simp only [nw] at hb
  cases hc : nw p (b + 1) l with
  | some c => rw [hc] at hb; exact hb
  | none => rw [hc] at hb; simp at hb; have := hb.2; omega
theorem nw_take_succ (p : Fd → Bool) (b : Nat) (l : List Fd) (k : Nat) (hk : k < l.length) : nw p b (l.take (k + 1)) = if p l[k] then some (b + k) else nw p b (l.take k) := by
  rw [List.take_succ_eq_append_getElem hk, nw_snoc, List.length_take, Nat.min_eq_left (by omega)]

/-- What is left when the oldest go till no more than room is taken. -/
def fits (room : Int) : List Fd → List Fd
  | [] => []
  | f :: l => if room < (sizeF (f :: l) : Int) then fits room l else f :: l
theorem fits_len (room : Int) : ∀ l, (fits room l).length ≤ l.length
  | [] => Nat.le_refl _
  | f :: l => by
    unfold fits
    split
    · have := fits_len room l; simp; omega
    · exact Nat.le_refl _
theorem fits_drop (room : Int) : ∀ l, fits room l = l.drop (l.length - (fits room l).length)
  | [] => rfl
  | f :: l => by
    have h := fits_drop room l
    have hl := fits_len room l
    unfold fits
    split
    · rw [show (f :: l).length - (fits room l).length = (l.length - (fits room l).length) + 1 by simp; omega, List.drop_succ_cons]
      exact h
    · simp
theorem fits_le (room : Int) : ∀ l, fits room l = [] ∨ (sizeF (fits room l) : Int) ≤ room
  | [] => .inl rfl
  | f :: l => by
    unfold fits
    split
    · exact fits_le room l
    · exact .inr (by omega)
theorem fits_all {room : Int} {l : List Fd} (h : (sizeF l : Int) ≤ room) : fits room l = l := by
  cases l with
  | nil => rfl
  | cons f l => unfold fits; rw [if_neg (by omega)]
theorem fits_cons_go {room : Int} {f : Fd} {l : List Fd} (h : room < (sizeF (f :: l) : Int)) : fits room (f :: l) = fits room l := by
  rw [fits, if_pos h]
theorem sizeF_drop (l : List Fd) (k : Nat) : sizeF (l.drop k) ≤ sizeF l := by
  have := sizeF_append (l.take k) (l.drop k)
  rw [List.take_append_drop] at this
  omega
theorem fits_size (room : Int) (l : List Fd) : sizeF (fits room l) ≤ sizeF l := by
  rw [fits_drop room l]; exact sizeF_drop _ _
theorem sizeF_mem {l : List Fd} {f : Fd} (h : f ∈ l) : fsz f + 32 ≤ sizeF l := by
  induction l with
  | nil => cases h
  | cons g l ih =>
    rcases List.mem_cons.1 h with rfl | h
    · simp only [sizeF]; omega
    · have := ih h; simp only [sizeF]; omega
theorem sizeF_len (l : List Fd) : 32 * l.length ≤ sizeF l := by
  rw [sizeF_sum]; omega

/-- The table: what stands, the capacity, how many ever stood. -/
structure Tab where
  l : List Fd
  cap : Nat
  tot : Nat
def Tab.new (n : Int) : Tab := ⟨[], n.toNat, 0⟩
def Tab.room (T : Tab) (f : Fd) : Int := (T.cap : Int) - ((fsz f + 32 : Nat) : Int)
def Tab.add (T : Tab) (f : Fd) : Tab := if fsz f + 32 ≤ T.cap then ⟨fits (T.room f) T.l ++ [f], T.cap, T.tot + 1⟩ else ⟨fits (T.room f) T.l, T.cap, T.tot⟩
def Tab.went (T : Tab) (room : Int) : Nat := T.l.length - (fits room T.l).length
def Tab.resize (T : Tab) (n : Int) : Tab := ⟨fits (n.toNat : Int) T.l, n.toNat, T.tot⟩
def Tab.first (T : Tab) : Nat := T.tot - T.l.length
/-- No more stands than ever stood; all within bounds that no number of the program reaches. -/
structure Tab.ok (T : Tab) : Prop where
  len : T.l.length ≤ T.tot
  size : sizeF T.l ≤ 1000000
  cap : T.cap ≤ 1000000
  tot : T.tot ≤ 1000000
theorem Tab.ok.short {T : Tab} (h : T.ok) : T.l.length ≤ 31250 := by have := sizeF_len T.l; have := h.size; omega
theorem Tab.add_tot_le (T : Tab) (f : Fd) : (T.add f).tot ≤ T.tot + 1 := by unfold Tab.add; split <;> simp
theorem Tab.add_cap (T : Tab) (f : Fd) : (T.add f).cap = T.cap := by unfold Tab.add; split <;> rfl
theorem Tab.add_size (T : Tab) (f : Fd) (hc : fsz f + 32 ≤ T.cap) : sizeF (fits (T.room f) T.l ++ [f]) ≤ T.cap := by
  rw [sizeF_append]
  have : sizeF [f] = fsz f + 32 := by simp [sizeF]
  rcases fits_le (T.room f) T.l with h | h
  · rw [h]; simp only [sizeF] at *; omega
  · unfold Tab.room at *; omega
theorem Tab.new_ok {n : Int} (h : n ≤ 1000000) : (Tab.new n).ok := ⟨Nat.le_refl _, by simp [Tab.new, sizeF], by simp only [Tab.new]; omega, by simp [Tab.new]⟩
end Go.Proofs.Yteopmaaghhendaa

/-
  Maps from fields, or from names, to the number of the newest one.
-/
namespace Go.Proofs.Yteopmaaghhendaa
open Go.RowKit Go.Maps
set_option linter.unusedVariables false

theorem fdLaidOut : laidOutB Try.prog = true := by kernel_rfl
theorem fdLaw : Keyed Try.prog 56 := Keyed.of_law (deep_law_laid fdLaidOut (m := 2) (by omega) (of_decide_eq_true (by kernel_rfl)) (by kernel_rfl) (by kernel_rfl))
theorem stLaw : Keyed Try.prog 9 := string_keyed Try.underlying9

/-- What a field reads as, as a key. -/
def kf (f : Fd) : Lit := .string (keyBytes [.string f.1.data.toList, .string f.2.data.toList])
def ks (s : ByteArray) : Lit := .string s.data.toList
def Sized (f : Fd) : Prop := f.1.size ≤ maxLen ∧ f.2.size ≤ maxLen
def Short (s : ByteArray) : Prop := s.size ≤ maxLen

theorem fdCells : Try.prog.cellsOf 56 = 2 := by kernel_rfl
theorem fdStr : Try.prog.cellsOf 9 = 1 := by kernel_rfl
theorem fdKey : Try.prog.keyType 56 = true := by kernel_rfl
theorem keyOf_fd (f : Fd) (h : Sized f) : keyOf Try.prog 56 (.agg #[.string f.1, .string f.2]) = some (kf f) := by
  obtain ⟨f1, f2⟩ := f
  obtain ⟨h1, h2⟩ := h
  simp only at h1 h2
  have hs : ∀ (n : Nat) (s : ByteArray), s.size ≤ maxLen → Try.prog.keyLits (n + 1) 9 [.string s] = some [.string s.data.toList] := fun n s hs => by
    unfold Program.keyLits
    simp only [Try.underlying9, if_pos hs]
  unfold keyOf
  simp only [Try.underlying56]
  obtain ⟨n, hn⟩ : ∃ n, Try.prog.types.size = n + 1 := ⟨Try.prog.types.size - 1, by kernel_rfl⟩
  rw [fdKey, hn]
  have hf : (Value.agg #[.string f1, .string f2]).formed Try.prog 56 = true := by
    simp [Value.formed, Try.underlying56, fdCells]
  rw [hf]
  unfold Program.keyLits
  simp only [Try.underlying56]
  rw [if_pos (show (true && true) = true from rfl), if_pos ⟨by rw [fdCells]; rfl, by kernel_rfl⟩]
  simp only [List.mapM_cons, List.mapM_nil, fdStr, Value.cells, List.drop_zero, List.take_succ_cons, List.take_zero, List.drop_succ_cons, hs _ _ h1, hs _ _ h2]
  rfl
theorem kf_inj (f g : Fd) (hf : Sized f) (hg : Sized g) (h : kf f = kf g) : f = g := by
  have e := fdLaw.inj (keyOf_fd f hf) (by rw [h]; exact keyOf_fd g hg)
  obtain ⟨f1, f2⟩ := f
  obtain ⟨g1, g2⟩ := g
  simp only [Value.agg.injEq, Array.mk.injEq, List.cons.injEq, Value.string.injEq] at e
  rw [e.1, e.2.1]
theorem kf_key (f : Fd) (h : Sized f) : WideAt.IsKeyLit (kf f) := fdLaw.key (keyOf_fd f h)
theorem keyOf_st (s : ByteArray) (h : Short s) : keyOf Try.prog 9 (.string s) = some (ks s) := WideMaps.keyOf_string_mk (P := Try.prog) Try.underlying9 h
theorem ks_inj (f g : ByteArray) (hf : Short f) (hg : Short g) (h : ks f = ks g) : f = g := by
  have e := stLaw.inj (keyOf_st f hf) (by rw [h]; exact keyOf_st g hg)
  exact Value.string.inj e
theorem ks_key (s : ByteArray) (h : Short s) : WideAt.IsKeyLit (ks s) := stLaw.key (keyOf_st s h)

/-- The map tells of each key which one is the newest that has it. -/
def Mp {κ : Type} [DecidableEq κ] (kl : κ → Lit) (ok : κ → Prop) (pr : Fd → κ) (b : Nat) (l : List Fd) (D : DataW Unit) : Prop :=
  IsMap D ∧ ∀ k, ok k → Maps.has D (kl k) = (nw (fun g => decide (pr g = k)) b l).isSome ∧ D.atKey (kl k) (.lit (.int .u64 0)) = .lit (.int .u64 (((nw (fun g => decide (pr g = k)) b l).getD 0 : Nat) : Int))

section
variable {κ : Type} [DecidableEq κ] {kl : κ → Lit} {ok : κ → Prop} {pr : Fd → κ} {b : Nat} {l : List Fd} {f : Fd} {D : DataW Unit}
theorem Mp.nil (kl : κ → Lit) (ok : κ → Prop) (pr : Fd → κ) (b : Nat) : Mp kl ok pr b [] (.map []) := ⟨isMap_empty, fun k _ => by simp [nw, Maps.has, DataW.atKey]⟩
theorem Mp.put (hi : ∀ k k', ok k → ok k' → kl k = kl k' → k = k') (hk : ∀ k, ok k → WideAt.IsKeyLit (kl k)) (h : Mp kl ok pr b l D) (hf : ok (pr f)) {c : Nat} (hc : c = b + l.length) : Mp kl ok pr b (l ++ [f]) (D.put (kl (pr f)) (.lit (.int .u64 (c : Int)))) := by
  subst hc
  obtain ⟨h0, h1⟩ := h
  refine ⟨h0.put _ _, fun k hok => ?_⟩
  rw [nw_snoc]
  by_cases he : pr f = k
  · subst he
    rw [has_put_same h0 (hk _ hf), atKey_put_same h0 (hk _ hf)]
    simp
  · have hne : kl k ≠ kl (pr f) := fun e => he (hi _ _ hok hf e).symm
    rw [has_put_other hne, atKey_put_other hne]
    simp only [he, decide_false, Bool.false_eq_true, if_false]
    exact h1 k hok
theorem Mp.last (hi : ∀ k k', ok k → ok k' → kl k = kl k' → k = k') (h : Mp kl ok pr b (f :: l) D) (hf : ok (pr f)) (hb : (nw (fun g => decide (pr g = pr f)) b (f :: l)).getD 0 = b) : Mp kl ok pr (b + 1) l (D.del (kl (pr f))) := by
  obtain ⟨h0, h1⟩ := h
  refine ⟨h0.del _, fun k hok => ?_⟩
  by_cases he : pr f = k
  · subst he
    obtain ⟨a, ha⟩ := nw_hit (fun g => decide (pr g = pr f)) b f l (by simp)
    rw [ha] at hb
    simp only [Option.getD_some] at hb
    rw [hb] at ha
    rw [has_del_same, atKey_del_same, nw_last _ b f l (by simp) ha]
    simp
  · have hne : kl k ≠ kl (pr f) := fun e => he (hi _ _ hok hf e).symm
    rw [has_del_other hne, atKey_del_other hne, (h1 k hok).1, (h1 k hok).2, nw_miss _ _ _ _ (by simp [he])]
    exact ⟨rfl, rfl⟩
theorem Mp.more (h : Mp kl ok pr b (f :: l) D) (hb : (nw (fun g => decide (pr g = pr f)) b (f :: l)).getD 0 ≠ b) : Mp kl ok pr (b + 1) l D := by
  obtain ⟨h0, h1⟩ := h
  refine ⟨h0, fun k hok => ?_⟩
  rw [(h1 k hok).1, (h1 k hok).2]
  by_cases he : pr f = k
  · subst he
    obtain ⟨a, ha⟩ := nw_hit (fun g => decide (pr g = pr f)) b f l (by simp)
    rw [ha] at hb ⊢
    rw [nw_more _ b a f l ha (by simpa using hb)]
    exact ⟨rfl, rfl⟩
  · rw [nw_miss _ _ _ _ (by simp [he])]
    exact ⟨rfl, rfl⟩
end

theorem zeroU64 (w : World) : (zeroValue 27).run Try.prog w = .ok (.int .u64 0) w := by kernel_rfl

def hasF (f : Fd) : Fd → Bool := fun g => decide (g = f)
def hasN (s : ByteArray) : Fd → Bool := fun g => decide (g.1 = s)
/-- Look-ups in the two maps, as equations. -/
theorem lookW {w : World} {b n m : Nat} {l : List Fd} {D : DataW Unit} (ho : w.ownsMap Try.prog 56 (plainElem Try.prog 27) b n D) (h : Mp kf Sized id m l D) {f : Fd} (hf : Sized f) :
    (Instr.lookup 66 (.map (some b)) (.agg #[.string f.1, .string f.2]) false).run Try.prog w = .ok (.int .u64 (((nw (hasF f) m l).getD 0 : Nat) : Int)) w := by
  obtain ⟨c, hrun, hc, _⟩ := ho.lookup_int fdLaw Try.underlying66 Try.underlying27 (zeroU64 w) (keyOf_fd f hf)
  rw [(h.2 f hf).2] at hc
  simp only [DataW.lit.injEq, Lit.int.injEq, true_and] at hc
  rw [hrun, ← hc]
  rfl
theorem lookN {w : World} {b n m : Nat} {l : List Fd} {D : DataW Unit} (ho : w.ownsMap Try.prog 9 (plainElem Try.prog 27) b n D) (h : Mp ks Short Prod.fst m l D) {s : ByteArray} (hf : Short s) :
    (Instr.lookup 67 (.map (some b)) (.string s) false).run Try.prog w = .ok (.int .u64 (((nw (hasN s) m l).getD 0 : Nat) : Int)) w := by
  obtain ⟨c, hrun, hc, _⟩ := ho.lookup_int stLaw Try.underlying67 Try.underlying27 (zeroU64 w) (keyOf_st s hf)
  rw [(h.2 s hf).2] at hc
  simp only [DataW.lit.injEq, Lit.int.injEq, true_and] at hc
  rw [hrun, ← hc]
  rfl
end Go.Proofs.Yteopmaaghhendaa

/-
  The program's table in memory, the document's table in memory, and what a call does to one of them.
-/
namespace Go.Proofs.Yteopmaaghhendaa
open Go.RowKit Go.Maps
set_option linter.unusedVariables false

/-- The cells of the program's table. -/
def tF (v : Value) (bw bn sz cp ct : Nat) (i : Nat) : Value :=
  if i = 0 then v else if i = 1 then .map (some bw) else if i = 2 then .map (some bn) else if i = 3 then .int .i64 (sz : Int) else if i = 4 then .int .i64 (cp : Int) else .int .u64 (ct : Int)

/-- The program's table, part by part; na, nb: bounds of the two maps. -/
structure Tr (w : World) (p : Nat) (v : Value) (bw bn sz cp ct na nb : Nat) (L : List Fd) (Dw Dn : DataW Unit) : Prop where
  row : w.rowIs p 69 6 (tF v bw bn sz cp ct)
  st : St w v L
  mw : w.ownsMap Try.prog 56 (plainElem Try.prog 27) bw na Dw
  mn : w.ownsMap Try.prog 9 (plainElem Try.prog 27) bn nb Dn
  ne : p ≠ bw ∧ p ≠ bn ∧ bw ≠ bn
  nv : ∀ k, v.ownBlock = some k → k ≠ p ∧ k ≠ bw ∧ k ≠ bn

section
variable {w w' : World} {p : Nat} {v : Value} {bw bn sz cp ct na nb : Nat} {L : List Fd} {Dw Dn : DataW Unit}
theorem Tr.cells (h : Tr w p v bw bn sz cp ct na nb L Dw Dn) : w.cell? ⟨p, 0, none⟩ = some v ∧ w.cell? ⟨p, 1, none⟩ = some (.map (some bw)) ∧ w.cell? ⟨p, 2, none⟩ = some (.map (some bn)) ∧
    w.cell? ⟨p, 3, none⟩ = some (.int .i64 (sz : Int)) ∧ w.cell? ⟨p, 4, none⟩ = some (.int .i64 (cp : Int)) ∧ w.cell? ⟨p, 5, none⟩ = some (.int .u64 (ct : Int)) :=
  ⟨h.row.cell (by omega), h.row.cell (by omega), h.row.cell (by omega), h.row.cell (by omega), h.row.cell (by omega), h.row.cell (by omega)⟩
theorem Tr.free (h : Tr w p v bw bn sz cp ct na nb L Dw Dn) (i : Nat) : w.frozen? ⟨p, i, none⟩ = false := h.row.frozen i
theorem Tr.kept (h : Tr w p v bw bn sz cp ct na nb L Dw Dn) (hb : ∀ k, k < w.heap.size → (k = p ∨ k = bw ∨ k = bn ∨ v.ownBlock = some k) → w'.heap[k]? = w.heap[k]?) : Tr w' p v bw bn sz cp ct na nb L Dw Dn := by
  refine ⟨h.row.of_block (hb p h.row.lt (.inl rfl)), h.st.kept fun k hk => hb k (h.st.lt hk) (.inr (.inr (.inr hk))), ?_, ?_, h.ne, h.nv⟩
  · have hlt := h.mw.lt
    obtain ⟨es, cl, h1, h2, h3, h4⟩ := h.mw
    exact ⟨es, cl, (hb bw hlt (.inr (.inl rfl))).trans h1, h2, h3, h4⟩
  · have hlt := h.mn.lt
    obtain ⟨es, cl, h1, h2, h3, h4⟩ := h.mn
    exact ⟨es, cl, (hb bn hlt (.inr (.inr (.inl rfl)))).trans h1, h2, h3, h4⟩
theorem Tr.keep (h : Tr w p v bw bn sz cp ct na nb L Dw Dn) (hb : Below w.heap.size w w') : Tr w' p v bw bn sz cp ct na nb L Dw Dn := h.kept fun k hk _ => hb.block k hk
theorem Tr.alloc (h : Tr w p v bw bn sz cp ct na nb L Dw Dn) (o : Obj) : Tr (w.alloc o) p v bw bn sz cp ct na nb L Dw Dn := h.keep ((Below.refl _ _).alloc (Nat.le_refl _) o)
theorem Tr.drew (h : Tr w p v bw bn sz cp ct na nb L Dw Dn) : Tr w.drew p v bw bn sz cp ct na nb L Dw Dn := h.keep (Below.refl _ _).drew
/-- A store into one of the table's own cells. -/
theorem Tr.rest (h : Tr w p v bw bn sz cp ct na nb L Dw Dn) (i : Nat) (x : Value) {f : Nat → Value} (hr : (w.setCell ⟨p, i, none⟩ x).rowIs p 69 6 f) {v' : Value} {sz' cp' ct' : Nat}
    (hf : ∀ j, j < 6 → f j = tF v' bw bn sz' cp' ct' j) {L' : List Fd} (hst : St (w.setCell ⟨p, i, none⟩ x) v' L') (hv : v'.ownBlock = v.ownBlock) : Tr (w.setCell ⟨p, i, none⟩ x) p v' bw bn sz' cp' ct' na nb L' Dw Dn :=
  ⟨hr.congr hf, hst, h.mw.setCell (fun e => h.ne.1 e.symm) x, h.mn.setCell (fun e => h.ne.2.1 e.symm) x, h.ne, fun k hk => h.nv k (hv ▸ hk)⟩
theorem Tr.stSet (h : Tr w p v bw bn sz cp ct na nb L Dw Dn) (i : Nat) (x : Value) : St (w.setCell ⟨p, i, none⟩ x) v L :=
  h.st.grown (grown_set w p i x) fun k hk e => (h.nv k hk).1 (Option.some.inj e)
theorem Tr.setSz (h : Tr w p v bw bn sz cp ct na nb L Dw Dn) (n : Nat) : Tr (w.setCell ⟨p, 3, none⟩ (.int .i64 (n : Int))) p v bw bn n cp ct na nb L Dw Dn :=
  h.rest 3 _ (h.row.set 3 _) (fun j hj => by unfold tF; match j, hj with | 0, _ => rfl | 1, _ => rfl | 2, _ => rfl | 3, _ => rfl | 4, _ => rfl | 5, _ => rfl) (h.stSet 3 _) rfl
theorem Tr.setCp (h : Tr w p v bw bn sz cp ct na nb L Dw Dn) (n : Nat) : Tr (w.setCell ⟨p, 4, none⟩ (.int .i64 (n : Int))) p v bw bn sz n ct na nb L Dw Dn :=
  h.rest 4 _ (h.row.set 4 _) (fun j hj => by unfold tF; match j, hj with | 0, _ => rfl | 1, _ => rfl | 2, _ => rfl | 3, _ => rfl | 4, _ => rfl | 5, _ => rfl) (h.stSet 4 _) rfl
theorem Tr.setCt (h : Tr w p v bw bn sz cp ct na nb L Dw Dn) (n : Nat) : Tr (w.setCell ⟨p, 5, none⟩ (.int .u64 (n : Int))) p v bw bn sz cp n na nb L Dw Dn :=
  h.rest 5 _ (h.row.set 5 _) (fun j hj => by unfold tF; match j, hj with | 0, _ => rfl | 1, _ => rfl | 2, _ => rfl | 3, _ => rfl | 4, _ => rfl | 5, _ => rfl) (h.stSet 5 _) rfl
/-- The slice's own cell: another slice, in the same block or in a new one. -/
theorem Tr.setV (h : Tr w p v bw bn sz cp ct na nb L Dw Dn) {v' : Value} {L' : List Fd} (hst : St w v' L') (hv : ∀ k, v'.ownBlock = some k → k ≠ p ∧ k ≠ bw ∧ k ≠ bn) : Tr (w.setCell ⟨p, 0, none⟩ v') p v' bw bn sz cp ct na nb L' Dw Dn :=
  ⟨(h.row.set 0 v').congr (fun j hj => by unfold tF; match j, hj with | 0, _ => rfl | 1, _ => rfl | 2, _ => rfl | 3, _ => rfl | 4, _ => rfl | 5, _ => rfl),
    hst.grown (grown_set w p 0 v') fun k hk e => (hv k hk).1 (Option.some.inj e), h.mw.setCell (fun e => h.ne.1 e.symm) v', h.mn.setCell (fun e => h.ne.2.1 e.symm) v', h.ne, hv⟩
/-- The slice's block written, or a new one made. -/
theorem Tr.slice (h : Tr w p v bw bn sz cp ct na nb L Dw Dn) (hg : w.grownBy w' v.ownBlock) {L' : List Fd} (hst : St w' v L') : Tr w' p v bw bn sz cp ct na nb L' Dw Dn := by
  have hp : some p ≠ v.ownBlock := fun e => (h.nv p e.symm).1 rfl
  have hw : some bw ≠ v.ownBlock := fun e => (h.nv bw e.symm).2.1 rfl
  have hn : some bn ≠ v.ownBlock := fun e => (h.nv bn e.symm).2.2 rfl
  exact ⟨h.row.of_block (hg.block p h.row.lt hp), hst, h.mw.kept hg hw, h.mn.kept hg hn, h.ne, h.nv⟩
theorem Tr.grew (h : Tr w p v bw bn sz cp ct na nb L Dw Dn) (hg : w.grownBy w' v.ownBlock) {v' : Value} {L' : List Fd} (hst : St w' v' L') (hv : v'.ownBlock = v.ownBlock ∨ ∃ g, v'.ownBlock = some g ∧ w.heap.size ≤ g) : Tr (w'.setCell ⟨p, 0, none⟩ v') p v' bw bn sz cp ct na nb L' Dw Dn := by
  have hp : some p ≠ v.ownBlock := fun e => (h.nv p e.symm).1 rfl
  have hw : some bw ≠ v.ownBlock := fun e => (h.nv bw e.symm).2.1 rfl
  have hn : some bn ≠ v.ownBlock := fun e => (h.nv bn e.symm).2.2 rfl
  have hnv : ∀ k, v'.ownBlock = some k → k ≠ p ∧ k ≠ bw ∧ k ≠ bn := by
    intro k hk
    rcases hv with e | ⟨g, e, hge⟩
    · exact h.nv k (e ▸ hk)
    · rw [e] at hk
      injection hk with hk
      have h1 := h.row.lt
      have h2 := h.mw.lt
      have h3 := h.mn.lt
      omega
  have hrow := h.row.of_block (hg.block p h.row.lt hp)
  exact ⟨(hrow.set 0 v').congr (fun j hj => by unfold tF; match j, hj with | 0, _ => rfl | 1, _ => rfl | 2, _ => rfl | 3, _ => rfl | 4, _ => rfl | 5, _ => rfl),
    hst.grown (grown_set w' p 0 v') fun k hk e => (hnv k hk).1 (Option.some.inj e), (h.mw.kept hg hw).setCell (fun e => h.ne.1 e.symm) v', (h.mn.kept hg hn).setCell (fun e => h.ne.2.1 e.symm) v', h.ne, hnv⟩
/-- One of the maps has turned. -/
theorem Tr.turnW (h : Tr w p v bw bn sz cp ct na nb L Dw Dn) (hg : w.grownBy w' (some bw)) {D : DataW Unit} {n : Nat} (ho : w'.ownsMap Try.prog 56 (plainElem Try.prog 27) bw n D) : Tr w' p v bw bn sz cp ct n nb L D Dn :=
  ⟨h.row.of_block (hg.block p h.row.lt (fun e => h.ne.1 (Option.some.inj e))), h.st.grown hg (fun k hk e => (h.nv k hk).2.1 (Option.some.inj e)), ho, h.mn.kept hg (fun e => h.ne.2.2 (Option.some.inj e).symm), h.ne, h.nv⟩
theorem Tr.turnN (h : Tr w p v bw bn sz cp ct na nb L Dw Dn) (hg : w.grownBy w' (some bn)) {D : DataW Unit} {n : Nat} (ho : w'.ownsMap Try.prog 9 (plainElem Try.prog 27) bn n D) : Tr w' p v bw bn sz cp ct na n L Dw D :=
  ⟨h.row.of_block (hg.block p h.row.lt (fun e => h.ne.2.1 (Option.some.inj e))), h.st.grown hg (fun k hk e => (h.nv k hk).2.2 (Option.some.inj e)), h.mw.kept hg (fun e => h.ne.2.2 (Option.some.inj e)), ho, h.ne, h.nv⟩
end

/-- The program's table behind the pointer to block p; S: a set of blocks that holds all of its. -/
def Tb (p : Nat) (T : Tab) (w : World) (S : Nat → Prop) : Prop :=
  ∃ v bw bn Dw Dn, Tr w p v bw bn (sizeF T.l) T.cap T.tot T.tot T.tot T.l Dw Dn ∧ Mp kf Sized id T.first T.l Dw ∧ Mp ks Short Prod.fst T.first T.l Dn ∧
    (S p ∧ S bw ∧ S bn ∧ ∀ k, v.ownBlock = some k → S k) ∧ (∀ k, S k → k < w.heap.size) ∧ T.ok

/-- The cells of the document's table. -/
def rF (v : Value) (cp ct : Nat) (i : Nat) : Value := if i = 0 then v else if i = 1 then .int .i64 (cp : Int) else .int .u64 (ct : Int)
/-- The document's table behind the pointer to block q. -/
def Rt (q : Nat) (T : Tab) (w : World) (S : Nat → Prop) : Prop :=
  ∃ v, w.rowIs q 86 3 (rF v T.cap T.tot) ∧ St w v T.l ∧ (∀ k, v.ownBlock = some k → k ≠ q) ∧ (S q ∧ ∀ k, v.ownBlock = some k → S k) ∧ (∀ k, S k → k < w.heap.size) ∧ T.ok

/-- What a call does to what word X tells of: its blocks, and new ones, alone have turned. -/
def Turn (X : World → (Nat → Prop) → Prop) (S : Nat → Prop) (w w' : World) : Prop :=
  ∃ S', X w' S' ∧ (∀ k, S' k → S k ∨ w.heap.size ≤ k) ∧ Fp S w w'

theorem Tb.ok {p : Nat} {T : Tab} {w : World} {S : Nat → Prop} (h : Tb p T w S) : T.ok := by
  obtain ⟨_, _, _, _, _, _, _, _, _, _, h⟩ := h; exact h
theorem Rt.ok {p : Nat} {T : Tab} {w : World} {S : Nat → Prop} (h : Rt p T w S) : T.ok := by
  obtain ⟨_, _, _, _, _, _, h⟩ := h; exact h
theorem Tb.kept {p : Nat} {T : Tab} {w w' : World} {S : Nat → Prop} (h : Tb p T w S) (hs : w.heap.size ≤ w'.heap.size) (hb : ∀ k, S k → w'.heap[k]? = w.heap[k]?) : Tb p T w' S := by
  obtain ⟨v, bw, bn, Dw, Dn, h1, h2, h3, h4, h5, h6⟩ := h
  refine ⟨v, bw, bn, Dw, Dn, h1.kept ?_, h2, h3, h4, fun k hk => Nat.lt_of_lt_of_le (h5 k hk) hs, h6⟩
  rintro k _ (rfl | rfl | rfl | hk)
  · exact hb _ h4.1
  · exact hb _ h4.2.1
  · exact hb _ h4.2.2.1
  · exact hb _ (h4.2.2.2 k hk)
theorem Rt.kept {p : Nat} {T : Tab} {w w' : World} {S : Nat → Prop} (h : Rt p T w S) (hs : w.heap.size ≤ w'.heap.size) (hb : ∀ k, S k → w'.heap[k]? = w.heap[k]?) : Rt p T w' S := by
  obtain ⟨v, h1, h2, h3, h4, h5, h6⟩ := h
  exact ⟨v, h1.of_block (hb _ h4.1), h2.kept (fun k hk => hb k (h4.2 k hk)), h3, h4, fun k hk => Nat.lt_of_lt_of_le (h5 k hk) hs, h6⟩
theorem Tb.lt {p : Nat} {T : Tab} {w : World} {S : Nat → Prop} (h : Tb p T w S) : ∀ k, S k → k < w.heap.size := by
  obtain ⟨_, _, _, _, _, _, _, _, _, h, _⟩ := h; exact h
theorem Rt.lt {p : Nat} {T : Tab} {w : World} {S : Nat → Prop} (h : Rt p T w S) : ∀ k, S k → k < w.heap.size := by
  obtain ⟨_, _, _, _, _, h, _⟩ := h; exact h
theorem Tb.keep {p : Nat} {T : Tab} {w w' : World} {S : Nat → Prop} (h : Tb p T w S) (hb : Below w.heap.size w w') : Tb p T w' S := h.kept hb.size fun k hk => hb.block k (h.lt k hk)
theorem Rt.keep {p : Nat} {T : Tab} {w w' : World} {S : Nat → Prop} (h : Rt p T w S) (hb : Below w.heap.size w w') : Rt p T w' S := h.kept hb.size fun k hk => hb.block k (h.lt k hk)
theorem Turn.refl {X : World → (Nat → Prop) → Prop} {S : Nat → Prop} {w w' : World} (h : X w' S) (hb : Below w.heap.size w w') : Turn X S w w' := ⟨S, h, fun k hk => .inl hk, Fp.of_below hb⟩
/-- One turn behind another. -/
theorem Turn.trans {X Y : World → (Nat → Prop) → Prop} {S : Nat → Prop} {a b c : World} (h : Turn X S a b) (k : ∀ S', X b S' → Turn Y S' b c) : Turn Y S a c := by
  obtain ⟨S1, x1, s1, f1⟩ := h
  obtain ⟨S2, y2, s2, f2⟩ := k S1 x1
  refine ⟨S2, y2, fun i hi => ?_, f1.trans f2 s1⟩
  rcases s2 i hi with h | h
  · exact s1 i h
  · exact .inr (Nat.le_trans f1.size h)
end Go.Proofs.Yteopmaaghhendaa

/-
  Contracts of the Go library at this dump: each is one application of a theorem of the library that is imported; the tables of numbers and the comparisons by the kernel. Written by program.
-/
namespace Go.Proofs.Yteopmaaghhendaa
open Go.Shelf
def laysM316_ren : Go.Shelf.Ren := ⟨fun | 316 => 103 | n => n, fun | 9 => 9 | 3 => 3 | 4 => 4 | 37 => 23 | 0 => 0 | 127 => 162 | 5 => 5 | n => n, fun | n => n⟩
theorem laysM316 : Go.Proofs.LaysM.n316 Try.prog laysM316_ren := {
  mixed := by kernel_rfl
  f316 := Try.func103.trans (congrArg some (by kernel_rfl))
  t0 := Try.underlying0
  a0 := Try.isAgg0
  z0 := Try.sizeOf0
  v0 := Try.zeroValue0
  t3 := Try.underlying3
  a3 := Try.isAgg3
  z3 := Try.sizeOf3
  v3 := Try.zeroValue3
  t4 := Try.underlying4
  a4 := Try.isAgg4
  z4 := Try.sizeOf4
  v4 := Try.zeroValue4
  t9 := Try.underlying9
  a9 := Try.isAgg9
  z9 := Try.sizeOf9
  v9 := Try.zeroValue9
  t37 := Try.underlying23
  a37 := Try.isAgg23
  z37 := Try.sizeOf23
  v37 := Try.zeroValue23
  t127 := Try.underlying162
  a127 := Try.isAgg162
  z127 := Try.sizeOf162
  v127 := Try.zeroValue162
  t5 := Try.underlying5
  a5 := Try.isAgg5
  z5 := Try.sizeOf5
  v5 := Try.zeroValue5
  i0 := by kernel_rfl
  i3 := by kernel_rfl
  i4 := by kernel_rfl
  i5 := by kernel_rfl
  i9 := by kernel_rfl
  i37 := by kernel_rfl
  i127 := by kernel_rfl }
open Go.RowKit in
theorem stringslite_Clone (s : ByteArray) (w : World) (hlim : s.size ≤ 281474976710656) :
    Calls Try.prog 103 #[.string s] w fun e w' => e = .returned (.string s) ∧ Below w.heap.size w w' := Any.stringslite_Clone laysM316 s w hlim
end Go.Proofs.Yteopmaaghhendaa

/-
  Small contracts: field.Size, the document's Size and size, strings.Clone, the tables' numbers.
-/
namespace Go.Proofs.Yteopmaaghhendaa
open Go.RowKit Go.Maps
set_option linter.unusedVariables false

set_option maxRecDepth 100000 in
set_option maxHeartbeats 1000000 in
theorem size_any (v : Value) (l : List Fd) (w : World) (hv : Fs w v l) (hm : sizeF l ≤ 9223372036854775807) :
    Calls Try.prog 86 #[v] w fun e w' => e = .returned (.int .i64 (sizeF l : Int)) ∧ Below w.heap.size w w' := by
  have HV := Bx.mk hv
  have hlen := fun ty W => hv.run_len ty W
  have hlm := hv.len
  unfold maxLen at hlm
  clear hv
  go_enter Try.func86, Try.ntmps86
  go_wp2
  go_loopg [3, 8] l.length (fun g s3 s8 wx => ∃ k : Nat, k + g = l.length ∧ s8 = .int .i64 k ∧ s3 = .int .i64 (sizeF (l.take k) : Int) ∧ Bx (Below w.heap.size w wx))
  case atStart => exact ⟨0, by omega, rfl, rfl, ⟨Below.refl _ _⟩⟩
  case round =>
    obtain ⟨k, hkg, rfl, rfl, HB⟩ := hrel
    cases gk with
    | zero =>
      obtain rfl : k = l.length := by omega
      go_wp2
      go_ret
      rw [List.take_length]
      exact ⟨rfl, HB.out⟩
    | succ g =>
      have hk : k < l.length := by omega
      have hkz : (k : Int) < (l.length : Int) := by omega
      obtain ⟨b, o, hix, hcs⟩ := HV.out.at_ k hk
      obtain ⟨hc1, hc2⟩ := hcs wr (HV.out.keep HB.out)
      have hst := sizeF_take_succ l k hk
      have hle : sizeF (l.take (k + 1)) ≤ 9223372036854775807 := by
        have := sizeF_append (l.take (k + 1)) (l.drop (k + 1))
        rw [List.take_append_drop] at this
        omega
      have HST := Bx.mk hst
      unfold fsz at hst
      obtain ⟨f1, hf1⟩ : ∃ f1, l[k].1 = f1 := ⟨_, rfl⟩
      obtain ⟨f2, hf2⟩ : ∃ f2, l[k].2 = f2 := ⟨_, rfl⟩
      rw [hf1] at hc1 hst
      rw [hf2] at hc2 hst
      clear hcs
      have hb1 : sizeF (l.take k) + (f1.size + f2.size + 32) ≤ 9223372036854775807 := by omega
      clear hst hle
      go_wp2
      go_roundg g
      case measure => omega
      case rel => exact ⟨k + 1, by omega, by go_num, by rw [HST.out]; unfold fsz; rw [hf1, hf2]; go_num, ⟨HB.out.alloc HB.out.size _⟩⟩

set_option maxRecDepth 100000 in
set_option maxHeartbeats 1000000 in
theorem refSize_any (v : Value) (l : List Fd) (w : World) (hv : Fs w v l) (hm : sizeF l ≤ 9223372036854775807) :
    Calls Try.prog 62 #[v] w fun e w' => e = .returned (.int .i64 (sizeF l : Int)) ∧ Below w.heap.size w w' := by
  have HV := Bx.mk hv
  have hlen := fun ty W => hv.run_len ty W
  have hlm := hv.len
  unfold maxLen at hlm
  clear hv
  go_enter Try.func62, Try.ntmps62
  go_wp2
  go_loopg [3, 4] l.length (fun g s3 s4 wx => ∃ k : Nat, k + g = l.length ∧ s4 = .int .i64 k ∧ s3 = .int .i64 (sizeF (l.take k) : Int) ∧ Bx (Below w.heap.size w wx))
  case atStart => exact ⟨0, by omega, rfl, rfl, ⟨Below.refl _ _⟩⟩
  case round =>
    obtain ⟨k, hkg, rfl, rfl, HB⟩ := hrel
    cases gk with
    | zero =>
      obtain rfl : k = l.length := by omega
      go_wp2
      go_ret
      rw [List.take_length]
      exact ⟨rfl, HB.out⟩
    | succ g =>
      have hk : k < l.length := by omega
      have hkz : (k : Int) < (l.length : Int) := by omega
      obtain ⟨b, o, hix, hcs⟩ := HV.out.at_ k hk
      obtain ⟨hc1, hc2⟩ := hcs wr (HV.out.keep HB.out)
      have hst := sizeF_take_succ l k hk
      have hle : sizeF (l.take (k + 1)) ≤ 9223372036854775807 := by
        have := sizeF_append (l.take (k + 1)) (l.drop (k + 1))
        rw [List.take_append_drop] at this
        omega
      have HST := Bx.mk hst
      unfold fsz at hst
      obtain ⟨f1, hf1⟩ : ∃ f1, l[k].1 = f1 := ⟨_, rfl⟩
      obtain ⟨f2, hf2⟩ : ∃ f2, l[k].2 = f2 := ⟨_, rfl⟩
      rw [hf1] at hc1 hst
      rw [hf2] at hc2 hst
      clear hcs
      have hb1 : sizeF (l.take k) + (f1.size + f2.size + 32) ≤ 9223372036854775807 := by omega
      have HF1 := Bx.mk hf1
      have HF2 := Bx.mk hf2
      clear hst hle hf1 hf2
      go_wp2
      have w1 : IntKind.i64.wrap ((f1.size : Int) + (f2.size : Int)) = (f1.size : Int) + (f2.size : Int) := IntWalk.i64_in _ (by omega)
      have w2 : IntKind.i64.wrap ((f1.size : Int) + (f2.size : Int) + 32) = (f1.size : Int) + (f2.size : Int) + 32 := IntWalk.i64_in _ (by omega)
      have w3 : IntKind.i64.wrap ((sizeF (l.take k) : Int) + ((f1.size : Int) + (f2.size : Int) + 32)) = (sizeF (l.take k) : Int) + ((f1.size : Int) + (f2.size : Int) + 32) := IntWalk.i64_in _ (by omega)
      go_region
      clear w1 w2 w3
      go_wp2
      go_roundg g
      case measure => omega
      case rel => exact ⟨k + 1, by omega, by go_num, by rw [HST.out]; unfold fsz; rw [HF1.out, HF2.out]; go_num, ⟨HB.out.drew⟩⟩


set_option maxRecDepth 100000 in
set_option maxHeartbeats 1000000 in
theorem refsize_any (f : Fd) (w : World) (hf : fsz f ≤ 1000000) :
    Calls Try.prog 65 #[.agg #[.string f.1, .string f.2]] w fun e w' => e = .returned (.int .i64 ((fsz f + 32 : Nat) : Int)) ∧ Below w.heap.size w w' := by
  obtain ⟨f1, f2⟩ := f
  unfold fsz at *
  simp only at *
  have hb1 : f1.size ≤ 1000000 := by omega
  have hb2 : f2.size ≤ 1000000 := by omega
  obtain ⟨hc1, hc2⟩ := (Fb.new 56 w (f1, f2)).cells
  go_enter Try.func65, Try.ntmps65
  go_wp2
  go_ret
  exact ⟨by go_num, (Below.refl _ _).alloc (Nat.le_refl _) _⟩

theorem clone_any (s : ByteArray) (w : World) (hs : s.size ≤ 1000000) :
    Calls Try.prog 100 #[.string s] w fun e w' => e = .returned (.string s) ∧ Below w.heap.size w w' := by
  go_enter Try.func100, Try.ntmps100
  go_wp2_with fail
  refine (stringslite_Clone s _ (by omega)).mono ?_
  rintro e w2 ⟨rfl, hb⟩
  go_wp2
  go_ret
  exact ⟨rfl, hb⟩

set_option maxRecDepth 100000 in
set_option maxHeartbeats 1000000 in
theorem oldest_any {w : World} {p : Nat} {v : Value} {bw bn sz cp ct na nb : Nat} {L : List Fd} {Dw Dn : DataW Unit} (h : Tr w p v bw bn sz cp ct na nb L Dw Dn) (hl : L.length ≤ ct) (ht : ct ≤ 1000000) :
    Calls Try.prog 101 #[.pointer (some ⟨p, 0, none⟩)] w fun e w' => e = .returned (.int .u64 ((ct - L.length : Nat) : Int)) ∧ Below w.heap.size w w' := by
  have hlen := fun ty W => h.st.fs.run_len ty W
  obtain ⟨c0, c1, c2, c3, c4, c5⟩ := h.cells
  have hw1 : IntKind.u64.wrap (L.length : Int) = (L.length : Int) := by simp [IntKind.wrap, IntKind.signed, IntKind.bits]; omega
  have hw2 : IntKind.u64.wrap ((ct : Int) - (L.length : Int)) = ((ct - L.length : Nat) : Int) := by simp [IntKind.wrap, IntKind.signed, IntKind.bits]; omega
  clear h c1 c2 c3 c4
  go_enter Try.func101, Try.ntmps101
  go_wp2
  go_region
  go_wp2
  go_ret
  exact ⟨rfl, (Below.refl _ _).drew⟩

set_option maxRecDepth 100000 in
set_option maxHeartbeats 1000000 in
theorem first_any {w : World} {q : Nat} {v : Value} {cp ct : Nat} {L : List Fd} (h : w.rowIs q 86 3 (rF v cp ct)) (hst : St w v L) (hl : L.length ≤ ct) (ht : ct ≤ 1000000) :
    Calls Try.prog 61 #[.pointer (some ⟨q, 0, none⟩)] w fun e w' => e = .returned (.int .u64 ((ct - L.length : Nat) : Int)) ∧ Below w.heap.size w w' := by
  have hlen := fun ty W => hst.fs.run_len ty W
  have c0 : w.cell? ⟨q, 0, none⟩ = some v := h.cell (by omega)
  have c2 : w.cell? ⟨q, 2, none⟩ = some (.int .u64 (ct : Int)) := h.cell (by omega)
  have hw1 : IntKind.u64.wrap (L.length : Int) = (L.length : Int) := by simp [IntKind.wrap, IntKind.signed, IntKind.bits]; omega
  have hw2 : IntKind.u64.wrap ((ct : Int) - (L.length : Int)) = ((ct - L.length : Nat) : Int) := by simp [IntKind.wrap, IntKind.signed, IntKind.bits]; omega
  clear h hst
  go_enter Try.func61, Try.ntmps61
  go_wp2
  go_region
  go_wp2
  go_ret
  exact ⟨rfl, (Below.refl _ _).drew⟩

end Go.Proofs.Yteopmaaghhendaa

/-
  delete, a store into a map, and any operation whose run is known, as one step of a region that draws its order. No program is named here.
-/
namespace Go.Proofs.Yteopmaaghhendaa
open Go.RowKit Go.Maps
set_option linter.unusedVariables false
set_option linter.unusedSimpArgs false

section
variable {H : Type} {P : Program} {w : World} {ops : Array Oper} {o : Oper} {a : Act} {K : Act → World → Prop} {Q : Exit → Act → World → Prop} {E : Prop}
theorem step_delete_own (hg : o.guard = none) (hdst : o.dst = none) (m x : Operand) (t k : TypeId) (hop : o.op = Op.call { callee := Callee.builtin Builtin.delete, args := #[m, x], argTypes := #[t, k] })
    (e : TypeId) (L : Keyed P k) (ht : P.underlying t = some (.map k e)) (R : Value → Option (DataW H × List MemPlace)) (b n : Nat) (D : DataW H)
    (hm : a.eval m = .map (some b)) (hown : w.ownsMap P k R b n D) (key : Value) (kl : Lit) (hx : a.eval x = key) (hkey : keyOf P k key = some kl)
    (hK : ∀ w', w'.ownsMap P k R b n (D.del kl) → w.mapTurned w' b → K a w') : if Region.wanted o (yielded ops a.tmps) = true then Oper.wp P o a w K Q else E := by
  rw [if_pos (by simp [Region.wanted, hg])]
  obtain ⟨w', hrun, r1, r2⟩ := hown.drop L ht hkey o.type
  unfold Oper.wp
  simp [execOp, hop, resolve, invoke, builtin, hm, hx, hrun, Result.andThen]
  show K (a.put o.dst (.tuple #[])) w'
  rw [hdst]
  exact hK w' r1 r2
/-- An append whose run is known. -/
theorem step_append_run (hg : o.guard = none) (s x : Operand) (t : TypeId) (ho : o.op = .call { callee := .builtin .append, args := #[s, x], argTypes := #[t, t] })
    (v u : Value) (hs : a.eval s = v) (hx : a.eval x = u) {v' : Value} {w' : World} (hr : (Builtin.append_ #[t, t] o.type #[v, u]).run P w = .ok v' w') (hK : K (a.put o.dst v') w') :
    if Region.wanted o (yielded ops a.tmps) = true then Oper.wp P o a w K Q else E := by
  rw [if_pos (by simp [Region.wanted, hg])]
  unfold Oper.wp execOp
  simp only [ho, resolve, invoke, builtin, Sem.run_bind, Sem.run_pure, Result.andThen_ok, List.map_toArray, List.map_cons, List.map_nil, hs, hx, hr]
  exact hK
end

/-! ### A region whose last operation may break the condition that the others keep -/
section
variable {P : Program} {ops : Array Oper} {Q : Exit → Act → World → Prop} {md : Region.Mode} {S : World → Prop} {last : Nat}

/-- Whatever order is picked from here on, and S holds behind every operation that is carried out, till the last one has been. -/
def wpAnyX (P : Program) (md : Region.Mode) (ops : Array Oper) (Q : Exit → Act → World → Prop) (S : World → Prop) (last : Nat) : Nat → Array Bool → Act → World → Prop
  | 0, listed, a, w => Region.ready md ops listed = [] ∧ Q .normal a w
  | fuel + 1, listed, a, w =>
    (Region.ready md ops listed = [] → Q .normal a w) ∧
    ∀ i ∈ Region.ready md ops listed, wpOp P ops Q i (fun a' w' => ((listed.setIfInBounds i true).getD last true = false → S w') ∧ wpAnyX P md ops Q S last fuel (listed.setIfInBounds i true) a' w') a w

theorem wpAny_of_x : ∀ (fuel : Nat) (listed : Array Bool) (a : Act) (w : World), wpAnyX P md ops Q S last fuel listed a w → wpAny P md ops Q fuel listed a w
  | 0, _, _, _, h => h
  | fuel + 1, _, _, _, h => ⟨h.1, fun i hi => wpOp_mono (fun a' w' h' => wpAny_of_x fuel _ a' w' h'.2) (h.2 i hi)⟩

/-- The last one is bound to come behind number i. -/
def lastAfter (md : Region.Mode) (ops : Array Oper) (last i : Nat) : Bool :=
  match ops[last]? with
  | some o => o.after.any (fun e => Region.binds md e && e.on == i)
  | none => true

theorem set_last {listed : Array Bool} {i j last : Nat} (hi : i ≠ last) : ((listed.setIfInBounds i true).setIfInBounds j true).getD last true = (listed.setIfInBounds j true).getD last true := by
  by_cases h : i = j
  · subst h
    rw [getD_set_ne true hi]
  · rw [Array.setIfInBounds_comm _ _ h, getD_set_ne true hi]

theorem wpAnyX_first {i : Nat} {oi : Oper} {v : Value} (hi : ops[i]? = some oi) (hil : i ≠ last) (hsel : ∀ (j : Nat) (o : Oper) cs b, ops[j]? = some o → o.op ≠ .select cs b)
    (hQ : ∀ c a w, Q (.panic c) (a.put oi.dst v) w → Q (.panic c) a w) (hla : lastAfter md ops last i = true) :
    ∀ (fuel : Nat) (listed : Array Bool) (a : Act) (w : World),
      (∀ j oj, ops[j]? = some oj → j ≠ i → listed.getD j true = false → (∀ e ∈ oj.after, Region.binds md e = true → e.on ≠ i) → oi.apart ops oj = true) →
      i ∈ Region.ready md ops listed → YieldsIf P ops S oi v a → S w → listed.getD last true = false →
      wpAnyX P md ops Q S last fuel (listed.setIfInBounds i true) (a.put oi.dst v) w → wpAnyX P md ops Q S last (fuel + 1) listed a w := by
  intro fuel
  induction fuel with
  | zero =>
    intro listed a w _ hr hy hS hun0 H
    refine ⟨fun h => (by rw [h] at hr; cases hr), fun j hj => ?_⟩
    by_cases hji : j = i
    · subst hji; exact hy.wpOp hi hS ⟨fun _ => hS, H⟩
    · have := ready_mono hj hji
      rw [H.1] at this
      cases this
  | succ fuel ih =>
    intro listed a w hfree hr hy hS hun0 H
    refine ⟨fun h => (by rw [h] at hr; cases hr), fun j hj => ?_⟩
    by_cases hji : j = i
    · subst hji; exact hy.wpOp hi hS ⟨fun _ => hS, H⟩
    · have h1 := H.2 j (ready_mono hj hji)
      obtain ⟨hjun, oj, hoj, hall⟩ := mem_ready.1 hj
      have hnot : ∀ e ∈ oj.after, Region.binds md e = true → e.on ≠ i := fun e he hb heq => by
        have h1 := hall e he hb
        have h0 := (mem_ready.1 hr).1
        rw [heq] at h1
        rcases Nat.lt_or_ge i listed.size with h' | h'
        · simp [h'] at h0 h1; rw [h0] at h1; cases h1
        · simp [Array.getElem?_eq_none h'] at h1
      have hjl : j ≠ last := fun hc => by
        subst hc
        unfold lastAfter at hla
        rw [hoj] at hla
        simp only [Array.any_eq_true, Bool.and_eq_true, beq_iff_eq] at hla
        obtain ⟨k, hk, hb, he⟩ := hla
        exact hnot _ (Array.getElem_mem hk) hb he
      have h2 := wpOp_putIf hoj (hfree j oj hoj hji hjun hnot) (fun cs b => hsel i oi cs b hi) (fun cs b => hsel j oj cs b hoj) hQ hy h1
      have hfree' : ∀ k ok, ops[k]? = some ok → k ≠ i → (listed.setIfInBounds j true).getD k true = false →
          (∀ e ∈ ok.after, Region.binds md e = true → e.on ≠ i) → oi.apart ops ok = true := fun k ok hk hki hun hno => by
        refine hfree k ok hk hki ?_ hno
        by_cases hjk : j = k
        · subst hjk; exact hjun
        · rw [getD_set_ne true hjk] at hun; exact hun
      have hun1 : (listed.setIfInBounds j true).getD last true = false := by rw [getD_set_ne true hjl]; exact hun0
      refine wpOp_mono (fun a' w' h3 => ?_) h2
      have hS' : S w' := h3.2.1 (by rw [set_last hil]; exact hun1)
      refine ⟨fun _ => hS', ih (listed.setIfInBounds j true) a' w' hfree' (ready_mono hr (Ne.symm hji)) h3.1 hS' hun1 ?_⟩
      rw [Array.setIfInBounds_comm _ _ hji]
      exact h3.2.2

/-- What yields in whatever world. -/
theorem wpAnyX_first0 {i : Nat} {oi : Oper} {v : Value} (hi : ops[i]? = some oi) (hil : i ≠ last) (hsel : ∀ (j : Nat) (o : Oper) cs b, ops[j]? = some o → o.op ≠ .select cs b)
    (hQ : ∀ c a w, Q (.panic c) (a.put oi.dst v) w → Q (.panic c) a w) :
    ∀ (fuel : Nat) (listed : Array Bool) (a : Act) (w : World),
      (∀ j oj, ops[j]? = some oj → j ≠ i → listed.getD j true = false → (∀ e ∈ oj.after, Region.binds md e = true → e.on ≠ i) → oi.apart ops oj = true) →
      i ∈ Region.ready md ops listed → YieldsIf P ops (fun _ => True) oi v a → (listed.getD last true = false → S w) →
      wpAnyX P md ops Q S last fuel (listed.setIfInBounds i true) (a.put oi.dst v) w → wpAnyX P md ops Q S last (fuel + 1) listed a w := by
  intro fuel
  induction fuel with
  | zero =>
    intro listed a w _ hr hy hS H
    refine ⟨fun h => (by rw [h] at hr; cases hr), fun j hj => ?_⟩
    by_cases hji : j = i
    · subst hji; exact hy.wpOp hi trivial ⟨fun h => hS (by rw [getD_set_ne true hil] at h; exact h), H⟩
    · have := ready_mono hj hji
      rw [H.1] at this
      cases this
  | succ fuel ih =>
    intro listed a w hfree hr hy hS H
    refine ⟨fun h => (by rw [h] at hr; cases hr), fun j hj => ?_⟩
    by_cases hji : j = i
    · subst hji; exact hy.wpOp hi trivial ⟨fun h => hS (by rw [getD_set_ne true hil] at h; exact h), H⟩
    · have h1 := H.2 j (ready_mono hj hji)
      obtain ⟨hjun, oj, hoj, hall⟩ := mem_ready.1 hj
      have hnot : ∀ e ∈ oj.after, Region.binds md e = true → e.on ≠ i := fun e he hb heq => by
        have h1 := hall e he hb
        have h0 := (mem_ready.1 hr).1
        rw [heq] at h1
        rcases Nat.lt_or_ge i listed.size with h' | h'
        · simp [h'] at h0 h1; rw [h0] at h1; cases h1
        · simp [Array.getElem?_eq_none h'] at h1
      have h2 := wpOp_putIf hoj (hfree j oj hoj hji hjun hnot) (fun cs b => hsel i oi cs b hi) (fun cs b => hsel j oj cs b hoj) hQ hy h1
      have hfree' : ∀ k ok, ops[k]? = some ok → k ≠ i → (listed.setIfInBounds j true).getD k true = false →
          (∀ e ∈ ok.after, Region.binds md e = true → e.on ≠ i) → oi.apart ops ok = true := fun k ok hk hki hun hno => by
        refine hfree k ok hk hki ?_ hno
        by_cases hjk : j = k
        · subst hjk; exact hjun
        · rw [getD_set_ne true hjk] at hun; exact hun
      refine wpOp_mono (fun a' w' h3 => ?_) h2
      have hS' : (listed.setIfInBounds j true).getD last true = false → S w' := fun h => h3.2.1 (by rw [set_last hil]; exact h)
      refine ⟨hS', ih (listed.setIfInBounds j true) a' w' hfree' (ready_mono hr (Ne.symm hji)) h3.1 hS' ?_⟩
      rw [Array.setIfInBounds_comm _ _ hji]
      exact h3.2.2

theorem wpAnyX_take {i : Nat} {oi : Oper} {v : Value} {fuel : Nat} {listed : Array Bool} {a : Act} {w : World} (hi : ops[i]? = some oi) (hil : i ≠ last) (hla : lastAfter md ops last i = true) (hun : listed.getD last true = false)
    (hs : Region.noSelect ops = true) (hf : Region.free md ops listed i = true) (hr : (Region.ready md ops listed).contains i = true)
    (hQ : ∀ c a w, Q (.panic c) (a.put oi.dst v) w → Q (.panic c) a w) (hy : YieldsIf P ops S oi v a) (hS : S w)
    (h : wpAnyX P md ops Q S last fuel (listed.setIfInBounds i true) (a.put oi.dst v) w) : wpAnyX P md ops Q S last (fuel + 1) listed a w :=
  wpAnyX_first hi hil (Region.noSelect_spec hs) hQ hla fuel listed a w (Region.free_spec hi hf) (by simpa using hr) hy hS hun h
theorem wpAnyX_take0 {i : Nat} {oi : Oper} {v : Value} {fuel : Nat} {listed : Array Bool} {a : Act} {w : World} (hi : ops[i]? = some oi) (hil : i ≠ last)
    (hs : Region.noSelect ops = true) (hf : Region.free md ops listed i = true) (hr : (Region.ready md ops listed).contains i = true)
    (hQ : ∀ c a w, Q (.panic c) (a.put oi.dst v) w → Q (.panic c) a w) (hy : YieldsIf P ops (fun _ => True) oi v a) (hS : S w)
    (h : wpAnyX P md ops Q S last fuel (listed.setIfInBounds i true) (a.put oi.dst v) w) : wpAnyX P md ops Q S last (fuel + 1) listed a w :=
  wpAnyX_first0 hi hil (Region.noSelect_spec hs) hQ fuel listed a w (Region.free_spec hi hf) (by simpa using hr) hy (fun _ => hS) h

/-- One alone may come up. -/
theorem wpAnyX_one {i : Nat} {o : Oper} {fuel : Nat} {listed : Array Bool} {a : Act} {w : World} (hr : Region.ready md ops listed = [i]) (ho : ops[i]? = some o)
    (h : ∀ K' : Act → World → Prop, Shut (∀ a w, ((listed.setIfInBounds i true).getD last true = false → S w) → wpAnyX P md ops Q S last fuel (listed.setIfInBounds i true) a w → K' a w) → if Region.wanted o (yielded ops a.tmps) = true then Oper.wp P o a w K' Q else K' (a.put o.dst undef) w) :
    wpAnyX P md ops Q S last (fuel + 1) listed a w :=
  ⟨fun h0 => absurd (hr ▸ h0) (by simp), hr ▸ fun j hj => by
    rcases List.mem_cons.1 hj with rfl | hj
    · exact wpOp_step ho (fun K' hK => h K' (fun a w hS hW => hK a w ⟨hS, hW⟩))
    · cases hj⟩

theorem wpAnyX_done {listed : Array Bool} {a : Act} {w : World} (hr : Region.ready md ops listed = []) (h : Q .normal a w) :
    ∀ fuel, wpAnyX P md ops Q S last fuel listed a w
  | 0 => ⟨hr, h⟩
  | _ + 1 => ⟨fun _ => h, by rw [hr]; simp⟩

theorem wp_region_x {id : Nat} {a : Act} {w : World} (last : Nat) (S : World → Prop) (hm : P.follows .mixedOrders = true) (hS : S w.drew)
    (h : S w.drew → wpAnyX P .any ops Q S last ops.size (Array.replicate ops.size false) a w.drew) : (Code.region id ops true).wp P Q a w :=
  wp_region_any hm (wpAny_of_x (S := S) (last := last) _ _ _ _ (h hS))
end

end Go.Proofs.Yteopmaaghhendaa

/-
  Contract of the table's drop.
-/
namespace Go.Proofs.Yteopmaaghhendaa
open Go.RowKit Go.Maps
set_option linter.unusedVariables false

theorem Fb.set2 {t : TypeId} {w : World} {g : Nat} {f : Fd} (h : Fb t w g f) (a b : ByteArray) : Fb t ((w.setCell ⟨g, 0, none⟩ (.string a)).setCell ⟨g, 1, none⟩ (.string b)) g (a, b) := by
  unfold Fb at *
  simp [World.setCell, Array.getElem?_modify, h]
theorem Tr.away {w0 w : World} {p : Nat} {v : Value} {bw bn sz cp ct na nb : Nat} {L : List Fd} {Dw Dn : DataW Unit} (h0 : Tr w0 p v bw bn sz cp ct na nb L Dw Dn) (h : Tr w p v bw bn sz cp ct na nb L Dw Dn) (b : Nat) (hb : w0.heap.size ≤ b) (i : Nat) (x : Value) :
    Tr (w.setCell ⟨b, i, none⟩ x) p v bw bn sz cp ct na nb L Dw Dn := h.kept fun k _ hk => Go.Deep.blk_setCell_other _ _ _ _ (by
  have h1 := h0.row.lt
  have h2 := h0.mw.lt
  have h3 := h0.mn.lt
  rcases hk with rfl | rfl | rfl | hk
  · show k ≠ b; omega
  · show k ≠ b; omega
  · show k ≠ b; omega
  · have := h0.st.lt hk; show k ≠ b; omega)
theorem Fs.one (w : World) (g : Nat) (hg : w.heap.size = g) (f : Fd) : Fs (w.alloc (.cells #[.string f.1, .string f.2] 56)) (.slice (some ⟨g, 0, none⟩) 1 1) [f] := by
  subst hg
  exact (An.lit (k := 2) w 56 #[.string f.1, .string f.2] 1 rfl (by simp [maxLen])).rd
theorem slice_of_own {v : Value} {g : Nat} (h : v.ownBlock = some g) : ∃ A n c, v = .slice (some A) n c := by
  cases v with
  | slice A n c =>
    cases A with
    | none => simp [Value.ownBlock] at h
    | some a => exact ⟨a, n, c, rfl⟩
  | _ => simp [Value.ownBlock] at h
theorem St.shape {w : World} {v : Value} {L : List Fd} (h : St w v L) : ∃ A n c, v = .slice A n c := by
  rcases h with ⟨rfl, _⟩ | ⟨g, o, cap, m, F, rfl, _⟩
  · exact ⟨_, _, _, rfl⟩
  · exact ⟨_, _, _, rfl⟩
theorem below_set2 {B : Nat} {w w' : World} (h : Below B w w') (g : Nat) (hg : B ≤ g) (a b : Value) : Below B w ((w'.setCell ⟨g, 0, none⟩ a).setCell ⟨g, 1, none⟩ b) :=
  ⟨h.os, h.tape, h.output, by have := h.size; simp [World.setCell]; exact this, fun k hk => by
    rw [Go.Deep.blk_setCell_other _ _ _ _ (by show k ≠ g; omega), Go.Deep.blk_setCell_other _ _ _ _ (by show k ≠ g; omega)]; exact h.block k hk⟩

/-- The blocks of a table. -/
def Own (p bw bn : Nat) (v : Value) (k : Nat) : Prop := k = p ∨ k = bw ∨ k = bn ∨ v.ownBlock = some k

set_option maxRecDepth 100000 in
set_option maxHeartbeats 1000000 in
theorem drop_any {w : World} {p : Nat} {v : Value} {bw bn cp ct na nb b : Nat} {f : Fd} {L : List Fd} {Dw Dn : DataW Unit} (h : Tr w p v bw bn (sizeF (f :: L)) cp ct na nb (f :: L) Dw Dn)
    (hw : Mp kf Sized id b (f :: L) Dw) (hn : Mp ks Short Prod.fst b (f :: L) Dn) (hb : b + (L.length + 1) = ct) (ht : ct ≤ 1000000) (hs : sizeF (f :: L) ≤ 1000000) :
    Calls Try.prog 99 #[.pointer (some ⟨p, 0, none⟩)] w fun e w' => e = .returned (.tuple #[]) ∧ ∃ v' Dw' Dn', Tr w' p v' bw bn (sizeF L) cp ct na nb L Dw' Dn' ∧ v'.ownBlock = v.ownBlock ∧
      Mp kf Sized id (b + 1) L Dw' ∧ Mp ks Short Prod.fst (b + 1) L Dn' ∧ Fp (Own p bw bn v) w w' := by
  have HT := Bx.mk h
  have HW := Bx.mk hw
  have HN := Bx.mk hn
  obtain ⟨f1, f2⟩ := f
  obtain ⟨n1, hn1⟩ : ∃ n1, f1.size + f2.size + 32 = n1 := ⟨_, rfl⟩
  have HSZC : Bx (∀ W u, Fs W u [(f1, f2)] → Calls Try.prog 86 #[u] W fun e w' => e = .returned (.int .i64 (n1 : Int)) ∧ Below W.heap.size W w') := ⟨fun W u hu => hn1 ▸ size_any u [(f1, f2)] W hu (by simp only [sizeF, fsz] at *; omega)⟩
  have HN1 := Bx.mk hn1
  clear hn1
  have hsz : sizeF ((f1, f2) :: L) = f1.size + f2.size + 32 + sizeF L := rfl
  have HSF : Bx (Sized (f1, f2)) := ⟨by unfold Sized maxLen; simp only; omega⟩
  have HSS : Bx (Short f1) := ⟨HSF.out.1⟩
  obtain ⟨g, o, hvo, hix, hcs, hzero, v', hsl, htl, hvo'⟩ := h.st.head
  obtain ⟨av, nv, cv, rfl⟩ := slice_of_own hvo'
  obtain ⟨c0, c1, c2, c3, c4, c5⟩ := h.cells
  obtain ⟨s1, s2, s3, s4⟩ := hcs w h.st
  have hix0 := hix .i64
  have HCS := Bx.mk hcs
  have HZ := Bx.mk hzero
  have HSL := Bx.mk hsl
  have HTL := Bx.mk htl
  have HVO := Bx.mk hvo
  have HVO' := Bx.mk hvo'
  have HB := Bx.mk hb
  have HTT := Bx.mk ht
  have HSZ := Bx.mk hsz
  have HSS2 := Bx.mk hs
  clear h hw hn hix hcs hzero hsl htl hvo hvo' hb ht hsz hs
  have HOLD : Bx (∀ W, Tr W p v bw bn (sizeF ((f1, f2) :: L)) cp ct na nb ((f1, f2) :: L) Dw Dn → Calls Try.prog 101 #[.pointer (some ⟨p, 0, none⟩)] W fun e w' => e = .returned (.int .u64 (b : Int)) ∧ Below W.heap.size W w') := ⟨fun W hW => by
    have := oldest_any hW (by have := HB.out; simp only [List.length_cons]; omega) HTT.out
    rwa [show ct - ((f1, f2) :: L).length = b by have := HB.out; simp only [List.length_cons]; omega] at this⟩
  go_enter Try.func99, Try.ntmps99
  go_upto_region 0 with fail
  go_cut [2, 3] from 4 to 11 (fun s2 s3 wx => ∃ G : Nat, s2 = .int .u64 (b : Int) ∧ s3 = .pointer (some ⟨G, 0, none⟩) ∧ Bx (Tr wx p v bw bn (sizeF ((f1, f2) :: L)) cp ct na nb ((f1, f2) :: L) Dw Dn) ∧ Bx (Fb 56 wx G (f1, f2)) ∧ Bx (Below w.heap.size w wx) ∧ Bx (w.heap.size ≤ G))
  case first =>
    have hX0 : ∀ W, Tr W p v bw bn (sizeF ((f1, f2) :: L)) cp ct na nb ((f1, f2) :: L) Dw Dn → W.cell? ⟨p, 0, none⟩ = some v := fun W h => h.cells.1
    have hX1 : ∀ W, Tr W p v bw bn (sizeF ((f1, f2) :: L)) cp ct na nb ((f1, f2) :: L) Dw Dn → W.cell? ⟨g, o, none⟩ = some (.string f1) := fun W h => (HCS.out W h.st).1
    have hX2 : ∀ W, Tr W p v bw bn (sizeF ((f1, f2) :: L)) cp ct na nb ((f1, f2) :: L) Dw Dn → W.cell? ⟨g, o + 1, none⟩ = some (.string f2) := fun W h => (HCS.out W h.st).2.1
    have hS0 := HT.out.drew
    go_region_held (fun W => Tr W p v bw bn (sizeF ((f1, f2) :: L)) cp ct na nb ((f1, f2) :: L) Dw Dn) (first | assumption | exact (HT.out.alloc _).drew | exact Tr.alloc (by assumption) _ | exact HT.out.away (HT.out.away hT3 w.heap.size (Nat.le_refl _) 0 _) w.heap.size (Nat.le_refl _) 1 _) (first
      | (go_at_call 101; refine (HOLD.out _ ?_).mono ?_; (with_reducible exact hS0); rintro e w3 ⟨rfl, hb3⟩; have hT3 := hS0.keep hb3)
      | (go_at_call 101; refine (HOLD.out _ ?_).mono ?_; (with_reducible exact (HT.out.alloc _).drew); rintro e w3 ⟨rfl, hb3⟩; have hT3 := (HT.out.alloc _).drew.keep hb3; have HF3 := Bx.mk (((Fb.new 56 w emp).keep (Below.refl _ _).drew).keep hb3); obtain ⟨r1, r2⟩ := HF3.out.cells; obtain ⟨r3, r4⟩ := HF3.out.free))
    all_goals go_wp2_with fail
    all_goals go_meet
    · exact ⟨_, rfl, rfl, ⟨hT3.alloc _⟩, ⟨Fb.new _ _ (f1, f2)⟩, ⟨((Below.refl _ _).drew.trans hb3).alloc ((Below.refl _ _).drew.trans hb3).size _⟩, ⟨((Below.refl _ _).drew.trans hb3).size⟩⟩
    · have hbel : Below w.heap.size w w3 := (((Below.refl w.heap.size w).alloc (Nat.le_refl _) _).drew).trans (hb3.mono (by simp))
      exact ⟨_, rfl, rfl, ⟨by assumption⟩, ⟨HF3.out.set2 f1 f2⟩, ⟨below_set2 hbel _ (Nat.le_refl _) _ _⟩, ⟨Nat.le_refl _⟩⟩
  case rest =>
    obtain ⟨G, rfl, rfl, HT1, HF1, HB1, HG1⟩ := hcut
    have HP1 : Bx (Fp (Own p bw bn v) w wc) := ⟨Fp.of_below HB1.out⟩
    have HGN : Bx (G ≠ p ∧ G ≠ bw ∧ G ≠ bn ∧ v.ownBlock ≠ some G) := ⟨by
      have h1 := HT.out.row.lt
      have h2 := HT.out.mw.lt
      have h3 := HT.out.mn.lt
      have h4 := HG1.out
      exact ⟨by omega, by omega, by omega, fun e => by have := HT.out.st.lt e; omega⟩⟩
    clear c0 c1 c2 c3 c4 c5 s1 s2 s3 s4 HB1 HG1 HOLD
    obtain ⟨d0, d1, d2, d3, d4, d5⟩ := HT1.out.drew.cells
    obtain ⟨e1, e2⟩ := (HF1.out.keep (Below.refl _ _).drew).cells
    have hlk := lookW HT1.out.drew.mw HW.out HSF.out
    obtain ⟨x, hx⟩ : ∃ x, (nw (hasF (f1, f2)) b ((f1, f2) :: L)).getD 0 = x := ⟨_, rfl⟩
    rw [hx] at hlk
    have HX := Bx.mk hx
    clear hx
    by_cases hxb : x = b
    case' pos =>
      have hxb2 : b = x := hxb.symm
      subst hxb2
      go_wp2_with fail
      go_region
      go_wp2_with fail
      go_region_held_law (fun W => W.cell? ⟨p, 1, none⟩ = some (.map (some bw)) ∧ W.cell? ⟨G, 0, none⟩ = some (.string f1) ∧ W.cell? ⟨G, 1, none⟩ = some (.string f2)) (first | assumption | exact ⟨d1, e1, e2⟩) ((refine step_delete_own rfl rfl (.tmp 23) (.tmp 24) 66 56 rfl 27 fdLaw Try.underlying66 _ bw na Dw rfl HT1.out.drew.drew.mw _ _ rfl (keyOf_fd (f1, f2) HSF.out) ?_; intro w2 hown2 hturn2; have HT2 := Bx.mk (HT1.out.drew.drew.turnW hturn2.grown hown2); have HF2 := Bx.mk ((HF1.out.keep (below_drewN (Below.refl _ _) 2)).grown hturn2.grown (fun e => HGN.out.2.1 (Option.some.inj e))); have hS2 : w2.cell? ⟨p, 1, none⟩ = some (.map (some bw)) ∧ w2.cell? ⟨G, 0, none⟩ = some (.string f1) ∧ w2.cell? ⟨G, 1, none⟩ = some (.string f2) := ⟨HT2.out.cells.2.1, HF2.out.cells.1, HF2.out.cells.2⟩))
      go_wp2_with fail
      have HP2 : Bx (Fp (Own p bw bn v) w w2) := ⟨HP1.out.then ((Fp.of_below (below_drewN (Below.refl _ _) 2)).then (Fp.of_grown hturn2.grown (fun k e => .inr (.inl (Option.some.inj e).symm))))⟩
      have HW2 : Bx (Mp kf Sized id (b + 1) L (Dw.del (kf (f1, f2)))) := ⟨HW.out.last kf_inj HSF.out HX.out⟩
      generalize Dw.del (kf (f1, f2)) = Dw2 at HW2 HT2
      clear hown2 hturn2 hlk d0 d1 d2 d3 d4 d5 e1 e2 hS2 hxb
    case' neg =>
      have hxb' : ((x : Int) == (b : Int)) = false := by simp; omega
      go_wp2_with fail
      go_region
      go_wp2_with fail
      have HW2 := Bx.mk (HW.out.more (by rw [show (nw (fun g => decide (id g = id (f1, f2))) b ((f1, f2) :: L)).getD 0 = x from HX.out]; exact hxb))
      have HT2 := Bx.mk HT1.out.drew
      have HF2 := Bx.mk (HF1.out.keep (Below.refl _ _).drew)
      have HP2 : Bx (Fp (Own p bw bn v) w wc.drew) := ⟨HP1.out.then (Fp.of_below (Below.refl _ _).drew)⟩
      generalize wc.drew = w2 at *
      clear hlk d0 d1 d2 d3 d4 d5 e1 e2
      obtain ⟨Dw2, hDw2⟩ : ∃ Dw2, Dw = Dw2 := ⟨_, rfl⟩
      rw [hDw2] at HW2 HT2
      clear hxb hxb' hDw2
    all_goals
      obtain ⟨d0, d1, d2, d3, d4, d5⟩ := HT2.out.drew.cells
      obtain ⟨e1, e2⟩ := (HF2.out.keep (Below.refl _ _).drew).cells
      have hlk := lookN HT2.out.drew.mn HN.out HSS.out
      obtain ⟨y, hy⟩ : ∃ y, (nw (hasN f1) b ((f1, f2) :: L)).getD 0 = y := ⟨_, rfl⟩
      rw [hy] at hlk
      have HY := Bx.mk hy
      clear hy HX
      by_cases hyb : y = b
      case' pos =>
        have hyb2 : b = y := hyb.symm
        subst hyb2
        go_wp2_with fail
        go_region
        go_wp2_with fail
        go_region_held_law (fun W => W.cell? ⟨p, 2, none⟩ = some (.map (some bn)) ∧ W.cell? ⟨G, 0, none⟩ = some (.string f1)) (first | assumption | exact ⟨d2, e1⟩) ((refine step_delete_own rfl rfl (.tmp 37) (.tmp 39) 67 9 rfl 27 stLaw Try.underlying67 _ bn nb Dn rfl HT2.out.drew.drew.mn _ _ rfl (keyOf_st f1 HSS.out) ?_; intro w3 hown3 hturn3; have HT3 := Bx.mk (HT2.out.drew.drew.turnN hturn3.grown hown3); have HF3 := Bx.mk ((HF2.out.keep (below_drewN (Below.refl _ _) 2)).grown hturn3.grown (fun e => HGN.out.2.2.1 (Option.some.inj e))); have hS3 : w3.cell? ⟨p, 2, none⟩ = some (.map (some bn)) ∧ w3.cell? ⟨G, 0, none⟩ = some (.string f1) := ⟨HT3.out.cells.2.2.1, HF3.out.cells.1⟩))
        go_wp2_with fail
        have HP3 : Bx (Fp (Own p bw bn v) w w3) := ⟨HP2.out.then ((Fp.of_below (below_drewN (Below.refl _ _) 2)).then (Fp.of_grown hturn3.grown (fun k e => .inr (.inr (.inl (Option.some.inj e).symm)))))⟩
        have HN3 : Bx (Mp ks Short Prod.fst (b + 1) L (Dn.del (ks f1))) := ⟨HN.out.last ks_inj HSS.out HY.out⟩
        generalize Dn.del (ks f1) = Dn2 at HN3 HT3
        clear hown3 hturn3 hlk d0 d1 d2 d3 d4 d5 e1 e2 hS3 hyb
      case' neg =>
        have hyb' : ((y : Int) == (b : Int)) = false := by simp; omega
        go_wp2_with fail
        go_region
        go_wp2_with fail
        have HN3 := Bx.mk (HN.out.more (by rw [show (nw (fun g => decide (Prod.fst g = Prod.fst (f1, f2))) b ((f1, f2) :: L)).getD 0 = y from HY.out]; exact hyb))
        have HT3 := Bx.mk HT2.out.drew
        have HF3 := Bx.mk (HF2.out.keep (Below.refl _ _).drew)
        have HP3 : Bx (Fp (Own p bw bn v) w w2.drew) := ⟨HP2.out.then (Fp.of_below (Below.refl _ _).drew)⟩
        generalize w2.drew = w3 at *
        clear hlk d0 d1 d2 d3 d4 d5 e1 e2
        obtain ⟨Dn2, hDn2⟩ : ∃ Dn2, Dn = Dn2 := ⟨_, rfl⟩
        rw [hDn2] at HN3 HT3
        clear hyb hyb' hDn2
      all_goals
        have hw5 : IntKind.i64.wrap ((sizeF ((f1, f2) :: L) : Int) - (n1 : Int)) = (sizeF L : Int) := by
          have h1 := HSZ.out
          have h2 := HSS2.out
          have h3 := HN1.out
          rw [h1]
          simp [IntKind.wrap, IntKind.signed, IntKind.bits]; omega
        go_upto_region 5 with fail
        go_cut [3] from 40 to 49 (fun s3 wx => s3 = .pointer (some ⟨G, 0, none⟩) ∧ Bx (Tr wx p v bw bn (sizeF L) cp ct na nb ((f1, f2) :: L) Dw2 Dn2) ∧ Bx (Fp (Own p bw bn v) w wx))
        case first =>
          obtain ⟨d0, d1, d2, d3, d4, d5⟩ := HT3.out.drew.cells
          obtain ⟨e1, e2⟩ := (HF3.out.keep (Below.refl _ _).drew).cells
          have hd3 := (HT3.out.alloc (.cells #[.string f1, .string f2] 56)).drew.cells.2.2.2.1
          go_region_law (first
            | (go_simp; go_at_call 86; refine (HSZC.out _ _ (Fs.one w3.drew _ rfl (f1, f2))).mono ?_; rintro e w4 ⟨rfl, hb4⟩; have HT4 := Bx.mk ((HT3.out.drew.alloc _).keep hb4); obtain ⟨k0, k1, k2, k3, k4, k5⟩ := HT4.out.cells; have kf3 := HT4.out.free 3; have hB4 : Below w3.heap.size w3 w4 := (((Below.refl w3.heap.size w3).drew.alloc (Nat.le_refl _) _)).trans (hb4.mono (by simp))))
          all_goals go_wp2_with fail
          all_goals go_meet
          all_goals exact ⟨rfl, ⟨HT4.out.setSz (sizeF L)⟩, ⟨HP3.out.then ((Fp.of_below hB4).then (Fp.set _ _ _ _ (.inl rfl)))⟩⟩
        case rest =>
          clear HT1 HF1 HP1 HT2 HF2 HP2 HT3 HF3 HP3
          obtain ⟨rfl, HT5, HP5⟩ := hcut
          obtain ⟨d0, d1, d2, d3, d4, d5⟩ := HT5.out.cells
          obtain ⟨q1, q2, q3, q4⟩ := HCS.out _ HT5.out.st
          have hsl0 := HSL.out .i64
          have HT6 := Bx.mk (HT5.out.slice (by rw [HVO.out]; exact grown_trans (grown_set _ g o (.string ⟨#[]⟩)) (grown_set _ g (o + 1) (.string ⟨#[]⟩))) (HZ.out _ HT5.out.st))
          have HP6 := Bx.mk (HP5.out.then (Fp.of_grown (grown_trans (grown_set _ g o (.string ⟨#[]⟩)) (grown_set _ g (o + 1) (.string ⟨#[]⟩))) (fun k e => .inr (.inr (.inr (by rw [HVO.out]; exact e))))))
          obtain ⟨m0, m1, m2, m3, m4, m5⟩ := HT6.out.cells
          have mf0 := HT6.out.free 0
          go_wp2
          go_end0
          exact ⟨rfl, _, Dw2, Dn2, HT6.out.setV (HTL.out _ emp HT6.out.st) (fun k hk => HT6.out.nv k (by rw [HVO.out, ← HVO'.out]; exact hk)), by rw [HVO.out, HVO'.out], HW2.out, HN3.out, HP6.out.then (Fp.set _ _ _ _ (.inl rfl))⟩

end Go.Proofs.Yteopmaaghhendaa

/-
  Contract of the table's enter.
-/
namespace Go.Proofs.Yteopmaaghhendaa
open Go.RowKit Go.Maps
set_option linter.unusedVariables false

theorem Tr.cellGrew {w w' : World} {p : Nat} {v : Value} {bw bn sz cp ct na nb : Nat} {L : List Fd} {Dw Dn : DataW Unit} (h : Tr w p v bw bn sz cp ct na nb L Dw Dn) (hg : w.grownBy w' v.ownBlock) :
    w'.cell? ⟨p, 0, none⟩ = some v ∧ w'.frozen? ⟨p, 0, none⟩ = false := by
  have hr := h.row.of_block (hg.block p h.row.lt (fun e => (h.nv p e.symm).1 rfl))
  exact ⟨hr.cell (by omega), hr.frozen 0⟩

set_option maxRecDepth 100000 in
set_option maxHeartbeats 1000000 in
theorem enter_any {w : World} {p : Nat} {v : Value} {bw bn cp ct na nb b : Nat} {f : Fd} {L : List Fd} {Dw Dn : DataW Unit} (h : Tr w p v bw bn (sizeF L) cp ct na nb L Dw Dn)
    (hw : Mp kf Sized id b L Dw) (hn : Mp ks Short Prod.fst b L Dn) (hb : b + L.length = ct) (ht : ct ≤ 1000000) (hs : sizeF L + (fsz f + 32) ≤ 1000000) (hna : na ≤ 1000000) (hnb : nb ≤ 1000000) :
    Calls Try.prog 88 #[.pointer (some ⟨p, 0, none⟩), .agg #[.string f.1, .string f.2]] w fun e w' => e = .returned (.tuple #[]) ∧ ∃ v' Dw' Dn', Tr w' p v' bw bn (sizeF (L ++ [f])) cp (ct + 1) (na + 1) (nb + 1) (L ++ [f]) Dw' Dn' ∧
      (v'.ownBlock = v.ownBlock ∨ ∃ g, v'.ownBlock = some g ∧ w.heap.size ≤ g) ∧ Mp kf Sized id b (L ++ [f]) Dw' ∧ Mp ks Short Prod.fst b (L ++ [f]) Dn' ∧ Fp (Own p bw bn v) w w' := by
  obtain ⟨f1, f2⟩ := f
  have HT := Bx.mk h
  have HW := Bx.mk hw
  have HN := Bx.mk hn
  unfold fsz at hs
  simp only at hs
  have HSF : Bx (Sized (f1, f2)) := ⟨by unfold Sized maxLen; simp only; omega⟩
  have HSS : Bx (Short f1) := ⟨HSF.out.1⟩
  obtain ⟨n1, hn1⟩ : ∃ n1, f1.size + f2.size + 32 = n1 := ⟨_, rfl⟩
  have HSZC : Bx (∀ W u, Fs W u [(f1, f2)] → Calls Try.prog 86 #[u] W fun e w' => e = .returned (.int .i64 (n1 : Int)) ∧ Below W.heap.size W w') := ⟨fun W u hu => hn1 ▸ size_any u [(f1, f2)] W hu (by simp only [sizeF, fsz]; omega)⟩
  have hsz : sizeF (L ++ [(f1, f2)]) = sizeF L + n1 := by rw [sizeF_append, ← hn1]; simp [sizeF, fsz]
  have HL : Bx (L.length ≤ 1000000) := ⟨by omega⟩
  have HSS2 : Bx (sizeF L + n1 ≤ 1000000) := ⟨by omega⟩
  have HC1 : Bx (f1.size ≤ 1000000) := ⟨by omega⟩
  have HC2 : Bx (f2.size ≤ 1000000) := ⟨by omega⟩
  have HB := Bx.mk hb
  have HTT := Bx.mk ht
  have HNA := Bx.mk hna
  have HNB := Bx.mk hnb
  rw [hsz]
  have HSZ := Bx.mk hsz
  have HF0 := Bx.mk (Fb.new 56 w (f1, f2))
  clear h hw hn hb ht hs hsz hn1 hna hnb
  go_enter Try.func88, Try.ntmps88
  go_upto_region 1 with fail
  obtain ⟨e1, e2⟩ := HF0.out.cells
  go_cut [3] from 4 to 10 (fun s3 wx => s3 = .pointer (some ⟨w.heap.size, 0, none⟩) ∧ Bx (Fb 56 wx w.heap.size (f1, f2)) ∧ Bx (Below w.heap.size w wx))
  case first =>
    go_region_held (fun W => W.cell? ⟨w.heap.size, 0, none⟩ = some (.string f1) ∧ W.cell? ⟨w.heap.size, 1, none⟩ = some (.string f2)) (first | assumption | exact (HF0.out.keep (Below.refl _ _).drew).cells) (first
      | (go_at_call 100; refine (clone_any f1 _ HC1.out).mono ?_; rintro e w2 ⟨rfl, hb2⟩; have HF2 := Bx.mk ((HF0.out.keep (Below.refl _ _).drew).keep hb2); have hS2 := HF2.out.cells)
      | (go_at_call 100; refine (clone_any f2 _ HC2.out).mono ?_; rintro e w3 ⟨rfl, hb3⟩; have HF3 := Bx.mk (HF2.out.keep hb3); have hS3 := HF3.out.cells; have HF4 := Bx.mk (HF3.out.set2 f1 f2); have hS4 := HF4.out.cells; obtain ⟨kf1, kf2⟩ := HF3.out.free))
    all_goals go_wp2_with fail
    all_goals go_meet
    all_goals
      have hB2 : Below w.heap.size w w2 := (((Below.refl w.heap.size w).alloc (Nat.le_refl _) _).drew).trans (hb2.mono (by simp))
      have hB3 : Below w.heap.size w w3 := hB2.trans (hb3.mono hB2.size)
      exact ⟨rfl, HF4, ⟨below_set2 hB3 _ (Nat.le_refl _) _ _⟩⟩
  case rest =>
    obtain ⟨rfl, HF1, HB1⟩ := hcut
    have HT1 := Bx.mk (HT.out.keep HB1.out)
    have HP1 : Bx (Fp (Own p bw bn v) w wc) := ⟨Fp.of_below HB1.out⟩
    have HLT := Bx.mk HB1.out.size
    have HGN : Bx (w.heap.size ≠ p ∧ w.heap.size ≠ bw ∧ w.heap.size ≠ bn ∧ v.ownBlock ≠ some w.heap.size) := ⟨by
      have h1 := HT.out.row.lt
      have h2 := HT.out.mw.lt
      have h3 := HT.out.mn.lt
      exact ⟨by omega, by omega, by omega, fun e => by have := HT.out.st.lt e; omega⟩⟩
    clear HB1 HF0 e1 e2
    obtain ⟨G, hG⟩ : ∃ G, w.heap.size = G := ⟨_, rfl⟩
    rw [hG] at HF1 HGN HLT ⊢
    go_upto_region 2 with fail
    have HT2 := Bx.mk (HT1.out.drew.alloc (.cells #[.string f1, .string f2] 56))
    obtain ⟨v', w3, hrun, hst, hgr, hown, _⟩ := HT2.out.st.append (Fs.one wc.drew _ rfl (f1, f2)) HL.out 38
    obtain ⟨av, nv, cv, rfl⟩ := hst.shape
    obtain ⟨k0, kf0⟩ := HT2.out.cellGrew hgr
    go_cut [3] from 11 to 20 (fun s3 wx => s3 = .pointer (some ⟨G, 0, none⟩) ∧ wx = w3.setCell ⟨p, 0, none⟩ (.slice av nv cv))
    case first =>
      obtain ⟨d0, d1, d2, d3, d4, d5⟩ := HT1.out.drew.cells
      have hd0 : (wc.alloc (.cells #[.string f1, .string f2] 56)).drew.cell? ⟨p, 0, none⟩ = some v := HT2.out.cells.1
      obtain ⟨e1, e2⟩ := (HF1.out.keep (Below.refl _ _).drew).cells
      go_region_law (refine step_append_run rfl (.tmp 15) (.tmp 17) 38 rfl v _ rfl rfl hrun ?_)
      all_goals go_wp2_with fail
      all_goals go_meet
      all_goals exact ⟨rfl, rfl⟩
    case rest =>
      obtain ⟨rfl, rfl⟩ := hcut
      have HT4 := Bx.mk (HT2.out.grew hgr hst hown)
      have hB2 : Below wc.heap.size wc (wc.drew.alloc (.cells #[.string f1, .string f2] 56)) := (Below.refl wc.heap.size wc).drew.alloc (Nat.le_refl _) _
      have hfp : Fp (Own p bw bn v) (wc.drew.alloc (.cells #[.string f1, .string f2] 56)) w3 := Fp.of_grown hgr (fun k e => .inr (.inr (.inr e)))
      have HP4 : Bx (Fp (Own p bw bn v) w (w3.setCell ⟨p, 0, none⟩ (.slice av nv cv))) := ⟨HP1.out.then ((Fp.of_below hB2).then (hfp.then (Fp.set _ _ _ _ (.inl rfl))))⟩
      have HF4 : Bx (Fb 56 (w3.setCell ⟨p, 0, none⟩ (.slice av nv cv)) G (f1, f2)) := ⟨((HF1.out.keep hB2).grown hgr (fun e => HGN.out.2.2.2 e.symm)).grown (grown_set _ p 0 _) (fun e => HGN.out.1 (Option.some.inj e))⟩
      have HOW : Bx ((Value.slice av nv cv).ownBlock = v.ownBlock ∨ ∃ g, (Value.slice av nv cv).ownBlock = some g ∧ G ≤ g) := ⟨hown.imp id fun ⟨g, h1, h2⟩ => ⟨g, h1, Nat.le_trans HLT.out (Nat.le_trans (by simp) h2)⟩⟩
      generalize (w3.setCell ⟨p, 0, none⟩ (.slice av nv cv)) = w4 at *
      clear hrun hst hgr hown k0 kf0 hB2 hfp HT1 HF1 HP1 HT2
      obtain ⟨d0, d1, d2, d3, d4, d5⟩ := HT4.out.drew.cells
      obtain ⟨e1, e2⟩ := (HF4.out.keep (Below.refl _ _).drew).cells
      obtain ⟨w5, hrun5, ho5, hg5⟩ := HT4.out.drew.mw.update fdLaw Try.underlying66 (by have := HNA.out; unfold maxLen; omega) (keyOf_fd (f1, f2) HSF.out) (plainElem_int (H := Unit) (a := (ct : Int)) Try.underlying27 (WalkArith.wf_u64 (by have := HTT.out; omega)))
      go_wp2_with fail
      go_region
      go_wp2_with fail
      have HT5 := Bx.mk (HT4.out.drew.turnW hg5 ho5)
      have HF5 := Bx.mk ((HF4.out.keep (Below.refl _ _).drew).grown hg5 (fun e => HGN.out.2.1 (Option.some.inj e)))
      have HP5 : Bx (Fp (Own p bw bn v) w w5) := ⟨HP4.out.then ((Fp.of_below (Below.refl _ _).drew).then (Fp.of_grown hg5 (fun k e => .inr (.inl (Option.some.inj e).symm))))⟩
      have HW5 : Bx (Mp kf Sized id b (L ++ [(f1, f2)]) (Dw.put (kf (f1, f2)) (.lit (.int .u64 (ct : Int))))) := ⟨HW.out.put kf_inj kf_key HSF.out HB.out.symm⟩
      generalize Dw.put (kf (f1, f2)) (.lit (.int .u64 (ct : Int))) = Dw5 at HT5 HW5
      clear hrun5 ho5 hg5 d0 d1 d2 d3 d4 d5 e1 e2 HT4 HF4 HP4
      obtain ⟨d0, d1, d2, d3, d4, d5⟩ := HT5.out.drew.cells
      obtain ⟨e1, e2⟩ := (HF5.out.keep (Below.refl _ _).drew).cells
      obtain ⟨w6, hrun6, ho6, hg6⟩ := HT5.out.drew.mn.update stLaw Try.underlying67 (by have := HNB.out; unfold maxLen; omega) (keyOf_st f1 HSS.out) (plainElem_int (H := Unit) (a := (ct : Int)) Try.underlying27 (WalkArith.wf_u64 (by have := HTT.out; omega)))
      go_region
      go_wp2_with fail
      have HT6 := Bx.mk (HT5.out.drew.turnN hg6 ho6)
      have HF6 := Bx.mk ((HF5.out.keep (Below.refl _ _).drew).grown hg6 (fun e => HGN.out.2.2.1 (Option.some.inj e)))
      have HP6 : Bx (Fp (Own p bw bn v) w w6) := ⟨HP5.out.then ((Fp.of_below (Below.refl _ _).drew).then (Fp.of_grown hg6 (fun k e => .inr (.inr (.inl (Option.some.inj e).symm)))))⟩
      have HN6 : Bx (Mp ks Short Prod.fst b (L ++ [(f1, f2)]) (Dn.put (ks f1) (.lit (.int .u64 (ct : Int))))) := ⟨HN.out.put (f := (f1, f2)) ks_inj ks_key HSS.out HB.out.symm⟩
      generalize Dn.put (ks f1) (.lit (.int .u64 (ct : Int))) = Dn6 at HT6 HN6
      clear hrun6 ho6 hg6 d0 d1 d2 d3 d4 d5 e1 e2 HT5 HF5 HP5
      have hw5 : IntKind.i64.wrap ((sizeF L : Int) + (n1 : Int)) = ((sizeF L + n1 : Nat) : Int) := by
        have h2 := HSS2.out
        simp [IntKind.wrap, IntKind.signed, IntKind.bits]; omega
      go_upto_region 5 with fail
      go_cut [3] from 40 to 49 (fun s3 wx => s3 = .pointer (some ⟨G, 0, none⟩) ∧ Bx (Tr wx p (.slice av nv cv) bw bn (sizeF L + n1) cp ct (na + 1) (nb + 1) (L ++ [(f1, f2)]) Dw5 Dn6) ∧ Bx (Fp (Own p bw bn v) w wx))
      case first =>
        obtain ⟨d0, d1, d2, d3, d4, d5⟩ := HT6.out.drew.cells
        obtain ⟨e1, e2⟩ := (HF6.out.keep (Below.refl _ _).drew).cells
        have hd3 := (HT6.out.alloc (.cells #[.string f1, .string f2] 56)).drew.cells.2.2.2.1
        go_region_law (first
          | (go_simp; go_at_call 86; refine (HSZC.out _ _ (Fs.one w6.drew _ rfl (f1, f2))).mono ?_; rintro e w7 ⟨rfl, hb7⟩; have HT7 := Bx.mk ((HT6.out.drew.alloc _).keep hb7); obtain ⟨k0, k1, k2, k3, k4, k5⟩ := HT7.out.cells; have kf3 := HT7.out.free 3; have hB7 : Below w6.heap.size w6 w7 := (((Below.refl w6.heap.size w6).drew.alloc (Nat.le_refl _) _)).trans (hb7.mono (by simp))))
        all_goals go_wp2_with fail
        all_goals go_meet
        all_goals exact ⟨rfl, ⟨HT7.out.setSz (sizeF L + n1)⟩, ⟨HP6.out.then ((Fp.of_below hB7).then (Fp.set _ _ _ _ (.inl rfl)))⟩⟩
      case rest =>
        obtain ⟨rfl, HT8, HP8⟩ := hcut
        obtain ⟨d0, d1, d2, d3, d4, d5⟩ := HT8.out.cells
        have kf5 := HT8.out.free 5
        have hw6 : IntKind.u64.wrap ((ct : Int) + 1) = ((ct + 1 : Nat) : Int) := by
          have := HTT.out
          simp [IntKind.wrap, IntKind.signed, IntKind.bits]; omega
        go_wp2
        go_end0
        exact ⟨rfl, _, Dw5, Dn6, HT8.out.setCt (ct + 1), by rw [hG]; exact HOW.out, HW5.out, HN6.out, HP8.out.then (Fp.set _ _ _ _ (.inl rfl))⟩

end Go.Proofs.Yteopmaaghhendaa

/-
  Contracts of the table's shrink, and of drop and enter as turns of the table.
-/
namespace Go.Proofs.Yteopmaaghhendaa
open Go.RowKit Go.Maps
set_option linter.unusedVariables false

theorem Fp.mono {S S' : Nat → Prop} {w w' : World} (h : Fp S w w') (hs : ∀ k, S k → S' k) : Fp S' w w' := ⟨h.os, h.tape, h.output, h.size, fun k hk hn => h.block k hk fun hk => hn (hs k hk)⟩

theorem Turn.step {Y : World → (Nat → Prop) → Prop} {S S1 : Nat → Prop} {a b c : World} (s1 : ∀ k, S1 k → S k ∨ a.heap.size ≤ k) (f1 : Fp S a b) (ht : Turn Y S1 b c) : Turn Y S a c := by
  obtain ⟨S2, y2, s2, f2⟩ := ht
  refine ⟨S2, y2, fun i hi => ?_, f1.trans f2 s1⟩
  rcases s2 i hi with h | h
  · exact s1 i h
  · exact .inr (Nat.le_trans f1.size h)

theorem drop_turn {p : Nat} {T : Tab} {w : World} {S : Nat → Prop} {f : Fd} {l : List Fd} (h : Tb p T w S) (hl : T.l = f :: l) :
    Calls Try.prog 99 #[.pointer (some ⟨p, 0, none⟩)] w fun e w' => e = .returned (.tuple #[]) ∧ Turn (Tb p ⟨l, T.cap, T.tot⟩) S w w' := by
  obtain ⟨v, bw, bn, Dw, Dn, h1, h2, h3, h4, h5, h6⟩ := h
  obtain ⟨L, cap, tot⟩ := T
  simp only at hl
  subst hl
  have hlen := h6.len
  simp only [List.length_cons] at hlen
  have hfi : Tab.first ⟨f :: l, cap, tot⟩ = tot - (l.length + 1) := rfl
  rw [hfi] at h2 h3
  refine (drop_any h1 h2 h3 (by show tot - (l.length + 1) + (l.length + 1) = tot; omega) h6.tot h6.size).mono ?_
  rintro e w' ⟨rfl, v', Dw', Dn', t1, t2, t3, t4, t5⟩
  have hs : sizeF (f :: l) = fsz f + 32 + sizeF l := rfl
  have hsz := h6.size
  have hcap := h6.cap
  have htot := h6.tot
  simp only at hsz hcap htot
  have hfi2 : Tab.first ⟨l, cap, tot⟩ = tot - (l.length + 1) + 1 := by show tot - l.length = _; omega
  refine ⟨rfl, S, ⟨v', bw, bn, Dw', Dn', t1, ?_, ?_, ⟨h4.1, h4.2.1, h4.2.2.1, fun k hk => h4.2.2.2 k (t2 ▸ hk)⟩, fun k hk => Nat.lt_of_lt_of_le (h5 k hk) t5.size, ⟨by show l.length ≤ tot; omega, by show sizeF l ≤ _; omega, hcap, htot⟩⟩, fun k hk => .inl hk, t5.mono ?_⟩
  · rw [hfi2]; exact t3
  · rw [hfi2]; exact t4
  · rintro k (rfl | rfl | rfl | hk)
    · exact h4.1
    · exact h4.2.1
    · exact h4.2.2.1
    · exact h4.2.2.2 k hk

theorem enter_turn {p : Nat} {T : Tab} {w : World} {S : Nat → Prop} {f : Fd} (h : Tb p T w S) (ht : T.tot + 1 ≤ 1000000) (hs : sizeF T.l + (fsz f + 32) ≤ 1000000) :
    Calls Try.prog 88 #[.pointer (some ⟨p, 0, none⟩), .agg #[.string f.1, .string f.2]] w fun e w' => e = .returned (.tuple #[]) ∧ Turn (Tb p ⟨T.l ++ [f], T.cap, T.tot + 1⟩) S w w' := by
  obtain ⟨v, bw, bn, Dw, Dn, h1, h2, h3, h4, h5, h6⟩ := h
  have hlen := h6.len
  refine (enter_any h1 h2 h3 (show T.tot - T.l.length + T.l.length = T.tot by omega) h6.tot hs h6.tot h6.tot).mono ?_
  rintro e w' ⟨rfl, v', Dw', Dn', t1, t2, t3, t4, t5⟩
  have hfi2 : Tab.first ⟨T.l ++ [f], T.cap, T.tot + 1⟩ = T.first := by show T.tot + 1 - (T.l ++ [f]).length = T.tot - T.l.length; rw [List.length_append, List.length_singleton]; omega
  refine ⟨rfl, fun k => S k ∨ (w.heap.size ≤ k ∧ k < w'.heap.size), ⟨v', bw, bn, Dw', Dn', t1, ?_, ?_, ⟨.inl h4.1, .inl h4.2.1, .inl h4.2.2.1, fun k hk => ?_⟩, ?_, ⟨?_, ?_, h6.cap, ht⟩⟩, ?_, t5.mono ?_⟩
  · rw [hfi2]; exact t3
  · rw [hfi2]; exact t4
  · rcases t2 with e | ⟨g, e, hg⟩
    · exact .inl (h4.2.2.2 k (e ▸ hk))
    · have := t1.st.lt hk
      rw [e] at hk
      injection hk with hk
      subst hk
      exact .inr ⟨hg, this⟩
  · rintro k (hk | hk)
    · exact Nat.lt_of_lt_of_le (h5 k hk) t5.size
    · exact hk.2
  · show (T.l ++ [f]).length ≤ T.tot + 1
    rw [List.length_append, List.length_singleton]; omega
  · show sizeF (T.l ++ [f]) ≤ _
    rw [sizeF_append]
    simp only [sizeF]
    omega
  · rintro k (hk | hk)
    · exact .inl hk
    · exact .inr hk.1
  · rintro k (rfl | rfl | rfl | hk)
    · exact h4.1
    · exact h4.2.1
    · exact h4.2.2.1
    · exact h4.2.2.2 k hk

set_option maxRecDepth 100000 in
set_option maxHeartbeats 1000000 in
theorem shrink_any {p : Nat} {T : Tab} {w : World} {S : Nat → Prop} (h : Tb p T w S) (room : Int) :
    Calls Try.prog 87 #[.pointer (some ⟨p, 0, none⟩), .int .i64 room] w fun e w' => e = .returned (.int .i64 (T.went room : Int)) ∧ Turn (Tb p ⟨fits room T.l, T.cap, T.tot⟩) S w w' := by
  have HT := Bx.mk h
  obtain ⟨L0, cap, tot⟩ := T
  have HLEN : Bx (L0.length ≤ 31250) := ⟨h.ok.short⟩
  obtain ⟨R, hR⟩ : ∃ R, Tab.went ⟨L0, cap, tot⟩ room = R := ⟨_, rfl⟩
  rw [hR]
  have HR : Bx (L0.length - (fits room L0).length = R) := ⟨hR⟩
  clear h hR
  go_enter Try.func87, Try.ntmps87
  go_wp2
  go_loopg [5] L0.length (fun g s5 wx => ∃ (k : Nat) (L : List Fd), k + L.length = L0.length ∧ L.length = g ∧ s5 = .int .i64 k ∧ Bx (fits room L = fits room L0) ∧ Bx (Turn (Tb p ⟨L, cap, tot⟩) S w wx))
  case atStart => exact ⟨0, L0, by omega, rfl, rfl, ⟨rfl⟩, ⟨Turn.refl HT.out (Below.refl _ _)⟩⟩
  case round =>
    obtain ⟨k, L, hk, hg, rfl, HFI, HTU⟩ := hrel
    obtain ⟨S1, hX, hs1, hf1⟩ := HTU.out
    have HX := Bx.mk hX
    have HS1 := Bx.mk hs1
    have HF1 := Bx.mk hf1
    obtain ⟨v, bw, bn, Dw, Dn, h1, _⟩ := hX
    obtain ⟨d0, d1, d2, d3, d4, d5⟩ := h1.cells
    have hlen := fun ty W => h1.st.fs.run_len ty W
    clear h1 hs1 hf1
    simp only at d0 d1 d2 d3 d4 d5 hlen
    obtain ⟨m, hm⟩ : ∃ m, L.length = m := ⟨_, rfl⟩
    rw [hm] at hlen
    have HM := Bx.mk hm
    clear hm
    by_cases hgo : room < (sizeF L : Int) ∧ L ≠ []
    · obtain ⟨hgt, hne⟩ := hgo
      obtain ⟨f, l, rfl⟩ : ∃ f l, L = f :: l := List.exists_cons_of_ne_nil hne
      have HGO := Bx.mk (fits_cons_go hgt)
      have hd1 : decide (room < (sizeF (f :: l) : Int)) = true := by simpa using hgt
      have hm0 : 0 < m := by have := HM.out; simp only [List.length_cons] at this; omega
      have hd2 : decide ((0 : Int) < (m : Int)) = true := decide_eq_true (by omega)
      have hd3 : decide (0 < m) = true := decide_eq_true hm0
      clear hgt hne
      go_wp2_with fail
      refine (drop_turn HX.out rfl).mono ?_
      rintro e w2 ⟨rfl, ht⟩
      have HT2 : Bx (Turn (Tb p ⟨l, cap, tot⟩) S w w2) := ⟨Turn.step HS1.out HF1.out ht⟩
      obtain ⟨g', rfl⟩ : ∃ g', gk = g' + 1 := ⟨l.length, by rw [← hg]; rfl⟩
      have hkk : k ≤ 31250 := by have := HLEN.out; omega
      clear ht hd1 hd2 hd3 hm0 hlen d0 d1 d2 d3 d4 d5
      go_wp2
      go_roundg g'
      case measure => omega
      case rel => exact ⟨k + 1, l, by simp only [List.length_cons] at hk; omega, by simp only [List.length_cons] at hg; omega, by go_num, ⟨by rw [← HGO.out]; exact HFI.out⟩, HT2⟩
    · have hfin : fits room L = L := by
        cases L with
        | nil => rfl
        | cons f l => exact fits_all (by have : ¬ room < (sizeF (f :: l) : Int) := fun h => hgo ⟨h, by simp⟩; omega)
      have HFI2 : Bx (L = fits room L0) := ⟨by rw [← hfin]; exact HFI.out⟩
      have HKR : Bx (k = R) := ⟨by have := HR.out; rw [← HFI2.out] at this; omega⟩
      rw [HFI2.out] at HTU
      by_cases hr : room < (sizeF L : Int)
      case' pos =>
        have hL : L = [] := Classical.byContradiction fun hne => hgo ⟨hr, hne⟩
        have hd1 : decide (room < (sizeF L : Int)) = true := decide_eq_true hr
        have hm0 : m = 0 := by have := HM.out; rw [hL] at this; exact this.symm
        have hd2 : decide ((0 : Int) < (m : Int)) = false := decide_eq_false (by omega)
        have hd3 : decide (0 < m) = false := decide_eq_false (by omega)
        clear hm0
        clear hr hL hgo hfin
      case' neg =>
        have hd1 : decide (room < (sizeF L : Int)) = false := decide_eq_false hr
        clear hr hgo hfin
      all_goals
        go_wp2_with fail
        go_ret
        exact ⟨by have := HKR.out; subst this; rfl, HTU.out⟩

end Go.Proofs.Yteopmaaghhendaa

/-
  Contracts of the table's New, Resize, Add.
-/
namespace Go.Proofs.Yteopmaaghhendaa
open Go.RowKit Go.Maps
set_option linter.unusedVariables false
set_option linter.unusedSimpArgs false

theorem Rn.keepB {k : Nat} {w w' : World} {v : Value} {n : Nat} {xs : List Value} (h : Rn k w v n xs) (hb : ∀ g, v.ownBlock = some g → w'.heap[g]? = w.heap[g]?) : Rn k w' v n xs := by
  obtain ⟨A, c, rfl, h1, h2, hl, h3⟩ := h
  refine ⟨A, c, rfl, h1, h2, hl, h3.imp id ?_⟩
  rintro ⟨x, rfl, hc⟩
  refine ⟨x, rfl, fun j u hu => ?_⟩
  rw [World.cell?_of_block (w := w) (by
    have : (x.add j).block = x.block := by unfold Addr.add; split <;> rfl
    rw [this]
    exact hb x.block rfl)]
  exact hc j u hu
theorem Fs.besides {S : Nat → Prop} {w w' : World} {v : Value} {l : List Fd} (h : Fs w v l) (hf : Fp S w w') (hs : ∀ g, v.ownBlock = some g → g < w.heap.size ∧ ¬ S g) : Fs w' v l :=
  Rn.keepB h fun g hg => hf.block g (hs g hg).1 (hs g hg).2
theorem Fb.besides {S : Nat → Prop} {t : TypeId} {w w' : World} {g : Nat} {f : Fd} (h : Fb t w g f) (hf : Fp S w w') (hs : ¬ S g) : Fb t w' g f := by
  unfold Fb; rw [hf.block g h.lt hs]; exact h
theorem Tb.cells {p : Nat} {T : Tab} {w : World} {S : Nat → Prop} (h : Tb p T w S) : w.cell? ⟨p, 4, none⟩ = some (.int .i64 (T.cap : Int)) ∧ w.frozen? ⟨p, 4, none⟩ = false := by
  obtain ⟨v, bw, bn, Dw, Dn, h1, _⟩ := h
  exact ⟨h1.cells.2.2.2.2.1, h1.free 4⟩
theorem Tb.setCap {p : Nat} {T : Tab} {w : World} {S : Nat → Prop} (h : Tb p T w S) (n : Nat) (hn : n ≤ 1000000) : Turn (Tb p ⟨T.l, n, T.tot⟩) S w (w.setCell ⟨p, 4, none⟩ (.int .i64 (n : Int))) := by
  obtain ⟨v, bw, bn, Dw, Dn, h1, h2, h3, h4, h5, h6⟩ := h
  exact ⟨S, ⟨v, bw, bn, Dw, Dn, h1.setCp n, h2, h3, h4, fun k hk => by simp [World.setCell]; exact h5 k hk, ⟨h6.len, h6.size, hn, h6.tot⟩⟩, fun k hk => .inl hk, Fp.set _ _ _ _ h4.1⟩

def Tab.adds : Tab → List Fd → Tab
  | T, [] => T
  | T, f :: l => (T.add f).adds l
def Tab.wents : Tab → List Fd → Nat
  | T, [] => 0
  | T, f :: l => T.went (T.room f) + (T.add f).wents l
theorem Tab.went_le {T : Tab} (h : T.ok) (r : Int) : T.went r ≤ 31250 := by have := h.short; unfold Tab.went; omega

set_option maxRecDepth 100000 in
set_option maxHeartbeats 1000000 in
theorem new_any (n : Int) (w : World) (hn : n ≤ 1000000) :
    Calls Try.prog 25 #[.int .i64 n] w fun e w' => ∃ p S, e = .returned (.pointer (some ⟨p, 0, none⟩)) ∧ Tb p (Tab.new n) w' S ∧ (∀ k, S k → w.heap.size ≤ k) ∧ Below w.heap.size w w' := by
  have hmw : ∀ (W : World), (Instr.makeMap 66 none).run Try.prog W = .ok (.map (some W.heap.size)) (W.alloc (.map #[] 0)) := fun W => by
    simp [Instr.makeMap, run_underlying Try.underlying66, Sem.run_bind, asInt, asIntOf, Result.andThen]
  have hmn : ∀ (W : World), (Instr.makeMap 67 none).run Try.prog W = .ok (.map (some W.heap.size)) (W.alloc (.map #[] 0)) := fun W => by
    simp [Instr.makeMap, run_underlying Try.underlying67, Sem.run_bind, asInt, asIntOf, Result.andThen]
  have HN := Bx.mk hn
  clear hn
  go_enter Try.func25, Try.ntmps25
  go_wp2
  go_ret
  have hmx : max n 0 = ((n.toNat : Nat) : Int) := by omega
  rw [hmx]
  generalize hw1 : (w.alloc (.map #[] 0)).alloc (.map #[] 0) = w1
  have hsz : w1.heap.size = w.heap.size + 1 + 1 := by rw [← hw1]; simp
  have hB1 : Below w.heap.size w w1 := by rw [← hw1]; exact ((Below.refl w.heap.size w).alloc (Nat.le_refl _) _).alloc (by simp) _
  have ho1 : w1.ownsMap Try.prog 56 (plainElem Try.prog 27) w.heap.size 0 (.map [] : DataW Unit) := by rw [← hw1]; exact (World.ownsMap_made w _ _ _).alloc _
  have ho2 : w1.ownsMap Try.prog 9 (plainElem Try.prog 27) (w.heap.size + 1) 0 (.map [] : DataW Unit) := by
    have := World.ownsMap_made (H := Unit) (w.alloc (.map #[] 0)) Try.prog 9 (plainElem Try.prog 27)
    rw [← hw1]
    simpa using this
  have hrow := World.rowIs_alloc w1 #[.slice none 0 0, .map (some w.heap.size), .map (some (w.heap.size + 1)), .int .i64 0, .int .i64 (n.toNat : Int), .int .u64 0] 69 (tF (.slice none 0 0) w.heap.size (w.heap.size + 1) 0 n.toNat 0) (fun j hj => by
    have : j < 6 := hj
    unfold tF
    match j, this with
    | 0, _ => rfl
    | 1, _ => rfl
    | 2, _ => rfl
    | 3, _ => rfl
    | 4, _ => rfl
    | 5, _ => rfl)
  rw [hsz] at hrow
  have HN := HN.out
  refine ⟨w.heap.size + 1 + 1, fun k => w.heap.size ≤ k ∧ k < w.heap.size + 1 + 1 + 1, rfl, ⟨.slice none 0 0, w.heap.size, w.heap.size + 1, .map [], .map [], ⟨hrow, St.nil _, ho1.alloc _, ho2.alloc _, by omega, fun k hk => by simp [Value.ownBlock] at hk⟩, Mp.nil _ _ _ _, Mp.nil _ _ _ _,
    ⟨by omega, by omega, by omega, fun k hk => by simp [Value.ownBlock] at hk⟩, fun k hk => by simp [hsz]; omega, Tab.new_ok HN⟩, fun k hk => hk.1, hB1.alloc hB1.size _⟩

set_option maxRecDepth 100000 in
set_option maxHeartbeats 1000000 in
theorem resize_any {p : Nat} {T : Tab} {w : World} {S : Nat → Prop} (h : Tb p T w S) (n : Int) (hn : n ≤ 1000000) :
    Calls Try.prog 74 #[.pointer (some ⟨p, 0, none⟩), .int .i64 n] w fun e w' => e = .returned (.int .i64 (T.went (n.toNat : Int) : Int)) ∧ Turn (Tb p (T.resize n)) S w w' := by
  have HT := Bx.mk h
  obtain ⟨c4, f4⟩ := h.cells
  have HN := Bx.mk hn
  clear h hn
  go_enter Try.func74, Try.ntmps74
  have hmx : max n 0 = ((n.toNat : Nat) : Int) := by omega
  have HMX := Bx.mk hmx
  obtain ⟨R, hR⟩ : ∃ R, T.went (n.toNat : Int) = R := ⟨_, rfl⟩
  rw [hR]
  have HRR := Bx.mk hR
  clear hmx hR
  go_wp2_with fail
  rw [HMX.out]
  have HT1 := HT.out.setCap n.toNat (by have := HN.out; omega)
  obtain ⟨S1, x1, s1, g1⟩ := HT1
  refine (shrink_any x1 (n.toNat : Int)).mono ?_
  rintro e w2 ⟨rfl, ht⟩
  rw [show Tab.went ⟨T.l, n.toNat, T.tot⟩ (n.toNat : Int) = R from HRR.out]
  have HT2 := Bx.mk (Turn.step s1 g1 ht)
  clear ht x1 s1 g1 c4 f4
  go_wp2
  go_ret
  exact ⟨rfl, HT2.out⟩

theorem Tab.add_fit (T : Tab) (f : Fd) (hc : fsz f + 32 ≤ T.cap) : sizeF (fits (T.room f) T.l) + (fsz f + 32) ≤ T.cap := by
  have := T.add_size f hc
  rw [sizeF_append] at this
  simpa [sizeF] using this

set_option maxRecDepth 100000 in
set_option maxHeartbeats 1000000 in
theorem add_gen {p : Nat} {T : Tab} {w : World} {S : Nat → Prop} {v : Value} {fs : List Fd} (h : Tb p T w S) (hv0 : ∀ W, Fp S w W → Fs W v fs) (ht : T.tot + fs.length ≤ 1000000) (hz : ∀ f ∈ fs, fsz f ≤ 1000000) :
    Calls Try.prog 70 #[.pointer (some ⟨p, 0, none⟩), v] w fun e w' => e = .returned (.int .i64 (T.wents fs : Int)) ∧ Turn (Tb p (T.adds fs)) S w w' := by
  have HT := Bx.mk h
  have HV := Bx.mk hv0
  have hv := hv0 w (Fp.refl _ _)
  have HV0 := Bx.mk hv
  have HTT := Bx.mk ht
  have HZ := Bx.mk hz
  have hlen := fun ty W => hv.run_len ty W
  clear h hv hv0 ht hz
  go_enter Try.func70, Try.ntmps70
  go_wp2
  go_loopg [5, 11] fs.length (fun g s5 s11 wx => ∃ (k r : Nat) (T1 : Tab), k + g = fs.length ∧ s11 = .int .i64 k ∧ s5 = .int .i64 r ∧ Bx (r + T1.wents (fs.drop k) = T.wents fs) ∧ r ≤ 31250 * k ∧ Bx (T1.adds (fs.drop k) = T.adds fs) ∧ Bx (T1.tot + (fs.drop k).length ≤ 1000000) ∧ Bx (Turn (Tb p T1) S w wx))
  case atStart => exact ⟨0, 0, T, by omega, rfl, rfl, ⟨by simp⟩, by omega, ⟨rfl⟩, HTT, ⟨Turn.refl HT.out (Below.refl _ _)⟩⟩
  case round =>
    obtain ⟨k, r, T1, hkg, rfl, rfl, HR, hrk, HA, HTO, HTU⟩ := hrel
    cases gk with
    | zero =>
      obtain rfl : k = fs.length := by omega
      have HR2 : Bx (r = T.wents fs) := ⟨by have := HR.out; rw [List.drop_length] at this; simpa [Tab.wents] using this⟩
      have HA2 : Bx (T1 = T.adds fs) := ⟨by have := HA.out; rw [List.drop_length] at this; simpa [Tab.adds] using this⟩
      go_wp2
      go_ret
      rw [← HR2.out, ← HA2.out]
      exact ⟨rfl, HTU.out⟩
    | succ g =>
      have hk : k < fs.length := by omega
      obtain ⟨S1, x1, s1, g1⟩ := HTU.out
      obtain ⟨b, o, hix, hcs⟩ := HV0.out.at_ k hk
      obtain ⟨hc1, hc2⟩ := hcs wr (HV.out wr g1)
      have hdrop : fs.drop k = fs[k] :: fs.drop (k + 1) := List.drop_eq_getElem_cons hk
      have HFZ := Bx.mk (HZ.out fs[k] (List.getElem_mem hk))
      rw [hdrop] at HR HA HTO
      obtain ⟨f1, hf1⟩ : ∃ f1, fs[k].1 = f1 := ⟨_, rfl⟩
      obtain ⟨f2, hf2⟩ : ∃ f2, fs[k].2 = f2 := ⟨_, rfl⟩
      rw [hf1] at hc1
      rw [hf2] at hc2
      rw [show fs[k] = (f1, f2) from by rw [← hf1, ← hf2]] at HR HA HTO HFZ
      have HX1 := Bx.mk x1
      have HS1 := Bx.mk s1
      have HG1 := Bx.mk g1
      have hkl : k ≤ 1000000 := by have := HTT.out; omega
      clear hf1 hf2 hcs hdrop x1 s1 g1
      go_wp2_with fail
      obtain ⟨n1, hn1⟩ : ∃ n1, fsz (f1, f2) + 32 = n1 := ⟨_, rfl⟩
      refine (size_any _ [(f1, f2)] _ (Fs.one (wr.alloc (.cells #[.string f1, .string f2] 56)) _ (by simp) (f1, f2)) (by have := HFZ.out; simp only [sizeF]; omega)).mono ?_
      rintro e w2 ⟨rfl, hb2⟩
      rw [show sizeF [(f1, f2)] = n1 by rw [← hn1]; simp [sizeF]]
      have HN1 := Bx.mk hn1
      have hB2 : Below wr.heap.size wr w2 := (((Below.refl wr.heap.size wr).alloc (Nat.le_refl _) _).alloc (by simp) _).trans (hb2.mono (by simp; omega))
      have HF2 := Bx.mk (((Fb.new 56 wr (f1, f2)).alloc (.cells #[.string f1, .string f2] 56)).keep hb2)
      have HX2 := Bx.mk (HX1.out.keep hB2)
      have HB2 := Bx.mk hB2
      obtain ⟨c4, f4⟩ := HX2.out.cells
      have hcap := HX2.out.ok.cap
      have hnb : n1 ≤ 1000032 := by have := HFZ.out; have := HN1.out; omega
      have hws : IntKind.i64.wrap ((T1.cap : Int) - (n1 : Int)) = (T1.cap : Int) - (n1 : Int) := by simp only [IntKind.wrap_i64]; omega
      clear hn1 hb2 hB2 hc1 hc2
      go_wp2_with fail
      have hroom : (T1.cap : Int) - (n1 : Int) = T1.room (f1, f2) := by unfold Tab.room; rw [← HN1.out]
      rw [hroom]
      refine (shrink_any HX2.out (T1.room (f1, f2))).mono ?_
      rintro e w3 ⟨rfl, ht3⟩
      obtain ⟨q, hq⟩ : ∃ q, T1.went (T1.room (f1, f2)) = q := ⟨_, rfl⟩
      have hqle : q ≤ 31250 := by rw [← hq]; exact Tab.went_le HX2.out.ok _
      rw [hq]
      have HQ := Bx.mk hq
      obtain ⟨S3, x3, s3, g3⟩ := ht3
      have hnS : ¬ S1 wr.heap.size := fun hc => Nat.lt_irrefl _ (HX1.out.lt _ hc)
      have HF3 := Bx.mk (HF2.out.besides g3 hnS)
      have HX3 := Bx.mk x3
      have hT3 : Turn (Tb p ⟨fits (T1.room (f1, f2)) T1.l, T1.cap, T1.tot⟩) S w w3 := Turn.step HS1.out (HG1.out.then (Fp.of_below HB2.out)) ⟨S3, x3, s3, g3⟩
      have HT3 := Bx.mk hT3
      have hs3 : ∀ k, S3 k → S k ∨ w.heap.size ≤ k := fun k hk => (s3 k hk).elim (HS1.out k) fun h => .inr (Nat.le_trans HG1.out.size (Nat.le_trans HB2.out.size h))
      have hg3 : Fp S w w3 := (HG1.out.then (Fp.of_below HB2.out)).trans g3 HS1.out
      have HS3 := Bx.mk hs3
      have HG3 := Bx.mk hg3
      obtain ⟨c4', f4'⟩ := HX3.out.cells
      obtain ⟨e1, e2⟩ := HF3.out.cells
      have hwr : IntKind.i64.wrap ((r : Int) + (q : Int)) = ((r + q : Nat) : Int) := by simp only [IntKind.wrap_i64]; omega
      have HTO2 : Bx ((T1.add (f1, f2)).tot + (fs.drop (k + 1)).length ≤ 1000000) := ⟨by have h1 := HTO.out; have h2 := T1.add_tot_le (f1, f2); simp only [List.length_cons] at h1; omega⟩
      have HR2 : Bx (r + q + (T1.add (f1, f2)).wents (fs.drop (k + 1)) = T.wents fs) := ⟨by have h := HR.out; rw [Tab.wents, HQ.out] at h; omega⟩
      have HA2 : Bx ((T1.add (f1, f2)).adds (fs.drop (k + 1)) = T.adds fs) := ⟨by have h := HA.out; rw [Tab.adds] at h; exact h⟩
      have HT1O := Bx.mk (show T1.tot + 1 ≤ 1000000 by have h1 := HTO.out; simp only [List.length_cons] at h1; omega)
      clear hq hT3 x3 s3 g3 hs3 hg3 HR HA HTO HTU HX1 HS1 HG1 HX2 HF2 HB2 c4 f4 hws hroom hnS
      by_cases hle : n1 ≤ T1.cap
      · have hd1 : decide ((n1 : Int) ≤ (T1.cap : Int)) = true := decide_eq_true (by omega)
        have hd2 : decide (n1 ≤ T1.cap) = true := decide_eq_true hle
        have hc : fsz (f1, f2) + 32 ≤ T1.cap := by rw [HN1.out]; exact hle
        have hadd : T1.add (f1, f2) = ⟨fits (T1.room (f1, f2)) T1.l ++ [(f1, f2)], T1.cap, T1.tot + 1⟩ := by unfold Tab.add; rw [if_pos hc]
        have HAD := Bx.mk hadd
        have HFI := Bx.mk (T1.add_fit (f1, f2) hc)
        have HCAP := Bx.mk hcap
        clear hadd hle hc hcap
        go_wp2_with fail
        refine (enter_turn (f := (f1, f2)) HX3.out HT1O.out (by have h1 := HFI.out; have h2 := HCAP.out; show sizeF (fits (T1.room (f1, f2)) T1.l) + _ ≤ _; omega)).mono ?_
        rintro e w4 ⟨rfl, ht4⟩
        have HT4 : Bx (Turn (Tb p (T1.add (f1, f2))) S w w4) := ⟨by rw [HAD.out]; exact Turn.step HS3.out HG3.out ht4⟩
        clear ht4
        go_wp2
        go_roundg g
        case measure => omega
        case rel => exact ⟨k + 1, r + q, _, by omega, by go_num, rfl, HR2, by omega, HA2, HTO2, HT4⟩
      · have hd1 : decide ((n1 : Int) ≤ (T1.cap : Int)) = false := decide_eq_false (by omega)
        have hd2 : decide (n1 ≤ T1.cap) = false := decide_eq_false hle
        have hadd : T1.add (f1, f2) = ⟨fits (T1.room (f1, f2)) T1.l, T1.cap, T1.tot⟩ := by unfold Tab.add; rw [if_neg (by rw [HN1.out]; exact hle)]
        have HT4 : Bx (Turn (Tb p (T1.add (f1, f2))) S w w3) := ⟨by rw [hadd]; exact HT3.out⟩
        clear hadd hle hcap
        go_wp2_with fail
        go_roundg g
        case measure => omega
        case rel => exact ⟨k + 1, r + q, _, by omega, by go_num, rfl, HR2, by omega, HA2, HTO2, HT4⟩

theorem add_any {p : Nat} {T : Tab} {w : World} {S : Nat → Prop} {v : Value} {fs : List Fd} (h : Tb p T w S) (hv : Fs w v fs) (hs : ∀ g, v.ownBlock = some g → g < w.heap.size ∧ ¬ S g) (ht : T.tot + fs.length ≤ 1000000) (hz : ∀ f ∈ fs, fsz f ≤ 1000000) :
    Calls Try.prog 70 #[.pointer (some ⟨p, 0, none⟩), v] w fun e w' => e = .returned (.int .i64 (T.wents fs : Int)) ∧ Turn (Tb p (T.adds fs)) S w w' :=
  add_gen h (fun W hf => hv.besides hf hs) ht hz

end Go.Proofs.Yteopmaaghhendaa

/-
  Contracts of the table's At, Newest, Find and its numbers.
-/
namespace Go.Proofs.Yteopmaaghhendaa
open Go.RowKit Go.Maps
set_option linter.unusedVariables false

/-- The i-th from the end. -/
def entN (l : List Fd) (i : Nat) : Fd := if h : i < l.length then l[l.length - 1 - i]'(by omega) else emp
def isN (l : List Fd) (i : Nat) : Bool := decide (i < l.length)
/-- What is found of a field. -/
def findT (l : List Fd) (b : Nat) (f : Fd) : Nat × Bool × Bool :=
  match nw (hasF f) b l with
  | some a => (a, true, true)
  | none => match nw (hasN f.1) b l with
    | some a => (a, true, false)
    | none => (0, false, false)
def find3 (x : Nat × Bool × Bool) : Value := .tuple #[.int .u64 (x.1 : Int), .bool x.2.1, .bool x.2.2]

theorem Tb.tr {p : Nat} {T : Tab} {w : World} {S : Nat → Prop} (h : Tb p T w S) : ∃ v bw bn Dw Dn, Tr w p v bw bn (sizeF T.l) T.cap T.tot T.tot T.tot T.l Dw Dn ∧ Mp kf Sized id T.first T.l Dw ∧ Mp ks Short Prod.fst T.first T.l Dn := by
  obtain ⟨v, bw, bn, Dw, Dn, h1, h2, h3, _⟩ := h
  exact ⟨v, bw, bn, Dw, Dn, h1, h2, h3⟩
set_option maxRecDepth 100000 in
set_option maxHeartbeats 1000000 in
theorem at_any {p : Nat} {T : Tab} {w : World} {S : Nat → Prop} (h : Tb p T w S) (i : Nat) (hi : i < 18446744073709551616) :
    Calls Try.prog 89 #[.pointer (some ⟨p, 0, none⟩), .int .u64 (i : Int)] w fun e w' => e = .returned (.tuple #[aggF (entF T.l T.first i), .bool (isF T.l T.first i)]) ∧ Below w.heap.size w w' := by
  obtain ⟨v, bw, bn, Dw, Dn, h1, h2, h3⟩ := h.tr
  have hok := h.ok
  obtain ⟨L, cap, tot⟩ := T
  obtain ⟨fr, hfr⟩ : ∃ fr, tot - L.length = fr := ⟨_, rfl⟩
  rw [show Tab.first ⟨L, cap, tot⟩ = fr from hfr]
  simp only at h1 ⊢
  have htot : tot ≤ 1000000 := hok.tot
  have hlen : L.length ≤ tot := hok.len
  have HI := Bx.mk hi
  have HFR : Bx (fr + L.length = tot) := ⟨by omega⟩
  have HTT := Bx.mk htot
  have HOLD : Bx (∀ W, Tr W p v bw bn (sizeF L) cap tot tot tot L Dw Dn → Calls Try.prog 101 #[.pointer (some ⟨p, 0, none⟩)] W fun e w' => e = .returned (.int .u64 (fr : Int)) ∧ Below W.heap.size W w') := ⟨fun W hW => hfr ▸ oldest_any hW hlen htot⟩
  obtain ⟨e0, he0⟩ : ∃ e0, entF L fr i = e0 := ⟨_, rfl⟩
  obtain ⟨b0, hb0⟩ : ∃ b0, isF L fr i = b0 := ⟨_, rfl⟩
  rw [he0, hb0]
  have HE0 := Bx.mk he0
  have HB0 := Bx.mk hb0
  have HT := Bx.mk h1
  have HTA := Bx.mk (h1.alloc (.cells #[.string ⟨#[]⟩, .string ⟨#[]⟩] 56))
  clear h h1 h2 h3 hok htot hlen hi hfr he0 hb0
  have enter : True := trivial
  go_enter Try.func89, Try.ntmps89
  go_wp2_with fail
  refine (HOLD.out _ HTA.out).mono ?_
  rintro e w2 ⟨rfl, hb2⟩
  have HT2 := Bx.mk (HTA.out.keep hb2)
  have HF2 := Bx.mk ((Fb.new 56 w emp).keep hb2)
  have HB2 : Bx (Below w.heap.size w w2) := ⟨((Below.refl w.heap.size w).alloc (Nat.le_refl _) _).trans (hb2.mono (by simp))⟩
  clear hb2 enter
  obtain ⟨d0, d1, d2, d3, d4, d5⟩ := HT2.out.cells
  obtain ⟨e1, e2⟩ := HF2.out.cells
  obtain ⟨ef1, ef2⟩ := HF2.out.free
  by_cases h1 : i < fr
  · have hd1 : decide ((i : Int) < (fr : Int)) = true := decide_eq_true (by omega)
    have hd2 : decide (i < fr) = true := decide_eq_true h1
    obtain rfl : emp = e0 := by rw [← HE0.out]; unfold entF; rw [dif_neg (by omega)]
    obtain rfl : false = b0 := by rw [← HB0.out]; unfold isF; simp; omega
    have HF3 := Bx.mk (HF2.out.set2 ⟨#[]⟩ ⟨#[]⟩)
    clear h1
    go_wp2_with fail
    exact bodyPost_ret (ret_field Try.results89 _ _ w.heap.size emp false rfl rfl HF3.out) rfl ⟨rfl, below_set2 HB2.out _ (Nat.le_refl _) _ _⟩
  · have hd1 : decide ((i : Int) < (fr : Int)) = false := decide_eq_false (by omega)
    have hd2 : decide (i < fr) = false := decide_eq_false h1
    by_cases h2 : tot ≤ i
    · have hd3 : decide ((tot : Int) ≤ (i : Int)) = true := decide_eq_true (by omega)
      have hd4 : decide (tot ≤ i) = true := decide_eq_true h2
      obtain rfl : emp = e0 := by rw [← HE0.out]; unfold entF; rw [dif_neg (by have := HFR.out; omega)]
      obtain rfl : false = b0 := by rw [← HB0.out]; unfold isF; simp; have := HFR.out; omega
      have HF3 := Bx.mk (HF2.out.set2 ⟨#[]⟩ ⟨#[]⟩)
      clear h1 h2
      go_wp2_with fail
      exact bodyPost_ret (ret_field Try.results89 _ _ w.heap.size emp false rfl rfl HF3.out) rfl ⟨rfl, below_set2 HB2.out _ (Nat.le_refl _) _ _⟩
    · have hd3 : decide ((tot : Int) ≤ (i : Int)) = false := decide_eq_false (by omega)
      have hd4 : decide (tot ≤ i) = false := decide_eq_false h2
      have hlt : i - fr < L.length := by have := HFR.out; omega
      obtain ⟨f1, hf1⟩ : ∃ f1, L[i - fr].1 = f1 := ⟨_, rfl⟩
      obtain ⟨f2, hf2⟩ : ∃ f2, L[i - fr].2 = f2 := ⟨_, rfl⟩
      obtain rfl : (f1, f2) = e0 := by rw [← HE0.out]; unfold entF; rw [dif_pos ⟨by omega, hlt⟩, ← hf1, ← hf2]
      obtain rfl : true = b0 := by rw [← HB0.out]; unfold isF; simp; omega
      obtain ⟨b, o, hix, hcs⟩ := HT2.out.st.fs.at_ (i - fr) hlt
      have hws : IntKind.u64.wrap ((i : Int) - (fr : Int)) = ((i - fr : Nat) : Int) := by have := HI.out; simp [IntKind.wrap, IntKind.signed, IntKind.bits]; omega
      rw [hf1, hf2] at hcs
      have HCS := Bx.mk hcs
      have hX0 : ∀ W, Tr W p v bw bn (sizeF L) cap tot tot tot L Dw Dn → W.cell? ⟨p, 0, none⟩ = some v := fun W h => h.cells.1
      have hX1 : ∀ W, Tr W p v bw bn (sizeF L) cap tot tot tot L Dw Dn → W.cell? ⟨b, o, none⟩ = some (.string f1) := fun W h => (HCS.out W h.st.fs).1
      have hX2 : ∀ W, Tr W p v bw bn (sizeF L) cap tot tot tot L Dw Dn → W.cell? ⟨b, o + 1, none⟩ = some (.string f2) := fun W h => (HCS.out W h.st.fs).2
      have hS0 := HT2.out.drew
      clear h1 h2 hlt hf1 hf2 hcs
      go_wp2_with fail
      go_region_held (fun W => Tr W p v bw bn (sizeF L) cap tot tot tot L Dw Dn) (first | assumption) (first
        | (go_at_call 101; refine (HOLD.out _ ?_).mono ?_; (with_reducible exact hS0); rintro e w3 ⟨rfl, hb3⟩; have hT3 := hS0.keep hb3; have HF3 := Bx.mk ((HF2.out.keep (Below.refl _ _).drew).keep hb3); obtain ⟨r1, r2⟩ := HF3.out.cells; obtain ⟨r3, r4⟩ := HF3.out.free; have hT4 := HT.out.away (HT.out.away hT3 w.heap.size (Nat.le_refl _) 0 (.string f1)) w.heap.size (Nat.le_refl _) 1 (.string f2)))
      all_goals go_wp2_with fail
      exact bodyPost_ret (ret_field Try.results89 _ _ w.heap.size (f1, f2) true rfl rfl (HF3.out.set2 f1 f2)) rfl ⟨rfl, below_set2 (HB2.out.trans (((Below.refl w2.heap.size w2).drew.trans hb3).mono HB2.out.size)) _ (Nat.le_refl _) _ _⟩

set_option maxRecDepth 100000 in
set_option maxHeartbeats 1000000 in
theorem newest_any {p : Nat} {T : Tab} {w : World} {S : Nat → Prop} (h : Tb p T w S) (i : Nat) (hi : i < 18446744073709551616) :
    Calls Try.prog 71 #[.pointer (some ⟨p, 0, none⟩), .int .u64 (i : Int)] w fun e w' => e = .returned (.tuple #[aggF (entN T.l i), .bool (isN T.l i)]) ∧ Below w.heap.size w w' := by
  obtain ⟨v, bw, bn, Dw, Dn, h1, h2, h3⟩ := h.tr
  have hok := h.ok
  obtain ⟨e0, he0⟩ : ∃ e0, entN T.l i = e0 := ⟨_, rfl⟩
  obtain ⟨b0, hb0⟩ : ∃ b0, isN T.l i = b0 := ⟨_, rfl⟩
  rw [he0, hb0]
  have HE0 := Bx.mk he0
  have HB0 := Bx.mk hb0
  have HT := Bx.mk h
  have hlen := fun ty W => h1.st.fs.run_len ty W
  obtain ⟨n, hn⟩ : ∃ n, T.l.length = n := ⟨_, rfl⟩
  rw [hn] at hlen
  have HN := Bx.mk hn
  have HI := Bx.mk hi
  obtain ⟨ct, hct⟩ : ∃ ct, T.tot = ct := ⟨_, rfl⟩
  rw [hct] at h1
  have HCT := Bx.mk hct
  have HTT : Bx (n ≤ ct ∧ ct ≤ 1000000) := ⟨by have a := hok.len; have b := hok.tot; omega⟩
  have hwn : IntKind.u64.wrap (n : Int) = (n : Int) := by have := HTT.out; simp [IntKind.wrap, IntKind.signed, IntKind.bits]; omega
  have HTA := Bx.mk (h.keep ((Below.refl w.heap.size w).alloc (Nat.le_refl _) (.cells #[.string ⟨#[]⟩, .string ⟨#[]⟩] 56)))
  obtain ⟨d0, d1, d2, d3, d4, d5⟩ := (h1.alloc (.cells #[.string ⟨#[]⟩, .string ⟨#[]⟩] 56)).cells
  have HF1 := Bx.mk (Fb.new 56 w emp)
  have HB1 := Bx.mk ((Below.refl w.heap.size w).alloc (Nat.le_refl _) (.cells #[.string ⟨#[]⟩, .string ⟨#[]⟩] 56))
  clear h h1 h2 h3 hok hi he0 hb0 hn hct
  by_cases h1 : n ≤ i
  · have hd1 : decide ((n : Int) ≤ (i : Int)) = true := decide_eq_true (by omega)
    have hd2 : decide (n ≤ i) = true := decide_eq_true h1
    obtain rfl : emp = e0 := by rw [← HE0.out]; unfold entN; rw [dif_neg (by have := HN.out; omega)]
    obtain rfl : false = b0 := by rw [← HB0.out]; unfold isN; simp; have := HN.out; omega
    clear h1
    go_enter Try.func71, Try.ntmps71
    go_wp2_with fail
    exact bodyPost_ret (ret_field Try.results71 _ _ w.heap.size emp false rfl rfl (Fb.new _ w emp)) rfl ⟨rfl, (Below.refl _ _).alloc (Nat.le_refl _) _⟩
  · have hd1 : decide ((n : Int) ≤ (i : Int)) = false := decide_eq_false (by omega)
    have hd2 : decide (n ≤ i) = false := decide_eq_false h1
    have hw1 : IntKind.u64.wrap ((ct : Int) - 1) = ((ct - 1 : Nat) : Int) := by have := HTT.out; simp [IntKind.wrap, IntKind.signed, IntKind.bits]; omega
    obtain ⟨c1, hc1⟩ : ∃ c1, ct - 1 = c1 := ⟨_, rfl⟩
    rw [hc1] at hw1
    have hw2 : IntKind.u64.wrap ((c1 : Int) - (i : Int)) = ((c1 - i : Nat) : Int) := by have := HTT.out; simp [IntKind.wrap, IntKind.signed, IntKind.bits]; omega
    obtain ⟨c2, hc2⟩ : ∃ c2, c1 - i = c2 := ⟨_, rfl⟩
    rw [hc2] at hw2
    have hfirst : T.first = ct - n := by show T.tot - T.l.length = _; rw [HCT.out, HN.out]
    have hE : entF T.l T.first c2 = e0 := by
      have a := HTT.out
      have b := HN.out
      rw [← HE0.out]
      unfold entF entN
      rw [dif_pos (by rw [hfirst]; omega), dif_pos (by omega)]
      congr 1
      rw [hfirst]
      omega
    have hBt : isF T.l T.first c2 = true := by
      have a := HTT.out
      have b := HN.out
      unfold isF
      rw [hfirst]
      simp; omega
    obtain rfl : true = b0 := by rw [← HB0.out]; unfold isN; simp; have := HN.out; omega
    have HE := Bx.mk hE
    have HBt := Bx.mk hBt
    have hc2b : c2 < 18446744073709551616 := by have := HTT.out; omega
    have HC2 := Bx.mk hc2b
    clear h1 hc1 hc2 hfirst hE hBt hc2b
    go_enter Try.func71, Try.ntmps71
    go_wp2_with fail
    refine (at_any HTA.out c2 HC2.out).mono ?_
    rintro e w2 ⟨rfl, hb2⟩
    rw [HE.out, HBt.out]
    obtain ⟨x1, x2⟩ := e0
    have HF2 := Bx.mk (HF1.out.keep hb2)
    have HB2 := Bx.mk (HB1.out.trans (hb2.mono HB1.out.size))
    have ha : aggF (x1, x2) = .agg #[.string x1, .string x2] := rfl
    rw [ha]
    obtain ⟨e1, e2⟩ := HF2.out.cells
    obtain ⟨ef1, ef2⟩ := HF2.out.free
    clear hb2 ha
    go_wp2_with fail
    exact bodyPost_ret (ret_field Try.results71 _ _ w.heap.size (x1, x2) true rfl rfl (HF2.out.set2 x1 x2)) rfl ⟨rfl, below_set2 HB2.out _ (Nat.le_refl _) _ _⟩

end Go.Proofs.Yteopmaaghhendaa

/-
  Contracts of the document's table: NewTable, fit, Resize, Add.
-/
namespace Go.Proofs.Yteopmaaghhendaa
open Go.RowKit Go.Maps
set_option linter.unusedVariables false

section
variable {q : Nat} {T : Tab} {w : World} {S : Nat → Prop}
theorem Rt.cells (h : Rt q T w S) : ∃ v, w.cell? ⟨q, 0, none⟩ = some v ∧ w.cell? ⟨q, 1, none⟩ = some (.int .i64 (T.cap : Int)) ∧ w.cell? ⟨q, 2, none⟩ = some (.int .u64 (T.tot : Int)) ∧ (∀ i, w.frozen? ⟨q, i, none⟩ = false) ∧ St w v T.l := by
  obtain ⟨v, h1, h2, _⟩ := h
  exact ⟨v, h1.cell (by omega), h1.cell (by omega), h1.cell (by omega), fun i => h1.frozen i, h2⟩
theorem Rt.setCap (h : Rt q T w S) (n : Nat) (hn : n ≤ 1000000) : Turn (Rt q ⟨T.l, n, T.tot⟩) S w (w.setCell ⟨q, 1, none⟩ (.int .i64 (n : Int))) := by
  obtain ⟨v, h1, h2, h3, h4, h5, h6⟩ := h
  exact ⟨S, ⟨v, (h1.set 1 _).congr (fun j hj => by unfold rF; match j, hj with | 0, _ => rfl | 1, _ => rfl | 2, _ => rfl), h2.grown (grown_set w q 1 _) (fun k hk e => h3 k hk (Option.some.inj e)), h3, h4, fun k hk => by simp [World.setCell]; exact h5 k hk, ⟨h6.len, h6.size, hn, h6.tot⟩⟩, fun k hk => .inl hk, Fp.set _ _ _ _ h4.1⟩
/-- The oldest one gone. -/
theorem Rt.cut {f : Fd} {l : List Fd} (h : Rt q T w S) (hl : T.l = f :: l) : ∃ v v', w.cell? ⟨q, 0, none⟩ = some v ∧ (∃ A n c, v' = .slice A n c) ∧ (∀ (k : IntKind) (W : World), (Instr.slice 38 v (some (.int k 1)) none none).run Try.prog W = .ok v' W) ∧ Turn (Rt q ⟨l, T.cap, T.tot⟩) S w (w.setCell ⟨q, 0, none⟩ v') := by
  obtain ⟨v, h1, h2, h3, h4, h5, h6⟩ := h
  obtain ⟨L, cap, tot⟩ := T
  simp only at hl
  subst hl
  obtain ⟨g, o, hvo, _, _, _, v', hsl, htl, hvo'⟩ := h2.head
  have hlen := h6.len
  have hsz := h6.size
  simp only [List.length_cons, sizeF] at hlen hsz
  have hsv : ∀ k, v'.ownBlock = some k → v.ownBlock = some k := fun k hk => by rw [hvo, ← hvo', hk]
  obtain ⟨av, nv, cv, rfl⟩ := slice_of_own hvo'
  refine ⟨v, _, h1.cell (by omega), ⟨_, _, _, rfl⟩, hsl, S, ⟨_, (h1.set 0 _).congr (fun j hj => by unfold rF; match j, hj with | 0, _ => rfl | 1, _ => rfl | 2, _ => rfl), (htl w f h2).grown (grown_set w q 0 _) (fun k hk e => h3 k (hsv k hk) (Option.some.inj e)), fun k hk => h3 k (hsv k hk), ⟨h4.1, fun k hk => h4.2 k (hsv k hk)⟩, fun k hk => by simp [World.setCell]; exact h5 k hk, ⟨by show l.length ≤ tot; omega, by show sizeF l ≤ _; omega, h6.cap, h6.tot⟩⟩, fun k hk => .inl hk, Fp.set _ _ _ _ h4.1⟩
end

set_option maxRecDepth 100000 in
set_option maxHeartbeats 1000000 in
theorem newTable_any (n : Int) (w : World) (hn : n ≤ 1000000) :
    Calls Try.prog 36 #[.int .i64 n] w fun e w' => ∃ q S, e = .returned (.pointer (some ⟨q, 0, none⟩)) ∧ Rt q (Tab.new n) w' S ∧ (∀ k, S k → w.heap.size ≤ k) ∧ Below w.heap.size w w' := by
  have HN := Bx.mk hn
  clear hn
  go_enter Try.func36, Try.ntmps36
  go_wp2
  go_ret
  have hmx : max n 0 = ((n.toNat : Nat) : Int) := by omega
  rw [hmx]
  have hrow := World.rowIs_alloc w #[.slice none 0 0, .int .i64 (n.toNat : Int), .int .u64 0] 86 (rF (.slice none 0 0) n.toNat 0) (fun j hj => by
    have : j < 3 := hj
    unfold rF
    match j, this with
    | 0, _ => rfl
    | 1, _ => rfl
    | 2, _ => rfl)
  have HN := HN.out
  exact ⟨w.heap.size, fun k => k = w.heap.size, rfl, ⟨.slice none 0 0, hrow, St.nil _, fun k hk => by simp [Value.ownBlock] at hk, ⟨rfl, fun k hk => by simp [Value.ownBlock] at hk⟩, fun k hk => by subst hk; simp, Tab.new_ok HN⟩, fun k hk => by subst hk; exact Nat.le_refl _, (Below.refl _ _).alloc (Nat.le_refl _) _⟩

set_option maxRecDepth 100000 in
set_option maxHeartbeats 1000000 in
theorem fit_any {q : Nat} {T : Tab} {w : World} {S : Nat → Prop} (h : Rt q T w S) (room : Int) :
    Calls Try.prog 64 #[.pointer (some ⟨q, 0, none⟩), .int .i64 room] w fun e w' => e = .returned (.int .i64 (T.went room : Int)) ∧ Turn (Rt q ⟨fits room T.l, T.cap, T.tot⟩) S w w' := by
  have HT := Bx.mk h
  obtain ⟨L0, cap, tot⟩ := T
  have HLEN : Bx (L0.length ≤ 31250) := ⟨h.ok.short⟩
  obtain ⟨R, hR⟩ : ∃ R, Tab.went ⟨L0, cap, tot⟩ room = R := ⟨_, rfl⟩
  rw [hR]
  have HR : Bx (L0.length - (fits room L0).length = R) := ⟨hR⟩
  clear h hR
  go_enter Try.func64, Try.ntmps64
  go_wp2
  go_loopg [5] L0.length (fun g s5 wx => ∃ (k : Nat) (L : List Fd), k + L.length = L0.length ∧ L.length = g ∧ s5 = .int .i64 k ∧ Bx (fits room L = fits room L0) ∧ Bx (Turn (Rt q ⟨L, cap, tot⟩) S w wx))
  case atStart => exact ⟨0, L0, by omega, rfl, rfl, ⟨rfl⟩, ⟨Turn.refl HT.out (Below.refl _ _)⟩⟩
  case round =>
    obtain ⟨k, L, hk, hg, rfl, HFI, HTU⟩ := hrel
    obtain ⟨S1, hX, hs1, hf1⟩ := HTU.out
    have HX := Bx.mk hX
    have HS1 := Bx.mk hs1
    have HF1 := Bx.mk hf1
    obtain ⟨v, d0, _, _, df, hst⟩ := hX.cells
    have hlen := fun ty W => hst.fs.run_len ty W
    have HFS := Bx.mk hst.fs
    have hsz := hX.ok.size
    clear hs1 hf1 hst df hX
    simp only at hlen hsz
    obtain ⟨m, hm⟩ : ∃ m, L.length = m := ⟨_, rfl⟩
    rw [hm] at hlen
    have HM := Bx.mk hm
    clear hm
    cases L with
    | nil =>
      obtain rfl : 0 = m := HM.out
      have HFI2 : Bx (([] : List Fd) = fits room L0) := ⟨HFI.out⟩
      have HKR : Bx (k = R) := ⟨by have := HR.out; rw [← HFI2.out] at this; simp only [List.length_nil] at *; omega⟩
      rw [HFI2.out] at HTU
      go_wp2_with fail
      go_ret
      exact ⟨by have := HKR.out; subst this; rfl, HTU.out⟩
    | cons f l =>
      have hm0 : 0 < m := by have := HM.out; simp only [List.length_cons] at this; omega
      have hd2 : decide ((0 : Int) < (m : Int)) = true := decide_eq_true (by omega)
      have hd3 : decide (0 < m) = true := decide_eq_true hm0
      obtain ⟨z, hz⟩ : ∃ z, sizeF (f :: l) = z := ⟨_, rfl⟩
      have HZ := Bx.mk hz
      have HSZ := Bx.mk hsz
      clear hsz hz
      go_wp2_with fail
      refine (refSize_any v (f :: l) _ HFS.out (by have := HSZ.out; omega)).mono ?_
      rintro e w2 ⟨rfl, hb2⟩
      rw [HZ.out]
      have HX2 := Bx.mk (HX.out.keep hb2)
      have HB2 := Bx.mk hb2
      clear hb2 d0
      by_cases hgt : room < (z : Int)
      · have hd4 : decide (room < (z : Int)) = true := decide_eq_true hgt
        have HGO := Bx.mk (fits_cons_go (show room < (sizeF (f :: l) : Int) by rw [HZ.out]; exact hgt))
        obtain ⟨v0, v', c0, ⟨A, n, c, rfl⟩, hsl, ht⟩ := HX2.out.cut rfl
        have hsl0 := hsl .i64
        obtain ⟨_, _, _, _, df, _⟩ := HX2.out.cells
        have df0 := df 0
        have HT3 : Bx (Turn (Rt q ⟨l, cap, tot⟩) S w (w2.setCell ⟨q, 0, none⟩ (.slice A n c))) := ⟨Turn.step HS1.out (HF1.out.then (Fp.of_below HB2.out)) ht⟩
        obtain ⟨g', rfl⟩ : ∃ g', gk = g' + 1 := ⟨l.length, by rw [← hg]; rfl⟩
        have hkk : k ≤ 31250 := by have := HLEN.out; omega
        clear ht hsl df hgt hm0
        go_wp2_with fail
        go_roundg g'
        case measure => omega
        case rel => exact ⟨k + 1, l, by simp only [List.length_cons] at hk; omega, by simp only [List.length_cons] at hg; omega, by go_num, ⟨by rw [← HGO.out]; exact HFI.out⟩, HT3⟩
      · have hd4 : decide (room < (z : Int)) = false := decide_eq_false hgt
        have hfin : fits room (f :: l) = f :: l := fits_all (by rw [HZ.out]; omega)
        have HFI2 : Bx (f :: l = fits room L0) := ⟨by rw [← hfin]; exact HFI.out⟩
        have HKR : Bx (k = R) := ⟨by have := HR.out; rw [← HFI2.out] at this; simp only [List.length_cons] at *; omega⟩
        have HT3 : Bx (Turn (Rt q ⟨fits room L0, cap, tot⟩) S w w2) := ⟨by rw [← HFI2.out]; exact Turn.step HS1.out HF1.out (Turn.refl HX2.out HB2.out)⟩
        clear hgt hfin
        go_wp2_with fail
        go_ret
        exact ⟨by have := HKR.out; subst this; rfl, HT3.out⟩

end Go.Proofs.Yteopmaaghhendaa

/-
  A slice of bytes made a string; the byte type's row.
-/
namespace Go.Proofs.Yteopmaaghhendaa
open Go.RowKit
set_option linter.unusedVariables false

theorem infoU8 : (Try.prog.info? 5).map (fun i => (i.zero, i.size, i.bytes)) = some (some (.int .u8 0), 1, 1) := by kernel_rfl

/-- The string of some bytes. -/
def bstr (l : List UInt8) : ByteArray := ⟨l.toArray⟩
set_option maxRecDepth 100000 in
theorem conv_str {w : World} {v : Value} {l : List UInt8} (h : Bs w v l) : (convert 23 9 v).run Try.prog w = .ok (.string (bstr l)) w := by
  rcases Nat.eq_zero_or_pos l.length with h0 | h0
  · obtain rfl : l = [] := List.eq_nil_of_length_eq_zero h0
    obtain ⟨A, c, rfl, h1, h2, h3⟩ := h
    rcases h3 with ⟨rfl, rfl⟩ | ⟨x, rfl, _⟩
    · exact run_convert_bytes_nil (P := Try.prog) w 23 5 Try.underlying23 Try.underlying5 _ _ 9 Try.underlying9
    · rw [run_convert_bytes_string w 23 9 5 _ _ _ Try.underlying23 Try.underlying5 Try.underlying9]
      have := run_bytesToString (P := Try.prog) w x 0 c [] (by simp [loadCells, loadCellsFrom])
      exact this
  · obtain ⟨b, o, c, rfl, h1, h2, h3, hc⟩ := Rd.at_ h (by simpa using h0)
    rw [List.length_map]
    have := run_convert_bytes_arg (P := Try.prog) w 23 5 Try.underlying23 Try.underlying5 b o l.length c (l.map fun x => (x.toNat : Int)) (by simp) (fun i hi => by
      have := hc i (.int .u8 (l[i].toNat : Int)) (by simp [bv, hi])
      rw [this]
      simp [List.getD, hi]) 9 Try.underlying9
    rw [this]
    congr 2
    unfold strOfNums bstr
    congr 2
    rw [List.map_map]
    conv => rhs; rw [← List.map_id l]
    apply List.map_congr_left
    intro x _
    simp

theorem snoc_any {w : World} {B : Nat} {x : Value} {l : List UInt8} {n : Int} (h : Ap w B 5 x (l.map bv ++ #[Value.int .u8 n].toList)) (b : UInt8) (hb : n = (b.toNat : Int)) : ApB w B x (l ++ [b]) := by
  unfold ApB
  rw [List.map_append, List.map_cons, List.map_nil]
  subst hb
  exact h
theorem byte_nat {n : Nat} (h : n < 256) : (n : Int) = ((UInt8.ofNat n).toNat : Int) := by
  rw [UInt8.toNat_ofNat', Nat.mod_eq_of_lt (by have : (2:Nat) ^ 8 = 256 := rfl; omega)]

end Go.Proofs.Yteopmaaghhendaa
