/-
  Slices of one-cell elements, as lists: what reads as a list, what may be appended to without a write to older memory; the laws for append, len, index over them. No program is named here.
-/
import Derived.WalkKit
import Derived.WalkSpells
import Derived.WalkLawsBesides
import Derived.Maps.AppendAt
import Derived.Deep.AppendLies
import Derived.Deep.Draws
import Derived.Lib.Hide
namespace Go.Proofs.Ytcakppdabolfiaa
open Go.RowKit
set_option linter.unusedVariables false

/-- The value reads in this world as the list xs. -/
def Rd (w : World) (v : Value) (xs : List Value) : Prop :=
  ∃ A c, v = .slice A xs.length c ∧ xs.length ≤ c ∧ c ≤ maxLen ∧
    ((A = none ∧ c = 0) ∨ ∃ x, A = some x ∧ ∀ j u, xs[j]? = some u → w.cell? (x.add j) = some u)

theorem Rd.nil (w : World) : Rd w (.slice none 0 0) [] := ⟨none, 0, rfl, Nat.le_refl _, Nat.zero_le _, .inl ⟨rfl, rfl⟩⟩

theorem Rd.len {w : World} {v : Value} {xs : List Value} (h : Rd w v xs) : xs.length ≤ maxLen := by
  obtain ⟨A, c, _, h1, h2, _⟩ := h; omega

/-- A list that is not empty: where it lies. -/
theorem Rd.at_ {w : World} {v : Value} {xs : List Value} (h : Rd w v xs) (hn : 0 < xs.length) :
    ∃ b o c, v = .slice (some ⟨b, o, none⟩) xs.length c ∧ xs.length ≤ c ∧ c ≤ maxLen ∧ b < w.heap.size ∧ ∀ j u, xs[j]? = some u → w.cell? ⟨b, o + j, none⟩ = some u := by
  obtain ⟨A, c, rfl, h1, h2, h3⟩ := h
  rcases h3 with ⟨_, rfl⟩ | ⟨x, rfl, hc⟩
  · omega
  · obtain ⟨b, off, spot⟩ := x
    have h0 := hc 0 xs[0] (List.getElem?_eq_getElem hn)
    have hspot : spot = none := by simpa [Addr.add] using World.cell?_spot h0
    subst hspot
    refine ⟨b, off, c, rfl, h1, h2, World.block_lt_of_cell? w ⟨b, off + 0, none⟩ (by simpa [Addr.add] using h0), fun j u hu => ?_⟩
    have := hc j u hu
    rwa [Addr.add_lit] at this

/-- What is read depends on the cells alone. -/
theorem Rd.keep {w w' : World} {v : Value} {xs : List Value} (h : Rd w v xs) (hb : Below w.heap.size w w') : Rd w' v xs := by
  obtain ⟨A, c, rfl, h1, h2, h3⟩ := h
  refine ⟨A, c, rfl, h1, h2, h3.imp id ?_⟩
  rintro ⟨x, rfl, hc⟩
  refine ⟨x, rfl, fun j u hu => ?_⟩
  have hj := hc j u hu
  rw [hb.cell (World.block_lt_of_cell? w _ hj)]
  exact hj

theorem below_drewN {B : Nat} {a w : World} (h : Below B a w) (n : Nat) : Below B a (w.drewN n) := ⟨h.os, h.tape, h.output, h.size, h.block⟩

/-- May be appended to: a row of its own from block B on, or a slice with no room. -/
def Ap (w : World) (B : Nat) (e : TypeId) (v : Value) (xs : List Value) : Prop :=
  w.ownsRow B e 1 v xs.length xs ∨ ((∃ A, v = .slice A xs.length xs.length) ∧ Rd w v xs)

theorem Rd.of_own {w : World} {B : Nat} {e : TypeId} {v : Value} {xs : List Value} (h : w.ownsRow B e 1 v xs.length xs) : Rd w v xs := by
  have hh := h
  rcases h.2 with ⟨rfl, h0⟩ | ⟨g, cap, cur, rfl, _, _, hnc, hcm, _⟩
  · obtain rfl : xs = [] := List.eq_nil_of_length_eq_zero h0
    exact Rd.nil w
  · exact ⟨_, cap, rfl, hnc, hcm, .inr ⟨_, rfl, hh.cells (g := g) rfl⟩⟩

theorem Ap.rd {w : World} {B : Nat} {e : TypeId} {v : Value} {xs : List Value} (h : Ap w B e v xs) : Rd w v xs := by
  rcases h with h | ⟨_, h⟩
  · exact Rd.of_own h
  · exact h

theorem Ap.nil (w : World) (B : Nat) (e : TypeId) : Ap w B e (.slice none 0 0) [] := .inl (World.ownsRow_nil w B e 1)

theorem own_keep {w w' : World} {B : Nat} {e : TypeId} {v : Value} {n : Nat} {xs : List Value} (h : w.ownsRow B e 1 v n xs) (hb : Below w.heap.size w w') : w'.ownsRow B e 1 v n xs := by
  refine ⟨h.1, ?_⟩
  rcases h.2 with h0 | ⟨g, cap, cur, rfl, hg, hh, rest⟩
  · exact .inl h0
  · refine .inr ⟨g, cap, cur, rfl, hg, ?_, rest⟩
    rw [hb.block g (Array.getElem?_eq_some_iff.1 hh).1]; exact hh

theorem Ap.keep {w w' : World} {B : Nat} {e : TypeId} {v : Value} {xs : List Value} (h : Ap w B e v xs) (hb : Below w.heap.size w w') : Ap w' B e v xs := by
  rcases h with h | ⟨h1, h⟩
  · exact .inl (own_keep h hb)
  · exact .inr ⟨h1, h.keep hb⟩

theorem Ap.mono {w : World} {B B' : Nat} {e : TypeId} {v : Value} {xs : List Value} (h : Ap w B e v xs) (hB : B' ≤ B) : Ap w B' e v xs := by
  rcases h with ⟨h1, h⟩ | h
  · refine .inl ⟨h1, h.imp id ?_⟩
    rintro ⟨g, cap, cur, a, b, c⟩
    exact ⟨g, cap, cur, a, by omega, c⟩
  · exact .inr h

theorem Ap.drew {w : World} {B : Nat} {e : TypeId} {v : Value} {xs : List Value} (h : Ap w B e v xs) : Ap w.drew B e v xs := h.keep (Below.refl _ _).drew
theorem Rd.drew {w : World} {v : Value} {xs : List Value} (h : Rd w v xs) : Rd w.drew v xs := h.keep (Below.refl _ _).drew
theorem Ap.alloc {w : World} {B : Nat} {e : TypeId} {v : Value} {xs : List Value} (h : Ap w B e v xs) (o : Obj) : Ap (w.alloc o) B e v xs := h.keep ((Below.refl _ _).alloc (Nat.le_refl _) o)
theorem Rd.alloc {w : World} {v : Value} {xs : List Value} (h : Rd w v xs) (o : Obj) : Rd (w.alloc o) v xs := h.keep ((Below.refl _ _).alloc (Nat.le_refl _) o)

/-- A row written out. -/
theorem Rd.lit (w : World) (e : TypeId) (cs : Array Value) (n : Nat) (hn : cs.size = n) (hm : n ≤ maxLen) : Rd (w.alloc (.cells cs e)) (.slice (some ⟨w.heap.size, 0, none⟩) n n) cs.toList := by
  have h := World.ownsRow_lit (base := 0) (e := e) (size := 1) w cs n (Nat.zero_le _) hm (by omega)
  have hl : cs.toList.length = n := by simpa using hn
  rw [← hl] at h ⊢
  exact Rd.of_own h
theorem Ap.lit (w : World) (e : TypeId) (cs : Array Value) (n : Nat) (hn : cs.size = n) (hm : n ≤ maxLen) : Ap (w.alloc (.cells cs e)) w.heap.size e (.slice (some ⟨w.heap.size, 0, none⟩) n n) cs.toList := by
  have h := World.ownsRow_lit (base := w.heap.size) (e := e) (size := 1) w cs n (Nat.le_refl _) hm (by omega)
  have hl : cs.toList.length = n := by simpa using hn
  rw [← hl] at h ⊢
  exact .inl h

section
variable {P : Program} (w : World)

theorem run_append_ap (B : Nat) (t ty e : TypeId) (i : TypeInfo) (z : Value) (bytes : Nat) (ht : P.underlying t = some (.slice e)) (hi : P.info? e = some i) (hz : i.zero = some z)
    (hsize : i.size = 1) (hby : i.bytes = bytes) (hzs : z.cells.size = 1)
    (v u : Value) (xs news : List Value) (hv : Ap w B e v xs) (hu : Rd w u news) (h1 : ∀ x ∈ news, x.oneCell' = true)
    (hbytes : (xs.length + news.length) * bytes ≤ 140737488355328) (hmax : xs.length + news.length ≤ maxLen) (hB : B ≤ w.heap.size) :
    ∃ v' w', (Builtin.append_ #[t, t] ty #[v, u]).run P w = .ok v' w' ∧ Ap w' B e v' (xs ++ news) ∧ Below B w w' := by
  rcases hv with hv | ⟨⟨A, rfl⟩, hr⟩
  · obtain ⟨Au, c, rfl, c1, c2, c3⟩ := hu
    rcases c3 with ⟨rfl, rfl⟩ | ⟨x, rfl, hc⟩
    · obtain rfl : news = [] := List.eq_nil_of_length_eq_zero (by omega)
      exact ⟨v, w, run_append_owned_none w B t ty e i 1 ht hi v _ xs hv, by rw [List.append_nil]; exact .inl hv, Below.refl _ _⟩
    · obtain ⟨v', w', hrun, r1, r2, _⟩ := run_append_own (P := P) w B t ty e i z 1 bytes ht hi hz hsize hby hzs (by omega) v _ xs hv x _ c news (by omega) hc h1 hmax hbytes hB
      refine ⟨v', w', hrun, .inl (by rw [List.length_append]; exact r1), (Below.refl _ _).grown r2 hB ?_⟩
      intro k hk
      exact (hv.lt k hk).1
  · by_cases hn : news.length = 0
    · obtain rfl : news = [] := List.eq_nil_of_length_eq_zero hn
      obtain ⟨Au, c, rfl, c1, c2, c3⟩ := hu
      refine ⟨.slice A xs.length xs.length, w, ?_, by rw [List.append_nil]; exact .inr ⟨⟨A, rfl⟩, hr⟩, Below.refl _ _⟩
      have hr2 := hr
      obtain ⟨A', c', hv', _, _, h3⟩ := hr2
      injection hv' with hA _ hc'
      subst hA; subst hc'
      rcases h3 with ⟨rfl, h0⟩ | ⟨x, rfl, _⟩
      · rcases c3 with ⟨rfl, rfl⟩ | ⟨y, rfl, _⟩ <;> simp [Builtin.append_, run_underlying ht, sizeOf, typeInfo, hi, Builtin.lenOf, Builtin.firstCells, h0, loadCells, loadCellsFrom]
      · rcases c3 with ⟨rfl, rfl⟩ | ⟨y, rfl, _⟩ <;> simp [Builtin.append_, run_underlying ht, sizeOf, typeInfo, hi, Builtin.lenOf, Builtin.firstCells, storeCells, loadCells, loadCellsFrom]
    · obtain ⟨b, o, c, rfl, c1, c2, _, hcu⟩ := hu.at_ (by omega)
      obtain ⟨A', c', hv', _, _, h3⟩ := hr
      injection hv' with hA _ hc'
      subst hA; subst hc'
      rcases h3 with ⟨rfl, h0⟩ | ⟨x, rfl, hcx⟩
      · obtain rfl : xs = [] := List.eq_nil_of_length_eq_zero (by omega)
        obtain ⟨v', w', hrun, r1, r2, _⟩ := run_append_own (P := P) w B t ty e i z 1 bytes ht hi hz hsize hby hzs (by omega) (.slice none 0 0) 0 [] (World.ownsRow_nil w B e 1) ⟨b, o, none⟩ news.length c news (by omega) (by simpa only [Addr.add_lit] using hcu) h1 (by simpa using hmax) (by simpa using hbytes) hB
        exact ⟨v', w', hrun, .inl (by rw [List.length_append]; exact r1), (Below.refl _ _).grown r2 hB (by simp [Value.ownBlock])⟩
      · obtain ⟨v', w', hrun, r1, r2⟩ := run_append_arg_grows (P := P) w t ty e i z 1 bytes ht hi hz hsize hby hzs (by omega) x xs.length xs.length xs (by omega) hcx ⟨b, o, none⟩ news.length c news (by omega) (by simpa only [Addr.add_lit] using hcu) (by omega) hmax hbytes
        refine ⟨v', w', hrun, Ap.mono (B := w.heap.size) (.inl (by rw [List.length_append]; exact r1)) hB, ((Below.refl _ _).grown r2 (Nat.le_refl _) (by simp)).mono hB⟩

theorem wp_append_ap {o : Oper} {a : Act} {K : Act → World → Prop} {Q : Exit → Act → World → Prop} (s x : Operand) (t : TypeId)
    (ho : o.op = .call { callee := .builtin .append, args := #[s, x], argTypes := #[t, t] })
    (B : Nat) (e : TypeId) (i : TypeInfo) (z : Value) (bytes : Nat) (ht : P.underlying t = some (.slice e)) (hi : P.info? e = some i) (hz : i.zero = some z)
    (hsize : i.size = 1) (hby : i.bytes = bytes) (hzs : z.cells.size = 1)
    (v u : Value) (xs news : List Value) (hs : a.eval s = v) (hx : a.eval x = u) (hv : Ap w B e v xs) (hu : Rd w u news) (h1 : ∀ x ∈ news, x.oneCell' = true)
    (hbytes : (xs.length + news.length) * bytes ≤ 140737488355328) (hmax : xs.length + news.length ≤ maxLen) (hB : B ≤ w.heap.size)
    (h : ∀ v' w', Ap w' B e v' (xs ++ news) → Below B w w' → K (a.put o.dst v') w') : o.wp P a w K Q := by
  obtain ⟨v', w', hr, h2, h3⟩ := run_append_ap (P := P) w B t o.type e i z bytes ht hi hz hsize hby hzs v u xs news hv hu h1 hbytes hmax hB
  unfold Oper.wp execOp
  simp only [ho, resolve, invoke, builtin, Sem.run_bind, Sem.run_pure, Result.andThen_ok, List.map_toArray, List.map_cons, List.map_nil, hs, hx, hr]
  exact h v' w' h2 h3

theorem wpList_append_ap {ops : Array Oper} {rest : List Oper} {o : Oper} {a : Act} {Q : Exit → Act → World → Prop} (hgd : o.guard = none) (s x : Operand) (t : TypeId)
    (ho : o.op = .call { callee := .builtin .append, args := #[s, x], argTypes := #[t, t] })
    (B : Nat) (e : TypeId) (i : TypeInfo) (z : Value) (bytes : Nat) (ht : P.underlying t = some (.slice e)) (hi : P.info? e = some i) (hz : i.zero = some z)
    (hsize : i.size = 1) (hby : i.bytes = bytes) (hzs : z.cells.size = 1)
    (v u : Value) (xs news : List Value) (hs : a.eval s = v) (hx : a.eval x = u) (hv : Ap w B e v xs) (hu : Rd w u news) (h1 : ∀ x ∈ news, x.oneCell' = true)
    (hbytes : (xs.length + news.length) * bytes ≤ 140737488355328) (hmax : xs.length + news.length ≤ maxLen) (hB : B ≤ w.heap.size)
    (h : ∀ v' w', Ap w' B e v' (xs ++ news) → Below B w w' → wpList P ops Q rest (a.put o.dst v') w') : wpList P ops Q (o :: rest) a w :=
  wpList_plain hgd fun _ hK => wp_append_ap w s x t ho B e i z bytes ht hi hz hsize hby hzs v u xs news hs hx hv hu h1 hbytes hmax hB fun v' w' h2 h3 => hK _ _ (h v' w' h2 h3)
end

/-- An append to a row of its own (or nil) gives a row of its own. -/
theorem run_append_oo {P : Program} (w : World) (B : Nat) (t ty e : TypeId) (i : TypeInfo) (z : Value) (bytes : Nat) (ht : P.underlying t = some (.slice e)) (hi : P.info? e = some i) (hz : i.zero = some z)
    (hsize : i.size = 1) (hby : i.bytes = bytes) (hzs : z.cells.size = 1)
    (v u : Value) (xs news : List Value) (hv : w.ownsRow B e 1 v xs.length xs) (hu : Rd w u news) (h1 : ∀ x ∈ news, x.oneCell' = true)
    (hbytes : (xs.length + news.length) * bytes ≤ 140737488355328) (hmax : xs.length + news.length ≤ maxLen) (hB : B ≤ w.heap.size) :
    ∃ v' w', (Builtin.append_ #[t, t] ty #[v, u]).run P w = .ok v' w' ∧ w'.ownsRow B e 1 v' (xs ++ news).length (xs ++ news) ∧ Below B w w' := by
  obtain ⟨Au, c, rfl, c1, c2, c3⟩ := hu
  rcases c3 with ⟨rfl, rfl⟩ | ⟨x, rfl, hc⟩
  · obtain rfl : news = [] := List.eq_nil_of_length_eq_zero (by omega)
    exact ⟨v, w, run_append_owned_none w B t ty e i 1 ht hi v _ xs hv, by rw [List.append_nil]; exact hv, Below.refl _ _⟩
  · obtain ⟨v', w', hrun, r1, r2, _⟩ := run_append_own (P := P) w B t ty e i z 1 bytes ht hi hz hsize hby hzs (by omega) v _ xs hv x _ c news (by omega) hc h1 hmax hbytes hB
    refine ⟨v', w', hrun, by rw [List.length_append]; exact r1, (Below.refl _ _).grown r2 hB ?_⟩
    intro k hk
    exact (hv.lt k hk).1

theorem wpList_append_oo {P : Program} {ops : Array Oper} {rest : List Oper} {o : Oper} {a : Act} {w : World} {Q : Exit → Act → World → Prop} (hgd : o.guard = none) (s x : Operand) (t : TypeId)
    (ho : o.op = .call { callee := .builtin .append, args := #[s, x], argTypes := #[t, t] })
    (B : Nat) (e : TypeId) (i : TypeInfo) (z : Value) (bytes : Nat) (ht : P.underlying t = some (.slice e)) (hi : P.info? e = some i) (hz : i.zero = some z)
    (hsize : i.size = 1) (hby : i.bytes = bytes) (hzs : z.cells.size = 1)
    (v u : Value) (xs news : List Value) (hs : a.eval s = v) (hx : a.eval x = u) (hv : w.ownsRow B e 1 v xs.length xs) (hu : Rd w u news) (h1 : ∀ x ∈ news, x.oneCell' = true)
    (hbytes : (xs.length + news.length) * bytes ≤ 140737488355328) (hmax : xs.length + news.length ≤ maxLen) (hB : B ≤ w.heap.size)
    (h : ∀ v' w', w'.ownsRow B e 1 v' (xs ++ news).length (xs ++ news) → Below B w w' → wpList P ops Q rest (a.put o.dst v') w') : wpList P ops Q (o :: rest) a w :=
  wpList_plain hgd fun _ hK => by
    obtain ⟨v', w', hr, h2, h3⟩ := run_append_oo (P := P) w B t o.type e i z bytes ht hi hz hsize hby hzs v u xs news hv hu h1 hbytes hmax hB
    unfold Oper.wp execOp
    simp only [ho, resolve, invoke, builtin, Sem.run_bind, Sem.run_pure, Result.andThen_ok, List.map_toArray, List.map_cons, List.map_nil, hs, hx, hr]
    exact hK _ _ (h v' w' h2 h3)

/-- append as one step of a region that draws its order. -/
theorem step_append_ap {P : Program} {ops : Array Oper} {o : Oper} {a : Act} {w : World} {K : Act → World → Prop} {Q : Exit → Act → World → Prop} {E : Prop}
    (hgd : o.guard = none) (s x : Operand) (t : TypeId)
    (ho : o.op = .call { callee := .builtin .append, args := #[s, x], argTypes := #[t, t] })
    (B : Nat) (e : TypeId) (i : TypeInfo) (z : Value) (bytes : Nat) (ht : P.underlying t = some (.slice e)) (hi : P.info? e = some i) (hz : i.zero = some z)
    (hsize : i.size = 1) (hby : i.bytes = bytes) (hzs : z.cells.size = 1)
    (v u : Value) (xs news : List Value) (hs : a.eval s = v) (hx : a.eval x = u) (hv : Ap w B e v xs) (hu : Rd w u news) (h1 : ∀ x ∈ news, x.oneCell' = true)
    (hbytes : (xs.length + news.length) * bytes ≤ 140737488355328) (hmax : xs.length + news.length ≤ maxLen) (hB : B ≤ w.heap.size)
    (h : ∀ v' w', Ap w' B e v' (xs ++ news) → Below B w w' → K (a.put o.dst v') w') : if Region.wanted o (yielded ops a.tmps) = true then Oper.wp P o a w K Q else E := by
  rw [if_pos (by simp [Region.wanted, hgd])]
  exact wp_append_ap w s x t ho B e i z bytes ht hi hz hsize hby hzs v u xs news hs hx hv hu h1 hbytes hmax hB h

/-! ### bytes -/
def bv (b : UInt8) : Value := .int .u8 (b.toNat : Int)
def Bs (w : World) (v : Value) (l : List UInt8) : Prop := Rd w v (l.map bv)
def ApB (w : World) (B : Nat) (v : Value) (l : List UInt8) : Prop := Ap w B 5 v (l.map bv)

/-- A byte list's value, its length under a name. -/
theorem Bs.open_ {w : World} {v : Value} {l : List UInt8} (h : Bs w v l) : ∃ A L c, v = .slice A L c ∧ Hid (L = l.length) ∧ L ≤ c ∧ c ≤ maxLen ∧ L ≤ l.length ∧ l.length ≤ L := by
  obtain ⟨A, c, rfl, h1, h2, h3⟩ := h
  rw [List.length_map] at h1
  exact ⟨A, l.length, c, by rw [List.length_map], rfl, h1, h2, Nat.le_refl _, Nat.le_refl _⟩

theorem one_bv {l : List UInt8} : ∀ x ∈ l.map bv, x.oneCell' = true := by
  intro x hx
  obtain ⟨b, _, rfl⟩ := List.mem_map.1 hx
  rfl

end Go.Proofs.Ytcakppdabolfiaa
