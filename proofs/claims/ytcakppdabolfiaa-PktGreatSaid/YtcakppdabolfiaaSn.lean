/-
  Slices whose elements have k cells each: what reads as n elements, what may be appended to without a write to older memory; append's law. No program is named here.
-/
import Derived.Test.YtcakppdabolfiaaSl
namespace Go.Proofs.Ytcakppdabolfiaa
open Go.RowKit
set_option linter.unusedVariables false

/-- The value reads in this world as n elements of k cells, the cells xs. -/
def Rn (k : Nat) (w : World) (v : Value) (n : Nat) (xs : List Value) : Prop :=
  ∃ A c, v = .slice A n c ∧ n ≤ c ∧ c ≤ maxLen ∧ xs.length = n * k ∧
    ((A = none ∧ c = 0) ∨ ∃ x, A = some x ∧ ∀ j u, xs[j]? = some u → w.cell? (x.add j) = some u)

theorem Rn.nil (k : Nat) (w : World) : Rn k w (.slice none 0 0) 0 [] := ⟨none, 0, rfl, Nat.le_refl _, Nat.zero_le _, by simp, .inl ⟨rfl, rfl⟩⟩

theorem Rn.len {k : Nat} {w : World} {v : Value} {n : Nat} {xs : List Value} (h : Rn k w v n xs) : n ≤ maxLen := by
  obtain ⟨A, c, _, h1, h2, _⟩ := h; omega
theorem Rn.cells {k : Nat} {w : World} {v : Value} {n : Nat} {xs : List Value} (h : Rn k w v n xs) : xs.length = n * k := by
  obtain ⟨A, c, _, h1, h2, h3, _⟩ := h; exact h3

/-- A list that is not empty: where it lies. -/
theorem Rn.at_ {k : Nat} {w : World} {v : Value} {n : Nat} {xs : List Value} (h : Rn k w v n xs) (hn : 0 < n) (hk : 0 < k) :
    ∃ b o c, v = .slice (some ⟨b, o, none⟩) n c ∧ n ≤ c ∧ c ≤ maxLen ∧ b < w.heap.size ∧ ∀ j u, xs[j]? = some u → w.cell? ⟨b, o + j, none⟩ = some u := by
  obtain ⟨A, c, rfl, h1, h2, hl, h3⟩ := h
  rcases h3 with ⟨_, rfl⟩ | ⟨x, rfl, hc⟩
  · omega
  · obtain ⟨b, off, spot⟩ := x
    have h0l : 0 < xs.length := by rw [hl]; exact Nat.mul_pos hn hk
    have h0 := hc 0 xs[0] (List.getElem?_eq_getElem h0l)
    have hspot : spot = none := by simpa [Addr.add] using World.cell?_spot h0
    subst hspot
    refine ⟨b, off, c, rfl, h1, h2, World.block_lt_of_cell? w ⟨b, off + 0, none⟩ (by simpa [Addr.add] using h0), fun j u hu => ?_⟩
    have := hc j u hu
    rwa [Addr.add_lit] at this

theorem Rn.keep {k : Nat} {w w' : World} {v : Value} {n : Nat} {xs : List Value} (h : Rn k w v n xs) (hb : Below w.heap.size w w') : Rn k w' v n xs := by
  obtain ⟨A, c, rfl, h1, h2, hl, h3⟩ := h
  refine ⟨A, c, rfl, h1, h2, hl, h3.imp id ?_⟩
  rintro ⟨x, rfl, hc⟩
  refine ⟨x, rfl, fun j u hu => ?_⟩
  have hj := hc j u hu
  rw [hb.cell (World.block_lt_of_cell? w _ hj)]
  exact hj

/-- May be appended to: a row of its own from block B on, or a slice with no room. -/
def An (k : Nat) (w : World) (B : Nat) (e : TypeId) (v : Value) (n : Nat) (xs : List Value) : Prop :=
  w.ownsRow B e k v n xs ∨ ((∃ A, v = .slice A n n) ∧ Rn k w v n xs)

theorem Rn.of_own {k : Nat} {w : World} {B : Nat} {e : TypeId} {v : Value} {n : Nat} {xs : List Value} (h : w.ownsRow B e k v n xs) : Rn k w v n xs := by
  have hh := h
  have hl : xs.length = n * k := h.1
  rcases h.2 with ⟨rfl, rfl⟩ | ⟨g, cap, cur, rfl, _, _, hnc, hcm, _⟩
  · obtain rfl : xs = [] := List.eq_nil_of_length_eq_zero (by rw [hl]; omega)
    exact Rn.nil k w
  · exact ⟨_, cap, rfl, hnc, hcm, hl, .inr ⟨_, rfl, hh.cells (g := g) rfl⟩⟩

theorem An.rd {k : Nat} {w : World} {B : Nat} {e : TypeId} {v : Value} {n : Nat} {xs : List Value} (h : An k w B e v n xs) : Rn k w v n xs := by
  rcases h with h | ⟨_, h⟩
  · exact Rn.of_own h
  · exact h

theorem An.nil (k : Nat) (w : World) (B : Nat) (e : TypeId) : An k w B e (.slice none 0 0) 0 [] := .inl (World.ownsRow_nil w B e k)

theorem ownN_keep {k : Nat} {w w' : World} {B : Nat} {e : TypeId} {v : Value} {n : Nat} {xs : List Value} (h : w.ownsRow B e k v n xs) (hb : Below w.heap.size w w') : w'.ownsRow B e k v n xs := by
  refine ⟨h.1, ?_⟩
  rcases h.2 with h0 | ⟨g, cap, cur, rfl, hg, hh, rest⟩
  · exact .inl h0
  · refine .inr ⟨g, cap, cur, rfl, hg, ?_, rest⟩
    rw [hb.block g (Array.getElem?_eq_some_iff.1 hh).1]; exact hh

theorem An.keep {k : Nat} {w w' : World} {B : Nat} {e : TypeId} {v : Value} {n : Nat} {xs : List Value} (h : An k w B e v n xs) (hb : Below w.heap.size w w') : An k w' B e v n xs := by
  rcases h with h | ⟨h1, h⟩
  · exact .inl (ownN_keep h hb)
  · exact .inr ⟨h1, h.keep hb⟩

theorem An.mono {k : Nat} {w : World} {B B' : Nat} {e : TypeId} {v : Value} {n : Nat} {xs : List Value} (h : An k w B e v n xs) (hB : B' ≤ B) : An k w B' e v n xs := by
  rcases h with ⟨h1, h⟩ | h
  · refine .inl ⟨h1, h.imp id ?_⟩
    rintro ⟨g, cap, cur, a, b, c⟩
    exact ⟨g, cap, cur, a, by omega, c⟩
  · exact .inr h

theorem Rn.alloc {k : Nat} {w : World} {v : Value} {n : Nat} {xs : List Value} (h : Rn k w v n xs) (o : Obj) : Rn k (w.alloc o) v n xs := h.keep ((Below.refl _ _).alloc (Nat.le_refl _) o)

/-- A row written out. -/
theorem An.lit {k : Nat} (w : World) (e : TypeId) (cs : Array Value) (n : Nat) (hn : cs.size = n * k) (hm : n ≤ maxLen) : An k (w.alloc (.cells cs e)) w.heap.size e (.slice (some ⟨w.heap.size, 0, none⟩) n n) n cs.toList :=
  .inl (World.ownsRow_lit (base := w.heap.size) (e := e) (size := k) w cs n (Nat.le_refl _) hm (by omega))

section
variable {P : Program} (w : World)

theorem run_append_an (k : Nat) (hk : 0 < k) (B : Nat) (t ty e : TypeId) (i : TypeInfo) (z : Value) (bytes : Nat) (ht : P.underlying t = some (.slice e)) (hi : P.info? e = some i) (hz : i.zero = some z)
    (hsize : i.size = k) (hby : i.bytes = bytes) (hzs : z.cells.size = k)
    (v u : Value) (n m : Nat) (xs news : List Value) (hv : An k w B e v n xs) (hu : Rn k w u m news) (h1 : ∀ x ∈ news, x.oneCell' = true)
    (hbytes : (n + m) * bytes ≤ 140737488355328) (hmax : n + m ≤ maxLen) (hB : B ≤ w.heap.size) :
    ∃ v' w', (Builtin.append_ #[t, t] ty #[v, u]).run P w = .ok v' w' ∧ An k w' B e v' (n + m) (xs ++ news) ∧ Below B w w' := by
  have hul := hu.cells
  rcases hv with hv | ⟨⟨A, rfl⟩, hr⟩
  · obtain ⟨Au, c, rfl, c1, c2, c4, c3⟩ := hu
    rcases c3 with ⟨rfl, rfl⟩ | ⟨x, rfl, hc⟩
    · obtain rfl : m = 0 := by omega
      obtain rfl : news = [] := List.eq_nil_of_length_eq_zero (by omega)
      exact ⟨v, w, run_append_owned_none w B t ty e i k ht hi v _ xs hv, by rw [List.append_nil, Nat.add_zero]; exact .inl hv, Below.refl _ _⟩
    · obtain ⟨v', w', hrun, r1, r2, _⟩ := run_append_own (P := P) w B t ty e i z k bytes ht hi hz hsize hby hzs hk v _ xs hv x m c news (by omega) hc h1 hmax hbytes hB
      refine ⟨v', w', hrun, .inl r1, (Below.refl _ _).grown r2 hB ?_⟩
      intro q hq
      exact (hv.lt q hq).1
  · by_cases hn : m = 0
    · subst hn
      obtain rfl : news = [] := List.eq_nil_of_length_eq_zero (by omega)
      obtain ⟨Au, c, rfl, c1, c2, _, c3⟩ := hu
      refine ⟨.slice A n n, w, ?_, by rw [List.append_nil, Nat.add_zero]; exact .inr ⟨⟨A, rfl⟩, hr⟩, Below.refl _ _⟩
      have hr2 := hr
      obtain ⟨A', c', hv', _, _, _, h3⟩ := hr2
      injection hv' with hA _ hc'
      subst hA; subst hc'
      rcases h3 with ⟨rfl, h0⟩ | ⟨x, rfl, _⟩
      · rcases c3 with ⟨rfl, rfl⟩ | ⟨y, rfl, _⟩ <;> simp [Builtin.append_, run_underlying ht, sizeOf, typeInfo, hi, Builtin.lenOf, Builtin.firstCells, h0, loadCells, loadCellsFrom]
      · rcases c3 with ⟨rfl, rfl⟩ | ⟨y, rfl, _⟩ <;> simp [Builtin.append_, run_underlying ht, sizeOf, typeInfo, hi, Builtin.lenOf, Builtin.firstCells, storeCells, loadCells, loadCellsFrom]
    · obtain ⟨b, o, c, rfl, c1, c2, _, hcu⟩ := hu.at_ (by omega) hk
      obtain ⟨A', c', hv', _, _, hl, h3⟩ := hr
      injection hv' with hA _ hc'
      subst hA; subst hc'
      rcases h3 with ⟨rfl, h0⟩ | ⟨x, rfl, hcx⟩
      · obtain rfl : n = 0 := by omega
        obtain rfl : xs = [] := List.eq_nil_of_length_eq_zero (by omega)
        obtain ⟨v', w', hrun, r1, r2, _⟩ := run_append_own (P := P) w B t ty e i z k bytes ht hi hz hsize hby hzs hk (.slice none 0 0) 0 [] (World.ownsRow_nil w B e k) ⟨b, o, none⟩ m c news (by omega) (by simpa only [Addr.add_lit] using hcu) h1 (by simpa using hmax) (by simpa using hbytes) hB
        exact ⟨v', w', hrun, .inl r1, (Below.refl _ _).grown r2 hB (by simp [Value.ownBlock])⟩
      · obtain ⟨v', w', hrun, r1, r2⟩ := run_append_arg_grows (P := P) w t ty e i z k bytes ht hi hz hsize hby hzs hk x n n xs hl hcx ⟨b, o, none⟩ m c news (by omega) (by simpa only [Addr.add_lit] using hcu) (by omega) hmax hbytes
        refine ⟨v', w', hrun, An.mono (B := w.heap.size) (.inl r1) hB, ((Below.refl _ _).grown r2 (Nat.le_refl _) (by simp)).mono hB⟩

theorem wp_append_an (k : Nat) (hk : 0 < k) {o : Oper} {a : Act} {K : Act → World → Prop} {Q : Exit → Act → World → Prop} (s x : Operand) (t : TypeId)
    (ho : o.op = .call { callee := .builtin .append, args := #[s, x], argTypes := #[t, t] })
    (B : Nat) (e : TypeId) (i : TypeInfo) (z : Value) (bytes : Nat) (ht : P.underlying t = some (.slice e)) (hi : P.info? e = some i) (hz : i.zero = some z)
    (hsize : i.size = k) (hby : i.bytes = bytes) (hzs : z.cells.size = k)
    (v u : Value) (n m : Nat) (xs news : List Value) (hs : a.eval s = v) (hx : a.eval x = u) (hv : An k w B e v n xs) (hu : Rn k w u m news) (h1 : ∀ x ∈ news, x.oneCell' = true)
    (hbytes : (n + m) * bytes ≤ 140737488355328) (hmax : n + m ≤ maxLen) (hB : B ≤ w.heap.size)
    (h : ∀ v' w', An k w' B e v' (n + m) (xs ++ news) → Below B w w' → K (a.put o.dst v') w') : o.wp P a w K Q := by
  obtain ⟨v', w', hr, h2, h3⟩ := run_append_an (P := P) w k hk B t o.type e i z bytes ht hi hz hsize hby hzs v u n m xs news hv hu h1 hbytes hmax hB
  unfold Oper.wp execOp
  simp only [ho, resolve, invoke, builtin, Sem.run_bind, Sem.run_pure, Result.andThen_ok, List.map_toArray, List.map_cons, List.map_nil, hs, hx, hr]
  exact h v' w' h2 h3

theorem wpList_append_an (k : Nat) (hk : 0 < k) {ops : Array Oper} {rest : List Oper} {o : Oper} {a : Act} {Q : Exit → Act → World → Prop} (hgd : o.guard = none) (s x : Operand) (t : TypeId)
    (ho : o.op = .call { callee := .builtin .append, args := #[s, x], argTypes := #[t, t] })
    (B : Nat) (e : TypeId) (i : TypeInfo) (z : Value) (bytes : Nat) (ht : P.underlying t = some (.slice e)) (hi : P.info? e = some i) (hz : i.zero = some z)
    (hsize : i.size = k) (hby : i.bytes = bytes) (hzs : z.cells.size = k)
    (v u : Value) (n m : Nat) (xs news : List Value) (hs : a.eval s = v) (hx : a.eval x = u) (hv : An k w B e v n xs) (hu : Rn k w u m news) (h1 : ∀ x ∈ news, x.oneCell' = true)
    (hbytes : (n + m) * bytes ≤ 140737488355328) (hmax : n + m ≤ maxLen) (hB : B ≤ w.heap.size)
    (h : ∀ v' w', An k w' B e v' (n + m) (xs ++ news) → Below B w w' → wpList P ops Q rest (a.put o.dst v') w') : wpList P ops Q (o :: rest) a w :=
  wpList_plain hgd fun _ hK => wp_append_an w k hk s x t ho B e i z bytes ht hi hz hsize hby hzs v u n m xs news hs hx hv hu h1 hbytes hmax hB fun v' w' h2 h3 => hK _ _ (h v' w' h2 h3)

/-- append as one step of a region that draws its order. -/
theorem step_append_an (k : Nat) (hk : 0 < k) {ops : Array Oper} {o : Oper} {a : Act} {K : Act → World → Prop} {Q : Exit → Act → World → Prop} {E : Prop}
    (hgd : o.guard = none) (s x : Operand) (t : TypeId)
    (ho : o.op = .call { callee := .builtin .append, args := #[s, x], argTypes := #[t, t] })
    (B : Nat) (e : TypeId) (i : TypeInfo) (z : Value) (bytes : Nat) (ht : P.underlying t = some (.slice e)) (hi : P.info? e = some i) (hz : i.zero = some z)
    (hsize : i.size = k) (hby : i.bytes = bytes) (hzs : z.cells.size = k)
    (v u : Value) (n m : Nat) (xs news : List Value) (hs : a.eval s = v) (hx : a.eval x = u) (hv : An k w B e v n xs) (hu : Rn k w u m news) (h1 : ∀ x ∈ news, x.oneCell' = true)
    (hbytes : (n + m) * bytes ≤ 140737488355328) (hmax : n + m ≤ maxLen) (hB : B ≤ w.heap.size)
    (h : ∀ v' w', An k w' B e v' (n + m) (xs ++ news) → Below B w w' → K (a.put o.dst v') w') : if Region.wanted o (yielded ops a.tmps) = true then Oper.wp P o a w K Q else E := by
  rw [if_pos (by simp [Region.wanted, hgd])]
  exact wp_append_an w k hk s x t ho B e i z bytes ht hi hz hsize hby hzs v u n m xs news hs hx hv hu h1 hbytes hmax hB h
end

end Go.Proofs.Ytcakppdabolfiaa
