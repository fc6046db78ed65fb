/-
  Byte rows of their own: appended to, by bytes and by strings; read, stored into.
-/
import Derived.Test.YtcakppdabolfiaaSl
import Derived.Test.YtcakppdabolfiaaConv
import Derived.Lib.AppendStr
import Derived.Deep.OwnRows
namespace Go.Proofs.Ytcakppdabolfiaa
open Go.RowKit
set_option linter.unusedVariables false

/-- The bytes l in a row of its own, from block B on (or nil). -/
def OwB (w : World) (B : Nat) (v : Value) (l : List UInt8) : Prop := w.ownsRow B 5 1 v (l.map bv).length (l.map bv)
section
variable {w w' : World} {B : Nat} {v : Value} {l : List UInt8}
theorem OwB.nil (w : World) (B : Nat) : OwB w B (.slice none 0 0) [] := World.ownsRow_nil w B 5 1
theorem OwB.apB (h : OwB w B v l) : ApB w B v l := .inl h
theorem OwB.bs (h : OwB w B v l) : Bs w v l := Rd.of_own h
theorem OwB.lt (h : OwB w B v l) {k : Nat} (hk : v.ownBlock = some k) : k < w.heap.size := by
  rcases h.2 with ⟨rfl, _⟩ | ⟨g, cap, cur, rfl, hg, hh, rest⟩
  · simp [Value.ownBlock] at hk
  · simp only [Value.ownBlock, Option.some.injEq] at hk
    subst hk
    exact (Array.getElem?_eq_some_iff.1 hh).1
theorem OwB.ge (h : OwB w B v l) {k : Nat} (hk : v.ownBlock = some k) : B ≤ k := by
  rcases h.2 with ⟨rfl, _⟩ | ⟨g, cap, cur, rfl, hg, hh, rest⟩
  · simp [Value.ownBlock] at hk
  · simp only [Value.ownBlock, Option.some.injEq] at hk
    subst hk
    exact hg
theorem OwB.kept (h : OwB w B v l) (hb : ∀ k, v.ownBlock = some k → w'.heap[k]? = w.heap[k]?) : OwB w' B v l := by
  refine ⟨h.1, ?_⟩
  rcases h.2 with h0 | ⟨g, cap, cur, rfl, hg, hh, rest⟩
  · exact .inl h0
  · exact .inr ⟨g, cap, cur, rfl, hg, by rw [hb g rfl]; exact hh, rest⟩
theorem OwB.keep (h : OwB w B v l) (hb : Below w.heap.size w w') : OwB w' B v l := h.kept fun k hk => hb.block k (h.lt hk)
theorem OwB.alloc (h : OwB w B v l) (o : Obj) : OwB (w.alloc o) B v l := h.keep ((Below.refl _ _).alloc (Nat.le_refl _) o)
theorem OwB.drew (h : OwB w B v l) : OwB w.drew B v l := h.keep (Below.refl _ _).drew
theorem OwB.mono {B' : Nat} (h : OwB w B v l) (hB : B' ≤ B) : OwB w B' v l := by
  refine ⟨h.1, h.2.imp id ?_⟩
  rintro ⟨g, cap, cur, a, b, c⟩
  exact ⟨g, cap, cur, a, by omega, c⟩
/-- A block of another type is another block. -/
theorem OwB.ne (h : OwB w B v l) {g : Nat} {t : TypeId} {n : Nat} {F : Nat → Value} (hr : w.rowIs g t n F) (ht : t ≠ 5) : v.ownBlock ≠ some g := by
  intro e
  obtain ⟨c, hc, _⟩ := hr
  rcases h.2 with ⟨rfl, _⟩ | ⟨g', cap, cur, rfl, hg, hh, rest⟩
  · simp [Value.ownBlock] at e
  · simp only [Value.ownBlock, Option.some.injEq] at e
    subst e
    rw [hc] at hh
    injection hh with hh
    injection hh with _ h2 _
    exact ht h2
theorem oneB {l : List UInt8} : ∀ x ∈ l.map bv, x.oneCell' = true := one_bv
theorem OwB.snoc {n : Int} {x : Value} (h : w.ownsRow B 5 1 x (l.map bv ++ #[Value.int .u8 n].toList).length (l.map bv ++ #[Value.int .u8 n].toList)) (b : UInt8) (hb : n = (b.toNat : Int)) : OwB w B x (l ++ [b]) := by
  unfold OwB
  rw [List.map_append, List.map_cons, List.map_nil]
  subst hb
  exact h
theorem OwB.str {n : Nat} {x : Value} {s : ByteArray} (h : w.ownsRow B 5 1 x n (l.map bv ++ Lib.strCells s)) : OwB w B x (l ++ s.data.toList) := by
  have e : l.map bv ++ Lib.strCells s = (l ++ s.data.toList).map bv := by rw [List.map_append]; rfl
  rw [e] at h
  have hn : n = ((l ++ s.data.toList).map bv).length := by have := h.1; omega
  subst hn
  exact h
end
section
variable {P : Program} (w : World)
/-- An append to a row of its own: a row of its own; what else stood stands. -/
theorem run_append_og (B : Nat) (t ty e : TypeId) (i : TypeInfo) (z : Value) (bytes : Nat) (ht : P.underlying t = some (.slice e)) (hi : P.info? e = some i) (hz : i.zero = some z)
    (hsize : i.size = 1) (hby : i.bytes = bytes) (hzs : z.cells.size = 1)
    (v u : Value) (xs news : List Value) (hv : w.ownsRow B e 1 v xs.length xs) (hu : Rd w u news) (h1 : ∀ x ∈ news, x.oneCell' = true)
    (hbytes : (xs.length + news.length) * bytes ≤ 140737488355328) (hmax : xs.length + news.length ≤ maxLen) (hB : B ≤ w.heap.size) :
    ∃ v' w', (Builtin.append_ #[t, t] ty #[v, u]).run P w = .ok v' w' ∧ w'.ownsRow B e 1 v' (xs ++ news).length (xs ++ news) ∧ Below B w w' ∧ w.grownBy w' v.ownBlock := by
  obtain ⟨Au, c, rfl, c1, c2, c3⟩ := hu
  rcases c3 with ⟨rfl, rfl⟩ | ⟨x, rfl, hc⟩
  · obtain rfl : news = [] := List.eq_nil_of_length_eq_zero (by omega)
    exact ⟨v, w, run_append_owned_none w B t ty e i 1 ht hi v _ xs hv, by rw [List.append_nil]; exact hv, Below.refl _ _, ⟨rfl, rfl, rfl, Nat.le_refl _, fun _ _ _ => rfl⟩⟩
  · obtain ⟨v', w', hrun, r1, r2, _⟩ := run_append_own (P := P) w B t ty e i z 1 bytes ht hi hz hsize hby hzs (by omega) v _ xs hv x _ c news (by omega) hc h1 hmax hbytes hB
    refine ⟨v', w', hrun, by rw [List.length_append]; exact r1, (Below.refl _ _).grown r2 hB ?_, r2⟩
    intro k hk
    exact (hv.lt k hk).1
theorem wp_append_og {o : Oper} {a : Act} {K : Act → World → Prop} {Q : Exit → Act → World → Prop} (s x : Operand) (t : TypeId)
    (ho : o.op = .call { callee := .builtin .append, args := #[s, x], argTypes := #[t, t] })
    (B : Nat) (e : TypeId) (i : TypeInfo) (z : Value) (bytes : Nat) (ht : P.underlying t = some (.slice e)) (hi : P.info? e = some i) (hz : i.zero = some z)
    (hsize : i.size = 1) (hby : i.bytes = bytes) (hzs : z.cells.size = 1)
    (v u : Value) (xs news : List Value) (hs : a.eval s = v) (hx : a.eval x = u) (hv : w.ownsRow B e 1 v xs.length xs) (hu : Rd w u news) (h1 : ∀ x ∈ news, x.oneCell' = true)
    (hbytes : (xs.length + news.length) * bytes ≤ 140737488355328) (hmax : xs.length + news.length ≤ maxLen) (hB : B ≤ w.heap.size)
    (h : ∀ v' w', w'.ownsRow B e 1 v' (xs ++ news).length (xs ++ news) → Below B w w' → w.grownBy w' v.ownBlock → K (a.put o.dst v') w') : o.wp P a w K Q := by
  obtain ⟨v', w', hr, h2, h3, h4⟩ := run_append_og (P := P) w B t o.type e i z bytes ht hi hz hsize hby hzs v u xs news hv hu h1 hbytes hmax hB
  unfold Oper.wp execOp
  simp only [ho, resolve, invoke, builtin, Sem.run_bind, Sem.run_pure, Result.andThen_ok, List.map_toArray, List.map_cons, List.map_nil, hs, hx, hr]
  exact h v' w' h2 h3 h4
theorem wpList_append_og {ops : Array Oper} {rest : List Oper} {o : Oper} {a : Act} {Q : Exit → Act → World → Prop} (hgd : o.guard = none) (s x : Operand) (t : TypeId)
    (ho : o.op = .call { callee := .builtin .append, args := #[s, x], argTypes := #[t, t] })
    (B : Nat) (e : TypeId) (i : TypeInfo) (z : Value) (bytes : Nat) (ht : P.underlying t = some (.slice e)) (hi : P.info? e = some i) (hz : i.zero = some z)
    (hsize : i.size = 1) (hby : i.bytes = bytes) (hzs : z.cells.size = 1)
    (v u : Value) (xs news : List Value) (hs : a.eval s = v) (hx : a.eval x = u) (hv : w.ownsRow B e 1 v xs.length xs) (hu : Rd w u news) (h1 : ∀ x ∈ news, x.oneCell' = true)
    (hbytes : (xs.length + news.length) * bytes ≤ 140737488355328) (hmax : xs.length + news.length ≤ maxLen) (hB : B ≤ w.heap.size)
    (h : ∀ v' w', w'.ownsRow B e 1 v' (xs ++ news).length (xs ++ news) → Below B w w' → w.grownBy w' v.ownBlock → wpList P ops Q rest (a.put o.dst v') w') : wpList P ops Q (o :: rest) a w :=
  wpList_plain hgd fun _ hK => wp_append_og w s x t ho B e i z bytes ht hi hz hsize hby hzs v u xs news hs hx hv hu h1 hbytes hmax hB fun v' w' h2 h3 h4 => hK _ _ (h v' w' h2 h3 h4)
end
theorem step_append_og {P : Program} {ops : Array Oper} {o : Oper} {a : Act} {w : World} {K : Act → World → Prop} {Q : Exit → Act → World → Prop} {E : Prop}
    (hgd : o.guard = none) (s x : Operand) (t : TypeId)
    (ho : o.op = .call { callee := .builtin .append, args := #[s, x], argTypes := #[t, t] })
    (B : Nat) (e : TypeId) (i : TypeInfo) (z : Value) (bytes : Nat) (ht : P.underlying t = some (.slice e)) (hi : P.info? e = some i) (hz : i.zero = some z)
    (hsize : i.size = 1) (hby : i.bytes = bytes) (hzs : z.cells.size = 1)
    (v u : Value) (xs news : List Value) (hs : a.eval s = v) (hx : a.eval x = u) (hv : w.ownsRow B e 1 v xs.length xs) (hu : Rd w u news) (h1 : ∀ x ∈ news, x.oneCell' = true)
    (hbytes : (xs.length + news.length) * bytes ≤ 140737488355328) (hmax : xs.length + news.length ≤ maxLen) (hB : B ≤ w.heap.size)
    (h : ∀ v' w', w'.ownsRow B e 1 v' (xs ++ news).length (xs ++ news) → Below B w w' → w.grownBy w' v.ownBlock → K (a.put o.dst v') w') : if Region.wanted o (yielded ops a.tmps) = true then Oper.wp P o a w K Q else E := by
  rw [if_pos (by simp [Region.wanted, hgd])]
  exact wp_append_og w s x t ho B e i z bytes ht hi hz hsize hby hzs v u xs news hs hx hv hu h1 hbytes hmax hB h

end Go.Proofs.Ytcakppdabolfiaa
