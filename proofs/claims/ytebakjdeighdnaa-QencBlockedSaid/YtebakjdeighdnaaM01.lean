/-
  Texts put together: NumA, Sl, NumB, NumC, NumD, NumG, Step, NumH, NumI, HuffMath, HuffA, HuffB.
-/
import Derived.Test.YtebakjdeighdnaaRows
import Derived.WalkKit
import Derived.WalkSpells
import Derived.WalkLawsBesides
import Derived.Lib.MinMax
import Derived.Lib.Hide
import Derived.Handy
import Derived.Maps.AppendAt
import Derived.Deep.AppendLies
import Derived.Deep.Draws
import Derived.Deep.WholeRow

/-
  Contracts of the small functions of package num: clamp, fullPrefix, varClass, VarLen; and of bifoldref1.VarLen.
-/
namespace Go.Proofs.Ytebakjdeighdnaa
open Go.RowKit
set_option linter.unusedVariables false

theorem clamp_any (n lo hi : Int) (w : World) :
    Calls Try.prog 69 #[.int .i64 n, .int .i64 lo, .int .i64 hi] w fun e w' => e = .returned (.int .i64 (min (max n lo) hi)) ∧ w = w' := by
  go_enter Try.func69, Try.ntmps69
  go_wp2
  go_ret
  exact ⟨rfl, rfl⟩


def full (k : Int) : Int := 2 ^ k.toNat - 1

theorem full_wrap (k : Int) (h0 : 1 ≤ k) (h1 : k ≤ 8) : IntKind.u64.wrap (IntKind.u64.wrap (2 ^ k.toNat) - 1) = full k := by
  obtain ⟨n, rfl⟩ := Int.eq_ofNat_of_zero_le (by omega : 0 ≤ k)
  have : n = 1 ∨ n = 2 ∨ n = 3 ∨ n = 4 ∨ n = 5 ∨ n = 6 ∨ n = 7 ∨ n = 8 := by omega
  rcases this with rfl | rfl | rfl | rfl | rfl | rfl | rfl | rfl <;> rfl

theorem ret_int {k : IntKind} {a b : Int} (h : a = b) : Ending.returned (.int k a) = .returned (.int k b) := by rw [h]

theorem fullPrefix_any (n : Int) (w : World) :
    Calls Try.prog 53 #[.int .i64 n] w fun e w' => e = .returned (.int .u64 (full (min (max n 1) 8))) ∧ w = w' := by
  have h0 : 0 ≤ min (max n 1) 8 := by omega
  have h1 : min (max n 1) 8 ≤ 8 := by omega
  go_enter Try.func53, Try.ntmps53
  go_wp2_with (go_at_call 69; refine (clamp_any _ _ _ _).mono ?_; rintro e w' ⟨rfl, rfl⟩)
  go_ret
  exact ⟨ret_int (full_wrap _ (by omega) (by omega)), rfl⟩


def cls (v : Int) : Int := if v < 64 then 0 else if v < 16384 then 1 else if v < 1073741824 then 2 else if v < 4611686018427387904 then 3 else 0
def clsLen (v : Int) : Int := if v < 64 then 1 else if v < 16384 then 2 else if v < 1073741824 then 4 else if v < 4611686018427387904 then 8 else 0

end Go.Proofs.Ytebakjdeighdnaa

/-
  Slices of one-cell elements, as lists: what reads as a list, what may be appended to without a write to older memory; the laws for append, len, index over them. No program is named here.
-/
namespace Go.Proofs.Ytebakjdeighdnaa
open Go.RowKit
set_option linter.unusedVariables false

/-- The value reads in this world as the list xs. -/
def Rd (w : World) (v : Value) (xs : List Value) : Prop :=
  ∃ A c, v = .slice A xs.length c ∧ xs.length ≤ c ∧ c ≤ maxLen ∧
    ((A = none ∧ c = 0) ∨ ∃ x, A = some x ∧ ∀ j u, xs[j]? = some u → w.cell? (x.add j) = some u)

theorem Rd.nil (w : World) : Rd w (.slice none 0 0) [] := ⟨none, 0, rfl, Nat.le_refl _, Nat.zero_le _, .inl ⟨rfl, rfl⟩⟩

theorem Rd.len {w : World} {v : Value} {xs : List Value} (h : Rd w v xs) : xs.length ≤ maxLen := by
  obtain ⟨A, c, _, h1, h2, _⟩ := h; omega

/-- A list that is not empty: where it lies. -/
theorem Rd.at_ {w : World} {v : Value} {xs : List Value} (h : Rd w v xs) (hn : 0 < xs.length) :
    ∃ b o c, v = .slice (some ⟨b, o, none⟩) xs.length c ∧ xs.length ≤ c ∧ c ≤ maxLen ∧ b < w.heap.size ∧ ∀ j u, xs[j]? = some u → w.cell? ⟨b, o + j, none⟩ = some u := by
  obtain ⟨A, c, rfl, h1, h2, h3⟩ := h
  rcases h3 with ⟨_, rfl⟩ | ⟨x, rfl, hc⟩
  · omega
  · obtain ⟨b, off, spot⟩ := x
    have h0 := hc 0 xs[0] (List.getElem?_eq_getElem hn)
    have hspot : spot = none := by simpa [Addr.add] using World.cell?_spot h0
    subst hspot
    refine ⟨b, off, c, rfl, h1, h2, World.block_lt_of_cell? w ⟨b, off + 0, none⟩ (by simpa [Addr.add] using h0), fun j u hu => ?_⟩
    have := hc j u hu
    rwa [Addr.add_lit] at this

/-- What is read depends on the cells alone. -/
theorem Rd.keep {w w' : World} {v : Value} {xs : List Value} (h : Rd w v xs) (hb : Below w.heap.size w w') : Rd w' v xs := by
  obtain ⟨A, c, rfl, h1, h2, h3⟩ := h
  refine ⟨A, c, rfl, h1, h2, h3.imp id ?_⟩
  rintro ⟨x, rfl, hc⟩
  refine ⟨x, rfl, fun j u hu => ?_⟩
  have hj := hc j u hu
  rw [hb.cell (World.block_lt_of_cell? w _ hj)]
  exact hj

theorem below_drewN {B : Nat} {a w : World} (h : Below B a w) (n : Nat) : Below B a (w.drewN n) := ⟨h.os, h.tape, h.output, h.size, h.block⟩

/-- May be appended to: a row of its own from block B on, or a slice with no room. -/
def Ap (w : World) (B : Nat) (e : TypeId) (v : Value) (xs : List Value) : Prop :=
  w.ownsRow B e 1 v xs.length xs ∨ ((∃ A, v = .slice A xs.length xs.length) ∧ Rd w v xs)

theorem Rd.of_own {w : World} {B : Nat} {e : TypeId} {v : Value} {xs : List Value} (h : w.ownsRow B e 1 v xs.length xs) : Rd w v xs := by
  have hh := h
  rcases h.2 with ⟨rfl, h0⟩ | ⟨g, cap, cur, rfl, _, _, hnc, hcm, _⟩
  · obtain rfl : xs = [] := List.eq_nil_of_length_eq_zero h0
    exact Rd.nil w
  · exact ⟨_, cap, rfl, hnc, hcm, .inr ⟨_, rfl, hh.cells (g := g) rfl⟩⟩

theorem Ap.rd {w : World} {B : Nat} {e : TypeId} {v : Value} {xs : List Value} (h : Ap w B e v xs) : Rd w v xs := by
  rcases h with h | ⟨_, h⟩
  · exact Rd.of_own h
  · exact h

theorem Ap.nil (w : World) (B : Nat) (e : TypeId) : Ap w B e (.slice none 0 0) [] := .inl (World.ownsRow_nil w B e 1)

theorem own_keep {w w' : World} {B : Nat} {e : TypeId} {v : Value} {n : Nat} {xs : List Value} (h : w.ownsRow B e 1 v n xs) (hb : Below w.heap.size w w') : w'.ownsRow B e 1 v n xs := by
  refine ⟨h.1, ?_⟩
  rcases h.2 with h0 | ⟨g, cap, cur, rfl, hg, hh, rest⟩
  · exact .inl h0
  · refine .inr ⟨g, cap, cur, rfl, hg, ?_, rest⟩
    rw [hb.block g (Array.getElem?_eq_some_iff.1 hh).1]; exact hh

theorem Ap.keep {w w' : World} {B : Nat} {e : TypeId} {v : Value} {xs : List Value} (h : Ap w B e v xs) (hb : Below w.heap.size w w') : Ap w' B e v xs := by
  rcases h with h | ⟨h1, h⟩
  · exact .inl (own_keep h hb)
  · exact .inr ⟨h1, h.keep hb⟩

theorem Ap.mono {w : World} {B B' : Nat} {e : TypeId} {v : Value} {xs : List Value} (h : Ap w B e v xs) (hB : B' ≤ B) : Ap w B' e v xs := by
  rcases h with ⟨h1, h⟩ | h
  · refine .inl ⟨h1, h.imp id ?_⟩
    rintro ⟨g, cap, cur, a, b, c⟩
    exact ⟨g, cap, cur, a, by omega, c⟩
  · exact .inr h

theorem Ap.drew {w : World} {B : Nat} {e : TypeId} {v : Value} {xs : List Value} (h : Ap w B e v xs) : Ap w.drew B e v xs := h.keep (Below.refl _ _).drew
theorem Rd.drew {w : World} {v : Value} {xs : List Value} (h : Rd w v xs) : Rd w.drew v xs := h.keep (Below.refl _ _).drew
theorem Ap.alloc {w : World} {B : Nat} {e : TypeId} {v : Value} {xs : List Value} (h : Ap w B e v xs) (o : Obj) : Ap (w.alloc o) B e v xs := h.keep ((Below.refl _ _).alloc (Nat.le_refl _) o)
theorem Rd.alloc {w : World} {v : Value} {xs : List Value} (h : Rd w v xs) (o : Obj) : Rd (w.alloc o) v xs := h.keep ((Below.refl _ _).alloc (Nat.le_refl _) o)

/-- A row written out. -/
theorem Rd.lit (w : World) (e : TypeId) (cs : Array Value) (n : Nat) (hn : cs.size = n) (hm : n ≤ maxLen) : Rd (w.alloc (.cells cs e)) (.slice (some ⟨w.heap.size, 0, none⟩) n n) cs.toList := by
  have h := World.ownsRow_lit (base := 0) (e := e) (size := 1) w cs n (Nat.zero_le _) hm (by omega)
  have hl : cs.toList.length = n := by simpa using hn
  rw [← hl] at h ⊢
  exact Rd.of_own h
theorem Ap.lit (w : World) (e : TypeId) (cs : Array Value) (n : Nat) (hn : cs.size = n) (hm : n ≤ maxLen) : Ap (w.alloc (.cells cs e)) w.heap.size e (.slice (some ⟨w.heap.size, 0, none⟩) n n) cs.toList := by
  have h := World.ownsRow_lit (base := w.heap.size) (e := e) (size := 1) w cs n (Nat.le_refl _) hm (by omega)
  have hl : cs.toList.length = n := by simpa using hn
  rw [← hl] at h ⊢
  exact .inl h

section
variable {P : Program} (w : World)

theorem run_append_ap (B : Nat) (t ty e : TypeId) (i : TypeInfo) (z : Value) (bytes : Nat) (ht : P.underlying t = some (.slice e)) (hi : P.info? e = some i) (hz : i.zero = some z)
    (hsize : i.size = 1) (hby : i.bytes = bytes) (hzs : z.cells.size = 1)
    (v u : Value) (xs news : List Value) (hv : Ap w B e v xs) (hu : Rd w u news) (h1 : ∀ x ∈ news, x.oneCell' = true)
    (hbytes : (xs.length + news.length) * bytes ≤ 140737488355328) (hmax : xs.length + news.length ≤ maxLen) (hB : B ≤ w.heap.size) :
    ∃ v' w', (Builtin.append_ #[t, t] ty #[v, u]).run P w = .ok v' w' ∧ Ap w' B e v' (xs ++ news) ∧ Below B w w' := by
  rcases hv with hv | ⟨⟨A, rfl⟩, hr⟩
  · obtain ⟨Au, c, rfl, c1, c2, c3⟩ := hu
    rcases c3 with ⟨rfl, rfl⟩ | ⟨x, rfl, hc⟩
    · obtain rfl : news = [] := List.eq_nil_of_length_eq_zero (by omega)
      exact ⟨v, w, run_append_owned_none w B t ty e i 1 ht hi v _ xs hv, by rw [List.append_nil]; exact .inl hv, Below.refl _ _⟩
    · obtain ⟨v', w', hrun, r1, r2, _⟩ := run_append_own (P := P) w B t ty e i z 1 bytes ht hi hz hsize hby hzs (by omega) v _ xs hv x _ c news (by omega) hc h1 hmax hbytes hB
      refine ⟨v', w', hrun, .inl (by rw [List.length_append]; exact r1), (Below.refl _ _).grown r2 hB ?_⟩
      intro k hk
      exact (hv.lt k hk).1
  · by_cases hn : news.length = 0
    · obtain rfl : news = [] := List.eq_nil_of_length_eq_zero hn
      obtain ⟨Au, c, rfl, c1, c2, c3⟩ := hu
      refine ⟨.slice A xs.length xs.length, w, ?_, by rw [List.append_nil]; exact .inr ⟨⟨A, rfl⟩, hr⟩, Below.refl _ _⟩
      have hr2 := hr
      obtain ⟨A', c', hv', _, _, h3⟩ := hr2
      injection hv' with hA _ hc'
      subst hA; subst hc'
      rcases h3 with ⟨rfl, h0⟩ | ⟨x, rfl, _⟩
      · rcases c3 with ⟨rfl, rfl⟩ | ⟨y, rfl, _⟩ <;> simp [Builtin.append_, run_underlying ht, sizeOf, typeInfo, hi, Builtin.lenOf, Builtin.firstCells, h0, loadCells, loadCellsFrom]
      · rcases c3 with ⟨rfl, rfl⟩ | ⟨y, rfl, _⟩ <;> simp [Builtin.append_, run_underlying ht, sizeOf, typeInfo, hi, Builtin.lenOf, Builtin.firstCells, storeCells, loadCells, loadCellsFrom]
    · obtain ⟨b, o, c, rfl, c1, c2, _, hcu⟩ := hu.at_ (by omega)
      obtain ⟨A', c', hv', _, _, h3⟩ := hr
      injection hv' with hA _ hc'
      subst hA; subst hc'
      rcases h3 with ⟨rfl, h0⟩ | ⟨x, rfl, hcx⟩
      · obtain rfl : xs = [] := List.eq_nil_of_length_eq_zero (by omega)
        obtain ⟨v', w', hrun, r1, r2, _⟩ := run_append_own (P := P) w B t ty e i z 1 bytes ht hi hz hsize hby hzs (by omega) (.slice none 0 0) 0 [] (World.ownsRow_nil w B e 1) ⟨b, o, none⟩ news.length c news (by omega) (by simpa only [Addr.add_lit] using hcu) h1 (by simpa using hmax) (by simpa using hbytes) hB
        exact ⟨v', w', hrun, .inl (by rw [List.length_append]; exact r1), (Below.refl _ _).grown r2 hB (by simp [Value.ownBlock])⟩
      · obtain ⟨v', w', hrun, r1, r2⟩ := run_append_arg_grows (P := P) w t ty e i z 1 bytes ht hi hz hsize hby hzs (by omega) x xs.length xs.length xs (by omega) hcx ⟨b, o, none⟩ news.length c news (by omega) (by simpa only [Addr.add_lit] using hcu) (by omega) hmax hbytes
        refine ⟨v', w', hrun, Ap.mono (B := w.heap.size) (.inl (by rw [List.length_append]; exact r1)) hB, ((Below.refl _ _).grown r2 (Nat.le_refl _) (by simp)).mono hB⟩

theorem wp_append_ap {o : Oper} {a : Act} {K : Act → World → Prop} {Q : Exit → Act → World → Prop} (s x : Operand) (t : TypeId)
    (ho : o.op = .call { callee := .builtin .append, args := #[s, x], argTypes := #[t, t] })
    (B : Nat) (e : TypeId) (i : TypeInfo) (z : Value) (bytes : Nat) (ht : P.underlying t = some (.slice e)) (hi : P.info? e = some i) (hz : i.zero = some z)
    (hsize : i.size = 1) (hby : i.bytes = bytes) (hzs : z.cells.size = 1)
    (v u : Value) (xs news : List Value) (hs : a.eval s = v) (hx : a.eval x = u) (hv : Ap w B e v xs) (hu : Rd w u news) (h1 : ∀ x ∈ news, x.oneCell' = true)
    (hbytes : (xs.length + news.length) * bytes ≤ 140737488355328) (hmax : xs.length + news.length ≤ maxLen) (hB : B ≤ w.heap.size)
    (h : ∀ v' w', Ap w' B e v' (xs ++ news) → Below B w w' → K (a.put o.dst v') w') : o.wp P a w K Q := by
  obtain ⟨v', w', hr, h2, h3⟩ := run_append_ap (P := P) w B t o.type e i z bytes ht hi hz hsize hby hzs v u xs news hv hu h1 hbytes hmax hB
  unfold Oper.wp execOp
  simp only [ho, resolve, invoke, builtin, Sem.run_bind, Sem.run_pure, Result.andThen_ok, List.map_toArray, List.map_cons, List.map_nil, hs, hx, hr]
  exact h v' w' h2 h3

theorem wpList_append_ap {ops : Array Oper} {rest : List Oper} {o : Oper} {a : Act} {Q : Exit → Act → World → Prop} (hgd : o.guard = none) (s x : Operand) (t : TypeId)
    (ho : o.op = .call { callee := .builtin .append, args := #[s, x], argTypes := #[t, t] })
    (B : Nat) (e : TypeId) (i : TypeInfo) (z : Value) (bytes : Nat) (ht : P.underlying t = some (.slice e)) (hi : P.info? e = some i) (hz : i.zero = some z)
    (hsize : i.size = 1) (hby : i.bytes = bytes) (hzs : z.cells.size = 1)
    (v u : Value) (xs news : List Value) (hs : a.eval s = v) (hx : a.eval x = u) (hv : Ap w B e v xs) (hu : Rd w u news) (h1 : ∀ x ∈ news, x.oneCell' = true)
    (hbytes : (xs.length + news.length) * bytes ≤ 140737488355328) (hmax : xs.length + news.length ≤ maxLen) (hB : B ≤ w.heap.size)
    (h : ∀ v' w', Ap w' B e v' (xs ++ news) → Below B w w' → wpList P ops Q rest (a.put o.dst v') w') : wpList P ops Q (o :: rest) a w :=
  wpList_plain hgd fun _ hK => wp_append_ap w s x t ho B e i z bytes ht hi hz hsize hby hzs v u xs news hs hx hv hu h1 hbytes hmax hB fun v' w' h2 h3 => hK _ _ (h v' w' h2 h3)
end

/-- An append to a row of its own (or nil) gives a row of its own. -/
theorem run_append_oo {P : Program} (w : World) (B : Nat) (t ty e : TypeId) (i : TypeInfo) (z : Value) (bytes : Nat) (ht : P.underlying t = some (.slice e)) (hi : P.info? e = some i) (hz : i.zero = some z)
    (hsize : i.size = 1) (hby : i.bytes = bytes) (hzs : z.cells.size = 1)
    (v u : Value) (xs news : List Value) (hv : w.ownsRow B e 1 v xs.length xs) (hu : Rd w u news) (h1 : ∀ x ∈ news, x.oneCell' = true)
    (hbytes : (xs.length + news.length) * bytes ≤ 140737488355328) (hmax : xs.length + news.length ≤ maxLen) (hB : B ≤ w.heap.size) :
    ∃ v' w', (Builtin.append_ #[t, t] ty #[v, u]).run P w = .ok v' w' ∧ w'.ownsRow B e 1 v' (xs ++ news).length (xs ++ news) ∧ Below B w w' := by
  obtain ⟨Au, c, rfl, c1, c2, c3⟩ := hu
  rcases c3 with ⟨rfl, rfl⟩ | ⟨x, rfl, hc⟩
  · obtain rfl : news = [] := List.eq_nil_of_length_eq_zero (by omega)
    exact ⟨v, w, run_append_owned_none w B t ty e i 1 ht hi v _ xs hv, by rw [List.append_nil]; exact hv, Below.refl _ _⟩
  · obtain ⟨v', w', hrun, r1, r2, _⟩ := run_append_own (P := P) w B t ty e i z 1 bytes ht hi hz hsize hby hzs (by omega) v _ xs hv x _ c news (by omega) hc h1 hmax hbytes hB
    refine ⟨v', w', hrun, by rw [List.length_append]; exact r1, (Below.refl _ _).grown r2 hB ?_⟩
    intro k hk
    exact (hv.lt k hk).1

theorem wpList_append_oo {P : Program} {ops : Array Oper} {rest : List Oper} {o : Oper} {a : Act} {w : World} {Q : Exit → Act → World → Prop} (hgd : o.guard = none) (s x : Operand) (t : TypeId)
    (ho : o.op = .call { callee := .builtin .append, args := #[s, x], argTypes := #[t, t] })
    (B : Nat) (e : TypeId) (i : TypeInfo) (z : Value) (bytes : Nat) (ht : P.underlying t = some (.slice e)) (hi : P.info? e = some i) (hz : i.zero = some z)
    (hsize : i.size = 1) (hby : i.bytes = bytes) (hzs : z.cells.size = 1)
    (v u : Value) (xs news : List Value) (hs : a.eval s = v) (hx : a.eval x = u) (hv : w.ownsRow B e 1 v xs.length xs) (hu : Rd w u news) (h1 : ∀ x ∈ news, x.oneCell' = true)
    (hbytes : (xs.length + news.length) * bytes ≤ 140737488355328) (hmax : xs.length + news.length ≤ maxLen) (hB : B ≤ w.heap.size)
    (h : ∀ v' w', w'.ownsRow B e 1 v' (xs ++ news).length (xs ++ news) → Below B w w' → wpList P ops Q rest (a.put o.dst v') w') : wpList P ops Q (o :: rest) a w :=
  wpList_plain hgd fun _ hK => by
    obtain ⟨v', w', hr, h2, h3⟩ := run_append_oo (P := P) w B t o.type e i z bytes ht hi hz hsize hby hzs v u xs news hv hu h1 hbytes hmax hB
    unfold Oper.wp execOp
    simp only [ho, resolve, invoke, builtin, Sem.run_bind, Sem.run_pure, Result.andThen_ok, List.map_toArray, List.map_cons, List.map_nil, hs, hx, hr]
    exact hK _ _ (h v' w' h2 h3)

/-- append as one step of a region that draws its order. -/
theorem step_append_ap {P : Program} {ops : Array Oper} {o : Oper} {a : Act} {w : World} {K : Act → World → Prop} {Q : Exit → Act → World → Prop} {E : Prop}
    (hgd : o.guard = none) (s x : Operand) (t : TypeId)
    (ho : o.op = .call { callee := .builtin .append, args := #[s, x], argTypes := #[t, t] })
    (B : Nat) (e : TypeId) (i : TypeInfo) (z : Value) (bytes : Nat) (ht : P.underlying t = some (.slice e)) (hi : P.info? e = some i) (hz : i.zero = some z)
    (hsize : i.size = 1) (hby : i.bytes = bytes) (hzs : z.cells.size = 1)
    (v u : Value) (xs news : List Value) (hs : a.eval s = v) (hx : a.eval x = u) (hv : Ap w B e v xs) (hu : Rd w u news) (h1 : ∀ x ∈ news, x.oneCell' = true)
    (hbytes : (xs.length + news.length) * bytes ≤ 140737488355328) (hmax : xs.length + news.length ≤ maxLen) (hB : B ≤ w.heap.size)
    (h : ∀ v' w', Ap w' B e v' (xs ++ news) → Below B w w' → K (a.put o.dst v') w') : if Region.wanted o (yielded ops a.tmps) = true then Oper.wp P o a w K Q else E := by
  rw [if_pos (by simp [Region.wanted, hgd])]
  exact wp_append_ap w s x t ho B e i z bytes ht hi hz hsize hby hzs v u xs news hs hx hv hu h1 hbytes hmax hB h

/-! ### bytes -/
def bv (b : UInt8) : Value := .int .u8 (b.toNat : Int)
def Bs (w : World) (v : Value) (l : List UInt8) : Prop := Rd w v (l.map bv)
def ApB (w : World) (B : Nat) (v : Value) (l : List UInt8) : Prop := Ap w B 5 v (l.map bv)

/-- A byte list's value, its length under a name. -/
theorem Bs.open_ {w : World} {v : Value} {l : List UInt8} (h : Bs w v l) : ∃ A L c, v = .slice A L c ∧ Hid (L = l.length) ∧ L ≤ c ∧ c ≤ maxLen ∧ L ≤ l.length ∧ l.length ≤ L := by
  obtain ⟨A, c, rfl, h1, h2, h3⟩ := h
  rw [List.length_map] at h1
  exact ⟨A, l.length, c, by rw [List.length_map], rfl, h1, h2, Nat.le_refl _, Nat.le_refl _⟩

theorem one_bv {l : List UInt8} : ∀ x ∈ l.map bv, x.oneCell' = true := by
  intro x hx
  obtain ⟨b, _, rfl⟩ := List.mem_map.1 hx
  rfl

end Go.Proofs.Ytebakjdeighdnaa

/-
  Contracts of num.grown, num.putBig, num.Big, num.ReadBig and of the document's Big, ReadBig.
-/
namespace Go.Proofs.Ytebakjdeighdnaa
open Go.RowKit
set_option linter.unusedVariables false

theorem infoU8n : (Try.prog.info? 5).map (fun i => (i.zero, i.size, i.bytes)) = some (some (.int .u8 0), 1, 1) := by kernel_rfl

set_option maxHeartbeats 400000 in
theorem grown_any (v : Value) (l : List UInt8) (n : Nat) (w : World) (hv : Bs w v l) (hn : n ≤ 1000000) (hl : l.length ≤ 1000000) :
    Calls Try.prog 59 #[v, .int .i64 n] w fun e w' => ∃ v', e = .returned v' ∧ ApB w' w.heap.size v' l ∧ Below w.heap.size w w' := by
  obtain ⟨i0, hi, hz, hz1, hz2⟩ := info_parts infoU8n
  obtain ⟨A, L, c, rfl, hL, h1, h2, h3, h4⟩ := hv.open_
  have H := Lib.hid hv
  clear hv
  have Hi := Lib.hid hi
  have Hz := Lib.hid hz
  have Hz1 := Lib.hid hz1
  have Hz2 := Lib.hid hz2
  clear hi hz hz1 hz2
  go_enter Try.func59, Try.ntmps59
  go_wp2_with (first
    | (at_make
       refine wpList_make_own _ rfl _ _ _ rfl w.heap.size 5 i0 (.int .u8 0) 1 Try.underlying28 Hi.out Hz.out Hz1.out .i64 .i64 _ (L + n) rfl rfl (by simp) (by rw [Hz2.out]; omega) (by simp only [maxLen]; omega) (Nat.le_refl _) ?_
       intro w1 hown hg)
    | (at_builtin
       refine wpList_append_ap _ rfl _ _ 28 rfl w.heap.size 5 i0 (.int .u8 0) 1 Try.underlying28 Hi.out Hz.out Hz1.out Hz2.out rfl _ _ [] (l.map bv) rfl rfl (.inl hown) ((show Rd w _ (l.map bv) from H.out).keep ((Below.refl _ _).grown hg (Nat.le_refl _) (by simp))) one_bv (by simp; omega) (by simp [maxLen]; omega) hg.size ?_
       intro v2 w2 hap hb2))
  go_ret
  exact ⟨v2, rfl, hap, ((Below.refl _ _).grown hg (Nat.le_refl _) (by simp)).trans hb2⟩


/-- The byte at place i (from the lowest on) of v. -/
def byteAt (v : Int) (i : Nat) : UInt8 := UInt8.ofNat (v / 2 ^ (8 * i) % 256).toNat
/-- v's bytes at the places i-1, .., 0. -/
def bes (v : Int) : Nat → List UInt8
  | 0 => []
  | i + 1 => byteAt v i :: bes v i

theorem byteAt_val (v : Int) (i : Nat) : bv (byteAt v i) = .int .u8 (v / 2 ^ (8 * i) % 256) := by
  have h0 : 0 ≤ v / 2 ^ (8 * i) % 256 := Int.emod_nonneg _ (by omega)
  have h1 : v / 2 ^ (8 * i) % 256 < 256 := Int.emod_lt_of_pos _ (by omega)
  unfold bv byteAt
  congr 1
  rw [UInt8.toNat_ofNat']
  omega

theorem byte_snoc {w : World} {B : Nat} {x : Value} {l : List UInt8} {v : Int} {i : Nat} (h : Ap w B 5 x (l.map bv ++ #[Value.int .u8 (v / 2 ^ (8 * i) % 256)].toList)) : ApB w B x (l ++ [byteAt v i]) := by
  unfold ApB
  rw [List.map_append, List.map_cons, List.map_nil, byteAt_val]
  exact h

theorem grown_int (v : Value) (l : List UInt8) (n : Int) (w : World) (hv : Bs w v l) (hn0 : 0 ≤ n) (hn : n ≤ 1000000) (hl : l.length ≤ 1000000) :
    Calls Try.prog 59 #[v, .int .i64 n] w fun e w' => ∃ v', e = .returned v' ∧ ApB w' w.heap.size v' l ∧ Below w.heap.size w w' := by
  obtain ⟨k, rfl⟩ := Int.eq_ofNat_of_zero_le hn0
  exact grown_any v l k w hv (by omega) hl

end Go.Proofs.Ytebakjdeighdnaa

/-
  Contracts of num.ReadBig and of the document's ReadBig.
-/
namespace Go.Proofs.Ytebakjdeighdnaa
open Go.RowKit
set_option linter.unusedVariables false

/-- The number of some bytes, the highest first. -/
def rb : List UInt8 → Nat := fun l => l.foldl (fun v c => v * 256 + c.toNat) 0

theorem rb_snoc (l : List UInt8) (c : UInt8) : rb (l ++ [c]) = rb l * 256 + c.toNat := by simp [rb]
theorem rb_lt_from (l : List UInt8) : ∀ v : Nat, l.foldl (fun v c => v * 256 + c.toNat) v < (v + 1) * 256 ^ l.length := by
  induction l with
  | nil => intro v; simp
  | cons c l ih =>
    intro v
    rw [List.foldl_cons, List.length_cons, Nat.pow_succ]
    have h := ih (v * 256 + c.toNat)
    have := c.toNat_lt
    refine Nat.lt_of_lt_of_le h ?_
    rw [Nat.mul_comm (256 ^ l.length) 256, ← Nat.mul_assoc]
    exact Nat.mul_le_mul_right _ (by omega)
theorem rb_lt (l : List UInt8) : rb l < 256 ^ l.length := by have := rb_lt_from l 0; simpa [rb] using this

theorem rb_lt_n (l : List UInt8) (n : Nat) (h : l.length ≤ n) : rb l < 256 ^ n := Nat.lt_of_lt_of_le (rb_lt l) (Nat.pow_le_pow_right (by omega) h)

theorem or_add (a b i : Nat) (h : b < 2 ^ i) : a * 2 ^ i ||| b = a * 2 ^ i + b := by
  rw [← Nat.shiftLeft_eq, Nat.shiftLeft_add_eq_or_of_lt h]

theorem u64_or_add (a b i : Nat) (h : b < 2 ^ i) (h64 : a * 2 ^ i + b < 18446744073709551616) : bits .or .u64 ((a * 2 ^ i : Nat) : Int) (b : Int) = ((a * 2 ^ i + b : Nat) : Int) := by
  rw [u64_or_nat _ _ (by omega) (by omega), or_add a b i h]

theorem u64_mask (x i : Nat) (m : Int) (hm : m = ((2 ^ i - 1 : Nat) : Int)) (hi : i ≤ 64) (hx : x < 18446744073709551616) : bits .and .u64 (x : Int) m = ((x % 2 ^ i : Nat) : Int) := by
  subst hm
  have h2 : 2 ^ i ≤ 2 ^ 64 := Nat.pow_le_pow_right (by omega) hi
  have h3 : 2 ^ i - 1 < 18446744073709551616 := by have := Nat.two_pow_pos i; omega
  rw [u64_and_nat _ _ hx h3, Nat.and_two_pow_sub_one_eq_mod]

theorem u64_next (a : Nat) (c : UInt8) (h : a < 256 ^ 7) : bits .or .u64 ((a : Int) * 256) (IntKind.u64.wrap (c.toNat : Int)) = ((a * 256 + c.toNat : Nat) : Int) := by
  have hc := c.toNat_lt
  rw [IntKind.wrap_u64, show ((c.toNat : Int) % 18446744073709551616) = (c.toNat : Int) from by omega]
  exact u64_or_add a c.toNat 8 hc (by omega)

theorem take_snoc (l : List UInt8) (k : Nat) (h : k < l.length) : l.take (k + 1) = l.take k ++ [l[k]] := by
  rw [List.take_succ_eq_append_getElem h]

/-- Byte k of a slice that came in. -/
theorem Bs.cell {w : World} {b o c L : Nat} {l : List UInt8} (h : Bs w (.slice (some ⟨b, o, none⟩) L c) l) (k : Nat) (hk : k < l.length) : w.cell? ⟨b, o + k, none⟩ = some (.int .u8 (l[k].toNat : Int)) := by
  obtain ⟨b', o', c', e, _, _, _, hc⟩ := Rd.at_ h (by simp; omega)
  injection e with e1 e2 e3
  injection e1 with e1
  injection e1 with e1 e4
  subst e1; subst e4
  exact hc k _ (by simp [hk, bv])

end Go.Proofs.Ytebakjdeighdnaa

/-
  Contracts of num.ReadVar and of the document's ReadVar.
-/
namespace Go.Proofs.Ytebakjdeighdnaa
open Go.RowKit
set_option linter.unusedVariables false

def rvLen (c : UInt8) : Nat := 2 ^ (c.toNat / 64)
/-- What ReadVar answers: the number, how many bytes, the error's number. -/
def rv : List UInt8 → Int × Int × Int
  | [] => (0, 0, 20)
  | c :: t => if (c :: t).length < rvLen c then (0, 0, 20) else ((rb ((c :: t).take (rvLen c)) : Int) % 2 ^ (8 * rvLen c - 2), (rvLen c : Int), 0)

def Ans3 (x : Int × Int × Int) : Ending := .returned (.tuple #[.int .u64 x.1, .int .i64 x.2.1, .int .i64 x.2.2])

theorem ans3 {a b c : Int} {x : Int × Int × Int} (h : x = (a, b, c)) : Ending.returned (.tuple #[.int .u64 a, .int .i64 b, .int .i64 c]) = Ans3 x := by subst h; rfl

theorem rv_more (c : UInt8) (t : List UInt8) (h : (c :: t).length < rvLen c) : rv (c :: t) = (0, 0, 20) := by simp only [rv, if_pos h]
theorem rv_ok (c : UInt8) (t : List UInt8) (h : ¬ (c :: t).length < rvLen c) : rv (c :: t) = ((rb ((c :: t).take (rvLen c)) : Int) % 2 ^ (8 * rvLen c - 2), (rvLen c : Int), 0) := by simp only [rv, if_neg h]

theorem fin_mask (n i r : Nat) (m N : Int) (hm : m = ((2 ^ i - 1 : Nat) : Int)) (hi : i ≤ 64) (hr : r < 18446744073709551616) (hN : N = (n : Int)) : ((r : Int) % 2 ^ i, (n : Int), (0 : Int)) = (bits .and .u64 (r : Int) m, N, 0) := by
  rw [u64_mask r i m hm hi hr, hN]
  simp

theorem Bs.cell0 {w : World} {bV : Value} {x : UInt8} {t : List UInt8} (h : Bs w bV (x :: t)) : ∃ b o L c, bV = .slice (some ⟨b, o, none⟩) L c ∧ Hid (L = t.length + 1) ∧ 1 ≤ L ∧ L ≤ c ∧ c ≤ maxLen ∧ w.cell? ⟨b, o, none⟩ = some (.int .u8 (x.toNat : Int)) := by
  obtain ⟨b, o, c, hv, h1, h2, -, h3⟩ := Rd.at_ h (by simp)
  have := h3 0 (bv x) (by simp)
  exact ⟨b, o, _, c, hv, by simp [Hid], by simp, h1, h2, by simpa [bv] using this⟩

end Go.Proofs.Ytebakjdeighdnaa

/-
  Contracts of num.Prefix and of the document's Prefix.
-/
namespace Go.Proofs.Ytebakjdeighdnaa
open Go.RowKit
set_option linter.unusedVariables false

/-- The bits of f above its lowest k. -/
def hiOf (f : UInt8) (k : Nat) : Nat := f.toNat / 2 ^ k * 2 ^ k
def preFirst (f : UInt8) (k v : Nat) : UInt8 := UInt8.ofNat (hiOf f k + min v (2 ^ k - 1))
def cont : Nat → Nat → List UInt8
  | 0, _ => []
  | n + 1, v => if v < 128 then [UInt8.ofNat v] else UInt8.ofNat (v % 128 + 128) :: cont n (v / 128)
/-- A number in a prefix of k bits. -/
def pre (f : UInt8) (k v : Nat) : List UInt8 := if v < 2 ^ k - 1 then [preFirst f k v] else preFirst f k v :: cont 10 (v - (2 ^ k - 1))
/-- The prefix's bits that count. -/
def bitsOf (n : Int) : Nat := (min (max n 1) 8).toNat

theorem bitsOf_range (n : Int) : 1 ≤ bitsOf n ∧ bitsOf n ≤ 8 ∧ min (max n 1) 8 = (bitsOf n : Int) := by unfold bitsOf; omega

theorem k8 {k : Nat} (h1 : 1 ≤ k) (h8 : k ≤ 8) : k = 1 ∨ k = 2 ∨ k = 3 ∨ k = 4 ∨ k = 5 ∨ k = 6 ∨ k = 7 ∨ k = 8 := by omega

theorem full_nat (k : Nat) : full (k : Int) = ((2 ^ k - 1 : Nat) : Int) := by
  unfold full
  have := Nat.two_pow_pos k
  rw [Int.toNat_natCast, Int.ofNat_sub this]
  simp
theorem full_range {k : Nat} (h1 : 1 ≤ k) (h8 : k ≤ 8) : 1 ≤ 2 ^ k - 1 ∧ 2 ^ k - 1 ≤ 255 := by
  rcases k8 h1 h8 with rfl | rfl | rfl | rfl | rfl | rfl | rfl | rfl <;> decide

theorem hi_andNot (f : UInt8) {k : Nat} (h1 : 1 ≤ k) (h8 : k ≤ 8) : bits .andNot .u8 (f.toNat : Int) ((2 ^ k - 1 : Nat) : Int) = (hiOf f k : Int) := by
  have hf := f.toNat_lt
  have hr := full_range h1 h8
  rw [u8_andNot_nat _ _ hf (by omega)]
  unfold hiOf
  have key : ∀ k, k < 9 → ∀ x, x < 256 → x &&& (255 - (2 ^ k - 1)) = x / 2 ^ k * 2 ^ k := by decide +kernel
  rw [key k (by omega) f.toNat hf]

theorem hi_lt (f : UInt8) {k : Nat} (h1 : 1 ≤ k) (h8 : k ≤ 8) : hiOf f k + (2 ^ k - 1) < 256 := by
  have hf : f.toNat < 256 := f.toNat_lt
  unfold hiOf
  have key : ∀ k, k < 9 → ∀ x, x < 256 → x / 2 ^ k * 2 ^ k + (2 ^ k - 1) < 256 := by decide +kernel
  exact key k (by omega) _ hf

theorem hi_or (f : UInt8) {k : Nat} (h1 : 1 ≤ k) (h8 : k ≤ 8) (v : Nat) (hv : v ≤ 2 ^ k - 1) : bits .or .u8 (hiOf f k : Int) (v : Int) = ((hiOf f k + v : Nat) : Int) := by
  have := hi_lt f h1 h8
  have hr := Nat.two_pow_pos k
  rw [u8_or_nat _ _ (by omega) (by omega)]
  unfold hiOf
  rw [or_add _ _ _ (by omega)]

theorem preFirst_val (f : UInt8) {k : Nat} (h1 : 1 ≤ k) (h8 : k ≤ 8) (v : Nat) : ((preFirst f k v).toNat : Int) = ((hiOf f k + min v (2 ^ k - 1) : Nat) : Int) := by
  have := hi_lt f h1 h8
  unfold preFirst
  rw [UInt8.toNat_ofNat', Nat.mod_eq_of_lt]
  have : (2:Nat) ^ 8 = 256 := rfl
  omega

theorem psnoc_any {w : World} {B : Nat} {x : Value} {l : List UInt8} {n : Int} (h : Ap w B 5 x (l.map bv ++ #[Value.int .u8 n].toList)) (b : UInt8) (hb : n = (b.toNat : Int)) : ApB w B x (l ++ [b]) := by
  unfold ApB
  rw [List.map_append, List.map_cons, List.map_nil]
  subst hb
  exact h

theorem or128 (x : Nat) : bits .or .u8 ((x : Int) % 256) 128 = ((x % 128 + 128 : Nat) : Int) := by
  have key : ∀ y, y < 256 → y ||| 128 = y % 128 + 128 := by decide +kernel
  rw [show ((x : Int) % 256) = ((x % 256 : Nat) : Int) from by omega, show (128 : Int) = ((128 : Nat) : Int) from rfl, u8_or_nat _ _ (by omega) (by omega), key _ (by omega)]
  omega

theorem cont_more (n v : Nat) (h : 128 ≤ v) : cont (n + 1) v = UInt8.ofNat (v % 128 + 128) :: cont n (v / 128) := by
  rw [cont, if_neg (by omega)]
theorem cont_last (n v : Nat) (h : v < 128) : cont (n + 1) v = [UInt8.ofNat v] := by
  rw [cont, if_pos h]
theorem cont_length (n v : Nat) : (cont n v).length ≤ n := by
  induction n generalizing v with
  | zero => simp [cont]
  | succ n ih =>
    rw [cont]
    split
    · simp
    · simp; exact ih _
/-- The loop's relation: what is still to write. -/
def PrefRel (G : List UInt8) (bl : List UInt8) (B : Nat) (w : World) (ov xv : Value) (wr : World) : Prop :=
  ∃ (m x : Nat) (l1 : List UInt8), xv = .int .u64 x ∧ x < 18446744073709551616 ∧ x < 128 ^ (m + 1) ∧ m ≤ 9 ∧ l1 ++ cont (m + 1) x = G ∧ l1.length + m ≤ bl.length + 10 ∧ ApB wr B ov l1 ∧ Below B w wr

theorem pow128 (x m : Nat) (h : x < 128 ^ (m + 1)) (hx : 128 ≤ x) : ∃ q, m = q + 1 ∧ x / 128 < 128 ^ (q + 1) := by
  cases m with
  | zero => simp at h; omega
  | succ q => exact ⟨q, rfl, by rw [Nat.pow_succ] at h; omega⟩

set_option maxRecDepth 100000 in
set_option maxHeartbeats 1000000 in
theorem prefix_any (bV : Value) (bl : List UInt8) (f : UInt8) (n : Int) (v : Nat) (w : World) (hb : Bs w bV bl) (hbl : bl.length ≤ 200000) (hv : v < 18446744073709551616) :
    Calls Try.prog 41 #[bV, .int .u8 f.toNat, .int .i64 n, .int .u64 v] w fun e w' => ∃ v', e = .returned v' ∧ ApB w' w.heap.size v' (bl ++ pre f (bitsOf n) v) ∧ Below w.heap.size w w' := by
  obtain ⟨i0, hi, hz, hz1, hz2⟩ := info_parts infoU8n
  have Hi := Lib.hid hi
  have Hz := Lib.hid hz
  have Hz1 := Lib.hid hz1
  have Hz2 := Lib.hid hz2
  clear hi hz hz1 hz2
  have Hb := Lib.hid hb
  obtain ⟨hk1, hk8, hkn⟩ := bitsOf_range n
  generalize bitsOf n = k at hk1 hk8 hkn ⊢
  have hM := full_range hk1 hk8
  have hfull : full (min (max n 1) 8) = ((2 ^ k - 1 : Nat) : Int) := by rw [hkn, full_nat]
  have ha := hi_andNot f hk1 hk8
  have hlt := hi_lt f hk1 hk8
  have Hor := Lib.hid (hi_or f hk1 hk8)
  have Hpf := Lib.hid (preFirst_val f hk1 hk8 v)
  have Hpre : Hid (pre f k v = if v < 2 ^ k - 1 then [preFirst f k v] else preFirst f k v :: cont 10 (v - (2 ^ k - 1))) := rfl
  clear hb
  
  
  generalize pre f k v = PL at Hpre ⊢
  generalize preFirst f k v = pf at Hpf Hpre
  generalize hiOf f k = hi at ha hlt Hor Hpf
  generalize 2 ^ k - 1 = M at hM ha hlt Hor Hpf Hpre hfull
  have Hfull := Lib.hid hfull
  clear hfull
  obtain ⟨hM1, hM2⟩ := hM
  
  have horM := Hor.out M (by omega)
  by_cases hvM : v < M
  · have hw8v : IntKind.u8.wrap (v : Int) = (v : Int) := by rw [IntKind.wrap_u8]; omega
    have horv := Hor.out v (by omega)
    have Hf := Hpf.out
    have Hp := Hpre.out
    rw [if_pos hvM] at Hp
    rw [show min v M = v from by omega] at Hf
    subst Hp
    have Hf2 := Lib.hid Hf
    clear Hpf Hpre Hf
    go_enter Try.func41, Try.ntmps41
    go_wp2_with (first
        | (go_at_call 53; refine (fullPrefix_any _ _).mono ?_; rintro e w' ⟨rfl, rfl⟩; rw [Hfull.out])
        | (go_at_call 59; refine (grown_int bV bl _ _ Hb.out (by omega) (by omega) (by omega)).mono ?_; rintro e w1 ⟨v1, rfl, hap, hb1⟩)
        | (at_builtin
           refine wpList_append_ap _ rfl _ _ 28 rfl w.heap.size 5 i0 (.int .u8 0) 1 Try.underlying28 Hi.out Hz.out Hz1.out Hz2.out rfl _ _ (bl.map bv) _ rfl rfl (hap.alloc _) (Rd.lit w1 5 _ 1 rfl (by simp [maxLen])) (by simp [Value.oneCell']) (by simp; omega) (by simp [maxLen]; omega) (by have := hb1.size; simp; omega) ?_
           intro v2 w2 hap2 hb2))
    go_ret
    refine ⟨v2, rfl, ?_, hb1.trans (((Below.refl _ _).alloc hb1.size _).trans hb2)⟩
    exact psnoc_any hap2 pf Hf2.out.symm
  · have Hf := Hpf.out
    have Hp := Hpre.out
    rw [if_neg hvM] at Hp
    rw [show min v M = M from by omega] at Hf
    have Hp2 := Lib.hid Hp
    have Hf2 := Lib.hid Hf
    clear Hpf Hpre Hf Hp
    have hsub : IntKind.u64.wrap ((v : Int) - (M : Int)) = ((v - M : Nat) : Int) := by rw [IntKind.wrap_u64]; omega
    go_enter Try.func41, Try.ntmps41
    go_wp2_with (first
        | (go_at_call 53; refine (fullPrefix_any _ _).mono ?_; rintro e w' ⟨rfl, rfl⟩; rw [Hfull.out])
        | (go_at_call 59; refine (grown_int bV bl _ _ Hb.out (by omega) (by omega) (by omega)).mono ?_; rintro e w1 ⟨v1, rfl, hap, hb1⟩)
        | (at_builtin
           refine wpList_append_ap _ rfl _ _ 28 rfl w.heap.size 5 i0 (.int .u8 0) 1 Try.underlying28 Hi.out Hz.out Hz1.out Hz2.out rfl _ _ (bl.map bv) _ rfl rfl (hap.alloc _) (Rd.lit w1 5 _ 1 rfl (by simp [maxLen])) (by simp [Value.oneCell']) (by simp; omega) (by simp [maxLen]; omega) (by have := hb1.size; simp; omega) ?_
           intro v2 w2 hap2 hb2))
    have hap3 := psnoc_any hap2 pf Hf2.out.symm
    have hb3 : Below w.heap.size w w2 := hb1.trans (((Below.refl _ _).alloc hb1.size _).trans hb2)
    clear hap2 hb2
    have hlen3 : (bl ++ [pf]).length = bl.length + 1 := by simp
    have Hgoal : Hid ((bl ++ [pf]) ++ cont 10 (v - M) = bl ++ PL) := by rw [Hp2.out]; simp [Hid]
    have hl1 : (bl ++ [pf]).length ≤ bl.length + 1 := by omega
    clear hlen3
    generalize bl ++ [pf] = l0 at hap3 Hgoal hl1
    have hq : v - M < 128 ^ (9 + 1) := by have : (18446744073709551616 : Nat) ≤ 128 ^ (9 + 1) := by decide
                                          omega
    clear ha horM Hor hsub hvM Hf2 Hfull Hp2
    have hq64 : v - M < 18446744073709551616 := by omega
    generalize v - M = q at hq hq64 Hgoal ⊢
    have Hgoal2 := Lib.hid Hgoal.out
    clear Hgoal
    go_wp2
    go_loopw [3, 11] (fun xv ov wr => PrefRel (bl ++ PL) bl w.heap.size w ov xv wr) (fun xv _ _ => (intOf xv).toNat)
    case atStart => exact ⟨9, q, l0, rfl, hq64, hq, by omega, Hgoal2.out, by omega, hap3, hb3⟩
    case round =>
      obtain ⟨m, x, l1, rfl, hxq, hxm, hm9, hG, hl, hap4, hb4⟩ := hrel
      have HG := Lib.hid hG
      clear hG hap3 hb3
      have hxi : (x : Int) < 18446744073709551616 := by omega
      have Hxq := Lib.hid hxq
      have Hxm := Lib.hid hxm
      have Hr0 : Hid (¬ x < 128 → ∃ q, m = q + 1 ∧ x / 128 < 128 ^ (q + 1)) := fun h => pow128 x m hxm (by omega)
      clear hxq hxm hv hq hq64 hxi
      have hsz := hb4.size
      by_cases hx : x < 128
      · have hx' : (x : Int) < 256 := by omega
        go_wp2_with (first
          | (at_builtin
             refine wpList_append_ap _ rfl _ _ 28 rfl w.heap.size 5 i0 (.int .u8 0) 1 Try.underlying28 Hi.out Hz.out Hz1.out Hz2.out rfl _ _ (l1.map bv) _ rfl rfl (hap4.alloc _) (Rd.lit wr 5 _ 1 rfl (by simp [maxLen])) (by simp [Value.oneCell']) (by simp; omega) (by simp [maxLen]; omega) (by have := hb4.size; simp; omega) ?_
             intro v2 w2 hap2 hb2))
        go_ret
        have hap5 := psnoc_any hap2 (UInt8.ofNat x) (by rw [UInt8.toNat_ofNat', Nat.mod_eq_of_lt (by have : (2:Nat) ^ 8 = 256 := rfl; omega)])
        refine ⟨_, rfl, ?_, hb4.trans (((Below.refl _ _).alloc (by have := hb4.size; omega) _).trans hb2)⟩
        rw [← HG.out, cont_last _ _ hx]
        exact hap5
      · obtain ⟨r, rfl, hr⟩ := Hr0.out hx
        have Hr := Lib.hid hr
        clear hr
        have ho := or128 x
        have hand := u64_mask x 7 127 (by rfl) (by omega) Hxq.out
        have ho2 : bits .or .u8 ((x : Int) % 128) 128 = ((x % 128 + 128 : Nat) : Int) := by have h := or128 (x % 128); rw [show (((x % 128 : Nat) : Int) % 256) = (x : Int) % 128 from by omega] at h; rw [h]; omega
        go_wp2_with (first
          | (at_builtin
             refine wpList_append_ap _ rfl _ _ 28 rfl w.heap.size 5 i0 (.int .u8 0) 1 Try.underlying28 Hi.out Hz.out Hz1.out Hz2.out rfl _ _ (l1.map bv) _ rfl rfl (hap4.alloc _) (Rd.lit wr 5 _ 1 rfl (by simp [maxLen])) (by simp [Value.oneCell']) (by simp; omega) (by simp [maxLen]; omega) (by have := hb4.size; simp; omega) ?_
             intro v2 w2 hap2 hb2))
        have hap5 := psnoc_any hap2 (UInt8.ofNat (x % 128 + 128)) (by rw [UInt8.toNat_ofNat', Nat.mod_eq_of_lt (by have : (2:Nat) ^ 8 = 256 := rfl; omega)]; omega)
        clear hap2
        go_roundw
        case rel =>
          refine ⟨r, x / 128, l1 ++ [UInt8.ofNat (x % 128 + 128)], by go_num, by have := Hxq.out; omega, Hr.out, by omega, ?_, by simp; omega, hap5, hb4.trans (((Below.refl _ _).alloc (by have := hb4.size; omega) _).trans hb2)⟩
          rw [← HG.out, cont_more (r + 1) x (by omega), List.append_assoc]
          rfl
        case measure => simp [intOf]; omega

end Go.Proofs.Ytebakjdeighdnaa

/-
  One operation whose run is known, as a step of the walk. No program is named here.
-/
namespace Go.Proofs.Ytebakjdeighdnaa
open Go.RowKit
set_option linter.unusedVariables false

/-- A fact that the walk does not use by itself. -/
structure Bx (p : Prop) : Prop where
  out : p

variable {P : Program} {ops : Array Oper} {Q : Exit → Act → World → Prop} {a : Act} {w : World} {rest : List Oper} {o : Oper}

theorem wpList_gives (hg : o.guard = none) {v : Value} {w' : World} (hrun : (execOp a.eval o).run P w = .ok (.value v) w') (h : wpList P ops Q rest (a.put o.dst v) w') : wpList P ops Q (o :: rest) a w :=
  wpList_plain hg fun K hK => by
    unfold Oper.wp
    rw [hrun]
    exact hK _ _ h
theorem wpList_does (hg : o.guard = none) {w' : World} (hrun : (execOp a.eval o).run P w = .ok .skip w') (h : wpList P ops Q rest (a.put o.dst undef) w') : wpList P ops Q (o :: rest) a w :=
  wpList_plain hg fun K hK => by
    unfold Oper.wp
    rw [hrun]
    exact hK _ _ h

/-- A struct or an array out of its parts, whose value is known. -/
theorem wpList_build {d : Option Tmp} {t ty : TypeId} {parts : Array (Nat × Operand)} {pos : String} {af : Array Edge} {v : Value}
    (hrun : (Instr.build t (parts.map fun (i, x) => (i, a.eval x))).run P w = .ok v w) (h : wpList P ops Q rest (a.put d v) w) : wpList P ops Q (⟨d, .build t parts, ty, pos, af, none⟩ :: rest) a w :=
  wpList_gives rfl (by simp only [execOp, Sem.run_bind]; rw [hrun]; rfl) h
theorem wpList_buildSlice {d : Option Tmp} {t ty : TypeId} {n : Nat} {parts : Array (Nat × Operand)} {pos : String} {af : Array Edge} {v : Value} {w' : World}
    (hrun : (Instr.buildSlice t n (parts.map fun (i, x) => (i, a.eval x))).run P w = .ok v w') (h : wpList P ops Q rest (a.put d v) w') : wpList P ops Q (⟨d, .buildSlice t n parts, ty, pos, af, none⟩ :: rest) a w :=
  wpList_gives rfl (by simp only [execOp, Sem.run_bind]; rw [hrun]; rfl) h
theorem wpList_load {d : Option Tmp} {t ty : TypeId} {x : Operand} {pos : String} {af : Array Edge} {v : Value}
    (hrun : (Instr.loadAt t (a.eval x)).run P w = .ok v w) (h : wpList P ops Q rest (a.put d v) w) : wpList P ops Q (⟨d, .load t x, ty, pos, af, none⟩ :: rest) a w :=
  wpList_gives rfl (by simp only [execOp, Sem.run_bind]; rw [hrun]; rfl) h
/-- A struct or an array boxed: its block and the world are new names. -/
theorem wpList_boxAgg {d : Option Tmp} {t ty : TypeId} {x : Operand} {pos : String} {af : Array Edge} {cs : Array Value}
    (hx : a.eval x = .agg cs) (h : ∀ w2 g, w2 = w.alloc (.cells cs t) → g = w.heap.size → wpList P ops Q rest (a.put d (.pointer (some ⟨g, 0, none⟩))) w2) : wpList P ops Q (⟨d, .box t x, ty, pos, af, none⟩ :: rest) a w :=
  wpList_gives rfl (v := .pointer (some ⟨w.heap.size, 0, none⟩)) (w' := w.alloc (.cells cs t)) (by simp only [execOp]; rw [hx]; simp [Instr.box, newVar, newRow, Value.cells, go_sem]) (h _ _ rfl rfl)
/-- A new variable whose type's zero value is known. -/
theorem wpList_allocAgg {d : Option Tmp} {t ty : TypeId} {pos : String} {af : Array Edge} {cs : Array Value}
    (hz : (zeroValue t).run P w = .ok (.agg cs) w) (h : ∀ w2 g, w2 = w.alloc (.cells cs t) → g = w.heap.size → wpList P ops Q rest (a.put d (.pointer (some ⟨g, 0, none⟩))) w2) : wpList P ops Q (⟨d, .alloc t, ty, pos, af, none⟩ :: rest) a w :=
  wpList_gives rfl (v := .pointer (some ⟨w.heap.size, 0, none⟩)) (w' := w.alloc (.cells cs t)) (by simp [execOp, Instr.alloc, hz, newVar, newRow, Value.cells, go_sem]) (h _ _ rfl rfl)
theorem parts1 {a : Act} {i : Nat} {x : Operand} {v : Value} (hx : a.eval x = v) : (#[(i, x)] : Array (Nat × Operand)).map (fun (i, x) => (i, a.eval x)) = #[(i, v)] := by subst hx; simp
theorem wpList_indexAddr {d : Option Tmp} {t ty : TypeId} {x ix : Operand} {pos : String} {af : Array Edge} {v : Value}
    (hrun : (Instr.indexAt t (a.eval x) (a.eval ix)).run P w = .ok v w) (h : wpList P ops Q rest (a.put d v) w) : wpList P ops Q (⟨d, .indexAddr t x ix, ty, pos, af, none⟩ :: rest) a w :=
  wpList_gives rfl (by simp only [execOp, Sem.run_bind]; rw [hrun]; rfl) h
theorem wpList_makeRun {d : Option Tmp} {t ty : TypeId} {l c : Operand} {pos : String} {af : Array Edge} {v : Value} {w' : World}
    (hrun : (Instr.makeSlice t (a.eval l) (a.eval c)).run P w = .ok v w') (h : wpList P ops Q rest (a.put d v) w') : wpList P ops Q (⟨d, .makeSlice t l c, ty, pos, af, none⟩ :: rest) a w :=
  wpList_gives rfl (by simp only [execOp, Sem.run_bind]; rw [hrun]; rfl) h
end Go.Proofs.Ytebakjdeighdnaa

/-
  Contracts of num.ReadPrefix and of the document's ReadPrefix.
-/
namespace Go.Proofs.Ytebakjdeighdnaa
open Go.RowKit
set_option linter.unusedVariables false

def maxVar : Nat := 4611686018427387903
def rpGo : List UInt8 → Nat → Nat → Int × Int × Int
  | [], _, _ => (0, 0, 20)
  | c :: t, i, v =>
    if (maxVar - v) / 2 ^ (7 * i) < c.toNat % 128 then (0, 0, 21)
    else if c.toNat < 128 then (((v + c.toNat % 128 * 2 ^ (7 * i) : Nat) : Int), ((i + 2 : Nat) : Int), 0)
    else if i + 1 = 10 then (0, 0, 21)
    else rpGo t (i + 1) (v + c.toNat % 128 * 2 ^ (7 * i))
/-- What ReadPrefix answers at k bits. -/
def rp (k : Nat) : List UInt8 → Int × Int × Int
  | [] => (0, 0, 20)
  | c :: t => if c.toNat % 2 ^ k < 2 ^ k - 1 then (((c.toNat % 2 ^ k : Nat) : Int), 1, 0) else rpGo t 0 (c.toNat % 2 ^ k)

theorem rpGo_big (c : UInt8) (t : List UInt8) (i v : Nat) (h : (maxVar - v) / 2 ^ (7 * i) < c.toNat % 128) : rpGo (c :: t) i v = (0, 0, 21) := by simp only [rpGo, if_pos h]
theorem rpGo_last (c : UInt8) (t : List UInt8) (i v : Nat) (h : ¬ (maxVar - v) / 2 ^ (7 * i) < c.toNat % 128) (hc : c.toNat < 128) : rpGo (c :: t) i v = (((v + c.toNat % 128 * 2 ^ (7 * i) : Nat) : Int), ((i + 2 : Nat) : Int), 0) := by simp only [rpGo, if_neg h, if_pos hc]
theorem rpGo_ten (c : UInt8) (t : List UInt8) (i v : Nat) (h : ¬ (maxVar - v) / 2 ^ (7 * i) < c.toNat % 128) (hc : ¬ c.toNat < 128) (hi : i + 1 = 10) : rpGo (c :: t) i v = (0, 0, 21) := by simp only [rpGo, if_neg h, if_neg hc, if_pos hi]
theorem rpGo_on (c : UInt8) (t : List UInt8) (i v : Nat) (h : ¬ (maxVar - v) / 2 ^ (7 * i) < c.toNat % 128) (hc : ¬ c.toNat < 128) (hi : ¬ i + 1 = 10) : rpGo (c :: t) i v = rpGo t (i + 1) (v + c.toNat % 128 * 2 ^ (7 * i)) := by simp only [rpGo, if_neg h, if_neg hc, if_neg hi]

/-- What a byte comes to: p are its seven low bits. -/
def rpAns (c : Nat) (t : List UInt8) (i v p : Nat) : Int × Int × Int :=
  if (maxVar - v) / 2 ^ (7 * i) < p then (0, 0, 21)
  else if c < 128 then (((v + p * 2 ^ (7 * i) : Nat) : Int), ((i + 2 : Nat) : Int), 0)
  else if i + 1 = 10 then (0, 0, 21)
  else rpGo t (i + 1) (v + p * 2 ^ (7 * i))
theorem rpGo_ans (c : UInt8) (t : List UInt8) (i v : Nat) : rpGo (c :: t) i v = rpAns c.toNat t i v (c.toNat % 128) := rfl
theorem rpAns_big (c : Nat) (t : List UInt8) (i v p : Nat) (h : (maxVar - v) / 2 ^ (7 * i) < p) : rpAns c t i v p = (0, 0, 21) := by simp only [rpAns, if_pos h]
theorem rpAns_last (c : Nat) (t : List UInt8) (i v p : Nat) (r : Int) (h : ¬ (maxVar - v) / 2 ^ (7 * i) < p) (hc : c < 128) (hr : ((v + p * 2 ^ (7 * i) : Nat) : Int) = r) : rpAns c t i v p = (r, ((i + 2 : Nat) : Int), 0) := by simp only [rpAns, if_neg h, if_pos hc, hr]
theorem rpAns_ten (c : Nat) (t : List UInt8) (v p : Nat) (h : ¬ (maxVar - v) / 2 ^ (7 * 9) < p) (hc : ¬ c < 128) : rpAns c t 9 v p = (0, 0, 21) := by simp only [rpAns, if_neg h, if_neg hc]; rfl
theorem rpAns_on (c : Nat) (t : List UInt8) (i v p r : Nat) (h : ¬ (maxVar - v) / 2 ^ (7 * i) < p) (hc : ¬ c < 128) (hi : ¬ i + 1 = 10) (hr : v + p * 2 ^ (7 * i) = r) : rpAns c t i v p = rpGo t (i + 1) r := by simp only [rpAns, if_neg h, if_neg hc, if_neg hi, hr]

theorem pfits (p v i : Nat) (hv : v ≤ maxVar) (h : ¬ (maxVar - v) / 2 ^ (7 * i) < p) : v + p * 2 ^ (7 * i) ≤ maxVar := by
  have h1 : p * 2 ^ (7 * i) ≤ maxVar - v := by
    have := Nat.mul_le_mul_right (2 ^ (7 * i)) (Nat.not_lt.1 h)
    exact Nat.le_trans this (Nat.div_mul_le_self _ _)
  omega

theorem and127 (y : UInt8) : bits .and .u8 (y.toNat : Int) 127 = ((y.toNat % 128 : Nat) : Int) := by
  have hy := y.toNat_lt
  have key : ∀ z, z < 256 → z &&& 127 = z % 128 := by decide +kernel
  rw [show (127 : Int) = ((127 : Nat) : Int) from rfl, u8_and_nat _ _ hy (by omega), key _ hy]
theorem shl_fit (p v i : Nat) (S : Int) (h : v + p * 2 ^ (7 * i) ≤ maxVar) (hS : IntKind.u64.wrap ((p : Int) * 2 ^ (7 * i)) = S) : S = ((p * 2 ^ (7 * i) : Nat) : Int) := by
  have e : (p : Int) * 2 ^ (7 * i) = ((p * 2 ^ (7 * i) : Nat) : Int) := by push_cast; rfl
  rw [← hS, IntKind.wrap_u64, e]
  unfold maxVar at h
  omega
theorem shl7 (i : Nat) (h : i ≤ 9) (x : Int) : Op.shift .shl .u64 x .i64 (7 * (i : Int)) = pure (.int .u64 (IntKind.u64.wrap (x * 2 ^ (7 * i)))) := by
  rw [shift_shl_u64 _ _ _ (by omega) (by omega)]
  rw [show (7 * (i : Int)).toNat = 7 * i from by omega]
theorem shr7 (i : Nat) (h : i ≤ 9) (x : Int) : Op.shift .shr .u64 x .i64 (7 * (i : Int)) = pure (.int .u64 (x / 2 ^ (7 * i))) := by
  rw [shift_shr_u64 _ _ _ (by omega) (by omega)]
  rw [show (7 * (i : Int)).toNat = 7 * i from by omega]
theorem div_small (v D Q : Int) (i p : Nat) (h : D = 4611686018427387903 - v) (h0 : 0 ≤ v) (h1 : v ≤ 4611686018427387903) (hQ : D / 2 ^ (7 * i) = Q) (hb : Q < (p : Int)) : ((maxVar - v.toNat) / 2 ^ (7 * i) : Nat) < p := by
  have : (((maxVar - v.toNat) / 2 ^ (7 * i) : Nat) : Int) = Q := by
    rw [← hQ, h]
    push_cast
    congr 1
    unfold maxVar
    omega
  omega
theorem div_fits (v D Q : Int) (i p : Nat) (h : D = 4611686018427387903 - v) (h0 : 0 ≤ v) (h1 : v ≤ 4611686018427387903) (hQ : D / 2 ^ (7 * i) = Q) (hb : ¬ Q < (p : Int)) : ¬ ((maxVar - v.toNat) / 2 ^ (7 * i) : Nat) < p := by
  have : (((maxVar - v.toNat) / 2 ^ (7 * i) : Nat) : Int) = Q := by
    rw [← hQ, h]
    push_cast
    congr 1
    unfold maxVar
    omega
  omega

def RpRel (R : Int × Int × Int) (t : List UInt8) (T : Nat) (vv iv : Value) : Prop :=
  ∃ (i : Nat) (v : Int), iv = .int .i64 i ∧ vv = .int .u64 v ∧ 0 ≤ v ∧ v ≤ 4611686018427387903 ∧ i ≤ T ∧ i ≤ 9 ∧ rpGo (t.drop i) i v.toNat = R

theorem readPrefix_nil (bV : Value) (n : Int) (w : World) (hb : Bs w bV []) :
    Calls Try.prog 35 #[bV, .int .i64 n] w fun e w' => e = Ans3 (rp (bitsOf n) []) ∧ w = w' := by
  obtain ⟨A, L, c, rfl, hL, h1, h2, h3, h4⟩ := hb.open_
  have hL0 : L = 0 := hL.out
  subst hL0
  clear hb hL h3 h4
  go_enter Try.func35, Try.ntmps35
  go_wp2
  go_ret3
  exact ⟨rfl, rfl⟩

set_option maxHeartbeats 1000000 in
theorem readPrefix_cons (bV : Value) (x : UInt8) (t : List UInt8) (n : Int) (w : World) (hb : Bs w bV (x :: t)) (hm : (x :: t).length ≤ 1000000) :
    Calls Try.prog 35 #[bV, .int .i64 n] w fun e w' => e = Ans3 (rp (bitsOf n) (x :: t)) ∧ w = w' := by
  obtain ⟨hk1, hk8, hkn⟩ := bitsOf_range n
  generalize bitsOf n = k at hk1 hk8 hkn ⊢
  have hM := full_range hk1 hk8
  have hfull : full (min (max n 1) 8) = ((2 ^ k - 1 : Nat) : Int) := by rw [hkn, full_nat]
  have hx256 := x.toNat_lt
  have hand := u64_mask x.toNat k _ rfl (by omega) (by omega)
  have hrp : rp k (x :: t) = if x.toNat % 2 ^ k < 2 ^ k - 1 then (((x.toNat % 2 ^ k : Nat) : Int), 1, 0) else rpGo t 0 (x.toNat % 2 ^ k) := rfl
  have hml : x.toNat % 2 ^ k ≤ x.toNat := Nat.mod_le _ _
  generalize rp k (x :: t) = R at hrp ⊢
  generalize x.toNat % 2 ^ k = v0 at hand hrp hml
  generalize 2 ^ k - 1 = M at hM hfull hand hrp
  have Hfull := Lib.hid hfull
  obtain ⟨hM1, hM2⟩ := hM
  obtain ⟨b, o, L, c, rfl, hL, h0, h1, h2, hc⟩ := hb.cell0
  have Hb := Lib.hid hb
  clear hb hfull hkn
  have hne : ((L : Int) == 0) = false := by simp; omega
  unfold maxLen at h2
  by_cases hlt : v0 < M
  · rw [if_pos hlt] at hrp
    have Hrp := Lib.hid hrp
    clear hrp
    go_enter Try.func35, Try.ntmps35
    go_wp2_with (go_at_call 53; refine (fullPrefix_any _ _).mono ?_; rintro e w' ⟨rfl, rfl⟩; rw [Hfull.out])
    go_ret3
    exact ⟨ans3 Hrp.out, rfl⟩
  · rw [if_neg hlt] at hrp
    have Hrp := Lib.hid hrp
    clear hrp
    cases t with
    | nil =>
      have hL1 : L = 1 := hL.out
      subst hL1
      clear hL
      by_cases hc1 : c = 1
      · subst hc1
        go_enter Try.func35, Try.ntmps35
        go_wp2_with (go_at_call 53; refine (fullPrefix_any _ _).mono ?_; rintro e w' ⟨rfl, rfl⟩; rw [Hfull.out])
        go_rounds 1
        go_ret3
        exact ⟨ans3 Hrp.out, rfl⟩
      · go_enter Try.func35, Try.ntmps35
        go_wp2_with (go_at_call 53; refine (fullPrefix_any _ _).mono ?_; rintro e w' ⟨rfl, rfl⟩; rw [Hfull.out])
        go_rounds 1
        go_ret3
        exact ⟨ans3 Hrp.out, rfl⟩
    | cons y s =>
      have hcell : ∀ i (h : i < (y :: s).length), w.cell? ⟨b, o + 1 + i, none⟩ = some (.int .u8 ((y :: s)[i].toNat : Int)) := by
        intro i h
        have := Hb.out.cell (i + 1) (by simp at h ⊢; omega)
        rw [Nat.add_right_comm, Nat.add_assoc]
        simpa using this
      have hlen1 : (y :: s).length = L - 1 := by have := hL.out; simp at this ⊢; omega
      have hL2 : L ≥ 2 := by have := hL.out; simp at this; omega
      have hc1 : ¬ c = 1 := by omega
      go_enter Try.func35, Try.ntmps35
      go_wp2_with (go_at_call 53; refine (fullPrefix_any _ _).mono ?_; rintro e w' ⟨rfl, rfl⟩; rw [Hfull.out])
      generalize y :: s = t at hcell hlen1 Hrp hL Hb hm
      generalize hL' : L - 1 = T at hlen1
      have HT := Lib.hid hL'
      have Hlen1 := Lib.hid hlen1
      have Hcell := Lib.hid hcell
      have hT : T ≤ 1000000 := by simp at hm; omega
      clear hL' hlen1 hcell hc hand
      go_loop [8, 30] (fun vv iv => RpRel R t T vv iv) (fun _ i => T - (intOf i).toNat)
      case atStart => exact ⟨0, v0, rfl, rfl, by omega, by omega, by omega, by omega, by simpa using Hrp.out.symm⟩
      case round =>
        obtain ⟨i, v, rfl, rfl, hv0, hv1, hi, hi9, hR⟩ := hrel
        have HR := Lib.hid hR
        clear hR
        by_cases hiT : i < T
        · have hit : i < t.length := by have := Hlen1.out; omega
          have hd : t.drop i = t[i] :: t.drop (i + 1) := List.drop_eq_getElem_cons hit
          have HR2 := HR.out
          rw [hd] at HR2
          have HR3 := Lib.hid HR2
          have hc := Hcell.out i hit
          have hy := t[i].toNat_lt
          clear hd HR2
          generalize t[i] = y at hc hy HR3
          obtain ⟨p, hpe⟩ : ∃ p, y.toNat % 128 = p := ⟨_, rfl⟩
          have hpand : bits .and .u8 (y.toNat : Int) 127 = (p : Int) := by rw [and127 y, hpe]
          have hp : p < 128 := by omega
          have HR4 : Hid (rpAns y.toNat (t.drop (i + 1)) i v.toNat p = R) := by have h := HR3.out; rw [rpGo_ans, hpe] at h; exact h
          have Hpe := Lib.hid hpe
          clear hpe HR3 hy
          generalize y.toNat = z at hc hpand HR4 Hpe
          have hlt' : M ≤ v0 := by omega
          clear hlt
          obtain ⟨D, hD⟩ : ∃ D, IntKind.u64.wrap (4611686018427387903 - v) = D := ⟨_, rfl⟩
          have HD : Hid (D = 4611686018427387903 - v) := by rw [← hD, IntKind.wrap_u64]; unfold Hid; omega
          obtain ⟨Q, hQ⟩ : ∃ Q, D / 2 ^ (7 * i) = Q := ⟨_, rfl⟩
          have Hv0 : Bx (0 ≤ v) := ⟨hv0⟩
          have Hv1 : Bx (v ≤ 4611686018427387903) := ⟨hv1⟩
          clear hv0 hv1
          have hbig0 : Q < (p : Int) ∨ (p : Int) ≤ Q := by omega
          rcases hbig0 with hbig | hbig
          · go_wp2
            go_ret3
            exact ⟨ans3 (HR4.out.symm.trans (rpAns_big z _ i _ p (div_small v D Q i p HD.out Hv0.out Hv1.out hQ hbig))), rfl⟩
          · have HQ := div_fits v D Q i p HD.out Hv0.out Hv1.out hQ (by omega)
            have hfit := pfits p v.toNat i (by have := Hv0.out; have := Hv1.out; unfold maxVar; omega) HQ
            obtain ⟨S, hS⟩ : ∃ S, IntKind.u64.wrap ((p : Int) * 2 ^ (7 * i)) = S := ⟨_, rfl⟩
            have hSe := shl_fit p v.toNat i S hfit hS
            have hS0 : 0 ≤ S := by omega
            have HVS : Bx (v + S ≤ 4611686018427387903) := ⟨by have := Hv0.out; unfold maxVar at hfit; omega⟩
            have HVSe : Hid (((v.toNat + p * 2 ^ (7 * i) : Nat) : Int) = v + S) := by have := Hv0.out; unfold Hid; omega
            obtain ⟨V, hV⟩ : ∃ V, IntKind.u64.wrap (v + S) = V := ⟨_, rfl⟩
            have HV : Hid (V = v + S) := by have := Hv0.out; have := HVS.out; rw [← hV, IntKind.wrap_u64]; unfold Hid; omega
            have HSe : Hid (((v.toNat + p * 2 ^ (7 * i) : Nat) : Int) = V) := HVSe.out.trans HV.out.symm
            have HQ2 : Bx _ := ⟨HQ⟩
            have HS0 : Bx (0 ≤ S) := ⟨hS0⟩
            have hbb : decide (Q < (p : Int)) = false := by rw [decide_eq_false_iff_not]; omega
            clear hbig
            have HVV : Hid (IntKind.u64.wrap (v + IntKind.u64.wrap ((p : Int) * 2 ^ (7 * i))) = V) := by rw [hS]; exact hV
            have HVr : Hid (V = IntKind.u64.wrap (v + IntKind.u64.wrap ((p : Int) * 2 ^ (7 * i)))) := HVV.out.symm
            clear hSe HQ hfit hS0 hS hV
            have hz0 : z < 128 ∨ 128 ≤ z := by omega
            rcases hz0 with hz | hz
            · have hzb : decide ((z : Int) < 128) = true := by rw [decide_eq_true_iff]; omega
              go_wp2
              go_ret3
              exact ⟨ans3 (HR4.out.symm.trans (rpAns_last z _ i _ p _ HQ2.out hz (HSe.out.trans HVr.out))), rfl⟩
            · have hi0 : i = 9 ∨ i ≤ 8 := by omega
              have hzb : decide ((z : Int) < 128) = false := by rw [decide_eq_false_iff_not]; omega
              rcases hi0 with hi8 | hi8
              · have hten : (((i : Int) + 1) == 10) = true := by rw [beq_iff_eq]; omega
                have Hi8 := Lib.hid hi8
                clear hi8
                go_wp2
                go_ret3
                have h := HR4.out
                have hq := HQ2.out
                rw [Hi8.out] at h hq
                exact ⟨ans3 (h.symm.trans (rpAns_ten z _ _ p hq (by omega))), rfl⟩
              · have hten : (((i : Int) + 1) == 10) = false := by rw [beq_eq_false_iff_ne]; omega
                have HR5 : Hid (rpGo (t.drop (i + 1)) (i + 1) (v.toNat + p * 2 ^ (7 * i)) = R) := by
                  have h := HR4.out; rw [rpAns_on z _ i _ p _ HQ2.out (by omega) (by omega) rfl] at h; exact h
                go_wp2
                go_round
                case rel =>
                  have := HS0.out; have := HV.out; have := HVS.out; have := Hv0.out
                  refine ⟨i + 1, V, by go_num, by rw [HVr.out], by omega, by omega, by omega, by omega, ?_⟩
                  have h := HR5.out
                  rw [show v.toNat + p * 2 ^ (7 * i) = V.toNat from by have := HSe.out; omega] at h
                  exact h
                case measure => simp [intOf]; omega
        · obtain rfl : i = T := by omega
          go_wp2
          go_ret3
          have h := HR.out
          rw [List.drop_of_length_le (by have := Hlen1.out; omega)] at h
          exact ⟨ans3 (by rw [← h]; rfl), rfl⟩

end Go.Proofs.Ytebakjdeighdnaa

/-
  The contract of the document's ReadPrefix.
-/
namespace Go.Proofs.Ytebakjdeighdnaa
open Go.RowKit
set_option linter.unusedVariables false

theorem and128 (z : Nat) (hz : z < 256) : (bits .and .u8 (z : Int) 128 == 0) = decide (z < 128) := by
  have key : ∀ z, z < 256 → (((z &&& 128 : Nat) : Int) == 0) = decide (z < 128) := by decide +kernel
  rw [show (128 : Int) = ((128 : Nat) : Int) from rfl, u8_and_nat _ _ hz (by omega), key z hz]

def RefRel (R : Int × Int × Int) (t : List UInt8) (T : Nat) (vv iv : Value) : Prop :=
  ∃ (i : Nat) (v : Int), iv = .int .i64 ((i : Int) + 1) ∧ vv = .int .u64 v ∧ 0 ≤ v ∧ v ≤ 4611686018427387903 ∧ i ≤ T ∧ ((i ≤ 9 ∧ rpGo (t.drop i) i v.toNat = R) ∨ (i = 10 ∧ R = (0, 0, 21)))

theorem readPrefix_any (bV : Value) (l : List UInt8) (n : Int) (w : World) (hb : Bs w bV l) (hm : l.length ≤ 1000000) :
    Calls Try.prog 35 #[bV, .int .i64 n] w fun e w' => e = Ans3 (rp (bitsOf n) l) ∧ w = w' := by
  cases l with
  | nil => exact readPrefix_nil bV n w hb
  | cons x t => exact readPrefix_cons bV x t n w hb hm
end Go.Proofs.Ytebakjdeighdnaa

/-
  The Huffman code as plain numbers and lists: its tables, its signs, what a string's bits are, what bits tell. No program is named here.
-/
namespace Go.Proofs.Ytebakjdeighdnaa
set_option linter.unusedVariables false

def LL : List Nat := [13, 23, 28, 28, 28, 28, 28, 28, 28, 24, 30, 28, 28, 30, 28, 28, 28, 28, 28, 28, 28, 28, 30, 28, 28, 28, 28, 28, 28, 28, 28, 28, 6, 10, 10, 12, 13, 6, 8, 11, 10, 10, 8, 11, 8, 6, 6, 6, 5, 5, 5, 6, 6, 6, 6, 6, 6, 6, 7, 8, 15, 6, 12, 10, 13, 6, 7, 7, 7, 7, 7, 7, 7, 7, 7, 7, 7, 7, 7, 7, 7, 7, 7, 7, 7, 7, 7, 7, 8, 7, 8, 13, 19, 13, 14, 6, 15, 5, 6, 5, 6, 5, 6, 6, 6, 5, 7, 7, 6, 6, 6, 5, 6, 7, 6, 5, 5, 6, 7, 7, 7, 7, 7, 15, 11, 14, 13, 28, 20, 22, 20, 20, 22, 22, 22, 23, 22, 23, 23, 23, 23, 23, 24, 23, 24, 24, 22, 23, 24, 23, 23, 23, 23, 21, 22, 23, 22, 23, 23, 24, 22, 21, 20, 22, 22, 23, 23, 21, 23, 22, 22, 24, 21, 22, 23, 23, 21, 21, 22, 21, 23, 22, 23, 23, 20, 22, 22, 22, 23, 22, 22, 23, 26, 26, 20, 19, 22, 23, 22, 25, 26, 26, 26, 27, 27, 26, 24, 25, 19, 21, 26, 27, 27, 26, 27, 24, 21, 21, 26, 26, 28, 27, 27, 27, 20, 24, 20, 21, 22, 21, 21, 23, 22, 22, 25, 25, 24, 24, 26, 23, 26, 27, 26, 26, 27, 27, 27, 27, 27, 28, 27, 27, 27, 27, 27, 26, 30]
def CW : List Nat := [8184, 8388568, 268435426, 268435427, 268435428, 268435429, 268435430, 268435431, 268435432, 16777194, 1073741820, 268435433, 268435434, 1073741821, 268435435, 268435436, 268435437, 268435438, 268435439, 268435440, 268435441, 268435442, 1073741822, 268435443, 268435444, 268435445, 268435446, 268435447, 268435448, 268435449, 268435450, 268435451, 20, 1016, 1017, 4090, 8185, 21, 248, 2042, 1018, 1019, 249, 2043, 250, 22, 23, 24, 0, 1, 2, 25, 26, 27, 28, 29, 30, 31, 92, 251, 32764, 32, 4091, 1020, 8186, 33, 93, 94, 95, 96, 97, 98, 99, 100, 101, 102, 103, 104, 105, 106, 107, 108, 109, 110, 111, 112, 113, 114, 252, 115, 253, 8187, 524272, 8188, 16380, 34, 32765, 3, 35, 4, 36, 5, 37, 38, 39, 6, 116, 117, 40, 41, 42, 7, 43, 118, 44, 8, 9, 45, 119, 120, 121, 122, 123, 32766, 2044, 16381, 8189, 268435452, 1048550, 4194258, 1048551, 1048552, 4194259, 4194260, 4194261, 8388569, 4194262, 8388570, 8388571, 8388572, 8388573, 8388574, 16777195, 8388575, 16777196, 16777197, 4194263, 8388576, 16777198, 8388577, 8388578, 8388579, 8388580, 2097116, 4194264, 8388581, 4194265, 8388582, 8388583, 16777199, 4194266, 2097117, 1048553, 4194267, 4194268, 8388584, 8388585, 2097118, 8388586, 4194269, 4194270, 16777200, 2097119, 4194271, 8388587, 8388588, 2097120, 2097121, 4194272, 2097122, 8388589, 4194273, 8388590, 8388591, 1048554, 4194274, 4194275, 4194276, 8388592, 4194277, 4194278, 8388593, 67108832, 67108833, 1048555, 524273, 4194279, 8388594, 4194280, 33554412, 67108834, 67108835, 67108836, 134217694, 134217695, 67108837, 16777201, 33554413, 524274, 2097123, 67108838, 134217696, 134217697, 67108839, 134217698, 16777202, 2097124, 2097125, 67108840, 67108841, 268435453, 134217699, 134217700, 134217701, 1048556, 16777203, 1048557, 2097126, 4194281, 2097127, 2097128, 8388595, 4194282, 4194283, 33554414, 33554415, 16777204, 16777205, 67108842, 8388596, 67108843, 134217702, 67108844, 67108845, 134217703, 134217704, 134217705, 134217706, 134217707, 268435454, 134217708, 134217709, 134217710, 134217711, 134217712, 67108846, 1073741823]
def FI : List Nat := [0, 0, 0, 0, 0, 0, 20, 92, 248, 508, 1016, 2042, 4090, 8184, 16380, 32764, 65534, 131068, 262136, 524272, 1048550, 2097116, 4194258, 8388568, 16777194, 33554412, 67108832, 134217694, 268435426, 536870910, 1073741820]
def CO : List Nat := [0, 0, 0, 0, 0, 10, 26, 32, 6, 0, 5, 3, 2, 6, 2, 3, 0, 0, 0, 3, 8, 13, 26, 29, 12, 4, 15, 19, 29, 0, 4]
def PL : List Nat := [0, 0, 0, 0, 0, 0, 10, 36, 68, 74, 74, 79, 82, 84, 90, 92, 95, 95, 95, 95, 98, 106, 119, 145, 174, 186, 190, 205, 224, 253, 253]
def OR : List Nat := [48, 49, 50, 97, 99, 101, 105, 111, 115, 116, 32, 37, 45, 46, 47, 51, 52, 53, 54, 55, 56, 57, 61, 65, 95, 98, 100, 102, 103, 104, 108, 109, 110, 112, 114, 117, 58, 66, 67, 68, 69, 70, 71, 72, 73, 74, 75, 76, 77, 78, 79, 80, 81, 82, 83, 84, 85, 86, 87, 89, 106, 107, 113, 118, 119, 120, 121, 122, 38, 42, 44, 59, 88, 90, 33, 34, 40, 41, 63, 39, 43, 124, 35, 62, 0, 36, 64, 91, 93, 126, 94, 125, 60, 96, 123, 92, 195, 208, 128, 130, 131, 162, 184, 194, 224, 226, 153, 161, 167, 172, 176, 177, 179, 209, 216, 217, 227, 229, 230, 129, 132, 133, 134, 136, 146, 154, 156, 160, 163, 164, 169, 170, 173, 178, 181, 185, 186, 187, 189, 190, 196, 198, 228, 232, 233, 1, 135, 137, 138, 139, 140, 141, 143, 147, 149, 150, 151, 152, 155, 157, 158, 165, 166, 168, 174, 175, 180, 182, 183, 188, 191, 197, 231, 239, 9, 142, 144, 145, 148, 159, 171, 206, 215, 225, 236, 237, 199, 207, 234, 235, 192, 193, 200, 201, 202, 205, 210, 213, 218, 219, 238, 240, 242, 243, 255, 203, 204, 211, 212, 214, 221, 222, 223, 241, 244, 245, 246, 247, 248, 250, 251, 252, 253, 254, 2, 3, 4, 5, 6, 7, 8, 11, 12, 14, 15, 16, 17, 18, 19, 20, 21, 23, 24, 25, 26, 27, 28, 29, 30, 31, 127, 220, 249, 10, 13, 22, 256]

def ll (s : Nat) : Nat := LL.getD s 0
def cw (s : Nat) : Nat := CW.getD s 0
def fi (n : Nat) : Nat := FI.getD n 0
def co (n : Nat) : Nat := CO.getD n 0
def pl (n : Nat) : Nat := PL.getD n 0
def orr (k : Nat) : Nat := OR.getD k 0

theorem tab_len : LL.length = 257 ∧ CW.length = 257 ∧ FI.length = 31 ∧ CO.length = 31 ∧ PL.length = 31 ∧ OR.length = 257 := by decide +kernel

theorem sign_facts : ∀ s, s < 257 → 5 ≤ ll s ∧ ll s ≤ 30 ∧ cw s < 2 ^ ll s ∧ fi (ll s) ≤ cw s ∧ cw s < fi (ll s) + co (ll s) ∧ orr (pl (ll s) + (cw s - fi (ll s))) = s := by decide +kernel

theorem place_facts : ∀ n, n < 31 → fi n + co n ≤ 2 ^ n ∧ pl n + co n ≤ 257 ∧ ∀ i, i < co n → orr (pl n + i) < 257 ∧ ll (orr (pl n + i)) = n ∧ cw (orr (pl n + i)) = fi n + i := by decide +kernel

theorem next_facts : ∀ n, n < 30 → fi (n + 1) = 2 * (fi n + co n) ∧ pl (n + 1) = pl n + co n := by decide +kernel
theorem start_facts : fi 0 = 0 ∧ co 0 = 0 ∧ pl 0 = 0 ∧ fi 30 + co 30 = 2 ^ 30 := by decide +kernel

/-- The sign of a code of n bits. -/
def sgn (n w : Nat) : Option Nat := if fi n ≤ w ∧ w < fi n + co n then some (orr (pl n + (w - fi n))) else none

theorem sgn_some {n w s : Nat} (hn : n < 31) (h : sgn n w = some s) : s < 257 ∧ ll s = n ∧ cw s = w := by
  unfold sgn at h
  split at h
  · rename_i hc
    injection h with h
    have hp := (place_facts n hn).2.2 (w - fi n) (by omega)
    rw [h] at hp
    refine ⟨hp.1, hp.2.1, ?_⟩
    rw [hp.2.2]; omega
  · cases h

theorem sgn_of {s : Nat} (hs : s < 257) : sgn (ll s) (cw s) = some s := by
  have h := sign_facts s hs
  unfold sgn
  rw [if_pos ⟨h.2.2.2.1, h.2.2.2.2.1⟩, h.2.2.2.2.2]

theorem sgn_iff {n w s : Nat} (hn : n < 31) : sgn n w = some s ↔ s < 257 ∧ ll s = n ∧ cw s = w := by
  constructor
  · exact sgn_some hn
  · rintro ⟨h, rfl, rfl⟩
    exact sgn_of h

/-- w, of n bits, is neither a code nor begins behind one: codes of more bits begin so. -/
def Open (n w : Nat) : Prop := n ≤ 30 ∧ fi n + co n ≤ w ∧ w < 2 ^ n

theorem open_zero : Open 0 0 := by unfold Open; decide +kernel
theorem open_lt {n w : Nat} (h : Open n w) : n < 30 := by
  obtain ⟨h1, h2, h3⟩ := h
  rcases Nat.lt_or_ge n 30 with h | h
  · exact h
  · obtain rfl : n = 30 := by omega
    have := start_facts.2.2.2
    omega
theorem open_next {n w b : Nat} (h : Open n w) (hb : b < 2) (hn : sgn (n + 1) (2 * w + b) = none) : Open (n + 1) (2 * w + b) := by
  have hlt := open_lt h
  obtain ⟨h1, h2, h3⟩ := h
  have hx := (next_facts n hlt).1
  have hp : 2 ^ (n + 1) = 2 * 2 ^ n := by rw [Nat.pow_succ]; omega
  unfold sgn at hn
  split at hn
  · cases hn
  · refine ⟨by omega, by omega, by omega⟩
theorem open_word {n w b : Nat} (h : Open n w) (hb : b < 2) : n + 1 ≤ 30 ∧ 2 * w + b < 2 ^ (n + 1) := by
  have hlt := open_lt h
  obtain ⟨h1, h2, h3⟩ := h
  have hp : 2 ^ (n + 1) = 2 * 2 ^ n := by rw [Nat.pow_succ]; omega
  omega

/-! ### reading -/
def dec : List Nat → List UInt8 → Nat → Nat → List UInt8 × Nat
  | [], out, w, n => if 8 ≤ n ∨ w ≠ 2 ^ n - 1 then ([], 22) else (out, 0)
  | b :: bs, out, w, n =>
    match sgn (n + 1) (2 * w + b) with
    | none => dec bs out (2 * w + b) (n + 1)
    | some s => if s = 256 then ([], 22) else if out.length = 4096 then ([], 23) else dec bs (out ++ [UInt8.ofNat s]) 0 0

theorem dec_none {b : Nat} {bs : List Nat} {out : List UInt8} {w n : Nat} (h : sgn (n + 1) (2 * w + b) = none) : dec (b :: bs) out w n = dec bs out (2 * w + b) (n + 1) := by
  rw [dec, h]
theorem dec_end {b : Nat} {bs : List Nat} {out : List UInt8} {w n : Nat} (h : sgn (n + 1) (2 * w + b) = some 256) : dec (b :: bs) out w n = ([], 22) := by
  rw [dec, h]; rfl
theorem dec_long {b s : Nat} {bs : List Nat} {out : List UInt8} {w n : Nat} (h : sgn (n + 1) (2 * w + b) = some s) (hs : s ≠ 256) (ho : out.length = 4096) : dec (b :: bs) out w n = ([], 23) := by
  rw [dec, h]; simp [hs, ho]
theorem dec_some {b s : Nat} {bs : List Nat} {out : List UInt8} {w n : Nat} (h : sgn (n + 1) (2 * w + b) = some s) (hs : s ≠ 256) (ho : out.length ≠ 4096) : dec (b :: bs) out w n = dec bs (out ++ [UInt8.ofNat s]) 0 0 := by
  rw [dec, h]; simp [hs, ho]

/-! ### bits -/
/-- v's lowest n bits, the highest first. -/
def msb : Nat → Nat → List Nat
  | 0, _ => []
  | n + 1, v => v / 2 ^ n % 2 :: msb n v

theorem msb_length (n v : Nat) : (msb n v).length = n := by
  induction n with
  | zero => rfl
  | succ n ih => simp [msb, ih]
theorem msb_mod (n v : Nat) : msb n (v % 2 ^ n) = msb n v := by
  have key : ∀ k, k ≤ n → msb k (v % 2 ^ n) = msb k v := by
    intro k
    induction k with
    | zero => intro _; rfl
    | succ k ih =>
      intro hk
      rw [msb, msb, ih (by omega)]
      congr 1
      have e : n = k + 1 + (n - (k + 1)) := by omega
      rw [e, Nat.pow_add, Nat.mod_mul, Nat.pow_succ]
      generalize v / (2 ^ k * 2) % 2 ^ (n - (k + 1)) = r
      have hp := Nat.two_pow_pos k
      rw [Nat.mod_mul, Nat.add_assoc, Nat.mul_assoc, ← Nat.mul_add, Nat.add_mul_div_left _ _ hp, Nat.div_eq_of_lt (Nat.mod_lt _ hp)]
      omega
  exact key n (Nat.le_refl _)
theorem msb_append (n m v c : Nat) (hc : c < 2 ^ m) : msb (n + m) (v * 2 ^ m + c) = msb n v ++ msb m c := by
  induction n with
  | zero =>
    rw [Nat.zero_add]
    show _ = [] ++ _
    rw [List.nil_append, ← msb_mod m (v * 2 ^ m + c), Nat.mul_add_mod_self_right, Nat.mod_eq_of_lt hc]
  | succ n ih =>
    rw [show n + 1 + m = (n + m) + 1 from by omega, msb, ih, msb, List.cons_append]
    congr 2
    rw [Nat.add_comm n m, Nat.pow_add, ← Nat.div_div_eq_div_mul]
    have hp := Nat.two_pow_pos m
    rw [Nat.mul_comm, Nat.mul_add_div hp, Nat.div_eq_of_lt hc, Nat.add_zero]
theorem msb_split (n m v : Nat) : msb (n + m) v = msb n (v / 2 ^ m) ++ msb m v := by
  have h := msb_append n m (v / 2 ^ m) (v % 2 ^ m) (Nat.mod_lt _ (Nat.two_pow_pos m))
  rw [msb_mod] at h
  rw [← h]
  congr 1
  rw [Nat.mul_comm, Nat.div_add_mod]
theorem msb_ones (n : Nat) : msb n (2 ^ n - 1) = List.replicate n 1 := by
  have key : ∀ k, k ≤ n → msb k (2 ^ n - 1) = List.replicate k 1 := by
    intro k
    induction k with
    | zero => intro _; rfl
    | succ k ih =>
      intro hk
      rw [msb, ih (by omega), List.replicate_succ]
      congr 1
      have e : 2 ^ n - 1 = (2 ^ (n - (k + 1)) - 1) * 2 ^ (k + 1) + (2 ^ (k + 1) - 1) := by
        have h1 : 2 ^ n = 2 ^ (n - (k + 1)) * 2 ^ (k + 1) := by rw [← Nat.pow_add]; congr 1; omega
        have h2 := Nat.two_pow_pos (n - (k + 1))
        have h3 := Nat.two_pow_pos (k + 1)
        have h4 := Nat.le_mul_of_pos_left (2 ^ (k + 1)) h2
        rw [h1, Nat.sub_mul, Nat.one_mul]
        omega
      have h5 : 2 ^ (k + 1) - 1 = 2 ^ k + (2 ^ k - 1) := by have := Nat.two_pow_pos k; rw [Nat.pow_succ]; omega
      have hp := Nat.two_pow_pos k
      rw [e, h5, Nat.pow_succ, show (2 ^ (n - (k + 1)) - 1) * (2 ^ k * 2) + (2 ^ k + (2 ^ k - 1)) = 2 ^ k * ((2 ^ (n - (k + 1)) - 1) * 2 + 1) + (2 ^ k - 1) from by
        rw [Nat.mul_add, ← Nat.mul_assoc, Nat.mul_one, Nat.add_assoc, ← Nat.mul_assoc, Nat.mul_comm (2 ^ (n - (k + 1)) - 1) (2 ^ k)], Nat.mul_add_div hp, Nat.div_eq_of_lt (by omega)]
      omega
  exact key n (Nat.le_refl _)
theorem msb_get (n v i : Nat) (h : i < n) : (msb n v)[i]? = some (v / 2 ^ (n - 1 - i) % 2) := by
  induction n generalizing i with
  | zero => omega
  | succ n ih =>
    cases i with
    | zero => simp [msb]
    | succ i =>
      rw [msb, List.getElem?_cons_succ, ih i (by omega)]
      congr 4
      omega
theorem msb_bit (n v : Nat) : ∀ b ∈ msb n v, b < 2 := by
  induction n with
  | zero => intro b h; cases h
  | succ n ih =>
    intro b h
    rw [msb] at h
    rcases List.mem_cons.1 h with h | h
    · omega
    · exact ih b h

def byteBits (x : UInt8) : List Nat := msb 8 x.toNat
def allBits (l : List UInt8) : List Nat := l.flatMap byteBits
def codeBits (c : UInt8) : List Nat := msb (ll c.toNat) (cw c.toNat)
def strBits (l : List UInt8) : List Nat := l.flatMap codeBits
/-- How many bits. -/
def bitLen (l : List UInt8) : Nat := (l.map fun c => ll c.toNat).sum

theorem allBits_length (l : List UInt8) : (allBits l).length = 8 * l.length := by
  induction l with
  | nil => rfl
  | cons x l ih =>
    have : allBits (x :: l) = byteBits x ++ allBits l := rfl
    rw [this, List.length_append, ih, byteBits, msb_length, List.length_cons]
    omega
theorem strBits_length (l : List UInt8) : (strBits l).length = bitLen l := by
  induction l with
  | nil => rfl
  | cons x l ih =>
    have : strBits (x :: l) = codeBits x ++ strBits l := rfl
    rw [this, List.length_append, ih, codeBits, msb_length]
    simp [bitLen]
theorem allBits_append (a b : List UInt8) : allBits (a ++ b) = allBits a ++ allBits b := by unfold allBits; rw [List.flatMap_append]
theorem strBits_append (a b : List UInt8) : strBits (a ++ b) = strBits a ++ strBits b := by unfold strBits; rw [List.flatMap_append]
theorem bitLen_append (a b : List UInt8) : bitLen (a ++ b) = bitLen a + bitLen b := by simp [bitLen]
theorem ll_byte (c : UInt8) : 5 ≤ ll c.toNat ∧ ll c.toNat ≤ 30 ∧ cw c.toNat < 2 ^ ll c.toNat := by
  have h := sign_facts c.toNat (by have := c.toNat_lt; omega)
  exact ⟨h.1, h.2.1, h.2.2.1⟩
theorem bitLen_le (l : List UInt8) : 5 * l.length ≤ bitLen l ∧ bitLen l ≤ 30 * l.length := by
  induction l with
  | nil => simp [bitLen]
  | cons x l ih =>
    have h := ll_byte x
    have e : bitLen (x :: l) = ll x.toNat + bitLen l := by simp [bitLen]
    rw [e, List.length_cons]
    omega
theorem bitLen_take (l : List UInt8) (k : Nat) (h : k < l.length) : bitLen (l.take (k + 1)) = bitLen (l.take k) + ll l[k].toNat := by
  rw [List.take_succ_eq_append_getElem h, bitLen_append]
  simp [bitLen]

/-! ### writing -/
/-- The whole bytes of w's lowest n bits. -/
def emit : Nat → Nat → Nat → List UInt8
  | 0, _, _ => []
  | k + 1, w, n => UInt8.ofNat (w / 2 ^ (n - 8) % 256) :: emit k w (n - 8)
def last (w n : Nat) : List UInt8 := if n = 0 then [] else [UInt8.ofNat (w * 2 ^ (8 - n) + (2 ^ (8 - n) - 1))]
/-- The bytes of a string behind n bits w that are still to be written. -/
def enc : List UInt8 → Nat → Nat → List UInt8
  | [], w, n => last w n
  | c :: cs, w, n => emit ((n + ll c.toNat) / 8) (w * 2 ^ ll c.toNat + cw c.toNat) (n + ll c.toNat) ++ enc cs ((w * 2 ^ ll c.toNat + cw c.toNat) % 2 ^ ((n + ll c.toNat) % 8)) ((n + ll c.toNat) % 8)

theorem u8_nat {n : Nat} (h : n < 256) : (UInt8.ofNat n).toNat = n := by
  rw [UInt8.toNat_ofNat', Nat.mod_eq_of_lt (by have : (2:Nat) ^ 8 = 256 := rfl; omega)]

theorem emit_bits (k w n : Nat) (h : n / 8 = k) : allBits (emit k w n) ++ msb (n % 8) (w % 2 ^ (n % 8)) = msb n w := by
  induction k generalizing n with
  | zero =>
    have : n % 8 = n := by omega
    rw [this, msb_mod]
    rfl
  | succ k ih =>
    have e : allBits (emit (k + 1) w n) = byteBits (UInt8.ofNat (w / 2 ^ (n - 8) % 256)) ++ allBits (emit k w (n - 8)) := rfl
    have hm : n % 8 = (n - 8) % 8 := by omega
    rw [e, List.append_assoc, hm, ih (n - 8) (by omega)]
    conv => rhs; rw [show n = 8 + (n - 8) from by omega, msb_split]
    congr 1
    unfold byteBits
    rw [u8_nat (by omega), show (256 : Nat) = 2 ^ 8 from rfl, msb_mod]

theorem last_bits (w n : Nat) (hn : n < 8) (hw : w < 2 ^ n) : allBits (last w n) = msb n w ++ List.replicate ((8 - n) % 8) 1 := by
  unfold last
  split
  · subst_vars
    simp [msb, allBits]
  · have hp := Nat.two_pow_pos (8 - n)
    have h256 : 2 ^ n * 2 ^ (8 - n) = 256 := by rw [← Nat.pow_add, show n + (8 - n) = 8 from by omega]
    have hlt : w * 2 ^ (8 - n) + (2 ^ (8 - n) - 1) < 256 := by
      have h1 : (w + 1) * 2 ^ (8 - n) ≤ 2 ^ n * 2 ^ (8 - n) := Nat.mul_le_mul_right _ hw
      rw [Nat.add_mul, Nat.one_mul] at h1
      omega
    show byteBits _ ++ [] = _
    rw [List.append_nil]
    unfold byteBits
    rw [u8_nat hlt, show msb 8 = msb (n + (8 - n)) from by rw [show n + (8 - n) = 8 from by omega], msb_append _ _ _ _ (by omega), msb_ones, Nat.mod_eq_of_lt (by omega)]

theorem enc_bits (s : List UInt8) : ∀ (w n : Nat), n < 8 → w < 2 ^ n → allBits (enc s w n) = msb n w ++ strBits s ++ List.replicate ((8 - (n + bitLen s) % 8) % 8) 1 := by
  induction s with
  | nil =>
    intro w n hn hw
    rw [enc, last_bits w n hn hw]
    have : strBits [] = [] := rfl
    have h2 : bitLen [] = 0 := rfl
    rw [this, h2, List.append_nil, Nat.add_zero, Nat.mod_eq_of_lt hn]
  | cons c cs ih =>
    intro w n hn hw
    have hl := ll_byte c
    rw [enc, allBits_append, ih _ _ (Nat.mod_lt _ (by omega)) (Nat.mod_lt _ (Nat.two_pow_pos _)), ← List.append_assoc, ← List.append_assoc, emit_bits _ _ _ rfl, msb_append _ _ _ _ hl.2.2]
    have e1 : strBits (c :: cs) = codeBits c ++ strBits cs := rfl
    have e2 : bitLen (c :: cs) = ll c.toNat + bitLen cs := by simp [bitLen]
    rw [e1, e2, ← List.append_assoc]
    congr 3
    omega

theorem emit_length (k w n : Nat) : (emit k w n).length = k := by
  induction k generalizing n with
  | zero => rfl
  | succ k ih => simp [emit, ih]
theorem enc_length (s : List UInt8) : ∀ (w n : Nat), n < 8 → (enc s w n).length = (n + bitLen s + 7) / 8 := by
  induction s with
  | nil =>
    intro w n hn
    have h2 : bitLen [] = 0 := rfl
    rw [enc, last, h2]
    split
    · subst_vars; rfl
    · simp; omega
  | cons c cs ih =>
    intro w n hn
    have e2 : bitLen (c :: cs) = ll c.toNat + bitLen cs := by simp [bitLen]
    rw [enc, List.length_append, emit_length, ih _ _ (Nat.mod_lt _ (by omega)), e2]
    omega

/-! ### back -/
theorem prefix_facts : ∀ c, c < 256 → ∀ m, m < 30 → m < ll c → fi m + co m ≤ cw c / 2 ^ (ll c - m) := by decide +kernel

theorem sgn_prefix {c m : Nat} (hc : c < 256) (hm : m < ll c) : sgn m (cw c / 2 ^ (ll c - m)) = none := by
  have h := sign_facts c (by omega)
  have := prefix_facts c hc m (by omega) hm
  unfold sgn
  rw [if_neg (by omega)]

theorem dec_code (c : UInt8) (rest : List Nat) (out : List UInt8) (hout : out.length ≤ 4096) : dec (codeBits c ++ rest) out 0 0 = if out.length = 4096 then ([], 23) else dec rest (out ++ [c]) 0 0 := by
  have hc := c.toNat_lt
  have hl := ll_byte c
  have key : ∀ j, j ≤ ll c.toNat → 0 < j → dec (msb j (cw c.toNat) ++ rest) out (cw c.toNat / 2 ^ j) (ll c.toNat - j) = if out.length = 4096 then ([], 23) else dec rest (out ++ [c]) 0 0 := by
    intro j
    induction j with
    | zero => intro _ h; omega
    | succ j ih =>
      intro hj _
      have hw : 2 * (cw c.toNat / 2 ^ (j + 1)) + cw c.toNat / 2 ^ j % 2 = cw c.toNat / 2 ^ j := by
        rw [Nat.pow_succ, ← Nat.div_div_eq_div_mul]
        omega
      have hn : ll c.toNat - (j + 1) + 1 = ll c.toNat - j := by omega
      rw [msb, List.cons_append]
      rcases Nat.eq_zero_or_pos j with rfl | hj0
      · have hs : sgn (ll c.toNat - (0 + 1) + 1) (2 * (cw c.toNat / 2 ^ (0 + 1)) + cw c.toNat / 2 ^ 0 % 2) = some c.toNat := by
          rw [hn, hw, Nat.pow_zero, Nat.div_one, Nat.sub_zero]
          exact sgn_of (by omega)
        split
        · exact dec_long hs (by omega) ‹_›
        · rw [dec_some hs (by omega) ‹_›]
          show dec ([] ++ rest) _ 0 0 = _
          rw [List.nil_append, UInt8.ofNat_toNat]
      · have hs : sgn (ll c.toNat - (j + 1) + 1) (2 * (cw c.toNat / 2 ^ (j + 1)) + cw c.toNat / 2 ^ j % 2) = none := by
          rw [hn, hw]
          have := sgn_prefix (c := c.toNat) (m := ll c.toNat - j) hc (by omega)
          rwa [show ll c.toNat - (ll c.toNat - j) = j from by omega] at this
        rw [dec_none hs, hn, hw]
        exact ih (by omega) hj0
  have h := key (ll c.toNat) (Nat.le_refl _) (by omega)
  rw [Nat.div_eq_of_lt hl.2.2, Nat.sub_self] at h
  exact h

theorem dec_str (s : List UInt8) (rest : List Nat) : ∀ out : List UInt8, out.length ≤ 4096 → dec (strBits s ++ rest) out 0 0 = if out.length + s.length ≤ 4096 then dec rest (out ++ s) 0 0 else ([], 23) := by
  induction s with
  | nil => intro out ho; simp [strBits, ho]
  | cons c cs ih =>
    intro out ho
    have e1 : strBits (c :: cs) = codeBits c ++ strBits cs := rfl
    rw [e1, List.append_assoc, dec_code c _ out ho]
    split
    · rw [if_neg (by rw [List.length_cons]; omega)]
    · rw [ih _ (by simp; omega)]
      simp only [List.length_append, List.length_cons, List.length_nil, List.append_assoc, List.cons_append, List.nil_append]
      rw [show out.length + (0 + 1) + cs.length = out.length + (cs.length + 1) from by omega]

theorem ones_facts : ∀ m, m < 16 → sgn m (2 ^ m - 1) = none := by decide +kernel
theorem dec_ones (out : List UInt8) (k n : Nat) (h : n + k < 16) : dec (List.replicate k 1) out (2 ^ n - 1) n = if 8 ≤ n + k then ([], 22) else (out, 0) := by
  induction k generalizing n with
  | zero => rw [List.replicate_zero, dec]; simp
  | succ k ih =>
    have hp := Nat.two_pow_pos n
    have e : 2 * (2 ^ n - 1) + 1 = 2 ^ (n + 1) - 1 := by rw [Nat.pow_succ]; omega
    rw [List.replicate_succ, dec_none (by rw [e]; exact ones_facts _ (by omega)), e, ih (n + 1) (by omega), show n + 1 + k = n + (k + 1) from by omega]

/-- What is written is read back. -/
theorem dec_back (s : List UInt8) : dec (allBits (enc s 0 0)) [] 0 0 = if s.length ≤ 4096 then (s, 0) else ([], 23) := by
  rw [enc_bits s 0 0 (by omega) (by omega)]
  show dec ([] ++ strBits s ++ _) [] 0 0 = _
  rw [List.nil_append, dec_str s _ [] (by simp)]
  simp only [List.length_nil, Nat.zero_add, List.nil_append]
  split
  · have := dec_ones s ((8 - bitLen s % 8) % 8) 0 (by omega)
    rw [Nat.zero_add, if_neg (by omega)] at this
    exact this
  · rfl

theorem dec_more (s : List UInt8) (h : s.length ≤ 4096) : dec (allBits (enc s 0 0 ++ [255])) [] 0 0 = ([], 22) := by
  rw [allBits_append, enc_bits s 0 0 (by omega) (by omega)]
  show dec ([] ++ strBits s ++ _ ++ _) [] 0 0 = _
  have e : allBits [255] = List.replicate 8 1 := by decide +kernel
  rw [List.nil_append, e, List.append_assoc, List.replicate_append_replicate, dec_str s _ [] (by simp)]
  simp only [List.length_nil, Nat.zero_add, List.nil_append]
  rw [if_pos h]
  have := dec_ones s ((8 - bitLen s % 8) % 8 + 8) 0 (by omega)
  rw [Nat.zero_add, if_pos (by omega)] at this
  exact this

end Go.Proofs.Ytebakjdeighdnaa

/-
  Contracts of huff.lengths, huff.size.
-/
namespace Go.Proofs.Ytebakjdeighdnaa
open Go.RowKit
set_option linter.unusedVariables false

/-- The lengths, as an array's cells. -/
def LA : Array Value := (LL.map fun (n : Nat) => Value.int .u8 (n : Int)).toArray
def ZA : Array Value := Array.replicate 257 (.int .u8 0)

theorem infoArr : (Try.prog.info? 117).map (fun i => (i.zero, i.size)) = some (some (.agg ZA), 257) := by kernel_rfl
theorem la_one : LA.all (·.oneCell') = true := by decide +kernel
theorem la_size : LA.size = 257 := by decide +kernel
theorem za_size : ZA.size = 257 := by decide +kernel

set_option maxRecDepth 100000 in
set_option maxHeartbeats 1000000 in
theorem lengths_any (w : World) :
    Calls Try.prog 76 #[] w fun e w' => e = .returned (.agg LA) ∧ Below w.heap.size w w' := by
  obtain ⟨hz, hs⟩ := zero_of_info infoArr
  have hst := run_storeCells_new (P := Try.prog) w 117 ZA LA (by rw [hs, la_size]) (by rw [la_size, za_size]) la_one
  have hsz := la_size
  go_enter Try.func76, Try.ntmps76
  go_wp2_with (with_reducible refine wpList_build (v := .agg LA) (by kernel_rfl) ?_)
  exact bodyPost_ret (results_cell_row Try.results76 _ _ w.heap.size 117 LA (0, 0) _ rfl (heap_alloc_last w _) Try.underlying117 rfl (by rw [hs, la_size])) rfl ⟨rfl, (Below.refl _ _).alloc (Nat.le_refl _) _⟩


theorem la_get (k : Nat) (hk : k < 257) : LA[k]? = some (.int .u8 (ll k : Int)) := by
  unfold LA ll
  have h := tab_len.1
  rw [List.getElem?_toArray, List.getElem?_map, List.getElem?_eq_getElem (by omega), List.getD_eq_getElem?_getD, List.getElem?_eq_getElem (by omega)]
  rfl

end Go.Proofs.Ytebakjdeighdnaa

/-
  Contracts of huff.size, huff.Len.
-/
namespace Go.Proofs.Ytebakjdeighdnaa
open Go.RowKit
set_option linter.unusedVariables false

theorem hret_int {k : IntKind} {a b : Int} (h : a = b) : Ending.returned (.int k a) = .returned (.int k b) := by rw [h]

theorem take_snocB (s : ByteArray) (k : Nat) (h : k < s.size) : s.data.toList.take (k + 1) = s.data.toList.take k ++ [s[k]] := by
  rw [List.take_succ_eq_append_getElem (by simpa using h)]; rfl
theorem bitLen_snoc (s : ByteArray) (k : Nat) (h : k < s.size) : bitLen (s.data.toList.take (k + 1)) = bitLen (s.data.toList.take k) + ll s[k].toNat := by
  rw [take_snocB s k h, bitLen_append]; simp [bitLen]

set_option maxRecDepth 100000 in
set_option maxHeartbeats 1000000 in
theorem hsize_any (s : ByteArray) (w : World) (hs : s.size ≤ 1000000) :
    Calls Try.prog 75 #[.string s, .agg LA] w fun e w' => e = .returned (.int .i64 (((bitLen s.data.toList + 7) / 8 : Nat) : Int)) ∧ Below w.heap.size w w' := by
  go_enter Try.func75, Try.ntmps75
  go_wp2
  have Hc : Bx (∀ k, k < 257 → (w.alloc (.cells LA 117)).cell? ⟨w.heap.size, k, none⟩ = some (.int .u8 (ll k : Int))) := ⟨fun k hk => by
    rw [cell_of_row _ _ k LA 117 (0, 0) (heap_alloc_last w _), la_get k hk]⟩
  go_loop [5, 9] (fun t i => ∃ k : Nat, k ≤ s.size ∧ i = .int .i64 k ∧ t = .int .i64 (bitLen (s.data.toList.take k))) (fun _ i => s.size - (intOf i).toNat)
  case atStart => exact ⟨0, Nat.zero_le _, rfl, rfl⟩
  case round =>
    obtain ⟨k, hk, rfl, rfl⟩ := hrel
    have hb := bitLen_le (s.data.toList.take k)
    have hl : (s.data.toList.take k).length ≤ k := List.length_take_le _ _
    by_cases hlt : k < s.size
    · have hx := s[k].toNat_lt
      have hc := Hc.out (s[k].toNat) (by omega)
      have hll := ll_byte s[k]
      have HS := Lib.hid (bitLen_snoc s k hlt)
      go_wp2
      go_round
      case rel => exact ⟨k + 1, by omega, by go_num, by rw [HS.out]; go_num⟩
      case measure => simp [intOf]; omega
    · go_wp2
      go_ret
      have he : s.data.toList.take k = s.data.toList := List.take_of_length_le (by simp; omega)
      refine ⟨hret_int (by rw [he]), (Below.refl _ _).alloc (Nat.le_refl _) _⟩

set_option maxRecDepth 100000 in
set_option maxHeartbeats 1000000 in
theorem len_any (s : ByteArray) (w : World) (hs : s.size ≤ 1000000) :
    Calls Try.prog 64 #[.string s] w fun e w' => e = .returned (.int .i64 (((bitLen s.data.toList + 7) / 8 : Nat) : Int)) ∧ Below w.heap.size w w' := by
  go_enter Try.func64, Try.ntmps64
  go_wp2_with (first
    | (go_at_call 76; refine (lengths_any _).mono ?_; rintro e w1 ⟨rfl, b1⟩)
    | (go_at_call 75; refine (hsize_any _ _ hs).mono ?_; rintro e w2 ⟨rfl, b2⟩))
  go_ret
  exact ⟨rfl, b1.trans (b2.mono b1.size)⟩

end Go.Proofs.Ytebakjdeighdnaa
