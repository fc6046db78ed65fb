/-
  Texts put together: HdW5, PtO, HlV.
-/
import Derived.Test.YtejkbibahbcofaaM27
import Derived.Test.YtejkbibahbcofaaM28
import Derived.Test.YtejkbibahbcofaaM11
import Derived.Test.YtejkbibahbcofaaM15
import Derived.Deep.Slices
import Derived.SizedLaws
import Derived.Test.YtejkbibahbcofaaM25
import Derived.Deep.RegionHeld
import Derived.Deep.CutRange
import Derived.Deep.Cut
import Derived.BigQuiet

/-
  Where lines end, as a map tells it; a block of lines, cut off.
-/
namespace Go.Proofs.Ytejkbibahbcofaa
open Go.RowKit Go.Maps
set_option linter.unusedVariables false

/-- The map holds true at just these numbers. -/
def En (D : DataW Unit) (f : Nat → Bool) : Prop := IsMap D ∧ ∀ k : Nat, k ≤ 1000000 → D.atKey (.int .i64 (k : Int)) (.lit (.bool false)) = .lit (.bool (f k))
theorem intLaw : Keyed Try.prog 3 := int_keyed Try.underlying3
theorem wf_i64K (k : Nat) (h : k ≤ 1000000) : (Lit.int .i64 (k : Int)).wf = true := by
  simp [Lit.wf, IntKind.min, IntKind.max, IntKind.signed, IntKind.bits]
  omega
theorem keyOf_int6 (k : Nat) (h : k ≤ 1000000) : keyOf Try.prog 3 (.int .i64 (k : Int)) = some (.int .i64 (k : Int)) := keyOf_int_mk Try.underlying3 (wf_i64K k h)
theorem En.nil : En (.map []) (fun _ => false) := ⟨isMap_empty, fun k _ => by simp [DataW.atKey]⟩
theorem En.put {D : DataW Unit} {f : Nat → Bool} (h : En D f) (c : Nat) (hc : c ≤ 1000000) : En (D.put (.int .i64 (c : Int)) (.lit (.bool true))) (fun k => f k || decide (k = c)) := by
  refine ⟨h.1.put _ _, fun k hk => ?_⟩
  by_cases he : k = c
  · subst he
    rw [atKey_put_same h.1 (intLaw.key (keyOf_int6 k hk))]
    simp
  · rw [atKey_put_other (by intro e; injection e with _ e; omega), h.2 k hk]
    simp [he]
theorem En.congr {D : DataW Unit} {f g : Nat → Bool} (h : En D f) (e : ∀ k, f k = g k) : En D g := ⟨h.1, fun k hk => by rw [h.2 k hk, e k]⟩
theorem zeroBool (w : World) : (zeroValue 4).run Try.prog w = .ok (.bool false) w := by kernel_rfl
theorem En.look {w : World} {b n : Nat} {D : DataW Unit} {f : Nat → Bool} (ho : w.ownsMap Try.prog 3 (plainElem Try.prog 4) b n D) (h : En D f) (k : Nat) (hk : k ≤ 1000000) :
    (Instr.lookup 66 (.map (some b)) (.int .i64 (k : Int)) false).run Try.prog w = .ok (.bool (f k)) w := by
  obtain ⟨v, ps, hrun, hv⟩ := ho.lookup intLaw Try.underlying66 (zeroBool w) (plainElem_bool Try.underlying4 false) (keyOf_int6 k hk)
  rw [h.2 k hk] at hv
  have hb : ∃ x, v = .bool x ∧ plainElem (H := Unit) Try.prog 4 v = some (.lit (.bool x), []) := by
    unfold plainElem at hv ⊢
    cases v with
    | bool x => exact ⟨x, rfl, by simp [Try.underlying4]⟩
    | _ => simp [Try.underlying4] at hv
  obtain ⟨x, rfl, hx⟩ := hb
  rw [hx] at hv
  simp only [Option.some.injEq, Prod.mk.injEq, DataW.lit.injEq, Lit.bool.injEq] at hv
  rw [hrun, hv.1]

/-- A part as a line whose name stands there. -/
def toPt (p : Pv) : Pt := ⟨decide (p.k % 4 < 2), lineF (2 + p.k % 4), lineK (2 + p.k % 4), p.h, p.n.data.toList, p.v.data.toList⟩
def p0 (p : Pv) : Pv := ⟨2 + p.k % 4, 0, p.n, p.v, p.h⟩
theorem p0_w (p : Pv) : (p0 p).w = (toPt p).w := by
  have h : p.k % 4 < 4 := Nat.mod_lt _ (by omega)
  unfold Pv.w p0 toPt Pt.w
  simp only
  rw [if_neg (by omega), if_neg (by omega), show (2 + p.k % 4) % 8 = 2 + p.k % 4 by omega]
theorem toPt_ok (p : Pv) (h : p.n.size + p.v.size ≤ 100) : (toPt p).ok := by
  have h4 : p.k % 4 < 4 := Nat.mod_lt _ (by omega)
  refine ⟨?_, by simp [toPt]; omega, by simp [toPt]; omega⟩
  unfold toPt kindF lineF lineK
  simp only
  rcases (by omega : p.k % 4 = 0 ∨ p.k % 4 = 1 ∨ p.k % 4 = 2 ∨ p.k % 4 = 3) with e | e | e | e <;> rw [e] <;> simp
/-- All lines of the first k parts. -/
def catP (l : List Pv) (k : Nat) : List UInt8 := catW ((l.map toPt).take k)
theorem catP_zero (l : List Pv) : catP l 0 = [] := by simp [catP, catW]
theorem catP_succ (l : List Pv) (k : Nat) (hk : k < l.length) : catP l (k + 1) = catP l k ++ (p0 l[k]).w := by
  unfold catP catW
  rw [List.take_succ_eq_append_getElem (by simpa using hk), List.flatMap_append]
  simp [p0_w]
theorem catP_len (l : List Pv) (k : Nat) (h : ∀ p ∈ l.take k, p.n.size + p.v.size ≤ 100) : (catP l k).length ≤ 140 * k := by
  induction k with
  | zero => simp [catP_zero]
  | succ k ih =>
    by_cases hk : k < l.length
    · rw [catP_succ l k hk, List.length_append]
      have h1 := ih fun p hp => h p (by rw [List.take_succ_eq_append_getElem hk]; exact List.mem_append_left _ hp)
      have h2 := h l[k] (by rw [List.take_succ_eq_append_getElem hk]; exact List.mem_append_right _ (List.mem_singleton.2 rfl))
      have h3 : (p0 l[k]).w.length ≤ 133 := by
        rw [p0_w]
        have := (litW_len (toPt l[k]).f (toPt l[k]).k 0 (toPt l[k]).c (toPt l[k]).n (toPt l[k]).v).2
        have e1 : (toPt l[k]).n.length = l[k].n.size := by simp [toPt]
        have e2 : (toPt l[k]).v.length = l[k].v.size := by simp [toPt]
        show (litW _ _ _ _ _ _).length ≤ 133
        omega
      omega
    · have e : catP l (k + 1) = catP l k := by
        unfold catP
        rw [List.take_of_length_le (by simp; omega), List.take_of_length_le (by simp; omega)]
      rw [e]
      have := ih fun p hp => h p (by rw [List.take_of_length_le (by omega)] at hp ⊢; exact hp)
      omega
/-- Where the first k lines end. -/
def endsB (l : List Pv) (k : Nat) (x : Nat) : Bool := (List.range (k + 1)).any fun j => decide (x = (catP l j).length)
theorem endsB_zero (l : List Pv) (x : Nat) : endsB l 0 x = (false || decide (x = 0)) := by simp [endsB, catP_zero]
theorem endsB_succ (l : List Pv) (k x : Nat) : endsB l (k + 1) x = (endsB l k x || decide (x = (catP l (k + 1)).length)) := by
  unfold endsB
  rw [List.range_succ (n := k + 1), List.any_append]
  simp
theorem endsB_ends (l : List Pv) (x : Nat) : endsB l l.length x = true ↔ endsW (l.map toPt) x := by
  unfold endsB endsW
  rw [List.any_eq_true]
  constructor
  · rintro ⟨j, hj, h⟩
    rw [List.mem_range] at hj
    exact ⟨j, by simp; omega, of_decide_eq_true h⟩
  · rintro ⟨j, hj, h⟩
    rw [List.length_map] at hj
    exact ⟨j, by rw [List.mem_range]; omega, decide_eq_true h⟩
theorem cuts_dec (l : List Pv) (mx : Nat) (T : Tab) (k : Nat) (hok : ∀ p ∈ l, p.n.size + p.v.size ≤ 100) (h8 : l.length ≤ 8) (hk : k ≤ (catP l l.length).length) :
    (ldec mx false T ((catP l l.length).take k)).isSome = endsB l l.length k := by
  have e : catP l l.length = catW (l.map toPt) := by unfold catP; rw [List.take_of_length_le (by simp)]
  have h := run_cut mx (l.map toPt) T [] [] [] k (fun p hp => by
    obtain ⟨q, hq, rfl⟩ := List.mem_map.1 hp
    exact toPt_ok q (hok q hq)) (by simp; omega) (by rw [← e]; exact hk)
  rw [← e, ← endsB_ends] at h
  rw [Bool.eq_iff_iff, ← h]
  unfold ldec
  cases lrun mx false ⟨T, [], [], [], (catP l l.length).take k⟩ with
  | none => simp
  | some s => simp

end Go.Proofs.Ytejkbibahbcofaa

/-
  Parts that came in: from the row's reading to lists of parts.
-/
namespace Go.Proofs.Ytejkbibahbcofaa
open Go.RowKit Go.ChangeShapes Go.WideShapes Go.Deep
set_option linter.unusedVariables false

theorem weights_mem_allP {H : Type} {P : Program} {e : TypeId} : ∀ {ds : List (DataW H)} {d : DataW H}, d ∈ ds → ∀ n ∈ d.weights P e, n ∈ DataW.weightsAll P e ds
  | d0 :: ds, d, hd, n, hn => by
    simp only [DataW.weightsAll, List.mem_append]
    rcases List.mem_cons.1 hd with rfl | h
    · exact .inl hn
    · exact .inr (weights_mem_allP h n hn)
theorem u64nP {n : Int} (h : (Lit.int .u64 n).wf = true) : ∃ x : Nat, n = (x : Int) ∧ x < 18446744073709551616 := by
  simp [Lit.wf, IntKind.min, IntKind.max, IntKind.signed, IntKind.bits] at h
  exact ⟨n.toNat, by omega, by omega⟩
theorem u8nP {n : Int} (h : (Lit.int .u8 n).wf = true) : ∃ x : Nat, n = (x : Int) ∧ x < 256 := by
  simp [Lit.wf, IntKind.min, IntKind.max, IntKind.signed, IntKind.bits] at h
  exact ⟨n.toNat, by omega, by omega⟩
section
variable {H : Type} {enc : TypeId × Value → H} {w : World} {base : Nat} {spare : Nat → Bool} {held : Bool}
theorem partCells : Try.prog.cellsOf 33 = 5 := by kernel_rfl
theorem partsCells : Try.prog.cellsOf 30 = 1 := by kernel_rfl
theorem u8CellsP : Try.prog.cellsOf 5 = 1 := by kernel_rfl
theorem u64CellsP : Try.prog.cellsOf 31 = 1 := by kernel_rfl
theorem strCellsP : Try.prog.cellsOf 9 = 1 := by kernel_rfl
theorem boolCellsP : Try.prog.cellsOf 4 = 1 := by kernel_rfl
def partD (H : Type) (p : Pv) : DataW H := .agg [.lit (.int .u8 (p.k : Int)), .lit (.int .u64 (p.i : Int)), .lit (.string p.n.data.toList), .lit (.string p.v.data.toList), .lit (.bool p.h)]

set_option maxRecDepth 100000 in
theorem part_open {fuel : Nat} {cs : List Value} {x : DataW H × List MemPlace} (h : DataW.trod enc Try.prog w base spare held fuel 33 cs = some x) :
    ∃ p : Pv, cs = pvl p ∧ x.1 = partD H p ∧ p.k < 256 ∧ p.i < 18446744073709551616 := by
  obtain ⟨xs, n, _, hx, hl, hlen, hf⟩ := DataW.trod_struct Try.underlying33 h
  rw [partCells] at hl
  match cs, hl with
  | [c0, c1, c2, c3, c4], _ =>
    have e0 := hf 0 _ rfl
    have e1 := hf 1 _ rfl
    have e2 := hf 2 _ rfl
    have e3 := hf 3 _ rfl
    have e4 := hf 4 _ rfl
    change DataW.trod enc Try.prog w base spare held n 5 (([c0, c1, c2, c3, c4].drop 0).take (Try.prog.cellsOf 5)) = xs[0]? at e0
    change DataW.trod enc Try.prog w base spare held n 31 (([c0, c1, c2, c3, c4].drop 1).take (Try.prog.cellsOf 31)) = xs[1]? at e1
    change DataW.trod enc Try.prog w base spare held n 9 (([c0, c1, c2, c3, c4].drop 2).take (Try.prog.cellsOf 9)) = xs[2]? at e2
    change DataW.trod enc Try.prog w base spare held n 9 (([c0, c1, c2, c3, c4].drop 3).take (Try.prog.cellsOf 9)) = xs[3]? at e3
    change DataW.trod enc Try.prog w base spare held n 4 (([c0, c1, c2, c3, c4].drop 4).take (Try.prog.cellsOf 4)) = xs[4]? at e4
    rw [u8CellsP] at e0
    rw [u64CellsP] at e1
    rw [strCellsP] at e2 e3
    rw [boolCellsP] at e4
    match xs, hlen with
    | [y0, y1, y2, y3, y4], _ =>
      obtain ⟨n0, h0, d0, w0⟩ := DataW.trod_int Try.underlying5 e0
      obtain ⟨n1, h1, d1, w1⟩ := DataW.trod_int Try.underlying31 e1
      obtain ⟨s2, h2, d2, _⟩ := DataW.trod_string Try.underlying9 e2
      obtain ⟨s3, h3, d3, _⟩ := DataW.trod_string Try.underlying9 e3
      obtain ⟨b4, h4, d4⟩ := DataW.trod_bool Try.underlying4 e4
      obtain ⟨k, rfl, hk⟩ := u8nP w0
      obtain ⟨i, rfl, hi⟩ := u64nP w1
      simp at h0 h1 h2 h3 h4
      subst h0 h1 h2 h3 h4
      exact ⟨⟨k, i, s2, s3, b4⟩, rfl, by rw [hx]; simp only [List.map_cons, List.map_nil]; rw [d0, d1, d2, d3, d4]; rfl, hk, hi⟩

theorem parts_open {fuel : Nat} {cs : List Value} {x : DataW H × List MemPlace} (h : DataW.trod enc Try.prog w base spare held fuel 30 cs = some x) :
    ∃ (v : Value) (l : List Pv), cs = [v] ∧ Ps w v l ∧ ((∀ n ∈ x.1.weights Try.prog 30, n ≤ reachBytes) → SmallP l) := by
  rcases open_slice Try.underlying30 h with ⟨hcs, _⟩ | ⟨p, len, cap, m, n, D, Pl, hcs, hb, hlc, hcm, hm, hx, hi⟩
  · exact ⟨_, [], hcs, Rn.nil 5 w, fun _ f hf => by cases hf⟩
  · have hlm : len ≤ m := by rw [hm]; split <;> omega
    obtain ⟨F, hF⟩ := choose_lt (α := Pv) (n := len) (p := fun i f => w.cells? base (p.add (i * 5)) 5 = some (pvl f) ∧ D i = partD H f ∧ f.k < 256 ∧ f.i < 18446744073709551616) (fun i hil => by
      obtain ⟨cs', h1, h2⟩ := hi i (by omega)
      rw [partCells] at h1
      obtain ⟨f, rfl, hd, hr⟩ := part_open h2
      exact ⟨f, h1, hd, hr⟩)
    have hlen : ((List.range len).map F).length = len := by simp
    have hget : ∀ i (hil : i < len), ((List.range len).map F)[i]'(by omega) = F i := fun i hil => by simp
    refine ⟨_, (List.range len).map F, hcs, ⟨some p, cap, by rw [hlen], by rw [hlen]; exact hlc, hcm, by rw [pvl_length], .inr ⟨p, rfl, fun j u hu => ?_⟩⟩, fun hw f hf => ?_⟩
    · have hj : j < len * 5 := by
        rcases Nat.lt_or_ge j (len * 5) with h1 | h1
        · exact h1
        · rw [List.getElem?_eq_none (by rw [pvl_length, hlen]; exact h1)] at hu; cases hu
      have hil : j / 5 < len := by omega
      obtain ⟨h1, _⟩ := hF (j / 5) hil
      obtain ⟨_, _, hat⟩ := World.cells?_some h1
      have hr : j % 5 < 5 := Nat.mod_lt _ (by omega)
      have ej : j / 5 * 5 + j % 5 = j := by omega
      have hv := pvl_at ((List.range len).map F) (j / 5) (j % 5) (by rw [hlen]; exact hil) hr
      rw [ej, hget _ hil, hu] at hv
      have := hat (j % 5) (by omega)
      rw [add_add, ej] at this
      rw [this, ← hv]
    · obtain ⟨i, hir, rfl⟩ := List.mem_map.1 hf
      have hil : i < len := List.mem_range.1 hir
      obtain ⟨_, hd, hrw, hrn⟩ := hF i hil
      have hmem : ∀ n ∈ (D i).weights Try.prog 33, n ≤ reachBytes := fun n hn => hw n (by
        rw [hx]
        simp only [DataW.weights, Try.underlying30, List.mem_cons, List.mem_append]
        exact .inr (.inl (weights_mem_allP (List.mem_map.2 ⟨i, hir, rfl⟩) n hn)))
      rw [hd] at hmem
      have h1 := hmem (F i).n.data.toList.length (by simp only [partD, DataW.weights, Try.underlying33]; simp [DataW.weightsEach, DataW.weights])
      have h2 := hmem (F i).v.data.toList.length (by simp only [partD, DataW.weights, Try.underlying33]; simp [DataW.weightsEach, DataW.weights])
      have hr : reachBytes ≤ 140737488351232 := by decide
      have e1 : (F i).n.data.toList.length = (F i).n.size := by simp
      have e2 : (F i).v.data.toList.length = (F i).v.size := by simp
      exact ⟨hrw, hrn, by omega, by omega⟩

theorem partss_open {fuel : Nat} {cs : List Value} {x : DataW H × List MemPlace} (h : DataW.trod enc Try.prog w base spare held fuel 22 cs = some x) :
    ∃ (v : Value) (vs : List Value) (ll : List (List Pv)), cs = [v] ∧ Pss w v vs ll ∧ ((∀ n ∈ x.1.weights Try.prog 22, n ≤ reachBytes) → ∀ l ∈ ll, SmallP l) := by
  rcases open_slice1 Try.underlying22 partsCells h with ⟨hcs, _⟩ | ⟨p, len, cap, m, n, V, D, Pl, hcs, hb, hlc, hcm, hm, hx, hi⟩
  · exact ⟨_, [], [], hcs, ⟨Rd.nil w, rfl, fun i h => by simp at h⟩, fun _ f hf => by cases hf⟩
  · have hlm : len ≤ m := by rw [hm]; split <;> omega
    obtain ⟨F, hF⟩ := choose_lt (α := List Pv) (n := len) (p := fun i l => w.cell? (p.add i) = some (V i) ∧ Ps w (V i) l ∧ ((∀ n ∈ (D i).weights Try.prog 30, n ≤ reachBytes) → SmallP l)) (fun i hil => by
      obtain ⟨h1, h2⟩ := hi i (by omega)
      obtain ⟨v, l, hv, hl, hs⟩ := parts_open h2
      injection hv with hv
      exact ⟨l, h1, hv ▸ hl, hs⟩)
    refine ⟨_, (List.range len).map V, (List.range len).map F, hcs, ⟨⟨some p, cap, by simp, by simpa using hlc, hcm, .inr ⟨p, rfl, fun j u hu => ?_⟩⟩, by simp, fun i h1 h2 => ?_⟩, fun hw l hl => ?_⟩
    · obtain ⟨hj, hu⟩ := List.getElem?_eq_some_iff.1 hu
      simp only [List.length_map, List.length_range] at hj
      simp at hu
      rw [← hu]
      exact (hF j hj).1
    · simp only [List.length_map, List.length_range] at h1
      have := (hF i h1).2.1
      simpa using this
    · obtain ⟨i, hir, rfl⟩ := List.mem_map.1 hl
      have hil : i < len := List.mem_range.1 hir
      exact (hF i hil).2.2 fun n hn => hw n (by
        rw [hx]
        simp only [DataW.weights, Try.underlying22, List.mem_cons, List.mem_append]
        exact .inr (.inl (weights_mem_allP (List.mem_map.2 ⟨i, hir, rfl⟩) n hn)))
end

end Go.Proofs.Ytejkbibahbcofaa

/-
  Contract of the statements' alike; both readers' limits.
-/
namespace Go.Proofs.Ytejkbibahbcofaa
open Go.RowKit Go.Maps
set_option linter.unusedVariables false

theorem below_stepV {wA W w' : World} (h : Below wA.heap.size wA W) (hb : Below W.heap.size W w') : Below wA.heap.size wA w' := h.trans (hb.mono h.size)

set_option maxRecDepth 100000 in
set_option maxHeartbeats 4000000 in
theorem lalike_any {q t q' t' mx mx' : Nat} {T : Tab} {mu bd mu' bd' : Bool} {w : World} {S S' : Nat → Prop} (h1 : Pc q t T mx mu bd w S) (h2 : Dc q' t' T mx' mu' bd' w S') :
    Calls Try.prog 17 #[.pointer (some ⟨q, 0, none⟩), .pointer (some ⟨q', 0, none⟩)] w fun e w' => e = .returned (.bool true) ∧ Below w.heap.size w w' := by
  obtain ⟨S1, ht1, _⟩ := h1.tb
  obtain ⟨S2, _, ht2, _⟩ := id h2
  have hok := ht1.ok
  obtain ⟨d0, _⟩ := h2.cells
  obtain ⟨v, c0, c1, c2, _, hst⟩ := ht2.cells
  obtain ⟨L, cap, tot⟩ := T
  obtain ⟨n, hn⟩ : ∃ n, L.length = n := ⟨_, rfl⟩
  have HTABLE : Bx (∀ W, Below w.heap.size w W → Calls Try.prog 24 #[.pointer (some ⟨q, 0, none⟩)] W fun e w' => e = .returned (.pointer (some ⟨t, 0, none⟩)) ∧ W = w') := ⟨fun W hW => table_any (h1.keep hW)⟩
  have HCAP : Bx (∀ W, Below w.heap.size w W → Calls Try.prog 25 #[.pointer (some ⟨t, 0, none⟩)] W fun e w' => e = .returned (.int .i64 (cap : Int)) ∧ Below W.heap.size W w') := ⟨fun W hW => cap_any (ht1.keep hW)⟩
  have HLEN : Bx (∀ W, Below w.heap.size w W → Calls Try.prog 28 #[.pointer (some ⟨t, 0, none⟩)] W fun e w' => e = .returned (.int .i64 (n : Int)) ∧ Below W.heap.size W w') := ⟨fun W hW => hn ▸ dlen_any (ht1.keep hW)⟩
  have HCOUNT : Bx (∀ W, Below w.heap.size w W → Calls Try.prog 40 #[.pointer (some ⟨t, 0, none⟩)] W fun e w' => e = .returned (.int .u64 (tot : Int)) ∧ Below W.heap.size W w') := ⟨fun W hW => count_any (ht1.keep hW)⟩
  have HNEW : Bx (∀ W k, Below w.heap.size w W → k < 18446744073709551616 → Calls Try.prog 41 #[.pointer (some ⟨t, 0, none⟩), .int .u64 (k : Nat)] W fun e w' => e = .returned (.tuple #[aggF (entN L k), .bool (isN L k)]) ∧ Below W.heap.size W w') := ⟨fun W k hW hk => newest_any (ht1.keep hW) k hk⟩
  have HRNEW : Bx (∀ W k, Below w.heap.size w W → k < 18446744073709551616 → Calls Try.prog 42 #[.pointer (some ⟨t', 0, none⟩), .int .u64 (k : Nat)] W fun e w' => e = .returned (.tuple #[aggF (entN L k), .bool (isN L k)]) ∧ Below W.heap.size W w') := ⟨fun W k hW hk => refNewest_any (ht2.keep hW) k hk⟩
  have hX : ∀ W, Below w.heap.size w W → W.cell? ⟨q', 0, none⟩ = some (.pointer (some ⟨t', 0, none⟩)) := fun W hW => (hW.cell (World.block_lt_of_cell? w _ d0)).trans d0
  have hX0 : ∀ W, Below w.heap.size w W → W.cell? ⟨t', 0, none⟩ = some v := fun W hW => (hW.cell (World.block_lt_of_cell? w _ c0)).trans c0
  have hX1 : ∀ W, Below w.heap.size w W → W.cell? ⟨t', 1, none⟩ = some (.int .i64 (cap : Int)) := fun W hW => (hW.cell (World.block_lt_of_cell? w _ c1)).trans c1
  have hX2 : ∀ W, Below w.heap.size w W → W.cell? ⟨t', 2, none⟩ = some (.int .u64 (tot : Int)) := fun W hW => (hW.cell (World.block_lt_of_cell? w _ c2)).trans c2
  have hlen := fun ty W => hst.fs.run_len ty W
  simp only [hn] at hlen
  have HX0 := Bx.mk hX0
  have HX := Bx.mk hX
  have HK6 : Bx (n ≤ 1000000) := ⟨by have a := hok.len; have b := hok.tot; rw [← hn]; simp only at a b; omega⟩
  have hS0 : Below w.heap.size w w.drew := (Below.refl _ _).drew
  have hcc : ((cap : Int) != (cap : Int)) = false := by simp
  have hnn : ((n : Int) != (n : Int)) = false := by simp
  have htt : ((tot : Int) != (tot : Int)) = false := by simp
  clear h1 h2 hok c0 c1 c2 d0 hst hn ht1 ht2
  go_enter Try.func17, Try.ntmps17
  go_wp2_with fail
  refine (HTABLE.out w (Below.refl _ _)).mono ?_
  rintro e w1 ⟨rfl, rfl⟩
  go_upto_region 2 with fail
  go_cut [47] from 13 to 47 (fun s47 wx => s47 = .bool false ∧ Bx (Below w.heap.size w wx))
  case first =>
    go_region_held (fun W => Below w.heap.size w W) (first | assumption) (first
      | (go_at_call 25; refine (HCAP.out _ ?_).mono ?_; assumption; rintro e w4 ⟨rfl, hb⟩; have hS4 := below_stepV (by assumption) hb)
      | (go_at_call 28; refine (HLEN.out _ ?_).mono ?_; assumption; rintro e w5 ⟨rfl, hb⟩; have hS5 := below_stepV (by assumption) hb)
      | (go_at_call 40; refine (HCOUNT.out _ ?_).mono ?_; assumption; rintro e w6 ⟨rfl, hb⟩; have hS6 := below_stepV (by assumption) hb))
    all_goals go_wp2_with fail
    all_goals go_meet
    all_goals exact ⟨rfl, ⟨hS6⟩⟩
  case rest =>
    obtain ⟨rfl, HS1⟩ := hcut
    clear hX hX0 hX1 hX2 hS0 hcc hnn htt HCAP HLEN HCOUNT HTABLE
    go_wp2_with fail
    go_loopg [6] n (fun g s6 wx => ∃ k : Nat, k + g = n ∧ s6 = .int .i64 k ∧ Bx (Below w.heap.size w wx))
    case atStart => exact ⟨0, by omega, rfl, HS1⟩
    case round =>
      clear HS1
      obtain ⟨k, hkg, rfl, HB⟩ := hrel
      have hc := HX.out wr HB.out
      have hc0 := HX0.out wr HB.out
      cases gk with
      | zero =>
        obtain rfl : k = n := by omega
        have hk1 : decide ((k : Int) < (k : Int)) = false := decide_eq_false (by omega)
        have hk2 : decide (k < k) = false := decide_eq_false (by omega)
        go_wp2_with fail
        go_ret
        exact ⟨rfl, HB.out⟩
      | succ g =>
        have hk1 : decide ((k : Int) < (n : Int)) = true := decide_eq_true (by omega)
        have hk2 : decide (k < n) = true := decide_eq_true (by omega)
        have hwk : IntKind.u64.wrap (k : Int) = (k : Int) := by have := HK6.out; simp only [IntKind.wrap_u64]; omega
        have HKB : Bx (k < 18446744073709551616) := ⟨by have := HK6.out; omega⟩
        obtain ⟨x1, hx1⟩ : ∃ x1, (entN L k).1 = x1 := ⟨_, rfl⟩
        obtain ⟨x2, hx2⟩ : ∃ x2, (entN L k).2 = x2 := ⟨_, rfl⟩
        have HAX : Bx (aggF (entN L k) = .agg #[.string x1, .string x2]) := ⟨by unfold aggF; rw [hx1, hx2]⟩
        obtain ⟨bx, hbx⟩ : ∃ bx, isN L k = bx := ⟨_, rfl⟩
        have HBX := Bx.mk hbx
        clear hx1 hx2 hbx
        go_wp2_with fail
        refine (HNEW.out _ k HB.out HKB.out).mono ?_
        rintro e w1 ⟨rfl, hb1⟩
        rw [HAX.out, HBX.out]
        have HB1 := Bx.mk ((below_stepV HB.out hb1).alloc (below_stepV HB.out hb1).size (.cells #[.string x1, .string x2] 61))
        have HF1 := Bx.mk (Fb.new 61 w1 (x1, x2))
        clear hb1 hc hc0
        have hc := HX.out _ HB1.out
        have hc0 := HX0.out _ HB1.out
        go_wp2_with fail
        refine (HRNEW.out _ k HB1.out HKB.out).mono ?_
        rintro e w2 ⟨rfl, hb2⟩
        rw [HAX.out, HBX.out]
        have HB2 := Bx.mk ((below_stepV HB1.out hb2).alloc (below_stepV HB1.out hb2).size (.cells #[.string x1, .string x2] 61))
        obtain ⟨a1, a2⟩ := ((HF1.out.keep hb2).alloc (.cells #[.string x1, .string x2] 61)).cells
        obtain ⟨a3, a4⟩ := (Fb.new 61 w2 (x1, x2)).cells
        clear hb2 hc hc0
        go_wp2_with fail
        go_roundg g
        case measure => omega
        case rel => exact ⟨k + 1, by omega, by have := HK6.out; have hw : wrap64 ((k : Int) + 1) = ((k + 1 : Nat) : Int) := (by unfold wrap64; omega); first | rfl | rw [hw] | (simp only [hw]), HB2⟩

/-! ### limits -/
def Rs.lim (st : Rs) (n : Nat) : Rs := match st with
  | none => none
  | some (T, mx, mu) => some (limT T n, n, mu || decide (n < T.cap))
theorem limT_gdV {T : Tab} {n : Nat} (h : T.gd) (hn : n ≤ 4096) : (limT T n).gd := by
  unfold limT
  split
  · exact Tab.gd.resize hn
  · exact h
theorem limT_totV (T : Tab) (n : Nat) : (limT T n).tot = T.tot := by
  unfold limT
  split <;> rfl
theorem Rs.is_lim {st : Rs} {T : Tab} {mx : Nat} {mu bd : Bool} (h : st.is T mx mu bd) {n : Nat} (hn : n ≤ 4096) : (st.lim n).is (limT T n) n (mu || decide (n < T.cap)) bd := by
  cases st with
  | none => exact h
  | some y =>
    obtain ⟨T0, m0, u0⟩ := y
    obtain ⟨rfl, rfl, rfl, rfl, hg, hm⟩ := h
    exact ⟨rfl, rfl, rfl, rfl, limT_gdV hg hn, hn⟩
theorem Rs.le_lim {st : Rs} {m : Nat} (h : st.le m) {n : Nat} (hn : n ≤ 4096) : (st.lim n).le m := by
  intro T mx mu he
  cases st with
  | none => cases he
  | some y =>
    obtain ⟨T0, m0, u0⟩ := y
    obtain ⟨h1, h2, h3⟩ := h T0 m0 u0 rfl
    injection he with he
    injection he with e1 e2
    injection e2 with e2 e3
    subst e1; subst e2
    exact ⟨by rw [limT_totV]; exact h1, limT_gdV h2 hn, hn⟩
section
variable {B q t q' t' : Nat} {st st' : Rs} {w w' : World}
theorem Sm.limP (h : Sm B q t q' t' st st' (fun _ => False) w) (hB : B ≤ w.heap.size) (n : Nat) (hn : n ≤ 4096) :
    Calls Try.prog 18 #[.pointer (some ⟨q, 0, none⟩), .int .i64 (n : Int)] w fun e w' => e = .returned (.tuple #[]) ∧ Sm B q t q' t' (st.lim n) st' (fun _ => False) w' ∧ Below B w w' := by
  obtain ⟨S, S', T, mx, mu, bd, U, mx', mu', bd', h1, h2, h3, h4, h5, h6, h7, h8⟩ := h
  refine (plimit_any h1 (n : Int)).mono ?_
  rintro e w' ⟨rfl, S1, x, s1, f⟩
  have hc : clampN (n : Int) = n := by unfold clampN; omega
  rw [hc] at x
  refine ⟨rfl, ⟨S1, S', _, _, _, bd, U, mx', mu', bd', x, h2.besides f (fun k hk hs => h3 k hs hk), fun k hk hs => ?_, fun k hk => (s1 k hk).elim (h4 k) fun h => Nat.le_trans hB h, h5, fun k hk => hk.elim, Rs.is_lim h7 hn, h8⟩, f.below hB h4⟩
  rcases s1 k hk with h | h
  · exact h3 k h hs
  · have := h2.lt k hs; omega
theorem Sm.limD (h : Sm B q t q' t' st st' (fun _ => False) w) (hB : B ≤ w.heap.size) (n : Nat) (hn : n ≤ 4096) :
    Calls Try.prog 19 #[.pointer (some ⟨q', 0, none⟩), .int .i64 (n : Int)] w fun e w' => e = .returned (.tuple #[]) ∧ Sm B q t q' t' st (st'.lim n) (fun _ => False) w' ∧ Below B w w' := by
  obtain ⟨S, S', T, mx, mu, bd, U, mx', mu', bd', h1, h2, h3, h4, h5, h6, h7, h8⟩ := h
  refine (limit_any h2 (n : Int)).mono ?_
  rintro e w' ⟨rfl, S1, x, s1, f⟩
  have hc : clampN (n : Int) = n := by unfold clampN; omega
  rw [hc] at x
  refine ⟨rfl, ⟨S, S1, T, mx, mu, bd, _, _, _, bd', h1.besides f (fun k hk hs => h3 k hk hs), x, fun k hk hs => ?_, h4, fun k hk => (s1 k hk).elim (h5 k) fun h => Nat.le_trans hB h, fun k hk => hk.elim, h7, Rs.is_lim h8 hn⟩, f.below hB h5⟩
  rcases s1 k hs with h | h
  · exact h3 k hk h
  · have := h1.lt k hk; omega
/-- Both tables tell the same where nothing is broken. -/
theorem Sm.alike {P : Nat → Prop} {y : Tab × Nat × Bool} (h : Sm B q t q' t' (some y) (some y) P w) :
    Calls Try.prog 17 #[.pointer (some ⟨q, 0, none⟩), .pointer (some ⟨q', 0, none⟩)] w fun e w' => e = .returned (.bool true) ∧ Below w.heap.size w w' := by
  obtain ⟨S, S', T, mx, mu, bd, U, mx', mu', bd', h1, h2, h3, h4, h5, h6, h7, h8⟩ := h
  obtain ⟨T0, m0, u0⟩ := y
  obtain ⟨rfl, rfl, rfl, rfl, _, _⟩ := h7
  obtain ⟨rfl, rfl, rfl, rfl, _, _⟩ := h8
  exact lalike_any h1 h2
end

end Go.Proofs.Ytejkbibahbcofaa
