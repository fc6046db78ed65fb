/-
  Texts put together: HkE, Ff, DnOpenF, FdO, FfO.
-/
import Derived.Test.YthnaapjefedalaaM22
import Derived.Test.YthnaapjefedalaaM26
import Derived.Test.YthnaapjefedalaaM28
import Derived.Test.YthnaapjefedalaaM21
import Derived.Test.YthnaapjefedalaaM01
import Derived.Test.YthnaapjefedalaaM14
import Derived.Deep.Slices
import Derived.SizedLaws

/-
  The statement's three objects: the program's encoder, the document's, the document's decoder.
-/
namespace Go.Proofs.Ythnaapjefedalaa
open Go.RowKit Go.Maps
set_option linter.unusedVariables false

section
variable {B q t : Nat} {T : Tab} {le : Option Nat} {w wA : World} {C : Nat → Prop}
theorem ec_enc (hm : ∀ m, le = some m → m ≤ 65535) (hc : T.cap ≤ 65535) {v : Value} {l : List Fd} (hv : ∀ S W, (∀ k, S k → C k) → Fp S wA W → Fs W v l) (hl : l.length ≤ 1000) (hz : ∀ f ∈ l, f.1.size ≤ 20000 ∧ f.2.size ≤ 20000) (hsum : sumF l ≤ 10000) (ht : T.tot + l.length ≤ 1000000) :
    ∀ S, Ec q t T le wA S → (∀ k, S k → C k) → Calls Try.prog 14 #[.pointer (some ⟨q, 0, none⟩), v] wA fun e w' => ∃ v', (e = .returned v' ∧ OwB w' wA.heap.size v' (encB le T l)) ∧ Turn (Ec q t (encL T l).2 none) S wA w' := fun S hS hs => by
  refine (refenc_any hS hm hc (fun W hf => hv S W hs hf) hl hz hsum ht).mono ?_
  rintro e w' ⟨v', rfl, ho, ht⟩
  exact ⟨v', ⟨rfl, ho⟩, ht⟩
theorem ec_resize (n : Int) :
    ∀ S, Ec q t T le wA S → (∀ k, S k → C k) → Calls Try.prog 22 #[.pointer (some ⟨q, 0, none⟩), .int .i64 n] wA fun e w' => ∃ u : Unit, e = .returned (.tuple #[]) ∧ Turn (Ec q t (T.resize (clampN n : Int)) (some (lessN le (clampN n)))) S wA w' := fun S hS hs => by
  refine (eresize_any hS n).mono ?_
  rintro e w' ⟨rfl, ht⟩
  exact ⟨(), rfl, ht⟩
end

/-- The three, apart from one another. -/
abbrev BkW (q p : Nat) (T : Tab) (le : Option Nat) (q2 t2 : Nat) (T2' : Tab) (le2 : Option Nat) (q3 t3 : Nat) (U : Tab) (mx : Nat) : Wx := Both (Both (Ep q p T le) (Ec q2 t2 T2' le2)) (Dc q3 t3 U mx false false)
section
variable {q p q2 t2 q3 t3 mx : Nat} {T T2' U : Tab} {le le2 : Option Nat} {w w' : World} {B : Nat}
theorem Wd.bk : Wd (BkW q p T le q2 t2 T2' le2 q3 t3 U mx) := ((Wd.ep _ _ _ _).both (Wd.ec _ _ _ _)).both (Wd.dc _ _ _ _ _ _)
theorem Ex.bk : Ex (BkW q p T le q2 t2 T2' le2 q3 t3 U mx) := ((Ex.ep _ _ _ _).both (Ex.ec _ _ _ _)).both (Ex.dc _ _ _ _ _ _)
theorem Bk.ep (h : Up B (BkW q p T le q2 t2 T2' le2 q3 t3 U mx) w) : ∃ E, Ep q p T le w E := by
  obtain ⟨E, h1, _⟩ := h.fst.fst
  exact ⟨E, h1⟩
theorem Bk.ec (h : Up B (BkW q p T le q2 t2 T2' le2 q3 t3 U mx) w) : ∃ E, Ec q2 t2 T2' le2 w E := by
  obtain ⟨E, h1, _⟩ := h.fst.snd
  exact ⟨E, h1⟩
theorem Bk.dc (h : Up B (BkW q p T le q2 t2 T2' le2 q3 t3 U mx) w) : ∃ E, Dc q3 t3 U mx false false w E := by
  obtain ⟨E, h1, _⟩ := h.snd
  exact ⟨E, h1⟩
/-- The decoder's limit, set from outside. -/
theorem Bk.setMax (h : Up B (BkW q p T le q2 t2 T2' le2 q3 t3 U mx) w) (hB : B ≤ w.heap.size) (n : Nat) : Up B (BkW q p T le q2 t2 T2' le2 q3 t3 U n) (w.setCell ⟨q3, 1, none⟩ (.int .i64 (n : Int))) ∧ Below B w (w.setCell ⟨q3, 1, none⟩ (.int .i64 (n : Int))) := by
  obtain ⟨S, ⟨S1, S2, h1, h2, h3, h4⟩, h5⟩ := h
  exact Up.turn h5 hB (Both.right ((Wd.ep _ _ _ _).both (Wd.ec _ _ _ _)) h1 h3 h4 (h2.setMax n))
theorem Ec.lcell {S : Nat → Prop} (h : Ec q2 t2 T2' le2 w S) : ∃ A n c, n = T2'.l.length ∧ w.cell? ⟨t2, 0, none⟩ = some (.slice A n c) := by
  obtain ⟨S', _, h2, _⟩ := h
  obtain ⟨v, c0, _, _, _, hst⟩ := h2.cells
  rcases hst with ⟨rfl, h0⟩ | ⟨g, o, cap, m, F, rfl, _⟩
  · exact ⟨_, _, _, by rw [h0]; rfl, c0⟩
  · exact ⟨_, _, _, rfl, c0⟩
end
theorem encF_gd {T : Tab} (h : T.gd) (f : Fd) : (encF T f).2.gd := by
  unfold encF
  split
  · exact h
  · split
    · exact h
    · split
      · exact h
      · split
        · exact h
        · exact h.add f
theorem encL_gd : ∀ (l : List Fd) {T : Tab}, T.gd → (encL T l).2.gd
  | [], T, h => h
  | f :: l, T, h => encL_gd l (encF_gd h f)
theorem encL_ok : ∀ (l : List Fd) {T : Tab}, T.l.length ≤ T.tot → (encL T l).2.l.length ≤ (encL T l).2.tot
  | [], T, h => h
  | f :: l, T, h => encL_ok l (encF_ok h f).1
/-- Whole numbers that came in. -/
def Zs (w : World) (v : Value) (zs : List Int) : Prop := Rd w v (zs.map (Value.int .i64))
theorem Zs.keep {w w' : World} {v : Value} {zs : List Int} (h : Zs w v zs) (hb : Below w.heap.size w w') : Zs w' v zs := Rd.keep h hb
theorem Zs.run_len {w : World} {v : Value} {zs : List Int} (h : Zs w v zs) (ty : TypeId) (W : World) : (Builtin.len_ #[23] ty #[v]).run Try.prog W = .ok (.int .i64 (zs.length : Int)) W := by
  obtain ⟨A, c, rfl, h1, h2, h3⟩ := h
  simp [Builtin.len_, run_underlying Try.underlying23, goInt]
theorem Zs.at_ {w : World} {v : Value} {zs : List Int} (h : Zs w v zs) (i : Nat) (hi : i < zs.length) :
    ∃ b o : Nat, (∀ W : World, (Instr.indexAt 23 v (.int .i64 (i : Int))).run Try.prog W = .ok (.pointer (some ⟨b, o, none⟩)) W) ∧ ∀ W : World, Zs W v zs → W.cell? ⟨b, o, none⟩ = some (.int .i64 zs[i]) := by
  obtain ⟨b, o, c, rfl, h1, h2, h3, hc⟩ := Rd.at_ h (by simp; omega)
  refine ⟨b, o + i, fun W => ?_, fun W hW => ?_⟩
  · simp [Instr.indexAt, asIntOf, run_underlying Try.underlying23, List.length_map, Sem.run_bind, hi, Result.andThen]
    simp [Addr.add]
  · obtain ⟨b', o', c', e, _, _, _, hc'⟩ := Rd.at_ hW (by simp; omega)
    injection e with e1 e2 e3
    injection e1 with e1
    injection e1 with e1 e4
    subst e1; subst e4
    exact hc' i _ (by simp [hi])
theorem IsRow.zs {w : World} {a : Option Addr} {len cap : Nat} {zs : List Int} (h : IsRow .i64 w a len cap zs) : Zs w (.slice a len cap) (zs.take len) := h.rd
end Go.Proofs.Ythnaapjefedalaa

/-
  Slices of slices of fields: what they read as.
-/
namespace Go.Proofs.Ythnaapjefedalaa
open Go.RowKit
set_option linter.unusedVariables false

/-! ### slices of slices of fields -/
/-- The value reads as these slices; each of them reads as its fields. -/
def Fss (w : World) (v : Value) (vs : List Value) (ll : List (List Fd)) : Prop := Rd w v vs ∧ vs.length = ll.length ∧ ∀ i (h : i < vs.length) (h' : i < ll.length), Fs w vs[i] ll[i]
theorem Fss.keep {w w' : World} {v : Value} {vs : List Value} {ll : List (List Fd)} (h : Fss w v vs ll) (hb : Below w.heap.size w w') : Fss w' v vs ll := ⟨Rd.keep h.1 hb, h.2.1, fun i a b => (h.2.2 i a b).keep hb⟩
theorem Fss.run_len {w : World} {v : Value} {vs : List Value} {ll : List (List Fd)} (h : Fss w v vs ll) (ty : TypeId) (W : World) : (Builtin.len_ #[22] ty #[v]).run Try.prog W = .ok (.int .i64 (ll.length : Int)) W := by
  obtain ⟨⟨A, c, rfl, h1, h2, h3⟩, h4, _⟩ := h
  rw [← h4]
  simp [Builtin.len_, run_underlying Try.underlying22, goInt]
theorem Fss.at_ {w : World} {v : Value} {vs : List Value} {ll : List (List Fd)} (h : Fss w v vs ll) (i : Nat) (hi : i < ll.length) :
    ∃ (b o : Nat) (u : Value), (∀ (W : World), (Instr.indexAt 22 v (.int .i64 (i : Int))).run Try.prog W = .ok (.pointer (some ⟨b, o, none⟩)) W) ∧ (∃ a n c, u = .slice a n c) ∧ Fs w u ll[i] ∧
      ∀ W : World, Fss W v vs ll → W.cell? ⟨b, o, none⟩ = some u ∧ Fs W u ll[i] := by
  have hiv : i < vs.length := by have := h.2.1; omega
  obtain ⟨b, o, c, rfl, h1, h2, h3, hc⟩ := Rd.at_ h.1 (by omega)
  refine ⟨b, o + i, vs[i], fun W => ?_, ?_, h.2.2 i hiv hi, fun W hW => ⟨?_, hW.2.2 i hiv hi⟩⟩
  · simp [Instr.indexAt, asIntOf, run_underlying Try.underlying22, Sem.run_bind, hiv, Result.andThen]
    simp [Addr.add]
  · obtain ⟨A, c', e, _⟩ := h.2.2 i hiv hi
    exact ⟨_, _, _, e⟩
  · obtain ⟨b', o', c', e, _, _, _, hc'⟩ := Rd.at_ hW.1 (by omega)
    injection e with e1 e2 e3
    injection e1 with e1
    injection e1 with e1 e4
    subst e1; subst e4
    exact hc' i _ (List.getElem?_eq_getElem hiv)

end Go.Proofs.Ythnaapjefedalaa

/-
  A slice of fields that came in: from the row's reading to a list of fields, with their sizes.
-/
namespace Go.Proofs.Ythnaapjefedalaa
open Go.RowKit Go.ChangeShapes Go.WideShapes Go.Deep
set_option linter.unusedVariables false

theorem weights_mem_all {H : Type} {P : Program} {e : TypeId} : ∀ {ds : List (DataW H)} {d : DataW H}, d ∈ ds → ∀ n ∈ d.weights P e, n ∈ DataW.weightsAll P e ds
  | d0 :: ds, d, hd, n, hn => by
    simp only [DataW.weightsAll, List.mem_append]
    rcases List.mem_cons.1 hd with rfl | h
    · exact .inl hn
    · exact .inr (weights_mem_all h n hn)

section
variable {H : Type} {enc : TypeId × Value → H} {w : World} {base : Nat} {spare : Nat → Bool} {held : Bool}

theorem fdCells2 : Try.prog.cellsOf 58 = 2 := by kernel_rfl
theorem strCells2 : Try.prog.cellsOf 9 = 1 := by kernel_rfl

set_option maxRecDepth 100000 in
/-- One field's reading. -/
theorem field_open {fuel : Nat} {cs : List Value} {x : DataW H × List MemPlace} (h : DataW.trod enc Try.prog w base spare held fuel 58 cs = some x) :
    ∃ f : Fd, cs = fvl f ∧ x.1 = .agg [.lit (.string f.1.data.toList), .lit (.string f.2.data.toList)] := by
  obtain ⟨xs, n, _, hx, hl, hlen, hf⟩ := DataW.trod_struct Try.underlying58 h
  rw [fdCells2] at hl
  match cs, hl with
  | [c0, c1], _ =>
    have e0 := hf 0 _ rfl
    have e1 := hf 1 _ rfl
    change DataW.trod enc Try.prog w base spare held n 9 (([c0, c1].drop 0).take (Try.prog.cellsOf 9)) = xs[0]? at e0
    change DataW.trod enc Try.prog w base spare held n 9 (([c0, c1].drop 1).take (Try.prog.cellsOf 9)) = xs[1]? at e1
    rw [strCells2] at e0 e1
    match xs, hlen with
    | [y0, y1], _ =>
      obtain ⟨s0, h0, d0, _⟩ := DataW.trod_string Try.underlying9 e0
      obtain ⟨s1, h1, d1, _⟩ := DataW.trod_string Try.underlying9 e1
      simp at h0 h1
      subst h0 h1
      exact ⟨(s0, s1), rfl, by rw [hx, d0, d1]; rfl⟩

set_option maxRecDepth 100000 in
theorem fields_open {fuel : Nat} {a : Option Addr} {len cap : Nat} {x : DataW H × List MemPlace} (h : DataW.trod enc Try.prog w base spare held fuel 31 [.slice a len cap] = some x) :
    ∃ l : List Fd, Fs w (.slice a len cap) l ∧ ((∀ n ∈ x.1.weights Try.prog 31, n ≤ reachBytes) → Small l) := by
  rcases open_slice Try.underlying31 h with ⟨hcs, _⟩ | ⟨p, l0, c0, m, n, D, Pl, hcs, hb, hlc, hcm, hm, hx, hi⟩
  · simp at hcs
    obtain ⟨rfl, rfl, rfl⟩ := hcs
    exact ⟨[], Rn.nil 2 w, fun _ f hf => by cases hf⟩
  · simp at hcs
    obtain ⟨rfl, rfl, rfl⟩ := hcs
    have hlm : len ≤ m := by rw [hm]; split <;> omega
    obtain ⟨F, hF⟩ := choose_lt (α := Fd) (n := len) (p := fun i f => w.cells? base (p.add (i * 2)) 2 = some (fvl f) ∧ D i = .agg [.lit (.string f.1.data.toList), .lit (.string f.2.data.toList)]) (fun i hil => by
      obtain ⟨cs', h1, h2⟩ := hi i (by omega)
      rw [fdCells2] at h1
      obtain ⟨f, rfl, hd⟩ := field_open h2
      exact ⟨f, h1, hd⟩)
    have hlen : ((List.range len).map F).length = len := by simp
    have hget : ∀ i (hil : i < len), ((List.range len).map F)[i]'(by omega) = F i := fun i hil => by simp
    refine ⟨(List.range len).map F, ⟨some p, cap, by rw [hlen], by rw [hlen]; exact hlc, hcm, by rw [fvl_length], .inr ⟨p, rfl, fun j u hu => ?_⟩⟩, fun hw f hf => ?_⟩
    · have hj : j < len * 2 := by
        rcases Nat.lt_or_ge j (len * 2) with h1 | h1
        · exact h1
        · rw [List.getElem?_eq_none (by rw [fvl_length, hlen]; exact h1)] at hu; cases hu
      have hil : j / 2 < len := by omega
      obtain ⟨h1, _⟩ := hF (j / 2) hil
      obtain ⟨_, _, hat⟩ := World.cells?_some h1
      have hv := fvl_at ((List.range len).map F) (j / 2) (by rw [hlen]; exact hil)
      rw [hget _ hil] at hv
      rcases Nat.mod_two_eq_zero_or_one j with hr | hr
      · have ej : j / 2 * 2 = j := by omega
        rw [ej] at hv
        rw [hv.1] at hu
        have := hat 0 (by omega)
        rw [add_add, ej, Nat.add_zero] at this
        rw [this, ← hu]; rfl
      · have ej : j / 2 * 2 + 1 = j := by omega
        rw [ej] at hv
        rw [hv.2] at hu
        have := hat 1 (by omega)
        rw [add_add, ej] at this
        rw [this, ← hu]; rfl
    · obtain ⟨i, hir, rfl⟩ := List.mem_map.1 hf
      have hil : i < len := List.mem_range.1 hir
      obtain ⟨_, hd⟩ := hF i hil
      have hmem : ∀ n ∈ (D i).weights Try.prog 58, n ≤ reachBytes := fun n hn => hw n (by
        rw [hx]
        simp only [DataW.weights, Try.underlying31, List.mem_cons, List.mem_append]
        exact .inr (.inl (weights_mem_all (List.mem_map.2 ⟨i, hir, rfl⟩) n hn)))
      rw [hd] at hmem
      have h1 := hmem (F i).1.data.toList.length (by simp only [DataW.weights, Try.underlying58]; simp [DataW.weightsEach, DataW.weights])
      have h2 := hmem (F i).2.data.toList.length (by simp only [DataW.weights, Try.underlying58]; simp [DataW.weightsEach, DataW.weights])
      have hr : reachBytes ≤ 140737488351232 := by decide
      have e1 : (F i).1.data.toList.length = (F i).1.size := by simp
      have e2 : (F i).2.data.toList.length = (F i).2.size := by simp
      omega
end

end Go.Proofs.Ythnaapjefedalaa

/-
  A field that came in by value: from the row's reading to its two strings, with their sizes.
-/
namespace Go.Proofs.Ythnaapjefedalaa
open Go.RowKit Go.ChangeShapes Go.WideShapes Go.Deep
set_option linter.unusedVariables false

section
variable {H : Type} {enc : TypeId × Value → H} {w : World} {base : Nat} {spare : Nat → Bool} {held : Bool}

set_option maxRecDepth 100000 in
theorem field_arg {cs : Array Value} {d : DataW H} {p : List MemPlace} (h : DataW.Trod enc Try.prog w base spare held 58 (.agg cs) d p) :
    ∃ f : Fd, cs = #[.string f.1, .string f.2] ∧ ((∀ n ∈ d.weights Try.prog 58, n ≤ reachBytes) → f.1.size ≤ 140737488351232 ∧ f.2.size ≤ 140737488351232) := by
  obtain ⟨fuel, hf⟩ := h
  obtain ⟨f, hcs, hd⟩ := field_open hf
  refine ⟨f, ?_, fun hw => ?_⟩
  · apply Array.toList_inj.1
    exact hcs
  · simp only at hd
    subst hd
    have h1 := hw f.1.data.toList.length (by simp only [DataW.weights, Try.underlying58]; simp [DataW.weightsEach, DataW.weights])
    have h2 := hw f.2.data.toList.length (by simp only [DataW.weights, Try.underlying58]; simp [DataW.weightsEach, DataW.weights])
    have hr : reachBytes ≤ 140737488351232 := by decide
    have e1 : f.1.data.toList.length = f.1.size := by simp
    have e2 : f.2.data.toList.length = f.2.size := by simp
    omega
end

end Go.Proofs.Ythnaapjefedalaa

/-
  A slice of slices of fields that came in.
-/
namespace Go.Proofs.Ythnaapjefedalaa
open Go.RowKit Go.ChangeShapes Go.WideShapes Go.Deep
set_option linter.unusedVariables false

section
variable {H : Type} {enc : TypeId × Value → H} {w : World} {base : Nat} {spare : Nat → Bool} {held : Bool}
theorem fieldsCells : Try.prog.cellsOf 31 = 1 := by kernel_rfl
theorem fieldsv_open {fuel : Nat} {cs : List Value} {x : DataW H × List MemPlace} (h : DataW.trod enc Try.prog w base spare held fuel 31 cs = some x) :
    ∃ (v : Value) (l : List Fd), cs = [v] ∧ Fs w v l ∧ ((∀ n ∈ x.1.weights Try.prog 31, n ≤ reachBytes) → Small l) := by
  rcases open_slice Try.underlying31 h with ⟨hcs, _⟩ | ⟨p, len, cap, m, n, D, Pl, hcs, _⟩
  · subst hcs
    obtain ⟨l, h1, h2⟩ := fields_open h
    exact ⟨_, l, rfl, h1, h2⟩
  · subst hcs
    obtain ⟨l, h1, h2⟩ := fields_open h
    exact ⟨_, l, rfl, h1, h2⟩

set_option maxRecDepth 100000 in
theorem fieldss_open {fuel : Nat} {cs : List Value} {x : DataW H × List MemPlace} (h : DataW.trod enc Try.prog w base spare held fuel 22 cs = some x) :
    ∃ (v : Value) (vs : List Value) (ll : List (List Fd)), cs = [v] ∧ Fss w v vs ll ∧ ((∀ n ∈ x.1.weights Try.prog 22, n ≤ reachBytes) → ∀ l ∈ ll, Small l) := by
  rcases open_slice1 Try.underlying22 fieldsCells h with ⟨hcs, _⟩ | ⟨p, len, cap, m, n, V, D, Pl, hcs, hb, hlc, hcm, hm, hx, hi⟩
  · exact ⟨_, [], [], hcs, ⟨Rd.nil w, rfl, fun i h => by simp at h⟩, fun _ f hf => by cases hf⟩
  · have hlm : len ≤ m := by rw [hm]; split <;> omega
    obtain ⟨F, hF⟩ := choose_lt (α := List Fd) (n := len) (p := fun i l => w.cell? (p.add i) = some (V i) ∧ Fs w (V i) l ∧ ((∀ n ∈ (D i).weights Try.prog 31, n ≤ reachBytes) → Small l)) (fun i hil => by
      obtain ⟨h1, h2⟩ := hi i (by omega)
      obtain ⟨v, l, hv, hl, hs⟩ := fieldsv_open h2
      injection hv with hv
      exact ⟨l, h1, hv ▸ hl, hs⟩)
    refine ⟨_, (List.range len).map V, (List.range len).map F, hcs, ⟨⟨some p, cap, by simp, by simpa using hlc, hcm, .inr ⟨p, rfl, fun j u hu => ?_⟩⟩, by simp, fun i h1 h2 => ?_⟩, fun hw l hl => ?_⟩
    · obtain ⟨hj, hu⟩ := List.getElem?_eq_some_iff.1 hu
      simp only [List.length_map, List.length_range] at hj
      simp at hu
      rw [← hu]
      exact (hF j hj).1
    · simp only [List.length_map, List.length_range] at h1
      have := (hF i h1).2.1
      simpa using this
    · obtain ⟨i, hir, rfl⟩ := List.mem_map.1 hl
      have hil : i < len := List.mem_range.1 hir
      exact (hF i hil).2.2 fun n hn => hw n (by
        rw [hx]
        simp only [DataW.weights, Try.underlying22, List.mem_cons, List.mem_append]
        exact .inr (.inl (weights_mem_all (List.mem_map.2 ⟨i, hir, rfl⟩) n hn)))
end

end Go.Proofs.Ythnaapjefedalaa
