/-
  Slices of a script's steps; one that came in, with its strings' sizes; a field that came in by value.
-/
import Derived.Test.YtjebemcghikgpaaDnOpenF
namespace Go.Proofs.Ytjebemcghikgpaa
open Go.RowKit Go.ChangeShapes Go.WideShapes Go.Deep
set_option linter.unusedVariables false

/-- A step of a script: what, which field, which number. -/
structure Ac where
  wh : Nat
  f : Fd
  n : Int
instance : Inhabited Ac := ⟨⟨0, emp, 0⟩⟩
def avl (a : Ac) : List Value := [.int .u8 (a.wh : Int), .string a.f.1, .string a.f.2, .int .i64 a.n]
/-- The value reads as these steps. -/
def As (w : World) (v : Value) (l : List Ac) : Prop := Rn 4 w v l.length (l.flatMap avl)
theorem avl_length (l : List Ac) : (l.flatMap avl).length = l.length * 4 := by
  induction l with
  | nil => rfl
  | cons a l ih => rw [List.flatMap_cons, List.length_append, ih]; simp [avl]; omega
theorem avl_at (l : List Ac) (i j : Nat) (h : i < l.length) (hj : j < 4) : (l.flatMap avl)[i * 4 + j]? = (avl l[i])[j]? := by
  induction l generalizing i with
  | nil => simp at h
  | cons a l ih =>
    rw [List.flatMap_cons]
    cases i with
    | zero => rw [Nat.zero_mul, Nat.zero_add, List.getElem?_append_left (by simpa [avl] using hj)]; rfl
    | succ i =>
      have := ih i (by simpa using h)
      have e1 : (i + 1) * 4 + j = (avl a).length + (i * 4 + j) := by simp [avl]; omega
      rw [e1, List.getElem?_append_right (by omega), Nat.add_sub_cancel_left]
      simpa using this
theorem As.keep {w w' : World} {v : Value} {l : List Ac} (h : As w v l) (hb : Below w.heap.size w w') : As w' v l := Rn.keep h hb
theorem As.run_len {w : World} {v : Value} {l : List Ac} (h : As w v l) (ty : TypeId) (W : World) : (Builtin.len_ #[22] ty #[v]).run Try.prog W = .ok (.int .i64 (l.length : Int)) W := by
  obtain ⟨A, c, rfl, h1, h2, h3⟩ := h
  simp [Builtin.len_, run_underlying Try.underlying22, goInt]
theorem As.at_ {w : World} {v : Value} {l : List Ac} (h : As w v l) (i : Nat) (hi : i < l.length) :
    ∃ b o : Nat, (∀ (q : IntKind) (W : World), (Instr.indexAt 22 v (.int q (i : Int))).run Try.prog W = .ok (.pointer (some ⟨b, o, none⟩)) W) ∧
      ∀ W : World, As W v l → W.cell? ⟨b, o, none⟩ = some (.int .u8 (l[i].wh : Int)) ∧ W.cell? ⟨b, o + 1, none⟩ = some (.string l[i].f.1) ∧ W.cell? ⟨b, o + 2, none⟩ = some (.string l[i].f.2) ∧ W.cell? ⟨b, o + 3, none⟩ = some (.int .i64 l[i].n) := by
  obtain ⟨b, o, c, rfl, h1, h2, h3, hc⟩ := Rn.at_ h (by omega) (by omega)
  have hsz : ∀ W : World, (sizeOf (Try.prog.elem 22)).run Try.prog W = .ok 4 W := fun W => by kernel_rfl
  refine ⟨b, o + i * 4, fun q W => ?_, fun W hW => ?_⟩
  · simp [Instr.indexAt, asIntOf, run_underlying Try.underlying22, Sem.run_bind, hi, Result.andThen]
    simp [Addr.add]
  · obtain ⟨b', o', c', e, _, _, _, hc'⟩ := Rn.at_ hW (by omega) (by omega)
    injection e with e1 e2 e3
    injection e1 with e1
    injection e1 with e1 e4
    subst e1; subst e4
    have g := fun j hj u hu => hc' (i * 4 + j) u (by rw [avl_at l i j hi hj]; exact hu)
    exact ⟨g 0 (by omega) _ rfl, by have := g 1 (by omega) _ rfl; rwa [← Nat.add_assoc] at this, by have := g 2 (by omega) _ rfl; rwa [← Nat.add_assoc] at this, by have := g 3 (by omega) _ rfl; rwa [← Nat.add_assoc] at this⟩

/-- Each step's numbers fit, and its strings are no longer than any machine holds. -/
def SmallA (l : List Ac) : Prop := ∀ a ∈ l, a.wh < 256 ∧ (-9223372036854775808 ≤ a.n ∧ a.n ≤ 9223372036854775807) ∧ a.f.1.size ≤ 140737488351232 ∧ a.f.2.size ≤ 140737488351232

section
variable {H : Type} {enc : TypeId × Value → H} {w : World} {base : Nat} {spare : Nat → Bool} {held : Bool}
theorem actCells : Try.prog.cellsOf 32 = 4 := by kernel_rfl
theorem intCells : Try.prog.cellsOf 3 = 1 := by kernel_rfl
theorem u8Cells : Try.prog.cellsOf 5 = 1 := by kernel_rfl
def actD (H : Type) (a : Ac) : DataW H := .agg [.lit (.int .u8 (a.wh : Int)), .agg [.lit (.string a.f.1.data.toList), .lit (.string a.f.2.data.toList)], .lit (.int .i64 a.n)]

theorem act_open {fuel : Nat} {cs : List Value} {x : DataW H × List MemPlace} (h : DataW.trod enc Try.prog w base spare held fuel 32 cs = some x) :
    ∃ a : Ac, cs = avl a ∧ x.1 = actD H a ∧ a.wh < 256 ∧ (-9223372036854775808 ≤ a.n ∧ a.n ≤ 9223372036854775807) := by
  obtain ⟨xs, n, _, hx, hl, hlen, hf⟩ := DataW.trod_struct Try.underlying32 h
  rw [actCells] at hl
  match cs, hl with
  | [c0, c1, c2, c3], _ =>
    have e0 := hf 0 _ rfl
    have e1 := hf 1 _ rfl
    have e2 := hf 2 _ rfl
    change DataW.trod enc Try.prog w base spare held n 5 (([c0, c1, c2, c3].drop 0).take (Try.prog.cellsOf 5)) = xs[0]? at e0
    change DataW.trod enc Try.prog w base spare held n 24 (([c0, c1, c2, c3].drop 1).take (Try.prog.cellsOf 24)) = xs[1]? at e1
    change DataW.trod enc Try.prog w base spare held n 3 (([c0, c1, c2, c3].drop 3).take (Try.prog.cellsOf 3)) = xs[2]? at e2
    rw [u8Cells] at e0
    rw [fdCells2] at e1
    rw [intCells] at e2
    match xs, hlen with
    | [y0, y1, y2], _ =>
      obtain ⟨n0, h0, d0, w0⟩ := DataW.trod_int Try.underlying5 e0
      obtain ⟨f, h1, d1⟩ := field_open e1
      obtain ⟨n2, h2, d2, w2⟩ := DataW.trod_int Try.underlying3 e2
      obtain ⟨k, rfl, hk⟩ := u8n w0
      simp at h0 h2
      simp [fvl] at h1
      obtain ⟨rfl, rfl⟩ := h1
      subst h0 h2
      refine ⟨⟨k, f, n2⟩, rfl, by rw [hx]; simp only [List.map_cons, List.map_nil]; rw [d0, d1, d2]; rfl, hk, ?_⟩
      simpa [Lit.wf, IntKind.min, IntKind.max, IntKind.signed, IntKind.bits] using w2

theorem acts_open {fuel : Nat} {a : Option Addr} {len cap : Nat} {x : DataW H × List MemPlace} (h : DataW.trod enc Try.prog w base spare held fuel 22 [.slice a len cap] = some x) :
    ∃ l : List Ac, As w (.slice a len cap) l ∧ ((∀ n ∈ x.1.weights Try.prog 22, n ≤ reachBytes) → SmallA l) := by
  rcases open_slice Try.underlying22 h with ⟨hcs, _⟩ | ⟨p, l0, c0, m, n, D, Pl, hcs, hb, hlc, hcm, hm, hx, hi⟩
  · simp at hcs
    obtain ⟨rfl, rfl, rfl⟩ := hcs
    exact ⟨[], Rn.nil 4 w, fun _ f hf => by cases hf⟩
  · simp at hcs
    obtain ⟨rfl, rfl, rfl⟩ := hcs
    have hlm : len ≤ m := by rw [hm]; split <;> omega
    obtain ⟨F, hF⟩ := choose_lt (α := Ac) (n := len) (p := fun i f => w.cells? base (p.add (i * 4)) 4 = some (avl f) ∧ D i = actD H f ∧ f.wh < 256 ∧ (-9223372036854775808 ≤ f.n ∧ f.n ≤ 9223372036854775807)) (fun i hil => by
      obtain ⟨cs', h1, h2⟩ := hi i (by omega)
      rw [actCells] at h1
      obtain ⟨f, rfl, hd, hr⟩ := act_open h2
      exact ⟨f, h1, hd, hr⟩)
    have hlen : ((List.range len).map F).length = len := by simp
    have hget : ∀ i (hil : i < len), ((List.range len).map F)[i]'(by omega) = F i := fun i hil => by simp
    refine ⟨(List.range len).map F, ⟨some p, cap, by rw [hlen], by rw [hlen]; exact hlc, hcm, by rw [avl_length], .inr ⟨p, rfl, fun j u hu => ?_⟩⟩, fun hw f hf => ?_⟩
    · have hj : j < len * 4 := by
        rcases Nat.lt_or_ge j (len * 4) with h1 | h1
        · exact h1
        · rw [List.getElem?_eq_none (by rw [avl_length, hlen]; exact h1)] at hu; cases hu
      have hil : j / 4 < len := by omega
      obtain ⟨h1, _⟩ := hF (j / 4) hil
      obtain ⟨_, _, hat⟩ := World.cells?_some h1
      have hr : j % 4 < 4 := Nat.mod_lt _ (by omega)
      have ej : j / 4 * 4 + j % 4 = j := by omega
      have hv := avl_at ((List.range len).map F) (j / 4) (j % 4) (by rw [hlen]; exact hil) hr
      rw [ej, hget _ hil, hu] at hv
      have := hat (j % 4) (by omega)
      rw [add_add, ej] at this
      rw [this, ← hv]
    · obtain ⟨i, hir, rfl⟩ := List.mem_map.1 hf
      have hil : i < len := List.mem_range.1 hir
      obtain ⟨_, hd, hrw, hrn⟩ := hF i hil
      have hmem : ∀ n ∈ (D i).weights Try.prog 32, n ≤ reachBytes := fun n hn => hw n (by
        rw [hx]
        simp only [DataW.weights, Try.underlying22, List.mem_cons, List.mem_append]
        exact .inr (.inl (weights_mem_all (List.mem_map.2 ⟨i, hir, rfl⟩) n hn)))
      rw [hd] at hmem
      have h1 := hmem (F i).f.1.data.toList.length (by simp only [actD, DataW.weights, Try.underlying32]; simp [DataW.weightsEach, DataW.weights, Try.underlying24])
      have h2 := hmem (F i).f.2.data.toList.length (by simp only [actD, DataW.weights, Try.underlying32]; simp [DataW.weightsEach, DataW.weights, Try.underlying24])
      have hr : reachBytes ≤ 140737488351232 := by decide
      have e1 : (F i).f.1.data.toList.length = (F i).f.1.size := by simp
      have e2 : (F i).f.2.data.toList.length = (F i).f.2.size := by simp
      exact ⟨hrw, hrn, by omega, by omega⟩

theorem field_arg {cs : Array Value} {d : DataW H} {p : List MemPlace} (h : DataW.Trod enc Try.prog w base spare held 24 (.agg cs) d p) :
    ∃ f : Fd, cs = #[.string f.1, .string f.2] ∧ ((∀ n ∈ d.weights Try.prog 24, n ≤ reachBytes) → f.1.size ≤ 140737488351232 ∧ f.2.size ≤ 140737488351232) := by
  obtain ⟨fuel, hf⟩ := h
  obtain ⟨f, hcs, hd⟩ := field_open hf
  refine ⟨f, ?_, fun hw => ?_⟩
  · apply Array.toList_inj.1
    exact hcs
  · simp only at hd
    subst hd
    have h1 := hw f.1.data.toList.length (by simp only [DataW.weights, Try.underlying24]; simp [DataW.weightsEach, DataW.weights])
    have h2 := hw f.2.data.toList.length (by simp only [DataW.weights, Try.underlying24]; simp [DataW.weightsEach, DataW.weights])
    have hr : reachBytes ≤ 140737488351232 := by decide
    have e1 : f.1.data.toList.length = f.1.size := by simp
    have e2 : f.2.data.toList.length = f.2.size := by simp
    omega
end

end Go.Proofs.Ytjebemcghikgpaa
