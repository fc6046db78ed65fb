/-
  Texts put together: DnOpenF.
-/
import Derived.Test.YtebakjdeighdnaaGreatM24
import Derived.Deep.Slices
import Derived.SizedLaws

/-
  A slice of fields that came in: from the row's reading to a list of fields, with their sizes.
-/
namespace Go.Proofs.YtebakjdeighdnaaGreat
open Go.RowKit Go.ChangeShapes Go.WideShapes Go.Deep
set_option linter.unusedVariables false

theorem weights_mem_all {H : Type} {P : Program} {e : TypeId} : ∀ {ds : List (DataW H)} {d : DataW H}, d ∈ ds → ∀ n ∈ d.weights P e, n ∈ DataW.weightsAll P e ds
  | d0 :: ds, d, hd, n, hn => by
    simp only [DataW.weightsAll, List.mem_append]
    rcases List.mem_cons.1 hd with rfl | h
    · exact .inl hn
    · exact .inr (weights_mem_all h n hn)

section
variable {H : Type} {enc : TypeId × Value → H} {w : World} {base : Nat} {spare : Nat → Bool} {held : Bool}

theorem fdCells2 : Tryz.prog.cellsOf 53 = 2 := by kernel_rfl
theorem strCells2 : Tryz.prog.cellsOf 9 = 1 := by kernel_rfl

set_option maxRecDepth 100000 in
/-- One field's reading. -/
theorem field_open {fuel : Nat} {cs : List Value} {x : DataW H × List MemPlace} (h : DataW.trod enc Tryz.prog w base spare held fuel 53 cs = some x) :
    ∃ f : Fd, cs = fvl f ∧ x.1 = .agg [.lit (.string f.1.data.toList), .lit (.string f.2.data.toList)] := by
  obtain ⟨xs, n, _, hx, hl, hlen, hf⟩ := DataW.trod_struct Tryz.underlying53 h
  rw [fdCells2] at hl
  match cs, hl with
  | [c0, c1], _ =>
    have e0 := hf 0 _ rfl
    have e1 := hf 1 _ rfl
    change DataW.trod enc Tryz.prog w base spare held n 9 (([c0, c1].drop 0).take (Tryz.prog.cellsOf 9)) = xs[0]? at e0
    change DataW.trod enc Tryz.prog w base spare held n 9 (([c0, c1].drop 1).take (Tryz.prog.cellsOf 9)) = xs[1]? at e1
    rw [strCells2] at e0 e1
    match xs, hlen with
    | [y0, y1], _ =>
      obtain ⟨s0, h0, d0, _⟩ := DataW.trod_string Tryz.underlying9 e0
      obtain ⟨s1, h1, d1, _⟩ := DataW.trod_string Tryz.underlying9 e1
      simp at h0 h1
      subst h0 h1
      exact ⟨(s0, s1), rfl, by rw [hx, d0, d1]; rfl⟩

set_option maxRecDepth 100000 in
theorem fields_open {fuel : Nat} {a : Option Addr} {len cap : Nat} {x : DataW H × List MemPlace} (h : DataW.trod enc Tryz.prog w base spare held fuel 30 [.slice a len cap] = some x) :
    ∃ l : List Fd, Fs w (.slice a len cap) l ∧ ((∀ n ∈ x.1.weights Tryz.prog 30, n ≤ reachBytes) → Small l) := by
  rcases open_slice Tryz.underlying30 h with ⟨hcs, _⟩ | ⟨p, l0, c0, m, n, D, Pl, hcs, hb, hlc, hcm, hm, hx, hi⟩
  · simp at hcs
    obtain ⟨rfl, rfl, rfl⟩ := hcs
    exact ⟨[], Rn.nil 2 w, fun _ f hf => by cases hf⟩
  · simp at hcs
    obtain ⟨rfl, rfl, rfl⟩ := hcs
    have hlm : len ≤ m := by rw [hm]; split <;> omega
    obtain ⟨F, hF⟩ := choose_lt (α := Fd) (n := len) (p := fun i f => w.cells? base (p.add (i * 2)) 2 = some (fvl f) ∧ D i = .agg [.lit (.string f.1.data.toList), .lit (.string f.2.data.toList)]) (fun i hil => by
      obtain ⟨cs', h1, h2⟩ := hi i (by omega)
      rw [fdCells2] at h1
      obtain ⟨f, rfl, hd⟩ := field_open h2
      exact ⟨f, h1, hd⟩)
    have hlen : ((List.range len).map F).length = len := by simp
    have hget : ∀ i (hil : i < len), ((List.range len).map F)[i]'(by omega) = F i := fun i hil => by simp
    refine ⟨(List.range len).map F, ⟨some p, cap, by rw [hlen], by rw [hlen]; exact hlc, hcm, by rw [fvl_length], .inr ⟨p, rfl, fun j u hu => ?_⟩⟩, fun hw f hf => ?_⟩
    · have hj : j < len * 2 := by
        rcases Nat.lt_or_ge j (len * 2) with h1 | h1
        · exact h1
        · rw [List.getElem?_eq_none (by rw [fvl_length, hlen]; exact h1)] at hu; cases hu
      have hil : j / 2 < len := by omega
      obtain ⟨h1, _⟩ := hF (j / 2) hil
      obtain ⟨_, _, hat⟩ := World.cells?_some h1
      have hv := fvl_at ((List.range len).map F) (j / 2) (by rw [hlen]; exact hil)
      rw [hget _ hil] at hv
      rcases Nat.mod_two_eq_zero_or_one j with hr | hr
      · have ej : j / 2 * 2 = j := by omega
        rw [ej] at hv
        rw [hv.1] at hu
        have := hat 0 (by omega)
        rw [add_add, ej, Nat.add_zero] at this
        rw [this, ← hu]; rfl
      · have ej : j / 2 * 2 + 1 = j := by omega
        rw [ej] at hv
        rw [hv.2] at hu
        have := hat 1 (by omega)
        rw [add_add, ej] at this
        rw [this, ← hu]; rfl
    · obtain ⟨i, hir, rfl⟩ := List.mem_map.1 hf
      have hil : i < len := List.mem_range.1 hir
      obtain ⟨_, hd⟩ := hF i hil
      have hmem : ∀ n ∈ (D i).weights Tryz.prog 53, n ≤ reachBytes := fun n hn => hw n (by
        rw [hx]
        simp only [DataW.weights, Tryz.underlying30, List.mem_cons, List.mem_append]
        exact .inr (.inl (weights_mem_all (List.mem_map.2 ⟨i, hir, rfl⟩) n hn)))
      rw [hd] at hmem
      have h1 := hmem (F i).1.data.toList.length (by simp only [DataW.weights, Tryz.underlying53]; simp [DataW.weightsEach, DataW.weights])
      have h2 := hmem (F i).2.data.toList.length (by simp only [DataW.weights, Tryz.underlying53]; simp [DataW.weightsEach, DataW.weights])
      have hr : reachBytes ≤ 140737488351232 := by decide
      have e1 : (F i).1.data.toList.length = (F i).1.size := by simp
      have e2 : (F i).2.data.toList.length = (F i).2.size := by simp
      omega
end

end Go.Proofs.YtebakjdeighdnaaGreat
