/-
  Slices of structs that came in, structs that came in by value: from the row's reading to lists. No program is named here.
-/
import Derived.Test.YtcakppdabolfiaaRowG
import Derived.Deep.Slices
import Derived.SizedLaws
namespace Go.Proofs.Ytcakppdabolfiaa
open Go.RowKit Go.ChangeShapes Go.WideShapes Go.Deep
set_option linter.unusedVariables false

theorem weights_all {H : Type} {P : Program} {e : TypeId} : ∀ {ds : List (DataW H)} {d : DataW H}, d ∈ ds → ∀ n ∈ d.weights P e, n ∈ DataW.weightsAll P e ds
  | d0 :: ds, d, hd, n, hn => by
    simp only [DataW.weightsAll, List.mem_append]
    rcases List.mem_cons.1 hd with rfl | h
    · exact .inl hn
    · exact .inr (weights_all h n hn)
section
variable {α H : Type} {enc : TypeId × Value → H} {P : Program} {w : World} {base : Nat} {spare : Nat → Bool} {held : Bool} {f : α → List Value} {k : Nat} {ty e : TypeId}
/-- What a struct's reading comes to: its cells, and what is known of it. -/
def Comes (P : Program) (w : World) (base : Nat) (spare : Nat → Bool) (held : Bool) (enc : TypeId × Value → H) (e : TypeId) (f : α → List Value) (G : World → α → DataW H → Prop) : Prop :=
  ∀ (fuel : Nat) (cs : List Value) (x : DataW H × List MemPlace), DataW.trod enc P w base spare held fuel e cs = some x → ∃ a, cs = f a ∧ G w a x.1
theorem rows_came [Inhabited α] {G : World → α → DataW H → Prop} (hu : P.underlying ty = some (.slice e)) (hc : P.cellsOf e = k) (hk : 0 < k) (hf : ∀ a, (f a).length = k) (one : Comes P w base spare held enc e f G)
    {fuel : Nat} {cs : List Value} {x : DataW H × List MemPlace} (h : DataW.trod enc P w base spare held fuel ty cs = some x) :
    ∃ (v : Value) (l : List α), cs = [v] ∧ Rows k f w v l ∧ ∀ a ∈ l, ∃ d, G w a d ∧ ∀ n ∈ d.weights P e, n ∈ x.1.weights P ty := by
  rcases open_slice hu h with ⟨hcs, _⟩ | ⟨p, len, cap, m, n, D, Pl, hcs, hb, hlc, hcm, hm, hx, hi⟩
  · exact ⟨_, [], hcs, Rows.nil k f w, fun a ha => by cases ha⟩
  · have hlm : len ≤ m := by rw [hm]; split <;> omega
    obtain ⟨F, hF⟩ := choose_lt (α := α) (n := len) (p := fun i a => w.cells? base (p.add (i * k)) k = some (f a) ∧ G w a (D i)) (fun i hil => by
      obtain ⟨cs', h1, h2⟩ := hi i (by omega)
      rw [hc] at h1
      obtain ⟨a, rfl, hg⟩ := one _ _ _ h2
      exact ⟨a, h1, hg⟩)
    have hlen : ((List.range len).map F).length = len := by simp
    have hget : ∀ i (hil : i < len), ((List.range len).map F)[i]'(by omega) = F i := fun i hil => by simp
    refine ⟨_, (List.range len).map F, hcs, ⟨some p, cap, by rw [hlen], by rw [hlen]; exact hlc, hcm, flat_len hf _, .inr ⟨p, rfl, fun j u hu' => ?_⟩⟩, fun a ha => ?_⟩
    · have hj : j < len * k := by
        rcases Nat.lt_or_ge j (len * k) with h1 | h1
        · exact h1
        · rw [List.getElem?_eq_none (by rw [flat_len hf, hlen]; exact h1)] at hu'; cases hu'
      have hil : j / k < len := Nat.div_lt_of_lt_mul (by rw [Nat.mul_comm]; exact hj)
      obtain ⟨h1, _⟩ := hF (j / k) hil
      obtain ⟨_, _, hat⟩ := World.cells?_some h1
      have hr : j % k < k := Nat.mod_lt _ hk
      have ej : j / k * k + j % k = j := by rw [Nat.mul_comm]; exact Nat.div_add_mod j k
      have hv := flat_at hf ((List.range len).map F) (j / k) (j % k) (by rw [hlen]; exact hil) hr
      rw [ej, hget _ hil, hu'] at hv
      have := hat (j % k) hr
      rw [add_add, ej] at this
      rw [this, ← hv]
    · obtain ⟨i, hir, rfl⟩ := List.mem_map.1 ha
      have hil : i < len := List.mem_range.1 hir
      refine ⟨D i, (hF i hil).2, fun n hn => ?_⟩
      rw [hx]
      simp only [DataW.weights, hu, List.mem_cons, List.mem_append]
      exact .inr (.inl (weights_all (List.mem_map.2 ⟨i, hir, rfl⟩) n hn))
/-- A struct that came in by value. -/
theorem val_came {G : World → α → DataW H → Prop} (one : Comes P w base spare held enc e f G) {cs : Array Value} {d : DataW H} {p : List MemPlace} (h : DataW.Trod enc P w base spare held e (.agg cs) d p) : ∃ a, cs = (f a).toArray ∧ G w a d := by
  obtain ⟨fuel, hf⟩ := h
  obtain ⟨a, hcs, hg⟩ := one _ _ _ hf
  exact ⟨a, Array.toList_inj.1 hcs, hg⟩
end
theorem u64W {n : Int} (h : (Lit.int .u64 n).wf = true) : ∃ x : Nat, n = (x : Int) ∧ x < 18446744073709551616 := by
  simp [Lit.wf, IntKind.min, IntKind.max, IntKind.signed, IntKind.bits] at h
  exact ⟨n.toNat, by omega, by omega⟩
theorem u32W {n : Int} (h : (Lit.int .u32 n).wf = true) : ∃ x : Nat, n = (x : Int) ∧ x < 4294967296 := by
  simp [Lit.wf, IntKind.min, IntKind.max, IntKind.signed, IntKind.bits] at h
  exact ⟨n.toNat, by omega, by omega⟩
theorem u16W {n : Int} (h : (Lit.int .u16 n).wf = true) : ∃ x : Nat, n = (x : Int) ∧ x < 65536 := by
  simp [Lit.wf, IntKind.min, IntKind.max, IntKind.signed, IntKind.bits] at h
  exact ⟨n.toNat, by omega, by omega⟩
theorem u8W {n : Int} (h : (Lit.int .u8 n).wf = true) : ∃ x : Nat, n = (x : Int) ∧ x < 256 := by
  simp [Lit.wf, IntKind.min, IntKind.max, IntKind.signed, IntKind.bits] at h
  exact ⟨n.toNat, by omega, by omega⟩
theorem i64W {n : Int} (h : (Lit.int .i64 n).wf = true) : ∃ x : Int, n = x ∧ (-9223372036854775808 ≤ x ∧ x ≤ 9223372036854775807) := by
  simp [Lit.wf, IntKind.min, IntKind.max, IntKind.signed, IntKind.bits] at h
  exact ⟨n, rfl, by omega⟩
end Go.Proofs.Ytcakppdabolfiaa
