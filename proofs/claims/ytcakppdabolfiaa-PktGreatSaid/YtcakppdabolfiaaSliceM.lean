/-
  v[i:j] of bytes.
-/
import Derived.Test.YtcakppdabolfiaaSlice
namespace Go.Proofs.Ytcakppdabolfiaa
open Go.RowKit
set_option linter.unusedVariables false

/-- v[i:j] -/
theorem Bs.midK (q1 q2 : IntKind) {w : World} {v : Value} {l : List UInt8} (h : Bs w v l) (i j : Int) (hi0 : 0 ≤ i) (hij : i ≤ j) (hj : j ≤ l.length) :
    ∃ v', (∀ W : World, (Instr.slice 36 v (some (.int q1 i)) (some (.int q2 j)) none).run Try.prog W = .ok v' W) ∧ ∀ W : World, Bs W v l → Bs W v' ((l.take j.toNat).drop i.toNat) := by
  obtain ⟨v1, r1, b1⟩ := h.upto j (by omega) hj
  obtain ⟨A, n, c, rfl, hn, h1, h2, h3, h4⟩ := h.open_
  have hnl : n = l.length := hn.out
  refine ⟨sliced A i.toNat j.toNat c 1, fun W => ?_, fun W hW => ?_⟩
  · rw [run_slice_lh W 36 A n c elemB q1 q2 i j hi0 hij (by omega), sizeB]
    rfl
  · obtain ⟨A', c', e, r1, r2, r3⟩ := hW
    injection e with e1 e2 e3
    subst e1; subst e3
    unfold sliced
    have hlen : (((l.take j.toNat).drop i.toNat).map bv).length = j.toNat - i.toNat := by simp; omega
    refine ⟨if c = i.toNat then A else A.map (·.add (i.toNat * 1)), c - i.toNat, by rw [hlen], by rw [hlen]; omega, by omega, ?_⟩
    rcases r3 with ⟨rfl, hc⟩ | ⟨x, rfl, hx⟩
    · refine .inl ⟨?_, by omega⟩
      split <;> rfl
    · refine .inr ?_
      split
      · rename_i hci
        refine ⟨x, rfl, fun q u hu => ?_⟩
        have : ((l.take j.toNat).drop i.toNat).map bv = [] := by
          apply List.eq_nil_of_length_eq_zero
          rw [hlen]; omega
        rw [this] at hu
        simp at hu
      · refine ⟨x.add (i.toNat * 1), rfl, fun q u hu => ?_⟩
        have hu' : (l.map bv)[i.toNat + q]? = some u := by
          rw [List.map_drop, List.map_take, List.getElem?_drop, List.getElem?_take] at hu
          split at hu
          · exact hu
          · simp at hu
        have hq := hx (i.toNat + q) u hu'
        rw [← hq]
        congr 1
        unfold Addr.add
        split <;> split <;> split <;> simp_all <;> omega

theorem Bs.mid {w : World} {v : Value} {l : List UInt8} (h : Bs w v l) (i j : Int) (hi0 : 0 ≤ i) (hij : i ≤ j) (hj : j ≤ l.length) :
    ∃ v', (∀ W : World, (Instr.slice 36 v (some (.int .i64 i)) (some (.int .i64 j)) none).run Try.prog W = .ok v' W) ∧ ∀ W : World, Bs W v l → Bs W v' ((l.take j.toNat).drop i.toNat) := h.midK .i64 .i64 i j hi0 hij hj
end Go.Proofs.Ytcakppdabolfiaa
