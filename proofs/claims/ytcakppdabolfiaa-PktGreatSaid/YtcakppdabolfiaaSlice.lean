/-
  Slices of bytes cut: what the cut reads.
-/
import Derived.Test.YtcakppdabolfiaaSl
import Derived.Test.YtcakppdabolfiaaRows
namespace Go.Proofs.Ytcakppdabolfiaa
open Go.RowKit
set_option linter.unusedVariables false

theorem elemB : Try.prog.underlying 36 = some (.slice (Try.prog.elem 36)) := by kernel_rfl
theorem sizeB (W : World) : (sizeOf (Try.prog.elem 36)).run Try.prog W = .ok 1 W := by kernel_rfl

/-- v[i:] -/
theorem Bs.from_ {w : World} {v : Value} {l : List UInt8} (h : Bs w v l) (i : Int) (hi0 : 0 ≤ i) (hi : i ≤ l.length) :
    ∃ v', (∀ W : World, (Instr.slice 36 v (some (.int .i64 i)) none none).run Try.prog W = .ok v' W) ∧ ∀ W : World, Bs W v l → Bs W v' (l.drop i.toNat) := by
  obtain ⟨A, n, c, rfl, hn, h1, h2, h3, h4⟩ := h.open_
  have hnl : n = l.length := hn.out
  refine ⟨sliced A i.toNat n c 1, fun W => ?_, fun W hW => ?_⟩
  · rw [run_slice_l W 36 A n c elemB .i64 i hi0 (by omega), sizeB]
    rfl
  · obtain ⟨A', c', e, r1, r2, r3⟩ := hW
    injection e with e1 e2 e3
    subst e1; subst e3
    unfold sliced
    have hlen : ((l.drop i.toNat).map bv).length = n - i.toNat := by simp [hnl]
    refine ⟨if c = i.toNat then A else A.map (·.add (i.toNat * 1)), c - i.toNat, by rw [hlen], by rw [hlen]; omega, by omega, ?_⟩
    rcases r3 with ⟨rfl, hc⟩ | ⟨x, rfl, hx⟩
    · refine .inl ⟨?_, by omega⟩
      split <;> rfl
    · refine .inr ?_
      split
      · rename_i hci
        refine ⟨x, rfl, fun j u hu => ?_⟩
        have : (l.drop i.toNat).map bv = [] := by
          apply List.eq_nil_of_length_eq_zero
          rw [hlen]; omega
        rw [this] at hu
        simp at hu
      · refine ⟨x.add (i.toNat * 1), rfl, fun j u hu => ?_⟩
        have hj := hx (i.toNat + j) u (by rw [← hu, List.map_drop, List.getElem?_drop])
        rw [← hj]
        congr 1
        unfold Addr.add
        split <;> split <;> split <;> simp_all <;> omega

/-- v[:i] -/
theorem Bs.upto {w : World} {v : Value} {l : List UInt8} (h : Bs w v l) (i : Int) (hi0 : 0 ≤ i) (hi : i ≤ l.length) :
    ∃ v', (∀ W : World, (Instr.slice 36 v none (some (.int .i64 i)) none).run Try.prog W = .ok v' W) ∧ ∀ W : World, Bs W v l → Bs W v' (l.take i.toNat) := by
  obtain ⟨A, n, c, rfl, hn, h1, h2, h3, h4⟩ := h.open_
  have hnl : n = l.length := hn.out
  refine ⟨sliced A 0 i.toNat c 1, fun W => ?_, fun W hW => ?_⟩
  · rw [run_slice_h W 36 A n c elemB .i64 i hi0 (by omega), sizeB]
    rfl
  · obtain ⟨A', c', e, r1, r2, r3⟩ := hW
    injection e with e1 e2 e3
    subst e1; subst e3
    unfold sliced
    have hlen : ((l.take i.toNat).map bv).length = i.toNat - 0 := by simp; omega
    have hA : (if c = 0 then A else A.map (·.add (0 * 1))) = A := by
      split
      · rfl
      · cases A with
        | none => rfl
        | some x => simp [Addr.add]
    rw [hA]
    refine ⟨A, c - 0, by rw [hlen], by rw [hlen]; omega, by omega, ?_⟩
    rcases r3 with ⟨rfl, hc⟩ | ⟨x, rfl, hx⟩
    · exact .inl ⟨rfl, by omega⟩
    · refine .inr ⟨x, rfl, fun j u hu => hx j u ?_⟩
      rw [List.map_take, List.getElem?_take] at hu
      split at hu
      · exact hu
      · simp at hu

/-- v[:len(v):len(v)]: no room is left. -/
theorem Bs.tight {w : World} {v : Value} {l : List UInt8} (h : Bs w v l) :
    ∃ v', (∀ W : World, (Instr.slice 36 v none (some (.int .i64 (l.length : Int))) (some (.int .i64 (l.length : Int)))).run Try.prog W = .ok v' W) ∧ ∀ (W : World) (B : Nat), Bs W v l → ApB W B v' l := by
  obtain ⟨A, n, c, rfl, hn, h1, h2, h3, h4⟩ := h.open_
  have hnl : n = l.length := hn.out
  refine ⟨sliced A 0 l.length l.length 1, fun W => ?_, fun W B hW => ?_⟩
  · rw [run_slice_hm W 36 A n c elemB .i64 .i64 (l.length : Int) (l.length : Int) (by omega) (by omega) (by omega), sizeB]
    simp only [Result.andThen, Int.toNat_natCast]
  · obtain ⟨A', c', e, r1, r2, r3⟩ := hW
    injection e with e1 e2 e3
    subst e1; subst e3
    have hlen : (l.map bv).length = l.length := by simp
    have hA : (if l.length = 0 then A else A.map (·.add (0 * 1))) = A := by
      split
      · rfl
      · cases A with
        | none => rfl
        | some x => simp [Addr.add]
    have hs : sliced A 0 l.length l.length 1 = .slice A l.length l.length := by
      unfold sliced
      rw [hA]
      rfl
    rw [hs]
    refine .inr ⟨⟨A, by rw [hlen]⟩, ⟨A, l.length, by rw [hlen], by rw [hlen]; omega, by omega, ?_⟩⟩
    rcases r3 with ⟨rfl, hc⟩ | ⟨x, rfl, hx⟩
    · exact .inl ⟨rfl, by omega⟩
    · exact .inr ⟨x, rfl, hx⟩

/-- len(v) -/
theorem Bs.run_len {w : World} {v : Value} {l : List UInt8} (h : Bs w v l) (ty : TypeId) (W : World) : (Builtin.len_ #[36] ty #[v]).run Try.prog W = .ok (.int .i64 (l.length : Int)) W := by
  obtain ⟨A, n, c, rfl, hn, h1, h2, h3, h4⟩ := h.open_
  have hnl : n = l.length := hn.out
  subst hnl
  simp [Builtin.len_, run_underlying Try.underlying36, goInt]

/-- The place of v[i], and what lies there. -/
theorem Bs.at_ {w : World} {v : Value} {l : List UInt8} (h : Bs w v l) (i : Nat) (hi : i < l.length) :
    ∃ p : Addr, (∀ W : World, (Instr.indexAt 36 v (.int .i64 (i : Int))).run Try.prog W = .ok (.pointer (some p)) W) ∧ ∀ W : World, Bs W v l → W.cell? p = some (.int .u8 (l[i].toNat : Int)) := by
  obtain ⟨b, o, c, rfl, h1, h2, h3, hc⟩ := Rd.at_ h (by simp; omega)
  rw [List.length_map] at h1
  refine ⟨⟨b, o + i, none⟩, fun W => ?_, fun W hW => ?_⟩
  · simp [Instr.indexAt, asIntOf, run_underlying Try.underlying36, List.length_map, Sem.run_bind, hi, Result.andThen]
    simp [Addr.add]
  · obtain ⟨b', o', c', e, _, _, _, hc'⟩ := Rd.at_ hW (by simp; omega)
    injection e with e1 e2 e3
    injection e1 with e1
    injection e1 with e1 e4
    subst e1; subst e4
    exact hc' i _ (by simp [hi, bv])

end Go.Proofs.Ytcakppdabolfiaa
