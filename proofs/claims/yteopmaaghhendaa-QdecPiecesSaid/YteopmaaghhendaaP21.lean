/-
  Texts put together: QdMath.
-/
import Derived.Test.YteopmaaghhendaaP14
import Derived.Test.YteopmaaghhendaaP09
import Derived.Test.YteopmaaghhendaaP07

/-
  QPACK, read, as plain mathematics: one instruction of the encoder stream; masks.
-/
namespace Go.Proofs.Yteopmaaghhendaa
open Go.RowKit
set_option linter.unusedVariables false

theorem sb_casesK (k : Nat) (l : List UInt8) : (∃ e : Int, e ≠ 0 ∧ sb k l = ([], 0, e)) ∨ ∃ (s : List UInt8) (m : Nat), sb k l = (s, (m : Int), 0) ∧ 1 ≤ m ∧ m ≤ l.length ∧ s.length ≤ 4096 := by
  rcases rp_cases k l with hr | hr | ⟨n, m, hr, h1, h2, h3⟩
  · exact .inl ⟨20, by decide, sb_err hr (by decide)⟩
  · exact .inl ⟨21, by decide, sb_err hr (by decide)⟩
  · by_cases hn : 4096 < n
    · exact .inl ⟨23, by decide, sb_long hr (by omega)⟩
    · by_cases hm : l.length < m + n
      · exact .inl ⟨20, by decide, sb_more hr (by omega) (by omega)⟩
      · by_cases hc : (l.headD 0).toNat / 2 ^ k % 2 = 0
        · refine .inr ⟨_, m + n, by rw [sb_plain hr (by omega) (by omega) hc]; rfl, by omega, by omega, ?_⟩
          simp; omega
        · by_cases he : (dec (allBits ((l.take ((m : Int) + (n : Int)).toNat).drop (m : Int).toNat)) [] 0 0).2 = 0
          · refine .inr ⟨_, m + n, by rw [sb_coded hr (by omega) (by omega) hc rfl he]; rfl, by omega, by omega, ?_⟩
            exact dec_short _ _ _ _ (by simp)
          · exact .inl ⟨_, by exact_mod_cast he, sb_bad hr (by omega) (by omega) hc rfl he⟩
theorem entN_size {T : Tab} {i : Nat} (h : sizeF T.l ≤ 1000000) : fsz (entN T.l i) ≤ 1000000 := by
  unfold entN
  split
  · rename_i hi
    have : ∀ (l : List Fd) (f : Fd), f ∈ l → fsz f ≤ sizeF l := fun l => by
      induction l with
      | nil => intro f hf; cases hf
      | cons x l ih =>
        intro f hf
        simp only [sizeF]
        rcases List.mem_cons.1 hf with rfl | hf
        · omega
        · have := ih f hf; omega
    have := this _ _ (List.getElem_mem (show T.l.length - 1 - i < T.l.length by omega))
    omega
  · exact (by decide : 0 + 0 ≤ 1000000)
end Go.Proofs.Yteopmaaghhendaa
