/-
  A region that draws its order, of which many operations may come up at once, each in whatever order. No program is named here.
-/
import Derived.Test.YtenoaljghbpaaaaDnStep
namespace Go.Proofs.Ytenoaljghbpaaaa
open Go.RowKit
set_option linter.unusedVariables false
set_option linter.unusedSimpArgs false

section
variable {P : Program} {ops : Array Oper} {Q : Exit → Act → World → Prop} {md : Region.Mode} {S : World → Prop} {last : Nat}
/-- What is asked of the operations: all that isn't listed ahead of the bag waits for all of it; what they wait for is listed, and lies outside. -/
def bagB (md : Region.Mode) (ops : Array Oper) (ins : List Nat) (base lend : Array Bool) : Bool :=
  lend.size == base.size && (List.range base.size).all (fun j => lend.getD j true == (ins.contains j || base.getD j true)) &&
  (List.range base.size).all (fun j => ins.contains j || base.getD j true || (match ops[j]? with | some o => ins.all (fun p => o.after.any fun e => Region.binds md e && e.on == p) | none => false)) &&
  ins.all (fun p => decide (p < base.size) && !base.getD p true && (match ops[p]? with | some o => o.after.all (fun e => !Region.binds md e || (!ins.contains e.on && base.getD e.on false)) | none => false))
theorem getD_tf {l : Array Bool} {j : Nat} (h : l.getD j false = true) : j < l.size ∧ l.getD j true = true := by
  rcases Nat.lt_or_ge j l.size with h1 | h1
  · refine ⟨h1, ?_⟩
    simp [Array.getD, h1] at h ⊢
    exact h
  · simp [Array.getD, Nat.not_lt.2 h1] at h
theorem getD_ft {l : Array Bool} {j : Nat} (h1 : j < l.size) (h : l.getD j true = true) : l.getD j false = true := by
  simp [Array.getD, h1] at h ⊢
  exact h
theorem getD_ext {l l' : Array Bool} (hs : l.size = l'.size) (h : ∀ j, l.getD j true = l'.getD j true) : l = l' := by
  refine Array.ext hs fun j h1 h2 => ?_
  have := h j
  simpa [Array.getD, h1, h2] using this
theorem wpAnyX_bag (hS : ∀ w, S w) {ins : List Nat} {base lend : Array Bool} {a : Act} (hb : bagB md ops ins base lend = true) (I : List Nat → World → Prop)
    (hstep : ∀ pend, pend.Nodup → (∀ p ∈ pend, p ∈ ins) → ∀ p ∈ pend, ∀ w, I pend w → ∀ K : Act → World → Prop, (∀ w', I (pend.erase p) w' → K a w') → wpOp P ops Q p K a w) :
    ∀ (fuel : Nat) (listed : Array Bool) (pend : List Nat) (w : World), pend.Nodup → (∀ p ∈ pend, p ∈ ins) → listed.size = base.size →
      (∀ j, listed.getD j true = if j ∈ ins then !pend.contains j else base.getD j true) → I pend w → pend.length ≤ fuel →
      (∀ w', I [] w' → wpAnyX P md ops Q S last (fuel - pend.length) lend a w') → wpAnyX P md ops Q S last fuel listed a w := by
  unfold bagB at hb
  simp only [Bool.and_eq_true, beq_iff_eq, List.all_eq_true, List.mem_range, Bool.or_eq_true, decide_eq_true_iff, Bool.not_eq_true', List.contains_eq_mem, decide_eq_false_iff_not] at hb
  obtain ⟨⟨⟨hsz, hend⟩, hrest⟩, hin⟩ := hb
  have hnil : ∀ (fuel : Nat) (listed : Array Bool) (w : World), listed.size = base.size → (∀ j, listed.getD j true = if j ∈ ins then !([] : List Nat).contains j else base.getD j true) → I [] w →
      (∀ w', I [] w' → wpAnyX P md ops Q S last fuel lend a w') → wpAnyX P md ops Q S last fuel listed a w := fun fuel listed w h1 h2 h3 h4 => by
    have : listed = lend := getD_ext (by rw [h1, hsz]) fun j => by
      rw [h2 j]
      rcases Nat.lt_or_ge j base.size with hj | hj
      · rw [hend j hj]
        by_cases hm : j ∈ ins <;> simp [hm]
      · have e : lend.getD j true = true := by simp [Array.getD, Nat.not_lt.2 (hsz ▸ hj)]
        rw [e]
        split
        · rfl
        · simp [Array.getD, Nat.not_lt.2 hj]
    rw [this]
    exact h4 w h3
  intro fuel
  induction fuel with
  | zero =>
    intro listed pend w hnd hsub h1 h2 hI hf H
    obtain rfl : pend = [] := List.length_eq_zero_iff.1 (by omega)
    exact hnil 0 listed w h1 h2 hI H
  | succ fuel ih =>
    intro listed pend w hnd hsub h1 h2 hI hf H
    cases pend with
    | nil => exact hnil _ listed w h1 h2 hI H
    | cons p0 pend0 =>
      have hlp : listed.getD p0 true = false := by rw [h2 p0, if_pos (hsub p0 (by simp))]; simp
      have hrdy : ∀ p ∈ p0 :: pend0, p ∈ Region.ready md ops listed := fun p hp => by
        obtain ⟨⟨g1, g2⟩, g3⟩ := hin p (hsub p hp)
        refine mem_ready.2 ⟨by rw [h2 p, if_pos (hsub p hp)]; simp [hp], ?_⟩
        cases ho : ops[p]? with
        | none => rw [ho] at g3; cases g3
        | some o =>
          rw [ho] at g3
          refine ⟨o, rfl, fun e he hbe => ?_⟩
          simp only [Array.all_eq_true_iff_forall_mem, Bool.or_eq_true, Bool.not_eq_true', Bool.and_eq_true, decide_eq_false_iff_not] at g3
          rcases g3 e he with q | ⟨q1, q2⟩
          · rw [hbe] at q; cases q
          · obtain ⟨r1, r2⟩ := getD_tf q2
            exact getD_ft (by rw [h1]; exact r1) (by rw [h2 e.on, if_neg q1]; exact r2)
      refine ⟨fun h => (by have := hrdy p0 (by simp); rw [h] at this; cases this), fun i hi => ?_⟩
      obtain ⟨hil, o, ho, hall⟩ := mem_ready.1 hi
      have himem : i ∈ p0 :: pend0 := by
        by_cases hii : i ∈ ins
        · rw [h2 i, if_pos hii] at hil
          by_cases e : i = p0
          · rw [e]; simp
          · have hil2 : ¬ i = p0 → i ∈ pend0 := by simpa using hil
            exact List.mem_cons_of_mem _ (hil2 e)
        · exfalso
          rw [h2 i, if_neg hii] at hil
          have hib : i < base.size := by
            rcases Nat.lt_or_ge i base.size with h | h
            · exact h
            · simp [Array.getD, Nat.not_lt.2 h] at hil
          rcases hrest i hib with (q | q) | q
          · exact hii q
          · rw [hil] at q; cases q
          · rw [ho] at q
            simp only [List.all_eq_true, Array.any_eq_true, Bool.and_eq_true, beq_iff_eq] at q
            obtain ⟨k, hk, hbk, hek⟩ := q p0 (hsub p0 (by simp))
            have := hall _ (Array.getElem_mem hk) hbk
            rw [hek] at this
            rw [(getD_tf this).2] at hlp
            cases hlp
      refine hstep (p0 :: pend0) hnd hsub i himem w hI _ fun w' hI' => ⟨fun _ => hS w', ?_⟩
      have hlen : ((p0 :: pend0).erase i).length = pend0.length := by rw [List.length_erase_of_mem himem]; simp
      refine ih (listed.setIfInBounds i true) _ w' (hnd.erase i) (fun p hp => hsub p (List.mem_of_mem_erase hp)) (by simpa using h1) (fun j => ?_) hI' (by rw [hlen]; simp at hf; omega) (fun w2 hw2 => ?_)
      · by_cases hij : i = j
        · subst hij
          rw [if_pos (hsub i himem)]
          have : (listed.setIfInBounds i true).getD i true = true := by
            rcases Nat.lt_or_ge i listed.size with h | h
            · simp [Array.getD, h]
            · simp [Array.getD, Nat.not_lt.2 h]
          rw [this]
          have : i ∉ (p0 :: pend0).erase i := fun h => (List.Nodup.mem_erase_iff hnd).1 h |>.1 rfl
          simp [this]
        · rw [getD_set_ne true hij, h2 j]
          split
          · have : (j ∈ (p0 :: pend0).erase i) ↔ (j ∈ p0 :: pend0) := List.mem_erase_of_ne (fun e => hij e.symm)
            simp only [List.contains_eq_mem, this]
          · rfl
      · have := H w2 hw2
        rw [hlen]
        simpa using this
/-- The whole bag, at once. -/
theorem wpAnyX_bag0 (hS : ∀ w, S w) {ins : List Nat} {listed base lend : Array Bool} {a : Act} (I : List Nat → World → Prop) {fuel : Nat} {w : World} (hl : listed = base) (hb : bagB md ops ins base lend = true) (hnd : ins.Nodup)
    (hstep : ∀ pend, pend.Nodup → (∀ p ∈ pend, p ∈ ins) → ∀ p ∈ pend, ∀ w, I pend w → ∀ K : Act → World → Prop, (∀ w', I (pend.erase p) w' → K a w') → wpOp P ops Q p K a w)
    (hI : I ins w) (hf : ins.length ≤ fuel) (H : ∀ w', I [] w' → wpAnyX P md ops Q S last (fuel - ins.length) lend a w') : wpAnyX P md ops Q S last fuel listed a w := by
  refine wpAnyX_bag hS hb I hstep fuel listed ins w hnd (fun _ h => h) (by rw [hl]) (fun j => ?_) hI hf H
  rw [hl]
  split
  · rename_i h
    unfold bagB at hb
    simp only [Bool.and_eq_true, List.all_eq_true] at hb
    have := (hb.2 j h).1.2
    simp [h]
    simpa using this
  · rfl
end
end Go.Proofs.Ytenoaljghbpaaaa
