/-
  A region that draws its order, of which many operations may come up at once, each in whatever order. No program is named here.
-/
import Derived.Test.YtenoaljghbpaaaaDnStep
namespace Go.Proofs.Ytenoaljghbpaaaa
open Go.RowKit
set_option linter.unusedVariables false
set_option linter.unusedSimpArgs false

section
variable {P : Program} {ops : Array Oper} {Q : Exit → Act → World → Prop} {md : Region.Mode} {S : World → Prop} {last : Nat}
/-- What is asked of the operations: all that isn't listed ahead of the bag waits for all of it; what they wait for is listed, and lies outside. -/
def bagB (md : Region.Mode) (ops : Array Oper) (ins : List Nat) (base lend : Array Bool) : Bool :=
  lend.size == base.size && (List.range base.size).all (fun j => lend.getD j true == (ins.contains j || base.getD j true)) &&
  (List.range base.size).all (fun j => ins.contains j || base.getD j true || (match ops[j]? with | some o => ins.all (fun p => o.after.any fun e => Region.binds md e && e.on == p) | none => false)) &&
  ins.all (fun p => decide (p < base.size) && !base.getD p true && (match ops[p]? with | some o => o.after.all (fun e => !Region.binds md e || (!ins.contains e.on && base.getD e.on false)) | none => false))
theorem getD_tf {l : Array Bool} {j : Nat} (h : l.getD j false = true) : j < l.size ∧ l.getD j true = true := by
  rcases Nat.lt_or_ge j l.size with h1 | h1
  · refine ⟨h1, ?_⟩
    simp [Array.getD, h1] at h ⊢
    exact h
  · simp [Array.getD, Nat.not_lt.2 h1] at h
theorem getD_ft {l : Array Bool} {j : Nat} (h1 : j < l.size) (h : l.getD j true = true) : l.getD j false = true := by
  simp [Array.getD, h1] at h ⊢
  exact h
theorem getD_ext {l l' : Array Bool} (hs : l.size = l'.size) (h : ∀ j, l.getD j true = l'.getD j true) : l = l' := by
  refine Array.ext hs fun j h1 h2 => ?_
  have := h j
  simpa [Array.getD, h1, h2] using this
theorem wpAnyX_bag (hS : ∀ w, S w) {ins : List Nat} {base lend : Array Bool} {a : Act} (hb : bagB md ops ins base lend = true) (I : List Nat → World → Prop)
    (hstep : ∀ pend, pend.Nodup → (∀ p ∈ pend, p ∈ ins) → ∀ p ∈ pend, ∀ w, I pend w → ∀ K : Act → World → Prop, (∀ w', I (pend.erase p) w' → K a w') → wpOp P ops Q p K a w) :
    ∀ (fuel : Nat) (listed : Array Bool) (pend : List Nat) (w : World), pend.Nodup → (∀ p ∈ pend, p ∈ ins) → listed.size = base.size →
      (∀ j, listed.getD j true = if j ∈ ins then !pend.contains j else base.getD j true) → I pend w → pend.length ≤ fuel →
      (∀ w', I [] w' → wpAnyX P md ops Q S last (fuel - pend.length) lend a w') → wpAnyX P md ops Q S last fuel listed a w := by
  unfold bagB at hb
  simp only [Bool.and_eq_true, beq_iff_eq, List.all_eq_true, List.mem_range, Bool.or_eq_true, decide_eq_true_iff, Bool.not_eq_true', List.contains_eq_mem, decide_eq_false_iff_not] at hb
  obtain ⟨⟨⟨hsz, hend⟩, hrest⟩, hin⟩ := hb
  have hnil : ∀ (fuel : Nat) (listed : Array Bool) (w : World), listed.size = base.size → (∀ j, listed.getD j true = if j ∈ ins then !([] : List Nat).contains j else base.getD j true) → I [] w →
      (∀ w', I [] w' → wpAnyX P md ops Q S last fuel lend a w') → wpAnyX P md ops Q S last fuel listed a w := fun fuel listed w h1 h2 h3 h4 => by
    have : listed = lend := getD_ext (by rw [h1, hsz]) fun j => by
      rw [h2 j]
      rcases Nat.lt_or_ge j base.size with hj | hj
      · rw [hend j hj]
        by_cases hm : j ∈ ins <;> simp [hm]
      · have e : lend.getD j true = true := by simp [Array.getD, Nat.not_lt.2 (hsz ▸ hj)]
        rw [e]
        split
        · rfl
        · simp [Array.getD, Nat.not_lt.2 hj]
    rw [this]
    exact h4 w h3
  intro fuel
  induction fuel with
  | zero =>
    intro listed pend w hnd hsub h1 h2 hI hf H
    obtain rfl : pend = [] := List.length_eq_zero_iff.1 (by omega)
    exact hnil 0 listed w h1 h2 hI H
  | succ fuel ih =>
    intro listed pend w hnd hsub h1 h2 hI hf H
    cases pend with
    | nil => exact hnil _ listed w h1 h2 hI H
    | cons p0 pend0 =>
      have hlp : listed.getD p0 true = false := by rw [h2 p0, if_pos (hsub p0 (by simp))]; simp
      have hrdy : ∀ p ∈ p0 :: pend0, p ∈ Region.ready md ops listed := fun p hp => by
        obtain ⟨⟨g1, g2⟩, g3⟩ := hin p (hsub p hp)
        refine mem_ready.2 ⟨by rw [h2 p, if_pos (hsub p hp)]; simp [hp], ?_⟩
        cases ho : ops[p]? with
        | none => rw [ho] at g3; cases g3
        | some o =>
          rw [ho] at g3
          refine ⟨o, rfl, fun e he hbe => ?_⟩
          simp only [Array.all_eq_true_iff_forall_mem, Bool.or_eq_true, Bool.not_eq_true', Bool.and_eq_true, decide_eq_false_iff_not] at g3
          rcases g3 e he with q | ⟨q1, q2⟩
          · rw [hbe] at q; cases q
          · obtain ⟨r1, r2⟩ := getD_tf q2
            exact getD_ft (by rw [h1]; exact r1) (by rw [h2 e.on, if_neg q1]; exact r2)
      refine ⟨fun h => (by have := hrdy p0 (by simp); rw [h] at this; cases this), fun i hi => ?_⟩
      obtain ⟨hil, o, ho, hall⟩ := mem_ready.1 hi
      have himem : i ∈ p0 :: pend0 := by
        by_cases hii : i ∈ ins
        · rw [h2 i, if_pos hii] at hil
          by_cases e : i = p0
          · rw [e]; simp
          · have hil2 : ¬ i = p0 → i ∈ pend0 := by simpa using hil
            exact List.mem_cons_of_mem _ (hil2 e)
        · exfalso
          rw [h2 i, if_neg hii] at hil
          have hib : i < base.size := by
            rcases Nat.lt_or_ge i base.size with h | h
            · exact h
            · simp [Array.getD, Nat.not_lt.2 h] at hil
          rcases hrest i hib with (q | q) | q
          · exact hii q
          · rw [hil] at q; cases q
          · rw [ho] at q
            simp only [List.all_eq_true, Array.any_eq_true, Bool.and_eq_true, beq_iff_eq] at q
            obtain ⟨k, hk, hbk, hek⟩ := q p0 (hsub p0 (by simp))
            have := hall _ (Array.getElem_mem hk) hbk
            rw [hek] at this
            rw [(getD_tf this).2] at hlp
            cases hlp
      refine hstep (p0 :: pend0) hnd hsub i himem w hI _ fun w' hI' => ⟨fun _ => hS w', ?_⟩
      have hlen : ((p0 :: pend0).erase i).length = pend0.length := by rw [List.length_erase_of_mem himem]; simp
      refine ih (listed.setIfInBounds i true) _ w' (hnd.erase i) (fun p hp => hsub p (List.mem_of_mem_erase hp)) (by simpa using h1) (fun j => ?_) hI' (by rw [hlen]; simp at hf; omega) (fun w2 hw2 => ?_)
      · by_cases hij : i = j
        · subst hij
          rw [if_pos (hsub i himem)]
          have : (listed.setIfInBounds i true).getD i true = true := by
            rcases Nat.lt_or_ge i listed.size with h | h
            · simp [Array.getD, h]
            · simp [Array.getD, Nat.not_lt.2 h]
          rw [this]
          have : i ∉ (p0 :: pend0).erase i := fun h => (List.Nodup.mem_erase_iff hnd).1 h |>.1 rfl
          simp [this]
        · rw [getD_set_ne true hij, h2 j]
          split
          · have : (j ∈ (p0 :: pend0).erase i) ↔ (j ∈ p0 :: pend0) := List.mem_erase_of_ne (fun e => hij e.symm)
            simp only [List.contains_eq_mem, this]
          · rfl
      · have := H w2 hw2
        rw [hlen]
        simpa using this
/-- The whole bag, at once. -/
theorem wpAnyX_bag0 (hS : ∀ w, S w) {ins : List Nat} {listed base lend : Array Bool} {a : Act} (I : List Nat → World → Prop) {fuel : Nat} {w : World} (hl : listed = base) (hb : bagB md ops ins base lend = true) (hnd : ins.Nodup)
    (hstep : ∀ pend, pend.Nodup → (∀ p ∈ pend, p ∈ ins) → ∀ p ∈ pend, ∀ w, I pend w → ∀ K : Act → World → Prop, (∀ w', I (pend.erase p) w' → K a w') → wpOp P ops Q p K a w)
    (hI : I ins w) (hf : ins.length ≤ fuel) (H : ∀ w', I [] w' → wpAnyX P md ops Q S last (fuel - ins.length) lend a w') : wpAnyX P md ops Q S last fuel listed a w := by
  refine wpAnyX_bag hS hb I hstep fuel listed ins w hnd (fun _ h => h) (by rw [hl]) (fun j => ?_) hI hf H
  rw [hl]
  split
  · rename_i h
    unfold bagB at hb
    simp only [Bool.and_eq_true, List.all_eq_true] at hb
    have := (hb.2 j h).1.2
    simp [h]
    simpa using this
  · rfl
/-- The same, where what is done changes the frame too, and one of the bag may wait for an earlier one. -/
def bagD (md : Region.Mode) (ops : Array Oper) (ins : List Nat) (base lend : Array Bool) : Bool :=
  lend.size == base.size && (List.range base.size).all (fun j => lend.getD j true == (ins.contains j || base.getD j true)) &&
  (List.range base.size).all (fun j => ins.contains j || base.getD j true || (match ops[j]? with | some o => ins.all (fun p => (o.after.any fun e => Region.binds md e && e.on == p) || ins.any (fun q => decide (p < q) && (match ops[q]? with | some oq => (oq.after.any fun e => Region.binds md e && e.on == p) | none => false))) | none => false)) &&
  ins.all (fun p => decide (p < base.size) && !base.getD p true && (match ops[p]? with | some o => o.after.all (fun e => !Region.binds md e || ((ins.contains e.on && decide (e.on < p)) || (!ins.contains e.on && base.getD e.on false))) | none => false))
theorem least_mem : ∀ (l : List Nat), l ≠ [] → ∃ p ∈ l, ∀ q ∈ l, p ≤ q
  | [], h => absurd rfl h
  | [a], _ => ⟨a, by simp, fun q hq => by simp at hq; omega⟩
  | a :: b :: l, _ => by
    obtain ⟨p, hp, hq⟩ := least_mem (b :: l) (by simp)
    by_cases h : a ≤ p
    · exact ⟨a, by simp, fun q hm => by
        rcases List.mem_cons.1 hm with rfl | hm
        · exact Nat.le_refl _
        · exact Nat.le_trans h (hq q hm)⟩
    · exact ⟨p, List.mem_cons_of_mem _ hp, fun q hm => by
        rcases List.mem_cons.1 hm with rfl | hm
        · omega
        · exact hq q hm⟩
theorem most_mem : ∀ (l : List Nat), l ≠ [] → ∃ p ∈ l, ∀ q ∈ l, q ≤ p
  | [], h => absurd rfl h
  | [a], _ => ⟨a, by simp, fun q hq => by simp at hq; omega⟩
  | a :: b :: l, _ => by
    obtain ⟨p, hp, hq⟩ := most_mem (b :: l) (by simp)
    by_cases h : p ≤ a
    · exact ⟨a, by simp, fun q hm => by
        rcases List.mem_cons.1 hm with rfl | hm
        · exact Nat.le_refl _
        · exact Nat.le_trans (hq q hm) h⟩
    · exact ⟨p, List.mem_cons_of_mem _ hp, fun q hm => by
        rcases List.mem_cons.1 hm with rfl | hm
        · omega
        · exact hq q hm⟩
theorem wpAnyX_bagD (hS : ∀ w, S w) {ins : List Nat} {base lend : Array Bool} (hb : bagD md ops ins base lend = true) (I : List Nat → Act → World → Prop)
    (hstep : ∀ pend, pend.Nodup → (∀ p ∈ pend, p ∈ ins) → ∀ p ∈ pend, (∀ o, ops[p]? = some o → ∀ e ∈ o.after, Region.binds md e = true → e.on ∉ pend) → ∀ a w, I pend a w → ∀ K : Act → World → Prop, (∀ a' w', I (pend.erase p) a' w' → K a' w') → wpOp P ops Q p K a w) :
    ∀ (fuel : Nat) (listed : Array Bool) (pend : List Nat) (a : Act) (w : World), pend.Nodup → (∀ p ∈ pend, p ∈ ins) → (∀ p ∈ pend, ∀ q ∈ ins, (∃ oq, ops[q]? = some oq ∧ ∃ e ∈ oq.after, Region.binds md e = true ∧ e.on = p) → q ∈ pend) → listed.size = base.size →
      (∀ j, listed.getD j true = if j ∈ ins then !pend.contains j else base.getD j true) → I pend a w → pend.length ≤ fuel →
      (∀ a' w', I [] a' w' → wpAnyX P md ops Q S last (fuel - pend.length) lend a' w') → wpAnyX P md ops Q S last fuel listed a w := by
  unfold bagD at hb
  simp only [Bool.and_eq_true, beq_iff_eq, List.all_eq_true, List.mem_range, Bool.or_eq_true, decide_eq_true_iff, Bool.not_eq_true', List.contains_eq_mem, decide_eq_false_iff_not] at hb
  obtain ⟨⟨⟨hsz, hend⟩, hrest⟩, hin⟩ := hb
  have hnil : ∀ (fuel : Nat) (listed : Array Bool) (a : Act) (w : World), listed.size = base.size → (∀ j, listed.getD j true = if j ∈ ins then !([] : List Nat).contains j else base.getD j true) → I [] a w →
      (∀ a' w', I [] a' w' → wpAnyX P md ops Q S last fuel lend a' w') → wpAnyX P md ops Q S last fuel listed a w := fun fuel listed a w h1 h2 h3 h4 => by
    have : listed = lend := getD_ext (by rw [h1, hsz]) fun j => by
      rw [h2 j]
      rcases Nat.lt_or_ge j base.size with hj | hj
      · rw [hend j hj]
        by_cases hm : j ∈ ins <;> simp [hm]
      · have e : lend.getD j true = true := by simp [Array.getD, Nat.not_lt.2 (hsz ▸ hj)]
        rw [e]
        split
        · rfl
        · simp [Array.getD, Nat.not_lt.2 hj]
    rw [this]
    exact h4 a w h3
  intro fuel
  induction fuel with
  | zero =>
    intro listed pend a w hnd hsub hup h1 h2 hI hf H
    obtain rfl : pend = [] := List.length_eq_zero_iff.1 (by omega)
    exact hnil 0 listed a w h1 h2 hI H
  | succ fuel ih =>
    intro listed pend a w hnd hsub hup h1 h2 hI hf H
    by_cases hpn : pend = []
    · subst hpn
      exact hnil _ listed a w h1 h2 hI H
    · obtain ⟨p0, hp0, hleast⟩ := least_mem pend hpn
      have hdone : ∀ q ∈ ins, q ∉ pend → listed.getD q true = true := fun q hq hqp => by rw [h2 q, if_pos hq]; simp [hqp]
      have hlp : listed.getD p0 true = false := by rw [h2 p0, if_pos (hsub p0 hp0)]; simp [hp0]
      have hltb : ∀ q ∈ ins, q < listed.size := fun q hq => by rw [h1]; exact (hin q hq).1.1
      have hrdy : p0 ∈ Region.ready md ops listed := by
        obtain ⟨⟨g1, g2⟩, g3⟩ := hin p0 (hsub p0 hp0)
        refine mem_ready.2 ⟨hlp, ?_⟩
        cases ho : ops[p0]? with
        | none => rw [ho] at g3; cases g3
        | some o =>
          rw [ho] at g3
          refine ⟨o, rfl, fun e he hbe => ?_⟩
          simp only [Array.all_eq_true_iff_forall_mem, Bool.or_eq_true, Bool.not_eq_true', Bool.and_eq_true, decide_eq_false_iff_not, decide_eq_true_iff] at g3
          rcases g3 e he with q | (⟨q1, q2⟩ | ⟨q1, q2⟩)
          · rw [hbe] at q; cases q
          · exact getD_ft (hltb _ q1) (hdone _ q1 fun h => by have := hleast _ h; omega)
          · obtain ⟨r1, r2⟩ := getD_tf q2
            exact getD_ft (by rw [h1]; exact r1) (by rw [h2 e.on, if_neg q1]; exact r2)
      refine ⟨fun h => (by have := hrdy; rw [h] at this; cases this), fun i hi => ?_⟩
      obtain ⟨hil, o, ho, hall⟩ := mem_ready.1 hi
      have himem : i ∈ pend := by
        by_cases hii : i ∈ ins
        · rw [h2 i, if_pos hii] at hil
          simpa using hil
        · exfalso
          rw [h2 i, if_neg hii] at hil
          have hib : i < base.size := by
            rcases Nat.lt_or_ge i base.size with h | h
            · exact h
            · simp [Array.getD, Nat.not_lt.2 h] at hil
          rcases hrest i hib with (q | q) | q
          · exact hii q
          · rw [hil] at q; cases q
          · rw [ho] at q
            obtain ⟨pm, hpm, hmost⟩ := most_mem pend hpn
            have hlm : listed.getD pm true = false := by rw [h2 pm, if_pos (hsub pm hpm)]; simp [hpm]
            simp only [List.all_eq_true, Bool.or_eq_true, Array.any_eq_true, Bool.and_eq_true, beq_iff_eq, List.any_eq_true, decide_eq_true_iff] at q
            rcases q pm (hsub pm hpm) with ⟨k, hk, hbk, hek⟩ | ⟨qq, hqq, hlt, hm⟩
            · have := hall _ (Array.getElem_mem hk) hbk
              rw [hek] at this
              rw [(getD_tf this).2] at hlm
              cases hlm
            · cases hoq : ops[qq]? with
              | none => rw [hoq] at hm; cases hm
              | some oq =>
                rw [hoq] at hm
                simp only [Array.any_eq_true, Bool.and_eq_true, beq_iff_eq] at hm
                obtain ⟨k, hk, hbk, hek⟩ := hm
                have := hmost qq (hup pm hpm qq hqq ⟨oq, hoq, _, Array.getElem_mem hk, hbk, hek⟩)
                omega
      refine hstep pend hnd hsub i himem (fun o' ho' e he hbe hmem => ?_) a w hI _ fun a' w' hI' => ⟨fun _ => hS w', ?_⟩
      · rw [ho] at ho'
        obtain rfl := Option.some.inj ho'
        have h3 := (getD_tf (hall e he hbe)).2
        rw [h2 e.on, if_pos (hsub _ hmem)] at h3
        simp [hmem] at h3
      have hup' : ∀ p ∈ pend.erase i, ∀ q ∈ ins, (∃ oq, ops[q]? = some oq ∧ ∃ e ∈ oq.after, Region.binds md e = true ∧ e.on = p) → q ∈ pend.erase i := fun p hp q hq hw => by
        have hpp := List.mem_of_mem_erase hp
        have hqp := hup p hpp q hq hw
        by_cases hqi : q = i
        · exfalso
          subst hqi
          obtain ⟨oq, hoq, e, he, hbe, hep⟩ := hw
          rw [ho] at hoq
          obtain rfl := Option.some.inj hoq
          have h3 := (getD_tf (hall e he hbe)).2
          rw [hep, h2 p, if_pos (hsub _ hpp)] at h3
          simp [hpp] at h3
        · exact (List.Nodup.mem_erase_iff hnd).2 ⟨hqi, hqp⟩
      have hlen : (pend.erase i).length = pend.length - 1 := List.length_erase_of_mem himem
      have hlpos : 0 < pend.length := List.length_pos_of_mem himem
      refine ih (listed.setIfInBounds i true) _ a' w' (hnd.erase i) (fun p hp => hsub p (List.mem_of_mem_erase hp)) hup' (by simpa using h1) (fun j => ?_) hI' (by rw [hlen]; omega) (fun a2 w2 hw2 => ?_)
      · by_cases hij : i = j
        · subst hij
          rw [if_pos (hsub i himem)]
          have : (listed.setIfInBounds i true).getD i true = true := by
            rcases Nat.lt_or_ge i listed.size with h | h
            · simp [Array.getD, h]
            · simp [Array.getD, Nat.not_lt.2 h]
          rw [this]
          have : i ∉ pend.erase i := fun h => (List.Nodup.mem_erase_iff hnd).1 h |>.1 rfl
          simp [this]
        · rw [getD_set_ne true hij, h2 j]
          split
          · have : (j ∈ pend.erase i) ↔ (j ∈ pend) := List.mem_erase_of_ne (fun e => hij e.symm)
            simp only [List.contains_eq_mem, this]
          · rfl
      · have := H a2 w2 hw2
        rw [hlen]
        rw [show fuel - (pend.length - 1) = fuel + 1 - pend.length by omega]
        exact this
theorem wpAnyX_bagD0 (hS : ∀ w, S w) {ins : List Nat} {listed base lend : Array Bool} {a : Act} (I : List Nat → Act → World → Prop) {fuel : Nat} {w : World} (hl : listed = base) (hb : bagD md ops ins base lend = true) (hnd : ins.Nodup)
    (hstep : ∀ pend, pend.Nodup → (∀ p ∈ pend, p ∈ ins) → ∀ p ∈ pend, (∀ o, ops[p]? = some o → ∀ e ∈ o.after, Region.binds md e = true → e.on ∉ pend) → ∀ a w, I pend a w → ∀ K : Act → World → Prop, (∀ a' w', I (pend.erase p) a' w' → K a' w') → wpOp P ops Q p K a w)
    (hI : I ins a w) (hf : ins.length ≤ fuel) (H : ∀ a' w', I [] a' w' → wpAnyX P md ops Q S last (fuel - ins.length) lend a' w') : wpAnyX P md ops Q S last fuel listed a w := by
  refine wpAnyX_bagD hS hb I hstep fuel listed ins a w hnd (fun _ h => h) (fun _ _ q hq _ => hq) (by rw [hl]) (fun j => ?_) hI hf H
  rw [hl]
  split
  · rename_i h
    unfold bagD at hb
    simp only [Bool.and_eq_true, List.all_eq_true] at hb
    have := (hb.2 j h).1.2
    simp [h]
    simpa using this
  · rfl
end
end Go.Proofs.Ytenoaljghbpaaaa
