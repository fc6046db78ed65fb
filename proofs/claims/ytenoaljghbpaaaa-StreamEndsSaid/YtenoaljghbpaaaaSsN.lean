/-
  Contract of h2stream.moves, whatever order its literal's entries are laid in; what the list says, as mathematics.
-/
import Derived.Test.YtenoaljghbpaaaaSsM
import Derived.Test.YtenoaljghbpaaaaBag
namespace Go.Proofs.Ytenoaljghbpaaaa
open Go.RowKit Go.Maps
set_option linter.unusedVariables false
set_option linter.unusedSimpArgs false

theorem lkM_mem {l : List (Mk × Int)} (hu : ∀ k v v', (k, v) ∈ l → (k, v') ∈ l → v = v') (m : Mk) (v : Int) : lkM l m = some v ↔ (m, v) ∈ l := by
  induction l with
  | nil => simp [lkM]
  | cons p l ih =>
    obtain ⟨k, u⟩ := p
    have ih := ih fun k v v' h1 h2 => hu k v v' (List.mem_cons_of_mem _ h1) (List.mem_cons_of_mem _ h2)
    unfold lkM
    by_cases e : m = k
    · subst e
      rw [if_pos rfl]
      constructor
      · intro h
        obtain rfl := Option.some.inj h
        simp
      · intro h
        rw [hu m u v (by simp) h]
    · rw [if_neg e, ih]
      constructor
      · exact fun h => List.mem_cons_of_mem _ h
      · intro h
        rcases List.mem_cons.1 h with h | h
        · exact absurd (congrArg Prod.fst h) e
        · exact h
theorem lkM_perm {l l' : List (Mk × Int)} (hu : ∀ k v v', (k, v) ∈ l' → (k, v') ∈ l' → v = v') (h : ∀ p, p ∈ l ↔ p ∈ l') (m : Mk) : lkM l m = lkM l' m := by
  refine Option.ext fun v => ?_
  rw [lkM_mem (fun k v v' h1 h2 => hu k v v' ((h _).1 h1) ((h _).1 h2)), lkM_mem hu, h]
theorem MvW.perm {b n : Nat} {l l' : List (Mk × Int)} {w : World} (hm : MvW b n l w) (hu : ∀ k v v', (k, v) ∈ l' → (k, v') ∈ l' → v = v') (h : ∀ p, p ∈ l ↔ p ∈ l') : MvW b n l' w := by
  obtain ⟨D, h1, h2, h3⟩ := hm
  exact ⟨D, h1, h2, fun m hm => by rw [← lkM_perm hu h m]; exact h3 m hm⟩
/-- All moves. -/
def mvL (x y : Int) : List (Mk × Int) := [((0, 1, false), 1), ((0, 1, true), x), ((1, 1, false), 1), ((1, 1, true), x), ((y, 1, false), y), ((y, 1, true), 4), ((1, 9, false), 1), ((y, 9, false), y), ((1, 0, false), 1), ((1, 0, true), x), ((y, 0, false), y), ((y, 0, true), 4), ((1, 3, false), 4), ((x, 3, false), 4), ((y, 3, false), 4), ((4, 3, false), 4), ((1, 8, false), 1), ((x, 8, false), x), ((y, 8, false), y), ((0, 2, false), 0), ((1, 2, false), 1), ((x, 2, false), x), ((y, 2, false), y), ((4, 2, false), 4)]
/-- Where each stands in the region. -/
def mvI (x y : Int) : List (Nat × Mk × Int) := [(2, (0, 1, false), 1), (5, (0, 1, true), x), (7, (1, 1, false), 1), (10, (1, 1, true), x), (14, (y, 1, false), y), (17, (y, 1, true), 4), (19, (1, 9, false), 1), (23, (y, 9, false), y), (25, (1, 0, false), 1), (28, (1, 0, true), x), (32, (y, 0, false), y), (35, (y, 0, true), 4), (37, (1, 3, false), 4), (40, (x, 3, false), 4), (43, (y, 3, false), 4), (45, (4, 3, false), 4), (47, (1, 8, false), 1), (51, (x, 8, false), x), (55, (y, 8, false), y), (57, (0, 2, false), 0), (59, (1, 2, false), 1), (63, (x, 2, false), x), (67, (y, 2, false), y), (69, (4, 2, false), 4)]
theorem mvI_map (x y : Int) : (mvI x y).map (·.2) = mvL x y := rfl
def mvP : List Nat := [2, 5, 7, 10, 14, 17, 19, 23, 25, 28, 32, 35, 37, 40, 43, 45, 47, 51, 55, 57, 59, 63, 67, 69]
theorem mvI_fst (x y : Int) : (mvI x y).map (·.1) = mvP := rfl
theorem mvP_nodup : mvP.Nodup := by decide
/-- What holds while some of them are still to come. -/
def MvB (b B : Nat) (w0 : World) (x y : Int) (pend : List Nat) (w : World) : Prop :=
  ∃ l n, MvW b n l w ∧ n + pend.length = 24 ∧ B ≤ w0.heap.size ∧ Below B w0 w ∧ ∀ p, p ∈ l ↔ ∃ i ∈ mvI x y, i.1 ∉ pend ∧ i.2 = p
/-- An operation of the bag. -/
def mvOp (ops : Array Oper) (a : Act) (i : Nat × Mk × Int) : Prop :=
  ∃ o x v, ops[i.1]? = some o ∧ o.guard = none ∧ o.dst = none ∧ o.op = Op.insert 141 (.tmp 5) x v ∧ a.eval x = mvV i.2.1 ∧ a.eval v = .int .i64 i.2.2
theorem mvB_step {ops : Array Oper} {Q : Exit → Act → World → Prop} {a : Act} {b B : Nat} {w0 : World} {x y : Int} (hb : a.eval (.tmp 5) = .map (some b)) (hB : B ≤ b)
    (hops : ∀ i ∈ mvI x y, mvOp ops a i) (hok : ∀ i ∈ mvI x y, mkOk i.2.1 ∧ (Lit.int .i64 i.2.2).wf = true)
    (pend : List Nat) (hnd : pend.Nodup) (hsub : ∀ p ∈ pend, p ∈ mvP) (p : Nat) (hp : p ∈ pend) (w : World) (hI : MvB b B w0 x y pend w) (K : Act → World → Prop) (hK : ∀ w', MvB b B w0 x y (pend.erase p) w' → K a w') :
    wpOp Try.prog ops Q p K a w := by
  obtain ⟨l, n, ⟨D, ho, hd⟩, hn24, hBs, hbl, hl⟩ := hI
  have hpI : p ∈ (mvI x y).map (·.1) := by rw [mvI_fst]; exact hsub p hp
  obtain ⟨i, hi, rfl⟩ := List.mem_map.1 hpI
  obtain ⟨o, kx, vx, e1, e2, e3, e4, e5, e6⟩ := hops i hi
  obtain ⟨k1, k2⟩ := hok i hi
  obtain ⟨w', hrun, r1, r2⟩ := ho.update mvLaw Try.underlying141 (by unfold maxLen; omega) (keyOf_mv i.2.1 k1) (plainElem_int Try.underlying3 k2)
  have hpos : 0 < pend.length := List.length_pos_of_mem hp
  unfold wpOp
  simp only [e1]
  rw [if_pos (by simp [Region.wanted, e2])]
  refine Or.inl ?_
  unfold Oper.wp
  simp [execOp, e4, hb, e5, e6, hrun, Result.andThen]
  show K (a.put o.dst undef) w'
  rw [e3]
  refine hK w' ⟨(i.2.1, i.2.2) :: l, n + 1, ⟨_, r1, hd.put i.2.1 k1 i.2.2⟩, by rw [List.length_erase_of_mem hp]; omega, hBs, hbl.grown r2 (Nat.le_trans hBs hbl.size) (fun j hj => by cases hj; exact hB), fun q => ?_⟩
  · rw [List.mem_cons, hl]
    constructor
    · rintro (rfl | ⟨j, hj, hjp, rfl⟩)
      · exact ⟨i, hi, fun h => ((List.Nodup.mem_erase_iff hnd).1 h).1 rfl, rfl⟩
      · exact ⟨j, hj, fun h => hjp (List.mem_of_mem_erase h), rfl⟩
    · rintro ⟨j, hj, hjp, rfl⟩
      by_cases e : j.1 = i.1
      · left
        have hinj : ∀ (L : List (Nat × Mk × Int)), (L.map (·.1)).Nodup → ∀ a ∈ L, ∀ b ∈ L, a.1 = b.1 → a = b := fun L => by
          induction L with
          | nil => intro _ a ha; cases ha
          | cons c L ih =>
            intro hn a ha b hb he
            rw [List.map_cons, List.nodup_cons] at hn
            rcases List.mem_cons.1 ha with rfl | ha2
            · rcases List.mem_cons.1 hb with rfl | hb2
              · rfl
              · exact (hn.1 (List.mem_map.2 ⟨b, hb2, he.symm⟩)).elim
            · rcases List.mem_cons.1 hb with rfl | hb2
              · exact (hn.1 (List.mem_map.2 ⟨a, ha2, he⟩)).elim
              · exact ih hn.2 a ha2 b hb2 he
        rw [hinj (mvI x y) (by rw [mvI_fst]; exact mvP_nodup) j hj i hi e]
      · right
        refine ⟨j, hj, fun h => hjp ((List.Nodup.mem_erase_iff hnd).2 ⟨e, h⟩), rfl⟩
end Go.Proofs.Ytenoaljghbpaaaa
