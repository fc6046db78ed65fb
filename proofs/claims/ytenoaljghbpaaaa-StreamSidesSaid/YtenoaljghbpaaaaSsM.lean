/-
  Contract of h2stream.moves: the map from moves to states.
-/
import Derived.Test.YtenoaljghbpaaaaSsMath
import Derived.Test.YtenoaljghbpaaaaFpB
import Derived.Test.YtenoaljghbpaaaaStep
import Derived.Maps.Own
import Derived.Maps.OwnOps
import Derived.Maps.OwnSet
import Derived.Maps.Views
import Derived.DeepKeys4
import Derived.ProofKit
import Derived.Handy
namespace Go.Proofs.Ytenoaljghbpaaaa
open Go.RowKit Go.Maps
set_option linter.unusedVariables false
set_option linter.unusedSimpArgs false

theorem mvLaidOut : laidOutB Try.prog = true := by kernel_rfl
theorem mvLaw : Keyed Try.prog 144 := Keyed.of_law (deep_law_laid mvLaidOut (m := 2) (by omega) (of_decide_eq_true (by kernel_rfl)) (by kernel_rfl) (by kernel_rfl))
/-- A move: a state, a type, whether it ends. -/
abbrev Mk := Int × Int × Bool
def mkOk (m : Mk) : Prop := (Lit.int .i64 m.1).wf = true ∧ (Lit.int .u8 m.2.1).wf = true
def kfM (m : Mk) : Lit := .string (keyBytes [.int .i64 m.1, .int .u8 m.2.1, .bool m.2.2])
def mvV (m : Mk) : Value := .agg #[.int .i64 m.1, .int .u8 m.2.1, .bool m.2.2]
theorem mvCells : Try.prog.cellsOf 144 = 3 := by kernel_rfl
theorem mvCells_i : Try.prog.cellsOf 3 = 1 := by kernel_rfl
theorem mvCells_u : Try.prog.cellsOf 5 = 1 := by kernel_rfl
theorem mvCells_b : Try.prog.cellsOf 4 = 1 := by kernel_rfl
theorem mvKey : Try.prog.keyType 144 = true := by kernel_rfl
theorem keyOf_mv (m : Mk) (h : mkOk m) : keyOf Try.prog 144 (mvV m) = some (kfM m) := by
  obtain ⟨s, k, e⟩ := m
  obtain ⟨h1, h2⟩ := h
  simp only at h1 h2
  have hi : ∀ (n : Nat), Try.prog.keyLits (n + 1) 3 [.int .i64 s] = some [.int .i64 s] := fun n => by
    unfold Program.keyLits
    simp only [Try.underlying3, h1, and_self, if_true]
  have hu : ∀ (n : Nat), Try.prog.keyLits (n + 1) 5 [.int .u8 k] = some [.int .u8 k] := fun n => by
    unfold Program.keyLits
    simp only [Try.underlying5, h2, and_self, if_true]
  have hb : ∀ (n : Nat), Try.prog.keyLits (n + 1) 4 [.bool e] = some [.bool e] := fun n => by
    unfold Program.keyLits
    simp only [Try.underlying4]
  unfold keyOf mvV
  simp only [Try.underlying144]
  obtain ⟨n, hn⟩ : ∃ n, Try.prog.types.size = n + 1 := ⟨Try.prog.types.size - 1, by kernel_rfl⟩
  rw [mvKey, hn]
  have hf : (Value.agg #[.int .i64 s, .int .u8 k, .bool e]).formed Try.prog 144 = true := by
    simp [Value.formed, Try.underlying144, mvCells]
  rw [hf]
  unfold Program.keyLits
  simp only [Try.underlying144]
  rw [if_pos (show (true && true) = true from rfl), if_pos ⟨by rw [mvCells]; rfl, by kernel_rfl⟩]
  simp only [List.mapM_cons, List.mapM_nil, mvCells_i, mvCells_u, mvCells_b, Value.cells, List.drop_zero, List.take_succ_cons, List.take_zero, List.drop_succ_cons, hi, hu, hb]
  rfl
theorem kfM_inj {f g : Mk} (hf : mkOk f) (hg : mkOk g) (h : kfM f = kfM g) : f = g := by
  have e := mvLaw.inj (keyOf_mv f hf) (by rw [h]; exact keyOf_mv g hg)
  obtain ⟨f1, f2, f3⟩ := f
  obtain ⟨g1, g2, g3⟩ := g
  simp only [mvV, Value.agg.injEq, Array.mk.injEq, List.cons.injEq, Value.int.injEq, Value.bool.injEq] at e
  rw [e.1.2, e.2.1.2, e.2.2.1]
theorem kfM_key (f : Mk) (h : mkOk f) : WideAt.IsKeyLit (kfM f) := mvLaw.key (keyOf_mv f h)
/-- What a list of moves says of one. -/
def lkM : List (Mk × Int) → Mk → Option Int
  | [], _ => none
  | (k, v) :: l, m => if m = k then some v else lkM l m
/-- The map tells what the list says. -/
def MvD (l : List (Mk × Int)) (D : DataW Unit) : Prop :=
  IsMap D ∧ ∀ m, mkOk m → Maps.has D (kfM m) = (lkM l m).isSome ∧ D.atKey (kfM m) (.lit (.int .i64 0)) = .lit (.int .i64 ((lkM l m).getD 0))
theorem MvD.zero : MvD [] (.map []) := ⟨isMap_empty, fun m _ => ⟨by simp [Maps.has, lkM], by simp [DataW.atKey, lkM]⟩⟩
theorem MvD.put {l : List (Mk × Int)} {D : DataW Unit} (h : MvD l D) (k : Mk) (hk : mkOk k) (v : Int) : MvD ((k, v) :: l) (D.put (kfM k) (.lit (.int .i64 v))) := by
  obtain ⟨h0, h1⟩ := h
  refine ⟨h0.put _ _, fun m hm => ?_⟩
  by_cases e : m = k
  · subst e
    rw [has_put_same h0 (kfM_key _ hm), atKey_put_same h0 (kfM_key _ hm)]
    simp [lkM]
  · rw [has_put_other (fun e2 => e (kfM_inj hm hk e2)), atKey_put_other (fun e2 => e (kfM_inj hm hk e2))]
    simp only [lkM, if_neg e]
    exact h1 m hm
def MvW (b n : Nat) (l : List (Mk × Int)) (w : World) : Prop := ∃ D, w.ownsMap Try.prog 144 (plainElem Try.prog 3) b n D ∧ MvD l D
theorem MvW.look {b n : Nat} {l : List (Mk × Int)} {w : World} (h : MvW b n l w) (m : Mk) (hm : mkOk m) :
    (Instr.lookup 141 (.map (some b)) (mvV m) true).run Try.prog w = .ok (.tuple #[.int .i64 ((lkM l m).getD 0), .bool (lkM l m).isSome]) w := by
  obtain ⟨D, ho, h0, h1⟩ := h
  have hz : (zeroValue 3).run Try.prog w = .ok (.int .i64 0) w := by kernel_rfl
  obtain ⟨v, ps, hrun, hv⟩ := ho.look_ok mvLaw Try.underlying141 hz (plainElem_int Try.underlying3 (by decide)) (keyOf_mv m hm)
  obtain ⟨c, rfl, hc, hw⟩ := plainElem_int_inv Try.underlying3 hv
  obtain ⟨e1, e2⟩ := h1 m hm
  rw [e2] at hc
  simp only [Prod.mk.injEq, DataW.lit.injEq, Lit.int.injEq, true_and] at hc
  rw [hrun, e1, ← hc.1]
theorem MvW.lt {b n : Nat} {l : List (Mk × Int)} {w : World} (h : MvW b n l w) : b < w.heap.size := by
  obtain ⟨D, ho, _⟩ := h
  exact ho.lt
theorem MvW.keep {b n : Nat} {l : List (Mk × Int)} {w w' : World} {B : Nat} (h : MvW b n l w) (hb : Below B w w') (hlt : b < B) : MvW b n l w' := by
  obtain ⟨D, ho, hd⟩ := h
  obtain ⟨es, clock, hbk, rest⟩ := ho
  exact ⟨D, ⟨es, clock, by rw [hb.block b hlt]; exact hbk, rest⟩, hd⟩
theorem wpList_insert_mv {w : World} {ops : Array Oper} {rest : List Oper} {o : Oper} {a : Act} {Q : Exit → Act → World → Prop}
    (hg : o.guard = none) (m x v : Operand) (hop : o.op = Op.insert 141 m x v) (b n : Nat) (l : List (Mk × Int)) (hm : a.eval m = .map (some b)) (h : MvW b n l w) (hn : n < 1000)
    (k : Mk) (y : Int) (hx : a.eval x = mvV k) (hv : a.eval v = .int .i64 y) (hk : mkOk k) (hy : (Lit.int .i64 y).wf = true)
    (hK : ∀ w', MvW b (n + 1) ((k, y) :: l) w' → w.grownBy w' (some b) → wpList Try.prog ops Q rest (a.put o.dst undef) w') : wpList Try.prog ops Q (o :: rest) a w := by
  obtain ⟨D, ho, hd⟩ := h
  refine wpList_plain hg fun K' hK' => ?_
  obtain ⟨w', hrun, r1, r2⟩ := ho.update mvLaw Try.underlying141 (by unfold maxLen; omega) (keyOf_mv k hk) (plainElem_int Try.underlying3 hy)
  unfold Oper.wp
  simp [execOp, hop, hm, hx, hv, hrun, Result.andThen]
  exact hK' _ _ (hK w' ⟨_, r1, hd.put k hk y⟩ r2)
end Go.Proofs.Ytenoaljghbpaaaa
