/-
  Contract of static.places: the map from rows to their places.
-/
import Derived.Test.YtnmjnolfoaengaaStG
import Derived.Maps.Own
import Derived.Maps.OwnOps
import Derived.Maps.OwnSet
import Derived.Maps.Views
import Derived.DeepKeys4
import Derived.ProofKit
namespace Go.Proofs.Ytnmjnolfoaengaa
open Go.RowKit Go.Maps
set_option linter.unusedVariables false

theorem rowLaidOut : laidOutB Try.prog = true := by kernel_rfl
theorem rowLaw : Keyed Try.prog 43 := Keyed.of_law (deep_law_laid rowLaidOut (m := 2) (by omega) (of_decide_eq_true (by kernel_rfl)) (by kernel_rfl) (by kernel_rfl))

/-- What a row reads as, as a key. -/
def kf (f : Fd) : Lit := .string (keyBytes [.string f.1.data.toList, .string f.2.data.toList])
def Sized (f : Fd) : Prop := f.1.size ≤ maxLen ∧ f.2.size ≤ maxLen

theorem rowCells : Try.prog.cellsOf 43 = 2 := by kernel_rfl
theorem rowStr : Try.prog.cellsOf 9 = 1 := by kernel_rfl
theorem rowKey : Try.prog.keyType 43 = true := by kernel_rfl
theorem keyOf_fd (f : Fd) (h : Sized f) : keyOf Try.prog 43 (.agg #[.string f.1, .string f.2]) = some (kf f) := by
  obtain ⟨f1, f2⟩ := f
  obtain ⟨h1, h2⟩ := h
  simp only at h1 h2
  have hs : ∀ (n : Nat) (s : ByteArray), s.size ≤ maxLen → Try.prog.keyLits (n + 1) 9 [.string s] = some [.string s.data.toList] := fun n s hs => by
    unfold Program.keyLits
    simp only [Try.underlying9, if_pos hs]
  unfold keyOf
  simp only [Try.underlying43]
  obtain ⟨n, hn⟩ : ∃ n, Try.prog.types.size = n + 1 := ⟨Try.prog.types.size - 1, by kernel_rfl⟩
  rw [rowKey, hn]
  have hf : (Value.agg #[.string f1, .string f2]).formed Try.prog 43 = true := by
    simp [Value.formed, Try.underlying43, rowCells]
  rw [hf]
  unfold Program.keyLits
  simp only [Try.underlying43]
  rw [if_pos (show (true && true) = true from rfl), if_pos ⟨by rw [rowCells]; rfl, by kernel_rfl⟩]
  simp only [List.mapM_cons, List.mapM_nil, rowStr, Value.cells, List.drop_zero, List.take_succ_cons, List.take_zero, List.drop_succ_cons, hs _ _ h1, hs _ _ h2]
  rfl

theorem kf_inj {f g : Fd} (hf : Sized f) (hg : Sized g) (h : kf f = kf g) : f = g := by
  have e := rowLaw.inj (keyOf_fd f hf) (by rw [h]; exact keyOf_fd g hg)
  obtain ⟨f1, f2⟩ := f
  obtain ⟨g1, g2⟩ := g
  simp only [Value.agg.injEq, Array.mk.injEq, List.cons.injEq, Value.string.injEq] at e
  rw [e.1, e.2.1]
theorem kf_key (f : Fd) (h : Sized f) : WideAt.IsKeyLit (kf f) := rowLaw.key (keyOf_fd f h)

/-- The map tells where each of the first k stands, and nothing else. -/
def PlD (l : List Fd) (k : Nat) (D : DataW Unit) : Prop :=
  IsMap D ∧ (∀ f, Sized f → Maps.has D (kf f) = (l.take k).any (fun g => decide (g = f))) ∧ ∀ i (hi : i < k) (hl : i < l.length), D.atKey (kf l[i]) (.lit (.int .i64 0)) = .lit (.int .i64 (i : Int))

theorem PlD.zero (l : List Fd) : PlD l 0 (.map []) := ⟨isMap_empty, fun f _ => by simp [Maps.has], fun i hi => absurd hi (Nat.not_lt_zero _)⟩

theorem PlD.succ {l : List Fd} (hn : l.Nodup) (hs : ∀ f ∈ l, Sized f) {k : Nat} {D : DataW Unit} (h : PlD l k D) (hk : k < l.length) : PlD l (k + 1) (D.put (kf l[k]) (.lit (.int .i64 (k : Int)))) := by
  obtain ⟨h0, h1, h2⟩ := h
  have hsk := hs l[k] (List.getElem_mem hk)
  refine ⟨h0.put _ _, fun f hf => ?_, fun i hi hl => ?_⟩
  · rw [List.take_succ_eq_append_getElem hk]
    by_cases he : f = l[k]
    · rw [he, has_put_same h0 (kf_key _ hsk), List.any_append]
      simp
    · rw [has_put_other (fun e => he (kf_inj hf hsk e)), h1 f hf, List.any_append]
      simp
      exact fun e => absurd e.symm he
  · by_cases he : i = k
    · subst he
      rw [atKey_put_same h0 (kf_key _ hsk)]
    · rw [atKey_put_other (fun e => he (nodup_idx hn hl hk (kf_inj (hs _ (List.getElem_mem hl)) hsk e)))]
      exact h2 i (by omega) hl

set_option maxRecDepth 100000 in
set_option maxHeartbeats 1000000 in
theorem places_any (v : Value) (l : List Fd) (w : World) (hv : Fs w v l) (hl : l.length ≤ 1000) (hn : l.Nodup) (hs : ∀ f ∈ l, Sized f) :
    Calls Try.prog 21 #[v] w fun e w' => ∃ D, e = .returned (.map (some w.heap.size)) ∧ w'.ownsMap Try.prog 43 (plainElem Try.prog 3) w.heap.size l.length D ∧ PlD l l.length D ∧ Below w.heap.size w w' := by
  have hmm : ∀ (n : Nat) (W : World), (Instr.makeMap 47 (some (.int .i64 (n : Int)))).run Try.prog W = .ok (.map (some W.heap.size)) (W.alloc (.map #[] 0)) := fun n W => by
    simp [Instr.makeMap, run_underlying Try.underlying47, Sem.run_bind, asInt, asIntOf, Result.andThen]
  have HV := Bx.mk hv
  have HN := Bx.mk hn
  have HS := Bx.mk hs
  have hlen := fun ty W => hv.row_len ty W
  clear hv hn hs
  go_enter Try.func21, Try.ntmps21
  go_wp2
  go_loopg [11] l.length (fun n s11 wx => ∃ (k : Nat) (D : DataW Unit), k + n = l.length ∧ s11 = .int .i64 k ∧ Bx (wx.ownsMap Try.prog 43 (plainElem Try.prog 3) w.heap.size k D) ∧ Bx (PlD l k D) ∧ Bx (Below w.heap.size w wx))
  case atStart => exact ⟨0, _, by omega, rfl, ⟨World.ownsMap_made _ _ _ _⟩, ⟨PlD.zero l⟩, ⟨(Below.refl _ _).alloc (Nat.le_refl _) _⟩⟩
  case round =>
    obtain ⟨k, D, hkg, rfl, HO, HP, HB⟩ := hrel
    cases gk with
    | zero =>
      obtain rfl : k = l.length := by omega
      go_wp2
      go_ret
      exact ⟨_, rfl, HO.out, HP.out, HB.out⟩
    | succ n =>
      have hk : k < l.length := by omega
      obtain ⟨b, o, hix, hcs⟩ := HV.out.row_at k hk
      obtain ⟨hc1, hc2⟩ := hcs wr (HV.out.keep HB.out)
      have HK := Bx.mk hk
      have HKY := Bx.mk (keyOf_fd l[k] (HS.out _ (List.getElem_mem hk)))
      obtain ⟨f1, hf1⟩ : ∃ f1, l[k].1 = f1 := ⟨_, rfl⟩
      obtain ⟨f2, hf2⟩ : ∃ f2, l[k].2 = f2 := ⟨_, rfl⟩
      rw [hf1, hf2] at HKY
      rw [hf1] at hc1
      rw [hf2] at hc2
      have hBs := HB.out.size
      clear hcs hf1 hf2
      go_wp2_with (first | (at_mapUpdate; refine wpList_mapUpdate_own _ rfl _ _ _ 47 rfl 43 3 rowLaw Try.underlying47 _ w.heap.size k _ rfl (HO.out.alloc _) (by unfold maxLen; omega) _ _ _ rfl rfl HKY.out _ [] (plainElem_int Try.underlying3 (WalkArith.wf_i64 (by omega))) ?_; intro w1 hown1 hgrow1))
      have HO1 := Bx.mk hown1
      have HB1 := Bx.mk ((HB.out.alloc hBs _).grown hgrow1 (HB.out.alloc hBs _).size (fun j hj => by cases hj; exact Nat.le_refl _))
      clear hown1 hgrow1
      go_wp2
      go_roundg n
      case measure => omega
      case rel => exact ⟨k + 1, _, by omega, by go_num, HO1, ⟨PlD.succ HN.out HS.out HP.out HK.out⟩, HB1⟩

end Go.Proofs.Ytnmjnolfoaengaa
