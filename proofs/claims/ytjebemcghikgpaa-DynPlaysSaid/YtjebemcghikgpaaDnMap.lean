/-
  Maps from fields, or from names, to the number of the newest one.
-/
import Derived.Test.YtjebemcghikgpaaDnSt
import Derived.Test.YtjebemcghikgpaaDnMath
import Derived.Maps.Own
import Derived.Maps.OwnOps
import Derived.Maps.OwnSet
import Derived.Maps.Views
import Derived.DeepKeys4
import Derived.ProofKit
namespace Go.Proofs.Ytjebemcghikgpaa
open Go.RowKit Go.Maps
set_option linter.unusedVariables false

theorem fdLaidOut : laidOutB Try.prog = true := by kernel_rfl
theorem fdLaw : Keyed Try.prog 24 := Keyed.of_law (deep_law_laid fdLaidOut (m := 2) (by omega) (of_decide_eq_true (by kernel_rfl)) (by kernel_rfl) (by kernel_rfl))
theorem stLaw : Keyed Try.prog 9 := string_keyed Try.underlying9

/-- What a field reads as, as a key. -/
def kf (f : Fd) : Lit := .string (keyBytes [.string f.1.data.toList, .string f.2.data.toList])
def ks (s : ByteArray) : Lit := .string s.data.toList
def Sized (f : Fd) : Prop := f.1.size ≤ maxLen ∧ f.2.size ≤ maxLen
def Short (s : ByteArray) : Prop := s.size ≤ maxLen

theorem fdCells : Try.prog.cellsOf 24 = 2 := by kernel_rfl
theorem fdStr : Try.prog.cellsOf 9 = 1 := by kernel_rfl
theorem fdKey : Try.prog.keyType 24 = true := by kernel_rfl
theorem keyOf_fd (f : Fd) (h : Sized f) : keyOf Try.prog 24 (.agg #[.string f.1, .string f.2]) = some (kf f) := by
  obtain ⟨f1, f2⟩ := f
  obtain ⟨h1, h2⟩ := h
  simp only at h1 h2
  have hs : ∀ (n : Nat) (s : ByteArray), s.size ≤ maxLen → Try.prog.keyLits (n + 1) 9 [.string s] = some [.string s.data.toList] := fun n s hs => by
    unfold Program.keyLits
    simp only [Try.underlying9, if_pos hs]
  unfold keyOf
  simp only [Try.underlying24]
  obtain ⟨n, hn⟩ : ∃ n, Try.prog.types.size = n + 1 := ⟨Try.prog.types.size - 1, by kernel_rfl⟩
  rw [fdKey, hn]
  have hf : (Value.agg #[.string f1, .string f2]).formed Try.prog 24 = true := by
    simp [Value.formed, Try.underlying24, fdCells]
  rw [hf]
  unfold Program.keyLits
  simp only [Try.underlying24]
  rw [if_pos (show (true && true) = true from rfl), if_pos ⟨by rw [fdCells]; rfl, by kernel_rfl⟩]
  simp only [List.mapM_cons, List.mapM_nil, fdStr, Value.cells, List.drop_zero, List.take_succ_cons, List.take_zero, List.drop_succ_cons, hs _ _ h1, hs _ _ h2]
  rfl
theorem kf_inj (f g : Fd) (hf : Sized f) (hg : Sized g) (h : kf f = kf g) : f = g := by
  have e := fdLaw.inj (keyOf_fd f hf) (by rw [h]; exact keyOf_fd g hg)
  obtain ⟨f1, f2⟩ := f
  obtain ⟨g1, g2⟩ := g
  simp only [Value.agg.injEq, Array.mk.injEq, List.cons.injEq, Value.string.injEq] at e
  rw [e.1, e.2.1]
theorem kf_key (f : Fd) (h : Sized f) : WideAt.IsKeyLit (kf f) := fdLaw.key (keyOf_fd f h)
theorem keyOf_st (s : ByteArray) (h : Short s) : keyOf Try.prog 9 (.string s) = some (ks s) := WideMaps.keyOf_string_mk (P := Try.prog) Try.underlying9 h
theorem ks_inj (f g : ByteArray) (hf : Short f) (hg : Short g) (h : ks f = ks g) : f = g := by
  have e := stLaw.inj (keyOf_st f hf) (by rw [h]; exact keyOf_st g hg)
  exact Value.string.inj e
theorem ks_key (s : ByteArray) (h : Short s) : WideAt.IsKeyLit (ks s) := stLaw.key (keyOf_st s h)

/-- The map tells of each key which one is the newest that has it. -/
def Mp {κ : Type} [DecidableEq κ] (kl : κ → Lit) (ok : κ → Prop) (pr : Fd → κ) (b : Nat) (l : List Fd) (D : DataW Unit) : Prop :=
  IsMap D ∧ ∀ k, ok k → Maps.has D (kl k) = (nw (fun g => decide (pr g = k)) b l).isSome ∧ D.atKey (kl k) (.lit (.int .u64 0)) = .lit (.int .u64 (((nw (fun g => decide (pr g = k)) b l).getD 0 : Nat) : Int))

section
variable {κ : Type} [DecidableEq κ] {kl : κ → Lit} {ok : κ → Prop} {pr : Fd → κ} {b : Nat} {l : List Fd} {f : Fd} {D : DataW Unit}
theorem Mp.nil (kl : κ → Lit) (ok : κ → Prop) (pr : Fd → κ) (b : Nat) : Mp kl ok pr b [] (.map []) := ⟨isMap_empty, fun k _ => by simp [nw, Maps.has, DataW.atKey]⟩
theorem Mp.put (hi : ∀ k k', ok k → ok k' → kl k = kl k' → k = k') (hk : ∀ k, ok k → WideAt.IsKeyLit (kl k)) (h : Mp kl ok pr b l D) (hf : ok (pr f)) {c : Nat} (hc : c = b + l.length) : Mp kl ok pr b (l ++ [f]) (D.put (kl (pr f)) (.lit (.int .u64 (c : Int)))) := by
  subst hc
  obtain ⟨h0, h1⟩ := h
  refine ⟨h0.put _ _, fun k hok => ?_⟩
  rw [nw_snoc]
  by_cases he : pr f = k
  · subst he
    rw [has_put_same h0 (hk _ hf), atKey_put_same h0 (hk _ hf)]
    simp
  · have hne : kl k ≠ kl (pr f) := fun e => he (hi _ _ hok hf e).symm
    rw [has_put_other hne, atKey_put_other hne]
    simp only [he, decide_false, Bool.false_eq_true, if_false]
    exact h1 k hok
theorem Mp.last (hi : ∀ k k', ok k → ok k' → kl k = kl k' → k = k') (h : Mp kl ok pr b (f :: l) D) (hf : ok (pr f)) (hb : (nw (fun g => decide (pr g = pr f)) b (f :: l)).getD 0 = b) : Mp kl ok pr (b + 1) l (D.del (kl (pr f))) := by
  obtain ⟨h0, h1⟩ := h
  refine ⟨h0.del _, fun k hok => ?_⟩
  by_cases he : pr f = k
  · subst he
    obtain ⟨a, ha⟩ := nw_hit (fun g => decide (pr g = pr f)) b f l (by simp)
    rw [ha] at hb
    simp only [Option.getD_some] at hb
    rw [hb] at ha
    rw [has_del_same, atKey_del_same, nw_last _ b f l (by simp) ha]
    simp
  · have hne : kl k ≠ kl (pr f) := fun e => he (hi _ _ hok hf e).symm
    rw [has_del_other hne, atKey_del_other hne, (h1 k hok).1, (h1 k hok).2, nw_miss _ _ _ _ (by simp [he])]
    exact ⟨rfl, rfl⟩
theorem Mp.more (h : Mp kl ok pr b (f :: l) D) (hb : (nw (fun g => decide (pr g = pr f)) b (f :: l)).getD 0 ≠ b) : Mp kl ok pr (b + 1) l D := by
  obtain ⟨h0, h1⟩ := h
  refine ⟨h0, fun k hok => ?_⟩
  rw [(h1 k hok).1, (h1 k hok).2]
  by_cases he : pr f = k
  · subst he
    obtain ⟨a, ha⟩ := nw_hit (fun g => decide (pr g = pr f)) b f l (by simp)
    rw [ha] at hb ⊢
    rw [nw_more _ b a f l ha (by simpa using hb)]
    exact ⟨rfl, rfl⟩
  · rw [nw_miss _ _ _ _ (by simp [he])]
    exact ⟨rfl, rfl⟩
end

theorem zeroU64 (w : World) : (zeroValue 25).run Try.prog w = .ok (.int .u64 0) w := by kernel_rfl

def hasF (f : Fd) : Fd → Bool := fun g => decide (g = f)
def hasN (s : ByteArray) : Fd → Bool := fun g => decide (g.1 = s)
/-- Look-ups in the two maps, as equations. -/
theorem lookW {w : World} {b n m : Nat} {l : List Fd} {D : DataW Unit} (ho : w.ownsMap Try.prog 24 (plainElem Try.prog 25) b n D) (h : Mp kf Sized id m l D) {f : Fd} (hf : Sized f) :
    (Instr.lookup 53 (.map (some b)) (.agg #[.string f.1, .string f.2]) false).run Try.prog w = .ok (.int .u64 (((nw (hasF f) m l).getD 0 : Nat) : Int)) w := by
  obtain ⟨c, hrun, hc, _⟩ := ho.lookup_int fdLaw Try.underlying53 Try.underlying25 (zeroU64 w) (keyOf_fd f hf)
  rw [(h.2 f hf).2] at hc
  simp only [DataW.lit.injEq, Lit.int.injEq, true_and] at hc
  rw [hrun, ← hc]
  rfl
theorem lookN {w : World} {b n m : Nat} {l : List Fd} {D : DataW Unit} (ho : w.ownsMap Try.prog 9 (plainElem Try.prog 25) b n D) (h : Mp ks Short Prod.fst m l D) {s : ByteArray} (hf : Short s) :
    (Instr.lookup 54 (.map (some b)) (.string s) false).run Try.prog w = .ok (.int .u64 (((nw (hasN s) m l).getD 0 : Nat) : Int)) w := by
  obtain ⟨c, hrun, hc, _⟩ := ho.lookup_int stLaw Try.underlying54 Try.underlying25 (zeroU64 w) (keyOf_st s hf)
  rw [(h.2 s hf).2] at hc
  simp only [DataW.lit.injEq, Lit.int.injEq, true_and] at hc
  rw [hrun, ← hc]
  rfl
theorem lookWok {w : World} {b n m : Nat} {l : List Fd} {D : DataW Unit} (ho : w.ownsMap Try.prog 24 (plainElem Try.prog 25) b n D) (h : Mp kf Sized id m l D) {f : Fd} (hf : Sized f) :
    (Instr.lookup 53 (.map (some b)) (.agg #[.string f.1, .string f.2]) true).run Try.prog w = .ok (.tuple #[.int .u64 (((nw (hasF f) m l).getD 0 : Nat) : Int), .bool (nw (hasF f) m l).isSome]) w := by
  obtain ⟨v, ps, hrun, hv⟩ := ho.look_ok fdLaw Try.underlying53 (zeroU64 w) (plainElem_int Try.underlying25 (by decide)) (keyOf_fd f hf)
  obtain ⟨c, rfl, hc, hw⟩ := plainElem_int_inv Try.underlying25 hv
  simp only [Prod.mk.injEq] at hc
  have hc := hc.1
  rw [(h.2 f hf).2] at hc
  simp only [DataW.lit.injEq, Lit.int.injEq, true_and] at hc
  rw [hrun, ← hc, (h.2 f hf).1]
  rfl
theorem lookNok {w : World} {b n m : Nat} {l : List Fd} {D : DataW Unit} (ho : w.ownsMap Try.prog 9 (plainElem Try.prog 25) b n D) (h : Mp ks Short Prod.fst m l D) {s : ByteArray} (hf : Short s) :
    (Instr.lookup 54 (.map (some b)) (.string s) true).run Try.prog w = .ok (.tuple #[.int .u64 (((nw (hasN s) m l).getD 0 : Nat) : Int), .bool (nw (hasN s) m l).isSome]) w := by
  obtain ⟨v, ps, hrun, hv⟩ := ho.look_ok stLaw Try.underlying54 (zeroU64 w) (plainElem_int Try.underlying25 (by decide)) (keyOf_st s hf)
  obtain ⟨c, rfl, hc, hw⟩ := plainElem_int_inv Try.underlying25 hv
  simp only [Prod.mk.injEq] at hc
  have hc := hc.1
  rw [(h.2 s hf).2] at hc
  simp only [DataW.lit.injEq, Lit.int.injEq, true_and] at hc
  rw [hrun, ← hc, (h.2 s hf).1]
  rfl

end Go.Proofs.Ytjebemcghikgpaa
