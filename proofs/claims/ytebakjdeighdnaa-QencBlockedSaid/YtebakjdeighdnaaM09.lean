/-
  Texts put together: QnA, QpW, QpA, QpE, QpF, QnB, QnC, QpB, QnD, StFds, StG, StK, StC0.
-/
import Derived.Test.YtebakjdeighdnaaM08
import Derived.Test.YtebakjdeighdnaaM06
import Derived.Test.YtebakjdeighdnaaM04
import Derived.Test.YtebakjdeighdnaaM07
import Derived.BigRegion
import Derived.BigQuiet
import Derived.Lib.MinMax
import Derived.Deep.QuietTactic
import Derived.Deep.RegionWith
import Derived.Handy
import Derived.Test.YtebakjdeighdnaaM05
import Derived.Test.YtebakjdeighdnaaM03
import Derived.WalkKit
import Derived.WalkSpells
import Derived.WalkLawsBesides
import Derived.Lib.Hide
import Derived.IntWalk
import Derived.RegionTactic
import Derived.Deep.LoopGhost
import Derived.Lib.Strings
import Derived.Deep.WholeRow

/-
  Slices of numbers of 64 bits; sections; what is read alone, as a word; the document's QPACK encoder as a word.
-/
namespace Go.Proofs.Ytebakjdeighdnaa
open Go.RowKit Go.Maps
set_option linter.unusedVariables false
set_option linter.unusedSimpArgs false

/-! ### numbers of 64 bits -/
def uN (n : Nat) : Value := .int .u64 (n : Int)
def Un (w : World) (v : Value) (ns : List Nat) : Prop := Rd w v (ns.map uN)
theorem Un.keep {w w' : World} {v : Value} {ns : List Nat} (h : Un w v ns) (hb : Below w.heap.size w w') : Un w' v ns := Rd.keep h hb
theorem Un.run_len {w : World} {v : Value} {ns : List Nat} (h : Un w v ns) (ty : TypeId) (W : World) : (Builtin.len_ #[49] ty #[v]).run Try.prog W = .ok (.int .i64 (ns.length : Int)) W := by
  obtain ⟨A, c, rfl, h1, h2, h3⟩ := h
  simp [Builtin.len_, run_underlying Try.underlying49, goInt]
theorem Un.at_ {w : World} {v : Value} {ns : List Nat} (h : Un w v ns) (i : Nat) (hi : i < ns.length) :
    ∃ b o : Nat, (∀ W : World, (Instr.indexAt 49 v (.int .i64 (i : Int))).run Try.prog W = .ok (.pointer (some ⟨b, o, none⟩)) W) ∧ ∀ W : World, Un W v ns → W.cell? ⟨b, o, none⟩ = some (.int .u64 (ns[i] : Int)) := by
  obtain ⟨b, o, c, rfl, h1, h2, h3, hc⟩ := Rd.at_ h (by simp; omega)
  refine ⟨b, o + i, fun W => ?_, fun W hW => ?_⟩
  · simp [Instr.indexAt, asIntOf, run_underlying Try.underlying49, List.length_map, Sem.run_bind, hi, Result.andThen]
    simp [Addr.add]
  · obtain ⟨b', o', c', e, _, _, _, hc'⟩ := Rd.at_ hW (by simp; omega)
    injection e with e1 e2 e3
    injection e1 with e1
    injection e1 with e1 e4
    subst e1; subst e4
    exact hc' i _ (by simp [hi, uN])
theorem Un.shape {w : World} {v : Value} {ns : List Nat} (h : Un w v ns) : ∃ A n c, v = .slice A n c := by
  obtain ⟨A, c, rfl, _⟩ := h
  exact ⟨_, _, _, rfl⟩

/-! ### sections -/
def scl (p : Qs × Value) : List Value := [.int .u64 (p.1.s : Int), .int .u64 (p.1.c : Int), p.2]
theorem scl_length (l : List (Qs × Value)) : (l.flatMap scl).length = l.length * 3 := by
  induction l with
  | nil => rfl
  | cons a l ih => rw [List.flatMap_cons, List.length_append, ih]; simp [scl]; omega
theorem scl_at (l : List (Qs × Value)) (i j : Nat) (h : i < l.length) (hj : j < 3) : (l.flatMap scl)[i * 3 + j]? = (scl l[i])[j]? := by
  induction l generalizing i with
  | nil => simp at h
  | cons a l ih =>
    rw [List.flatMap_cons]
    cases i with
    | zero => rw [Nat.zero_mul, Nat.zero_add, List.getElem?_append_left (by simpa [scl] using hj)]; rfl
    | succ i =>
      have := ih i (by simpa using h)
      have e1 : (i + 1) * 3 + j = (scl a).length + (i * 3 + j) := by simp [scl]; omega
      rw [e1, List.getElem?_append_right (by omega), Nat.add_sub_cancel_left]
      simpa using this
/-- The value reads as these sections. -/
def Sr (w : World) (v : Value) (ps : List (Qs × Value)) : Prop := Rn 3 w v ps.length (ps.flatMap scl) ∧ ∀ p ∈ ps, Un w p.2 p.1.u
def Sx (w : World) (v : Value) (op : List Qs) : Prop := ∃ ps, ps.map Prod.fst = op ∧ Sr w v ps
theorem Sr.keep {w w' : World} {v : Value} {ps : List (Qs × Value)} (h : Sr w v ps) (hb : Below w.heap.size w w') : Sr w' v ps := ⟨Rn.keep h.1 hb, fun p hp => (h.2 p hp).keep hb⟩
theorem Sx.keep {w w' : World} {v : Value} {op : List Qs} (h : Sx w v op) (hb : Below w.heap.size w w') : Sx w' v op := by
  obtain ⟨ps, e, h⟩ := h
  exact ⟨ps, e, h.keep hb⟩
theorem Sr.nil (w : World) : Sr w (.slice none 0 0) [] := ⟨Rn.nil 3 w, fun p hp => nomatch hp⟩

/-! ### what is only read -/
/-- Blocks on which a fact rests. -/
def Ob (P : World → Prop) : Wx := fun w S => (∀ k, S k → k < w.heap.size) ∧ ∀ W, w.heap.size ≤ W.heap.size → (∀ k, S k → W.heap[k]? = w.heap[k]?) → P W
theorem Wd.ob (P : World → Prop) : Wd (Ob P) := by
  constructor
  · rintro w S ⟨h1, h2⟩ k hk
    exact h1 k hk
  · rintro w w' S ⟨h1, h2⟩ hs hb
    exact ⟨fun k hk => Nat.lt_of_lt_of_le (h1 k hk) hs, fun W hW hk => h2 W (Nat.le_trans hs hW) fun k h => by rw [hk k h, hb k h]⟩
theorem Ob.get {P : World → Prop} {w : World} {S : Nat → Prop} (h : Ob P w S) : P w := h.2 w (Nat.le_refl _) fun _ _ => rfl
theorem Ob.map {P Q : World → Prop} {w : World} {S : Nat → Prop} (h : Ob P w S) (hpq : ∀ W, P W → Q W) : Ob Q w S := ⟨h.1, fun W a b => hpq W (h.2 W a b)⟩
theorem Ob.and {P Q : World → Prop} {w : World} {S S' : Nat → Prop} (h : Ob P w S) (h' : Ob Q w S') : Ob (fun W => P W ∧ Q W) w (fun k => S k ∨ S' k) :=
  ⟨fun k hk => hk.elim (h.1 k) (h'.1 k), fun W a b => ⟨h.2 W a fun k hk => b k (.inl hk), h'.2 W a fun k hk => b k (.inr hk)⟩⟩
theorem Ob.mono {P : World → Prop} {w : World} {S S' : Nat → Prop} (h : Ob P w S) (hs : ∀ k, S k → S' k) (hl : ∀ k, S' k → k < w.heap.size) : Ob P w S' :=
  ⟨hl, fun W a b => h.2 W a fun k hk => b k (hs k hk)⟩
theorem Ob.none {P : World → Prop} {w : World} (h : ∀ W, P W) : Ob P w (fun _ => False) := ⟨fun k hk => hk.elim, fun W _ _ => h W⟩
/-- A row of its own rests on its block. -/
theorem Ob.own {w : World} {B k : Nat} {e : TypeId} {v : Value} {n : Nat} {xs : List Value} (h : w.ownsRow B e k v n xs) : Ob (fun W => Rn k W v n xs) w (fun g => v.ownBlock = some g) := by
  refine ⟨fun g hg => ?_, fun W hW hk => ?_⟩
  · rcases h.2 with ⟨rfl, _⟩ | ⟨g', cap, cur, rfl, _, hh, _⟩
    · simp [Value.ownBlock] at hg
    · simp only [Value.ownBlock, Option.some.injEq] at hg
      subst hg
      exact (Array.getElem?_eq_some_iff.1 hh).1
  · have h' : W.ownsRow B e k v n xs := by
      refine ⟨h.1, ?_⟩
      rcases h.2 with h0 | ⟨g', cap, cur, rfl, hg, hh, rest⟩
      · exact .inl h0
      · exact .inr ⟨g', cap, cur, rfl, hg, by rw [hk g' rfl]; exact hh, rest⟩
    exact Rn.of_own h'
theorem Rd.of_rn {w : World} {v : Value} {xs : List Value} (h : Rn 1 w v xs.length xs) : Rd w v xs := by
  obtain ⟨A, c, rfl, h1, h2, _, h3⟩ := h
  exact ⟨A, c, rfl, h1, h2, h3⟩

/-! ### the document's encoder -/
def e8F (t : Nat) (E : Qe) (vO vR : Value) (i : Nat) : Value :=
  if i = 0 then .pointer (some ⟨t, 0, none⟩) else if i = 1 then .int .i64 (E.B : Int) else if i = 2 then .int .u64 (E.K : Int) else if i = 3 then vO else if i = 4 then vR else if i = 5 then .int .i64 (E.err : Int) else .bool E.said
section
variable {q t : Nat} {E : Qe} {w w' : World} {S : Nat → Prop}
end
end Go.Proofs.Ytebakjdeighdnaa

/-
  Maps in blocks of their own, told by what they answer; the program's QPACK encoder as a word.
-/
namespace Go.Proofs.Ytebakjdeighdnaa
open Go.RowKit Go.Maps
set_option linter.unusedVariables false

/-! ### a map in a block of its own -/
/-- Block b is a map of at most N entries that answers f. -/
def Mo {κ : Type} (kt : TypeId) (R : Value → Option (DataW Unit × List MemPlace)) (kl : κ → Lit) (ok : κ → Prop) (f : κ → Option (DataW Unit)) (b N : Nat) (w : World) : Prop :=
  ∃ D, w.ownsMap Try.prog kt R b N D ∧ Mf kl ok f D
section
variable {κ : Type} {kt e t : TypeId} {R : Value → Option (DataW Unit × List MemPlace)} {kl : κ → Lit} {ok : κ → Prop} {f g : κ → Option (DataW Unit)} {b N : Nat} {w w' : World}
theorem Mo.lt (h : Mo kt R kl ok f b N w) : b < w.heap.size := by obtain ⟨D, h, _⟩ := h; exact h.lt
theorem Mo.kept (h : Mo kt R kl ok f b N w) (hb : w'.heap[b]? = w.heap[b]?) : Mo kt R kl ok f b N w' := by
  obtain ⟨D, ⟨es, cl, h1, h2, h3, h4⟩, m⟩ := h
  exact ⟨D, ⟨es, cl, hb.trans h1, h2, h3, h4⟩, m⟩
theorem Mo.mono (h : Mo kt R kl ok f b N w) {N' : Nat} (hn : N ≤ N') : Mo kt R kl ok f b N' w := by
  obtain ⟨D, h1, m⟩ := h
  exact ⟨D, h1.mono hn, m⟩
theorem Mo.congr (h : Mo kt R kl ok f b N w) (hf : ∀ k, ok k → f k = g k) : Mo kt R kl ok g b N w := by
  obtain ⟨D, h1, m⟩ := h
  exact ⟨D, h1, m.congr hf⟩
theorem Mo.made (kt : TypeId) (R : Value → Option (DataW Unit × List MemPlace)) (kl : κ → Lit) (ok : κ → Prop) (w : World) : Mo kt R kl ok (fun _ => none) w.heap.size 0 (w.alloc (.map #[] 0)) :=
  ⟨_, World.ownsMap_made w _ _ _, Mf.new kl ok⟩
theorem ownsMap_tight {D : DataW Unit} {n : Nat} (h : w.ownsMap Try.prog kt R b n D) : w.ownsMap Try.prog kt R b (Maps.size D) D := by
  obtain ⟨es, cl, h1, h2, h3, h4⟩ := h
  refine ⟨es, cl, h1, h2, ?_, h4⟩
  rw [h4, size_eq, length_sorted]
  simp
theorem Mo.put [DecidableEq κ] (K : Keyed Try.prog kt) (KL : Kl kl ok) (ht : Try.prog.underlying t = some (.map kt e)) (h : Mo kt R kl ok f b N w) (hN : N < 1000000000) {k : κ} (hk : ok k) {key val : Value} {d : DataW Unit} {ps : List MemPlace}
    (hkey : keyOf Try.prog kt key = some (kl k)) (hv : R val = some (d, ps)) :
    ∃ w', (Instr.mapUpdate t (.map (some b)) key val).run Try.prog w = .ok () w' ∧ Mo kt R kl ok (fun j => if j = k then some d else f j) b (N + 1) w' ∧ w.grownBy w' (some b) := by
  obtain ⟨D, h1, m⟩ := h
  obtain ⟨w', hrun, ho, hg⟩ := h1.update K ht (by unfold maxLen; omega) hkey hv
  exact ⟨w', hrun, ⟨_, ho, m.put KL hk d⟩, hg⟩
theorem Mo.put_old [DecidableEq κ] (K : Keyed Try.prog kt) (KL : Kl kl ok) (ht : Try.prog.underlying t = some (.map kt e)) (h : Mo kt R kl ok f b N w) (hN : N < 1000000000) {k : κ} (hk : ok k) (hs : (f k).isSome = true) {key val : Value} {d : DataW Unit} {ps : List MemPlace}
    (hkey : keyOf Try.prog kt key = some (kl k)) (hv : R val = some (d, ps)) :
    ∃ w', (Instr.mapUpdate t (.map (some b)) key val).run Try.prog w = .ok () w' ∧ Mo kt R kl ok (fun j => if j = k then some d else f j) b N w' ∧ w.grownBy w' (some b) := by
  obtain ⟨D, h1, m⟩ := h
  have hsz := h1.size_le
  obtain ⟨w', hrun, ho, hg⟩ := h1.update K ht (by unfold maxLen; omega) hkey hv
  refine ⟨w', hrun, ⟨_, (ownsMap_tight ho).mono ?_, m.put KL hk d⟩, hg⟩
  rw [size_put_old m.tidy d (by rw [m.has k hk]; exact hs)]
  exact hsz
theorem Mo.drop [DecidableEq κ] (K : Keyed Try.prog kt) (KL : Kl kl ok) (ht : Try.prog.underlying t = some (.map kt e)) (h : Mo kt R kl ok f b N w) {k : κ} (hk : ok k) {key : Value} (hkey : keyOf Try.prog kt key = some (kl k)) (ty : TypeId) :
    ∃ w', (Builtin.delete_ #[t, kt] ty #[.map (some b), key]).run Try.prog w = .ok (.tuple #[]) w' ∧ Mo kt R kl ok (fun j => if j = k then none else f j) b N w' ∧ w.grownBy w' (some b) := by
  obtain ⟨D, h1, m⟩ := h
  obtain ⟨w', hrun, ho, hg⟩ := h1.drop K ht hkey ty
  exact ⟨w', hrun, ⟨_, ho, m.del KL hk⟩, hg.grown⟩
theorem Mo.look (K : Keyed Try.prog kt) (ht : Try.prog.underlying t = some (.map kt e)) (h : Mo kt R kl ok f b N w) {k : κ} (hk : ok k) {key z : Value} (hz : (zeroValue e).run Try.prog w = .ok z w) {zd : DataW Unit} {zp : List MemPlace} (hzd : R z = some (zd, zp))
    (hkey : keyOf Try.prog kt key = some (kl k)) : ∃ v ps, (Instr.lookup t (.map (some b)) key false).run Try.prog w = .ok v w ∧ R v = some ((f k).getD zd, ps) := by
  obtain ⟨D, h1, m⟩ := h
  obtain ⟨v, ps, hrun, hv⟩ := h1.lookup K ht hz hzd hkey
  exact ⟨v, ps, hrun, by rw [← m.at_ k hk]; exact hv⟩
theorem Mo.look_ok (K : Keyed Try.prog kt) (ht : Try.prog.underlying t = some (.map kt e)) (h : Mo kt R kl ok f b N w) {k : κ} (hk : ok k) {key z : Value} (hz : (zeroValue e).run Try.prog w = .ok z w) {zd : DataW Unit} {zp : List MemPlace} (hzd : R z = some (zd, zp))
    (hkey : keyOf Try.prog kt key = some (kl k)) : ∃ v ps, (Instr.lookup t (.map (some b)) key true).run Try.prog w = .ok (.tuple #[v, .bool (f k).isSome]) w ∧ R v = some ((f k).getD zd, ps) := by
  obtain ⟨D, h1, m⟩ := h
  obtain ⟨v, ps, hrun, hv⟩ := h1.look_ok K ht hz hzd hkey
  exact ⟨v, ps, by rw [← m.has k hk]; exact hrun, by rw [← m.at_ k hk]; exact hv⟩
theorem Mo.len (KL : Kl kl ok) (ht : Try.prog.underlying t = some (.map kt e)) (h : Mo kt R kl ok f b N w) {ks : List κ} (hn : ks.Nodup) (hk : ∀ k, k ∈ ks ↔ ok k ∧ (f k).isSome = true) (ty : TypeId) :
    (Builtin.len_ #[t] ty #[.map (some b)]).run Try.prog w = .ok (.int .i64 (ks.length : Int)) w := by
  obtain ⟨D, h1, m⟩ := h
  rw [h1.len ht, m.size KL hn hk]
end

/-! ### keys, elements -/
def kU (n : Nat) : Lit := .int .u64 (n : Int)
def okU (n : Nat) : Prop := n < 18446744073709551616
def kMk (x : Nat × Nat) : Lit := .string (keyBytes [.int .u64 (x.1 : Int), .int .u64 (x.2 : Int)])
def okM (x : Nat × Nat) : Prop := okU x.1 ∧ okU x.2
theorem uLaw : Keyed Try.prog 31 := int_keyed Try.underlying31
theorem wfU {n : Nat} (h : okU n) : (Lit.int .u64 (n : Int)).wf = true := WalkArith.wf_u64 (by unfold okU at h; omega)
theorem keyOf_u {n : Nat} (h : okU n) : keyOf Try.prog 31 (.int .u64 (n : Int)) = some (kU n) := keyOf_int_mk Try.underlying31 (wfU h)
theorem klU : Kl kU okU := ⟨fun a b _ _ h => by unfold kU at h; simp only [Lit.int.injEq, true_and] at h; omega, fun a h => uLaw.key (keyOf_u h)⟩
theorem mkLaw : Keyed Try.prog 78 := Keyed.of_law (deep_law_laid fdLaidOut (m := 2) (by omega) (of_decide_eq_true (by kernel_rfl)) (by kernel_rfl) (by kernel_rfl))
theorem mkCells : Try.prog.cellsOf 78 = 2 := by kernel_rfl
theorem mkNum : Try.prog.cellsOf 31 = 1 := by kernel_rfl
theorem mkKey : Try.prog.keyType 78 = true := by kernel_rfl
theorem keyOf_m {x : Nat × Nat} (h : okM x) : keyOf Try.prog 78 (.agg #[.int .u64 (x.1 : Int), .int .u64 (x.2 : Int)]) = some (kMk x) := by
  obtain ⟨a, b⟩ := x
  obtain ⟨h1, h2⟩ := h
  simp only at h1 h2
  have hs : ∀ (n a : Nat), okU a → Try.prog.keyLits (n + 1) 31 [.int .u64 (a : Int)] = some [.int .u64 (a : Int)] := fun n a ha => by
    unfold Program.keyLits
    simp only [Try.underlying31]
    simp [wfU ha]
  unfold keyOf
  simp only [Try.underlying78]
  obtain ⟨n, hn⟩ : ∃ n, Try.prog.types.size = n + 1 := ⟨Try.prog.types.size - 1, by kernel_rfl⟩
  rw [mkKey, hn]
  have hf : (Value.agg #[.int .u64 (a : Int), .int .u64 (b : Int)]).formed Try.prog 78 = true := by
    simp [Value.formed, Try.underlying78, mkCells]
  rw [hf]
  unfold Program.keyLits
  simp only [Try.underlying78]
  rw [if_pos (show (true && true) = true from rfl), if_pos ⟨by rw [mkCells]; rfl, by kernel_rfl⟩]
  simp only [List.mapM_cons, List.mapM_nil, mkNum, Value.cells, List.drop_zero, List.take_succ_cons, List.take_zero, List.drop_succ_cons, hs _ _ h1, hs _ _ h2]
  rfl
theorem klM : Kl kMk okM := by
  refine ⟨fun x y hx hy h => ?_, fun x h => mkLaw.key (keyOf_m h)⟩
  have e := mkLaw.inj (keyOf_m hx) (by rw [h]; exact keyOf_m hy)
  obtain ⟨a, b⟩ := x
  obtain ⟨c, d⟩ := y
  simp only [Value.agg.injEq, Array.mk.injEq, List.cons.injEq, Value.int.injEq, true_and, and_true] at e
  rw [show a = c by omega, show b = d by omega]

/-- How a queue reads. -/
def qR (v : Value) : Option (DataW Unit × List MemPlace) :=
  match v with
  | .agg ⟨[.int .u64 a, .int .u64 b]⟩ => some (.agg [.lit (.int .u64 a), .lit (.int .u64 b)], [])
  | _ => none
def qD (a b : Nat) : DataW Unit := .agg [.lit (.int .u64 (a : Int)), .lit (.int .u64 (b : Int))]
theorem qR_mk (a b : Nat) : qR (.agg #[.int .u64 (a : Int), .int .u64 (b : Int)]) = some (qD a b, []) := rfl
theorem qR_inv {v : Value} {a b : Nat} {ps : List MemPlace} (h : qR v = some (qD a b, ps)) : v = .agg #[.int .u64 (a : Int), .int .u64 (b : Int)] := by
  unfold qR at h
  split at h
  · simp only [Option.some.injEq, Prod.mk.injEq, qD, DataW.agg.injEq, List.cons.injEq, DataW.lit.injEq, Lit.int.injEq, true_and, and_true] at h
    obtain ⟨⟨h1, h2⟩, _⟩ := h
    rw [h1, h2]
  · cases h
/-- How a slice reads: by where it lies. -/
def sR (v : Value) : Option (DataW Unit × List MemPlace) :=
  match v with
  | .slice none 0 0 => some (.agg [], [])
  | .slice (some ⟨b, o, none⟩) n c => some (.agg [.lit (.int .i64 (b : Int)), .lit (.int .i64 (o : Int)), .lit (.int .i64 (n : Int)), .lit (.int .i64 (c : Int))], [])
  | _ => none
def sD (v : Value) : DataW Unit := ((sR v).map Prod.fst).getD .nil
theorem sR_inv {v u : Value} {d : DataW Unit} {ps qs : List MemPlace} (h : sR v = some (d, ps)) (k : sR u = some (d, qs)) : v = u := by
  unfold sR at h k
  split at h
  · injection h with h
    injection h with h1 h2
    subst h1
    split at k
    · rfl
    · injection k with k
      injection k with k1 k2
      cases k1
    · cases k
  · injection h with h
    injection h with h1 h2
    subst h1
    split at k
    · injection k with k
      injection k with k1 k2
      cases k1
    · injection k with k
      injection k with k1 k2
      simp only [DataW.agg.injEq, List.cons.injEq, DataW.lit.injEq, Lit.int.injEq, true_and, and_true] at k1
      obtain ⟨e1, e2, e3, e4⟩ := k1
      rw [show (_ : Nat) = _ from Int.ofNat.inj e1, show (_ : Nat) = _ from Int.ofNat.inj e2, show (_ : Nat) = _ from Int.ofNat.inj e3, show (_ : Nat) = _ from Int.ofNat.inj e4]
    · cases k
  · cases h

end Go.Proofs.Ytebakjdeighdnaa

/-
  The program's QPACK encoder, part by part, and as a word.
-/
namespace Go.Proofs.Ytebakjdeighdnaa
open Go.RowKit Go.Maps
set_option linter.unusedVariables false

/-- The cells of the program's encoder. -/
def pF (p : Nat) (sd : Bool) (B K bs bq bu bb : Nat) (vR : Value) (er : Nat) (i : Nat) : Value :=
  if i = 0 then .pointer (some ⟨p, 0, none⟩) else if i = 1 then .bool sd else if i = 2 then .int .i64 (B : Int) else if i = 3 then .int .u64 (K : Int) else if i = 4 then .map (some bs) else if i = 5 then .map (some bq)
  else if i = 6 then .map (some bu) else if i = 7 then .map (some bb) else if i = 8 then vR else .int .i64 (er : Int)
abbrev DU := DataW Unit
/-- What the encoder holds, beside its table: whether it has begun, its limit, what is known, its error, a bound of its maps, what its maps answer, the bytes that wait. -/
structure Qc where
  sd : Bool
  B : Nat
  K : Nat
  er : Nat
  N : Nat
  T : Tab
  gS : Nat × Nat → Option DU
  gQ : Nat → Option DU
  gU : Nat → Option DU
  gB : Nat → Option DU
  rest : List UInt8
/-- The encoder, part by part; Z: what else is only read. -/
structure Pr (q p : Nat) (X : Qc) (Z : World → Prop) (bs bq bu bb : Nat) (vR : Value) (S1 S2 : Nat → Prop) (w : World) : Prop where
  row : w.rowIs q 47 10 (pF p X.sd X.B X.K bs bq bu bb vR X.er)
  tb : Tb p X.T w S1
  ms : Mo 78 sR kMk okM X.gS bs X.N w
  mq : Mo 31 qR kU okU X.gQ bq X.N w
  mu : Mo 31 (plainElem Try.prog 3) kU okU X.gU bu X.N w
  mb : Mo 31 (plainElem Try.prog 31) kU okU X.gB bb X.N w
  ob : Ob (fun W => Bs W vR X.rest ∧ Z W) w S2
  ne : q ≠ bs ∧ q ≠ bq ∧ q ≠ bu ∧ q ≠ bb ∧ bs ≠ bq ∧ bs ≠ bu ∧ bs ≠ bb ∧ bq ≠ bu ∧ bq ≠ bb ∧ bu ≠ bb
  n1 : ¬ S1 q ∧ ¬ S1 bs ∧ ¬ S1 bq ∧ ¬ S1 bu ∧ ¬ S1 bb
  n2 : ¬ S2 q ∧ ¬ S2 bs ∧ ¬ S2 bq ∧ ¬ S2 bu ∧ ¬ S2 bb
  n12 : ∀ k, S1 k → ¬ S2 k
def Pset (q bs bq bu bb : Nat) (S1 S2 : Nat → Prop) (k : Nat) : Prop := S1 k ∨ S2 k ∨ k = q ∨ k = bs ∨ k = bq ∨ k = bu ∨ k = bb
/-- The encoder behind the pointer to block q, its table at block p. -/
def Raw (q p : Nat) (X : Qc) (Z : World → Prop) : Wx := fun w S => ∃ bs bq bu bb vR S1 S2, Pr q p X Z bs bq bu bb vR S1 S2 w ∧ ∀ k, S k ↔ Pset q bs bq bu bb S1 S2 k
section
variable {q p bs bq bu bb : Nat} {X Y : Qc} {Z Z' : World → Prop} {vR : Value} {S1 S2 S : Nat → Prop} {w w' : World}
theorem Pr.lt (h : Pr q p X Z bs bq bu bb vR S1 S2 w) : ∀ k, Pset q bs bq bu bb S1 S2 k → k < w.heap.size := by
  rintro k (hk | hk | rfl | rfl | rfl | rfl | rfl)
  · exact h.tb.lt k hk
  · exact h.ob.1 k hk
  · exact h.row.lt
  · exact h.ms.lt
  · exact h.mq.lt
  · exact h.mu.lt
  · exact h.mb.lt
theorem Pr.kept (h : Pr q p X Z bs bq bu bb vR S1 S2 w) (hs : w.heap.size ≤ w'.heap.size) (hb : ∀ k, Pset q bs bq bu bb S1 S2 k → w'.heap[k]? = w.heap[k]?) : Pr q p X Z bs bq bu bb vR S1 S2 w' :=
  ⟨h.row.of_block (hb q (.inr (.inr (.inl rfl)))), h.tb.kept hs fun k hk => hb k (.inl hk), h.ms.kept (hb bs (.inr (.inr (.inr (.inl rfl))))), h.mq.kept (hb bq (.inr (.inr (.inr (.inr (.inl rfl)))))),
    h.mu.kept (hb bu (.inr (.inr (.inr (.inr (.inr (.inl rfl))))))), h.mb.kept (hb bb (.inr (.inr (.inr (.inr (.inr (.inr rfl))))))), (Wd.ob _).kept h.ob hs fun k hk => hb k (.inr (.inl hk)), h.ne, h.n1, h.n2, h.n12⟩
theorem Pr.keep (h : Pr q p X Z bs bq bu bb vR S1 S2 w) (hb : Below w.heap.size w w') : Pr q p X Z bs bq bu bb vR S1 S2 w' := h.kept hb.size fun k hk => hb.block k (h.lt k hk)
theorem Pr.raw (h : Pr q p X Z bs bq bu bb vR S1 S2 w) : Raw q p X Z w (Pset q bs bq bu bb S1 S2) := ⟨bs, bq, bu, bb, vR, S1, S2, h, fun _ => Iff.rfl⟩
theorem Wd.raw (q p : Nat) (X : Qc) (Z : World → Prop) : Wd (Raw q p X Z) := by
  constructor
  · rintro w S ⟨bs, bq, bu, bb, vR, S1, S2, h, hS⟩ k hk
    exact h.lt k ((hS k).1 hk)
  · rintro w w' S ⟨bs, bq, bu, bb, vR, S1, S2, h, hS⟩ hs hb
    exact ⟨bs, bq, bu, bb, vR, S1, S2, h.kept hs fun k hk => hb k ((hS k).2 hk), hS⟩
/-- What the encoder's cells hold. -/
theorem Pr.cells (h : Pr q p X Z bs bq bu bb vR S1 S2 w) : w.cell? ⟨q, 0, none⟩ = some (.pointer (some ⟨p, 0, none⟩)) ∧ w.cell? ⟨q, 1, none⟩ = some (.bool X.sd) ∧ w.cell? ⟨q, 2, none⟩ = some (.int .i64 (X.B : Int)) ∧ w.cell? ⟨q, 3, none⟩ = some (.int .u64 (X.K : Int)) ∧
    w.cell? ⟨q, 4, none⟩ = some (.map (some bs)) ∧ w.cell? ⟨q, 5, none⟩ = some (.map (some bq)) ∧ w.cell? ⟨q, 6, none⟩ = some (.map (some bu)) ∧ w.cell? ⟨q, 7, none⟩ = some (.map (some bb)) ∧ w.cell? ⟨q, 8, none⟩ = some vR ∧ w.cell? ⟨q, 9, none⟩ = some (.int .i64 (X.er : Int)) ∧ ∀ i, w.frozen? ⟨q, i, none⟩ = false :=
  ⟨h.row.cell (i := 0) (by omega), h.row.cell (i := 1) (by omega), h.row.cell (i := 2) (by omega), h.row.cell (i := 3) (by omega), h.row.cell (i := 4) (by omega), h.row.cell (i := 5) (by omega), h.row.cell (i := 6) (by omega), h.row.cell (i := 7) (by omega), h.row.cell (i := 8) (by omega), h.row.cell (i := 9) (by omega), fun i => h.row.frozen i⟩
theorem Pr.bytes (h : Pr q p X Z bs bq bu bb vR S1 S2 w) : Bs w vR X.rest := h.ob.get.1
theorem Pr.z (h : Pr q p X Z bs bq bu bb vR S1 S2 w) : Z w := h.ob.get.2

/-! ### what turns -/
/-- A store into one of the encoder's own cells, that holds no map. -/
theorem Pr.set (h : Pr q p X Z bs bq bu bb vR S1 S2 w) (i : Nat) (v : Value) {sd : Bool} {K er : Nat} (hF : ∀ j, j < 10 → (if j = i then v else pF p X.sd X.B X.K bs bq bu bb vR X.er j) = pF p sd X.B K bs bq bu bb vR er j) :
    Pr q p { X with sd := sd, K := K, er := er } Z bs bq bu bb vR S1 S2 (w.setCell ⟨q, i, none⟩ v) ∧ Fp (Pset q bs bq bu bb S1 S2) w (w.setCell ⟨q, i, none⟩ v) := by
  have hf : Fp (fun k => k = q) w (w.setCell ⟨q, i, none⟩ v) := Fp.set _ _ _ _ rfl
  have hb : ∀ k, k < w.heap.size → k ≠ q → (w.setCell ⟨q, i, none⟩ v).heap[k]? = w.heap[k]? := fun k hk hn => hf.block k hk hn
  obtain ⟨e1, e2, e3, e4, _⟩ := h.ne
  exact ⟨⟨(h.row.set i v).congr hF, (Wd.tb p X.T).besides h.tb hf fun k hk e => h.n1.1 (e ▸ hk), h.ms.kept (hb _ h.ms.lt (Ne.symm e1)), h.mq.kept (hb _ h.mq.lt (Ne.symm e2)), h.mu.kept (hb _ h.mu.lt (Ne.symm e3)), h.mb.kept (hb _ h.mb.lt (Ne.symm e4)),
    (Wd.ob _).besides h.ob hf fun k hk e => h.n2.1 (e ▸ hk), h.ne, h.n1, h.n2, h.n12⟩, hf.mono fun k hk => .inr (.inr (.inl hk))⟩
/-- What waits: another slice. -/
theorem Pr.setRest (h : Pr q p X Z bs bq bu bb vR S1 S2 w) {v : Value} {rest : List UInt8} {S3 : Nat → Prop} (ho : Ob (fun W => Bs W v rest) w S3) (hz : Ob Z w S2) (hn : ∀ k, S3 k → ¬ S1 k ∧ k ≠ q ∧ k ≠ bs ∧ k ≠ bq ∧ k ≠ bu ∧ k ≠ bb) :
    Pr q p { X with rest := rest } Z bs bq bu bb v S1 (fun k => S2 k ∨ S3 k) (w.setCell ⟨q, 8, none⟩ v) := by
  have hf : Fp (fun k => k = q) w (w.setCell ⟨q, 8, none⟩ v) := Fp.set _ _ _ _ rfl
  have hb : ∀ k, k < w.heap.size → k ≠ q → (w.setCell ⟨q, 8, none⟩ v).heap[k]? = w.heap[k]? := fun k hk hn => hf.block k hk hn
  obtain ⟨e1, e2, e3, e4, _⟩ := h.ne
  obtain ⟨m1, m2, m3, m4, m5⟩ := h.n2
  exact ⟨(h.row.set 8 v).congr (fun j hj => by
      unfold pF
      match j, hj with
      | 0, _ => rfl
      | 1, _ => rfl
      | 2, _ => rfl
      | 3, _ => rfl
      | 4, _ => rfl
      | 5, _ => rfl
      | 6, _ => rfl
      | 7, _ => rfl
      | 8, _ => rfl
      | 9, _ => rfl), (Wd.tb p X.T).besides h.tb hf fun k hk e => h.n1.1 (e ▸ hk), h.ms.kept (hb _ h.ms.lt (Ne.symm e1)), h.mq.kept (hb _ h.mq.lt (Ne.symm e2)), h.mu.kept (hb _ h.mu.lt (Ne.symm e3)), h.mb.kept (hb _ h.mb.lt (Ne.symm e4)),
    ((Wd.ob _).besides (ho.and hz) hf (fun k hk e => hk.elim (fun hk => (hn k hk).2.1 e) fun hk => h.n2.1 (e ▸ hk))).mono (fun k hk => hk.symm) (fun k hk => by
      have : (w.setCell ⟨q, 8, none⟩ v).heap.size = w.heap.size := by simp [World.setCell]
      rw [this]
      exact hk.elim (h.ob.1 k) (ho.1 k)), h.ne, h.n1,
    ⟨fun hk => hk.elim m1 fun hk => (hn _ hk).2.1 rfl, fun hk => hk.elim m2 fun hk => (hn _ hk).2.2.1 rfl, fun hk => hk.elim m3 fun hk => (hn _ hk).2.2.2.1 rfl, fun hk => hk.elim m4 fun hk => (hn _ hk).2.2.2.2.1 rfl, fun hk => hk.elim m5 fun hk => (hn _ hk).2.2.2.2.2 rfl⟩,
    fun k hk hs => hs.elim (h.n12 k hk) fun hs => (hn k hs).1 hk⟩
theorem Pr.more (h : Pr q p X Z bs bq bu bb vR S1 S2 w) {N : Nat} (hN : X.N ≤ N) : Pr q p { X with N := N } Z bs bq bu bb vR S1 S2 w :=
  ⟨h.row, h.tb, h.ms.mono hN, h.mq.mono hN, h.mu.mono hN, h.mb.mono hN, h.ob, h.ne, h.n1, h.n2, h.n12⟩
theorem Pr.turnS (h : Pr q p X Z bs bq bu bb vR S1 S2 w) (hg : w.grownBy w' (some bs)) {g : Nat × Nat → Option DU} (ho : Mo 78 sR kMk okM g bs X.N w') : Pr q p { X with gS := g } Z bs bq bu bb vR S1 S2 w' ∧ Fp (Pset q bs bq bu bb S1 S2) w w' := by
  obtain ⟨e1, e2, e3, e4, e5, e6, e7, e8, e9, e10⟩ := h.ne
  obtain ⟨m1, m2, m3, m4, m5⟩ := h.n1
  obtain ⟨k1, k2, k3, k4, k5⟩ := h.n2
  have hf : Fp (fun k => k = bs) w w' := Fp.of_grown hg fun k hk => (Option.some.inj hk).symm
  have hb : ∀ k, k < w.heap.size → k ≠ bs → w'.heap[k]? = w.heap[k]? := fun k hk hn => hf.block k hk hn
  exact ⟨⟨h.row.of_block (hb _ h.row.lt e1), (Wd.tb p X.T).besides h.tb hf fun k hk e => m2 (e ▸ hk), ho, h.mq.kept (hb _ h.mq.lt (Ne.symm e5)), h.mu.kept (hb _ h.mu.lt (Ne.symm e6)), h.mb.kept (hb _ h.mb.lt (Ne.symm e7)), (Wd.ob _).besides h.ob hf fun k hk e => k2 (e ▸ hk), h.ne, h.n1, h.n2, h.n12⟩, hf.mono fun k hk => .inr (.inr (.inr (.inl hk)))⟩
theorem Pr.turnQ (h : Pr q p X Z bs bq bu bb vR S1 S2 w) (hg : w.grownBy w' (some bq)) {g : Nat → Option DU} (ho : Mo 31 qR kU okU g bq X.N w') : Pr q p { X with gQ := g } Z bs bq bu bb vR S1 S2 w' ∧ Fp (Pset q bs bq bu bb S1 S2) w w' := by
  obtain ⟨e1, e2, e3, e4, e5, e6, e7, e8, e9, e10⟩ := h.ne
  obtain ⟨m1, m2, m3, m4, m5⟩ := h.n1
  obtain ⟨k1, k2, k3, k4, k5⟩ := h.n2
  have hf : Fp (fun k => k = bq) w w' := Fp.of_grown hg fun k hk => (Option.some.inj hk).symm
  have hb : ∀ k, k < w.heap.size → k ≠ bq → w'.heap[k]? = w.heap[k]? := fun k hk hn => hf.block k hk hn
  exact ⟨⟨h.row.of_block (hb _ h.row.lt e2), (Wd.tb p X.T).besides h.tb hf fun k hk e => m3 (e ▸ hk), h.ms.kept (hb _ h.ms.lt e5), ho, h.mu.kept (hb _ h.mu.lt (Ne.symm e8)), h.mb.kept (hb _ h.mb.lt (Ne.symm e9)), (Wd.ob _).besides h.ob hf fun k hk e => k3 (e ▸ hk), h.ne, h.n1, h.n2, h.n12⟩, hf.mono fun k hk => .inr (.inr (.inr (.inr (.inl hk))))⟩
theorem Pr.turnU (h : Pr q p X Z bs bq bu bb vR S1 S2 w) (hg : w.grownBy w' (some bu)) {g : Nat → Option DU} (ho : Mo 31 (plainElem Try.prog 3) kU okU g bu X.N w') : Pr q p { X with gU := g } Z bs bq bu bb vR S1 S2 w' ∧ Fp (Pset q bs bq bu bb S1 S2) w w' := by
  obtain ⟨e1, e2, e3, e4, e5, e6, e7, e8, e9, e10⟩ := h.ne
  obtain ⟨m1, m2, m3, m4, m5⟩ := h.n1
  obtain ⟨k1, k2, k3, k4, k5⟩ := h.n2
  have hf : Fp (fun k => k = bu) w w' := Fp.of_grown hg fun k hk => (Option.some.inj hk).symm
  have hb : ∀ k, k < w.heap.size → k ≠ bu → w'.heap[k]? = w.heap[k]? := fun k hk hn => hf.block k hk hn
  exact ⟨⟨h.row.of_block (hb _ h.row.lt e3), (Wd.tb p X.T).besides h.tb hf fun k hk e => m4 (e ▸ hk), h.ms.kept (hb _ h.ms.lt e6), h.mq.kept (hb _ h.mq.lt e8), ho, h.mb.kept (hb _ h.mb.lt (Ne.symm e10)), (Wd.ob _).besides h.ob hf fun k hk e => k4 (e ▸ hk), h.ne, h.n1, h.n2, h.n12⟩, hf.mono fun k hk => .inr (.inr (.inr (.inr (.inr (.inl hk)))))⟩
theorem Pr.turnB (h : Pr q p X Z bs bq bu bb vR S1 S2 w) (hg : w.grownBy w' (some bb)) {g : Nat → Option DU} (ho : Mo 31 (plainElem Try.prog 31) kU okU g bb X.N w') : Pr q p { X with gB := g } Z bs bq bu bb vR S1 S2 w' ∧ Fp (Pset q bs bq bu bb S1 S2) w w' := by
  obtain ⟨e1, e2, e3, e4, e5, e6, e7, e8, e9, e10⟩ := h.ne
  obtain ⟨m1, m2, m3, m4, m5⟩ := h.n1
  obtain ⟨k1, k2, k3, k4, k5⟩ := h.n2
  have hf : Fp (fun k => k = bb) w w' := Fp.of_grown hg fun k hk => (Option.some.inj hk).symm
  have hb : ∀ k, k < w.heap.size → k ≠ bb → w'.heap[k]? = w.heap[k]? := fun k hk hn => hf.block k hk hn
  exact ⟨⟨h.row.of_block (hb _ h.row.lt e4), (Wd.tb p X.T).besides h.tb hf fun k hk e => m5 (e ▸ hk), h.ms.kept (hb _ h.ms.lt e7), h.mq.kept (hb _ h.mq.lt e9), h.mu.kept (hb _ h.mu.lt e10), ho, (Wd.ob _).besides h.ob hf fun k hk e => k5 (e ▸ hk), h.ne, h.n1, h.n2, h.n12⟩, hf.mono fun k hk => .inr (.inr (.inr (.inr (.inr (.inr hk)))))⟩
/-- The table turns. -/
theorem Pr.tab (h : Pr q p X Z bs bq bu bb vR S1 S2 w) {T : Tab} (ht : Turn (Tb p T) S1 w w') : Turn (Raw q p { X with T := T } Z) (Pset q bs bq bu bb S1 S2) w w' := by
  obtain ⟨S3, x, s, f⟩ := ht
  have hlt := h.lt
  have hnew : ∀ k, Pset q bs bq bu bb S1 S2 k → ¬ S1 k → ¬ S3 k := fun k hk hn h3 => (s k h3).elim hn fun hge => by have := hlt k hk; omega
  obtain ⟨m1, m2, m3, m4, m5⟩ := h.n1
  have hq : Pset q bs bq bu bb S1 S2 q := .inr (.inr (.inl rfl))
  have h4 : Pset q bs bq bu bb S1 S2 bs := .inr (.inr (.inr (.inl rfl)))
  have h5 : Pset q bs bq bu bb S1 S2 bq := .inr (.inr (.inr (.inr (.inl rfl))))
  have h6 : Pset q bs bq bu bb S1 S2 bu := .inr (.inr (.inr (.inr (.inr (.inl rfl)))))
  have h7 : Pset q bs bq bu bb S1 S2 bb := .inr (.inr (.inr (.inr (.inr (.inr rfl)))))
  have hb : ∀ k, Pset q bs bq bu bb S1 S2 k → ¬ S1 k → w'.heap[k]? = w.heap[k]? := fun k hk hn => f.block k (hlt k hk) hn
  refine ⟨Pset q bs bq bu bb S3 S2, Pr.raw ⟨h.row.of_block (hb q hq m1), x, h.ms.kept (hb _ h4 m2), h.mq.kept (hb _ h5 m3), h.mu.kept (hb _ h6 m4), h.mb.kept (hb _ h7 m5), (Wd.ob _).besides h.ob f fun k hk hs => h.n12 k hs hk, h.ne,
    ⟨hnew _ hq m1, hnew _ h4 m2, hnew _ h5 m3, hnew _ h6 m4, hnew _ h7 m5⟩, h.n2, fun k hk hs => hnew k (.inr (.inl hs)) (fun h1 => h.n12 k h1 hs) hk⟩, ?_, f.mono fun k hk => .inl hk⟩
  rintro k (hk | hk)
  · exact (s k hk).imp .inl id
  · exact .inl (.inr hk)
/-- What is only read beside: told anew. -/
theorem Pr.reZ (h : Pr q p X Z bs bq bu bb vR S1 S2 w) (hz : ∀ W, Z W → Z' W) : Pr q p X Z' bs bq bu bb vR S1 S2 w :=
  ⟨h.row, h.tb, h.ms, h.mq, h.mu, h.mb, h.ob.map fun W hW => ⟨hW.1, hz W hW.2⟩, h.ne, h.n1, h.n2, h.n12⟩
theorem Pr.addZ (h : Pr q p X Z bs bq bu bb vR S1 S2 w) {S3 : Nat → Prop} (ho : Ob Z' w S3) (hn : ∀ k, S3 k → ¬ S1 k ∧ k ≠ q ∧ k ≠ bs ∧ k ≠ bq ∧ k ≠ bu ∧ k ≠ bb) : Pr q p X (fun W => Z W ∧ Z' W) bs bq bu bb vR S1 (fun k => S2 k ∨ S3 k) w := by
  obtain ⟨m1, m2, m3, m4, m5⟩ := h.n2
  exact ⟨h.row, h.tb, h.ms, h.mq, h.mu, h.mb, (h.ob.and ho).map fun W hW => ⟨hW.1.1, hW.1.2, hW.2⟩, h.ne, h.n1,
    ⟨fun hk => hk.elim m1 fun hk => (hn _ hk).2.1 rfl, fun hk => hk.elim m2 fun hk => (hn _ hk).2.2.1 rfl, fun hk => hk.elim m3 fun hk => (hn _ hk).2.2.2.1 rfl, fun hk => hk.elim m4 fun hk => (hn _ hk).2.2.2.2.1 rfl, fun hk => hk.elim m5 fun hk => (hn _ hk).2.2.2.2.2 rfl⟩,
    fun k hk hs => hs.elim (h.n12 k hk) fun hs => (hn k hs).1 hk⟩
theorem Raw.open_ (h : Raw q p X Z w S) : ∃ bs bq bu bb vR S1 S2, Pr q p X Z bs bq bu bb vR S1 S2 w ∧ ∀ k, S k ↔ Pset q bs bq bu bb S1 S2 k := h
theorem Raw.more (h : Raw q p X Z w S) {N : Nat} (hN : X.N ≤ N) : Raw q p { X with N := N } Z w S := by
  obtain ⟨bs, bq, bu, bb, vR, S1, S2, h, hS⟩ := h
  exact ⟨bs, bq, bu, bb, vR, S1, S2, h.more hN, hS⟩
theorem Raw.tb (h : Raw q p X Z w S) : ∃ S1, Tb p X.T w S1 := by
  obtain ⟨bs, bq, bu, bb, vR, S1, S2, h, hS⟩ := h
  exact ⟨S1, h.tb⟩
theorem Raw.ok (h : Raw q p X Z w S) : X.T.ok := by obtain ⟨S1, h1⟩ := h.tb; exact h1.ok
theorem Raw.z (h : Raw q p X Z w S) : Z w := by
  obtain ⟨bs, bq, bu, bb, vR, S1, S2, h, hS⟩ := h
  exact h.z
/-- Back from the parts: all that was done lies in the encoder's blocks. -/
theorem Pr.turn {Y : Qc} {Z' : World → Prop} {vR' : Value} (h0 : ∀ k, S k ↔ Pset q bs bq bu bb S1 S2 k) (h : Pr q p Y Z' bs bq bu bb vR' S1 S2 w') (hf : Fp (Pset q bs bq bu bb S1 S2) w w') : Turn (Raw q p Y Z') S w w' :=
  ⟨_, h.raw, fun k hk => .inl ((h0 k).2 hk), hf.mono fun k hk => (h0 k).2 hk⟩
end
end Go.Proofs.Ytebakjdeighdnaa

/-
  What the encoder's maps answer; contracts of mayUse, use, Known, Table.
-/
namespace Go.Proofs.Ytebakjdeighdnaa
open Go.RowKit Go.Maps
set_option linter.unusedVariables false

def useF (c : Nat → Nat) : Nat → Option DU := fun k => if c k = 0 then none else some (.lit (.int .i64 (c k : Int)))
def blkD (f : Nat → Option Nat) : Nat → Option DU := fun s => (f s).map fun v : Nat => .lit (.int .u64 (v : Int))
theorem useF_get (c : Nat → Nat) (i : Nat) : (useF c i).getD (.lit (.int .i64 0)) = .lit (.int .i64 (c i : Int)) := by
  unfold useF
  split
  · rename_i h; rw [h]; rfl
  · rfl
theorem blkD_get (f : Nat → Option Nat) (s : Nat) : (blkD f s).getD (.lit (.int .u64 0)) = .lit (.int .u64 (((f s).getD 0 : Nat) : Int)) := by
  unfold blkD
  cases f s <;> rfl
theorem blkD_some (f : Nat → Option Nat) (s : Nat) : (blkD f s).isSome = (f s).isSome := by unfold blkD; cases f s <;> rfl
theorem zeroI64 (w : World) : (zeroValue 3).run Try.prog w = .ok (.int .i64 0) w := by kernel_rfl
theorem zeroU64' (w : World) : (zeroValue 31).run Try.prog w = .ok (.int .u64 0) w := by kernel_rfl
theorem zeroQue (w : World) : (zeroValue 76).run Try.prog w = .ok (.agg #[.int .u64 0, .int .u64 0]) w := by kernel_rfl
theorem zeroSl (w : World) : (zeroValue 49).run Try.prog w = .ok (.slice none 0 0) w := by kernel_rfl
section
variable {q p bs bq bu bb : Nat} {X Y : Qc} {Z Z' : World → Prop} {vR : Value} {S1 S2 S : Nat → Prop} {w w' : World} {c : Nat → Nat} {f : Nat → Option Nat}
theorem Pr.lookU (h : Pr q p X Z bs bq bu bb vR S1 S2 w) (hc : X.gU = useF c) {i : Nat} (hi : okU i) :
    (Instr.lookup 44 (.map (some bu)) (.int .u64 (i : Int)) false).run Try.prog w = .ok (.int .i64 (c i : Int)) w := by
  obtain ⟨v, ps, hrun, hv⟩ := h.mu.look uLaw Try.underlying44 hi (zeroI64 w) (plainElem_int Try.underlying3 (by decide)) (keyOf_u hi)
  obtain ⟨x, rfl, hx, _⟩ := plainElem_int_inv Try.underlying3 hv
  rw [hc, useF_get] at hx
  simp only [Prod.mk.injEq, DataW.lit.injEq, Lit.int.injEq, true_and] at hx
  rw [hrun, hx.1]
theorem Pr.lookB (h : Pr q p X Z bs bq bu bb vR S1 S2 w) (hf : X.gB = blkD f) {s : Nat} (hs : okU s) :
    (Instr.lookup 45 (.map (some bb)) (.int .u64 (s : Int)) false).run Try.prog w = .ok (.int .u64 (((f s).getD 0 : Nat) : Int)) w := by
  obtain ⟨v, ps, hrun, hv⟩ := h.mb.look uLaw Try.underlying45 hs (zeroU64' w) (plainElem_int Try.underlying31 (by decide)) (keyOf_u hs)
  obtain ⟨x, rfl, hx, _⟩ := plainElem_int_inv Try.underlying31 hv
  rw [hf, blkD_get] at hx
  simp only [Prod.mk.injEq, DataW.lit.injEq, Lit.int.injEq, true_and] at hx
  rw [hrun, hx.1]
theorem Pr.lookBok (h : Pr q p X Z bs bq bu bb vR S1 S2 w) (hf : X.gB = blkD f) {s : Nat} (hs : okU s) :
    (Instr.lookup 45 (.map (some bb)) (.int .u64 (s : Int)) true).run Try.prog w = .ok (.tuple #[.int .u64 (((f s).getD 0 : Nat) : Int), .bool (f s).isSome]) w := by
  obtain ⟨v, ps, hrun, hv⟩ := h.mb.look_ok uLaw Try.underlying45 hs (zeroU64' w) (plainElem_int Try.underlying31 (by decide)) (keyOf_u hs)
  obtain ⟨x, rfl, hx, _⟩ := plainElem_int_inv Try.underlying31 hv
  rw [hf, blkD_get] at hx
  simp only [Prod.mk.injEq, DataW.lit.injEq, Lit.int.injEq, true_and] at hx
  rw [hrun, hx.1, hf, blkD_some]
theorem Pr.lenB (h : Pr q p X Z bs bq bu bb vR S1 S2 w) (hf : X.gB = blkD f) {bl : List Nat} (hn : bl.Nodup) (hk : ∀ s, s ∈ bl ↔ okU s ∧ (f s).isSome = true) (ty : TypeId) :
    (Builtin.len_ #[45] ty #[.map (some bb)]).run Try.prog w = .ok (.int .i64 (bl.length : Int)) w :=
  h.mb.len klU Try.underlying45 hn (fun s => by rw [hf, blkD_some]; exact hk s) ty
theorem Pr.blkB (h : Pr q p X Z bs bq bu bb vR S1 S2 w) (hf : X.gB = blkD f) {bl : List Nat} (hn : bl.Nodup) (hk : ∀ s, s ∈ bl ↔ okU s ∧ (f s).isSome = true) : ∃ es cl, w.heap[bb]? = some (.map es cl) ∧ es.size = bl.length := by
  obtain ⟨D, h1, m⟩ := h.mb
  have hs := m.size klU hn (fun s => by rw [hf, blkD_some]; exact hk s)
  obtain ⟨es, cl, e1, e2, e3, e4⟩ := h1
  rw [e4, size_eq, length_sorted] at hs
  exact ⟨es, cl, e1, by simpa using hs⟩
/-- A store into the map of uses. -/
theorem Pr.putU (h : Pr q p X Z bs bq bu bb vR S1 S2 w) (hc : X.gU = useF c) (hN : X.N < 1000000000) {i n : Nat} (hi : okU i) (hn : 0 < n ∧ n ≤ 1000000000) :
    ∃ w', (Instr.mapUpdate 44 (.map (some bu)) (.int .u64 (i : Int)) (.int .i64 (n : Int))).run Try.prog w = .ok () w' ∧
      Pr q p { X with N := X.N + 1, gU := useF fun j => if j = i then n else c j } Z bs bq bu bb vR S1 S2 w' ∧ Fp (Pset q bs bq bu bb S1 S2) w w' := by
  obtain ⟨w', hrun, ho, hg⟩ := Mo.put uLaw klU Try.underlying44 h.mu hN hi (keyOf_u hi) (plainElem_int Try.underlying3 (a := (n : Int)) (WalkArith.wf_i64 (by omega)))
  obtain ⟨h1, h2⟩ := (h.more (Nat.le_succ X.N)).turnU hg (g := useF fun j => if j = i then n else c j) (ho.congr fun j hj => by
    rw [hc]
    show _ = if (if j = i then n else c j) = 0 then none else some (DataW.lit (Lit.int IntKind.i64 ((if j = i then n else c j : Nat) : Int)))
    by_cases e : j = i
    · rw [if_pos e, if_pos e, if_neg (by omega)]
    · rw [if_neg e, if_neg e]
      rfl)
  exact ⟨w', hrun, h1, h2⟩
/-- A store into the map of blocked streams. -/
theorem Pr.putB (h : Pr q p X Z bs bq bu bb vR S1 S2 w) (hf : X.gB = blkD f) (hN : X.N < 1000000000) {s n : Nat} (hs : okU s) (hn : okU n) :
    ∃ w', (Instr.mapUpdate 45 (.map (some bb)) (.int .u64 (s : Int)) (.int .u64 (n : Int))).run Try.prog w = .ok () w' ∧
      Pr q p { X with N := X.N + 1, gB := blkD fun j => if j = s then some n else f j } Z bs bq bu bb vR S1 S2 w' ∧ Fp (Pset q bs bq bu bb S1 S2) w w' := by
  obtain ⟨w', hrun, ho, hg⟩ := Mo.put uLaw klU Try.underlying45 h.mb hN hs (keyOf_u hs) (plainElem_int Try.underlying31 (wfU hn))
  obtain ⟨h1, h2⟩ := (h.more (Nat.le_succ X.N)).turnB hg (g := blkD fun j => if j = s then some n else f j) (ho.congr fun j hj => by
    rw [hf]
    show _ = (if j = s then some n else f j).map fun v : Nat => DataW.lit (Lit.int IntKind.u64 (v : Int))
    by_cases e : j = s
    · rw [if_pos e, if_pos e]
      rfl
    · rw [if_neg e, if_neg e]
      rfl)
  exact ⟨w', hrun, h1, h2⟩

theorem qknown_any (h : Raw q p X Z w S) : Calls Try.prog 8 #[.pointer (some ⟨q, 0, none⟩)] w fun e w' => e = .returned (.int .u64 (X.K : Int)) ∧ w = w' := by
  obtain ⟨bs, bq, bu, bb, vR, S1, S2, h, _⟩ := h
  obtain ⟨c0, c1, c2, c3, _⟩ := h.cells
  go_enter Try.func8, Try.ntmps8
  go_wp2
  go_ret
  exact ⟨rfl, rfl⟩

set_option maxRecDepth 100000 in
set_option maxHeartbeats 2000000 in
theorem mayUse_any (h : Raw q p X Z w S) (hf : X.gB = blkD f) {bl : List Nat} (hn : bl.Nodup) (hk : ∀ s, s ∈ bl ↔ okU s ∧ (f s).isSome = true) {s i : Nat} (hs : okU s) (hi : okU i) :
    Calls Try.prog 29 #[.pointer (some ⟨q, 0, none⟩), .int .u64 (s : Int), .int .u64 (i : Int)] w fun e w' => e = .returned (.bool (decide (i < X.K) || decide (bl.length < X.B) || (f s).isSome)) ∧ Below w.heap.size w w' := by
  obtain ⟨bs, bq, bu, bb, vR, S1, S2, h, _⟩ := h
  obtain ⟨c0, c1, c2, c3, c4, c5, c6, c7, _⟩ := h.cells
  have hl := fun n ty => (h.keep (below_drewN (Below.refl _ _) n)).lenB hf hn hk ty
  have hlo := fun n => (h.keep (below_drewN (Below.refl _ _) n)).lookBok hf hs
  obtain ⟨x, hx⟩ : ∃ x : Nat, (f s).getD 0 = x := ⟨_, rfl⟩
  obtain ⟨z, hz⟩ : ∃ z, (f s).isSome = z := ⟨_, rfl⟩
  simp only [hx, hz] at hlo
  rw [hz]
  obtain ⟨K, hK⟩ : ∃ K, X.K = K := ⟨_, rfl⟩
  obtain ⟨B, hB⟩ : ∃ B, X.B = B := ⟨_, rfl⟩
  obtain ⟨n, hn'⟩ : ∃ n, bl.length = n := ⟨_, rfl⟩
  rw [hK] at c3
  rw [hB] at c2
  simp only [hn'] at hl
  rw [hK, hB, hn']
  clear h hf hn hk hs hi hx hz hK hB hn' c1
  obtain ⟨SS, hSS⟩ := letter s
  simp only [hSS] at hlo ⊢
  clear hSS
  by_cases h1 : i < K
  · have hd : decide (i < K) = true := decide_eq_true h1
    rw [hd]
    clear h1
    go_enter Try.func29, Try.ntmps29
    go_wp2_with fail
    go_quiet (fail)
    go_wp2_with fail
    go_ret
    exact ⟨rfl, below_drewN (Below.refl _ _) _⟩
  · have hd : decide (i < K) = false := decide_eq_false h1
    rw [hd]
    clear h1
    by_cases h2 : n < B
    · have hd2 : decide (n < B) = true := decide_eq_true h2
      rw [hd2]
      clear h2
      go_enter Try.func29, Try.ntmps29
      go_wp2_with fail
      go_quiet (fail)
      go_wp2_with fail
      go_ret
      exact ⟨rfl, below_drewN (Below.refl _ _) _⟩
    · have hd2 : decide (n < B) = false := decide_eq_false h2
      rw [hd2]
      clear h2
      go_enter Try.func29, Try.ntmps29
      go_wp2_with fail
      go_quiet (fail)
      go_wp2_with fail
      go_ret
      exact ⟨rfl, below_drewN (Below.refl _ _) _⟩
end
end Go.Proofs.Ytebakjdeighdnaa

/-
  Contracts of the encoder's use and release.
-/
namespace Go.Proofs.Ytebakjdeighdnaa
open Go.RowKit Go.Maps
set_option linter.unusedVariables false

/-- One section more uses place i. -/
def bumpU (c : Nat → Nat) (i : Nat) : Nat → Nat := fun j => if j = i then c i + 1 else c j
/-- Place i blocks stream s. -/
def blkU (f : Nat → Option Nat) (K s i : Nat) : Nat → Option Nat := fun j => if j = s ∧ K ≤ i then some (max ((f s).getD 0) i) else f j
theorem blkU_no {f : Nat → Option Nat} {K s i : Nat} (h : ¬ K ≤ i) : blkU f K s i = f := funext fun j => if_neg fun hh => h hh.2
theorem blkU_yes {f : Nat → Option Nat} {K s i : Nat} (h : K ≤ i) : blkU f K s i = fun j => if j = s then some (max ((f s).getD 0) i) else f j := funext fun j => by
  unfold blkU
  by_cases e : j = s
  · rw [if_pos ⟨e, h⟩, if_pos e]
  · rw [if_neg (fun hh => e hh.1), if_neg e]
section
variable {q p bs bq bu bb : Nat} {X Y : Qc} {Z Z' : World → Prop} {vR : Value} {S1 S2 S : Nat → Prop} {w w' : World} {c : Nat → Nat} {f : Nat → Option Nat}
set_option maxRecDepth 100000 in
set_option maxHeartbeats 4000000 in
theorem puse_any (h : Raw q p X Z w S) (hc : X.gU = useF c) (hf : X.gB = blkD f) (hN : X.N + 2 ≤ 1000000000) {s i : Nat} (hcb : c i + 1 ≤ 1000000000) (hs : okU s) (hi : okU i) (hfb : (f s).getD 0 ≤ 1000000000) (hib : i ≤ 1000000000) (ag : Bool) :
    Calls Try.prog 50 #[.pointer (some ⟨q, 0, none⟩), .int .u64 (s : Int), .int .u64 (i : Int), .bool ag] w fun e w' => e = .returned (.tuple #[]) ∧
      Turn (Raw q p { X with N := X.N + 2, gU := useF (if ag then c else bumpU c i), gB := blkD (blkU f X.K s i) } Z) S w w' := by
  obtain ⟨bs, bq, bu, bb, vR, S1, S2, h, hS⟩ := h
  have HS := Bx.mk hS
  -- the places' counts
  obtain ⟨w1, h1, f1, hfirst⟩ : ∃ w1, Pr q p { X with N := X.N + 1, gU := useF (if ag then c else bumpU c i) } Z bs bq bu bb vR S1 S2 w1 ∧ Fp (Pset q bs bq bu bb S1 S2) w w1 ∧ (if ag then w1 = w else (Instr.mapUpdate 44 (.map (some bu)) (.int .u64 (i : Int)) (.int .i64 ((c i + 1 : Nat) : Int))).run Try.prog w = .ok () w1) := by
    cases ag with
    | true => exact ⟨w, by have := h.more (Nat.le_succ X.N); rw [if_pos rfl, ← hc]; exact this, Fp.refl _ _, rfl⟩
    | false =>
      obtain ⟨w1, r1, r2, r3⟩ := h.putU hc (by omega) hi (n := c i + 1) ⟨by omega, by omega⟩
      exact ⟨w1, r2, r3, r1⟩
  have hlu := h.lookU hc hi
  have hwc : IntKind.i64.wrap ((c i : Int) + 1) = ((c i + 1 : Nat) : Int) := by rw [IntKind.wrap_i64]; omega
  have hwc2 : wrap64 ((c i : Int) + 1) = ((c i + 1 : Nat) : Int) := by unfold wrap64; omega
  obtain ⟨c0, _, _, _, _, _, c6, _, _, _, _⟩ := h.cells
  obtain ⟨d0, _, _, d3, _, _, _, d7, _, _, _⟩ := h1.cells
  have HFIN0 : Bx (¬ X.K ≤ i → Turn (Raw q p { X with N := X.N + 2, gU := useF (if ag then c else bumpU c i), gB := blkD (blkU f X.K s i) } Z) S w w1) := ⟨fun hk => by
    rw [blkU_no hk, ← hf]
    exact (h1.more (N := X.N + 2) (by show X.N + 1 ≤ _; omega)).turn HS.out f1⟩
  obtain ⟨C, hC⟩ := letter (c i)
  obtain ⟨C1, hC1⟩ := letter (c i + 1)
  obtain ⟨I, hI⟩ := letter i
  obtain ⟨SS, hSS⟩ := letter s
  obtain ⟨K, hK⟩ := letter X.K
  rw [hC1] at hfirst hwc hwc2
  rw [hC] at hlu hwc hwc2
  rw [hI] at hlu hfirst
  simp only [hK] at d3
  by_cases hk : X.K ≤ i
  · have hd : decide (I ≥ K) = true := decide_eq_true (by omega)
    have hx := h1.keep (Below.refl w1.heap.size w1).drew
    have hlb := hx.lookB hf hs
    obtain ⟨w2, r1, r2, r3⟩ := hx.putB hf (show X.N + 1 < 1000000000 by omega) hs (n := max ((f s).getD 0) i) (by unfold okU; omega)
    obtain ⟨m, hm⟩ : ∃ m, (f s).getD 0 = m := ⟨_, rfl⟩
    rw [hm] at hlb r1
    have HFIN : Bx (Turn (Raw q p { X with N := X.N + 2, gU := useF (if ag then c else bumpU c i), gB := blkD (blkU f X.K s i) } Z) S w w2) := ⟨by
      rw [blkU_yes hk]
      exact r2.turn HS.out (f1.then ((Fp.of_below (Below.refl _ _).drew).then r3))⟩
    have hmx : ((max m i : Nat) : Int) = max (m : Int) I := by omega
    obtain ⟨M, hM⟩ := letter m
    rw [hSS] at hlb r1
    rw [hmx, hM] at r1
    rw [hM] at hlb
    rw [hI, hSS]
    clear hx r2 r3 hk hm hM hK hI hC hC1 h h1 f1 hS hc hf hcb hs hi hfb hib hN HFIN0 hmx hSS
    cases ag with
    | true =>
      simp only [if_true] at hfirst
      subst hfirst
      clear hlu hwc hwc2 c6 c0
      go_enter Try.func50, Try.ntmps50
      go_wp2_with fail
      go_region
      go_wp2_with fail
      go_end0
      exact ⟨rfl, HFIN.out⟩
    | false =>
      simp only [Bool.false_eq_true, if_false] at hfirst
      go_enter Try.func50, Try.ntmps50
      go_wp2_with fail
      go_region
      go_wp2_with fail
      go_end0
      exact ⟨rfl, HFIN.out⟩
  · have hd : decide (I ≥ K) = false := decide_eq_false (by omega)
    have HFIN := Bx.mk (HFIN0.out hk)
    rw [hI, hSS]
    clear hk hK hI hC hC1 h h1 f1 hS hc hf hcb hs hi hfb hib hN HFIN0 hSS
    cases ag with
    | true =>
      simp only [if_true] at hfirst
      subst hfirst
      clear hlu hwc hwc2 c6 c0
      go_enter Try.func50, Try.ntmps50
      go_wp2_with fail
      go_end0
      exact ⟨rfl, HFIN.out⟩
    | false =>
      simp only [Bool.false_eq_true, if_false] at hfirst
      go_enter Try.func50, Try.ntmps50
      go_wp2_with fail
      go_end0
      exact ⟨rfl, HFIN.out⟩
end
end Go.Proofs.Ytebakjdeighdnaa

/-
  Contracts of the document's blocked, many.
-/
namespace Go.Proofs.Ytebakjdeighdnaa
open Go.RowKit Go.Maps
set_option linter.unusedVariables false

theorem blk_take (op : List Qs) (K s k : Nat) (hk : k < op.length) : blkQ (op.take (k + 1)) K s = (blkQ (op.take k) K s || (decide (op[k].s = s) && decide (K < op[k].c))) := by
  unfold blkQ
  rw [List.take_succ_eq_append_getElem hk, List.any_append]
  simp
theorem blk_hit {op : List Qs} {K s k : Nat} (hk : k < op.length) (h1 : op[k].s = s) (h2 : K < op[k].c) : blkQ op K s = true := by
  unfold blkQ
  rw [List.any_eq_true]
  exact ⟨op[k], List.getElem_mem hk, by simp [h1, h2]⟩
theorem ps_get {ps : List (Qs × Value)} {op : List Qs} (h : ps.map Prod.fst = op) : ps.length = op.length ∧ ∀ k (h1 : k < ps.length) (h2 : k < op.length), ps[k].1 = op[k] := by
  subst h
  exact ⟨by simp, fun k h1 h2 => by simp⟩

section
variable {q t : Nat} {E : Qe} {w : World} {S : Nat → Prop}
def frsQ (op : List Qs) (j x : Nat) : Bool := (op.take j).all fun y => decide (y.s ≠ x)
theorem frs_take (op : List Qs) (j x : Nat) (hj : j < op.length) : frsQ op (j + 1) x = (frsQ op j x && decide (op[j].s ≠ x)) := by
  unfold frsQ
  rw [List.take_succ_eq_append_getElem hj, List.all_append]
  simp
theorem many_take (op : List Qs) (K k : Nat) (hk : k < op.length) : manyQ op K (k + 1) = manyQ op K k + if frsQ op k op[k].s && blkQ op K op[k].s then 1 else 0 := by
  show manyQ op K k + _ = _
  rw [List.getElem?_eq_getElem hk]
  rfl
theorem many_le (op : List Qs) (K : Nat) : ∀ k, manyQ op K k ≤ k
  | 0 => Nat.le_refl _
  | k + 1 => by
    have := many_le op K k
    show manyQ op K k + _ ≤ k + 1
    split
    · split <;> omega
    · omega
end
end Go.Proofs.Ytebakjdeighdnaa

/-
  Contract of the document's pinned.
-/
namespace Go.Proofs.Ytebakjdeighdnaa
open Go.RowKit Go.Maps
set_option linter.unusedVariables false

theorem mem_take_succ {l : List Nat} {k a : Nat} (hk : k < l.length) (h1 : ¬ a ∈ l.take k) (h2 : l[k] ≠ a) : ¬ a ∈ l.take (k + 1) := by
  rw [List.take_succ_eq_append_getElem hk, List.mem_append]
  rintro (h | h)
  · exact h1 h
  · exact h2 (List.mem_singleton.1 h).symm
theorem any_take_succ {op : List Qs} {k a : Nat} (hk : k < op.length) (h1 : (op.take k).any (fun x => decide (a ∈ x.u)) = false) (h2 : ¬ a ∈ op[k].u) : (op.take (k + 1)).any (fun x => decide (a ∈ x.u)) = false := by
  rw [List.take_succ_eq_append_getElem hk, List.any_append, h1]
  simp [h2]
theorem pin_known {op : List Qs} {K : Nat} {now : List Nat} {a : Nat} (h : K ≤ a) : pinQ op K now a = true := by unfold pinQ; simp [h]
theorem pin_now {op : List Qs} {K : Nat} {now : List Nat} {a k : Nat} (hk : k < now.length) (h : now[k] = a) : pinQ op K now a = true := by
  unfold pinQ
  have : a ∈ now := by rw [← h]; exact List.getElem_mem hk
  simp [this]
theorem pin_use {op : List Qs} {K : Nat} {now : List Nat} {a k j : Nat} (hk : k < op.length) (hj : j < op[k].u.length) (h : op[k].u[j] = a) : pinQ op K now a = true := by
  unfold pinQ
  have h1 : a ∈ op[k].u := by rw [← h]; exact List.getElem_mem hj
  have h2 : op.any (fun x => decide (a ∈ x.u)) = true := by
    rw [List.any_eq_true]
    exact ⟨op[k], List.getElem_mem hk, by simp [h1]⟩
  rw [h2]
  simp
theorem pin_no {op : List Qs} {K : Nat} {now : List Nat} {a : Nat} (h1 : ¬ K ≤ a) (h2 : ¬ a ∈ now) (h3 : op.any (fun x => decide (a ∈ x.u)) = false) : pinQ op K now a = false := by
  unfold pinQ
  rw [h3]
  simp [h1, h2]

section
variable {q t : Nat} {E : Qe} {w : World} {S : Nat → Prop}
end
end Go.Proofs.Ytebakjdeighdnaa

/-
  Contracts of slices.Index, slices.Contains, slices.Max at numbers of 64 bits, and of the program's count.
-/
namespace Go.Proofs.Ytebakjdeighdnaa
open Go.RowKit Go.Maps
set_option linter.unusedVariables false

section
variable {w : World} {v : Value} {ns : List Nat}
set_option maxRecDepth 100000 in
set_option maxHeartbeats 2000000 in
theorem uindex_any (h : Un w v ns) (a : Nat) :
    Calls Try.prog 67 #[v, .int .u64 (a : Int)] w fun e w' => (∃ r : Int, e = .returned (.int .i64 r) ∧ decide (r ≥ 0) = decide (a ∈ ns)) ∧ w = w' := by
  have hlen := fun ty W => h.run_len ty W
  have HN := Bx.mk h
  obtain ⟨m, hm⟩ : ∃ m, ns.length = m := ⟨_, rfl⟩
  rw [hm] at hlen
  have HM := Bx.mk hm
  have hmax : Bx (m ≤ maxLen) := ⟨by rw [← hm]; have := Rd.len h; simpa using this⟩
  obtain ⟨A, hA⟩ := letter a
  rw [hA]
  have HA := Bx.mk hA
  clear h hm hA
  go_enter Try.func67, Try.ntmps67
  go_wp2
  go_loopg [8] m (fun g s8 wx => ∃ k : Nat, k + g = m ∧ s8 = .int .i64 k ∧ Bx (¬ a ∈ ns.take k) ∧ Bx (w = wx))
  case atStart => exact ⟨0, by omega, rfl, ⟨by simp⟩, ⟨rfl⟩⟩
  case round =>
    obtain ⟨k, hkg, rfl, HB, HW⟩ := hrel
    obtain rfl := HW.out
    cases gk with
    | zero =>
      obtain rfl : k = m := by omega
      have HNO : Bx (¬ a ∈ ns) := ⟨by have := HB.out; rwa [← HM.out, List.take_length] at this⟩
      clear HB
      go_wp2
      go_ret
      exact ⟨⟨_, rfl, by constructor; exact fun h => absurd h (by decide); exact fun h => absurd h HNO.out⟩, rfl⟩
    | succ g =>
      have hk : k < m := by omega
      have hkz : (k : Int) < (m : Int) := by omega
      have hkn : k < ns.length := by rw [HM.out]; exact hk
      have hkb : (k : Int) < 9223372036854775807 := by have := hmax.out; unfold maxLen at this; omega
      obtain ⟨b, o, hix, hcs⟩ := HN.out.at_ k hkn
      have e0 := hcs w HN.out
      have HHIT : Bx (ns[k] = a → a ∈ ns) := ⟨fun h => by rw [← h]; exact List.getElem_mem hkn⟩
      have HMIS := Bx.mk (fun h => mem_take_succ hkn HB.out h)
      generalize ns[k] = z at e0 HHIT HMIS
      obtain ⟨Z, hZ⟩ := letter z
      rw [hZ] at e0
      have hA := HA.out
      clear hcs
      by_cases hza : z = a
      · have hb1 : (A == Z) = true := by rw [beq_iff_eq]; omega
        have HF := Bx.mk (HHIT.out hza)
        clear hza hZ hA HHIT HMIS
        go_wp2
        go_ret
        exact ⟨⟨_, rfl, by constructor; exact fun _ => HF.out; exact fun _ => by omega⟩, rfl⟩
      · have hb1 : (A == Z) = false := by rw [beq_eq_false_iff_ne]; omega
        have HF := Bx.mk (HMIS.out hza)
        clear hza hZ hA HHIT HMIS
        go_wp2
        go_roundg g
        case measure => omega
        case rel => exact ⟨k + 1, by omega, by go_num, HF, ⟨rfl⟩⟩

set_option maxRecDepth 100000 in
theorem ucontains_any (h : Un w v ns) (a : Nat) :
    Calls Try.prog 49 #[v, .int .u64 (a : Int)] w fun e w' => e = .returned (.bool (decide (a ∈ ns))) ∧ w = w' := by
  have HC := Bx.mk (uindex_any h a)
  obtain ⟨A, hA⟩ := letter a
  rw [hA] at HC ⊢
  obtain ⟨z, hz⟩ : ∃ z, decide (a ∈ ns) = z := ⟨_, rfl⟩
  rw [hz] at HC ⊢
  clear h hA hz
  go_enter Try.func49, Try.ntmps49
  go_wp2_with (go_at_call 67; refine HC.out.mono ?_; rintro e w1 ⟨⟨r, rfl, hr⟩, rfl⟩; subst hr)
  go_ret
  exact ⟨rfl, rfl⟩

def mxN (l : List Nat) : Nat := l.foldl max 0
theorem mxN_snoc (l : List Nat) (a : Nat) : mxN (l ++ [a]) = max (mxN l) a := by unfold mxN; rw [List.foldl_append]; rfl
theorem mxN_take {l : List Nat} {k : Nat} (hk : k < l.length) : mxN (l.take (k + 1)) = max (mxN (l.take k)) l[k] := by rw [List.take_succ_eq_append_getElem hk, mxN_snoc]
set_option maxRecDepth 100000 in
set_option maxHeartbeats 2000000 in
theorem umax_any (h : Un w v ns) (hne : 0 < ns.length) :
    Calls Try.prog 51 #[v] w fun e w' => e = .returned (.int .u64 (mxN ns : Int)) ∧ w = w' := by
  have hlen := fun ty W => h.run_len ty W
  have HN := Bx.mk h
  obtain ⟨b, o, hix, hcs⟩ := h.at_ 0 hne
  have e0 := hcs w h
  have H1 : Bx (mxN (ns.take 1) = ns[0]) := ⟨by rw [mxN_take hne]; simp [mxN]⟩
  obtain ⟨m, hm⟩ : ∃ m, ns.length = m := ⟨_, rfl⟩
  rw [hm] at hlen
  have HM := Bx.mk hm
  have hmax : Bx (m ≤ maxLen) := ⟨by rw [← hm]; have := Rd.len h; simpa using this⟩
  have hmp : 0 < m := by omega
  have hd : decide ((m : Int) < 1) = false := decide_eq_false (by omega)
  rw [show ((0 : Nat) : Int) = 0 from rfl] at hix
  generalize ns[0] = z0 at e0 H1
  clear h hm hcs hne
  obtain ⟨Z0, hZ0⟩ := letter z0
  rw [hZ0] at e0
  have HZ0 := Bx.mk hZ0
  clear hZ0
  go_enter Try.func51, Try.ntmps51
  go_wp2
  clear e0 hix hd
  go_loopg [3, 4] (m - 1) (fun g s3 s4 wx => ∃ (k : Nat) (Z : Int), k + g = m ∧ 1 ≤ k ∧ s4 = .int .i64 k ∧ s3 = .int .u64 Z ∧ Bx ((mxN (ns.take k) : Int) = Z) ∧ Bx (w = wx))
  case atStart => exact ⟨1, Z0, by omega, Nat.le_refl _, rfl, rfl, ⟨by rw [H1.out]; exact HZ0.out⟩, ⟨rfl⟩⟩
  case round =>
    obtain ⟨k, Z, hkg, hk1, rfl, rfl, HB, HW⟩ := hrel
    obtain rfl := HW.out
    cases gk with
    | zero =>
      obtain rfl : k = m := by omega
      have HF : Bx ((mxN ns : Int) = Z) := ⟨by have := HB.out; rwa [← HM.out, List.take_length] at this⟩
      go_wp2
      go_ret
      exact ⟨by rw [HF.out]; rfl, rfl⟩
    | succ g =>
      have hk : k < m := by omega
      have hkz : (k : Int) < (m : Int) := by omega
      have hkn : k < ns.length := by rw [HM.out]; exact hk
      have hkb : (k : Int) < 9223372036854775807 := by have := hmax.out; unfold maxLen at this; omega
      obtain ⟨b2, o2, hix2, hcs2⟩ := HN.out.at_ k hkn
      have f0 := hcs2 w HN.out
      have HT := Bx.mk (mxN_take hkn)
      generalize ns[k] = y at f0 HT
      obtain ⟨Y, hY⟩ := letter y
      rw [hY] at f0
      have HY := Bx.mk hY
      have HR : Bx ((mxN (ns.take (k + 1)) : Int) = max Z Y) := ⟨by rw [HT.out, ← HB.out, ← hY]; omega⟩
      clear hcs2 hY
      go_wp2
      go_roundg g
      case measure => omega
      case rel => exact ⟨k + 1, max Z Y, by omega, by omega, by go_num, rfl, HR, ⟨rfl⟩⟩

/-- One more than the greatest of them. -/
def ctN (l : List Nat) : Nat := if l.length = 0 then 0 else mxN l + 1
set_option maxRecDepth 100000 in
theorem count_any8 (h : Un w v ns) (hb : ∀ a ∈ ns, a ≤ 1000000) :
    Calls Try.prog 32 #[v] w fun e w' => e = .returned (.int .u64 (ctN ns : Int)) ∧ w = w' := by
  have hlen := fun ty W => h.run_len ty W
  unfold ctN
  by_cases h0 : ns.length = 0
  · rw [if_pos h0]
    rw [h0] at hlen
    clear h hb h0
    go_enter Try.func32, Try.ntmps32
    go_wp2_with fail
    go_ret
    exact ⟨rfl, rfl⟩
  · rw [if_neg h0]
    have HC := Bx.mk (umax_any h (by omega))
    have hmx : mxN ns ≤ 1000000 := by
      have : ∀ (l : List Nat) (r : Nat), r ≤ 1000000 → (∀ a ∈ l, a ≤ 1000000) → l.foldl max r ≤ 1000000 := fun l => by
        induction l with
        | nil => intro r hr _; exact hr
        | cons a l ih => intro r hr hl; exact ih _ (by have := hl a (List.mem_cons_self ..); omega) fun x hx => hl x (List.mem_cons_of_mem _ hx)
      exact this ns 0 (by omega) hb
    obtain ⟨m, hm⟩ : ∃ m, ns.length = m := ⟨_, rfl⟩
    rw [hm] at hlen h0
    have hd : ((m : Int) == 0) = false := by rw [beq_eq_false_iff_ne]; omega
    generalize mxN ns = x at HC hmx ⊢
    have hw : IntKind.u64.wrap ((x : Int) + 1) = ((x + 1 : Nat) : Int) := by rw [IntKind.wrap_u64]; omega
    obtain ⟨X, hX⟩ := letter x
    obtain ⟨Y, hY⟩ := letter (x + 1)
    rw [hX] at HC
    rw [hX, hY] at hw
    rw [hY]
    clear h hb hm hmx h0 hX hY
    go_enter Try.func32, Try.ntmps32
    go_wp2_with (go_at_call 51; refine HC.out.mono ?_; rintro e w1 ⟨rfl, rfl⟩)
    go_ret
    exact ⟨rfl, rfl⟩
end
end Go.Proofs.Ytebakjdeighdnaa

/-
  Contract of the document's room.
-/
namespace Go.Proofs.Ytebakjdeighdnaa
open Go.RowKit Go.Maps
set_option linter.unusedVariables false

/-- v[i:i+1] -/
theorem Fs.cutAt {w : World} {v : Value} {l : List Fd} (h : Fs w v l) (i : Nat) (hi : i < l.length) :
    ∃ v', (∀ W : World, (Instr.slice 26 v (some (.int .i64 (i : Int))) (some (.int .i64 ((i : Int) + 1))) none).run Try.prog W = .ok v' W) ∧ ∀ W, Fs W v l → Fs W v' [l[i]] := by
  have helem : Try.prog.underlying 26 = some (.slice (Try.prog.elem 26)) := by kernel_rfl
  have hsz : ∀ W : World, (sizeOf (Try.prog.elem 26)).run Try.prog W = .ok 2 W := fun W => by kernel_rfl
  obtain ⟨b, o, c, rfl, h1, h2, _, _⟩ := Rn.at_ h (by omega) (by omega)
  refine ⟨.slice (some ⟨b, o + i * 2, none⟩) 1 (c - i), fun W => ?_, fun W hW => ?_⟩
  · rw [run_slice_lh W 26 (some ⟨b, o, none⟩) l.length c helem .i64 .i64 (i : Int) ((i : Int) + 1) (by omega) (by omega) (by omega), hsz]
    simp only [Result.andThen, sliced, Int.toNat_natCast]
    rw [if_neg (by omega)]
    simp [Addr.add]
  · obtain ⟨b', o', c', e, _, _, _, hc⟩ := Rn.at_ hW (by omega) (by omega)
    injection e with e1 e2 e3
    injection e1 with e1
    injection e1 with e1 e4
    subst e1; subst e4
    refine ⟨_, _, rfl, by show 1 ≤ _; omega, by omega, rfl, .inr ⟨_, rfl, fun j u hu => ?_⟩⟩
    have hv := fvl_at l i hi
    rw [Addr.add_lit]
    match j, hu with
    | 0, hu => rw [Nat.add_zero]; rw [hc _ _ hv.1]; simpa [fvl] using hu
    | 1, hu => rw [Nat.add_assoc, hc _ _ hv.2]; simpa [fvl] using hu
    | j + 2, hu => simp [fvl] at hu

theorem room_out {op : List Qs} {K : Nat} {T : Tab} {f : Fd} {now : List Nat} (h : secN f.1 = true ∨ T.cap / 4 < fsz f + 32) : roomQ op K T f now = false := by
  unfold roomQ
  rcases h with h | h
  · rw [h]; rfl
  · rw [show decide (fsz f + 32 ≤ T.cap / 4) = false from decide_eq_false (by omega)]
    simp
theorem room_in {op : List Qs} {K : Nat} {T : Tab} {f : Fd} {now : List Nat} (h1 : secN f.1 = false) (h2 : fsz f + 32 ≤ T.cap / 4) : roomQ op K T f now = roomGo T.cap (fsz f + 32) (pinQ op K now) T.l T.first := by
  unfold roomQ
  rw [h1, show decide (fsz f + 32 ≤ T.cap / 4) = true from decide_eq_true h2]
  simp
theorem roomGo_cons {cap n : Nat} {pin : Nat → Bool} {g : Fd} {r : List Fd} {a : Nat} : roomGo cap n pin (g :: r) a = if cap < sizeF (g :: r) + n then (if pin a then false else roomGo cap n pin r (a + 1)) else true := rfl

theorem quarter {cap : Nat} {C4 : Int} (h : cap ≤ 1000000) (hC4 : ((cap / 4 : Nat) : Int) = C4) : wrap64 ((cap : Int) / 4) = C4 ∧ ((cap : Int)).tdiv 4 = C4 ∧ wrap64 C4 = C4 ∧ IntKind.i64.wrap C4 = C4 := by
  have e : (cap : Int) / 4 = C4 := by omega
  have h0 : 0 ≤ C4 := by omega
  have h1 : C4 ≤ 1000000 := by omega
  refine ⟨?_, ?_, ?_, ?_⟩
  · rw [e]; unfold wrap64; omega
  · rw [Int.tdiv_eq_ediv_of_nonneg (by omega)]; exact e
  · unfold wrap64; omega
  · rw [IntKind.wrap_i64]; omega
section
variable {q t : Nat} {E : Qe} {w : World} {S : Nat → Prop}
end
end Go.Proofs.Ytebakjdeighdnaa

/-
  Slices of the static tables' rows: what they read as.
-/
namespace Go.Proofs.Ytebakjdeighdnaa
open Go.RowKit
set_option linter.unusedVariables false

theorem Fs.row_len {w : World} {v : Value} {l : List Fd} (h : Fs w v l) (ty : TypeId) (W : World) : (Builtin.len_ #[88] ty #[v]).run Try.prog W = .ok (.int .i64 (l.length : Int)) W := by
  obtain ⟨A, c, rfl, h1, h2, h3⟩ := h
  simp [Builtin.len_, run_underlying Try.underlying88, goInt]
/-- The place of v[i], and what lies there. -/
theorem Fs.row_at {w : World} {v : Value} {l : List Fd} (h : Fs w v l) (i : Nat) (hi : i < l.length) :
    ∃ b o : Nat, (∀ (q : IntKind) (W : World), (Instr.indexAt 88 v (.int q (i : Int))).run Try.prog W = .ok (.pointer (some ⟨b, o, none⟩)) W) ∧
      ∀ W : World, Fs W v l → W.cell? ⟨b, o, none⟩ = some (.string l[i].1) ∧ W.cell? ⟨b, o + 1, none⟩ = some (.string l[i].2) := by
  obtain ⟨b, o, c, rfl, h1, h2, h3, hc⟩ := Rn.at_ h (by omega) (by omega)
  have hsz : ∀ W : World, (sizeOf (Try.prog.elem 88)).run Try.prog W = .ok 2 W := fun W => by kernel_rfl
  refine ⟨b, o + i * 2, fun q W => ?_, fun W hW => ?_⟩
  · simp [Instr.indexAt, asIntOf, run_underlying Try.underlying88, Sem.run_bind, hi, Result.andThen]
    simp [Addr.add]
  · obtain ⟨b', o', c', e, _, _, _, hc'⟩ := Rn.at_ hW (by omega) (by omega)
    injection e with e1 e2 e3
    injection e1 with e1
    injection e1 with e1 e4
    subst e1; subst e4
    have := fvl_at l i hi
    exact ⟨hc' _ _ this.1, hc' _ _ this.2⟩


end Go.Proofs.Ytebakjdeighdnaa

/-
  Contracts of find's closure, of slices.IndexFunc with it.
-/
namespace Go.Proofs.Ytebakjdeighdnaa
open Go.RowKit
set_option linter.unusedVariables false

theorem str_eqS (a b : ByteArray) (h : a.toList = b.toList) : a = b := by
  rw [Lib.toList_data, Lib.toList_data] at h
  have := Array.toList_inj.1 h
  cases a; cases b; simp_all
theorem str_beq_trueS {a b : ByteArray} (h : a = b) : (a.toList == b.toList) = true := by rw [h]; exact beq_self_eq_true _
theorem str_beq_falseS {a b : ByteArray} (h : ¬ a = b) : (a.toList == b.toList) = false := by
  rw [beq_eq_false_iff_ne]
  exact fun h2 => h (str_eqS a b h2)
theorem str_beq (a b : ByteArray) : (a.toList == b.toList) = decide (a = b) := by
  by_cases h : a = b
  · rw [str_beq_trueS h, decide_eq_true h]
  · rw [str_beq_falseS h, decide_eq_false h]

set_option maxRecDepth 100000 in
set_option maxHeartbeats 1000000 in
theorem named_any (r f : Fd) (g : Nat) (w : World) (hf : Fb 90 w g f) :
    Calls Try.prog 57 #[.agg #[.string r.1, .string r.2], .pointer (some ⟨g, 0, none⟩)] w fun e w' => e = .returned (.bool (decide (r.1 = f.1))) ∧ Below w.heap.size w w' := by
  obtain ⟨r1, r2⟩ := r
  obtain ⟨f1, f2⟩ := f
  have HF := Bx.mk (hf.alloc (.cells #[.string r1, .string r2] 90))
  obtain ⟨hc, _⟩ := HF.out.cells
  have HN := Fb.new 90 w (r1, r2)
  obtain ⟨hd, _⟩ := HN.cells
  have HE := Bx.mk (str_beq r1 f1)
  clear hf HN
  simp only at hc hd
  go_enter Try.func57, Try.ntmps57
  go_wp2
  go_ret
  exact ⟨by rw [← HE.out]; rfl, (Below.refl _ _).alloc (Nat.le_refl _) _⟩

/-- The number of the first that has f's name, or -1. -/
def namedI (l : List Fd) (f : Fd) : Int := match l.findIdx? (fun g => decide (g.1 = f.1)) with | some i => (i : Int) | none => -1

set_option maxRecDepth 100000 in
set_option maxHeartbeats 1000000 in
theorem index_any (v : Value) (l : List Fd) (f : Fd) (g : Nat) (w : World) (hv : Fs w v l) (hl : l.length ≤ 1000) (hf : Fb 90 w g f) :
    Calls Try.prog 56 #[v, .func (.func 57) #[] #[.pointer (some ⟨g, 0, none⟩)]] w fun e w' => e = .returned (.int .i64 (namedI l f)) ∧ Below w.heap.size w w' := by
  have HV := Bx.mk hv
  have HL := Bx.mk hl
  have HF := Bx.mk hf
  have hlen := fun ty W => hv.row_len ty W
  clear hv hf
  go_enter Try.func56, Try.ntmps56
  go_wp2
  go_loopg [8] l.length (fun n s8 wx => ∃ k : Nat, k + n = l.length ∧ s8 = .int .i64 k ∧ Bx (∀ j (hj : j < k) (hjl : j < l.length), l[j].1 ≠ f.1) ∧ Bx (Below w.heap.size w wx))
  case atStart => exact ⟨0, by omega, rfl, ⟨fun j hj => absurd hj (Nat.not_lt_zero _)⟩, ⟨Below.refl _ _⟩⟩
  case round =>
    obtain ⟨k, hkg, rfl, HP, HB⟩ := hrel
    cases gk with
    | zero =>
      obtain rfl : k = l.length := by omega
      go_wp2
      go_ret
      refine ⟨?_, HB.out⟩
      unfold namedI
      rw [findIdx_none (fun j hj => by simpa using HP.out j hj hj)]
      rfl
    | succ n =>
      have hk : k < l.length := by omega
      obtain ⟨b, o, hix, hcs⟩ := HV.out.row_at k hk
      obtain ⟨hc1, hc2⟩ := hcs wr (HV.out.keep HB.out)
      have HFW := Bx.mk (HF.out.keep HB.out)
      have HK := Bx.mk hk
      obtain ⟨f1, hf1⟩ : ∃ f1, l[k].1 = f1 := ⟨_, rfl⟩
      obtain ⟨f2, hf2⟩ : ∃ f2, l[k].2 = f2 := ⟨_, rfl⟩
      rw [hf1] at hc1
      rw [hf2] at hc2
      have HF1 := Bx.mk hf1
      clear hcs hf1 hf2
      by_cases hn : f1 = f.1
      · have HN := Bx.mk hn
        clear hn
        go_wp2_with fail
        refine (named_any (f1, f2) f g _ HFW.out).mono ?_
        rintro e w2 ⟨rfl, hb⟩
        have HB2 := Bx.mk (HB.out.trans (hb.mono HB.out.size))
        have ht : decide ((f1, f2).1 = f.1) = true := decide_eq_true HN.out
        rw [ht]
        clear hb ht
        go_wp2
        go_ret
        refine ⟨?_, HB2.out⟩
        unfold namedI
        rw [findIdx_some HK.out (by rw [HF1.out]; exact decide_eq_true HN.out) (fun j hj => decide_eq_false (HP.out j hj (by have := HK.out; omega)))]
        rfl
      · have HN := Bx.mk hn
        clear hn
        go_wp2_with fail
        refine (named_any (f1, f2) f g _ HFW.out).mono ?_
        rintro e w2 ⟨rfl, hb⟩
        have HB2 := Bx.mk (HB.out.trans (hb.mono HB.out.size))
        have ht : decide ((f1, f2).1 = f.1) = false := decide_eq_false HN.out
        rw [ht]
        clear hb ht
        go_wp2
        go_roundg n
        case measure => omega
        case rel => exact ⟨k + 1, by omega, by go_num, ⟨fun j hj hjl => by
          rcases Nat.lt_or_ge j k with h1 | h1
          · exact HP.out j h1 hjl
          · obtain rfl : j = k := by omega
            rw [HF1.out]; exact HN.out⟩, HB2⟩

end Go.Proofs.Ytebakjdeighdnaa

/-
  Contract of the document's FindIn.
-/
namespace Go.Proofs.Ytebakjdeighdnaa
open Go.RowKit
set_option linter.unusedVariables false

def findV (l : List Fd) (f : Fd) : Value := .tuple #[.int .i64 ((findS l f).1 : Int), .bool (findS l f).2.1, .bool (findS l f).2.2]

theorem findS_lt (l : List Fd) (f : Fd) : (∃ m q, m < l.length ∧ findS l f = (m, true, q)) ∨ findS l f = (0, false, false) := by
  unfold findS
  split
  · rename_i m h
    exact .inl ⟨m, true, (List.findIdx?_eq_some_iff_getElem.1 h).1, rfl⟩
  · split
    · rename_i m h
      exact .inl ⟨m, false, (List.findIdx?_eq_some_iff_getElem.1 h).1, rfl⟩
    · exact .inr rfl

end Go.Proofs.Ytebakjdeighdnaa

/-
  The tables as cells.
-/
namespace Go.Proofs.Ytebakjdeighdnaa
open Go.RowKit
set_option linter.unusedVariables false

def C2 : Array Value := (T2.flatMap fvl).toArray
theorem c2_size : C2.size = 122 := by decide +kernel

def C3 : Array Value := (T3.flatMap fvl).toArray
theorem c3_size : C3.size = 198 := by decide +kernel

theorem Fs.lit (w : World) (e : TypeId) (l : List Fd) (n : Nat) (hn : l.length = n) (hm : n ≤ maxLen) (cs : Array Value) (hc : cs.toList = l.flatMap fvl) :
    Fs (w.alloc (.cells cs e)) (.slice (some ⟨w.heap.size, 0, none⟩) n n) l := by
  subst hn
  have h := An.lit (k := 2) w e cs l.length (by rw [← Array.length_toList, hc, fvl_length]) hm
  have := An.rd h
  rw [hc] at this
  exact this

end Go.Proofs.Ytebakjdeighdnaa
