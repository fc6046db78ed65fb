/-
  Texts put together: QpMath, QpW, QpA, QpE, QpF, QpB, QpG, QpH, QpI, QpJ, QpK, QpL, QpM, QpN.
-/
import Derived.Test.YteopmaaghhendaaM17
import Derived.Maps.Views
import Derived.Lib.SlMapFilter
import Derived.Test.YteopmaaghhendaaM01
import Derived.Test.YteopmaaghhendaaM06
import Derived.BigRegion
import Derived.BigQuiet
import Derived.Lib.MinMax
import Derived.Shelf.SlMaps.DeleteFunc
import Derived.Deep.RegionHeld

/-
  Maps told by what they answer; places told once; how many sections use a place; which streams are blocked: plain mathematics.
-/
namespace Go.Proofs.Yteopmaaghhendaa
open Go.RowKit Go.Maps
set_option linter.unusedVariables false

/-! ### maps -/
/-- How keys read. -/
structure Kl {κ : Type} (kl : κ → Lit) (ok : κ → Prop) : Prop where
  inj : ∀ a b, ok a → ok b → kl a = kl b → a = b
  key : ∀ a, ok a → WideAt.IsKeyLit (kl a)
/-- What a map answers to each key. -/
structure Mf {κ : Type} (kl : κ → Lit) (ok : κ → Prop) (f : κ → Option (DataW Unit)) (D : DataW Unit) : Prop where
  tidy : Tidy D
  keys : ∀ es, D = .map es → ∀ p ∈ es, ∃ k, ok k ∧ p.1 = kl k
  has : ∀ k, ok k → Maps.has D (kl k) = (f k).isSome
  at_ : ∀ k, ok k → ∀ z, D.atKey (kl k) z = (f k).getD z
section
variable {κ : Type} {kl : κ → Lit} {ok : κ → Prop} {f g : κ → Option (DataW Unit)} {D : DataW Unit}
theorem Mf.congr (h : Mf kl ok f D) (e : ∀ k, ok k → f k = g k) : Mf kl ok g D :=
  ⟨h.tidy, h.keys, fun k hk => by rw [h.has k hk, e k hk], fun k hk z => by rw [h.at_ k hk z, e k hk]⟩
theorem Mf.new (kl : κ → Lit) (ok : κ → Prop) : Mf kl ok (fun _ => none) (.map []) :=
  ⟨tidy_empty, (fun es e p hp => by injection e with e; subst e; cases hp), fun _ _ => rfl, fun _ _ _ => rfl⟩
theorem Mf.put [DecidableEq κ] (K : Kl kl ok) (h : Mf kl ok f D) {k : κ} (hk : ok k) (d : DataW Unit) : Mf kl ok (fun j => if j = k then some d else f j) (D.put (kl k) d) := by
  refine ⟨h.tidy.put (K.key k hk) d, fun es e p hp => ?_, fun j hj => ?_, fun j hj z => ?_⟩
  · obtain ⟨es0, rfl, _⟩ := h.tidy
    rw [DataW.put_eq] at e
    injection e with e
    subst e
    rcases List.mem_cons.1 ((WideShapes.insert_perm (kl k, d) _).mem_iff.1 hp) with rfl | hp
    · exact ⟨k, hk, rfl⟩
    · exact h.keys _ rfl p (List.mem_filter.1 hp).1
  · by_cases he : j = k
    · subst he
      rw [has_put_same h.tidy.isMap (K.key j hj), if_pos rfl]
      rfl
    · rw [has_put_other (fun e => he (K.inj _ _ hj hk e)), h.has j hj, if_neg he]
  · by_cases he : j = k
    · subst he
      rw [atKey_put_same h.tidy.isMap (K.key j hj), if_pos rfl]
      rfl
    · rw [atKey_put_other (fun e => he (K.inj _ _ hj hk e)), h.at_ j hj, if_neg he]
theorem Mf.del [DecidableEq κ] (K : Kl kl ok) (h : Mf kl ok f D) {k : κ} (hk : ok k) : Mf kl ok (fun j => if j = k then none else f j) (D.del (kl k)) := by
  refine ⟨h.tidy.del _, fun es e p hp => ?_, fun j hj => ?_, fun j hj z => ?_⟩
  · obtain ⟨es0, rfl, _⟩ := h.tidy
    rw [DataW.del_eq] at e
    injection e with e
    subst e
    exact h.keys _ rfl p (List.mem_filter.1 hp).1
  · by_cases he : j = k
    · subst he
      rw [has_del_same, if_pos rfl]
      rfl
    · rw [has_del_other (fun e => he (K.inj _ _ hj hk e)), h.has j hj, if_neg he]
  · by_cases he : j = k
    · subst he
      rw [atKey_del_same, if_pos rfl]
      rfl
    · rw [atKey_del_other (fun e => he (K.inj _ _ hj hk e)), h.at_ j hj, if_neg he]
theorem Mf.mem (h : Mf kl ok f D) {es : List (Lit × DataW Unit)} (e : D = .map es) {k : κ} (hk : ok k) {d : DataW Unit} (K : Kl kl ok) : (kl k, d) ∈ es ↔ f k = some d := by
  subst e
  obtain ⟨es0, e, hp⟩ := h.tidy
  injection e with e
  subst e
  constructor
  · intro hm
    have h1 : Maps.has (DataW.map es) (kl k) = true := List.any_eq_true.2 ⟨_, hm, WideAt.sameKey_self (K.key k hk)⟩
    have h2 := WideAt.atKey_mem .nil (K.key k hk) hp hm
    rw [h.at_ k hk] at h2
    rw [h.has k hk] at h1
    obtain ⟨y, hy⟩ := Option.isSome_iff_exists.1 h1
    rw [hy] at h2 ⊢
    exact congrArg some h2
  · intro hf
    have h1 := h.has k hk
    rw [hf] at h1
    obtain ⟨p, hp1, hp2⟩ := List.any_eq_true.1 h1
    have e1 := WideAt.sameKey_eq hp2
    have h2 := WideAt.atKey_mem .nil (K.key k hk) hp (show (kl k, p.2) ∈ es by rw [← e1]; exact hp1)
    rw [h.at_ k hk, hf] at h2
    have h3 : d = p.2 := h2
    rw [h3, ← e1]
    exact hp1
/-- How many keys there are. -/
theorem Mf.size (K : Kl kl ok) (h : Mf kl ok f D) {ks : List κ} (hn : ks.Nodup) (hk : ∀ k, k ∈ ks ↔ ok k ∧ (f k).isSome = true) : Maps.size D = ks.length := by
  obtain ⟨es, rfl, hp⟩ := h.tidy
  have h1 : (es.map Prod.fst).Nodup := List.pairwise_map.2 hp
  have h2 : (ks.map kl).Nodup := List.pairwise_map.2 (List.Pairwise.imp_of_mem (fun {a b} ha hb hne e => hne (K.inj _ _ ((hk a).1 ha).1 ((hk b).1 hb).1 e)) hn)
  have hperm := (List.perm_ext_iff_of_nodup h1 h2).2 fun x => by
    constructor
    · intro hx
      obtain ⟨p, hp1, rfl⟩ := List.mem_map.1 hx
      obtain ⟨k, hok, e⟩ := h.keys _ rfl p hp1
      have hf := (h.mem rfl hok K).1 (show (kl k, p.2) ∈ es by rw [← e]; exact hp1)
      exact List.mem_map.2 ⟨k, (hk k).2 ⟨hok, by rw [hf]; rfl⟩, e.symm⟩
    · intro hx
      obtain ⟨k, hk1, rfl⟩ := List.mem_map.1 hx
      obtain ⟨hok, hs⟩ := (hk k).1 hk1
      obtain ⟨d, hd⟩ := Option.isSome_iff_exists.1 hs
      exact List.mem_map.2 ⟨_, (h.mem rfl hok K).2 hd, rfl⟩
  have := hperm.length_eq
  rw [List.length_map, List.length_map] at this
  exact this
end
/-! ### places, each once -/
def uqGo (r l : List Nat) : List Nat := l.foldl (fun r a => if a ∈ r then r else r ++ [a]) r
def uq (l : List Nat) : List Nat := uqGo [] l
theorem mem_uqGo (a : Nat) : ∀ l r : List Nat, a ∈ uqGo r l ↔ a ∈ r ∨ a ∈ l
  | [], r => by simp [uqGo]
  | b :: l, r => by
    show a ∈ uqGo (if b ∈ r then r else r ++ [b]) l ↔ _
    rw [mem_uqGo a l]
    split
    · rename_i hb
      rw [List.mem_cons]
      constructor
      · rintro (h | h)
        · exact .inl h
        · exact .inr (.inr h)
      · rintro (h | h | h)
        · exact .inl h
        · subst h; exact .inl hb
        · exact .inr h
    · rw [List.mem_append, List.mem_singleton, List.mem_cons, or_assoc]
theorem mem_uq {a : Nat} {l : List Nat} : a ∈ uq l ↔ a ∈ l := by
  unfold uq
  rw [mem_uqGo]
  simp
/-! ### sections -/
def secs (op : List Qs) (s : Nat) : List Qs := op.filter fun x => decide (x.s = s)
/-! ### blocked -/
end Go.Proofs.Yteopmaaghhendaa

/-
  Maps in blocks of their own, told by what they answer; the program's QPACK encoder as a word.
-/
namespace Go.Proofs.Yteopmaaghhendaa
open Go.RowKit Go.Maps
set_option linter.unusedVariables false

/-! ### a map in a block of its own -/
/-- Block b is a map of at most N entries that answers f. -/
def Mo {κ : Type} (kt : TypeId) (R : Value → Option (DataW Unit × List MemPlace)) (kl : κ → Lit) (ok : κ → Prop) (f : κ → Option (DataW Unit)) (b N : Nat) (w : World) : Prop :=
  ∃ D, w.ownsMap Try.prog kt R b N D ∧ Mf kl ok f D
section
variable {κ : Type} {kt e t : TypeId} {R : Value → Option (DataW Unit × List MemPlace)} {kl : κ → Lit} {ok : κ → Prop} {f g : κ → Option (DataW Unit)} {b N : Nat} {w w' : World}
theorem Mo.lt (h : Mo kt R kl ok f b N w) : b < w.heap.size := by obtain ⟨D, h, _⟩ := h; exact h.lt
theorem Mo.kept (h : Mo kt R kl ok f b N w) (hb : w'.heap[b]? = w.heap[b]?) : Mo kt R kl ok f b N w' := by
  obtain ⟨D, ⟨es, cl, h1, h2, h3, h4⟩, m⟩ := h
  exact ⟨D, ⟨es, cl, hb.trans h1, h2, h3, h4⟩, m⟩
theorem Mo.congr (h : Mo kt R kl ok f b N w) (hf : ∀ k, ok k → f k = g k) : Mo kt R kl ok g b N w := by
  obtain ⟨D, h1, m⟩ := h
  exact ⟨D, h1, m.congr hf⟩
theorem Mo.made (kt : TypeId) (R : Value → Option (DataW Unit × List MemPlace)) (kl : κ → Lit) (ok : κ → Prop) (w : World) : Mo kt R kl ok (fun _ => none) w.heap.size 0 (w.alloc (.map #[] 0)) :=
  ⟨_, World.ownsMap_made w _ _ _, Mf.new kl ok⟩
theorem ownsMap_tight {D : DataW Unit} {n : Nat} (h : w.ownsMap Try.prog kt R b n D) : w.ownsMap Try.prog kt R b (Maps.size D) D := by
  obtain ⟨es, cl, h1, h2, h3, h4⟩ := h
  refine ⟨es, cl, h1, h2, ?_, h4⟩
  rw [h4, size_eq, length_sorted]
  simp
theorem Mo.put [DecidableEq κ] (K : Keyed Try.prog kt) (KL : Kl kl ok) (ht : Try.prog.underlying t = some (.map kt e)) (h : Mo kt R kl ok f b N w) (hN : N < 1000000000) {k : κ} (hk : ok k) {key val : Value} {d : DataW Unit} {ps : List MemPlace}
    (hkey : keyOf Try.prog kt key = some (kl k)) (hv : R val = some (d, ps)) :
    ∃ w', (Instr.mapUpdate t (.map (some b)) key val).run Try.prog w = .ok () w' ∧ Mo kt R kl ok (fun j => if j = k then some d else f j) b (N + 1) w' ∧ w.grownBy w' (some b) := by
  obtain ⟨D, h1, m⟩ := h
  obtain ⟨w', hrun, ho, hg⟩ := h1.update K ht (by unfold maxLen; omega) hkey hv
  exact ⟨w', hrun, ⟨_, ho, m.put KL hk d⟩, hg⟩
theorem Mo.drop [DecidableEq κ] (K : Keyed Try.prog kt) (KL : Kl kl ok) (ht : Try.prog.underlying t = some (.map kt e)) (h : Mo kt R kl ok f b N w) {k : κ} (hk : ok k) {key : Value} (hkey : keyOf Try.prog kt key = some (kl k)) (ty : TypeId) :
    ∃ w', (Builtin.delete_ #[t, kt] ty #[.map (some b), key]).run Try.prog w = .ok (.tuple #[]) w' ∧ Mo kt R kl ok (fun j => if j = k then none else f j) b N w' ∧ w.grownBy w' (some b) := by
  obtain ⟨D, h1, m⟩ := h
  obtain ⟨w', hrun, ho, hg⟩ := h1.drop K ht hkey ty
  exact ⟨w', hrun, ⟨_, ho, m.del KL hk⟩, hg.grown⟩
theorem Mo.look_ok (K : Keyed Try.prog kt) (ht : Try.prog.underlying t = some (.map kt e)) (h : Mo kt R kl ok f b N w) {k : κ} (hk : ok k) {key z : Value} (hz : (zeroValue e).run Try.prog w = .ok z w) {zd : DataW Unit} {zp : List MemPlace} (hzd : R z = some (zd, zp))
    (hkey : keyOf Try.prog kt key = some (kl k)) : ∃ v ps, (Instr.lookup t (.map (some b)) key true).run Try.prog w = .ok (.tuple #[v, .bool (f k).isSome]) w ∧ R v = some ((f k).getD zd, ps) := by
  obtain ⟨D, h1, m⟩ := h
  obtain ⟨v, ps, hrun, hv⟩ := h1.look_ok K ht hz hzd hkey
  exact ⟨v, ps, by rw [← m.has k hk]; exact hrun, by rw [← m.at_ k hk]; exact hv⟩
theorem Mo.len (KL : Kl kl ok) (ht : Try.prog.underlying t = some (.map kt e)) (h : Mo kt R kl ok f b N w) {ks : List κ} (hn : ks.Nodup) (hk : ∀ k, k ∈ ks ↔ ok k ∧ (f k).isSome = true) (ty : TypeId) :
    (Builtin.len_ #[t] ty #[.map (some b)]).run Try.prog w = .ok (.int .i64 (ks.length : Int)) w := by
  obtain ⟨D, h1, m⟩ := h
  rw [h1.len ht, m.size KL hn hk]
end

/-! ### keys, elements -/
def kU (n : Nat) : Lit := .int .u64 (n : Int)
def okU (n : Nat) : Prop := n < 18446744073709551616
theorem uLaw : Keyed Try.prog 27 := int_keyed Try.underlying27
theorem wfU {n : Nat} (h : okU n) : (Lit.int .u64 (n : Int)).wf = true := WalkArith.wf_u64 (by unfold okU at h; omega)
theorem keyOf_u {n : Nat} (h : okU n) : keyOf Try.prog 27 (.int .u64 (n : Int)) = some (kU n) := keyOf_int_mk Try.underlying27 (wfU h)
theorem klU : Kl kU okU := ⟨fun a b _ _ h => by unfold kU at h; simp only [Lit.int.injEq, true_and] at h; omega, fun a h => uLaw.key (keyOf_u h)⟩
end Go.Proofs.Yteopmaaghhendaa

/-
  The program's QPACK encoder, part by part, and as a word.
-/
namespace Go.Proofs.Yteopmaaghhendaa
open Go.RowKit Go.Maps
set_option linter.unusedVariables false

abbrev DU := DataW Unit
/-- What the encoder holds, beside its table: whether it has begun, its limit, what is known, its error, a bound of its maps, what its maps answer, the bytes that wait. -/
structure Qc where
  sd : Bool
  B : Nat
  K : Nat
  er : Nat
  N : Nat
  T : Tab
  gS : Nat × Nat → Option DU
  gQ : Nat → Option DU
  gU : Nat → Option DU
  gB : Nat → Option DU
  rest : List UInt8
section
variable {q p bs bq bu bb : Nat} {X Y : Qc} {Z Z' : World → Prop} {vR : Value} {S1 S2 S : Nat → Prop} {w w' : World}
/-! ### what turns -/
end
end Go.Proofs.Yteopmaaghhendaa

/-
  What the encoder's maps answer; contracts of mayUse, use, Known, Table.
-/
namespace Go.Proofs.Yteopmaaghhendaa
open Go.RowKit Go.Maps
set_option linter.unusedVariables false

section
variable {q p bs bq bu bb : Nat} {X Y : Qc} {Z Z' : World → Prop} {vR : Value} {S1 S2 S : Nat → Prop} {w w' : World} {c : Nat → Nat} {f : Nat → Option Nat}
end
end Go.Proofs.Yteopmaaghhendaa

/-
  Contracts of the encoder's use and release.
-/
namespace Go.Proofs.Yteopmaaghhendaa
open Go.RowKit Go.Maps
set_option linter.unusedVariables false

section
variable {q p bs bq bu bb : Nat} {X Y : Qc} {Z Z' : World → Prop} {vR : Value} {S1 S2 S : Nat → Prop} {w w' : World} {c : Nat → Nat} {f : Nat → Option Nat}
end
end Go.Proofs.Yteopmaaghhendaa

/-
  Contracts of slices.Index, slices.Contains, slices.Max at numbers of 64 bits, and of the program's count.
-/
namespace Go.Proofs.Yteopmaaghhendaa
open Go.RowKit Go.Maps
set_option linter.unusedVariables false

section
variable {w : World} {v : Value} {ns : List Nat}
def mxN (l : List Nat) : Nat := l.foldl max 0
/-- One more than the greatest of them. -/
def ctN (l : List Nat) : Nat := if l.length = 0 then 0 else mxN l + 1
end
end Go.Proofs.Yteopmaaghhendaa

/-
  Contract of the encoder's release.
-/
namespace Go.Proofs.Yteopmaaghhendaa
open Go.RowKit Go.Maps
set_option linter.unusedVariables false

section
variable {q p bs bq bu bb : Nat} {X Y : Qc} {Z Z' : World → Prop} {vR : Value} {S1 S2 S : Nat → Prop} {w w' : World} {c : Nat → Nat} {f : Nat → Option Nat}
end
end Go.Proofs.Yteopmaaghhendaa

/-
  Sections as the encoder's two maps hold them; a queue in a block; contract of the encoder's keep.
-/
namespace Go.Proofs.Yteopmaaghhendaa
open Go.RowKit Go.Maps
set_option linter.unusedVariables false

/-! ### a queue in a block of its own -/
/-! ### sections in two maps -/
abbrev LvT := Nat → List (Value × Qs)
section
variable {q p bs bq bu bb : Nat} {X Y : Qc} {Z Z' : World → Prop} {vR : Value} {S1 S2 S : Nat → Prop} {w w' : World} {a : Nat → Nat} {LV : LvT} {op : List Qs}
end
end Go.Proofs.Yteopmaaghhendaa

/-
  A stream's first section goes: its maps; contract of the encoder's forget.
-/
namespace Go.Proofs.Yteopmaaghhendaa
open Go.RowKit Go.Maps
set_option linter.unusedVariables false

/-! ### a mark in a block of its own -/
/-! ### the first section goes -/
section
variable {q p bs bq bu bb : Nat} {X Y : Qc} {Z Z' : World → Prop} {vR : Value} {S1 S2 S : Nat → Prop} {w w' : World} {a : Nat → Nat} {LV : LvT} {op : List Qs} {c : Nat → Nat}
end
end Go.Proofs.Yteopmaaghhendaa

/-
  Contract of the encoder's forget: a stream that has sections.
-/
namespace Go.Proofs.Yteopmaaghhendaa
open Go.RowKit Go.Maps
set_option linter.unusedVariables false

section
variable {q p bs bq bu bb : Nat} {X Y : Qc} {Z Z' : World → Prop} {vR : Value} {S1 S2 S : Nat → Prop} {w w' : World} {a : Nat → Nat} {LV : LvT} {op : List Qs} {c : Nat → Nat}
end
end Go.Proofs.Yteopmaaghhendaa

/-
  Contracts of maps.DeleteFunc at the map of blocked streams, and of the encoder's learn.
-/
namespace Go.Proofs.Yteopmaaghhendaa
open Go.RowKit Go.Maps
set_option linter.unusedVariables false

section
variable {q p bs bq bu bb : Nat} {X Y : Qc} {Z Z' : World → Prop} {vR : Value} {S1 S2 S : Nat → Prop} {w w' : World} {f : Nat → Option Nat}
end
end Go.Proofs.Yteopmaaghhendaa

/-
  The program's encoder as a word over the mathematics; contracts of forget over it.
-/
namespace Go.Proofs.Yteopmaaghhendaa
open Go.RowKit Go.Maps
set_option linter.unusedVariables false

/-- An encoder in order. -/
structure Qe.good (E : Qe) : Prop where
  gq : E.T.gq
  sec : ∀ x ∈ E.op, x.s < 18446744073709551616 ∧ 0 < x.c ∧ (∀ i ∈ x.u, i < x.c) ∧ x.c - 1 ∈ x.u ∧ x.c ≤ E.T.tot
  kn : E.K ≤ E.T.tot
  len : E.op.length ≤ 100000
theorem mxN_ge {l : List Nat} {i : Nat} (h : i ∈ l) : i ≤ mxN l := by
  have : ∀ (l : List Nat) (r : Nat), (r ≤ l.foldl max r) ∧ ∀ i ∈ l, i ≤ l.foldl max r := fun l => by
    induction l with
    | nil => intro r; exact ⟨Nat.le_refl _, fun i hi => by cases hi⟩
    | cons a l ih =>
      intro r
      obtain ⟨h1, h2⟩ := ih (max r a)
      show r ≤ l.foldl max (max r a) ∧ ∀ i ∈ a :: l, i ≤ l.foldl max (max r a)
      refine ⟨by omega, fun i hi => ?_⟩
      rcases List.mem_cons.1 hi with rfl | hi
      · omega
      · exact h2 i hi
  exact (this l 0).2 i h
theorem mxN_le {l : List Nat} {n : Nat} (h : ∀ i ∈ l, i ≤ n) : mxN l ≤ n := by
  have : ∀ (l : List Nat) (r : Nat), r ≤ n → (∀ i ∈ l, i ≤ n) → l.foldl max r ≤ n := fun l => by
    induction l with
    | nil => intro r hr _; exact hr
    | cons a l ih => intro r hr hl; exact ih (max r a) (by have := hl a (List.mem_cons_self ..); omega) fun i hi => hl i (List.mem_cons_of_mem _ hi)
  exact this l 0 (Nat.zero_le _) h
/-- The count of a section. -/
theorem ctN_of {u : List Nat} {c : Nat} (h1 : ∀ i ∈ u, i < c) (h2 : c - 1 ∈ u) : ctN (uq u) = c := by
  have h3 := h1 _ h2
  have hm : c - 1 ∈ uq u := mem_uq.2 h2
  unfold ctN
  rw [if_neg (by have := List.length_pos_of_mem hm; omega)]
  have h4 := mxN_ge hm
  have h5 : mxN (uq u) ≤ c - 1 := mxN_le fun i hi => by have := h1 i (mem_uq.1 hi); omega
  omega
def Qe.setOp (E : Qe) (op : List Qs) : Qe := ⟨E.T, E.B, E.K, op, E.rest, E.err, E.said⟩
def Qe.setK (E : Qe) (K : Nat) : Qe := ⟨E.T, E.B, K, E.op, E.rest, E.err, E.said⟩
section
variable {q p N : Nat} {E : Qe} {f : Nat → Option Nat} {w w' : World} {S : Nat → Prop}
end
end Go.Proofs.Yteopmaaghhendaa

/-
  Contracts of the encoder's acknowledge and increment.
-/
namespace Go.Proofs.Yteopmaaghhendaa
open Go.RowKit Go.Maps
set_option linter.unusedVariables false

section
variable {q p N : Nat} {E : Qe} {f : Nat → Option Nat} {w w' : World} {S : Nat → Prop}
end
end Go.Proofs.Yteopmaaghhendaa

/-
  Contract of the encoder's cancel.
-/
namespace Go.Proofs.Yteopmaaghhendaa
open Go.RowKit Go.Maps
set_option linter.unusedVariables false

section
variable {q p bs bq bu bb N : Nat} {E : Qe} {f : Nat → Option Nat} {w w' : World} {S S1 S2 : Nat → Prop} {X : Qc} {Z : World → Prop} {vR : Value}
end
end Go.Proofs.Yteopmaaghhendaa
