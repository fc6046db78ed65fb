/-
  Texts put together: HfC, QtE, HfD, QeMath, HfE, HfF, QnA, QnB, QnC, QnD, QpMath, QpW, QpA, QpE, QpF, QpB, QpG, QpH, QpI, QpJ, QpK, QpL, QpM, QtF, QpN.
-/
import Derived.Test.YteopmaaghhendaaP10
import Derived.Test.YteopmaaghhendaaP14
import Derived.Deep.RegionLaw
import Derived.Test.YteopmaaghhendaaP07
import Derived.Lib.MinMax
import Derived.Test.YteopmaaghhendaaP09
import Derived.BigRegion
import Derived.Deep.QuietTactic
import Derived.BigQuiet
import Derived.Deep.RegionWith
import Derived.Handy
import Derived.Test.YteopmaaghhendaaP05
import Derived.Maps.Views
import Derived.Lib.SlMapFilter
import Derived.Test.YteopmaaghhendaaP01
import Derived.Shelf.SlMaps.DeleteFunc
import Derived.Deep.RegionHeld
import Derived.Test.YteopmaaghhendaaP06

/-
  Contracts of huff.Encode and henc.Str: what they hand back is a row of its own.
-/
namespace Go.Proofs.Yteopmaaghhendaa
open Go.RowKit
set_option linter.unusedVariables false

end Go.Proofs.Yteopmaaghhendaa

/-
  Contract of qtab.Prefix; of the document's Prefix.
-/
namespace Go.Proofs.Yteopmaaghhendaa
open Go.RowKit
set_option linter.unusedVariables false

end Go.Proofs.Yteopmaaghhendaa

/-
  Contracts of henc.Str, secret, size, nearest, literal and of the document's Secret.
-/
namespace Go.Proofs.Yteopmaaghhendaa
open Go.RowKit
set_option linter.unusedVariables false

end Go.Proofs.Yteopmaaghhendaa

/-
  QPACK, written, as plain mathematics: what is open, blocked, pinned; one field, all fields; what each line leads to.
-/
namespace Go.Proofs.Yteopmaaghhendaa
open Go.RowKit
set_option linter.unusedVariables false

/-- A section that is open: its stream, its count, the places that it uses. -/
structure Qs where
  s : Nat
  c : Nat
  u : List Nat
/-- A line: its kind, its place, its field. -/
structure Ql where
  k : Nat
  i : Nat
  f : Fd
/-- What has been written so far. -/
structure Qa where
  T : Tab
  ins : List UInt8
  all : List Ql
  u : List Nat
  c : Nat
/-- The encoder. -/
structure Qe where
  T : Tab
  B : Nat
  K : Nat
  op : List Qs
  rest : List UInt8
  err : Nat
  said : Bool
/-! ### what is pinned stands -/
end Go.Proofs.Yteopmaaghhendaa

/-
  Contracts of henc.secret, henc.literal and of the document's Secret.
-/
namespace Go.Proofs.Yteopmaaghhendaa
open Go.RowKit
set_option linter.unusedVariables false

end Go.Proofs.Yteopmaaghhendaa

/-
  The tables' words by their closest blocks; the program's encoder as a word; its size updates.
-/
namespace Go.Proofs.Yteopmaaghhendaa
open Go.RowKit Go.Maps
set_option linter.unusedVariables false

theorem Wd.tb (p : Nat) (T : Tab) : Wd (Tb p T) := ⟨fun h => h.lt, fun h => h.kept⟩
section
variable {q p : Nat} {T T' : Tab} {le : Option Nat} {w w' : World} {S : Nat → Prop}
end
end Go.Proofs.Yteopmaaghhendaa

/-
  Slices of numbers of 64 bits; sections; what is read alone, as a word; the document's QPACK encoder as a word.
-/
namespace Go.Proofs.Yteopmaaghhendaa
open Go.RowKit Go.Maps
set_option linter.unusedVariables false
set_option linter.unusedSimpArgs false

/-! ### numbers of 64 bits -/
def uN (n : Nat) : Value := .int .u64 (n : Int)
def Un (w : World) (v : Value) (ns : List Nat) : Prop := Rd w v (ns.map uN)
/-! ### sections -/
def scl (p : Qs × Value) : List Value := [.int .u64 (p.1.s : Int), .int .u64 (p.1.c : Int), p.2]
/-- The value reads as these sections. -/
def Sr (w : World) (v : Value) (ps : List (Qs × Value)) : Prop := Rn 3 w v ps.length (ps.flatMap scl) ∧ ∀ p ∈ ps, Un w p.2 p.1.u
def Sx (w : World) (v : Value) (op : List Qs) : Prop := ∃ ps, ps.map Prod.fst = op ∧ Sr w v ps
/-! ### what is only read -/
/-- Blocks on which a fact rests. -/
def Ob (P : World → Prop) : Wx := fun w S => (∀ k, S k → k < w.heap.size) ∧ ∀ W, w.heap.size ≤ W.heap.size → (∀ k, S k → W.heap[k]? = w.heap[k]?) → P W
theorem Wd.ob (P : World → Prop) : Wd (Ob P) := by
  constructor
  · rintro w S ⟨h1, h2⟩ k hk
    exact h1 k hk
  · rintro w w' S ⟨h1, h2⟩ hs hb
    exact ⟨fun k hk => Nat.lt_of_lt_of_le (h1 k hk) hs, fun W hW hk => h2 W (Nat.le_trans hs hW) fun k h => by rw [hk k h, hb k h]⟩
theorem Ob.get {P : World → Prop} {w : World} {S : Nat → Prop} (h : Ob P w S) : P w := h.2 w (Nat.le_refl _) fun _ _ => rfl
theorem Ob.map {P Q : World → Prop} {w : World} {S : Nat → Prop} (h : Ob P w S) (hpq : ∀ W, P W → Q W) : Ob Q w S := ⟨h.1, fun W a b => hpq W (h.2 W a b)⟩
/-- A row of its own rests on its block. -/
theorem Ob.own {w : World} {B k : Nat} {e : TypeId} {v : Value} {n : Nat} {xs : List Value} (h : w.ownsRow B e k v n xs) : Ob (fun W => Rn k W v n xs) w (fun g => v.ownBlock = some g) := by
  refine ⟨fun g hg => ?_, fun W hW hk => ?_⟩
  · rcases h.2 with ⟨rfl, _⟩ | ⟨g', cap, cur, rfl, _, hh, _⟩
    · simp [Value.ownBlock] at hg
    · simp only [Value.ownBlock, Option.some.injEq] at hg
      subst hg
      exact (Array.getElem?_eq_some_iff.1 hh).1
  · have h' : W.ownsRow B e k v n xs := by
      refine ⟨h.1, ?_⟩
      rcases h.2 with h0 | ⟨g', cap, cur, rfl, hg, hh, rest⟩
      · exact .inl h0
      · exact .inr ⟨g', cap, cur, rfl, hg, by rw [hk g' rfl]; exact hh, rest⟩
    exact Rn.of_own h'
/-! ### the document's encoder -/
section
variable {q t : Nat} {E : Qe} {w w' : World} {S : Nat → Prop}
end
end Go.Proofs.Yteopmaaghhendaa

/-
  Contracts of the document's blocked, many.
-/
namespace Go.Proofs.Yteopmaaghhendaa
open Go.RowKit Go.Maps
set_option linter.unusedVariables false

section
variable {q t : Nat} {E : Qe} {w : World} {S : Nat → Prop}
end
end Go.Proofs.Yteopmaaghhendaa

/-
  Contract of the document's pinned.
-/
namespace Go.Proofs.Yteopmaaghhendaa
open Go.RowKit Go.Maps
set_option linter.unusedVariables false

section
variable {q t : Nat} {E : Qe} {w : World} {S : Nat → Prop}
end
end Go.Proofs.Yteopmaaghhendaa

/-
  Contract of the document's room.
-/
namespace Go.Proofs.Yteopmaaghhendaa
open Go.RowKit Go.Maps
set_option linter.unusedVariables false

section
variable {q t : Nat} {E : Qe} {w : World} {S : Nat → Prop}
end
end Go.Proofs.Yteopmaaghhendaa

/-
  Maps told by what they answer; places told once; how many sections use a place; which streams are blocked: plain mathematics.
-/
namespace Go.Proofs.Yteopmaaghhendaa
open Go.RowKit Go.Maps
set_option linter.unusedVariables false

/-! ### maps -/
/-- How keys read. -/
structure Kl {κ : Type} (kl : κ → Lit) (ok : κ → Prop) : Prop where
  inj : ∀ a b, ok a → ok b → kl a = kl b → a = b
  key : ∀ a, ok a → WideAt.IsKeyLit (kl a)
/-- What a map answers to each key. -/
structure Mf {κ : Type} (kl : κ → Lit) (ok : κ → Prop) (f : κ → Option (DataW Unit)) (D : DataW Unit) : Prop where
  tidy : Tidy D
  keys : ∀ es, D = .map es → ∀ p ∈ es, ∃ k, ok k ∧ p.1 = kl k
  has : ∀ k, ok k → Maps.has D (kl k) = (f k).isSome
  at_ : ∀ k, ok k → ∀ z, D.atKey (kl k) z = (f k).getD z
section
variable {κ : Type} {kl : κ → Lit} {ok : κ → Prop} {f g : κ → Option (DataW Unit)} {D : DataW Unit}
theorem Mf.congr (h : Mf kl ok f D) (e : ∀ k, ok k → f k = g k) : Mf kl ok g D :=
  ⟨h.tidy, h.keys, fun k hk => by rw [h.has k hk, e k hk], fun k hk z => by rw [h.at_ k hk z, e k hk]⟩
theorem Mf.new (kl : κ → Lit) (ok : κ → Prop) : Mf kl ok (fun _ => none) (.map []) :=
  ⟨tidy_empty, (fun es e p hp => by injection e with e; subst e; cases hp), fun _ _ => rfl, fun _ _ _ => rfl⟩
theorem Mf.put [DecidableEq κ] (K : Kl kl ok) (h : Mf kl ok f D) {k : κ} (hk : ok k) (d : DataW Unit) : Mf kl ok (fun j => if j = k then some d else f j) (D.put (kl k) d) := by
  refine ⟨h.tidy.put (K.key k hk) d, fun es e p hp => ?_, fun j hj => ?_, fun j hj z => ?_⟩
  · obtain ⟨es0, rfl, _⟩ := h.tidy
    rw [DataW.put_eq] at e
    injection e with e
    subst e
    rcases List.mem_cons.1 ((WideShapes.insert_perm (kl k, d) _).mem_iff.1 hp) with rfl | hp
    · exact ⟨k, hk, rfl⟩
    · exact h.keys _ rfl p (List.mem_filter.1 hp).1
  · by_cases he : j = k
    · subst he
      rw [has_put_same h.tidy.isMap (K.key j hj), if_pos rfl]
      rfl
    · rw [has_put_other (fun e => he (K.inj _ _ hj hk e)), h.has j hj, if_neg he]
  · by_cases he : j = k
    · subst he
      rw [atKey_put_same h.tidy.isMap (K.key j hj), if_pos rfl]
      rfl
    · rw [atKey_put_other (fun e => he (K.inj _ _ hj hk e)), h.at_ j hj, if_neg he]
theorem Mf.del [DecidableEq κ] (K : Kl kl ok) (h : Mf kl ok f D) {k : κ} (hk : ok k) : Mf kl ok (fun j => if j = k then none else f j) (D.del (kl k)) := by
  refine ⟨h.tidy.del _, fun es e p hp => ?_, fun j hj => ?_, fun j hj z => ?_⟩
  · obtain ⟨es0, rfl, _⟩ := h.tidy
    rw [DataW.del_eq] at e
    injection e with e
    subst e
    exact h.keys _ rfl p (List.mem_filter.1 hp).1
  · by_cases he : j = k
    · subst he
      rw [has_del_same, if_pos rfl]
      rfl
    · rw [has_del_other (fun e => he (K.inj _ _ hj hk e)), h.has j hj, if_neg he]
  · by_cases he : j = k
    · subst he
      rw [atKey_del_same, if_pos rfl]
      rfl
    · rw [atKey_del_other (fun e => he (K.inj _ _ hj hk e)), h.at_ j hj, if_neg he]
theorem Mf.mem (h : Mf kl ok f D) {es : List (Lit × DataW Unit)} (e : D = .map es) {k : κ} (hk : ok k) {d : DataW Unit} (K : Kl kl ok) : (kl k, d) ∈ es ↔ f k = some d := by
  subst e
  obtain ⟨es0, e, hp⟩ := h.tidy
  injection e with e
  subst e
  constructor
  · intro hm
    have h1 : Maps.has (DataW.map es) (kl k) = true := List.any_eq_true.2 ⟨_, hm, WideAt.sameKey_self (K.key k hk)⟩
    have h2 := WideAt.atKey_mem .nil (K.key k hk) hp hm
    rw [h.at_ k hk] at h2
    rw [h.has k hk] at h1
    obtain ⟨y, hy⟩ := Option.isSome_iff_exists.1 h1
    rw [hy] at h2 ⊢
    exact congrArg some h2
  · intro hf
    have h1 := h.has k hk
    rw [hf] at h1
    obtain ⟨p, hp1, hp2⟩ := List.any_eq_true.1 h1
    have e1 := WideAt.sameKey_eq hp2
    have h2 := WideAt.atKey_mem .nil (K.key k hk) hp (show (kl k, p.2) ∈ es by rw [← e1]; exact hp1)
    rw [h.at_ k hk, hf] at h2
    have h3 : d = p.2 := h2
    rw [h3, ← e1]
    exact hp1
/-- How many keys there are. -/
theorem Mf.size (K : Kl kl ok) (h : Mf kl ok f D) {ks : List κ} (hn : ks.Nodup) (hk : ∀ k, k ∈ ks ↔ ok k ∧ (f k).isSome = true) : Maps.size D = ks.length := by
  obtain ⟨es, rfl, hp⟩ := h.tidy
  have h1 : (es.map Prod.fst).Nodup := List.pairwise_map.2 hp
  have h2 : (ks.map kl).Nodup := List.pairwise_map.2 (List.Pairwise.imp_of_mem (fun {a b} ha hb hne e => hne (K.inj _ _ ((hk a).1 ha).1 ((hk b).1 hb).1 e)) hn)
  have hperm := (List.perm_ext_iff_of_nodup h1 h2).2 fun x => by
    constructor
    · intro hx
      obtain ⟨p, hp1, rfl⟩ := List.mem_map.1 hx
      obtain ⟨k, hok, e⟩ := h.keys _ rfl p hp1
      have hf := (h.mem rfl hok K).1 (show (kl k, p.2) ∈ es by rw [← e]; exact hp1)
      exact List.mem_map.2 ⟨k, (hk k).2 ⟨hok, by rw [hf]; rfl⟩, e.symm⟩
    · intro hx
      obtain ⟨k, hk1, rfl⟩ := List.mem_map.1 hx
      obtain ⟨hok, hs⟩ := (hk k).1 hk1
      obtain ⟨d, hd⟩ := Option.isSome_iff_exists.1 hs
      exact List.mem_map.2 ⟨_, (h.mem rfl hok K).2 hd, rfl⟩
  have := hperm.length_eq
  rw [List.length_map, List.length_map] at this
  exact this
end
/-! ### places, each once -/
/-! ### sections -/
/-! ### blocked -/
end Go.Proofs.Yteopmaaghhendaa

/-
  Maps in blocks of their own, told by what they answer; the program's QPACK encoder as a word.
-/
namespace Go.Proofs.Yteopmaaghhendaa
open Go.RowKit Go.Maps
set_option linter.unusedVariables false

/-! ### a map in a block of its own -/
/-- Block b is a map of at most N entries that answers f. -/
def Mo {κ : Type} (kt : TypeId) (R : Value → Option (DataW Unit × List MemPlace)) (kl : κ → Lit) (ok : κ → Prop) (f : κ → Option (DataW Unit)) (b N : Nat) (w : World) : Prop :=
  ∃ D, w.ownsMap Try.prog kt R b N D ∧ Mf kl ok f D
section
variable {κ : Type} {kt e t : TypeId} {R : Value → Option (DataW Unit × List MemPlace)} {kl : κ → Lit} {ok : κ → Prop} {f g : κ → Option (DataW Unit)} {b N : Nat} {w w' : World}
theorem Mo.lt (h : Mo kt R kl ok f b N w) : b < w.heap.size := by obtain ⟨D, h, _⟩ := h; exact h.lt
theorem Mo.kept (h : Mo kt R kl ok f b N w) (hb : w'.heap[b]? = w.heap[b]?) : Mo kt R kl ok f b N w' := by
  obtain ⟨D, ⟨es, cl, h1, h2, h3, h4⟩, m⟩ := h
  exact ⟨D, ⟨es, cl, hb.trans h1, h2, h3, h4⟩, m⟩
theorem Mo.congr (h : Mo kt R kl ok f b N w) (hf : ∀ k, ok k → f k = g k) : Mo kt R kl ok g b N w := by
  obtain ⟨D, h1, m⟩ := h
  exact ⟨D, h1, m.congr hf⟩
theorem Mo.made (kt : TypeId) (R : Value → Option (DataW Unit × List MemPlace)) (kl : κ → Lit) (ok : κ → Prop) (w : World) : Mo kt R kl ok (fun _ => none) w.heap.size 0 (w.alloc (.map #[] 0)) :=
  ⟨_, World.ownsMap_made w _ _ _, Mf.new kl ok⟩
theorem ownsMap_tight {D : DataW Unit} {n : Nat} (h : w.ownsMap Try.prog kt R b n D) : w.ownsMap Try.prog kt R b (Maps.size D) D := by
  obtain ⟨es, cl, h1, h2, h3, h4⟩ := h
  refine ⟨es, cl, h1, h2, ?_, h4⟩
  rw [h4, size_eq, length_sorted]
  simp
theorem Mo.put [DecidableEq κ] (K : Keyed Try.prog kt) (KL : Kl kl ok) (ht : Try.prog.underlying t = some (.map kt e)) (h : Mo kt R kl ok f b N w) (hN : N < 1000000000) {k : κ} (hk : ok k) {key val : Value} {d : DataW Unit} {ps : List MemPlace}
    (hkey : keyOf Try.prog kt key = some (kl k)) (hv : R val = some (d, ps)) :
    ∃ w', (Instr.mapUpdate t (.map (some b)) key val).run Try.prog w = .ok () w' ∧ Mo kt R kl ok (fun j => if j = k then some d else f j) b (N + 1) w' ∧ w.grownBy w' (some b) := by
  obtain ⟨D, h1, m⟩ := h
  obtain ⟨w', hrun, ho, hg⟩ := h1.update K ht (by unfold maxLen; omega) hkey hv
  exact ⟨w', hrun, ⟨_, ho, m.put KL hk d⟩, hg⟩
theorem Mo.drop [DecidableEq κ] (K : Keyed Try.prog kt) (KL : Kl kl ok) (ht : Try.prog.underlying t = some (.map kt e)) (h : Mo kt R kl ok f b N w) {k : κ} (hk : ok k) {key : Value} (hkey : keyOf Try.prog kt key = some (kl k)) (ty : TypeId) :
    ∃ w', (Builtin.delete_ #[t, kt] ty #[.map (some b), key]).run Try.prog w = .ok (.tuple #[]) w' ∧ Mo kt R kl ok (fun j => if j = k then none else f j) b N w' ∧ w.grownBy w' (some b) := by
  obtain ⟨D, h1, m⟩ := h
  obtain ⟨w', hrun, ho, hg⟩ := h1.drop K ht hkey ty
  exact ⟨w', hrun, ⟨_, ho, m.del KL hk⟩, hg.grown⟩
theorem Mo.look_ok (K : Keyed Try.prog kt) (ht : Try.prog.underlying t = some (.map kt e)) (h : Mo kt R kl ok f b N w) {k : κ} (hk : ok k) {key z : Value} (hz : (zeroValue e).run Try.prog w = .ok z w) {zd : DataW Unit} {zp : List MemPlace} (hzd : R z = some (zd, zp))
    (hkey : keyOf Try.prog kt key = some (kl k)) : ∃ v ps, (Instr.lookup t (.map (some b)) key true).run Try.prog w = .ok (.tuple #[v, .bool (f k).isSome]) w ∧ R v = some ((f k).getD zd, ps) := by
  obtain ⟨D, h1, m⟩ := h
  obtain ⟨v, ps, hrun, hv⟩ := h1.look_ok K ht hz hzd hkey
  exact ⟨v, ps, by rw [← m.has k hk]; exact hrun, by rw [← m.at_ k hk]; exact hv⟩
theorem Mo.len (KL : Kl kl ok) (ht : Try.prog.underlying t = some (.map kt e)) (h : Mo kt R kl ok f b N w) {ks : List κ} (hn : ks.Nodup) (hk : ∀ k, k ∈ ks ↔ ok k ∧ (f k).isSome = true) (ty : TypeId) :
    (Builtin.len_ #[t] ty #[.map (some b)]).run Try.prog w = .ok (.int .i64 (ks.length : Int)) w := by
  obtain ⟨D, h1, m⟩ := h
  rw [h1.len ht, m.size KL hn hk]
end

/-! ### keys, elements -/
def kU (n : Nat) : Lit := .int .u64 (n : Int)
def okU (n : Nat) : Prop := n < 18446744073709551616
theorem uLaw : Keyed Try.prog 27 := int_keyed Try.underlying27
theorem wfU {n : Nat} (h : okU n) : (Lit.int .u64 (n : Int)).wf = true := WalkArith.wf_u64 (by unfold okU at h; omega)
theorem keyOf_u {n : Nat} (h : okU n) : keyOf Try.prog 27 (.int .u64 (n : Int)) = some (kU n) := keyOf_int_mk Try.underlying27 (wfU h)
theorem klU : Kl kU okU := ⟨fun a b _ _ h => by unfold kU at h; simp only [Lit.int.injEq, true_and] at h; omega, fun a h => uLaw.key (keyOf_u h)⟩
end Go.Proofs.Yteopmaaghhendaa

/-
  The program's QPACK encoder, part by part, and as a word.
-/
namespace Go.Proofs.Yteopmaaghhendaa
open Go.RowKit Go.Maps
set_option linter.unusedVariables false

abbrev DU := DataW Unit
/-- What the encoder holds, beside its table: whether it has begun, its limit, what is known, its error, a bound of its maps, what its maps answer, the bytes that wait. -/
structure Qc where
  sd : Bool
  B : Nat
  K : Nat
  er : Nat
  N : Nat
  T : Tab
  gS : Nat × Nat → Option DU
  gQ : Nat → Option DU
  gU : Nat → Option DU
  gB : Nat → Option DU
  rest : List UInt8
section
variable {q p bs bq bu bb : Nat} {X Y : Qc} {Z Z' : World → Prop} {vR : Value} {S1 S2 S : Nat → Prop} {w w' : World}
/-! ### what turns -/
end
end Go.Proofs.Yteopmaaghhendaa

/-
  What the encoder's maps answer; contracts of mayUse, use, Known, Table.
-/
namespace Go.Proofs.Yteopmaaghhendaa
open Go.RowKit Go.Maps
set_option linter.unusedVariables false

section
variable {q p bs bq bu bb : Nat} {X Y : Qc} {Z Z' : World → Prop} {vR : Value} {S1 S2 S : Nat → Prop} {w w' : World} {c : Nat → Nat} {f : Nat → Option Nat}
end
end Go.Proofs.Yteopmaaghhendaa

/-
  Contracts of the encoder's use and release.
-/
namespace Go.Proofs.Yteopmaaghhendaa
open Go.RowKit Go.Maps
set_option linter.unusedVariables false

section
variable {q p bs bq bu bb : Nat} {X Y : Qc} {Z Z' : World → Prop} {vR : Value} {S1 S2 S : Nat → Prop} {w w' : World} {c : Nat → Nat} {f : Nat → Option Nat}
end
end Go.Proofs.Yteopmaaghhendaa

/-
  Contracts of slices.Index, slices.Contains, slices.Max at numbers of 64 bits, and of the program's count.
-/
namespace Go.Proofs.Yteopmaaghhendaa
open Go.RowKit Go.Maps
set_option linter.unusedVariables false

section
variable {w : World} {v : Value} {ns : List Nat}
end
end Go.Proofs.Yteopmaaghhendaa

/-
  Contract of the encoder's release.
-/
namespace Go.Proofs.Yteopmaaghhendaa
open Go.RowKit Go.Maps
set_option linter.unusedVariables false

section
variable {q p bs bq bu bb : Nat} {X Y : Qc} {Z Z' : World → Prop} {vR : Value} {S1 S2 S : Nat → Prop} {w w' : World} {c : Nat → Nat} {f : Nat → Option Nat}
end
end Go.Proofs.Yteopmaaghhendaa

/-
  Sections as the encoder's two maps hold them; a queue in a block; contract of the encoder's keep.
-/
namespace Go.Proofs.Yteopmaaghhendaa
open Go.RowKit Go.Maps
set_option linter.unusedVariables false

/-! ### a queue in a block of its own -/
/-! ### sections in two maps -/
abbrev LvT := Nat → List (Value × Qs)
section
variable {q p bs bq bu bb : Nat} {X Y : Qc} {Z Z' : World → Prop} {vR : Value} {S1 S2 S : Nat → Prop} {w w' : World} {a : Nat → Nat} {LV : LvT} {op : List Qs}
end
end Go.Proofs.Yteopmaaghhendaa

/-
  A stream's first section goes: its maps; contract of the encoder's forget.
-/
namespace Go.Proofs.Yteopmaaghhendaa
open Go.RowKit Go.Maps
set_option linter.unusedVariables false

/-! ### a mark in a block of its own -/
/-! ### the first section goes -/
section
variable {q p bs bq bu bb : Nat} {X Y : Qc} {Z Z' : World → Prop} {vR : Value} {S1 S2 S : Nat → Prop} {w w' : World} {a : Nat → Nat} {LV : LvT} {op : List Qs} {c : Nat → Nat}
end
end Go.Proofs.Yteopmaaghhendaa

/-
  Contract of the encoder's forget: a stream that has sections.
-/
namespace Go.Proofs.Yteopmaaghhendaa
open Go.RowKit Go.Maps
set_option linter.unusedVariables false

section
variable {q p bs bq bu bb : Nat} {X Y : Qc} {Z Z' : World → Prop} {vR : Value} {S1 S2 S : Nat → Prop} {w w' : World} {a : Nat → Nat} {LV : LvT} {op : List Qs} {c : Nat → Nat}
end
end Go.Proofs.Yteopmaaghhendaa

/-
  Contracts of maps.DeleteFunc at the map of blocked streams, and of the encoder's learn.
-/
namespace Go.Proofs.Yteopmaaghhendaa
open Go.RowKit Go.Maps
set_option linter.unusedVariables false

section
variable {q p bs bq bu bb : Nat} {X Y : Qc} {Z Z' : World → Prop} {vR : Value} {S1 S2 S : Nat → Prop} {w w' : World} {f : Nat → Option Nat}
end
end Go.Proofs.Yteopmaaghhendaa

/-
  The program's encoder as a word over the mathematics; contracts of forget over it.
-/
namespace Go.Proofs.Yteopmaaghhendaa
open Go.RowKit Go.Maps
set_option linter.unusedVariables false

section
variable {q p N : Nat} {E : Qe} {f : Nat → Option Nat} {w w' : World} {S : Nat → Prop}
end
end Go.Proofs.Yteopmaaghhendaa

/-
  Contracts of the encoder's acknowledge and increment.
-/
namespace Go.Proofs.Yteopmaaghhendaa
open Go.RowKit Go.Maps
set_option linter.unusedVariables false

section
variable {q p N : Nat} {E : Qe} {f : Nat → Option Nat} {w w' : World} {S : Nat → Prop}
end
end Go.Proofs.Yteopmaaghhendaa

/-
  Contracts of qtab.baseAt, qtab.ReadPrefix.
-/
namespace Go.Proofs.Yteopmaaghhendaa
open Go.RowKit
set_option linter.unusedVariables false

theorem rpGo_three (t : List UInt8) : ∀ i v, v ≤ maxVar → rpGo t i v = (0, 0, 20) ∨ rpGo t i v = (0, 0, 21) ∨
    ∃ n m : Nat, rpGo t i v = ((n : Int), (m : Int), 0) ∧ 1 ≤ m ∧ m ≤ i + 1 + t.length ∧ n ≤ maxVar := by
  induction t with
  | nil => intro i v h; exact .inl rfl
  | cons c t ih =>
    intro i v h
    rw [rpGo_ans]
    unfold rpAns
    split
    · exact .inr (.inl rfl)
    · rename_i hb
      have hf := pfits _ v i h hb
      split
      · exact .inr (.inr ⟨_, _, rfl, by omega, by simp; omega, hf⟩)
      · split
        · exact .inr (.inl rfl)
        · rcases ih (i + 1) _ hf with h1 | h1 | ⟨n, m, h1, h2, h3, h4⟩
          · exact .inl h1
          · exact .inr (.inl h1)
          · exact .inr (.inr ⟨n, m, h1, h2, by simp; omega, h4⟩)

/-- The ways of a prefixed number: an error, or a number. -/
theorem rp_two (k : Nat) (l : List UInt8) : (∃ e : Int, rp k l = (0, 0, e) ∧ (e = 20 ∨ e = 21)) ∨
    ∃ n m : Nat, rp k l = ((n : Int), (m : Int), 0) ∧ 1 ≤ m ∧ m ≤ l.length ∧ n ≤ maxVar := by
  cases l with
  | nil => exact .inl ⟨20, rfl, .inl rfl⟩
  | cons c t =>
    have hc := c.toNat_lt
    have hm : c.toNat % 2 ^ k ≤ c.toNat := Nat.mod_le _ _
    rw [show rp k (c :: t) = if c.toNat % 2 ^ k < 2 ^ k - 1 then (((c.toNat % 2 ^ k : Nat) : Int), 1, 0) else rpGo t 0 (c.toNat % 2 ^ k) from rfl]
    split
    · exact .inr ⟨_, 1, rfl, by omega, by simp, by unfold maxVar; omega⟩
    · rcases rpGo_three t 0 (c.toNat % 2 ^ k) (by unfold maxVar; omega) with h1 | h1 | ⟨n, m, h1, h2, h3, h4⟩
      · exact .inl ⟨20, h1, .inl rfl⟩
      · exact .inl ⟨21, h1, .inr rfl⟩
      · exact .inr ⟨n, m, h1, h2, by simp; omega, h4⟩

/-- The base that a sign and a delta tell. -/
def baseN (c s d : Nat) : Option Nat := if s = 1 then (if d + 1 ≤ c ∧ c - (d + 1) ≤ 4611686018427387903 then some (c - (d + 1)) else none) else sumN c d 4611686018427387903

def BAns : Option Nat → Ending → Prop
  | some b, e => e = .returned (.tuple #[.int .u64 (b : Int), .bool true])
  | none, e => ∃ x : Int, e = .returned (.tuple #[.int .u64 x, .bool false])

set_option maxHeartbeats 1000000 in
theorem baseAt_any (c s d : Nat) (hc : c < 18446744073709551616) (hs : s < 256) (hd : d ≤ 4611686018427387903) (w : World) :
    Calls Try.prog 59 #[.int .u64 c, .int .u8 s, .int .u64 d] w fun e w' => BAns (baseN c s d) e ∧ w = w' := by
  have HSU := Bx.mk (sum_62 c d hc (by omega))
  have HLE := Bx.mk (less_any c (d + 1) hc)
  obtain ⟨C, hC⟩ := letter c
  obtain ⟨S, hS⟩ := letter s
  obtain ⟨D, hD⟩ := letter d
  obtain ⟨D1, hD1⟩ := letter (d + 1)
  simp only [hC, hS, hD, hD1] at HSU HLE ⊢
  by_cases h : s = 1
  · have h1 : (S != 1) = false := by rw [bne_eq_false_iff_eq]; omega
    have h1' : (S == 1) = true := by rw [beq_iff_eq]; omega
    obtain rfl : S = 1 := by omega
    have hadd : IntKind.u64.wrap (D + 1) = D1 := by rw [show D + 1 = D1 from by omega]; exact u64_keep (by omega) (by omega)
    by_cases h2 : d + 1 ≤ c
    · rw [show subN c (d + 1) = some (c - (d + 1)) from by unfold subN; rw [if_pos h2], Opt_some] at HLE
      obtain ⟨B, hB⟩ := letter (c - (d + 1))
      simp only [hB] at HLE
      by_cases h3 : c - (d + 1) ≤ 4611686018427387903
      · rw [show baseN c s d = some (c - (d + 1)) from by unfold baseN; rw [if_pos h, if_pos ⟨h2, h3⟩]]
        have h4 : decide (B ≤ 4611686018427387903) = true := by rw [decide_eq_true_iff]; omega
        unfold BAns
        simp only [hB]
        clear h h2 h3 hB hC hS hD hD1 hc hs hd HSU h1 h1'
        go_enter Try.func59, Try.ntmps59
        go_wp2_with (go_at_call 79; refine (HLE.out _).mono ?_; rintro e w' ⟨rfl, rfl⟩)
        go_ret2
        exact ⟨rfl, rfl⟩
      · rw [show baseN c s d = none from by unfold baseN; rw [if_pos h, if_neg (by omega)]]
        have h4 : decide (B ≤ 4611686018427387903) = false := by rw [decide_eq_false_iff_not]; omega
        unfold BAns
        clear h h2 h3 hB hC hS hD hD1 hc hs hd HSU h1 h1'
        go_enter Try.func59, Try.ntmps59
        go_wp2_with (go_at_call 79; refine (HLE.out _).mono ?_; rintro e w' ⟨rfl, rfl⟩)
        go_ret2
        exact ⟨⟨_, rfl⟩, rfl⟩
    · rw [show subN c (d + 1) = none from by unfold subN; rw [if_neg h2], Opt_none] at HLE
      rw [show baseN c s d = none from by unfold baseN; rw [if_pos h, if_neg (by omega)]]
      unfold BAns
      clear h h2 hC hS hD hD1 hc hs hd HSU h1 h1'
      go_enter Try.func59, Try.ntmps59
      go_wp2_with (go_at_call 79; refine (HLE.out _).mono ?_; rintro e w' ⟨rfl, rfl⟩)
      go_ret2
      exact ⟨⟨_, rfl⟩, rfl⟩
  · have h1 : (S != 1) = true := by rw [bne_iff_ne]; omega
    have h1' : (S == 1) = false := by rw [beq_eq_false_iff_ne]; omega
    rw [show baseN c s d = sumN c d 4611686018427387903 from by unfold baseN; rw [if_neg h]]
    generalize sumN c d 4611686018427387903 = o at HSU ⊢
    clear h hC hS hD hD1 hc hs hd HLE
    cases o with
    | none =>
      rw [Opt_none] at HSU
      unfold BAns
      go_enter Try.func59, Try.ntmps59
      go_wp2_with (go_at_call 78; refine (HSU.out _).mono ?_; rintro e w' ⟨rfl, rfl⟩)
      go_ret2
      exact ⟨⟨_, rfl⟩, rfl⟩
    | some b =>
      rw [Opt_some] at HSU
      unfold BAns
      obtain ⟨B, hB⟩ := letter b
      simp only [hB] at HSU ⊢
      clear hB
      go_enter Try.func59, Try.ntmps59
      go_wp2_with (go_at_call 78; refine (HSU.out _).mono ?_; rintro e w' ⟨rfl, rfl⟩)
      go_ret2
      exact ⟨rfl, rfl⟩

/-- What a section's prefix comes to: a count, a base, how many bytes, an error. -/
def qrd (l : List UInt8) (t m : Nat) : Int × Int × Int × Int :=
  if (rp 8 l).2.2 ≠ 0 then (0, 0, 0, (rp 8 l).2.2)
  else if (rp 7 (l.drop (rp 8 l).2.1.toNat)).2.2 ≠ 0 then (0, 0, 0, (rp 7 (l.drop (rp 8 l).2.1.toNat)).2.2)
  else match dcN (rp 8 l).1.toNat t m with
    | none => (0, 0, 0, 24)
    | some c => match baseN c ((l.getD (rp 8 l).2.1.toNat 0).toNat / 128) (rp 7 (l.drop (rp 8 l).2.1.toNat)).1.toNat with
      | none => (0, 0, 0, 24)
      | some b => ((c : Int), (b : Int), (rp 8 l).2.1 + (rp 7 (l.drop (rp 8 l).2.1.toNat)).2.1, 0)
def Ans4 (r : Int × Int × Int × Int) : Ending := .returned (.tuple #[.int .u64 r.1, .int .u64 r.2.1, .int .i64 r.2.2.1, .int .i64 r.2.2.2])

theorem results_tmp4 {fn : Func} {t u v x : Tmp} (h : fn.results = #[.tmp t, .tmp u, .tmp v, .tmp x]) (tmps : Array Value) (P : Program) (w : World) :
    (results fn tmps).run P w = .ok (.tuple #[tmps.getD t undef, tmps.getD u undef, tmps.getD v undef, tmps.getD x undef]) w := by
  simp [results, h]
theorem ret4 {a b d : Value} {c c' : Int} (h : c = c') : Ending.returned (.tuple #[a, b, .int .i64 c, d]) = .returned (.tuple #[a, b, .int .i64 c', d]) := by rw [h]
theorem rp_at (bV : Value) (l : List UInt8) (n : Int) (k : Nat) (hk : bitsOf n = k) (r : Int × Int × Int) (hr : rp k l = r) (w : World) (hb : Bs w bV l) (hm : l.length ≤ 1000000) :
    Calls Try.prog 57 #[bV, .int .i64 n] w fun e w' => e = .returned (.tuple #[.int .u64 r.1, .int .i64 r.2.1, .int .i64 r.2.2]) ∧ w = w' := by
  subst hk hr
  exact readPrefix_any bV l n w hb hm

set_option maxRecDepth 100000 in
set_option maxHeartbeats 4000000 in
theorem qReadPrefix_any (bV : Value) (l : List UInt8) (t : Nat) (cap : Int) (w : World) (hb : Bs w bV l) (hm : l.length ≤ 1000000) (ht : t < 4611686018427387904) (hcap : cap < 9223372036854775808) :
    Calls Try.prog 32 #[bV, .int .u64 t, .int .i64 cap] w fun e w' => e = Ans4 (qrd l t (mostN cap)) ∧ w = w' := by
  have hmo := mostN_lt hcap
  have HQ := Bx.mk (show qrd l t (mostN cap) = qrd l t (mostN cap) from rfl)
  rcases rp_two 8 l with ⟨e1, he1, hh⟩ | ⟨n1, m1, he1, hm1, hm2, hn1⟩
  · have HR := Bx.mk (rp_at bV l 8 8 rfl _ he1 w hb hm)
    have hq : qrd l t (mostN cap) = (0, 0, 0, e1) := by unfold qrd; rw [he1, if_pos (by rcases hh with rfl | rfl <;> simp)]
    rw [hq]
    unfold Ans4
    obtain ⟨T, hT⟩ := letter t
    simp only [hT]
    have h0 : (e1 != 0) = true := by rw [bne_iff_ne]; omega
    have h0' : (e1 == 0) = false := by rw [beq_eq_false_iff_ne]; omega
    clear hq HQ hT hb hm ht hcap hmo hh he1
    go_enter Try.func32, Try.ntmps32
    go_wp2_with fail
    refine HR.out.mono ?_
    rintro e w' ⟨rfl, rfl⟩
    go_wp2_with fail
    ((try simp only [Exit.inBlock, Exit.then]); refine bodyPost_ret (results_tmp4 rfl _ _ _) rfl ?_)
    exact ⟨rfl, rfl⟩
  have HR1 := Bx.mk (rp_at bV l 8 8 rfl _ he1 w hb hm)
  obtain ⟨cV, hfrom, hcV⟩ := hb.from_ (m1 : Int) (by omega) (by omega)
  have hcb := hcV w hb
  rw [Int.toNat_natCast] at hcb
  obtain ⟨N1, hN1⟩ := letter n1
  obtain ⟨M1, hM1⟩ := letter m1
  rw [hM1] at hfrom
  simp only [hN1, hM1] at HR1
  rcases rp_two 7 (l.drop m1) with ⟨e2, he2, hh⟩ | ⟨n2, m2, he2, hm3, hm4, hn2⟩
  · have HR2 := Bx.mk (rp_at cV (l.drop m1) 7 7 rfl _ he2 w hcb (by simp; omega))
    have hq : qrd l t (mostN cap) = (0, 0, 0, e2) := by unfold qrd; rw [he1, if_neg (by simp)]; dsimp only; rw [Int.toNat_natCast, he2, if_pos (by rcases hh with rfl | rfl <;> simp)]
    rw [hq]
    unfold Ans4
    obtain ⟨T, hT⟩ := letter t
    simp only [hT]
    have h0 : (e2 != 0) = true := by rw [bne_iff_ne]; omega
    have h0' : (e2 == 0) = false := by rw [beq_eq_false_iff_ne]; omega
    clear hq HQ hT hb hm ht hcap hmo hh he1 he2 hN1 hM1 hcV hcb hm1 hm2 hn1
    go_enter Try.func32, Try.ntmps32
    go_wp2_with fail
    refine HR1.out.mono ?_
    rintro e w' ⟨rfl, rfl⟩
    go_wp2_with fail
    refine HR2.out.mono ?_
    rintro e w' ⟨rfl, rfl⟩
    go_wp2_with fail
    ((try simp only [Exit.inBlock, Exit.then]); refine bodyPost_ret (results_tmp4 rfl _ _ _) rfl ?_)
    exact ⟨rfl, rfl⟩
  have HR2 := Bx.mk (rp_at cV (l.drop m1) 7 7 rfl _ he2 w hcb (by simp; omega))
  obtain ⟨N2, hN2⟩ := letter n2
  obtain ⟨M2, hM2⟩ := letter m2
  simp only [hN2, hM2] at HR2
  have hmx : maxVar = 4611686018427387903 := rfl
  have HD := Bx.mk (decodeCount_any n1 t cap (by omega) ht hcap w)
  have hq : qrd l t (mostN cap) = match dcN n1 t (mostN cap) with
    | none => (0, 0, 0, 24)
    | some c => match baseN c ((l.getD m1 0).toNat / 128) n2 with
      | none => (0, 0, 0, 24)
      | some b => ((c : Int), (b : Int), (m1 : Int) + (m2 : Int), 0) := by
    unfold qrd
    rw [he1, if_neg (by simp)]
    dsimp only
    rw [Int.toNat_natCast, he2, if_neg (by simp), Int.toNat_natCast]
    dsimp only
    rw [Int.toNat_natCast]
  rw [hq]
  clear hq HQ
  have hdl : ∀ c, dcN n1 t (mostN cap) = some c → c < 18446744073709551616 := fun c h => by have := (dcN_le h).1; omega
  generalize dcN n1 t (mostN cap) = dc at HD hdl ⊢
  cases dc with
  | none =>
    rw [Dec_none] at HD
    unfold Ans4
    obtain ⟨T, hT⟩ := letter t
    simp only [hT, hN1] at HD ⊢
    clear hdl hT hb hm ht hcap hmo he1 he2 hN1 hM1 hcV hcb hm1 hm2 hn1 hm3 hm4 hn2 hN2 hM2 hmx
    go_enter Try.func32, Try.ntmps32
    go_wp2_with fail
    refine HR1.out.mono ?_
    rintro e w' ⟨rfl, rfl⟩
    go_wp2_with fail
    refine HR2.out.mono ?_
    rintro e w' ⟨rfl, rfl⟩
    go_wp2_with fail
    refine HD.out.mono ?_
    rintro e w' ⟨rfl, rfl⟩
    go_wp2_with fail
    ((try simp only [Exit.inBlock, Exit.then]); refine bodyPost_ret (results_tmp4 rfl _ _ _) rfl ?_)
    exact ⟨rfl, rfl⟩
  | some c =>
    have hc := hdl c rfl
    rw [Dec_some] at HD
    have hlt : m1 < l.length := by have : (l.drop m1).length = l.length - m1 := List.length_drop; omega
    obtain ⟨p, hix, hcell0⟩ := hb.at_ m1 hlt
    have hcell := hcell0 w hb
    have hgd : l.getD m1 0 = l[m1] := by simp [List.getD, hlt]
    rw [← hgd] at hcell
    have hz := (l.getD m1 0).toNat_lt
    have hz' : (l.getD m1 0).toNat < 256 := hz
    generalize (l.getD m1 0).toNat = z at hcell hz' ⊢
    have hB := baseAt_any c (z / 128) n2 hc (by omega) (by omega) w
    obtain ⟨T, hT⟩ := letter t
    obtain ⟨C, hC⟩ := letter c
    obtain ⟨Z, hZ⟩ := letter z
    obtain ⟨S, hS⟩ := letter (z / 128)
    rw [hM1] at hix
    simp only [hT, hN1, hN2, hC, hS, hM1, hM2] at HD hB ⊢
    rw [hZ] at hcell
    have hshr : Z / 128 = S := by omega
    have hshr' : Z / 2 ^ 7 = S := by omega
    have hdl : (l.drop m1).length = l.length - m1 := List.length_drop
    have HADD : Bx (wrap64 (M1 + M2) = M1 + M2) := ⟨by unfold wrap64; omega⟩
    generalize baseN c (z / 128) n2 = bn at hB ⊢
    cases bn with
    | none =>
      unfold BAns at hB
      have HB := Bx.mk hB
      unfold Ans4
      clear hB hZ hS hC hT hz hz' hgd hcell0 hlt hc hdl hb hm ht hcap hmo he1 he2 hN1 hM1 hcV hcb hm1 hm2 hn1 hm3 hm4 hn2 hN2 hM2 hmx
      go_enter Try.func32, Try.ntmps32
      go_wp2_with fail
      refine HR1.out.mono ?_
      rintro e w' ⟨rfl, rfl⟩
      go_wp2_with fail
      refine HR2.out.mono ?_
      rintro e w' ⟨rfl, rfl⟩
      go_wp2_with fail
      refine HD.out.mono ?_
      rintro e w' ⟨rfl, rfl⟩
      go_wp2_with (with_reducible refine wpList_indexAddr (v := .pointer (some p)) (by with_unfolding_all exact hix _) ?_)
      refine HB.out.mono ?_
      rintro e w' ⟨⟨x, rfl⟩, rfl⟩
      go_wp2_with fail
      ((try simp only [Exit.inBlock, Exit.then]); refine bodyPost_ret (results_tmp4 rfl _ _ _) rfl ?_)
      exact ⟨rfl, rfl⟩
    | some b =>
      unfold BAns at hB
      obtain ⟨B, hBB⟩ := letter b
      simp only [hBB] at hB ⊢
      have HB := Bx.mk hB
      unfold Ans4
      clear hB hBB hZ hS hC hT hz hz' hgd hcell0 hlt hc hdl hb hm ht hcap hmo he1 he2 hN1 hM1 hcV hcb hm1 hm2 hn1 hm3 hm4 hn2 hN2 hM2 hmx
      go_enter Try.func32, Try.ntmps32
      go_wp2_with fail
      refine HR1.out.mono ?_
      rintro e w' ⟨rfl, rfl⟩
      go_wp2_with fail
      refine HR2.out.mono ?_
      rintro e w' ⟨rfl, rfl⟩
      go_wp2_with fail
      refine HD.out.mono ?_
      rintro e w' ⟨rfl, rfl⟩
      go_wp2_with (with_reducible refine wpList_indexAddr (v := .pointer (some p)) (by with_unfolding_all exact hix _) ?_)
      refine HB.out.mono ?_
      rintro e w' ⟨rfl, rfl⟩
      go_wp2_with fail
      ((try simp only [Exit.inBlock, Exit.then]); refine bodyPost_ret (results_tmp4 rfl _ _ _) rfl ?_)
      exact ⟨ret4 HADD.out, rfl⟩

end Go.Proofs.Yteopmaaghhendaa

/-
  Contract of the encoder's cancel.
-/
namespace Go.Proofs.Yteopmaaghhendaa
open Go.RowKit Go.Maps
set_option linter.unusedVariables false

section
variable {q p bs bq bu bb N : Nat} {E : Qe} {f : Nat → Option Nat} {w w' : World} {S S1 S2 : Nat → Prop} {X : Qc} {Z : World → Prop} {vR : Value}
end
end Go.Proofs.Yteopmaaghhendaa
