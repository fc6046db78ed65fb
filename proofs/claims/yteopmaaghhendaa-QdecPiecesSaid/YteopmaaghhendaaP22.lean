/-
  Texts put together: QnE, QnF, QnG, QnH, QnI, QnJ, QnK, QnL, QnM, QpC, QpP.
-/
import Derived.Test.YteopmaaghhendaaP19
import Derived.Test.YteopmaaghhendaaP12
import Derived.Test.YteopmaaghhendaaP14
import Derived.Test.YteopmaaghhendaaP20
import Derived.Test.YteopmaaghhendaaP09
import Derived.Test.YteopmaaghhendaaP07
import Derived.Deep.RegionHeld
import Derived.Deep.CutBlock
import Derived.BigRegion
import Derived.Handy

/-
  The document's Encode of QPACK under way: rows of the call's own by their types; the state between two fields as a word.
-/
namespace Go.Proofs.Yteopmaaghhendaa
open Go.RowKit Go.Maps
set_option linter.unusedVariables false

/-! ### rows by their types -/
section
variable {P : Program} (w : World)
/-- An append to a row of its own, of k cells an element: what else stood stands. -/
theorem run_append_ok (k : Nat) (hk : 0 < k) (B : Nat) (t ty e : TypeId) (i : TypeInfo) (z : Value) (bytes : Nat) (ht : P.underlying t = some (.slice e)) (hi : P.info? e = some i) (hz : i.zero = some z)
    (hsize : i.size = k) (hby : i.bytes = bytes) (hzs : z.cells.size = k)
    (v u : Value) (n m : Nat) (xs news : List Value) (hv : w.ownsRow B e k v n xs) (hu : Rn k w u m news) (h1 : ∀ x ∈ news, x.oneCell' = true)
    (hbytes : (n + m) * bytes ≤ 140737488355328) (hmax : n + m ≤ maxLen) (hB : B ≤ w.heap.size) :
    ∃ v' w', (Builtin.append_ #[t, t] ty #[v, u]).run P w = .ok v' w' ∧ w'.ownsRow B e k v' (n + m) (xs ++ news) ∧ Below B w w' ∧ w.grownBy w' v.ownBlock := by
  have hul := hu.cells
  obtain ⟨Au, c, rfl, c1, c2, c4, c3⟩ := hu
  rcases c3 with ⟨rfl, rfl⟩ | ⟨x, rfl, hc⟩
  · obtain rfl : m = 0 := by omega
    obtain rfl : news = [] := List.eq_nil_of_length_eq_zero (by omega)
    exact ⟨v, w, run_append_owned_none w B t ty e i k ht hi v _ xs hv, by rw [List.append_nil, Nat.add_zero]; exact hv, Below.refl _ _, ⟨rfl, rfl, rfl, Nat.le_refl _, fun _ _ _ => rfl⟩⟩
  · obtain ⟨v', w', hrun, r1, r2, _⟩ := run_append_own (P := P) w B t ty e i z k bytes ht hi hz hsize hby hzs hk v _ xs hv x m c news (by omega) hc h1 hmax hbytes hB
    refine ⟨v', w', hrun, r1, (Below.refl _ _).grown r2 hB ?_, r2⟩
    intro q hq
    exact (hv.lt q hq).1
theorem wp_append_ok (k : Nat) (hk : 0 < k) {o : Oper} {a : Act} {K : Act → World → Prop} {Q : Exit → Act → World → Prop} (s x : Operand) (t : TypeId)
    (ho : o.op = .call { callee := .builtin .append, args := #[s, x], argTypes := #[t, t] })
    (B : Nat) (e : TypeId) (i : TypeInfo) (z : Value) (bytes : Nat) (ht : P.underlying t = some (.slice e)) (hi : P.info? e = some i) (hz : i.zero = some z)
    (hsize : i.size = k) (hby : i.bytes = bytes) (hzs : z.cells.size = k)
    (v u : Value) (n m : Nat) (xs news : List Value) (hs : a.eval s = v) (hx : a.eval x = u) (hv : w.ownsRow B e k v n xs) (hu : Rn k w u m news) (h1 : ∀ x ∈ news, x.oneCell' = true)
    (hbytes : (n + m) * bytes ≤ 140737488355328) (hmax : n + m ≤ maxLen) (hB : B ≤ w.heap.size)
    (h : ∀ v' w', w'.ownsRow B e k v' (n + m) (xs ++ news) → Below B w w' → w.grownBy w' v.ownBlock → K (a.put o.dst v') w') : o.wp P a w K Q := by
  obtain ⟨v', w', hr, h2, h3, h4⟩ := run_append_ok (P := P) w k hk B t o.type e i z bytes ht hi hz hsize hby hzs v u n m xs news hv hu h1 hbytes hmax hB
  unfold Oper.wp execOp
  simp only [ho, resolve, invoke, builtin, Sem.run_bind, Sem.run_pure, Result.andThen_ok, List.map_toArray, List.map_cons, List.map_nil, hs, hx, hr]
  exact h v' w' h2 h3 h4
theorem wpList_append_ok (k : Nat) (hk : 0 < k) {ops : Array Oper} {rest : List Oper} {o : Oper} {a : Act} {Q : Exit → Act → World → Prop} (hgd : o.guard = none) (s x : Operand) (t : TypeId)
    (ho : o.op = .call { callee := .builtin .append, args := #[s, x], argTypes := #[t, t] })
    (B : Nat) (e : TypeId) (i : TypeInfo) (z : Value) (bytes : Nat) (ht : P.underlying t = some (.slice e)) (hi : P.info? e = some i) (hz : i.zero = some z)
    (hsize : i.size = k) (hby : i.bytes = bytes) (hzs : z.cells.size = k)
    (v u : Value) (n m : Nat) (xs news : List Value) (hs : a.eval s = v) (hx : a.eval x = u) (hv : w.ownsRow B e k v n xs) (hu : Rn k w u m news) (h1 : ∀ x ∈ news, x.oneCell' = true)
    (hbytes : (n + m) * bytes ≤ 140737488355328) (hmax : n + m ≤ maxLen) (hB : B ≤ w.heap.size)
    (h : ∀ v' w', w'.ownsRow B e k v' (n + m) (xs ++ news) → Below B w w' → w.grownBy w' v.ownBlock → wpList P ops Q rest (a.put o.dst v') w') : wpList P ops Q (o :: rest) a w :=
  wpList_plain hgd fun _ hK => wp_append_ok w k hk s x t ho B e i z bytes ht hi hz hsize hby hzs v u n m xs news hs hx hv hu h1 hbytes hmax hB fun v' w' h2 h3 h4 => hK _ _ (h v' w' h2 h3 h4)
end

/-! ### the rows of the call -/
end Go.Proofs.Yteopmaaghhendaa

/-
  The document's Encode of QPACK under way: the state as a word, and what each step does to it.
-/
namespace Go.Proofs.Yteopmaaghhendaa
open Go.RowKit Go.Maps
set_option linter.unusedVariables false

section
variable {q t : Nat} {E : Qe} {S : Nat → Prop} {w wx wy : World} {fx fy : List (Nat × Array Value)} {iV iV' uV uV' aV aV' : Value} {ins ins' : List UInt8} {us us' : List Nat} {all all' : List Ql}
end
end Go.Proofs.Yteopmaaghhendaa

/-
  Contract of the document's Prefix of a section, into a row of its own; how long what is written is; what the run keeps.
-/
namespace Go.Proofs.Yteopmaaghhendaa
open Go.RowKit Go.Maps
set_option linter.unusedVariables false

/-! ### how long -/
theorem putSk_len (f : UInt8) (k : Nat) (s : List UInt8) : (putSk f k s).length ≤ s.length + 11 := by
  have h1 := (pre_len f k s.length).2
  have h2 := (pre_len (hiB f k) k (enc s 0 0).length).2
  have h3 := enc0_length s
  unfold putSk
  split
  · rw [List.length_append]; omega
  · rw [List.length_append]; omega
end Go.Proofs.Yteopmaaghhendaa

/-
  The document's Encode of QPACK, in pieces: its code, its frame, the state between two fields; a literal line.
-/
namespace Go.Proofs.Yteopmaaghhendaa
open Go.RowKit Go.Maps
set_option linter.unusedVariables false

section
variable {q t s : Nat} {E : Qe} {S : Nat → Prop} {w wx : World} {fx : List (Nat × Array Value)} {iV uV aV : Value} {ins : List UInt8} {us : List Nat} {all : List Ql}
theorem Rn.lit1 {k : Nat} (w : World) (e : TypeId) (cs : Array Value) (hn : cs.size = k) : Rn k (w.alloc (.cells cs e)) (.slice (some ⟨w.heap.size, 0, none⟩) 1 1) 1 cs.toList :=
  Rn.of_own (World.ownsRow_lit (base := w.heap.size) (e := e) (size := k) w cs 1 (Nat.le_refl _) (by unfold maxLen; omega) (by omega))
end

section
variable {q t s : Nat} {E : Qe} {S : Nat → Prop} {w wx : World} {lV : Value} {fb : Bool} {g0 k G : Nat} {a : Qa} {f1 f2 : ByteArray} {iV uV aV : Value}
end
end Go.Proofs.Yteopmaaghhendaa

/-
  The document's Encode of QPACK, in pieces: an entry that is inserted.
-/
namespace Go.Proofs.Yteopmaaghhendaa
open Go.RowKit Go.Maps
set_option linter.unusedVariables false

section
variable {q t s : Nat} {E : Qe} {S : Nat → Prop} {w wx : World} {lV : Value} {fb : Bool} {g0 k G : Nat} {a : Qa} {f1 f2 : ByteArray} {iV uV aV : Value} {fx : List (Nat × Array Value)} {ins : List UInt8} {us : List Nat} {all : List Ql}
end
end Go.Proofs.Yteopmaaghhendaa

/-
  The document's Encode of QPACK, in pieces: a field that is in no table whole; one that may be.
-/
namespace Go.Proofs.Yteopmaaghhendaa
open Go.RowKit Go.Maps
set_option linter.unusedVariables false

section
variable {q t s : Nat} {E : Qe} {S : Nat → Prop} {w wx : World} {lV : Value} {fb : Bool} {g0 k G : Nat} {a : Qa} {f1 f2 : ByteArray} {iV uV aV : Value} {fx : List (Nat × Array Value)} {ins : List UInt8} {us : List Nat} {all : List Ql}

end
end Go.Proofs.Yteopmaaghhendaa

/-
  The document's Encode of QPACK, in pieces: a field that isn't in the static table whole; one round.
-/
namespace Go.Proofs.Yteopmaaghhendaa
open Go.RowKit Go.Maps
set_option linter.unusedVariables false

section
variable {q t s : Nat} {E : Qe} {S : Nat → Prop} {w wx : World} {lV : Value} {fb : Bool} {g0 k G : Nat} {a : Qa} {f1 f2 : ByteArray} {iV uV aV : Value} {fx : List (Nat × Array Value)} {ins : List UInt8} {us : List Nat} {all : List Ql}

end
end Go.Proofs.Yteopmaaghhendaa

/-
  The document's Encode of QPACK, in pieces: one round of its first loop.
-/
namespace Go.Proofs.Yteopmaaghhendaa
open Go.RowKit Go.Maps
set_option linter.unusedVariables false

section
variable {q t s : Nat} {E : Qe} {S : Nat → Prop} {w wx : World} {lV : Value} {fb : Bool} {g0 k G : Nat} {a : Qa} {f1 f2 : ByteArray} {iV uV aV : Value} {l : List Fd}

end
end Go.Proofs.Yteopmaaghhendaa

/-
  The document's Encode of QPACK, in pieces: a line that is written.
-/
namespace Go.Proofs.Yteopmaaghhendaa
open Go.RowKit Go.Maps
set_option linter.unusedVariables false

section
variable {w : World} {B : Nat} {v : Value} {all : List Ql}
end

section
variable {q t s : Nat} {w w1 wx : World} {k c : Nat} {iV uV aV lv : Value} {all : List Ql} {ls : List UInt8}
end
end Go.Proofs.Yteopmaaghhendaa

/-
  Contracts of the program's number, setCapacity, secret, text, insertion, literal.
-/
namespace Go.Proofs.Yteopmaaghhendaa
open Go.RowKit
set_option linter.unusedVariables false

end Go.Proofs.Yteopmaaghhendaa

/-
  One instruction of the decoder stream, as mathematics; contract of the encoder's instruction.
-/
namespace Go.Proofs.Yteopmaaghhendaa
open Go.RowKit Go.Maps
set_option linter.unusedVariables false

section
variable {q p N : Nat} {E : Qe} {w w' : World} {S : Nat → Prop}
end
end Go.Proofs.Yteopmaaghhendaa
