/-
  Texts put together: QpH, QpI, QpJ, QpK, QpL, QpM, QpN, QpP, QpQ, QpR, QpU.
-/
import Derived.Test.YteopmaaghhendaaM17
import Derived.Test.YteopmaaghhendaaM16
import Derived.Shelf.SlMaps.DeleteFunc
import Derived.Test.YteopmaaghhendaaM13
import Derived.Deep.RegionHeld
import Derived.Test.YteopmaaghhendaaM14
import Derived.ArgAppend

/-
  Sections as the encoder's two maps hold them; a queue in a block; contract of the encoder's keep.
-/
namespace Go.Proofs.Yteopmaaghhendaa
open Go.RowKit Go.Maps
set_option linter.unusedVariables false

/-! ### a queue in a block of its own -/
/-! ### sections in two maps -/
abbrev LvT := Nat → List (Value × Qs)
section
variable {q p bs bq bu bb : Nat} {X Y : Qc} {Z Z' : World → Prop} {vR : Value} {S1 S2 S : Nat → Prop} {w w' : World} {a : Nat → Nat} {LV : LvT} {op : List Qs}
end
end Go.Proofs.Yteopmaaghhendaa

/-
  A stream's first section goes: its maps; contract of the encoder's forget.
-/
namespace Go.Proofs.Yteopmaaghhendaa
open Go.RowKit Go.Maps
set_option linter.unusedVariables false

/-! ### a mark in a block of its own -/
/-! ### the first section goes -/
section
variable {q p bs bq bu bb : Nat} {X Y : Qc} {Z Z' : World → Prop} {vR : Value} {S1 S2 S : Nat → Prop} {w w' : World} {a : Nat → Nat} {LV : LvT} {op : List Qs} {c : Nat → Nat}
end
end Go.Proofs.Yteopmaaghhendaa

/-
  Contract of the encoder's forget: a stream that has sections.
-/
namespace Go.Proofs.Yteopmaaghhendaa
open Go.RowKit Go.Maps
set_option linter.unusedVariables false

section
variable {q p bs bq bu bb : Nat} {X Y : Qc} {Z Z' : World → Prop} {vR : Value} {S1 S2 S : Nat → Prop} {w w' : World} {a : Nat → Nat} {LV : LvT} {op : List Qs} {c : Nat → Nat}
end
end Go.Proofs.Yteopmaaghhendaa

/-
  Contracts of maps.DeleteFunc at the map of blocked streams, and of the encoder's learn.
-/
namespace Go.Proofs.Yteopmaaghhendaa
open Go.RowKit Go.Maps
set_option linter.unusedVariables false

section
variable {q p bs bq bu bb : Nat} {X Y : Qc} {Z Z' : World → Prop} {vR : Value} {S1 S2 S : Nat → Prop} {w w' : World} {f : Nat → Option Nat}
end
end Go.Proofs.Yteopmaaghhendaa

/-
  The program's encoder as a word over the mathematics; contracts of forget over it.
-/
namespace Go.Proofs.Yteopmaaghhendaa
open Go.RowKit Go.Maps
set_option linter.unusedVariables false

section
variable {q p N : Nat} {E : Qe} {f : Nat → Option Nat} {w w' : World} {S : Nat → Prop}
end
end Go.Proofs.Yteopmaaghhendaa

/-
  Contracts of the encoder's acknowledge and increment.
-/
namespace Go.Proofs.Yteopmaaghhendaa
open Go.RowKit Go.Maps
set_option linter.unusedVariables false

section
variable {q p N : Nat} {E : Qe} {f : Nat → Option Nat} {w w' : World} {S : Nat → Prop}
end
end Go.Proofs.Yteopmaaghhendaa

/-
  Contract of the encoder's cancel.
-/
namespace Go.Proofs.Yteopmaaghhendaa
open Go.RowKit Go.Maps
set_option linter.unusedVariables false

section
variable {q p bs bq bu bb N : Nat} {E : Qe} {f : Nat → Option Nat} {w w' : World} {S S1 S2 : Nat → Prop} {X : Qc} {Z : World → Prop} {vR : Value}
end
end Go.Proofs.Yteopmaaghhendaa

/-
  One instruction of the decoder stream, as mathematics; contract of the encoder's instruction.
-/
namespace Go.Proofs.Yteopmaaghhendaa
open Go.RowKit Go.Maps
set_option linter.unusedVariables false

section
variable {q p N : Nat} {E : Qe} {w w' : World} {S : Nat → Prop}
end
end Go.Proofs.Yteopmaaghhendaa

/-
  The decoder stream fed, as mathematics; contract of the encoder's Feed.
-/
namespace Go.Proofs.Yteopmaaghhendaa
open Go.RowKit Go.Maps
set_option linter.unusedVariables false

section
variable {q p N : Nat} {E : Qe} {w w' : World} {S : Nat → Prop}
end
end Go.Proofs.Yteopmaaghhendaa

/-
  Contract of the encoder's Feed.
-/
namespace Go.Proofs.Yteopmaaghhendaa
open Go.RowKit Go.Maps
set_option linter.unusedVariables false

section
variable {q p N n : Nat} {E E' : Qe} {w w' w1 wx w2 : World} {S : Nat → Prop} {r l0 : List UInt8} {v0 v v2 : Value}
end
end Go.Proofs.Yteopmaaghhendaa

/-
  An append to a row of its own: in place, or in a new block; a section under way in memory.
-/
namespace Go.Proofs.Yteopmaaghhendaa
open Go.RowKit Go.Maps
set_option linter.unusedVariables false

section
variable {P : Program} (w : World)
theorem append_blk (k : Nat) (hk : 0 < k) (B : Nat) (t ty e : TypeId) (i : TypeInfo) (z : Value) (bytes : Nat) (ht : P.underlying t = some (.slice e)) (hi : P.info? e = some i) (hz : i.zero = some z)
    (hsize : i.size = k) (hby : i.bytes = bytes) (hzs : z.cells.size = k)
    (v u : Value) (n m : Nat) (xs news : List Value) (hv : w.ownsRow B e k v n xs) (hu : Rn k w u m news) (h1 : ∀ x ∈ news, x.oneCell' = true)
    (hbytes : (n + m) * bytes ≤ 140737488355328) (hmax : n + m ≤ maxLen) {v' : Value} {w' : World} (hrun : (Builtin.append_ #[t, t] ty #[v, u]).run P w = .ok v' w') :
    ∀ g, v'.ownBlock = some g → v.ownBlock = some g ∨ w.heap.size ≤ g := by
  have hul := hu.cells
  obtain ⟨Au, c, rfl, c1, c2, c4, c3⟩ := hu
  rcases c3 with ⟨rfl, rfl⟩ | ⟨x, rfl, hc⟩
  · obtain rfl : m = 0 := by omega
    have hr := run_append_owned_none w B t ty e i k ht hi v n xs hv
    rw [hr] at hrun
    injection hrun with e1 e2
    subst e1
    exact fun g hg => .inl hg
  · have hv0 := hv
    rcases hv.2 with ⟨rfl, rfl⟩ | ⟨g, cap, cur, rfl, hB, hh, hnc, hcm, hcs, htk⟩
    · have hxs : xs = [] := List.eq_nil_of_length_eq_zero (by have := hv.1; omega)
      subst hxs
      obtain ⟨v2, w2, hr, r1, _⟩ := run_append_own (P := P) w w.heap.size t ty e i z k bytes ht hi hz hsize hby hzs hk (.slice none 0 0) 0 [] (World.ownsRow_nil w _ e k) x m c news (by omega) hc h1 hmax hbytes (Nat.le_refl _)
      rw [hr] at hrun
      injection hrun with e1 e2
      subst e1
      exact fun g hg => .inr (r1.lt g hg).1
    · by_cases hroom : n + m ≤ cap
      · have hnl : news.length = m * k := by omega
        have hsp : n * k + news.length ≤ cap * k := by rw [hnl, ← Nat.add_mul]; exact Nat.mul_le_mul_right k hroom
        have hr := run_append_room_cells (P := P) w t ty e i ht hi g 0 n cap x m c news (by rw [hsize]; omega) hc h1 hroom (fun j hj => by
          rw [hsize, Nat.zero_add]
          have : n * k + j < cur.size := by omega
          simp [World.cell?, hh, this]) (fun j hj => World.ownsRow.frozenAt hv0 _)
        rw [hr] at hrun
        injection hrun with e1 e2
        subst e1
        exact fun g' hg' => .inl hg'
      · obtain ⟨v2, w2, hr, r1, _⟩ := run_append_arg_grows (P := P) w t ty e i z k bytes ht hi hz hsize hby hzs hk ⟨g, 0, none⟩ n cap xs hv0.1 (fun j u hu => by
          have hj : j < xs.length := (List.getElem?_eq_some_iff.1 hu).1
          rw [Addr.add_lit, Nat.zero_add, World.ownsRow.cellAt hv0 j (by have := hv0.1; omega)]
          exact hu) x m c news (by omega) hc (by omega) hmax hbytes
        rw [hr] at hrun
        injection hrun with e1 e2
        subst e1
        exact fun g' hg' => .inr (r1.lt g' hg').1
/-- The append, with all that is known of it. -/
theorem run_append_full (k : Nat) (hk : 0 < k) (B : Nat) (t ty e : TypeId) (i : TypeInfo) (z : Value) (bytes : Nat) (ht : P.underlying t = some (.slice e)) (hi : P.info? e = some i) (hz : i.zero = some z)
    (hsize : i.size = k) (hby : i.bytes = bytes) (hzs : z.cells.size = k)
    (v u : Value) (n m : Nat) (xs news : List Value) (hv : w.ownsRow B e k v n xs) (hu : Rn k w u m news) (h1 : ∀ x ∈ news, x.oneCell' = true)
    (hbytes : (n + m) * bytes ≤ 140737488355328) (hmax : n + m ≤ maxLen) (hB : B ≤ w.heap.size) :
    ∃ A c w', (Builtin.append_ #[t, t] ty #[v, u]).run P w = .ok (.slice A (n + m) c) w' ∧ w'.ownsRow B e k (.slice A (n + m) c) (n + m) (xs ++ news) ∧ Below B w w' ∧ w.grownBy w' v.ownBlock ∧ ∀ g, (Value.slice A (n + m) c).ownBlock = some g → v.ownBlock = some g ∨ w.heap.size ≤ g := by
  obtain ⟨v', w', hr, h2, h3, h4⟩ := run_append_ok (P := P) w k hk B t ty e i z bytes ht hi hz hsize hby hzs v u n m xs news hv hu h1 hbytes hmax hB
  have hb := append_blk (P := P) w k hk B t ty e i z bytes ht hi hz hsize hby hzs v u n m xs news hv hu h1 hbytes hmax hr
  obtain ⟨A, c, rfl⟩ : ∃ A c, v' = .slice A (n + m) c := by
    rcases h2.2 with ⟨rfl, h0⟩ | ⟨g, cap, cur, rfl, _⟩
    · exact ⟨none, 0, by rw [h0]⟩
    · exact ⟨_, _, rfl⟩
  exact ⟨A, c, w', hr, h2, h3, h4, hb⟩
end
end Go.Proofs.Yteopmaaghhendaa
