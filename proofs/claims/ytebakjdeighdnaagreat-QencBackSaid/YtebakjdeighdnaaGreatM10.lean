/-
  Texts put together: Ff, BoO, OpenB.
-/
import Derived.Test.YtebakjdeighdnaaGreatM01
import Derived.Deep.Grids
import Derived.ShutString
import Derived.ChangeOld
import Derived.Below
import Derived.ProofKit
import Derived.OpenShut

/-
  Slices of slices of fields: what they read as.
-/
namespace Go.Proofs.YtebakjdeighdnaaGreat
open Go.RowKit
set_option linter.unusedVariables false

/-! ### slices of slices of fields -/
/-- The value reads as these slices; each of them reads as its fields. -/
def Fss (w : World) (v : Value) (vs : List Value) (ll : List (List Fd)) : Prop := Rd w v vs ∧ vs.length = ll.length ∧ ∀ i (h : i < vs.length) (h' : i < ll.length), Fs w vs[i] ll[i]
theorem Fss.keep {w w' : World} {v : Value} {vs : List Value} {ll : List (List Fd)} (h : Fss w v vs ll) (hb : Below w.heap.size w w') : Fss w' v vs ll := ⟨Rd.keep h.1 hb, h.2.1, fun i a b => (h.2.2 i a b).keep hb⟩
theorem Fss.run_len {w : World} {v : Value} {vs : List Value} {ll : List (List Fd)} (h : Fss w v vs ll) (ty : TypeId) (W : World) : (Builtin.len_ #[22] ty #[v]).run Tryz.prog W = .ok (.int .i64 (ll.length : Int)) W := by
  obtain ⟨⟨A, c, rfl, h1, h2, h3⟩, h4, _⟩ := h
  rw [← h4]
  simp [Builtin.len_, run_underlying Tryz.underlying22, goInt]
theorem Fss.at_ {w : World} {v : Value} {vs : List Value} {ll : List (List Fd)} (h : Fss w v vs ll) (i : Nat) (hi : i < ll.length) :
    ∃ (b o : Nat) (u : Value), (∀ (W : World), (Instr.indexAt 22 v (.int .i64 (i : Int))).run Tryz.prog W = .ok (.pointer (some ⟨b, o, none⟩)) W) ∧ (∃ a n c, u = .slice a n c) ∧ Fs w u ll[i] ∧
      ∀ W : World, Fss W v vs ll → W.cell? ⟨b, o, none⟩ = some u ∧ Fs W u ll[i] := by
  have hiv : i < vs.length := by have := h.2.1; omega
  obtain ⟨b, o, c, rfl, h1, h2, h3, hc⟩ := Rd.at_ h.1 (by omega)
  refine ⟨b, o + i, vs[i], fun W => ?_, ?_, h.2.2 i hiv hi, fun W hW => ⟨?_, hW.2.2 i hiv hi⟩⟩
  · simp [Instr.indexAt, asIntOf, run_underlying Tryz.underlying22, Sem.run_bind, hiv, Result.andThen]
    simp [Addr.add]
  · obtain ⟨A, c', e, _⟩ := h.2.2 i hiv hi
    exact ⟨_, _, _, e⟩
  · obtain ⟨b', o', c', e, _, _, _, hc'⟩ := Rd.at_ hW.1 (by omega)
    injection e with e1 e2 e3
    injection e1 with e1
    injection e1 with e1 e4
    subst e1; subst e4
    exact hc' i _ (List.getElem?_eq_getElem hiv)

end Go.Proofs.YtebakjdeighdnaaGreat

/-
  Slices of bools; one that came in.
-/
namespace Go.Proofs.YtebakjdeighdnaaGreat
open Go.RowKit Go.ChangeShapes Go.WideShapes Go.Deep
set_option linter.unusedVariables false

def Bo (w : World) (v : Value) (bs : List Bool) : Prop := Rd w v (bs.map Value.bool)
theorem Bo.keep {w w' : World} {v : Value} {bs : List Bool} (h : Bo w v bs) (hb : Below w.heap.size w w') : Bo w' v bs := Rd.keep h hb
theorem Bo.run_len {w : World} {v : Value} {bs : List Bool} (h : Bo w v bs) (ty : TypeId) (W : World) : (Builtin.len_ #[24] ty #[v]).run Tryz.prog W = .ok (.int .i64 (bs.length : Int)) W := by
  obtain ⟨A, c, rfl, h1, h2, h3⟩ := h
  simp [Builtin.len_, run_underlying Tryz.underlying24, goInt]
theorem Bo.at_ {w : World} {v : Value} {bs : List Bool} (h : Bo w v bs) (i : Nat) (hi : i < bs.length) :
    ∃ b o : Nat, (∀ W : World, (Instr.indexAt 24 v (.int .i64 (i : Int))).run Tryz.prog W = .ok (.pointer (some ⟨b, o, none⟩)) W) ∧ ∀ W : World, Bo W v bs → W.cell? ⟨b, o, none⟩ = some (.bool bs[i]) := by
  obtain ⟨b, o, c, rfl, h1, h2, h3, hc⟩ := Rd.at_ h (by simp; omega)
  refine ⟨b, o + i, fun W => ?_, fun W hW => ?_⟩
  · simp [Instr.indexAt, asIntOf, run_underlying Tryz.underlying24, List.length_map, Sem.run_bind, hi, Result.andThen]
    simp [Addr.add]
  · obtain ⟨b', o', c', e, _, _, _, hc'⟩ := Rd.at_ hW (by simp; omega)
    injection e with e1 e2 e3
    injection e1 with e1
    injection e1 with e1 e4
    subst e1; subst e4
    exact hc' i _ (by simp [hi])
section
variable {H : Type} {enc : TypeId × Value → H} {w : World} {base : Nat} {held : Bool}
theorem bools_came {fuel : Nat} {cs : List Value} {x : DataW H × List MemPlace} (h : DataW.trod enc Tryz.prog w base (fun _ => true) held fuel 24 cs = some x) :
    ∃ (v : Value) (bs : List Bool), cs = [v] ∧ Bo w v bs := by
  rcases open_bools Tryz.underlying24 Tryz.underlying4 (by kernel_rfl) h with ⟨hcs, _⟩ | ⟨a, len, cap, B, hcs, _, hl, hm, _, hc⟩
  · exact ⟨_, [], hcs, Rd.nil w⟩
  · refine ⟨_, (List.range len).map B, hcs, some a, cap, by simp, by simpa using hl, hm, .inr ⟨a, rfl, fun j u hu => ?_⟩⟩
    obtain ⟨hj, hu⟩ := List.getElem?_eq_some_iff.1 hu
    simp only [List.length_map, List.length_range] at hj
    simp at hu
    rw [← hu]
    exact hc j (by omega)
end
end Go.Proofs.YtebakjdeighdnaaGreat

/-
  What the arguments of a law are, as lists: from the row's reading to Bs and to lists of numbers.
-/
namespace Go.Proofs.YtebakjdeighdnaaGreat
open Go.ChangeShapes Go.WideShapes Go.ChangeAt Go.RowKit
set_option linter.unusedVariables false

/-- A slice of integers that came in: nil, or a row of cap cells that hold the numbers zs, each of its kind. -/
def IsRow (k : IntKind) (w : World) (a : Option Addr) (len cap : Nat) (zs : List Int) : Prop :=
  (a = none ∧ len = 0 ∧ cap = 0 ∧ zs = []) ∨
  ∃ x, a = some x ∧ len ≤ cap ∧ cap ≤ maxLen ∧ zs.length = cap ∧ (∀ i, i < zs.length → w.cell? (x.add i) = some (.int k (zs.getD i 0))) ∧ ∀ n ∈ zs, (Lit.int k n).wf = true

theorem wf_range {k : IntKind} {n : Int} (h : (Lit.int k n).wf = true) : k.min ≤ n ∧ n ≤ k.max := by
  simpa [Lit.wf] using h

theorem IsRow.rd {k : IntKind} {w : World} {a : Option Addr} {len cap : Nat} {zs : List Int} (h : IsRow k w a len cap zs) : Rd w (.slice a len cap) ((zs.take len).map (Value.int k)) := by
  rcases h with ⟨rfl, rfl, rfl, rfl⟩ | ⟨x, rfl, h1, h2, h3, h4, h5⟩
  · exact Rd.nil w
  · refine ⟨some x, cap, ?_, ?_, h2, .inr ⟨x, rfl, fun j u hu => ?_⟩⟩
    · simp; omega
    · simp; omega
    · rw [List.getElem?_map] at hu
      have hj : j < (zs.take len).length := by
        rcases Nat.lt_or_ge j (zs.take len).length with h | h
        · exact h
        · rw [List.getElem?_eq_none h] at hu; simp at hu
      have hj2 : j < zs.length := by simp at hj; omega
      rw [List.getElem?_eq_getElem hj] at hu
      simp at hu
      rw [h4 j hj2, ← hu]
      simp [List.getD, hj2]

theorem IsRow.all {k : IntKind} {w : World} {a : Option Addr} {len cap : Nat} {zs : List Int} (h : IsRow k w a len cap zs) : ∀ n ∈ zs.take len, k.min ≤ n ∧ n ≤ k.max := by
  rcases h with ⟨rfl, rfl, rfl, rfl⟩ | ⟨x, rfl, h1, h2, h3, h4, h5⟩
  · simp
  · intro n hn; exact wf_range (h5 n (List.mem_of_mem_take hn))

theorem IsRow.len {k : IntKind} {w : World} {a : Option Addr} {len cap : Nat} {zs : List Int} (h : IsRow k w a len cap zs) : (zs.take len).length = len := by
  rcases h with ⟨rfl, rfl, rfl, rfl⟩ | ⟨x, rfl, h1, h2, h3, h4, h5⟩
  · simp
  · simp; omega

/-- Bytes that came in. -/
theorem IsRow.bytes {w : World} {a : Option Addr} {len cap : Nat} {zs : List Int} (h : IsRow .u8 w a len cap zs) : ∃ l : List UInt8, Bs w (.slice a len cap) l ∧ l.length = len := by
  refine ⟨(zs.take len).map fun n => UInt8.ofNat n.toNat, ?_, by rw [List.length_map]; exact h.len⟩
  have hr := h.rd
  have e : ((zs.take len).map fun n => UInt8.ofNat n.toNat).map bv = (zs.take len).map (Value.int .u8) := by
    rw [List.map_map]
    apply List.map_congr_left
    intro n hn
    have := h.all n hn
    simp [IntKind.min, IntKind.max, IntKind.signed, IntKind.bits] at this
    simp only [Function.comp, bv]
    congr 1
    rw [UInt8.toNat_ofNat', Nat.mod_eq_of_lt (by have : (2:Nat) ^ 8 = 256 := rfl; omega)]
    omega
  unfold Bs
  rw [e]
  exact hr

end Go.Proofs.YtebakjdeighdnaaGreat
