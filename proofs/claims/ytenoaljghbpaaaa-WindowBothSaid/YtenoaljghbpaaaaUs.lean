/-
  Numbers of sixteen bits that came in, as lists.
-/
import Derived.Test.YtenoaljghbpaaaaConv
import Derived.Test.YtenoaljghbpaaaaOpenB
namespace Go.Proofs.Ytenoaljghbpaaaa
open Go.RowKit
set_option linter.unusedVariables false
set_option linter.unusedSimpArgs false

/-- Numbers of sixteen bits. -/
def Us (w : World) (v : Value) (ns : List Nat) : Prop := Rd w v (ns.map fun (n : Nat) => Value.int .u16 (n : Int)) ∧ ∀ n ∈ ns, n < 65536
theorem Us.keep {w w' : World} {v : Value} {ns : List Nat} (h : Us w v ns) (hb : Below w.heap.size w w') : Us w' v ns := ⟨Rd.keep h.1 hb, h.2⟩
theorem Us.run_len {w : World} {v : Value} {ns : List Nat} (h : Us w v ns) (ty : TypeId) (W : World) : (Builtin.len_ #[92] ty #[v]).run Try.prog W = .ok (.int .i64 (ns.length : Int)) W := by
  obtain ⟨⟨A, c, rfl, h1, h2, h3⟩, _⟩ := h
  simp [Builtin.len_, run_underlying Try.underlying92, goInt]
theorem Us.at_ {w : World} {v : Value} {ns : List Nat} (h : Us w v ns) (i : Nat) (hi : i < ns.length) :
    ∃ b o : Nat, (∀ W : World, (Instr.indexAt 92 v (.int .i64 (i : Int))).run Try.prog W = .ok (.pointer (some ⟨b, o, none⟩)) W) ∧ ∀ W : World, Us W v ns → W.cell? ⟨b, o, none⟩ = some (.int .u16 (ns[i] : Int)) := by
  obtain ⟨b, o, c, rfl, h1, h2, h3, hc⟩ := Rd.at_ h.1 (by simp; omega)
  refine ⟨b, o + i, fun W => ?_, fun W hW => ?_⟩
  · simp [Instr.indexAt, asIntOf, run_underlying Try.underlying92, List.length_map, Sem.run_bind, hi, Result.andThen]
    simp [Addr.add]
  · obtain ⟨b', o', c', e, _, _, _, hc'⟩ := Rd.at_ hW.1 (by simp; omega)
    injection e with e1 e2 e3
    injection e1 with e1
    injection e1 with e1 e4
    subst e1; subst e4
    exact hc' i _ (by simp [hi])

theorem IsRow.us {w : World} {a : Option Addr} {len cap : Nat} {zs : List Int} (h : IsRow .u16 w a len cap zs) : Us w (.slice a len cap) ((zs.take len).map Int.toNat) := by
  have hall : ∀ n ∈ zs.take len, 0 ≤ n ∧ n ≤ 65535 := fun n hn => by
    have := h.all n hn
    simpa [IntKind.min, IntKind.max, IntKind.signed, IntKind.bits] using this
  have e : ((zs.take len).map Int.toNat).map (fun (n : Nat) => Value.int .u16 (n : Int)) = (zs.take len).map (Value.int .u16) := by
    rw [List.map_map]
    apply List.map_congr_left
    intro n hn
    have := hall n hn
    simp only [Function.comp]
    congr 1
    omega
  refine ⟨by rw [e]; exact h.rd, fun n hn => ?_⟩
  obtain ⟨z, hz, rfl⟩ := List.mem_map.1 hn
  have := hall z hz
  omega

end Go.Proofs.Ytenoaljghbpaaaa
