/-
  Numbers of sixteen bits that came in.
-/
import Derived.Test.YtjebemcghikgpaaOpenB
import Derived.Test.YtjebemcghikgpaaLawDynShrinks
namespace Go.Proofs.Ytjebemcghikgpaa
open Go.RowKit
set_option linter.unusedVariables false

theorem IsRow.us {w : World} {a : Option Addr} {len cap : Nat} {zs : List Int} (h : IsRow .u16 w a len cap zs) : Us w (.slice a len cap) ((zs.take len).map Int.toNat) := by
  have hall : ∀ n ∈ zs.take len, 0 ≤ n ∧ n ≤ 65535 := fun n hn => by
    have := h.all n hn
    simpa [IntKind.min, IntKind.max, IntKind.signed, IntKind.bits] using this
  have e : ((zs.take len).map Int.toNat).map (fun (n : Nat) => Value.int .u16 (n : Int)) = (zs.take len).map (Value.int .u16) := by
    rw [List.map_map]
    apply List.map_congr_left
    intro n hn
    have := hall n hn
    simp only [Function.comp]
    congr 1
    omega
  refine ⟨by rw [e]; exact h.rd, fun n hn => ?_⟩
  obtain ⟨z, hz, rfl⟩ := List.mem_map.1 hn
  have := hall z hz
  omega

end Go.Proofs.Ytjebemcghikgpaa
