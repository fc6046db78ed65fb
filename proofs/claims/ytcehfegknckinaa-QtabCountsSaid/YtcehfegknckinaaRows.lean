/-
  No cell of these rows narrows 'for every input' (looked for: loops, veiled, ifaces, maps, wideKeys, modest, calm, conditions, laid).
  DERIVED. THE GIVEN ROWS OF THIS SEAT. 3 by the template 'for every input the law returns true; each argument reads behind the call as it read before'; 0 by the template 'total and deterministic' (their statements: YtcehfegknckinaaTotals.lean).
  GIVEN WITH THE SEED: the statements are not yours to turn. If you find one false, say at which input.
  Laid BY PROGRAM, IN A SANDBOX (cutbox-rows.mjs): the forced cells as the released guide's own fill.sh prints them over the translation 8ffc7c61a552ce84… (all of the seat's roots in one cut). By AI agents, Wed Nov 11 2026. No macro, syntax, notation, axiom, sorry.
-/
import Derived.Test.YtcehfegknckinaaChecked
import GoSem.Claim
import GoSem.ClaimJoined
import GoSem.ClaimMapViews
import Derived.JoinedTies
import Derived.KernelRfl
namespace Go.Proofs.Ytcehfegknckinaa
/- THE CELL 'sum', in the pinned program and in every row, IS THE sha256 OF THE DUMP (.gsa) THAT YtcehfegknckinaaProg.lean LOADS. Nothing in Lean hashes anything: it is a label: what it is worth is what the hold of that sum in a sandbox is worth. -/
noncomputable def Try.pinned : Pinned := { name := "ytcehfegknckinaa", sum := "8ffc7c61a552ce84123241a80725dcc858da7d702993662a87fa8146c50bd6af", checked := Try.checked }
namespace Rows
def none {H : Type} : Left H := { results := [], args := [] }

/-- 'bifoldlaw8.QtabCounts': WHATEVER THE INPUT: true; the input reads as it did. -/
def qtabCountsSpec : ChangeSpec := { name := "qtabCounts", fn := fun _ => fun
  | [d1, d2, d3, d4] => { results := [.lit (.bool true)], args := [d1, d2, d3, d4] }
  | _ => none }
def qtabCountsRow : OpenClaim := { program := "ytcehfegknckinaa", sum := "8ffc7c61a552ce84123241a80725dcc858da7d702993662a87fa8146c50bd6af", func := "bifold/bifoldlaw8.QtabCounts", spec := "qtabCounts", apart := false }
def QtabCountsSaid : Prop := qtabCountsRow.holds Try.pinned (OpenSpec.ofChange qtabCountsSpec)

/-- ITS FALSE NEIGHBOUR: 'it returns false'. Refute it at one input. -/
def qtabCountsWrong : ChangeSpec := { name := "qtabCounts", fn := fun _ => fun
  | [d1, d2, d3, d4] => { results := [.lit (.bool false)], args := [d1, d2, d3, d4] }
  | _ => none }
def QtabCountsWrongFalsely : Prop := qtabCountsRow.holds Try.pinned (OpenSpec.ofChange qtabCountsWrong)

/-- 'bifoldlaw8.QtabPlaces': WHATEVER THE INPUT: true; the input reads as it did. -/
def qtabPlacesSpec : ChangeSpec := { name := "qtabPlaces", fn := fun _ => fun
  | [d1, d2] => { results := [.lit (.bool true)], args := [d1, d2] }
  | _ => none }
def qtabPlacesRow : OpenClaim := { program := "ytcehfegknckinaa", sum := "8ffc7c61a552ce84123241a80725dcc858da7d702993662a87fa8146c50bd6af", func := "bifold/bifoldlaw8.QtabPlaces", spec := "qtabPlaces", apart := false }
def QtabPlacesSaid : Prop := qtabPlacesRow.holds Try.pinned (OpenSpec.ofChange qtabPlacesSpec)

/-- ITS FALSE NEIGHBOUR: 'it returns false'. Refute it at one input. -/
def qtabPlacesWrong : ChangeSpec := { name := "qtabPlaces", fn := fun _ => fun
  | [d1, d2] => { results := [.lit (.bool false)], args := [d1, d2] }
  | _ => none }
def QtabPlacesWrongFalsely : Prop := qtabPlacesRow.holds Try.pinned (OpenSpec.ofChange qtabPlacesWrong)

/-- 'bifoldlaw8.QtabWindow': WHATEVER THE INPUT: true; the input reads as it did. -/
def qtabWindowSpec : ChangeSpec := { name := "qtabWindow", fn := fun _ => fun
  | [d1, d2, d3] => { results := [.lit (.bool true)], args := [d1, d2, d3] }
  | _ => none }
def qtabWindowRow : OpenClaim := { program := "ytcehfegknckinaa", sum := "8ffc7c61a552ce84123241a80725dcc858da7d702993662a87fa8146c50bd6af", func := "bifold/bifoldlaw8.QtabWindow", spec := "qtabWindow", apart := false }
def QtabWindowSaid : Prop := qtabWindowRow.holds Try.pinned (OpenSpec.ofChange qtabWindowSpec)

/-- ITS FALSE NEIGHBOUR: 'it returns false'. Refute it at one input. -/
def qtabWindowWrong : ChangeSpec := { name := "qtabWindow", fn := fun _ => fun
  | [d1, d2, d3] => { results := [.lit (.bool false)], args := [d1, d2, d3] }
  | _ => none }
def QtabWindowWrongFalsely : Prop := qtabWindowRow.holds Try.pinned (OpenSpec.ofChange qtabWindowWrong)

/- THE SECOND FORM. 'bulk': how many values and letters a reading holds, each counted each time it is reached (what is shared counts as often as it is met; a slice's spare places count too). A statement '..UptoSaid' is the law's where the arguments, and the package variables that the reading takes, are together of bulk at most 1048576: NARROWER than '..Said'. Prove '..Said' where nothing that the law and all that it calls make is longer than what came in: it says more and counts as full. Else prove '..UptoSaid'. A law counts once. -/
mutual
def uptoBulk {H : Type} : DataW H → Nat
  | .lit (.string bytes) => bytes.length + 1
  | .lit _ => 1
  | .nil => 1
  | .ptr d => uptoBulk d + 1
  | .slice elems spare => uptoBulkAll elems + uptoBulkAll spare + 1
  | .agg parts => uptoBulkAll parts + 1
  | .iface _ d => uptoBulk d + 1
  | .map entries => uptoBulkEntries entries + 1
  | .held _ => 1
def uptoBulkAll {H : Type} : List (DataW H) → Nat
  | [] => 0
  | d :: r => uptoBulk d + uptoBulkAll r
def uptoBulkEntries {H : Type} : List (Lit × DataW H) → Nat
  | [] => 0
  | x :: r => uptoBulkEntry x + uptoBulkEntries r
def uptoBulkEntry {H : Type} : Lit × DataW H → Nat
  | (.string bytes, d) => bytes.length + uptoBulk d + 1
  | (_, d) => uptoBulk d + 1
 end
def uptoSmall : (H : Type) → List (DataW H) → Bool := fun _ ds => decide (uptoBulkAll ds ≤ 1048576)
def OpenSpec.upto (s : _root_.Go.ChangeSpec) : _root_.Go.OpenSpec := { _root_.Go.OpenSpec.ofChange s with cond := some uptoSmall }

/-- 'bifoldlaw8.QtabCounts', WHERE WHAT IT READS IS OF BULK AT MOST 1048576: true; the input reads as it did. -/
def qtabCountsUptoRow : OpenClaim := { program := "ytcehfegknckinaa", sum := "8ffc7c61a552ce84123241a80725dcc858da7d702993662a87fa8146c50bd6af", func := "bifold/bifoldlaw8.QtabCounts", spec := "qtabCounts", apart := false, narrowed := true }
def QtabCountsUptoSaid : Prop := qtabCountsUptoRow.holds Try.pinned (OpenSpec.upto qtabCountsSpec)

/-- 'bifoldlaw8.QtabPlaces', WHERE WHAT IT READS IS OF BULK AT MOST 1048576: true; the input reads as it did. -/
def qtabPlacesUptoRow : OpenClaim := { program := "ytcehfegknckinaa", sum := "8ffc7c61a552ce84123241a80725dcc858da7d702993662a87fa8146c50bd6af", func := "bifold/bifoldlaw8.QtabPlaces", spec := "qtabPlaces", apart := false, narrowed := true }
def QtabPlacesUptoSaid : Prop := qtabPlacesUptoRow.holds Try.pinned (OpenSpec.upto qtabPlacesSpec)

/-- 'bifoldlaw8.QtabWindow', WHERE WHAT IT READS IS OF BULK AT MOST 1048576: true; the input reads as it did. -/
def qtabWindowUptoRow : OpenClaim := { program := "ytcehfegknckinaa", sum := "8ffc7c61a552ce84123241a80725dcc858da7d702993662a87fa8146c50bd6af", func := "bifold/bifoldlaw8.QtabWindow", spec := "qtabWindow", apart := false, narrowed := true }
def QtabWindowUptoSaid : Prop := qtabWindowUptoRow.holds Try.pinned (OpenSpec.upto qtabWindowSpec)

end Rows
end Go.Proofs.Ytcehfegknckinaa
