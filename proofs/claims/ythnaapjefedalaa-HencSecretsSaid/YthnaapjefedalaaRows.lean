/-
  No cell of these rows narrows 'for every input' (looked for: loops, veiled, ifaces, maps, wideKeys, modest, calm, conditions, laid).
  DERIVED. THE GIVEN ROWS OF THIS SEAT. 5 by the template 'for every input the law returns true; each argument reads behind the call as it read before'; 0 by the template 'total and deterministic' (their statements: YthnaapjefedalaaTotals.lean).
  GIVEN WITH THE SEED: the statements are not yours to turn. If you find one false, say at which input.
  Laid BY PROGRAM, IN A SANDBOX (cutbox-rows.mjs): the forced cells as the released guide's own fill.sh prints them over the translation 4a8b1c59fbf618ca… (all of the seat's roots in one cut). By AI agents, Wed Nov 11 2026. No macro, syntax, notation, axiom, sorry.
-/
import Derived.Test.YthnaapjefedalaaChecked
import GoSem.Claim
import GoSem.ClaimJoined
import GoSem.ClaimMapViews
import Derived.JoinedTies
import Derived.KernelRfl
namespace Go.Proofs.Ythnaapjefedalaa
/- THE CELL 'sum', in the pinned program and in every row, IS THE sha256 OF THE DUMP (.gsa) THAT YthnaapjefedalaaProg.lean LOADS. Nothing in Lean hashes anything: it is a label: what it is worth is what the hold of that sum in a sandbox is worth. -/
noncomputable def Try.pinned : Pinned := { name := "ythnaapjefedalaa", sum := "4a8b1c59fbf618cacc3b78443df517057760f2afa88cbefd647e11591cc9d5ce", checked := Try.checked }
namespace Rows
def none {H : Type} : Left H := { results := [], args := [] }

/-- 'bifoldlaw7.HencBack': WHATEVER THE INPUT: true; the input reads as it did. -/
def hencBackSpec : ChangeSpec := { name := "hencBack", fn := fun _ => fun
  | [d1, d2, d3] => { results := [.lit (.bool true)], args := [d1, d2, d3] }
  | _ => none }
def hencBackRow : OpenClaim := { program := "ythnaapjefedalaa", sum := "4a8b1c59fbf618cacc3b78443df517057760f2afa88cbefd647e11591cc9d5ce", func := "bifold/bifoldlaw7.HencBack", spec := "hencBack", unfollowed := true, recurses := true, plainKeys := false, apart := false }
def HencBackSaid : Prop := hencBackRow.holds Try.pinned (OpenSpec.ofChange hencBackSpec)

/-- ITS FALSE NEIGHBOUR: 'it returns false'. Refute it at one input. -/
def hencBackWrong : ChangeSpec := { name := "hencBack", fn := fun _ => fun
  | [d1, d2, d3] => { results := [.lit (.bool false)], args := [d1, d2, d3] }
  | _ => none }
def HencBackWrongFalsely : Prop := hencBackRow.holds Try.pinned (OpenSpec.ofChange hencBackWrong)

/-- 'bifoldlaw7.HencStrs': WHATEVER THE INPUT: true; the input reads as it did. -/
def hencStrsSpec : ChangeSpec := { name := "hencStrs", fn := fun _ => fun
  | [d1, d2] => { results := [.lit (.bool true)], args := [d1, d2] }
  | _ => none }
def hencStrsRow : OpenClaim := { program := "ythnaapjefedalaa", sum := "4a8b1c59fbf618cacc3b78443df517057760f2afa88cbefd647e11591cc9d5ce", func := "bifold/bifoldlaw7.HencStrs", spec := "hencStrs", unfollowed := true, recurses := true, plainKeys := false, apart := false }
def HencStrsSaid : Prop := hencStrsRow.holds Try.pinned (OpenSpec.ofChange hencStrsSpec)

/-- ITS FALSE NEIGHBOUR: 'it returns false'. Refute it at one input. -/
def hencStrsWrong : ChangeSpec := { name := "hencStrs", fn := fun _ => fun
  | [d1, d2] => { results := [.lit (.bool false)], args := [d1, d2] }
  | _ => none }
def HencStrsWrongFalsely : Prop := hencStrsRow.holds Try.pinned (OpenSpec.ofChange hencStrsWrong)

/-- 'bifoldlaw7.HencSecrets': WHATEVER THE INPUT: true; the input reads as it did. -/
def hencSecretsSpec : ChangeSpec := { name := "hencSecrets", fn := fun _ => fun
  | [d1, d2] => { results := [.lit (.bool true)], args := [d1, d2] }
  | _ => none }
def hencSecretsRow : OpenClaim := { program := "ythnaapjefedalaa", sum := "4a8b1c59fbf618cacc3b78443df517057760f2afa88cbefd647e11591cc9d5ce", func := "bifold/bifoldlaw7.HencSecrets", spec := "hencSecrets", unfollowed := true, recurses := true, plainKeys := false, apart := false }
def HencSecretsSaid : Prop := hencSecretsRow.holds Try.pinned (OpenSpec.ofChange hencSecretsSpec)

/-- ITS FALSE NEIGHBOUR: 'it returns false'. Refute it at one input. -/
def hencSecretsWrong : ChangeSpec := { name := "hencSecrets", fn := fun _ => fun
  | [d1, d2] => { results := [.lit (.bool false)], args := [d1, d2] }
  | _ => none }
def HencSecretsWrongFalsely : Prop := hencSecretsRow.holds Try.pinned (OpenSpec.ofChange hencSecretsWrong)

/-- 'bifoldlaw7.HencAgain': WHATEVER THE INPUT: true; the input reads as it did. -/
def hencAgainSpec : ChangeSpec := { name := "hencAgain", fn := fun _ => fun
  | [d] => { results := [.lit (.bool true)], args := [d] }
  | _ => none }
def hencAgainRow : OpenClaim := { program := "ythnaapjefedalaa", sum := "4a8b1c59fbf618cacc3b78443df517057760f2afa88cbefd647e11591cc9d5ce", func := "bifold/bifoldlaw7.HencAgain", spec := "hencAgain", unfollowed := true, recurses := true, plainKeys := false, apart := false }
def HencAgainSaid : Prop := hencAgainRow.holds Try.pinned (OpenSpec.ofChange hencAgainSpec)

/-- ITS FALSE NEIGHBOUR: 'it returns false'. Refute it at one input. -/
def hencAgainWrong : ChangeSpec := { name := "hencAgain", fn := fun _ => fun
  | [d] => { results := [.lit (.bool false)], args := [d] }
  | _ => none }
def HencAgainWrongFalsely : Prop := hencAgainRow.holds Try.pinned (OpenSpec.ofChange hencAgainWrong)

/-- 'bifoldlaw7.HencSizes': WHATEVER THE INPUT: true; the input reads as it did. -/
def hencSizesSpec : ChangeSpec := { name := "hencSizes", fn := fun _ => fun
  | [d1, d2] => { results := [.lit (.bool true)], args := [d1, d2] }
  | _ => none }
def hencSizesRow : OpenClaim := { program := "ythnaapjefedalaa", sum := "4a8b1c59fbf618cacc3b78443df517057760f2afa88cbefd647e11591cc9d5ce", func := "bifold/bifoldlaw7.HencSizes", spec := "hencSizes", unfollowed := true, recurses := true, plainKeys := false, apart := false }
def HencSizesSaid : Prop := hencSizesRow.holds Try.pinned (OpenSpec.ofChange hencSizesSpec)

/-- ITS FALSE NEIGHBOUR: 'it returns false'. Refute it at one input. -/
def hencSizesWrong : ChangeSpec := { name := "hencSizes", fn := fun _ => fun
  | [d1, d2] => { results := [.lit (.bool false)], args := [d1, d2] }
  | _ => none }
def HencSizesWrongFalsely : Prop := hencSizesRow.holds Try.pinned (OpenSpec.ofChange hencSizesWrong)

/- THE SECOND FORM. 'bulk': how many values and letters a reading holds, each counted each time it is reached (what is shared counts as often as it is met; a slice's spare places count too). A statement '..UptoSaid' is the law's where the arguments, and the package variables that the reading takes, are together of bulk at most 1048576: NARROWER than '..Said'. Prove '..Said' where nothing that the law and all that it calls make is longer than what came in: it says more and counts as full. Else prove '..UptoSaid'. A law counts once. -/
mutual
def uptoBulk {H : Type} : DataW H → Nat
  | .lit (.string bytes) => bytes.length + 1
  | .lit _ => 1
  | .nil => 1
  | .ptr d => uptoBulk d + 1
  | .slice elems spare => uptoBulkAll elems + uptoBulkAll spare + 1
  | .agg parts => uptoBulkAll parts + 1
  | .iface _ d => uptoBulk d + 1
  | .map entries => uptoBulkEntries entries + 1
  | .held _ => 1
def uptoBulkAll {H : Type} : List (DataW H) → Nat
  | [] => 0
  | d :: r => uptoBulk d + uptoBulkAll r
def uptoBulkEntries {H : Type} : List (Lit × DataW H) → Nat
  | [] => 0
  | x :: r => uptoBulkEntry x + uptoBulkEntries r
def uptoBulkEntry {H : Type} : Lit × DataW H → Nat
  | (.string bytes, d) => bytes.length + uptoBulk d + 1
  | (_, d) => uptoBulk d + 1
 end
def uptoSmall : (H : Type) → List (DataW H) → Bool := fun _ ds => decide (uptoBulkAll ds ≤ 1048576)
def OpenSpec.upto (s : _root_.Go.ChangeSpec) : _root_.Go.OpenSpec := { _root_.Go.OpenSpec.ofChange s with cond := some uptoSmall }

/-- 'bifoldlaw7.HencBack', WHERE WHAT IT READS IS OF BULK AT MOST 1048576: true; the input reads as it did. -/
def hencBackUptoRow : OpenClaim := { program := "ythnaapjefedalaa", sum := "4a8b1c59fbf618cacc3b78443df517057760f2afa88cbefd647e11591cc9d5ce", func := "bifold/bifoldlaw7.HencBack", spec := "hencBack", unfollowed := true, recurses := true, plainKeys := false, apart := false, narrowed := true }
def HencBackUptoSaid : Prop := hencBackUptoRow.holds Try.pinned (OpenSpec.upto hencBackSpec)

/-- 'bifoldlaw7.HencStrs', WHERE WHAT IT READS IS OF BULK AT MOST 1048576: true; the input reads as it did. -/
def hencStrsUptoRow : OpenClaim := { program := "ythnaapjefedalaa", sum := "4a8b1c59fbf618cacc3b78443df517057760f2afa88cbefd647e11591cc9d5ce", func := "bifold/bifoldlaw7.HencStrs", spec := "hencStrs", unfollowed := true, recurses := true, plainKeys := false, apart := false, narrowed := true }
def HencStrsUptoSaid : Prop := hencStrsUptoRow.holds Try.pinned (OpenSpec.upto hencStrsSpec)

/-- 'bifoldlaw7.HencSecrets', WHERE WHAT IT READS IS OF BULK AT MOST 1048576: true; the input reads as it did. -/
def hencSecretsUptoRow : OpenClaim := { program := "ythnaapjefedalaa", sum := "4a8b1c59fbf618cacc3b78443df517057760f2afa88cbefd647e11591cc9d5ce", func := "bifold/bifoldlaw7.HencSecrets", spec := "hencSecrets", unfollowed := true, recurses := true, plainKeys := false, apart := false, narrowed := true }
def HencSecretsUptoSaid : Prop := hencSecretsUptoRow.holds Try.pinned (OpenSpec.upto hencSecretsSpec)

/-- 'bifoldlaw7.HencAgain', WHERE WHAT IT READS IS OF BULK AT MOST 1048576: true; the input reads as it did. -/
def hencAgainUptoRow : OpenClaim := { program := "ythnaapjefedalaa", sum := "4a8b1c59fbf618cacc3b78443df517057760f2afa88cbefd647e11591cc9d5ce", func := "bifold/bifoldlaw7.HencAgain", spec := "hencAgain", unfollowed := true, recurses := true, plainKeys := false, apart := false, narrowed := true }
def HencAgainUptoSaid : Prop := hencAgainUptoRow.holds Try.pinned (OpenSpec.upto hencAgainSpec)

/-- 'bifoldlaw7.HencSizes', WHERE WHAT IT READS IS OF BULK AT MOST 1048576: true; the input reads as it did. -/
def hencSizesUptoRow : OpenClaim := { program := "ythnaapjefedalaa", sum := "4a8b1c59fbf618cacc3b78443df517057760f2afa88cbefd647e11591cc9d5ce", func := "bifold/bifoldlaw7.HencSizes", spec := "hencSizes", unfollowed := true, recurses := true, plainKeys := false, apart := false, narrowed := true }
def HencSizesUptoSaid : Prop := hencSizesUptoRow.holds Try.pinned (OpenSpec.upto hencSizesSpec)

end Rows
end Go.Proofs.Ythnaapjefedalaa
