/-
  No cell of these rows narrows 'for every input' (looked for: loops, veiled, ifaces, maps, wideKeys, modest, calm, conditions, laid).
  DERIVED. THE GIVEN ROWS OF THIS SEAT. 18 by the template 'for every input the law returns true; each argument reads behind the call as it read before'; 0 by the template 'total and deterministic' (their statements: YtenoaljghbpaaaaTotals.lean).
  GIVEN WITH THE SEED: the statements are not yours to turn. If you find one false, say at which input.
  Laid BY PROGRAM, IN A SANDBOX (cutbox-rows.mjs): the forced cells as the released guide's own fill.sh prints them over the translation ed93e9e4193cba60… (all of the seat's roots in one cut). By AI agents, Wed Nov 11 2026. No macro, syntax, notation, axiom, sorry.
-/
import Derived.Test.YtenoaljghbpaaaaChecked
import GoSem.Claim
import GoSem.ClaimJoined
import GoSem.ClaimMapViews
import Derived.JoinedTies
import Derived.KernelRfl
namespace Go.Proofs.Ytenoaljghbpaaaa
/- THE CELL 'sum', in the pinned program and in every row, IS THE sha256 OF THE DUMP (.gsa) THAT YtenoaljghbpaaaaProg.lean LOADS. Nothing in Lean hashes anything: it is a label: what it is worth is what the hold of that sum in a sandbox is worth. -/
noncomputable def Try.pinned : Pinned := { name := "ytenoaljghbpaaaa", sum := "ed93e9e4193cba60524e09de8cf00438ebdca1446947f0d6cfc07a70086793e1", checked := Try.checked }
namespace Rows
def none {H : Type} : Left H := { results := [], args := [] }

/-- 'bifoldlaw11.FrameBack': WHATEVER THE INPUT: true; the input reads as it did. -/
def frameBackSpec : ChangeSpec := { name := "frameBack", fn := fun _ => fun
  | [d1, d2, d3] => { results := [.lit (.bool true)], args := [d1, d2, d3] }
  | _ => none }
def frameBackRow : OpenClaim := { program := "ytenoaljghbpaaaa", sum := "ed93e9e4193cba60524e09de8cf00438ebdca1446947f0d6cfc07a70086793e1", func := "bifold/bifoldlaw11.FrameBack", spec := "frameBack", plainKeys := false, apart := false }
def FrameBackSaid : Prop := frameBackRow.holds Try.pinned (OpenSpec.ofChange frameBackSpec)

/-- ITS FALSE NEIGHBOUR: 'it returns false'. Refute it at one input. -/
def frameBackWrong : ChangeSpec := { name := "frameBack", fn := fun _ => fun
  | [d1, d2, d3] => { results := [.lit (.bool false)], args := [d1, d2, d3] }
  | _ => none }
def FrameBackWrongFalsely : Prop := frameBackRow.holds Try.pinned (OpenSpec.ofChange frameBackWrong)

/-- 'bifoldlaw11.FrameReads': WHATEVER THE INPUT: true; the input reads as it did. -/
def frameReadsSpec : ChangeSpec := { name := "frameReads", fn := fun _ => fun
  | [d1, d2] => { results := [.lit (.bool true)], args := [d1, d2] }
  | _ => none }
def frameReadsRow : OpenClaim := { program := "ytenoaljghbpaaaa", sum := "ed93e9e4193cba60524e09de8cf00438ebdca1446947f0d6cfc07a70086793e1", func := "bifold/bifoldlaw11.FrameReads", spec := "frameReads", plainKeys := false, apart := false }
def FrameReadsSaid : Prop := frameReadsRow.holds Try.pinned (OpenSpec.ofChange frameReadsSpec)

/-- ITS FALSE NEIGHBOUR: 'it returns false'. Refute it at one input. -/
def frameReadsWrong : ChangeSpec := { name := "frameReads", fn := fun _ => fun
  | [d1, d2] => { results := [.lit (.bool false)], args := [d1, d2] }
  | _ => none }
def FrameReadsWrongFalsely : Prop := frameReadsRow.holds Try.pinned (OpenSpec.ofChange frameReadsWrong)

/-- 'bifoldlaw11.FrameCuts': WHATEVER THE INPUT: true; the input reads as it did. -/
def frameCutsSpec : ChangeSpec := { name := "frameCuts", fn := fun _ => fun
  | [d1, d2, d3, d4, d5] => { results := [.lit (.bool true)], args := [d1, d2, d3, d4, d5] }
  | _ => none }
def frameCutsRow : OpenClaim := { program := "ytenoaljghbpaaaa", sum := "ed93e9e4193cba60524e09de8cf00438ebdca1446947f0d6cfc07a70086793e1", func := "bifold/bifoldlaw11.FrameCuts", spec := "frameCuts", plainKeys := false, apart := false }
def FrameCutsSaid : Prop := frameCutsRow.holds Try.pinned (OpenSpec.ofChange frameCutsSpec)

/-- ITS FALSE NEIGHBOUR: 'it returns false'. Refute it at one input. -/
def frameCutsWrong : ChangeSpec := { name := "frameCuts", fn := fun _ => fun
  | [d1, d2, d3, d4, d5] => { results := [.lit (.bool false)], args := [d1, d2, d3, d4, d5] }
  | _ => none }
def FrameCutsWrongFalsely : Prop := frameCutsRow.holds Try.pinned (OpenSpec.ofChange frameCutsWrong)

/-- 'bifoldlaw12.PayCodes': WHATEVER THE INPUT: true; the input reads as it did. -/
def payCodesSpec : ChangeSpec := { name := "payCodes", fn := fun _ => fun
  | [d1, d2] => { results := [.lit (.bool true)], args := [d1, d2] }
  | _ => none }
def payCodesRow : OpenClaim := { program := "ytenoaljghbpaaaa", sum := "ed93e9e4193cba60524e09de8cf00438ebdca1446947f0d6cfc07a70086793e1", func := "bifold/bifoldlaw12.PayCodes", spec := "payCodes", plainKeys := false, apart := false }
def PayCodesSaid : Prop := payCodesRow.holds Try.pinned (OpenSpec.ofChange payCodesSpec)

/-- ITS FALSE NEIGHBOUR: 'it returns false'. Refute it at one input. -/
def payCodesWrong : ChangeSpec := { name := "payCodes", fn := fun _ => fun
  | [d1, d2] => { results := [.lit (.bool false)], args := [d1, d2] }
  | _ => none }
def PayCodesWrongFalsely : Prop := payCodesRow.holds Try.pinned (OpenSpec.ofChange payCodesWrong)

/-- 'bifoldlaw12.PaySizes': WHATEVER THE INPUT: true; the input reads as it did. -/
def paySizesSpec : ChangeSpec := { name := "paySizes", fn := fun _ => fun
  | [d1, d2, d3] => { results := [.lit (.bool true)], args := [d1, d2, d3] }
  | _ => none }
def paySizesRow : OpenClaim := { program := "ytenoaljghbpaaaa", sum := "ed93e9e4193cba60524e09de8cf00438ebdca1446947f0d6cfc07a70086793e1", func := "bifold/bifoldlaw12.PaySizes", spec := "paySizes", plainKeys := false, apart := false }
def PaySizesSaid : Prop := paySizesRow.holds Try.pinned (OpenSpec.ofChange paySizesSpec)

/-- ITS FALSE NEIGHBOUR: 'it returns false'. Refute it at one input. -/
def paySizesWrong : ChangeSpec := { name := "paySizes", fn := fun _ => fun
  | [d1, d2, d3] => { results := [.lit (.bool false)], args := [d1, d2, d3] }
  | _ => none }
def PaySizesWrongFalsely : Prop := paySizesRow.holds Try.pinned (OpenSpec.ofChange paySizesWrong)

/-- 'bifoldlaw12.PayPads': WHATEVER THE INPUT: true; the input reads as it did. -/
def payPadsSpec : ChangeSpec := { name := "payPads", fn := fun _ => fun
  | [d1, d2, d3, d4, d5] => { results := [.lit (.bool true)], args := [d1, d2, d3, d4, d5] }
  | _ => none }
def payPadsRow : OpenClaim := { program := "ytenoaljghbpaaaa", sum := "ed93e9e4193cba60524e09de8cf00438ebdca1446947f0d6cfc07a70086793e1", func := "bifold/bifoldlaw12.PayPads", spec := "payPads", plainKeys := false, apart := false }
def PayPadsSaid : Prop := payPadsRow.holds Try.pinned (OpenSpec.ofChange payPadsSpec)

/-- ITS FALSE NEIGHBOUR: 'it returns false'. Refute it at one input. -/
def payPadsWrong : ChangeSpec := { name := "payPads", fn := fun _ => fun
  | [d1, d2, d3, d4, d5] => { results := [.lit (.bool false)], args := [d1, d2, d3, d4, d5] }
  | _ => none }
def PayPadsWrongFalsely : Prop := payPadsRow.holds Try.pinned (OpenSpec.ofChange payPadsWrong)

/-- 'bifoldlaw13.SetDiffs': WHATEVER THE INPUT: true; the input reads as it did. -/
def setDiffsSpec : ChangeSpec := { name := "setDiffs", fn := fun _ => fun
  | [d1, d2] => { results := [.lit (.bool true)], args := [d1, d2] }
  | _ => none }
def setDiffsRow : OpenClaim := { program := "ytenoaljghbpaaaa", sum := "ed93e9e4193cba60524e09de8cf00438ebdca1446947f0d6cfc07a70086793e1", func := "bifold/bifoldlaw13.SetDiffs", spec := "setDiffs", plainKeys := false, apart := false }
def SetDiffsSaid : Prop := setDiffsRow.holds Try.pinned (OpenSpec.ofChange setDiffsSpec)

/-- ITS FALSE NEIGHBOUR: 'it returns false'. Refute it at one input. -/
def setDiffsWrong : ChangeSpec := { name := "setDiffs", fn := fun _ => fun
  | [d1, d2] => { results := [.lit (.bool false)], args := [d1, d2] }
  | _ => none }
def SetDiffsWrongFalsely : Prop := setDiffsRow.holds Try.pinned (OpenSpec.ofChange setDiffsWrong)

/-- 'bifoldlaw13.SetBounds': WHATEVER THE INPUT: true; the input reads as it did. -/
def setBoundsSpec : ChangeSpec := { name := "setBounds", fn := fun _ => fun
  | [d1, d2, d3] => { results := [.lit (.bool true)], args := [d1, d2, d3] }
  | _ => none }
def setBoundsRow : OpenClaim := { program := "ytenoaljghbpaaaa", sum := "ed93e9e4193cba60524e09de8cf00438ebdca1446947f0d6cfc07a70086793e1", func := "bifold/bifoldlaw13.SetBounds", spec := "setBounds", plainKeys := false, apart := false }
def SetBoundsSaid : Prop := setBoundsRow.holds Try.pinned (OpenSpec.ofChange setBoundsSpec)

/-- ITS FALSE NEIGHBOUR: 'it returns false'. Refute it at one input. -/
def setBoundsWrong : ChangeSpec := { name := "setBounds", fn := fun _ => fun
  | [d1, d2, d3] => { results := [.lit (.bool false)], args := [d1, d2, d3] }
  | _ => none }
def SetBoundsWrongFalsely : Prop := setBoundsRow.holds Try.pinned (OpenSpec.ofChange setBoundsWrong)

/-- 'bifoldlaw14.WindowOuts': WHATEVER THE INPUT: true; the input reads as it did. -/
def windowOutsSpec : ChangeSpec := { name := "windowOuts", fn := fun _ => fun
  | [d1, d2] => { results := [.lit (.bool true)], args := [d1, d2] }
  | _ => none }
def windowOutsRow : OpenClaim := { program := "ytenoaljghbpaaaa", sum := "ed93e9e4193cba60524e09de8cf00438ebdca1446947f0d6cfc07a70086793e1", func := "bifold/bifoldlaw14.WindowOuts", spec := "windowOuts", plainKeys := false, apart := false }
def WindowOutsSaid : Prop := windowOutsRow.holds Try.pinned (OpenSpec.ofChange windowOutsSpec)

/-- ITS FALSE NEIGHBOUR: 'it returns false'. Refute it at one input. -/
def windowOutsWrong : ChangeSpec := { name := "windowOuts", fn := fun _ => fun
  | [d1, d2] => { results := [.lit (.bool false)], args := [d1, d2] }
  | _ => none }
def WindowOutsWrongFalsely : Prop := windowOutsRow.holds Try.pinned (OpenSpec.ofChange windowOutsWrong)

/-- 'bifoldlaw14.WindowIns': WHATEVER THE INPUT: true; the input reads as it did. -/
def windowInsSpec : ChangeSpec := { name := "windowIns", fn := fun _ => fun
  | [d1, d2] => { results := [.lit (.bool true)], args := [d1, d2] }
  | _ => none }
def windowInsRow : OpenClaim := { program := "ytenoaljghbpaaaa", sum := "ed93e9e4193cba60524e09de8cf00438ebdca1446947f0d6cfc07a70086793e1", func := "bifold/bifoldlaw14.WindowIns", spec := "windowIns", plainKeys := false, apart := false }
def WindowInsSaid : Prop := windowInsRow.holds Try.pinned (OpenSpec.ofChange windowInsSpec)

/-- ITS FALSE NEIGHBOUR: 'it returns false'. Refute it at one input. -/
def windowInsWrong : ChangeSpec := { name := "windowIns", fn := fun _ => fun
  | [d1, d2] => { results := [.lit (.bool false)], args := [d1, d2] }
  | _ => none }
def WindowInsWrongFalsely : Prop := windowInsRow.holds Try.pinned (OpenSpec.ofChange windowInsWrong)

/-- 'bifoldlaw14.WindowBoth': WHATEVER THE INPUT: true; the input reads as it did. -/
def windowBothSpec : ChangeSpec := { name := "windowBoth", fn := fun _ => fun
  | [d1, d2] => { results := [.lit (.bool true)], args := [d1, d2] }
  | _ => none }
def windowBothRow : OpenClaim := { program := "ytenoaljghbpaaaa", sum := "ed93e9e4193cba60524e09de8cf00438ebdca1446947f0d6cfc07a70086793e1", func := "bifold/bifoldlaw14.WindowBoth", spec := "windowBoth", plainKeys := false, apart := false }
def WindowBothSaid : Prop := windowBothRow.holds Try.pinned (OpenSpec.ofChange windowBothSpec)

/-- ITS FALSE NEIGHBOUR: 'it returns false'. Refute it at one input. -/
def windowBothWrong : ChangeSpec := { name := "windowBoth", fn := fun _ => fun
  | [d1, d2] => { results := [.lit (.bool false)], args := [d1, d2] }
  | _ => none }
def WindowBothWrongFalsely : Prop := windowBothRow.holds Try.pinned (OpenSpec.ofChange windowBothWrong)

/-- 'bifoldlaw14.WindowEdges': WHATEVER THE INPUT: true; the input reads as it did. -/
def windowEdgesSpec : ChangeSpec := { name := "windowEdges", fn := fun _ => fun
  | [d1, d2, d3] => { results := [.lit (.bool true)], args := [d1, d2, d3] }
  | _ => none }
def windowEdgesRow : OpenClaim := { program := "ytenoaljghbpaaaa", sum := "ed93e9e4193cba60524e09de8cf00438ebdca1446947f0d6cfc07a70086793e1", func := "bifold/bifoldlaw14.WindowEdges", spec := "windowEdges", plainKeys := false, apart := false }
def WindowEdgesSaid : Prop := windowEdgesRow.holds Try.pinned (OpenSpec.ofChange windowEdgesSpec)

/-- ITS FALSE NEIGHBOUR: 'it returns false'. Refute it at one input. -/
def windowEdgesWrong : ChangeSpec := { name := "windowEdges", fn := fun _ => fun
  | [d1, d2, d3] => { results := [.lit (.bool false)], args := [d1, d2, d3] }
  | _ => none }
def WindowEdgesWrongFalsely : Prop := windowEdgesRow.holds Try.pinned (OpenSpec.ofChange windowEdgesWrong)

/-- 'bifoldlaw14.WindowHalf': WHATEVER THE INPUT: true; the input reads as it did. -/
def windowHalfSpec : ChangeSpec := { name := "windowHalf", fn := fun _ => fun
  | [d1, d2] => { results := [.lit (.bool true)], args := [d1, d2] }
  | _ => none }
def windowHalfRow : OpenClaim := { program := "ytenoaljghbpaaaa", sum := "ed93e9e4193cba60524e09de8cf00438ebdca1446947f0d6cfc07a70086793e1", func := "bifold/bifoldlaw14.WindowHalf", spec := "windowHalf", plainKeys := false, apart := false }
def WindowHalfSaid : Prop := windowHalfRow.holds Try.pinned (OpenSpec.ofChange windowHalfSpec)

/-- ITS FALSE NEIGHBOUR: 'it returns false'. Refute it at one input. -/
def windowHalfWrong : ChangeSpec := { name := "windowHalf", fn := fun _ => fun
  | [d1, d2] => { results := [.lit (.bool false)], args := [d1, d2] }
  | _ => none }
def WindowHalfWrongFalsely : Prop := windowHalfRow.holds Try.pinned (OpenSpec.ofChange windowHalfWrong)

/-- 'bifoldlaw15.StreamSides': WHATEVER THE INPUT: true; the input reads as it did. -/
def streamSidesSpec : ChangeSpec := { name := "streamSides", fn := fun _ => fun
  | [d] => { results := [.lit (.bool true)], args := [d] }
  | _ => none }
def streamSidesRow : OpenClaim := { program := "ytenoaljghbpaaaa", sum := "ed93e9e4193cba60524e09de8cf00438ebdca1446947f0d6cfc07a70086793e1", func := "bifold/bifoldlaw15.StreamSides", spec := "streamSides", plainKeys := false, apart := false }
def StreamSidesSaid : Prop := streamSidesRow.holds Try.pinned (OpenSpec.ofChange streamSidesSpec)

/-- ITS FALSE NEIGHBOUR: 'it returns false'. Refute it at one input. -/
def streamSidesWrong : ChangeSpec := { name := "streamSides", fn := fun _ => fun
  | [d] => { results := [.lit (.bool false)], args := [d] }
  | _ => none }
def StreamSidesWrongFalsely : Prop := streamSidesRow.holds Try.pinned (OpenSpec.ofChange streamSidesWrong)

/-- 'bifoldlaw15.StreamEnds': WHATEVER THE INPUT: true; the input reads as it did. -/
def streamEndsSpec : ChangeSpec := { name := "streamEnds", fn := fun _ => fun
  | [d1, d2, d3] => { results := [.lit (.bool true)], args := [d1, d2, d3] }
  | _ => none }
def streamEndsRow : OpenClaim := { program := "ytenoaljghbpaaaa", sum := "ed93e9e4193cba60524e09de8cf00438ebdca1446947f0d6cfc07a70086793e1", func := "bifold/bifoldlaw15.StreamEnds", spec := "streamEnds", plainKeys := false, apart := false }
def StreamEndsSaid : Prop := streamEndsRow.holds Try.pinned (OpenSpec.ofChange streamEndsSpec)

/-- ITS FALSE NEIGHBOUR: 'it returns false'. Refute it at one input. -/
def streamEndsWrong : ChangeSpec := { name := "streamEnds", fn := fun _ => fun
  | [d1, d2, d3] => { results := [.lit (.bool false)], args := [d1, d2, d3] }
  | _ => none }
def StreamEndsWrongFalsely : Prop := streamEndsRow.holds Try.pinned (OpenSpec.ofChange streamEndsWrong)

/-- 'bifoldlaw16.BlockPlays': WHATEVER THE INPUT: true; the input reads as it did. -/
def blockPlaysSpec : ChangeSpec := { name := "blockPlays", fn := fun _ => fun
  | [d1, d2, d3] => { results := [.lit (.bool true)], args := [d1, d2, d3] }
  | _ => none }
def blockPlaysRow : OpenClaim := { program := "ytenoaljghbpaaaa", sum := "ed93e9e4193cba60524e09de8cf00438ebdca1446947f0d6cfc07a70086793e1", func := "bifold/bifoldlaw16.BlockPlays", spec := "blockPlays", plainKeys := false, apart := false }
def BlockPlaysSaid : Prop := blockPlaysRow.holds Try.pinned (OpenSpec.ofChange blockPlaysSpec)

/-- ITS FALSE NEIGHBOUR: 'it returns false'. Refute it at one input. -/
def blockPlaysWrong : ChangeSpec := { name := "blockPlays", fn := fun _ => fun
  | [d1, d2, d3] => { results := [.lit (.bool false)], args := [d1, d2, d3] }
  | _ => none }
def BlockPlaysWrongFalsely : Prop := blockPlaysRow.holds Try.pinned (OpenSpec.ofChange blockPlaysWrong)

/-- 'bifoldlaw16.BlockGreat': WHATEVER THE INPUT: true; the input reads as it did. -/
def blockGreatSpec : ChangeSpec := { name := "blockGreat", fn := fun _ => fun
  | [d1, d2, d3] => { results := [.lit (.bool true)], args := [d1, d2, d3] }
  | _ => none }
def blockGreatRow : OpenClaim := { program := "ytenoaljghbpaaaa", sum := "ed93e9e4193cba60524e09de8cf00438ebdca1446947f0d6cfc07a70086793e1", func := "bifold/bifoldlaw16.BlockGreat", spec := "blockGreat", plainKeys := false, apart := false }
def BlockGreatSaid : Prop := blockGreatRow.holds Try.pinned (OpenSpec.ofChange blockGreatSpec)

/-- ITS FALSE NEIGHBOUR: 'it returns false'. Refute it at one input. -/
def blockGreatWrong : ChangeSpec := { name := "blockGreat", fn := fun _ => fun
  | [d1, d2, d3] => { results := [.lit (.bool false)], args := [d1, d2, d3] }
  | _ => none }
def BlockGreatWrongFalsely : Prop := blockGreatRow.holds Try.pinned (OpenSpec.ofChange blockGreatWrong)

/-- 'bifoldlaw16.BlockMixed': WHATEVER THE INPUT: true; the input reads as it did. -/
def blockMixedSpec : ChangeSpec := { name := "blockMixed", fn := fun _ => fun
  | [d1, d2, d3, d4] => { results := [.lit (.bool true)], args := [d1, d2, d3, d4] }
  | _ => none }
def blockMixedRow : OpenClaim := { program := "ytenoaljghbpaaaa", sum := "ed93e9e4193cba60524e09de8cf00438ebdca1446947f0d6cfc07a70086793e1", func := "bifold/bifoldlaw16.BlockMixed", spec := "blockMixed", plainKeys := false, apart := false }
def BlockMixedSaid : Prop := blockMixedRow.holds Try.pinned (OpenSpec.ofChange blockMixedSpec)

/-- ITS FALSE NEIGHBOUR: 'it returns false'. Refute it at one input. -/
def blockMixedWrong : ChangeSpec := { name := "blockMixed", fn := fun _ => fun
  | [d1, d2, d3, d4] => { results := [.lit (.bool false)], args := [d1, d2, d3, d4] }
  | _ => none }
def BlockMixedWrongFalsely : Prop := blockMixedRow.holds Try.pinned (OpenSpec.ofChange blockMixedWrong)

/- THE SECOND FORM. 'bulk': how many values and letters a reading holds, each counted each time it is reached (what is shared counts as often as it is met; a slice's spare places count too). A statement '..UptoSaid' is the law's where the arguments, and the package variables that the reading takes, are together of bulk at most 1048576: NARROWER than '..Said'. Prove '..Said' where nothing that the law and all that it calls make is longer than what came in: it says more and counts as full. Else prove '..UptoSaid'. A law counts once. -/
mutual
def uptoBulk {H : Type} : DataW H → Nat
  | .lit (.string bytes) => bytes.length + 1
  | .lit _ => 1
  | .nil => 1
  | .ptr d => uptoBulk d + 1
  | .slice elems spare => uptoBulkAll elems + uptoBulkAll spare + 1
  | .agg parts => uptoBulkAll parts + 1
  | .iface _ d => uptoBulk d + 1
  | .map entries => uptoBulkEntries entries + 1
  | .held _ => 1
def uptoBulkAll {H : Type} : List (DataW H) → Nat
  | [] => 0
  | d :: r => uptoBulk d + uptoBulkAll r
def uptoBulkEntries {H : Type} : List (Lit × DataW H) → Nat
  | [] => 0
  | x :: r => uptoBulkEntry x + uptoBulkEntries r
def uptoBulkEntry {H : Type} : Lit × DataW H → Nat
  | (.string bytes, d) => bytes.length + uptoBulk d + 1
  | (_, d) => uptoBulk d + 1
 end
def uptoSmall : (H : Type) → List (DataW H) → Bool := fun _ ds => decide (uptoBulkAll ds ≤ 1048576)
def OpenSpec.upto (s : _root_.Go.ChangeSpec) : _root_.Go.OpenSpec := { _root_.Go.OpenSpec.ofChange s with cond := some uptoSmall }

/-- 'bifoldlaw11.FrameBack', WHERE WHAT IT READS IS OF BULK AT MOST 1048576: true; the input reads as it did. -/
def frameBackUptoRow : OpenClaim := { program := "ytenoaljghbpaaaa", sum := "ed93e9e4193cba60524e09de8cf00438ebdca1446947f0d6cfc07a70086793e1", func := "bifold/bifoldlaw11.FrameBack", spec := "frameBack", plainKeys := false, apart := false, narrowed := true }
def FrameBackUptoSaid : Prop := frameBackUptoRow.holds Try.pinned (OpenSpec.upto frameBackSpec)

/-- 'bifoldlaw11.FrameReads', WHERE WHAT IT READS IS OF BULK AT MOST 1048576: true; the input reads as it did. -/
def frameReadsUptoRow : OpenClaim := { program := "ytenoaljghbpaaaa", sum := "ed93e9e4193cba60524e09de8cf00438ebdca1446947f0d6cfc07a70086793e1", func := "bifold/bifoldlaw11.FrameReads", spec := "frameReads", plainKeys := false, apart := false, narrowed := true }
def FrameReadsUptoSaid : Prop := frameReadsUptoRow.holds Try.pinned (OpenSpec.upto frameReadsSpec)

/-- 'bifoldlaw11.FrameCuts', WHERE WHAT IT READS IS OF BULK AT MOST 1048576: true; the input reads as it did. -/
def frameCutsUptoRow : OpenClaim := { program := "ytenoaljghbpaaaa", sum := "ed93e9e4193cba60524e09de8cf00438ebdca1446947f0d6cfc07a70086793e1", func := "bifold/bifoldlaw11.FrameCuts", spec := "frameCuts", plainKeys := false, apart := false, narrowed := true }
def FrameCutsUptoSaid : Prop := frameCutsUptoRow.holds Try.pinned (OpenSpec.upto frameCutsSpec)

/-- 'bifoldlaw12.PayCodes', WHERE WHAT IT READS IS OF BULK AT MOST 1048576: true; the input reads as it did. -/
def payCodesUptoRow : OpenClaim := { program := "ytenoaljghbpaaaa", sum := "ed93e9e4193cba60524e09de8cf00438ebdca1446947f0d6cfc07a70086793e1", func := "bifold/bifoldlaw12.PayCodes", spec := "payCodes", plainKeys := false, apart := false, narrowed := true }
def PayCodesUptoSaid : Prop := payCodesUptoRow.holds Try.pinned (OpenSpec.upto payCodesSpec)

/-- 'bifoldlaw12.PaySizes', WHERE WHAT IT READS IS OF BULK AT MOST 1048576: true; the input reads as it did. -/
def paySizesUptoRow : OpenClaim := { program := "ytenoaljghbpaaaa", sum := "ed93e9e4193cba60524e09de8cf00438ebdca1446947f0d6cfc07a70086793e1", func := "bifold/bifoldlaw12.PaySizes", spec := "paySizes", plainKeys := false, apart := false, narrowed := true }
def PaySizesUptoSaid : Prop := paySizesUptoRow.holds Try.pinned (OpenSpec.upto paySizesSpec)

/-- 'bifoldlaw12.PayPads', WHERE WHAT IT READS IS OF BULK AT MOST 1048576: true; the input reads as it did. -/
def payPadsUptoRow : OpenClaim := { program := "ytenoaljghbpaaaa", sum := "ed93e9e4193cba60524e09de8cf00438ebdca1446947f0d6cfc07a70086793e1", func := "bifold/bifoldlaw12.PayPads", spec := "payPads", plainKeys := false, apart := false, narrowed := true }
def PayPadsUptoSaid : Prop := payPadsUptoRow.holds Try.pinned (OpenSpec.upto payPadsSpec)

/-- 'bifoldlaw13.SetDiffs', WHERE WHAT IT READS IS OF BULK AT MOST 1048576: true; the input reads as it did. -/
def setDiffsUptoRow : OpenClaim := { program := "ytenoaljghbpaaaa", sum := "ed93e9e4193cba60524e09de8cf00438ebdca1446947f0d6cfc07a70086793e1", func := "bifold/bifoldlaw13.SetDiffs", spec := "setDiffs", plainKeys := false, apart := false, narrowed := true }
def SetDiffsUptoSaid : Prop := setDiffsUptoRow.holds Try.pinned (OpenSpec.upto setDiffsSpec)

/-- 'bifoldlaw13.SetBounds', WHERE WHAT IT READS IS OF BULK AT MOST 1048576: true; the input reads as it did. -/
def setBoundsUptoRow : OpenClaim := { program := "ytenoaljghbpaaaa", sum := "ed93e9e4193cba60524e09de8cf00438ebdca1446947f0d6cfc07a70086793e1", func := "bifold/bifoldlaw13.SetBounds", spec := "setBounds", plainKeys := false, apart := false, narrowed := true }
def SetBoundsUptoSaid : Prop := setBoundsUptoRow.holds Try.pinned (OpenSpec.upto setBoundsSpec)

/-- 'bifoldlaw14.WindowOuts', WHERE WHAT IT READS IS OF BULK AT MOST 1048576: true; the input reads as it did. -/
def windowOutsUptoRow : OpenClaim := { program := "ytenoaljghbpaaaa", sum := "ed93e9e4193cba60524e09de8cf00438ebdca1446947f0d6cfc07a70086793e1", func := "bifold/bifoldlaw14.WindowOuts", spec := "windowOuts", plainKeys := false, apart := false, narrowed := true }
def WindowOutsUptoSaid : Prop := windowOutsUptoRow.holds Try.pinned (OpenSpec.upto windowOutsSpec)

/-- 'bifoldlaw14.WindowIns', WHERE WHAT IT READS IS OF BULK AT MOST 1048576: true; the input reads as it did. -/
def windowInsUptoRow : OpenClaim := { program := "ytenoaljghbpaaaa", sum := "ed93e9e4193cba60524e09de8cf00438ebdca1446947f0d6cfc07a70086793e1", func := "bifold/bifoldlaw14.WindowIns", spec := "windowIns", plainKeys := false, apart := false, narrowed := true }
def WindowInsUptoSaid : Prop := windowInsUptoRow.holds Try.pinned (OpenSpec.upto windowInsSpec)

/-- 'bifoldlaw14.WindowBoth', WHERE WHAT IT READS IS OF BULK AT MOST 1048576: true; the input reads as it did. -/
def windowBothUptoRow : OpenClaim := { program := "ytenoaljghbpaaaa", sum := "ed93e9e4193cba60524e09de8cf00438ebdca1446947f0d6cfc07a70086793e1", func := "bifold/bifoldlaw14.WindowBoth", spec := "windowBoth", plainKeys := false, apart := false, narrowed := true }
def WindowBothUptoSaid : Prop := windowBothUptoRow.holds Try.pinned (OpenSpec.upto windowBothSpec)

/-- 'bifoldlaw14.WindowEdges', WHERE WHAT IT READS IS OF BULK AT MOST 1048576: true; the input reads as it did. -/
def windowEdgesUptoRow : OpenClaim := { program := "ytenoaljghbpaaaa", sum := "ed93e9e4193cba60524e09de8cf00438ebdca1446947f0d6cfc07a70086793e1", func := "bifold/bifoldlaw14.WindowEdges", spec := "windowEdges", plainKeys := false, apart := false, narrowed := true }
def WindowEdgesUptoSaid : Prop := windowEdgesUptoRow.holds Try.pinned (OpenSpec.upto windowEdgesSpec)

/-- 'bifoldlaw14.WindowHalf', WHERE WHAT IT READS IS OF BULK AT MOST 1048576: true; the input reads as it did. -/
def windowHalfUptoRow : OpenClaim := { program := "ytenoaljghbpaaaa", sum := "ed93e9e4193cba60524e09de8cf00438ebdca1446947f0d6cfc07a70086793e1", func := "bifold/bifoldlaw14.WindowHalf", spec := "windowHalf", plainKeys := false, apart := false, narrowed := true }
def WindowHalfUptoSaid : Prop := windowHalfUptoRow.holds Try.pinned (OpenSpec.upto windowHalfSpec)

/-- 'bifoldlaw15.StreamSides', WHERE WHAT IT READS IS OF BULK AT MOST 1048576: true; the input reads as it did. -/
def streamSidesUptoRow : OpenClaim := { program := "ytenoaljghbpaaaa", sum := "ed93e9e4193cba60524e09de8cf00438ebdca1446947f0d6cfc07a70086793e1", func := "bifold/bifoldlaw15.StreamSides", spec := "streamSides", plainKeys := false, apart := false, narrowed := true }
def StreamSidesUptoSaid : Prop := streamSidesUptoRow.holds Try.pinned (OpenSpec.upto streamSidesSpec)

/-- 'bifoldlaw15.StreamEnds', WHERE WHAT IT READS IS OF BULK AT MOST 1048576: true; the input reads as it did. -/
def streamEndsUptoRow : OpenClaim := { program := "ytenoaljghbpaaaa", sum := "ed93e9e4193cba60524e09de8cf00438ebdca1446947f0d6cfc07a70086793e1", func := "bifold/bifoldlaw15.StreamEnds", spec := "streamEnds", plainKeys := false, apart := false, narrowed := true }
def StreamEndsUptoSaid : Prop := streamEndsUptoRow.holds Try.pinned (OpenSpec.upto streamEndsSpec)

/-- 'bifoldlaw16.BlockPlays', WHERE WHAT IT READS IS OF BULK AT MOST 1048576: true; the input reads as it did. -/
def blockPlaysUptoRow : OpenClaim := { program := "ytenoaljghbpaaaa", sum := "ed93e9e4193cba60524e09de8cf00438ebdca1446947f0d6cfc07a70086793e1", func := "bifold/bifoldlaw16.BlockPlays", spec := "blockPlays", plainKeys := false, apart := false, narrowed := true }
def BlockPlaysUptoSaid : Prop := blockPlaysUptoRow.holds Try.pinned (OpenSpec.upto blockPlaysSpec)

/-- 'bifoldlaw16.BlockGreat', WHERE WHAT IT READS IS OF BULK AT MOST 1048576: true; the input reads as it did. -/
def blockGreatUptoRow : OpenClaim := { program := "ytenoaljghbpaaaa", sum := "ed93e9e4193cba60524e09de8cf00438ebdca1446947f0d6cfc07a70086793e1", func := "bifold/bifoldlaw16.BlockGreat", spec := "blockGreat", plainKeys := false, apart := false, narrowed := true }
def BlockGreatUptoSaid : Prop := blockGreatUptoRow.holds Try.pinned (OpenSpec.upto blockGreatSpec)

/-- 'bifoldlaw16.BlockMixed', WHERE WHAT IT READS IS OF BULK AT MOST 1048576: true; the input reads as it did. -/
def blockMixedUptoRow : OpenClaim := { program := "ytenoaljghbpaaaa", sum := "ed93e9e4193cba60524e09de8cf00438ebdca1446947f0d6cfc07a70086793e1", func := "bifold/bifoldlaw16.BlockMixed", spec := "blockMixed", plainKeys := false, apart := false, narrowed := true }
def BlockMixedUptoSaid : Prop := blockMixedUptoRow.holds Try.pinned (OpenSpec.upto blockMixedSpec)

end Rows
end Go.Proofs.Ytenoaljghbpaaaa
