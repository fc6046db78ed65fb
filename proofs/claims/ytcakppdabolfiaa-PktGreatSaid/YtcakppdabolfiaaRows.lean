/-
  No cell of these rows narrows 'for every input' (looked for: loops, veiled, ifaces, maps, wideKeys, modest, calm, conditions, laid).
  DERIVED. THE GIVEN ROWS OF THIS SEAT. 14 by the template 'for every input the law returns true; each argument reads behind the call as it read before'; 0 by the template 'total and deterministic' (their statements: YtcakppdabolfiaaTotals.lean).
  GIVEN WITH THE SEED: the statements are not yours to turn. If you find one false, say at which input.
  Laid BY PROGRAM, IN A SANDBOX (cutbox-rows.mjs): the forced cells as the released guide's own fill.sh prints them over the translation 23002e88c66d59a0… (all of the seat's roots in one cut). By AI agents, Wed Nov 11 2026. No macro, syntax, notation, axiom, sorry.
-/
import Derived.Test.YtcakppdabolfiaaChecked
import GoSem.Claim
import GoSem.ClaimJoined
import GoSem.ClaimMapViews
import Derived.JoinedTies
import Derived.KernelRfl
namespace Go.Proofs.Ytcakppdabolfiaa
/- THE CELL 'sum', in the pinned program and in every row, IS THE sha256 OF THE DUMP (.gsa) THAT YtcakppdabolfiaaProg.lean LOADS. Nothing in Lean hashes anything: it is a label: what it is worth is what the hold of that sum in a sandbox is worth. -/
noncomputable def Try.pinned : Pinned := { name := "ytcakppdabolfiaa", sum := "23002e88c66d59a0fcc32e2bdd69808a235d0566ff43de32901da42b2543cd84", checked := Try.checked }
namespace Rows
def none {H : Type} : Left H := { results := [], args := [] }

/-- 'bifoldlaw17.PnumTells': WHATEVER THE INPUT: true; the input reads as it did. -/
def pnumTellsSpec : ChangeSpec := { name := "pnumTells", fn := fun _ => fun
  | [d1, d2, d3] => { results := [.lit (.bool true)], args := [d1, d2, d3] }
  | _ => none }
def pnumTellsRow : OpenClaim := { program := "ytcakppdabolfiaa", sum := "23002e88c66d59a0fcc32e2bdd69808a235d0566ff43de32901da42b2543cd84", func := "bifold/bifoldlaw17.PnumTells", spec := "pnumTells", apart := false }
def PnumTellsSaid : Prop := pnumTellsRow.holds Try.pinned (OpenSpec.ofChange pnumTellsSpec)

/-- ITS FALSE NEIGHBOUR: 'it returns false'. Refute it at one input. -/
def pnumTellsWrong : ChangeSpec := { name := "pnumTells", fn := fun _ => fun
  | [d1, d2, d3] => { results := [.lit (.bool false)], args := [d1, d2, d3] }
  | _ => none }
def PnumTellsWrongFalsely : Prop := pnumTellsRow.holds Try.pinned (OpenSpec.ofChange pnumTellsWrong)

/-- 'bifoldlaw17.PnumBack': WHATEVER THE INPUT: true; the input reads as it did. -/
def pnumBackSpec : ChangeSpec := { name := "pnumBack", fn := fun _ => fun
  | [d1, d2, d3] => { results := [.lit (.bool true)], args := [d1, d2, d3] }
  | _ => none }
def pnumBackRow : OpenClaim := { program := "ytcakppdabolfiaa", sum := "23002e88c66d59a0fcc32e2bdd69808a235d0566ff43de32901da42b2543cd84", func := "bifold/bifoldlaw17.PnumBack", spec := "pnumBack", apart := false }
def PnumBackSaid : Prop := pnumBackRow.holds Try.pinned (OpenSpec.ofChange pnumBackSpec)

/-- ITS FALSE NEIGHBOUR: 'it returns false'. Refute it at one input. -/
def pnumBackWrong : ChangeSpec := { name := "pnumBack", fn := fun _ => fun
  | [d1, d2, d3] => { results := [.lit (.bool false)], args := [d1, d2, d3] }
  | _ => none }
def PnumBackWrongFalsely : Prop := pnumBackRow.holds Try.pinned (OpenSpec.ofChange pnumBackWrong)

/-- 'bifoldlaw17.PnumNear': WHATEVER THE INPUT: true; the input reads as it did. -/
def pnumNearSpec : ChangeSpec := { name := "pnumNear", fn := fun _ => fun
  | [d1, d2, d3] => { results := [.lit (.bool true)], args := [d1, d2, d3] }
  | _ => none }
def pnumNearRow : OpenClaim := { program := "ytcakppdabolfiaa", sum := "23002e88c66d59a0fcc32e2bdd69808a235d0566ff43de32901da42b2543cd84", func := "bifold/bifoldlaw17.PnumNear", spec := "pnumNear", apart := false }
def PnumNearSaid : Prop := pnumNearRow.holds Try.pinned (OpenSpec.ofChange pnumNearSpec)

/-- ITS FALSE NEIGHBOUR: 'it returns false'. Refute it at one input. -/
def pnumNearWrong : ChangeSpec := { name := "pnumNear", fn := fun _ => fun
  | [d1, d2, d3] => { results := [.lit (.bool false)], args := [d1, d2, d3] }
  | _ => none }
def PnumNearWrongFalsely : Prop := pnumNearRow.holds Try.pinned (OpenSpec.ofChange pnumNearWrong)

/-- 'bifoldlaw17.PnumLens': WHATEVER THE INPUT: true; the input reads as it did. -/
def pnumLensSpec : ChangeSpec := { name := "pnumLens", fn := fun _ => fun
  | [d1, d2, d3] => { results := [.lit (.bool true)], args := [d1, d2, d3] }
  | _ => none }
def pnumLensRow : OpenClaim := { program := "ytcakppdabolfiaa", sum := "23002e88c66d59a0fcc32e2bdd69808a235d0566ff43de32901da42b2543cd84", func := "bifold/bifoldlaw17.PnumLens", spec := "pnumLens", apart := false }
def PnumLensSaid : Prop := pnumLensRow.holds Try.pinned (OpenSpec.ofChange pnumLensSpec)

/-- ITS FALSE NEIGHBOUR: 'it returns false'. Refute it at one input. -/
def pnumLensWrong : ChangeSpec := { name := "pnumLens", fn := fun _ => fun
  | [d1, d2, d3] => { results := [.lit (.bool false)], args := [d1, d2, d3] }
  | _ => none }
def PnumLensWrongFalsely : Prop := pnumLensRow.holds Try.pinned (OpenSpec.ofChange pnumLensWrong)

/-- 'bifoldlaw18.PktJoined': WHATEVER THE INPUT: true; the input reads as it did. -/
def pktJoinedSpec : ChangeSpec := { name := "pktJoined", fn := fun _ => fun
  | [d1, d2, d3] => { results := [.lit (.bool true)], args := [d1, d2, d3] }
  | _ => none }
def pktJoinedRow : OpenClaim := { program := "ytcakppdabolfiaa", sum := "23002e88c66d59a0fcc32e2bdd69808a235d0566ff43de32901da42b2543cd84", func := "bifold/bifoldlaw18.PktJoined", spec := "pktJoined", apart := false }
def PktJoinedSaid : Prop := pktJoinedRow.holds Try.pinned (OpenSpec.ofChange pktJoinedSpec)

/-- ITS FALSE NEIGHBOUR: 'it returns false'. Refute it at one input. -/
def pktJoinedWrong : ChangeSpec := { name := "pktJoined", fn := fun _ => fun
  | [d1, d2, d3] => { results := [.lit (.bool false)], args := [d1, d2, d3] }
  | _ => none }
def PktJoinedWrongFalsely : Prop := pktJoinedRow.holds Try.pinned (OpenSpec.ofChange pktJoinedWrong)

/-- 'bifoldlaw18.PktGreat': WHATEVER THE INPUT: true; the input reads as it did. -/
def pktGreatSpec : ChangeSpec := { name := "pktGreat", fn := fun _ => fun
  | [d1, d2, d3] => { results := [.lit (.bool true)], args := [d1, d2, d3] }
  | _ => none }
def pktGreatRow : OpenClaim := { program := "ytcakppdabolfiaa", sum := "23002e88c66d59a0fcc32e2bdd69808a235d0566ff43de32901da42b2543cd84", func := "bifold/bifoldlaw18.PktGreat", spec := "pktGreat", apart := false }
def PktGreatSaid : Prop := pktGreatRow.holds Try.pinned (OpenSpec.ofChange pktGreatSpec)

/-- ITS FALSE NEIGHBOUR: 'it returns false'. Refute it at one input. -/
def pktGreatWrong : ChangeSpec := { name := "pktGreat", fn := fun _ => fun
  | [d1, d2, d3] => { results := [.lit (.bool false)], args := [d1, d2, d3] }
  | _ => none }
def PktGreatWrongFalsely : Prop := pktGreatRow.holds Try.pinned (OpenSpec.ofChange pktGreatWrong)

/-- 'bifoldlaw19.QframeBack': WHATEVER THE INPUT: true; the input reads as it did. -/
def qframeBackSpec : ChangeSpec := { name := "qframeBack", fn := fun _ => fun
  | [d] => { results := [.lit (.bool true)], args := [d] }
  | _ => none }
def qframeBackRow : OpenClaim := { program := "ytcakppdabolfiaa", sum := "23002e88c66d59a0fcc32e2bdd69808a235d0566ff43de32901da42b2543cd84", func := "bifold/bifoldlaw19.QframeBack", spec := "qframeBack", apart := false }
def QframeBackSaid : Prop := qframeBackRow.holds Try.pinned (OpenSpec.ofChange qframeBackSpec)

/-- ITS FALSE NEIGHBOUR: 'it returns false'. Refute it at one input. -/
def qframeBackWrong : ChangeSpec := { name := "qframeBack", fn := fun _ => fun
  | [d] => { results := [.lit (.bool false)], args := [d] }
  | _ => none }
def QframeBackWrongFalsely : Prop := qframeBackRow.holds Try.pinned (OpenSpec.ofChange qframeBackWrong)

/-- 'bifoldlaw19.QframeReads': WHATEVER THE INPUT: true; the input reads as it did. -/
def qframeReadsSpec : ChangeSpec := { name := "qframeReads", fn := fun _ => fun
  | [d1, d2, d3, d4, d5] => { results := [.lit (.bool true)], args := [d1, d2, d3, d4, d5] }
  | _ => none }
def qframeReadsRow : OpenClaim := { program := "ytcakppdabolfiaa", sum := "23002e88c66d59a0fcc32e2bdd69808a235d0566ff43de32901da42b2543cd84", func := "bifold/bifoldlaw19.QframeReads", spec := "qframeReads", apart := false }
def QframeReadsSaid : Prop := qframeReadsRow.holds Try.pinned (OpenSpec.ofChange qframeReadsSpec)

/-- ITS FALSE NEIGHBOUR: 'it returns false'. Refute it at one input. -/
def qframeReadsWrong : ChangeSpec := { name := "qframeReads", fn := fun _ => fun
  | [d1, d2, d3, d4, d5] => { results := [.lit (.bool false)], args := [d1, d2, d3, d4, d5] }
  | _ => none }
def QframeReadsWrongFalsely : Prop := qframeReadsRow.holds Try.pinned (OpenSpec.ofChange qframeReadsWrong)

/-- 'bifoldlaw19.QframeAcks': WHATEVER THE INPUT: true; the input reads as it did. -/
def qframeAcksSpec : ChangeSpec := { name := "qframeAcks", fn := fun _ => fun
  | [d1, d2, d3, d4] => { results := [.lit (.bool true)], args := [d1, d2, d3, d4] }
  | _ => none }
def qframeAcksRow : OpenClaim := { program := "ytcakppdabolfiaa", sum := "23002e88c66d59a0fcc32e2bdd69808a235d0566ff43de32901da42b2543cd84", func := "bifold/bifoldlaw19.QframeAcks", spec := "qframeAcks", apart := false }
def QframeAcksSaid : Prop := qframeAcksRow.holds Try.pinned (OpenSpec.ofChange qframeAcksSpec)

/-- ITS FALSE NEIGHBOUR: 'it returns false'. Refute it at one input. -/
def qframeAcksWrong : ChangeSpec := { name := "qframeAcks", fn := fun _ => fun
  | [d1, d2, d3, d4] => { results := [.lit (.bool false)], args := [d1, d2, d3, d4] }
  | _ => none }
def QframeAcksWrongFalsely : Prop := qframeAcksRow.holds Try.pinned (OpenSpec.ofChange qframeAcksWrong)

/-- 'bifoldlaw19.QframeEnds': WHATEVER THE INPUT: true; the input reads as it did. -/
def qframeEndsSpec : ChangeSpec := { name := "qframeEnds", fn := fun _ => fun
  | [d1, d2, d3, d4] => { results := [.lit (.bool true)], args := [d1, d2, d3, d4] }
  | _ => none }
def qframeEndsRow : OpenClaim := { program := "ytcakppdabolfiaa", sum := "23002e88c66d59a0fcc32e2bdd69808a235d0566ff43de32901da42b2543cd84", func := "bifold/bifoldlaw19.QframeEnds", spec := "qframeEnds", apart := false }
def QframeEndsSaid : Prop := qframeEndsRow.holds Try.pinned (OpenSpec.ofChange qframeEndsSpec)

/-- ITS FALSE NEIGHBOUR: 'it returns false'. Refute it at one input. -/
def qframeEndsWrong : ChangeSpec := { name := "qframeEnds", fn := fun _ => fun
  | [d1, d2, d3, d4] => { results := [.lit (.bool false)], args := [d1, d2, d3, d4] }
  | _ => none }
def QframeEndsWrongFalsely : Prop := qframeEndsRow.holds Try.pinned (OpenSpec.ofChange qframeEndsWrong)

/-- 'bifoldlaw19.QframeLimits': WHATEVER THE INPUT: true; the input reads as it did. -/
def qframeLimitsSpec : ChangeSpec := { name := "qframeLimits", fn := fun _ => fun
  | [d1, d2, d3] => { results := [.lit (.bool true)], args := [d1, d2, d3] }
  | _ => none }
def qframeLimitsRow : OpenClaim := { program := "ytcakppdabolfiaa", sum := "23002e88c66d59a0fcc32e2bdd69808a235d0566ff43de32901da42b2543cd84", func := "bifold/bifoldlaw19.QframeLimits", spec := "qframeLimits", apart := false }
def QframeLimitsSaid : Prop := qframeLimitsRow.holds Try.pinned (OpenSpec.ofChange qframeLimitsSpec)

/-- ITS FALSE NEIGHBOUR: 'it returns false'. Refute it at one input. -/
def qframeLimitsWrong : ChangeSpec := { name := "qframeLimits", fn := fun _ => fun
  | [d1, d2, d3] => { results := [.lit (.bool false)], args := [d1, d2, d3] }
  | _ => none }
def QframeLimitsWrongFalsely : Prop := qframeLimitsRow.holds Try.pinned (OpenSpec.ofChange qframeLimitsWrong)

/-- 'bifoldlaw20.ParamBack': WHATEVER THE INPUT: true; the input reads as it did. -/
def paramBackSpec : ChangeSpec := { name := "paramBack", fn := fun _ => fun
  | [d] => { results := [.lit (.bool true)], args := [d] }
  | _ => none }
def paramBackRow : OpenClaim := { program := "ytcakppdabolfiaa", sum := "23002e88c66d59a0fcc32e2bdd69808a235d0566ff43de32901da42b2543cd84", func := "bifold/bifoldlaw20.ParamBack", spec := "paramBack", apart := false }
def ParamBackSaid : Prop := paramBackRow.holds Try.pinned (OpenSpec.ofChange paramBackSpec)

/-- ITS FALSE NEIGHBOUR: 'it returns false'. Refute it at one input. -/
def paramBackWrong : ChangeSpec := { name := "paramBack", fn := fun _ => fun
  | [d] => { results := [.lit (.bool false)], args := [d] }
  | _ => none }
def ParamBackWrongFalsely : Prop := paramBackRow.holds Try.pinned (OpenSpec.ofChange paramBackWrong)

/-- 'bifoldlaw20.ParamReads': WHATEVER THE INPUT: true; the input reads as it did. -/
def paramReadsSpec : ChangeSpec := { name := "paramReads", fn := fun _ => fun
  | [d1, d2, d3, d4, d5] => { results := [.lit (.bool true)], args := [d1, d2, d3, d4, d5] }
  | _ => none }
def paramReadsRow : OpenClaim := { program := "ytcakppdabolfiaa", sum := "23002e88c66d59a0fcc32e2bdd69808a235d0566ff43de32901da42b2543cd84", func := "bifold/bifoldlaw20.ParamReads", spec := "paramReads", apart := false }
def ParamReadsSaid : Prop := paramReadsRow.holds Try.pinned (OpenSpec.ofChange paramReadsSpec)

/-- ITS FALSE NEIGHBOUR: 'it returns false'. Refute it at one input. -/
def paramReadsWrong : ChangeSpec := { name := "paramReads", fn := fun _ => fun
  | [d1, d2, d3, d4, d5] => { results := [.lit (.bool false)], args := [d1, d2, d3, d4, d5] }
  | _ => none }
def ParamReadsWrongFalsely : Prop := paramReadsRow.holds Try.pinned (OpenSpec.ofChange paramReadsWrong)

/-- 'bifoldlaw20.ParamLimits': WHATEVER THE INPUT: true; the input reads as it did. -/
def paramLimitsSpec : ChangeSpec := { name := "paramLimits", fn := fun _ => fun
  | [d1, d2, d3, d4] => { results := [.lit (.bool true)], args := [d1, d2, d3, d4] }
  | _ => none }
def paramLimitsRow : OpenClaim := { program := "ytcakppdabolfiaa", sum := "23002e88c66d59a0fcc32e2bdd69808a235d0566ff43de32901da42b2543cd84", func := "bifold/bifoldlaw20.ParamLimits", spec := "paramLimits", apart := false }
def ParamLimitsSaid : Prop := paramLimitsRow.holds Try.pinned (OpenSpec.ofChange paramLimitsSpec)

/-- ITS FALSE NEIGHBOUR: 'it returns false'. Refute it at one input. -/
def paramLimitsWrong : ChangeSpec := { name := "paramLimits", fn := fun _ => fun
  | [d1, d2, d3, d4] => { results := [.lit (.bool false)], args := [d1, d2, d3, d4] }
  | _ => none }
def ParamLimitsWrongFalsely : Prop := paramLimitsRow.holds Try.pinned (OpenSpec.ofChange paramLimitsWrong)

/- THE SECOND FORM. 'bulk': how many values and letters a reading holds, each counted each time it is reached (what is shared counts as often as it is met; a slice's spare places count too). A statement '..UptoSaid' is the law's where the arguments, and the package variables that the reading takes, are together of bulk at most 1048576: NARROWER than '..Said'. Prove '..Said' where nothing that the law and all that it calls make is longer than what came in: it says more and counts as full. Else prove '..UptoSaid'. A law counts once. -/
mutual
def uptoBulk {H : Type} : DataW H → Nat
  | .lit (.string bytes) => bytes.length + 1
  | .lit _ => 1
  | .nil => 1
  | .ptr d => uptoBulk d + 1
  | .slice elems spare => uptoBulkAll elems + uptoBulkAll spare + 1
  | .agg parts => uptoBulkAll parts + 1
  | .iface _ d => uptoBulk d + 1
  | .map entries => uptoBulkEntries entries + 1
  | .held _ => 1
def uptoBulkAll {H : Type} : List (DataW H) → Nat
  | [] => 0
  | d :: r => uptoBulk d + uptoBulkAll r
def uptoBulkEntries {H : Type} : List (Lit × DataW H) → Nat
  | [] => 0
  | x :: r => uptoBulkEntry x + uptoBulkEntries r
def uptoBulkEntry {H : Type} : Lit × DataW H → Nat
  | (.string bytes, d) => bytes.length + uptoBulk d + 1
  | (_, d) => uptoBulk d + 1
 end
def uptoSmall : (H : Type) → List (DataW H) → Bool := fun _ ds => decide (uptoBulkAll ds ≤ 1048576)
def OpenSpec.upto (s : _root_.Go.ChangeSpec) : _root_.Go.OpenSpec := { _root_.Go.OpenSpec.ofChange s with cond := some uptoSmall }

/-- 'bifoldlaw17.PnumTells', WHERE WHAT IT READS IS OF BULK AT MOST 1048576: true; the input reads as it did. -/
def pnumTellsUptoRow : OpenClaim := { program := "ytcakppdabolfiaa", sum := "23002e88c66d59a0fcc32e2bdd69808a235d0566ff43de32901da42b2543cd84", func := "bifold/bifoldlaw17.PnumTells", spec := "pnumTells", apart := false, narrowed := true }
def PnumTellsUptoSaid : Prop := pnumTellsUptoRow.holds Try.pinned (OpenSpec.upto pnumTellsSpec)

/-- 'bifoldlaw17.PnumBack', WHERE WHAT IT READS IS OF BULK AT MOST 1048576: true; the input reads as it did. -/
def pnumBackUptoRow : OpenClaim := { program := "ytcakppdabolfiaa", sum := "23002e88c66d59a0fcc32e2bdd69808a235d0566ff43de32901da42b2543cd84", func := "bifold/bifoldlaw17.PnumBack", spec := "pnumBack", apart := false, narrowed := true }
def PnumBackUptoSaid : Prop := pnumBackUptoRow.holds Try.pinned (OpenSpec.upto pnumBackSpec)

/-- 'bifoldlaw17.PnumNear', WHERE WHAT IT READS IS OF BULK AT MOST 1048576: true; the input reads as it did. -/
def pnumNearUptoRow : OpenClaim := { program := "ytcakppdabolfiaa", sum := "23002e88c66d59a0fcc32e2bdd69808a235d0566ff43de32901da42b2543cd84", func := "bifold/bifoldlaw17.PnumNear", spec := "pnumNear", apart := false, narrowed := true }
def PnumNearUptoSaid : Prop := pnumNearUptoRow.holds Try.pinned (OpenSpec.upto pnumNearSpec)

/-- 'bifoldlaw17.PnumLens', WHERE WHAT IT READS IS OF BULK AT MOST 1048576: true; the input reads as it did. -/
def pnumLensUptoRow : OpenClaim := { program := "ytcakppdabolfiaa", sum := "23002e88c66d59a0fcc32e2bdd69808a235d0566ff43de32901da42b2543cd84", func := "bifold/bifoldlaw17.PnumLens", spec := "pnumLens", apart := false, narrowed := true }
def PnumLensUptoSaid : Prop := pnumLensUptoRow.holds Try.pinned (OpenSpec.upto pnumLensSpec)

/-- 'bifoldlaw18.PktJoined', WHERE WHAT IT READS IS OF BULK AT MOST 1048576: true; the input reads as it did. -/
def pktJoinedUptoRow : OpenClaim := { program := "ytcakppdabolfiaa", sum := "23002e88c66d59a0fcc32e2bdd69808a235d0566ff43de32901da42b2543cd84", func := "bifold/bifoldlaw18.PktJoined", spec := "pktJoined", apart := false, narrowed := true }
def PktJoinedUptoSaid : Prop := pktJoinedUptoRow.holds Try.pinned (OpenSpec.upto pktJoinedSpec)

/-- 'bifoldlaw18.PktGreat', WHERE WHAT IT READS IS OF BULK AT MOST 1048576: true; the input reads as it did. -/
def pktGreatUptoRow : OpenClaim := { program := "ytcakppdabolfiaa", sum := "23002e88c66d59a0fcc32e2bdd69808a235d0566ff43de32901da42b2543cd84", func := "bifold/bifoldlaw18.PktGreat", spec := "pktGreat", apart := false, narrowed := true }
def PktGreatUptoSaid : Prop := pktGreatUptoRow.holds Try.pinned (OpenSpec.upto pktGreatSpec)

/-- 'bifoldlaw19.QframeBack', WHERE WHAT IT READS IS OF BULK AT MOST 1048576: true; the input reads as it did. -/
def qframeBackUptoRow : OpenClaim := { program := "ytcakppdabolfiaa", sum := "23002e88c66d59a0fcc32e2bdd69808a235d0566ff43de32901da42b2543cd84", func := "bifold/bifoldlaw19.QframeBack", spec := "qframeBack", apart := false, narrowed := true }
def QframeBackUptoSaid : Prop := qframeBackUptoRow.holds Try.pinned (OpenSpec.upto qframeBackSpec)

/-- 'bifoldlaw19.QframeReads', WHERE WHAT IT READS IS OF BULK AT MOST 1048576: true; the input reads as it did. -/
def qframeReadsUptoRow : OpenClaim := { program := "ytcakppdabolfiaa", sum := "23002e88c66d59a0fcc32e2bdd69808a235d0566ff43de32901da42b2543cd84", func := "bifold/bifoldlaw19.QframeReads", spec := "qframeReads", apart := false, narrowed := true }
def QframeReadsUptoSaid : Prop := qframeReadsUptoRow.holds Try.pinned (OpenSpec.upto qframeReadsSpec)

/-- 'bifoldlaw19.QframeAcks', WHERE WHAT IT READS IS OF BULK AT MOST 1048576: true; the input reads as it did. -/
def qframeAcksUptoRow : OpenClaim := { program := "ytcakppdabolfiaa", sum := "23002e88c66d59a0fcc32e2bdd69808a235d0566ff43de32901da42b2543cd84", func := "bifold/bifoldlaw19.QframeAcks", spec := "qframeAcks", apart := false, narrowed := true }
def QframeAcksUptoSaid : Prop := qframeAcksUptoRow.holds Try.pinned (OpenSpec.upto qframeAcksSpec)

/-- 'bifoldlaw19.QframeEnds', WHERE WHAT IT READS IS OF BULK AT MOST 1048576: true; the input reads as it did. -/
def qframeEndsUptoRow : OpenClaim := { program := "ytcakppdabolfiaa", sum := "23002e88c66d59a0fcc32e2bdd69808a235d0566ff43de32901da42b2543cd84", func := "bifold/bifoldlaw19.QframeEnds", spec := "qframeEnds", apart := false, narrowed := true }
def QframeEndsUptoSaid : Prop := qframeEndsUptoRow.holds Try.pinned (OpenSpec.upto qframeEndsSpec)

/-- 'bifoldlaw19.QframeLimits', WHERE WHAT IT READS IS OF BULK AT MOST 1048576: true; the input reads as it did. -/
def qframeLimitsUptoRow : OpenClaim := { program := "ytcakppdabolfiaa", sum := "23002e88c66d59a0fcc32e2bdd69808a235d0566ff43de32901da42b2543cd84", func := "bifold/bifoldlaw19.QframeLimits", spec := "qframeLimits", apart := false, narrowed := true }
def QframeLimitsUptoSaid : Prop := qframeLimitsUptoRow.holds Try.pinned (OpenSpec.upto qframeLimitsSpec)

/-- 'bifoldlaw20.ParamBack', WHERE WHAT IT READS IS OF BULK AT MOST 1048576: true; the input reads as it did. -/
def paramBackUptoRow : OpenClaim := { program := "ytcakppdabolfiaa", sum := "23002e88c66d59a0fcc32e2bdd69808a235d0566ff43de32901da42b2543cd84", func := "bifold/bifoldlaw20.ParamBack", spec := "paramBack", apart := false, narrowed := true }
def ParamBackUptoSaid : Prop := paramBackUptoRow.holds Try.pinned (OpenSpec.upto paramBackSpec)

/-- 'bifoldlaw20.ParamReads', WHERE WHAT IT READS IS OF BULK AT MOST 1048576: true; the input reads as it did. -/
def paramReadsUptoRow : OpenClaim := { program := "ytcakppdabolfiaa", sum := "23002e88c66d59a0fcc32e2bdd69808a235d0566ff43de32901da42b2543cd84", func := "bifold/bifoldlaw20.ParamReads", spec := "paramReads", apart := false, narrowed := true }
def ParamReadsUptoSaid : Prop := paramReadsUptoRow.holds Try.pinned (OpenSpec.upto paramReadsSpec)

/-- 'bifoldlaw20.ParamLimits', WHERE WHAT IT READS IS OF BULK AT MOST 1048576: true; the input reads as it did. -/
def paramLimitsUptoRow : OpenClaim := { program := "ytcakppdabolfiaa", sum := "23002e88c66d59a0fcc32e2bdd69808a235d0566ff43de32901da42b2543cd84", func := "bifold/bifoldlaw20.ParamLimits", spec := "paramLimits", apart := false, narrowed := true }
def ParamLimitsUptoSaid : Prop := paramLimitsUptoRow.holds Try.pinned (OpenSpec.upto paramLimitsSpec)

end Rows
end Go.Proofs.Ytcakppdabolfiaa
