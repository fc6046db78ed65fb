/-
  Texts put together: StMath, OwB, QtA, QtB, QtC, QtD, OwN, Piece.
-/
import Derived.Test.YteopmaaghhendaaP01
import Derived.KernelRfl
import Derived.Lib.AppendStr
import Derived.Deep.OwnRows
import Derived.Test.YteopmaaghhendaaP04
import Derived.Test.YteopmaaghhendaaRows
import Derived.WalkKit
import Derived.WalkSpells
import Derived.WalkLawsBesides
import Derived.Lib.MinMax
import Derived.Lib.Hide
import Derived.Handy
import Derived.Deep.LoopGhost

/-
  The two tables that never change, as plain mathematics: what stands where. No program is named here.
-/
namespace Go.Proofs.Yteopmaaghhendaa
set_option linter.unusedVariables false

/-- The entries of HPACK's table. -/
def T2 : List Fd := [
  (⟨#[58, 97, 117, 116, 104, 111, 114, 105, 116, 121]⟩, ⟨#[]⟩),
  (⟨#[58, 109, 101, 116, 104, 111, 100]⟩, ⟨#[71, 69, 84]⟩),
  (⟨#[58, 109, 101, 116, 104, 111, 100]⟩, ⟨#[80, 79, 83, 84]⟩),
  (⟨#[58, 112, 97, 116, 104]⟩, ⟨#[47]⟩),
  (⟨#[58, 112, 97, 116, 104]⟩, ⟨#[47, 105, 110, 100, 101, 120, 46, 104, 116, 109, 108]⟩),
  (⟨#[58, 115, 99, 104, 101, 109, 101]⟩, ⟨#[104, 116, 116, 112]⟩),
  (⟨#[58, 115, 99, 104, 101, 109, 101]⟩, ⟨#[104, 116, 116, 112, 115]⟩),
  (⟨#[58, 115, 116, 97, 116, 117, 115]⟩, ⟨#[50, 48, 48]⟩),
  (⟨#[58, 115, 116, 97, 116, 117, 115]⟩, ⟨#[50, 48, 52]⟩),
  (⟨#[58, 115, 116, 97, 116, 117, 115]⟩, ⟨#[50, 48, 54]⟩),
  (⟨#[58, 115, 116, 97, 116, 117, 115]⟩, ⟨#[51, 48, 52]⟩),
  (⟨#[58, 115, 116, 97, 116, 117, 115]⟩, ⟨#[52, 48, 48]⟩),
  (⟨#[58, 115, 116, 97, 116, 117, 115]⟩, ⟨#[52, 48, 52]⟩),
  (⟨#[58, 115, 116, 97, 116, 117, 115]⟩, ⟨#[53, 48, 48]⟩),
  (⟨#[97, 99, 99, 101, 112, 116, 45, 99, 104, 97, 114, 115, 101, 116]⟩, ⟨#[]⟩),
  (⟨#[97, 99, 99, 101, 112, 116, 45, 101, 110, 99, 111, 100, 105, 110, 103]⟩, ⟨#[103, 122, 105, 112, 44, 32, 100, 101, 102, 108, 97, 116, 101]⟩),
  (⟨#[97, 99, 99, 101, 112, 116, 45, 108, 97, 110, 103, 117, 97, 103, 101]⟩, ⟨#[]⟩),
  (⟨#[97, 99, 99, 101, 112, 116, 45, 114, 97, 110, 103, 101, 115]⟩, ⟨#[]⟩),
  (⟨#[97, 99, 99, 101, 112, 116]⟩, ⟨#[]⟩),
  (⟨#[97, 99, 99, 101, 115, 115, 45, 99, 111, 110, 116, 114, 111, 108, 45, 97, 108, 108, 111, 119, 45, 111, 114, 105, 103, 105, 110]⟩, ⟨#[]⟩),
  (⟨#[97, 103, 101]⟩, ⟨#[]⟩),
  (⟨#[97, 108, 108, 111, 119]⟩, ⟨#[]⟩),
  (⟨#[97, 117, 116, 104, 111, 114, 105, 122, 97, 116, 105, 111, 110]⟩, ⟨#[]⟩),
  (⟨#[99, 97, 99, 104, 101, 45, 99, 111, 110, 116, 114, 111, 108]⟩, ⟨#[]⟩),
  (⟨#[99, 111, 110, 116, 101, 110, 116, 45, 100, 105, 115, 112, 111, 115, 105, 116, 105, 111, 110]⟩, ⟨#[]⟩),
  (⟨#[99, 111, 110, 116, 101, 110, 116, 45, 101, 110, 99, 111, 100, 105, 110, 103]⟩, ⟨#[]⟩),
  (⟨#[99, 111, 110, 116, 101, 110, 116, 45, 108, 97, 110, 103, 117, 97, 103, 101]⟩, ⟨#[]⟩),
  (⟨#[99, 111, 110, 116, 101, 110, 116, 45, 108, 101, 110, 103, 116, 104]⟩, ⟨#[]⟩),
  (⟨#[99, 111, 110, 116, 101, 110, 116, 45, 108, 111, 99, 97, 116, 105, 111, 110]⟩, ⟨#[]⟩),
  (⟨#[99, 111, 110, 116, 101, 110, 116, 45, 114, 97, 110, 103, 101]⟩, ⟨#[]⟩),
  (⟨#[99, 111, 110, 116, 101, 110, 116, 45, 116, 121, 112, 101]⟩, ⟨#[]⟩),
  (⟨#[99, 111, 111, 107, 105, 101]⟩, ⟨#[]⟩),
  (⟨#[100, 97, 116, 101]⟩, ⟨#[]⟩),
  (⟨#[101, 116, 97, 103]⟩, ⟨#[]⟩),
  (⟨#[101, 120, 112, 101, 99, 116]⟩, ⟨#[]⟩),
  (⟨#[101, 120, 112, 105, 114, 101, 115]⟩, ⟨#[]⟩),
  (⟨#[102, 114, 111, 109]⟩, ⟨#[]⟩),
  (⟨#[104, 111, 115, 116]⟩, ⟨#[]⟩),
  (⟨#[105, 102, 45, 109, 97, 116, 99, 104]⟩, ⟨#[]⟩),
  (⟨#[105, 102, 45, 109, 111, 100, 105, 102, 105, 101, 100, 45, 115, 105, 110, 99, 101]⟩, ⟨#[]⟩),
  (⟨#[105, 102, 45, 110, 111, 110, 101, 45, 109, 97, 116, 99, 104]⟩, ⟨#[]⟩),
  (⟨#[105, 102, 45, 114, 97, 110, 103, 101]⟩, ⟨#[]⟩),
  (⟨#[105, 102, 45, 117, 110, 109, 111, 100, 105, 102, 105, 101, 100, 45, 115, 105, 110, 99, 101]⟩, ⟨#[]⟩),
  (⟨#[108, 97, 115, 116, 45, 109, 111, 100, 105, 102, 105, 101, 100]⟩, ⟨#[]⟩),
  (⟨#[108, 105, 110, 107]⟩, ⟨#[]⟩),
  (⟨#[108, 111, 99, 97, 116, 105, 111, 110]⟩, ⟨#[]⟩),
  (⟨#[109, 97, 120, 45, 102, 111, 114, 119, 97, 114, 100, 115]⟩, ⟨#[]⟩),
  (⟨#[112, 114, 111, 120, 121, 45, 97, 117, 116, 104, 101, 110, 116, 105, 99, 97, 116, 101]⟩, ⟨#[]⟩),
  (⟨#[112, 114, 111, 120, 121, 45, 97, 117, 116, 104, 111, 114, 105, 122, 97, 116, 105, 111, 110]⟩, ⟨#[]⟩),
  (⟨#[114, 97, 110, 103, 101]⟩, ⟨#[]⟩),
  (⟨#[114, 101, 102, 101, 114, 101, 114]⟩, ⟨#[]⟩),
  (⟨#[114, 101, 102, 114, 101, 115, 104]⟩, ⟨#[]⟩),
  (⟨#[114, 101, 116, 114, 121, 45, 97, 102, 116, 101, 114]⟩, ⟨#[]⟩),
  (⟨#[115, 101, 114, 118, 101, 114]⟩, ⟨#[]⟩),
  (⟨#[115, 101, 116, 45, 99, 111, 111, 107, 105, 101]⟩, ⟨#[]⟩),
  (⟨#[115, 116, 114, 105, 99, 116, 45, 116, 114, 97, 110, 115, 112, 111, 114, 116, 45, 115, 101, 99, 117, 114, 105, 116, 121]⟩, ⟨#[]⟩),
  (⟨#[116, 114, 97, 110, 115, 102, 101, 114, 45, 101, 110, 99, 111, 100, 105, 110, 103]⟩, ⟨#[]⟩),
  (⟨#[117, 115, 101, 114, 45, 97, 103, 101, 110, 116]⟩, ⟨#[]⟩),
  (⟨#[118, 97, 114, 121]⟩, ⟨#[]⟩),
  (⟨#[118, 105, 97]⟩, ⟨#[]⟩),
  (⟨#[119, 119, 119, 45, 97, 117, 116, 104, 101, 110, 116, 105, 99, 97, 116, 101]⟩, ⟨#[]⟩)]

/-- The entries of QPACK's table. -/
def T3 : List Fd := [
  (⟨#[58, 97, 117, 116, 104, 111, 114, 105, 116, 121]⟩, ⟨#[]⟩),
  (⟨#[58, 112, 97, 116, 104]⟩, ⟨#[47]⟩),
  (⟨#[97, 103, 101]⟩, ⟨#[48]⟩),
  (⟨#[99, 111, 110, 116, 101, 110, 116, 45, 100, 105, 115, 112, 111, 115, 105, 116, 105, 111, 110]⟩, ⟨#[]⟩),
  (⟨#[99, 111, 110, 116, 101, 110, 116, 45, 108, 101, 110, 103, 116, 104]⟩, ⟨#[48]⟩),
  (⟨#[99, 111, 111, 107, 105, 101]⟩, ⟨#[]⟩),
  (⟨#[100, 97, 116, 101]⟩, ⟨#[]⟩),
  (⟨#[101, 116, 97, 103]⟩, ⟨#[]⟩),
  (⟨#[105, 102, 45, 109, 111, 100, 105, 102, 105, 101, 100, 45, 115, 105, 110, 99, 101]⟩, ⟨#[]⟩),
  (⟨#[105, 102, 45, 110, 111, 110, 101, 45, 109, 97, 116, 99, 104]⟩, ⟨#[]⟩),
  (⟨#[108, 97, 115, 116, 45, 109, 111, 100, 105, 102, 105, 101, 100]⟩, ⟨#[]⟩),
  (⟨#[108, 105, 110, 107]⟩, ⟨#[]⟩),
  (⟨#[108, 111, 99, 97, 116, 105, 111, 110]⟩, ⟨#[]⟩),
  (⟨#[114, 101, 102, 101, 114, 101, 114]⟩, ⟨#[]⟩),
  (⟨#[115, 101, 116, 45, 99, 111, 111, 107, 105, 101]⟩, ⟨#[]⟩),
  (⟨#[58, 109, 101, 116, 104, 111, 100]⟩, ⟨#[67, 79, 78, 78, 69, 67, 84]⟩),
  (⟨#[58, 109, 101, 116, 104, 111, 100]⟩, ⟨#[68, 69, 76, 69, 84, 69]⟩),
  (⟨#[58, 109, 101, 116, 104, 111, 100]⟩, ⟨#[71, 69, 84]⟩),
  (⟨#[58, 109, 101, 116, 104, 111, 100]⟩, ⟨#[72, 69, 65, 68]⟩),
  (⟨#[58, 109, 101, 116, 104, 111, 100]⟩, ⟨#[79, 80, 84, 73, 79, 78, 83]⟩),
  (⟨#[58, 109, 101, 116, 104, 111, 100]⟩, ⟨#[80, 79, 83, 84]⟩),
  (⟨#[58, 109, 101, 116, 104, 111, 100]⟩, ⟨#[80, 85, 84]⟩),
  (⟨#[58, 115, 99, 104, 101, 109, 101]⟩, ⟨#[104, 116, 116, 112]⟩),
  (⟨#[58, 115, 99, 104, 101, 109, 101]⟩, ⟨#[104, 116, 116, 112, 115]⟩),
  (⟨#[58, 115, 116, 97, 116, 117, 115]⟩, ⟨#[49, 48, 51]⟩),
  (⟨#[58, 115, 116, 97, 116, 117, 115]⟩, ⟨#[50, 48, 48]⟩),
  (⟨#[58, 115, 116, 97, 116, 117, 115]⟩, ⟨#[51, 48, 52]⟩),
  (⟨#[58, 115, 116, 97, 116, 117, 115]⟩, ⟨#[52, 48, 52]⟩),
  (⟨#[58, 115, 116, 97, 116, 117, 115]⟩, ⟨#[53, 48, 51]⟩),
  (⟨#[97, 99, 99, 101, 112, 116]⟩, ⟨#[42, 47, 42]⟩),
  (⟨#[97, 99, 99, 101, 112, 116]⟩, ⟨#[97, 112, 112, 108, 105, 99, 97, 116, 105, 111, 110, 47, 100, 110, 115, 45, 109, 101, 115, 115, 97, 103, 101]⟩),
  (⟨#[97, 99, 99, 101, 112, 116, 45, 101, 110, 99, 111, 100, 105, 110, 103]⟩, ⟨#[103, 122, 105, 112, 44, 32, 100, 101, 102, 108, 97, 116, 101, 44, 32, 98, 114]⟩),
  (⟨#[97, 99, 99, 101, 112, 116, 45, 114, 97, 110, 103, 101, 115]⟩, ⟨#[98, 121, 116, 101, 115]⟩),
  (⟨#[97, 99, 99, 101, 115, 115, 45, 99, 111, 110, 116, 114, 111, 108, 45, 97, 108, 108, 111, 119, 45, 104, 101, 97, 100, 101, 114, 115]⟩, ⟨#[99, 97, 99, 104, 101, 45, 99, 111, 110, 116, 114, 111, 108]⟩),
  (⟨#[97, 99, 99, 101, 115, 115, 45, 99, 111, 110, 116, 114, 111, 108, 45, 97, 108, 108, 111, 119, 45, 104, 101, 97, 100, 101, 114, 115]⟩, ⟨#[99, 111, 110, 116, 101, 110, 116, 45, 116, 121, 112, 101]⟩),
  (⟨#[97, 99, 99, 101, 115, 115, 45, 99, 111, 110, 116, 114, 111, 108, 45, 97, 108, 108, 111, 119, 45, 111, 114, 105, 103, 105, 110]⟩, ⟨#[42]⟩),
  (⟨#[99, 97, 99, 104, 101, 45, 99, 111, 110, 116, 114, 111, 108]⟩, ⟨#[109, 97, 120, 45, 97, 103, 101, 61, 48]⟩),
  (⟨#[99, 97, 99, 104, 101, 45, 99, 111, 110, 116, 114, 111, 108]⟩, ⟨#[109, 97, 120, 45, 97, 103, 101, 61, 50, 53, 57, 50, 48, 48, 48]⟩),
  (⟨#[99, 97, 99, 104, 101, 45, 99, 111, 110, 116, 114, 111, 108]⟩, ⟨#[109, 97, 120, 45, 97, 103, 101, 61, 54, 48, 52, 56, 48, 48]⟩),
  (⟨#[99, 97, 99, 104, 101, 45, 99, 111, 110, 116, 114, 111, 108]⟩, ⟨#[110, 111, 45, 99, 97, 99, 104, 101]⟩),
  (⟨#[99, 97, 99, 104, 101, 45, 99, 111, 110, 116, 114, 111, 108]⟩, ⟨#[110, 111, 45, 115, 116, 111, 114, 101]⟩),
  (⟨#[99, 97, 99, 104, 101, 45, 99, 111, 110, 116, 114, 111, 108]⟩, ⟨#[112, 117, 98, 108, 105, 99, 44, 32, 109, 97, 120, 45, 97, 103, 101, 61, 51, 49, 53, 51, 54, 48, 48, 48]⟩),
  (⟨#[99, 111, 110, 116, 101, 110, 116, 45, 101, 110, 99, 111, 100, 105, 110, 103]⟩, ⟨#[98, 114]⟩),
  (⟨#[99, 111, 110, 116, 101, 110, 116, 45, 101, 110, 99, 111, 100, 105, 110, 103]⟩, ⟨#[103, 122, 105, 112]⟩),
  (⟨#[99, 111, 110, 116, 101, 110, 116, 45, 116, 121, 112, 101]⟩, ⟨#[97, 112, 112, 108, 105, 99, 97, 116, 105, 111, 110, 47, 100, 110, 115, 45, 109, 101, 115, 115, 97, 103, 101]⟩),
  (⟨#[99, 111, 110, 116, 101, 110, 116, 45, 116, 121, 112, 101]⟩, ⟨#[97, 112, 112, 108, 105, 99, 97, 116, 105, 111, 110, 47, 106, 97, 118, 97, 115, 99, 114, 105, 112, 116]⟩),
  (⟨#[99, 111, 110, 116, 101, 110, 116, 45, 116, 121, 112, 101]⟩, ⟨#[97, 112, 112, 108, 105, 99, 97, 116, 105, 111, 110, 47, 106, 115, 111, 110]⟩),
  (⟨#[99, 111, 110, 116, 101, 110, 116, 45, 116, 121, 112, 101]⟩, ⟨#[97, 112, 112, 108, 105, 99, 97, 116, 105, 111, 110, 47, 120, 45, 119, 119, 119, 45, 102, 111, 114, 109, 45, 117, 114, 108, 101, 110, 99, 111, 100, 101, 100]⟩),
  (⟨#[99, 111, 110, 116, 101, 110, 116, 45, 116, 121, 112, 101]⟩, ⟨#[105, 109, 97, 103, 101, 47, 103, 105, 102]⟩),
  (⟨#[99, 111, 110, 116, 101, 110, 116, 45, 116, 121, 112, 101]⟩, ⟨#[105, 109, 97, 103, 101, 47, 106, 112, 101, 103]⟩),
  (⟨#[99, 111, 110, 116, 101, 110, 116, 45, 116, 121, 112, 101]⟩, ⟨#[105, 109, 97, 103, 101, 47, 112, 110, 103]⟩),
  (⟨#[99, 111, 110, 116, 101, 110, 116, 45, 116, 121, 112, 101]⟩, ⟨#[116, 101, 120, 116, 47, 99, 115, 115]⟩),
  (⟨#[99, 111, 110, 116, 101, 110, 116, 45, 116, 121, 112, 101]⟩, ⟨#[116, 101, 120, 116, 47, 104, 116, 109, 108, 59, 32, 99, 104, 97, 114, 115, 101, 116, 61, 117, 116, 102, 45, 56]⟩),
  (⟨#[99, 111, 110, 116, 101, 110, 116, 45, 116, 121, 112, 101]⟩, ⟨#[116, 101, 120, 116, 47, 112, 108, 97, 105, 110]⟩),
  (⟨#[99, 111, 110, 116, 101, 110, 116, 45, 116, 121, 112, 101]⟩, ⟨#[116, 101, 120, 116, 47, 112, 108, 97, 105, 110, 59, 99, 104, 97, 114, 115, 101, 116, 61, 117, 116, 102, 45, 56]⟩),
  (⟨#[114, 97, 110, 103, 101]⟩, ⟨#[98, 121, 116, 101, 115, 61, 48, 45]⟩),
  (⟨#[115, 116, 114, 105, 99, 116, 45, 116, 114, 97, 110, 115, 112, 111, 114, 116, 45, 115, 101, 99, 117, 114, 105, 116, 121]⟩, ⟨#[109, 97, 120, 45, 97, 103, 101, 61, 51, 49, 53, 51, 54, 48, 48, 48]⟩),
  (⟨#[115, 116, 114, 105, 99, 116, 45, 116, 114, 97, 110, 115, 112, 111, 114, 116, 45, 115, 101, 99, 117, 114, 105, 116, 121]⟩, ⟨#[109, 97, 120, 45, 97, 103, 101, 61, 51, 49, 53, 51, 54, 48, 48, 48, 59, 32, 105, 110, 99, 108, 117, 100, 101, 115, 117, 98, 100, 111, 109, 97, 105, 110, 115]⟩),
  (⟨#[115, 116, 114, 105, 99, 116, 45, 116, 114, 97, 110, 115, 112, 111, 114, 116, 45, 115, 101, 99, 117, 114, 105, 116, 121]⟩, ⟨#[109, 97, 120, 45, 97, 103, 101, 61, 51, 49, 53, 51, 54, 48, 48, 48, 59, 32, 105, 110, 99, 108, 117, 100, 101, 115, 117, 98, 100, 111, 109, 97, 105, 110, 115, 59, 32, 112, 114, 101, 108, 111, 97, 100]⟩),
  (⟨#[118, 97, 114, 121]⟩, ⟨#[97, 99, 99, 101, 112, 116, 45, 101, 110, 99, 111, 100, 105, 110, 103]⟩),
  (⟨#[118, 97, 114, 121]⟩, ⟨#[111, 114, 105, 103, 105, 110]⟩),
  (⟨#[120, 45, 99, 111, 110, 116, 101, 110, 116, 45, 116, 121, 112, 101, 45, 111, 112, 116, 105, 111, 110, 115]⟩, ⟨#[110, 111, 115, 110, 105, 102, 102]⟩),
  (⟨#[120, 45, 120, 115, 115, 45, 112, 114, 111, 116, 101, 99, 116, 105, 111, 110]⟩, ⟨#[49, 59, 32, 109, 111, 100, 101, 61, 98, 108, 111, 99, 107]⟩),
  (⟨#[58, 115, 116, 97, 116, 117, 115]⟩, ⟨#[49, 48, 48]⟩),
  (⟨#[58, 115, 116, 97, 116, 117, 115]⟩, ⟨#[50, 48, 52]⟩),
  (⟨#[58, 115, 116, 97, 116, 117, 115]⟩, ⟨#[50, 48, 54]⟩),
  (⟨#[58, 115, 116, 97, 116, 117, 115]⟩, ⟨#[51, 48, 50]⟩),
  (⟨#[58, 115, 116, 97, 116, 117, 115]⟩, ⟨#[52, 48, 48]⟩),
  (⟨#[58, 115, 116, 97, 116, 117, 115]⟩, ⟨#[52, 48, 51]⟩),
  (⟨#[58, 115, 116, 97, 116, 117, 115]⟩, ⟨#[52, 50, 49]⟩),
  (⟨#[58, 115, 116, 97, 116, 117, 115]⟩, ⟨#[52, 50, 53]⟩),
  (⟨#[58, 115, 116, 97, 116, 117, 115]⟩, ⟨#[53, 48, 48]⟩),
  (⟨#[97, 99, 99, 101, 112, 116, 45, 108, 97, 110, 103, 117, 97, 103, 101]⟩, ⟨#[]⟩),
  (⟨#[97, 99, 99, 101, 115, 115, 45, 99, 111, 110, 116, 114, 111, 108, 45, 97, 108, 108, 111, 119, 45, 99, 114, 101, 100, 101, 110, 116, 105, 97, 108, 115]⟩, ⟨#[70, 65, 76, 83, 69]⟩),
  (⟨#[97, 99, 99, 101, 115, 115, 45, 99, 111, 110, 116, 114, 111, 108, 45, 97, 108, 108, 111, 119, 45, 99, 114, 101, 100, 101, 110, 116, 105, 97, 108, 115]⟩, ⟨#[84, 82, 85, 69]⟩),
  (⟨#[97, 99, 99, 101, 115, 115, 45, 99, 111, 110, 116, 114, 111, 108, 45, 97, 108, 108, 111, 119, 45, 104, 101, 97, 100, 101, 114, 115]⟩, ⟨#[42]⟩),
  (⟨#[97, 99, 99, 101, 115, 115, 45, 99, 111, 110, 116, 114, 111, 108, 45, 97, 108, 108, 111, 119, 45, 109, 101, 116, 104, 111, 100, 115]⟩, ⟨#[103, 101, 116]⟩),
  (⟨#[97, 99, 99, 101, 115, 115, 45, 99, 111, 110, 116, 114, 111, 108, 45, 97, 108, 108, 111, 119, 45, 109, 101, 116, 104, 111, 100, 115]⟩, ⟨#[103, 101, 116, 44, 32, 112, 111, 115, 116, 44, 32, 111, 112, 116, 105, 111, 110, 115]⟩),
  (⟨#[97, 99, 99, 101, 115, 115, 45, 99, 111, 110, 116, 114, 111, 108, 45, 97, 108, 108, 111, 119, 45, 109, 101, 116, 104, 111, 100, 115]⟩, ⟨#[111, 112, 116, 105, 111, 110, 115]⟩),
  (⟨#[97, 99, 99, 101, 115, 115, 45, 99, 111, 110, 116, 114, 111, 108, 45, 101, 120, 112, 111, 115, 101, 45, 104, 101, 97, 100, 101, 114, 115]⟩, ⟨#[99, 111, 110, 116, 101, 110, 116, 45, 108, 101, 110, 103, 116, 104]⟩),
  (⟨#[97, 99, 99, 101, 115, 115, 45, 99, 111, 110, 116, 114, 111, 108, 45, 114, 101, 113, 117, 101, 115, 116, 45, 104, 101, 97, 100, 101, 114, 115]⟩, ⟨#[99, 111, 110, 116, 101, 110, 116, 45, 116, 121, 112, 101]⟩),
  (⟨#[97, 99, 99, 101, 115, 115, 45, 99, 111, 110, 116, 114, 111, 108, 45, 114, 101, 113, 117, 101, 115, 116, 45, 109, 101, 116, 104, 111, 100]⟩, ⟨#[103, 101, 116]⟩),
  (⟨#[97, 99, 99, 101, 115, 115, 45, 99, 111, 110, 116, 114, 111, 108, 45, 114, 101, 113, 117, 101, 115, 116, 45, 109, 101, 116, 104, 111, 100]⟩, ⟨#[112, 111, 115, 116]⟩),
  (⟨#[97, 108, 116, 45, 115, 118, 99]⟩, ⟨#[99, 108, 101, 97, 114]⟩),
  (⟨#[97, 117, 116, 104, 111, 114, 105, 122, 97, 116, 105, 111, 110]⟩, ⟨#[]⟩),
  (⟨#[99, 111, 110, 116, 101, 110, 116, 45, 115, 101, 99, 117, 114, 105, 116, 121, 45, 112, 111, 108, 105, 99, 121]⟩, ⟨#[115, 99, 114, 105, 112, 116, 45, 115, 114, 99, 32, 39, 110, 111, 110, 101, 39, 59, 32, 111, 98, 106, 101, 99, 116, 45, 115, 114, 99, 32, 39, 110, 111, 110, 101, 39, 59, 32, 98, 97, 115, 101, 45, 117, 114, 105, 32, 39, 110, 111, 110, 101, 39]⟩),
  (⟨#[101, 97, 114, 108, 121, 45, 100, 97, 116, 97]⟩, ⟨#[49]⟩),
  (⟨#[101, 120, 112, 101, 99, 116, 45, 99, 116]⟩, ⟨#[]⟩),
  (⟨#[102, 111, 114, 119, 97, 114, 100, 101, 100]⟩, ⟨#[]⟩),
  (⟨#[105, 102, 45, 114, 97, 110, 103, 101]⟩, ⟨#[]⟩),
  (⟨#[111, 114, 105, 103, 105, 110]⟩, ⟨#[]⟩),
  (⟨#[112, 117, 114, 112, 111, 115, 101]⟩, ⟨#[112, 114, 101, 102, 101, 116, 99, 104]⟩),
  (⟨#[115, 101, 114, 118, 101, 114]⟩, ⟨#[]⟩),
  (⟨#[116, 105, 109, 105, 110, 103, 45, 97, 108, 108, 111, 119, 45, 111, 114, 105, 103, 105, 110]⟩, ⟨#[42]⟩),
  (⟨#[117, 112, 103, 114, 97, 100, 101, 45, 105, 110, 115, 101, 99, 117, 114, 101, 45, 114, 101, 113, 117, 101, 115, 116, 115]⟩, ⟨#[49]⟩),
  (⟨#[117, 115, 101, 114, 45, 97, 103, 101, 110, 116]⟩, ⟨#[]⟩),
  (⟨#[120, 45, 102, 111, 114, 119, 97, 114, 100, 101, 100, 45, 102, 111, 114]⟩, ⟨#[]⟩),
  (⟨#[120, 45, 102, 114, 97, 109, 101, 45, 111, 112, 116, 105, 111, 110, 115]⟩, ⟨#[100, 101, 110, 121]⟩),
  (⟨#[120, 45, 102, 114, 97, 109, 101, 45, 111, 112, 116, 105, 111, 110, 115]⟩, ⟨#[115, 97, 109, 101, 111, 114, 105, 103, 105, 110]⟩)]

theorem t3_len : T3.length = 99 := by decide +kernel
end Go.Proofs.Yteopmaaghhendaa

/-
  Byte rows of their own: appended to, by bytes and by strings; read, stored into.
-/
namespace Go.Proofs.Yteopmaaghhendaa
open Go.RowKit
set_option linter.unusedVariables false

/-- The bytes l in a row of its own, from block B on (or nil). -/
def OwB (w : World) (B : Nat) (v : Value) (l : List UInt8) : Prop := w.ownsRow B 5 1 v (l.map bv).length (l.map bv)
section
variable {w w' : World} {B : Nat} {v : Value} {l : List UInt8}
theorem OwB.nil (w : World) (B : Nat) : OwB w B (.slice none 0 0) [] := World.ownsRow_nil w B 5 1
theorem OwB.bs (h : OwB w B v l) : Bs w v l := Rd.of_own h
theorem OwB.lt (h : OwB w B v l) {k : Nat} (hk : v.ownBlock = some k) : k < w.heap.size := by
  rcases h.2 with ⟨rfl, _⟩ | ⟨g, cap, cur, rfl, hg, hh, rest⟩
  · simp [Value.ownBlock] at hk
  · simp only [Value.ownBlock, Option.some.injEq] at hk
    subst hk
    exact (Array.getElem?_eq_some_iff.1 hh).1
theorem OwB.ge (h : OwB w B v l) {k : Nat} (hk : v.ownBlock = some k) : B ≤ k := by
  rcases h.2 with ⟨rfl, _⟩ | ⟨g, cap, cur, rfl, hg, hh, rest⟩
  · simp [Value.ownBlock] at hk
  · simp only [Value.ownBlock, Option.some.injEq] at hk
    subst hk
    exact hg
theorem OwB.kept (h : OwB w B v l) (hb : ∀ k, v.ownBlock = some k → w'.heap[k]? = w.heap[k]?) : OwB w' B v l := by
  refine ⟨h.1, ?_⟩
  rcases h.2 with h0 | ⟨g, cap, cur, rfl, hg, hh, rest⟩
  · exact .inl h0
  · exact .inr ⟨g, cap, cur, rfl, hg, by rw [hb g rfl]; exact hh, rest⟩
theorem OwB.keep (h : OwB w B v l) (hb : Below w.heap.size w w') : OwB w' B v l := h.kept fun k hk => hb.block k (h.lt hk)
theorem OwB.alloc (h : OwB w B v l) (o : Obj) : OwB (w.alloc o) B v l := h.keep ((Below.refl _ _).alloc (Nat.le_refl _) o)
theorem OwB.drew (h : OwB w B v l) : OwB w.drew B v l := h.keep (Below.refl _ _).drew
theorem OwB.mono {B' : Nat} (h : OwB w B v l) (hB : B' ≤ B) : OwB w B' v l := by
  refine ⟨h.1, h.2.imp id ?_⟩
  rintro ⟨g, cap, cur, a, b, c⟩
  exact ⟨g, cap, cur, a, by omega, c⟩
/-- A block of another type is another block. -/
theorem OwB.ne (h : OwB w B v l) {g : Nat} {t : TypeId} {n : Nat} {F : Nat → Value} (hr : w.rowIs g t n F) (ht : t ≠ 5) : v.ownBlock ≠ some g := by
  intro e
  obtain ⟨c, hc, _⟩ := hr
  rcases h.2 with ⟨rfl, _⟩ | ⟨g', cap, cur, rfl, hg, hh, rest⟩
  · simp [Value.ownBlock] at e
  · simp only [Value.ownBlock, Option.some.injEq] at e
    subst e
    rw [hc] at hh
    injection hh with hh
    injection hh with _ h2 _
    exact ht h2
theorem OwB.snoc {n : Int} {x : Value} (h : w.ownsRow B 5 1 x (l.map bv ++ #[Value.int .u8 n].toList).length (l.map bv ++ #[Value.int .u8 n].toList)) (b : UInt8) (hb : n = (b.toNat : Int)) : OwB w B x (l ++ [b]) := by
  unfold OwB
  rw [List.map_append, List.map_cons, List.map_nil]
  subst hb
  exact h
theorem OwB.str {n : Nat} {x : Value} {s : ByteArray} (h : w.ownsRow B 5 1 x n (l.map bv ++ Lib.strCells s)) : OwB w B x (l ++ s.data.toList) := by
  have e : l.map bv ++ Lib.strCells s = (l ++ s.data.toList).map bv := by rw [List.map_append]; rfl
  rw [e] at h
  have hn : n = ((l ++ s.data.toList).map bv).length := by have := h.1; omega
  subst hn
  exact h
end
section
variable {P : Program} (w : World)
/-- An append to a row of its own: a row of its own; what else stood stands. -/
theorem run_append_og (B : Nat) (t ty e : TypeId) (i : TypeInfo) (z : Value) (bytes : Nat) (ht : P.underlying t = some (.slice e)) (hi : P.info? e = some i) (hz : i.zero = some z)
    (hsize : i.size = 1) (hby : i.bytes = bytes) (hzs : z.cells.size = 1)
    (v u : Value) (xs news : List Value) (hv : w.ownsRow B e 1 v xs.length xs) (hu : Rd w u news) (h1 : ∀ x ∈ news, x.oneCell' = true)
    (hbytes : (xs.length + news.length) * bytes ≤ 140737488355328) (hmax : xs.length + news.length ≤ maxLen) (hB : B ≤ w.heap.size) :
    ∃ v' w', (Builtin.append_ #[t, t] ty #[v, u]).run P w = .ok v' w' ∧ w'.ownsRow B e 1 v' (xs ++ news).length (xs ++ news) ∧ Below B w w' ∧ w.grownBy w' v.ownBlock := by
  obtain ⟨Au, c, rfl, c1, c2, c3⟩ := hu
  rcases c3 with ⟨rfl, rfl⟩ | ⟨x, rfl, hc⟩
  · obtain rfl : news = [] := List.eq_nil_of_length_eq_zero (by omega)
    exact ⟨v, w, run_append_owned_none w B t ty e i 1 ht hi v _ xs hv, by rw [List.append_nil]; exact hv, Below.refl _ _, ⟨rfl, rfl, rfl, Nat.le_refl _, fun _ _ _ => rfl⟩⟩
  · obtain ⟨v', w', hrun, r1, r2, _⟩ := run_append_own (P := P) w B t ty e i z 1 bytes ht hi hz hsize hby hzs (by omega) v _ xs hv x _ c news (by omega) hc h1 hmax hbytes hB
    refine ⟨v', w', hrun, by rw [List.length_append]; exact r1, (Below.refl _ _).grown r2 hB ?_, r2⟩
    intro k hk
    exact (hv.lt k hk).1
theorem wp_append_og {o : Oper} {a : Act} {K : Act → World → Prop} {Q : Exit → Act → World → Prop} (s x : Operand) (t : TypeId)
    (ho : o.op = .call { callee := .builtin .append, args := #[s, x], argTypes := #[t, t] })
    (B : Nat) (e : TypeId) (i : TypeInfo) (z : Value) (bytes : Nat) (ht : P.underlying t = some (.slice e)) (hi : P.info? e = some i) (hz : i.zero = some z)
    (hsize : i.size = 1) (hby : i.bytes = bytes) (hzs : z.cells.size = 1)
    (v u : Value) (xs news : List Value) (hs : a.eval s = v) (hx : a.eval x = u) (hv : w.ownsRow B e 1 v xs.length xs) (hu : Rd w u news) (h1 : ∀ x ∈ news, x.oneCell' = true)
    (hbytes : (xs.length + news.length) * bytes ≤ 140737488355328) (hmax : xs.length + news.length ≤ maxLen) (hB : B ≤ w.heap.size)
    (h : ∀ v' w', w'.ownsRow B e 1 v' (xs ++ news).length (xs ++ news) → Below B w w' → w.grownBy w' v.ownBlock → K (a.put o.dst v') w') : o.wp P a w K Q := by
  obtain ⟨v', w', hr, h2, h3, h4⟩ := run_append_og (P := P) w B t o.type e i z bytes ht hi hz hsize hby hzs v u xs news hv hu h1 hbytes hmax hB
  unfold Oper.wp execOp
  simp only [ho, resolve, invoke, builtin, Sem.run_bind, Sem.run_pure, Result.andThen_ok, List.map_toArray, List.map_cons, List.map_nil, hs, hx, hr]
  exact h v' w' h2 h3 h4
theorem wpList_append_og {ops : Array Oper} {rest : List Oper} {o : Oper} {a : Act} {Q : Exit → Act → World → Prop} (hgd : o.guard = none) (s x : Operand) (t : TypeId)
    (ho : o.op = .call { callee := .builtin .append, args := #[s, x], argTypes := #[t, t] })
    (B : Nat) (e : TypeId) (i : TypeInfo) (z : Value) (bytes : Nat) (ht : P.underlying t = some (.slice e)) (hi : P.info? e = some i) (hz : i.zero = some z)
    (hsize : i.size = 1) (hby : i.bytes = bytes) (hzs : z.cells.size = 1)
    (v u : Value) (xs news : List Value) (hs : a.eval s = v) (hx : a.eval x = u) (hv : w.ownsRow B e 1 v xs.length xs) (hu : Rd w u news) (h1 : ∀ x ∈ news, x.oneCell' = true)
    (hbytes : (xs.length + news.length) * bytes ≤ 140737488355328) (hmax : xs.length + news.length ≤ maxLen) (hB : B ≤ w.heap.size)
    (h : ∀ v' w', w'.ownsRow B e 1 v' (xs ++ news).length (xs ++ news) → Below B w w' → w.grownBy w' v.ownBlock → wpList P ops Q rest (a.put o.dst v') w') : wpList P ops Q (o :: rest) a w :=
  wpList_plain hgd fun _ hK => wp_append_og w s x t ho B e i z bytes ht hi hz hsize hby hzs v u xs news hs hx hv hu h1 hbytes hmax hB fun v' w' h2 h3 h4 => hK _ _ (h v' w' h2 h3 h4)
end
theorem step_append_og {P : Program} {ops : Array Oper} {o : Oper} {a : Act} {w : World} {K : Act → World → Prop} {Q : Exit → Act → World → Prop} {E : Prop}
    (hgd : o.guard = none) (s x : Operand) (t : TypeId)
    (ho : o.op = .call { callee := .builtin .append, args := #[s, x], argTypes := #[t, t] })
    (B : Nat) (e : TypeId) (i : TypeInfo) (z : Value) (bytes : Nat) (ht : P.underlying t = some (.slice e)) (hi : P.info? e = some i) (hz : i.zero = some z)
    (hsize : i.size = 1) (hby : i.bytes = bytes) (hzs : z.cells.size = 1)
    (v u : Value) (xs news : List Value) (hs : a.eval s = v) (hx : a.eval x = u) (hv : w.ownsRow B e 1 v xs.length xs) (hu : Rd w u news) (h1 : ∀ x ∈ news, x.oneCell' = true)
    (hbytes : (xs.length + news.length) * bytes ≤ 140737488355328) (hmax : xs.length + news.length ≤ maxLen) (hB : B ≤ w.heap.size)
    (h : ∀ v' w', w'.ownsRow B e 1 v' (xs ++ news).length (xs ++ news) → Below B w w' → w.grownBy w' v.ownBlock → K (a.put o.dst v') w') : if Region.wanted o (yielded ops a.tmps) = true then Oper.wp P o a w K Q else E := by
  rw [if_pos (by simp [Region.wanted, hgd])]
  exact wp_append_og w s x t ho B e i z bytes ht hi hz hsize hby hzs v u xs news hs hx hv hu h1 hbytes hmax hB h

end Go.Proofs.Yteopmaaghhendaa

/-
  Contracts of the small functions of package qtab (most, sum, less, Relative, Post, EncodeCount, baseAt), and of the document's most, Relative, Post, EncodeCount.
-/
namespace Go.Proofs.Yteopmaaghhendaa
open Go.RowKit
set_option linter.unusedVariables false

/-- How many entries a table of a capacity has at most. -/
def mostN (cap : Int) : Nat := (max cap 0).toNat / 32

theorem mostN_lt {cap : Int} (h : cap < 9223372036854775808) : mostN cap < 288230376151711744 := by unfold mostN; omega
theorem retI {k : IntKind} {a b : Int} (h : a = b) : Ending.returned (.int k a) = .returned (.int k b) := by rw [h]
theorem u64_keep {a : Int} (h0 : 0 ≤ a) (h1 : a < 18446744073709551616) : IntKind.u64.wrap a = a := by rw [IntKind.wrap_u64]; omega

theorem most_any (cap : Int) (h : cap < 9223372036854775808) (w : World) :
    Calls Try.prog 77 #[.int .i64 cap] w fun e w' => e = .returned (.int .u64 (mostN cap)) ∧ w = w' := by
  obtain ⟨x, hx⟩ : ∃ x : Nat, max cap 0 = (x : Int) := ⟨(max cap 0).toNat, by omega⟩
  have hm : mostN cap = x / 32 := by unfold mostN; rw [hx]; rfl
  rw [hm]
  have hxl : x < 9223372036854775808 := by omega
  have H := Bx.mk hxl
  clear h hxl hm
  go_enter Try.func77, Try.ntmps77
  go_wp2
  go_ret
  have h := H.out
  exact ⟨retI (by rw [u64_keep (a := (x:Int)) (by omega) (by omega), Int.tdiv_eq_ediv_of_nonneg (by omega), u64_keep (by omega) (by omega)]; omega), rfl⟩

/-- A number, or none. -/
def Opt : Option Nat → Ending
  | some n => .returned (.tuple #[.int .u64 (n : Int), .bool true])
  | none => .returned (.tuple #[.int .u64 0, .bool false])
theorem Opt_some (n : Nat) : Opt (some n) = .returned (.tuple #[.int .u64 (n : Int), .bool true]) := rfl
theorem Opt_none : Opt none = .returned (.tuple #[.int .u64 0, .bool false]) := rfl
def sumN (a b m : Nat) : Option Nat := if a + b ≤ m then some (a + b) else none
def subN (a b : Nat) : Option Nat := if b ≤ a then some (a - b) else none
def relN (base i : Nat) : Option Nat := if i < base then some (base - 1 - i) else none

/-- A number under a letter. -/
theorem letter (a : Nat) : ∃ A : Int, (a : Int) = A := ⟨_, rfl⟩

theorem sum_any (a b m : Nat) (ha : a < 18446744073709551616) (hb : b < 18446744073709551616) (hm : m < 18446744073709551616) (w : World) :
    Calls Try.prog 78 #[.int .u64 a, .int .u64 b, .int .u64 m] w fun e w' => e = Opt (sumN a b m) ∧ w = w' := by
  have HA := Bx.mk ha
  have HB := Bx.mk hb
  have HM := Bx.mk hm
  clear ha hb hm
  rcases Nat.lt_or_ge m a with h | h
  · have hs : sumN a b m = none := by unfold sumN; rw [if_neg (by omega)]
    rw [hs]
    rw [Opt_none]
    obtain ⟨A, hA⟩ := letter a
    obtain ⟨B, hB⟩ := letter b
    obtain ⟨M, hM⟩ := letter m
    rw [hA, hB, hM]
    have h1 : decide (M < A) = true := by rw [decide_eq_true_iff]; omega
    clear h hs hA hB hM HA HB HM
    go_enter Try.func78, Try.ntmps78
    go_wp2
    go_ret2
    exact ⟨rfl, rfl⟩
  · rcases Nat.lt_or_ge (m - a) b with h' | h'
    · have hs : sumN a b m = none := by unfold sumN; rw [if_neg (by omega)]
      rw [hs]
      rw [Opt_none]
      obtain ⟨A, hA⟩ := letter a
      obtain ⟨B, hB⟩ := letter b
      obtain ⟨M, hM⟩ := letter m
      obtain ⟨D, hD⟩ := letter (m - a)
      rw [hA, hB, hM]
      have h1 : decide (M < A) = false := by rw [decide_eq_false_iff_not]; omega
      have hsub : IntKind.u64.wrap (M - A) = D := by rw [show M - A = D from by omega]; exact u64_keep (by omega) (by have := HM.out; omega)
      have h2 : decide (D < B) = true := by rw [decide_eq_true_iff]; omega
      clear h h' hs hA hB hM hD HA HB HM
      go_enter Try.func78, Try.ntmps78
      go_wp2
      go_ret2
      exact ⟨rfl, rfl⟩
    · have hs : sumN a b m = some (a + b) := by unfold sumN; rw [if_pos (by omega)]
      rw [hs]
      rw [Opt_some]
      obtain ⟨A, hA⟩ := letter a
      obtain ⟨B, hB⟩ := letter b
      obtain ⟨M, hM⟩ := letter m
      obtain ⟨D, hD⟩ := letter (m - a)
      obtain ⟨S, hS⟩ := letter (a + b)
      rw [hA, hB, hM, hS]
      have h1 : decide (M < A) = false := by rw [decide_eq_false_iff_not]; omega
      have hsub : IntKind.u64.wrap (M - A) = D := by rw [show M - A = D from by omega]; exact u64_keep (by omega) (by have := HM.out; omega)
      have h2 : decide (D < B) = false := by rw [decide_eq_false_iff_not]; omega
      have hadd : IntKind.u64.wrap (A + B) = S := by rw [show A + B = S from by omega]; exact u64_keep (by omega) (by have := HM.out; omega)
      clear h h' hs hA hB hM hD hS HA HB HM
      go_enter Try.func78, Try.ntmps78
      go_wp2
      go_ret2
      exact ⟨rfl, rfl⟩

theorem less_any (a b : Nat) (ha : a < 18446744073709551616) (w : World) :
    Calls Try.prog 79 #[.int .u64 a, .int .u64 b] w fun e w' => e = Opt (subN a b) ∧ w = w' := by
  have HA := Bx.mk ha
  clear ha
  rcases Nat.lt_or_ge a b with h | h
  · have hs : subN a b = none := by unfold subN; rw [if_neg (by omega)]
    rw [hs]
    rw [Opt_none]
    obtain ⟨A, hA⟩ := letter a
    obtain ⟨B, hB⟩ := letter b
    rw [hA, hB]
    have h1 : decide (A < B) = true := by rw [decide_eq_true_iff]; omega
    clear h hs hA hB HA
    go_enter Try.func79, Try.ntmps79
    go_wp2
    go_ret2
    exact ⟨rfl, rfl⟩
  · have hs : subN a b = some (a - b) := by unfold subN; rw [if_pos (by omega)]
    rw [hs]
    rw [Opt_some]
    obtain ⟨A, hA⟩ := letter a
    obtain ⟨B, hB⟩ := letter b
    obtain ⟨D, hD⟩ := letter (a - b)
    rw [hA, hB, hD]
    have h1 : decide (A < B) = false := by rw [decide_eq_false_iff_not]; omega
    have hsub : IntKind.u64.wrap (A - B) = D := by rw [show A - B = D from by omega]; exact u64_keep (by omega) (by have := HA.out; omega)
    clear h hs hA hB hD HA
    go_enter Try.func79, Try.ntmps79
    go_wp2
    go_ret2
    exact ⟨rfl, rfl⟩

theorem relative_any (a b : Nat) (ha : a < 18446744073709551616) (w : World) :
    Calls Try.prog 95 #[.int .u64 a, .int .u64 b] w fun e w' => e = Opt (relN a b) ∧ w = w' := by
  have HA := Bx.mk ha
  clear ha
  rcases Nat.lt_or_ge b a with h | h
  · have hs : relN a b = some (a - 1 - b) := by unfold relN; rw [if_pos (by omega)]
    rw [hs]
    rw [Opt_some]
    obtain ⟨A, hA⟩ := letter a
    obtain ⟨B, hB⟩ := letter b
    obtain ⟨C, hC⟩ := letter (a - 1)
    obtain ⟨D, hD⟩ := letter (a - 1 - b)
    rw [hA, hB, hD]
    have h1 : decide (A ≤ B) = false := by rw [decide_eq_false_iff_not]; omega
    have hpre : IntKind.u64.wrap (A - 1) = C := by rw [show A - 1 = C from by omega]; exact u64_keep (by omega) (by have := HA.out; omega)
    have hsub : IntKind.u64.wrap (C - B) = D := by rw [show C - B = D from by omega]; exact u64_keep (by omega) (by have := HA.out; omega)
    clear h hs hA hB hC hD HA
    go_enter Try.func95, Try.ntmps95
    go_wp2
    go_ret2
    exact ⟨rfl, rfl⟩
  · have hs : relN a b = none := by unfold relN; rw [if_neg (by omega)]
    rw [hs]
    rw [Opt_none]
    obtain ⟨A, hA⟩ := letter a
    obtain ⟨B, hB⟩ := letter b
    rw [hA, hB]
    have h1 : decide (A ≤ B) = true := by rw [decide_eq_true_iff]; omega
    clear h hs hA hB HA
    go_enter Try.func95, Try.ntmps95
    go_wp2
    go_ret2
    exact ⟨rfl, rfl⟩

theorem sum_62 (a b : Nat) (ha : a < 18446744073709551616) (hb : b < 18446744073709551616) (w : World) :
    Calls Try.prog 78 #[.int .u64 a, .int .u64 b, .int .u64 4611686018427387903] w fun e w' => e = Opt (sumN a b 4611686018427387903) ∧ w = w' := by
  have hc := sum_any a b 4611686018427387903 ha hb (by omega) w
  obtain ⟨M, hM⟩ := letter 4611686018427387903
  rw [hM] at hc
  obtain rfl : M = 4611686018427387903 := by omega
  exact hc

theorem post_any (a b : Nat) (ha : a < 18446744073709551616) (hb : b < 18446744073709551616) (w : World) :
    Calls Try.prog 96 #[.int .u64 a, .int .u64 b] w fun e w' => e = Opt (sumN a b 4611686018427387903) ∧ w = w' := by
  have hc := sum_62 a b ha hb
  generalize sumN a b 4611686018427387903 = o at hc ⊢
  obtain ⟨A, hA⟩ := letter a
  obtain ⟨B, hB⟩ := letter b
  simp only [hA, hB] at hc ⊢
  have HC := Bx.mk hc
  clear hc hA hB ha hb
  cases o with
  | none =>
    rw [Opt_none] at HC ⊢
    go_enter Try.func96, Try.ntmps96
    go_wp2_with (go_at_call 78; refine (HC.out _).mono ?_; rintro e w' ⟨rfl, rfl⟩)
    go_ret2
    exact ⟨rfl, rfl⟩
  | some n =>
    obtain ⟨N, hN⟩ := letter n
    rw [Opt_some] at HC ⊢
    rw [hN] at HC ⊢
    clear hN
    go_enter Try.func96, Try.ntmps96
    go_wp2_with (go_at_call 78; refine (HC.out _).mono ?_; rintro e w' ⟨rfl, rfl⟩)
    go_ret2
    exact ⟨rfl, rfl⟩

end Go.Proofs.Yteopmaaghhendaa

/-
  Contracts of qtab.EncodeCount, and of the document's EncodeCount, Relative, Post.
-/
namespace Go.Proofs.Yteopmaaghhendaa
open Go.RowKit
set_option linter.unusedVariables false

end Go.Proofs.Yteopmaaghhendaa

/-
  Contracts of qtab.DecodeCount and of the document's DecodeCount.
-/
namespace Go.Proofs.Yteopmaaghhendaa
open Go.RowKit
set_option linter.unusedVariables false

/-- How far a rest's number is ahead of a total. -/
def ahN (e t m : Nat) : Nat := (2 * m + e - 1 - t % (2 * m)) % (2 * m)

theorem dc_zero (t m : Nat) : dcN 0 t m = some 0 := by unfold dcN; rw [if_pos rfl]
theorem dc_out {e m : Nat} (t : Nat) (h : 2 * m < e) : dcN e t m = none := dcN_far h
theorem dc_in {e t m : Nat} (h0 : 0 < e) (h1 : e ≤ 2 * m) :
    ahN e t m < 2 * m ∧ dcN e t m = if m < ahN e t m then (if t + ahN e t m ≤ 2 * m then none else some (t + ahN e t m - 2 * m)) else (if t + ahN e t m = 0 then none else some (t + ahN e t m)) := by
  have hp : 0 < 2 * m := by omega
  have e1 := Nat.div_add_mod t (2 * m)
  have m1 := Nat.mod_lt t hp
  have e2 := Nat.div_add_mod (t + m) (2 * m)
  have m2 := Nat.mod_lt (t + m) hp
  have l1 : t / (2 * m) ≤ (t + m) / (2 * m) := Nat.div_le_div_right (by omega)
  have l2 : (t + m) / (2 * m) ≤ t / (2 * m) + 1 := by
    have := Nat.div_le_div_right (c := 2 * m) (show t + m ≤ t + 2 * m by omega)
    rwa [Nat.add_div_right _ hp] at this
  refine ⟨Nat.mod_lt _ hp, ?_⟩
  have hah : ahN e t m = if t % (2 * m) ≤ e - 1 then e - 1 - t % (2 * m) else 2 * m + e - 1 - t % (2 * m) := by
    unfold ahN
    generalize t % (2 * m) = u at *
    by_cases h : u ≤ e - 1
    · rw [if_pos h, show 2 * m + e - 1 - u = (e - 1 - u) + 2 * m by omega, Nat.add_mod_right, Nat.mod_eq_of_lt (by omega)]
    · rw [if_neg h, Nat.mod_eq_of_lt (by omega)]
  rw [hah]
  unfold dcN
  rw [if_neg (by omega), if_neg (by omega)]
  clear hah
  generalize t % (2 * m) = u at *
  generalize (t + m) % (2 * m) = u2 at *
  generalize t / (2 * m) = q at *
  generalize (t + m) / (2 * m) = q2 at *
  rcases (by omega : q2 = q ∨ q2 = q + 1) with rfl | rfl
  · rw [Nat.mul_comm q2 (2 * m)] at *
    generalize 2 * m * q2 = p at *
    (repeat' split) <;> first | rfl | (exact congrArg some (by omega)) | (exfalso; omega)
  · rw [Nat.mul_comm (q + 1) (2 * m)] at *
    rw [Nat.mul_succ] at *
    generalize 2 * m * q = p at *
    (repeat' split) <;> first | rfl | (exact congrArg some (by omega)) | (exfalso; omega)

/-- A count, or the error of a place. -/
def Dec : Option Nat → Ending
  | some n => .returned (.tuple #[.int .u64 (n : Int), .int .i64 0])
  | none => .returned (.tuple #[.int .u64 0, .int .i64 24])
theorem Dec_some (n : Nat) : Dec (some n) = .returned (.tuple #[.int .u64 (n : Int), .int .i64 0]) := rfl
theorem Dec_none : Dec none = .returned (.tuple #[.int .u64 0, .int .i64 24]) := rfl

theorem decodeCount_any (e t : Nat) (cap : Int) (he : e < 18446744073709551616) (ht : t < 4611686018427387904) (hc : cap < 9223372036854775808) (w : World) :
    Calls Try.prog 58 #[.int .u64 e, .int .u64 t, .int .i64 cap] w fun e' w' => e' = Dec (dcN e t (mostN cap)) ∧ w = w' := by
  have HC := Bx.mk (most_any cap hc)
  have hm := mostN_lt hc
  generalize mostN cap = m at *
  rcases Nat.eq_zero_or_pos e with rfl | h
  · rw [dc_zero, Dec_some]
    obtain ⟨T, hT⟩ := letter t
    rw [hT]
    clear hT hm ht hc HC
    go_enter Try.func58, Try.ntmps58
    go_wp2
    go_ret2
    exact ⟨rfl, rfl⟩
  rcases Nat.lt_or_ge (2 * m) e with h' | h'
  · rw [dc_out t h', Dec_none]
    obtain ⟨E, hE⟩ := letter e
    obtain ⟨T, hT⟩ := letter t
    obtain ⟨M, hM⟩ := letter m
    obtain ⟨W, hW⟩ := letter (2 * m)
    simp only [hM] at HC
    simp only [hE, hT]
    have h1 : (E == 0) = false := by rw [beq_eq_false_iff_ne]; omega
    have h2 : decide (W < E) = true := by rw [decide_eq_true_iff]; omega
    have hmul : IntKind.u64.wrap (2 * M) = W := by rw [show 2 * M = W from by omega]; exact u64_keep (by omega) (by omega)
    clear hE hT hM hW hm ht he hc h h'
    go_enter Try.func58, Try.ntmps58
    go_wp2_with (go_at_call 77; refine (HC.out _).mono ?_; rintro e w' ⟨rfl, rfl⟩)
    go_ret2
    exact ⟨rfl, rfl⟩
  rw [(dc_in (t := t) h h').2]
  rcases Nat.lt_or_ge m (ahN e t m) with h3 | h3
  · rw [if_pos h3]
    have hah := (dc_in (t := t) h h').1
    obtain ⟨E, hE⟩ := letter e
    obtain ⟨T, hT⟩ := letter t
    obtain ⟨M, hM⟩ := letter m
    obtain ⟨W, hW⟩ := letter (2 * m)
    obtain ⟨U, hU⟩ := letter (t % (2 * m))
    obtain ⟨X1, hX1⟩ := letter (2 * m + e)
    obtain ⟨X2, hX2⟩ := letter (2 * m + e - 1)
    obtain ⟨X3, hX3⟩ := letter (2 * m + e - 1 - t % (2 * m))
    obtain ⟨AH, hAH⟩ := letter (ahN e t m)
    have hlt := Nat.mod_lt t (show 0 < 2 * m by omega)
    have h1 : (E == 0) = false := by rw [beq_eq_false_iff_ne]; omega
    have h2 : decide (W < E) = false := by rw [decide_eq_false_iff_not]; omega
    have h4 : ¬ W = 0 := by omega
    have hmul : IntKind.u64.wrap (2 * M) = W := by rw [show 2 * M = W from by omega]; exact u64_keep (by omega) (by omega)
    have hx1 : IntKind.u64.wrap (W + E) = X1 := by rw [show W + E = X1 from by omega]; exact u64_keep (by omega) (by omega)
    have hx2 : IntKind.u64.wrap (X1 - 1) = X2 := by rw [show X1 - 1 = X2 from by omega]; exact u64_keep (by omega) (by omega)
    have hrem : T.tmod W = U := by rw [← hT, ← hW, ← hU]; exact Int.ofNat_tmod t (2 * m)
    have hwu : IntKind.u64.wrap U = U := u64_keep (by omega) (by omega)
    have hx3 : IntKind.u64.wrap (X2 - U) = X3 := by rw [show X2 - U = X3 from by omega]; exact u64_keep (by omega) (by omega)
    have hrem2 : X3.tmod W = AH := by rw [← hX3, ← hW, ← hAH]; exact Int.ofNat_tmod _ (2 * m)
    have hwa : IntKind.u64.wrap AH = AH := u64_keep (by omega) (by omega)
    have hs := sum_any t (ahN e t m) 18446744073709551615 (by omega) (by omega) (by omega)
    obtain ⟨Q, hQ⟩ := letter 18446744073709551615
    rw [show sumN t (ahN e t m) 18446744073709551615 = some (t + ahN e t m) from by unfold sumN; rw [if_pos (by omega)], Opt_some] at hs
    obtain ⟨S, hS⟩ := letter (t + ahN e t m)
    simp only [hM] at HC
    simp only [hT, hAH, hQ, hS] at hs
    obtain rfl : Q = 18446744073709551615 := by omega
    have HS := Bx.mk hs
    simp only [hE, hT]
    have h5 : decide (M < AH) = true := by rw [decide_eq_true_iff]; omega
    obtain ⟨Y, hY⟩ := letter (2 * m - ahN e t m)
    have hy : IntKind.u64.wrap (W - AH) = Y := by rw [show W - AH = Y from by omega]; exact u64_keep (by omega) (by omega)
    have hl := less_any t (2 * m - ahN e t m) (by omega)
    by_cases h6 : t < 2 * m - ahN e t m
    · rw [if_pos (by omega), Dec_none]
      rw [show subN t (2 * m - ahN e t m) = none from by unfold subN; rw [if_neg (by omega)], Opt_none] at hl
      simp only [hT, hY] at hl
      have HL := Bx.mk hl
      clear hs hE hT hM hW hU hX1 hX2 hX3 hAH hlt hah ht he hc hm h h' hS hQ h3 h6 hl hY
      go_enter Try.func58, Try.ntmps58
      go_wp2_with (first | (go_at_call 77; refine (HC.out _).mono ?_; rintro e w' ⟨rfl, rfl⟩) | (go_at_call 78; refine (HS.out _).mono ?_; rintro e w' ⟨rfl, rfl⟩) | (go_at_call 79; refine (HL.out _).mono ?_; rintro e w' ⟨rfl, rfl⟩))
      go_ret2
      exact ⟨rfl, rfl⟩
    · obtain ⟨D, hD⟩ := letter (t + ahN e t m - 2 * m)
      rw [show subN t (2 * m - ahN e t m) = some (t + ahN e t m - 2 * m) from by unfold subN; rw [if_pos (by omega)]; exact congrArg some (by omega), Opt_some] at hl
      simp only [hT, hY, hD] at hl
      have HL := Bx.mk hl
      by_cases h7 : t + ahN e t m ≤ 2 * m
      · rw [if_pos h7, Dec_none]
        obtain rfl : D = 0 := by omega
        clear hs hE hT hM hW hU hX1 hX2 hX3 hAH hlt hah ht he hc hm h h' hS hQ h3 h6 h7 hl hY hD
        go_enter Try.func58, Try.ntmps58
        go_wp2_with (first | (go_at_call 77; refine (HC.out _).mono ?_; rintro e w' ⟨rfl, rfl⟩) | (go_at_call 78; refine (HS.out _).mono ?_; rintro e w' ⟨rfl, rfl⟩) | (go_at_call 79; refine (HL.out _).mono ?_; rintro e w' ⟨rfl, rfl⟩))
        go_ret2
        exact ⟨rfl, rfl⟩
      · rw [if_neg h7, Dec_some, hD]
        have h8 : (D == 0) = false := by rw [beq_eq_false_iff_ne]; omega
        clear hs hE hT hM hW hU hX1 hX2 hX3 hAH hlt hah ht he hc hm h h' hS hQ h3 h6 h7 hl hY hD
        go_enter Try.func58, Try.ntmps58
        go_wp2_with (first | (go_at_call 77; refine (HC.out _).mono ?_; rintro e w' ⟨rfl, rfl⟩) | (go_at_call 78; refine (HS.out _).mono ?_; rintro e w' ⟨rfl, rfl⟩) | (go_at_call 79; refine (HL.out _).mono ?_; rintro e w' ⟨rfl, rfl⟩))
        go_ret2
        exact ⟨rfl, rfl⟩
  · rw [if_neg (by omega)]
    have hah := (dc_in (t := t) h h').1
    obtain ⟨E, hE⟩ := letter e
    obtain ⟨T, hT⟩ := letter t
    obtain ⟨M, hM⟩ := letter m
    obtain ⟨W, hW⟩ := letter (2 * m)
    obtain ⟨U, hU⟩ := letter (t % (2 * m))
    obtain ⟨X1, hX1⟩ := letter (2 * m + e)
    obtain ⟨X2, hX2⟩ := letter (2 * m + e - 1)
    obtain ⟨X3, hX3⟩ := letter (2 * m + e - 1 - t % (2 * m))
    obtain ⟨AH, hAH⟩ := letter (ahN e t m)
    have hlt := Nat.mod_lt t (show 0 < 2 * m by omega)
    have h1 : (E == 0) = false := by rw [beq_eq_false_iff_ne]; omega
    have h2 : decide (W < E) = false := by rw [decide_eq_false_iff_not]; omega
    have h4 : ¬ W = 0 := by omega
    have hmul : IntKind.u64.wrap (2 * M) = W := by rw [show 2 * M = W from by omega]; exact u64_keep (by omega) (by omega)
    have hx1 : IntKind.u64.wrap (W + E) = X1 := by rw [show W + E = X1 from by omega]; exact u64_keep (by omega) (by omega)
    have hx2 : IntKind.u64.wrap (X1 - 1) = X2 := by rw [show X1 - 1 = X2 from by omega]; exact u64_keep (by omega) (by omega)
    have hrem : T.tmod W = U := by rw [← hT, ← hW, ← hU]; exact Int.ofNat_tmod t (2 * m)
    have hwu : IntKind.u64.wrap U = U := u64_keep (by omega) (by omega)
    have hx3 : IntKind.u64.wrap (X2 - U) = X3 := by rw [show X2 - U = X3 from by omega]; exact u64_keep (by omega) (by omega)
    have hrem2 : X3.tmod W = AH := by rw [← hX3, ← hW, ← hAH]; exact Int.ofNat_tmod _ (2 * m)
    have hwa : IntKind.u64.wrap AH = AH := u64_keep (by omega) (by omega)
    have hs := sum_any t (ahN e t m) 18446744073709551615 (by omega) (by omega) (by omega)
    obtain ⟨Q, hQ⟩ := letter 18446744073709551615
    rw [show sumN t (ahN e t m) 18446744073709551615 = some (t + ahN e t m) from by unfold sumN; rw [if_pos (by omega)], Opt_some] at hs
    obtain ⟨S, hS⟩ := letter (t + ahN e t m)
    simp only [hM] at HC
    simp only [hT, hAH, hQ, hS] at hs
    obtain rfl : Q = 18446744073709551615 := by omega
    have HS := Bx.mk hs
    simp only [hE, hT]
    have h5 : decide (M < AH) = false := by rw [decide_eq_false_iff_not]; omega
    by_cases h7 : t + ahN e t m = 0
    · rw [if_pos h7, Dec_none]
      obtain rfl : S = 0 := by omega
      clear hs hE hT hM hW hU hX1 hX2 hX3 hAH hlt hah ht he hc hm h h' hS hQ h3 h7
      go_enter Try.func58, Try.ntmps58
      go_wp2_with (first | (go_at_call 77; refine (HC.out _).mono ?_; rintro e w' ⟨rfl, rfl⟩) | (go_at_call 78; refine (HS.out _).mono ?_; rintro e w' ⟨rfl, rfl⟩) | (go_at_call 79; refine (HL.out _).mono ?_; rintro e w' ⟨rfl, rfl⟩))
      go_ret2
      exact ⟨rfl, rfl⟩
    · rw [if_neg h7, Dec_some, hS]
      have h8 : (S == 0) = false := by rw [beq_eq_false_iff_ne]; omega
      clear hs hE hT hM hW hU hX1 hX2 hX3 hAH hlt hah ht he hc hm h h' hS hQ h3 h7
      go_enter Try.func58, Try.ntmps58
      go_wp2_with (first | (go_at_call 77; refine (HC.out _).mono ?_; rintro e w' ⟨rfl, rfl⟩) | (go_at_call 78; refine (HS.out _).mono ?_; rintro e w' ⟨rfl, rfl⟩) | (go_at_call 79; refine (HL.out _).mono ?_; rintro e w' ⟨rfl, rfl⟩))
      go_ret2
      exact ⟨rfl, rfl⟩


end Go.Proofs.Yteopmaaghhendaa

/-
  Contract of the document's DecodeCount.
-/
namespace Go.Proofs.Yteopmaaghhendaa
open Go.RowKit
set_option linter.unusedVariables false

end Go.Proofs.Yteopmaaghhendaa

/-
  What is no row of bytes stands, whatever is appended to a row of bytes.
-/
namespace Go.Proofs.Yteopmaaghhendaa
open Go.RowKit
set_option linter.unusedVariables false

end Go.Proofs.Yteopmaaghhendaa

/-
  A great function, walked in pieces: the code from a region on, the two ways of an if, a loop's body; a frame out of its slots. No program is named here.
-/
namespace Go.Proofs.Yteopmaaghhendaa
open Go.RowKit
set_option linter.unusedVariables false

section
variable {N R : Act → World → Prop} {E : Nat → Act → World → Prop} {a : Act} {w : World}
end
end Go.Proofs.Yteopmaaghhendaa
