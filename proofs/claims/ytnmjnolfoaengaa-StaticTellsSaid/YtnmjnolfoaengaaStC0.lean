/-
  The tables as cells.
-/
import Derived.Test.YtnmjnolfoaengaaStFds
import Derived.Test.YtnmjnolfoaengaaStMath
import Derived.WalkKit
import Derived.WalkSpells
import Derived.WalkLawsBesides
import Derived.Handy
import Derived.Deep.WholeRow
namespace Go.Proofs.Ytnmjnolfoaengaa
open Go.RowKit
set_option linter.unusedVariables false

def C2 : Array Value := (T2.flatMap fvl).toArray
theorem c2_size : C2.size = 122 := by decide +kernel

def C3 : Array Value := (T3.flatMap fvl).toArray
theorem c3_size : C3.size = 198 := by decide +kernel

theorem Fs.lit (w : World) (e : TypeId) (l : List Fd) (n : Nat) (hn : l.length = n) (hm : n ≤ maxLen) (cs : Array Value) (hc : cs.toList = l.flatMap fvl) :
    Fs (w.alloc (.cells cs e)) (.slice (some ⟨w.heap.size, 0, none⟩) n n) l := by
  subst hn
  have h := An.lit (k := 2) w e cs l.length (by rw [← Array.length_toList, hc, fvl_length]) hm
  have := An.rd h
  rw [hc] at this
  exact this

end Go.Proofs.Ytnmjnolfoaengaa
