/-
  The helper that compares frames; the document's Write, Writes; its u32.
-/
import Derived.Test.YtcakppdabolfiaaSbW
import Derived.Test.YtcakppdabolfiaaRwFrame
import Derived.Test.YtcakppdabolfiaaNumC
import Derived.Test.YtcakppdabolfiaaApN
import Derived.Test.YtcakppdabolfiaaSlice
import Derived.Test.YtcakppdabolfiaaConv
import Derived.Deep.RegionWith
import Derived.Deep.RegionLaw
import Derived.Lib.Strings
import Derived.Deep.CutRange
import Derived.Deep.CutBlock
import Derived.BigRegion
import Derived.Handy
namespace Go.Proofs.Ytcakppdabolfiaa
open Go.RowKit
set_option linter.unusedVariables false
set_option linter.unusedSimpArgs false

def frA (a : Frm) : Array Value := #[.int .u8 (a.ty : Int), .int .u8 (a.fl : Int), .int .u32 (a.st : Int), a.raw]
theorem frA_eq (a : Frm) : (frvl a).toArray = frA a := rfl
theorem str_eqF (a b : ByteArray) (h : a.toList = b.toList) : a = b := by
  rw [Lib.toList_data, Lib.toList_data] at h
  have := Array.toList_inj.1 h
  cases a; cases b; simp_all
theorem str_beqF {a b : List UInt8} (h : a = b) : ((bstr a).toList == (bstr b).toList) = true := by rw [h]; exact beq_self_eq_true _
theorem str_bneF {a b : List UInt8} (h : ¬ a = b) : ((bstr a).toList == (bstr b).toList) = false := by
  rw [beq_eq_false_iff_ne]
  exact fun h2 => h (bstr_inj (str_eqF _ _ h2))
/-- A frame, written. -/
def frB (a : Frm) : List UInt8 := bes (a.rawb.length : Int) 3 ++ [UInt8.ofNat a.ty, UInt8.ofNat a.fl] ++ bes ((a.st % 2147483648 : Nat) : Int) 4 ++ a.rawb
theorem u32_mask31 (x : Nat) (h : x < 4294967296) : bits .and .u32 (x : Int) 2147483647 = ((x % 2147483648 : Nat) : Int) := by
  rw [show (2147483647 : Int) = ((2 ^ 31 - 1 : Nat) : Int) from rfl, u32_and_nat _ _ (by omega) (by omega), Nat.and_two_pow_sub_one_eq_mod]
theorem infoU8a : (Try.prog.info? 5).map (fun i => (i.zero, i.size, i.bytes)) = some (some (.int .u8 0), 1, 1) := by kernel_rfl
theorem bytes_two {w : World} {B : Nat} {x : Value} {l : List UInt8} {p q : Nat} (hp : p < 256) (hq : q < 256) (h : Ap w B 5 x (l.map bv ++ #[Value.int .u8 (p : Int), Value.int .u8 (q : Int)].toList)) : ApB w B x (l ++ [UInt8.ofNat p, UInt8.ofNat q]) := by
  unfold ApB
  rw [List.map_append, List.map_cons, List.map_cons, List.map_nil]
  have e (n : Nat) (hn : n < 256) : bv (UInt8.ofNat n) = .int .u8 (n : Int) := by unfold bv; rw [UInt8.toNat_ofNat']; congr 2; omega
  rw [e p hp, e q hq]
  exact h
end Go.Proofs.Ytcakppdabolfiaa
