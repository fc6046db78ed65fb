/-
  The helper that holds packets' heads against each other: what is the same is found the same (cut out of HpQ).
-/
import Derived.Test.YtcakppdabolfiaaRwHeader
import Derived.Test.YtcakppdabolfiaaSbW
import Derived.Test.YtcakppdabolfiaaConv
import Derived.BigQuiet
import Derived.Deep.RegionWith
import Derived.Deep.CutBlock
import Derived.Handy
namespace Go.Proofs.Ytcakppdabolfiaa
open Go.RowKit
set_option linter.unusedVariables false
set_option linter.unusedSimpArgs false

set_option maxRecDepth 100000 in
set_option maxHeartbeats 4000000 in
theorem helpHeader_same (w : World) (lo : Bool) (T : Int) (V : Int) (d1 d2 : Value) (dL : List UInt8) (s1 s2 : Value) (sL : List UInt8) (P : Int) (Ln : Int) (hd1 : Bs w d1 dL) (hd2 : Bs w d2 dL) (hs1 : Bs w s1 sL) (hs2 : Bs w s2 sL) :
    Calls Try.prog 27 #[.agg #[.bool lo, .int .i64 T, .int .u32 V, d1, s1, .int .u64 P, .int .i64 Ln], .agg #[.bool lo, .int .i64 T, .int .u32 V, d2, s2, .int .u64 P, .int .i64 Ln]] w fun e w' => e = .returned (.bool true) ∧ Below w.heap.size w w' := by
  have HB : Bx (Below w.heap.size w ((w.alloc (.cells #[.bool lo, .int .i64 T, .int .u32 V, d1, s1, .int .u64 P, .int .i64 Ln] 38)).alloc (.cells #[.bool lo, .int .i64 T, .int .u32 V, d2, s2, .int .u64 P, .int .i64 Ln] 38))) := ⟨((Below.refl _ _).alloc (Nat.le_refl _) _).alloc (by simp) _⟩
  have hsa : Sb 38 ((w.alloc (.cells #[.bool lo, .int .i64 T, .int .u32 V, d1, s1, .int .u64 P, .int .i64 Ln] 38)).alloc (.cells #[.bool lo, .int .i64 T, .int .u32 V, d2, s2, .int .u64 P, .int .i64 Ln] 38)) w.heap.size #[.bool lo, .int .i64 T, .int .u32 V, d1, s1, .int .u64 P, .int .i64 Ln] := (Sb.new _ w _).alloc _
  have hsb : Sb 38 ((w.alloc (.cells #[.bool lo, .int .i64 T, .int .u32 V, d1, s1, .int .u64 P, .int .i64 Ln] 38)).alloc (.cells #[.bool lo, .int .i64 T, .int .u32 V, d2, s2, .int .u64 P, .int .i64 Ln] 38)) (w.heap.size + 1) #[.bool lo, .int .i64 T, .int .u32 V, d2, s2, .int .u64 P, .int .i64 Ln] := Sb.newg _ _ _ (by simp) _
  have p0 : ((w.alloc (.cells #[.bool lo, .int .i64 T, .int .u32 V, d1, s1, .int .u64 P, .int .i64 Ln] 38)).alloc (.cells #[.bool lo, .int .i64 T, .int .u32 V, d2, s2, .int .u64 P, .int .i64 Ln] 38)).cell? ⟨w.heap.size, 0, none⟩ = some (.bool lo) := hsa.cell 0
  have q0 : ((w.alloc (.cells #[.bool lo, .int .i64 T, .int .u32 V, d1, s1, .int .u64 P, .int .i64 Ln] 38)).alloc (.cells #[.bool lo, .int .i64 T, .int .u32 V, d2, s2, .int .u64 P, .int .i64 Ln] 38)).cell? ⟨w.heap.size + 1, 0, none⟩ = some (.bool lo) := hsb.cell 0
  have p1 : ((w.alloc (.cells #[.bool lo, .int .i64 T, .int .u32 V, d1, s1, .int .u64 P, .int .i64 Ln] 38)).alloc (.cells #[.bool lo, .int .i64 T, .int .u32 V, d2, s2, .int .u64 P, .int .i64 Ln] 38)).cell? ⟨w.heap.size, 1, none⟩ = some (.int .i64 T) := hsa.cell 1
  have q1 : ((w.alloc (.cells #[.bool lo, .int .i64 T, .int .u32 V, d1, s1, .int .u64 P, .int .i64 Ln] 38)).alloc (.cells #[.bool lo, .int .i64 T, .int .u32 V, d2, s2, .int .u64 P, .int .i64 Ln] 38)).cell? ⟨w.heap.size + 1, 1, none⟩ = some (.int .i64 T) := hsb.cell 1
  have p2 : ((w.alloc (.cells #[.bool lo, .int .i64 T, .int .u32 V, d1, s1, .int .u64 P, .int .i64 Ln] 38)).alloc (.cells #[.bool lo, .int .i64 T, .int .u32 V, d2, s2, .int .u64 P, .int .i64 Ln] 38)).cell? ⟨w.heap.size, 2, none⟩ = some (.int .u32 V) := hsa.cell 2
  have q2 : ((w.alloc (.cells #[.bool lo, .int .i64 T, .int .u32 V, d1, s1, .int .u64 P, .int .i64 Ln] 38)).alloc (.cells #[.bool lo, .int .i64 T, .int .u32 V, d2, s2, .int .u64 P, .int .i64 Ln] 38)).cell? ⟨w.heap.size + 1, 2, none⟩ = some (.int .u32 V) := hsb.cell 2
  have p3 : ((w.alloc (.cells #[.bool lo, .int .i64 T, .int .u32 V, d1, s1, .int .u64 P, .int .i64 Ln] 38)).alloc (.cells #[.bool lo, .int .i64 T, .int .u32 V, d2, s2, .int .u64 P, .int .i64 Ln] 38)).cell? ⟨w.heap.size, 3, none⟩ = some (d1) := hsa.cell 3
  have q3 : ((w.alloc (.cells #[.bool lo, .int .i64 T, .int .u32 V, d1, s1, .int .u64 P, .int .i64 Ln] 38)).alloc (.cells #[.bool lo, .int .i64 T, .int .u32 V, d2, s2, .int .u64 P, .int .i64 Ln] 38)).cell? ⟨w.heap.size + 1, 3, none⟩ = some (d2) := hsb.cell 3
  have p4 : ((w.alloc (.cells #[.bool lo, .int .i64 T, .int .u32 V, d1, s1, .int .u64 P, .int .i64 Ln] 38)).alloc (.cells #[.bool lo, .int .i64 T, .int .u32 V, d2, s2, .int .u64 P, .int .i64 Ln] 38)).cell? ⟨w.heap.size, 4, none⟩ = some (s1) := hsa.cell 4
  have q4 : ((w.alloc (.cells #[.bool lo, .int .i64 T, .int .u32 V, d1, s1, .int .u64 P, .int .i64 Ln] 38)).alloc (.cells #[.bool lo, .int .i64 T, .int .u32 V, d2, s2, .int .u64 P, .int .i64 Ln] 38)).cell? ⟨w.heap.size + 1, 4, none⟩ = some (s2) := hsb.cell 4
  have p5 : ((w.alloc (.cells #[.bool lo, .int .i64 T, .int .u32 V, d1, s1, .int .u64 P, .int .i64 Ln] 38)).alloc (.cells #[.bool lo, .int .i64 T, .int .u32 V, d2, s2, .int .u64 P, .int .i64 Ln] 38)).cell? ⟨w.heap.size, 5, none⟩ = some (.int .u64 P) := hsa.cell 5
  have q5 : ((w.alloc (.cells #[.bool lo, .int .i64 T, .int .u32 V, d1, s1, .int .u64 P, .int .i64 Ln] 38)).alloc (.cells #[.bool lo, .int .i64 T, .int .u32 V, d2, s2, .int .u64 P, .int .i64 Ln] 38)).cell? ⟨w.heap.size + 1, 5, none⟩ = some (.int .u64 P) := hsb.cell 5
  have p6 : ((w.alloc (.cells #[.bool lo, .int .i64 T, .int .u32 V, d1, s1, .int .u64 P, .int .i64 Ln] 38)).alloc (.cells #[.bool lo, .int .i64 T, .int .u32 V, d2, s2, .int .u64 P, .int .i64 Ln] 38)).cell? ⟨w.heap.size, 6, none⟩ = some (.int .i64 Ln) := hsa.cell 6
  have q6 : ((w.alloc (.cells #[.bool lo, .int .i64 T, .int .u32 V, d1, s1, .int .u64 P, .int .i64 Ln] 38)).alloc (.cells #[.bool lo, .int .i64 T, .int .u32 V, d2, s2, .int .u64 P, .int .i64 Ln] 38)).cell? ⟨w.heap.size + 1, 6, none⟩ = some (.int .i64 Ln) := hsb.cell 6
  have kd1 := conv_str (hd1.keep HB.out)
  have kd2 := conv_str (hd2.keep HB.out)
  have ks1 := conv_str (hs1.keep HB.out)
  have ks2 := conv_str (hs2.keep HB.out)
  clear hsa hsb hd1 hd2 hs1 hs2
  go_enter Try.func27, Try.ntmps27
  go_wp2_with fail
  go_ret
  exact ⟨rfl, HB.out⟩
end Go.Proofs.Ytcakppdabolfiaa
