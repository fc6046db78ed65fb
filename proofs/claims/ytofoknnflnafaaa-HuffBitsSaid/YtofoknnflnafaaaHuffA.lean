/-
  Contracts of huff.lengths, huff.size.
-/
import Derived.Test.YtofoknnflnafaaaRows
import Derived.Test.YtofoknnflnafaaaHuffMath
import Derived.Test.YtofoknnflnafaaaStep
import Derived.WalkKit
import Derived.WalkSpells
import Derived.WalkLawsBesides
import Derived.Lib.MinMax
import Derived.Lib.Hide
import Derived.Handy
import Derived.Deep.WholeRow
namespace Go.Proofs.Ytofoknnflnafaaa
open Go.RowKit
set_option linter.unusedVariables false

/-- The lengths, as an array's cells. -/
def LA : Array Value := (LL.map fun (n : Nat) => Value.int .u8 (n : Int)).toArray
def ZA : Array Value := Array.replicate 257 (.int .u8 0)

theorem infoArr : (Try.prog.info? 48).map (fun i => (i.zero, i.size)) = some (some (.agg ZA), 257) := by kernel_rfl
theorem la_one : LA.all (·.oneCell') = true := by decide +kernel
theorem la_size : LA.size = 257 := by decide +kernel
theorem za_size : ZA.size = 257 := by decide +kernel

set_option maxRecDepth 100000 in
set_option maxHeartbeats 1000000 in
theorem lengths_any (w : World) :
    Calls Try.prog 21 #[] w fun e w' => e = .returned (.agg LA) ∧ Below w.heap.size w w' := by
  obtain ⟨hz, hs⟩ := zero_of_info infoArr
  have hst := run_storeCells_new (P := Try.prog) w 48 ZA LA (by rw [hs, la_size]) (by rw [la_size, za_size]) la_one
  have hsz := la_size
  go_enter Try.func21, Try.ntmps21
  go_wp2_with (with_reducible refine wpList_build (v := .agg LA) (by kernel_rfl) ?_)
  exact bodyPost_ret (results_cell_row Try.results21 _ _ w.heap.size 48 LA (0, 0) _ rfl (heap_alloc_last w _) Try.underlying48 rfl (by rw [hs, la_size])) rfl ⟨rfl, (Below.refl _ _).alloc (Nat.le_refl _) _⟩


theorem la_get (k : Nat) (hk : k < 257) : LA[k]? = some (.int .u8 (ll k : Int)) := by
  unfold LA ll
  have h := tab_len.1
  rw [List.getElem?_toArray, List.getElem?_map, List.getElem?_eq_getElem (by omega), List.getD_eq_getElem?_getD, List.getElem?_eq_getElem (by omega)]
  rfl

end Go.Proofs.Ytofoknnflnafaaa
