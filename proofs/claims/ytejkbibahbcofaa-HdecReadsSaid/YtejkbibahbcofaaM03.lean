/-
  Texts put together: HuffA, HuffB.
-/
import Derived.Test.YtejkbibahbcofaaRows
import Derived.Test.YtejkbibahbcofaaM02
import Derived.Test.YtejkbibahbcofaaM01
import Derived.WalkKit
import Derived.WalkSpells
import Derived.WalkLawsBesides
import Derived.Lib.MinMax
import Derived.Lib.Hide
import Derived.Handy
import Derived.Deep.WholeRow

/-
  Contracts of huff.lengths, huff.size.
-/
namespace Go.Proofs.Ytejkbibahbcofaa
open Go.RowKit
set_option linter.unusedVariables false

/-- The lengths, as an array's cells. -/
def LA : Array Value := (LL.map fun (n : Nat) => Value.int .u8 (n : Int)).toArray
def ZA : Array Value := Array.replicate 257 (.int .u8 0)

theorem infoArr : (Try.prog.info? 123).map (fun i => (i.zero, i.size)) = some (some (.agg ZA), 257) := by kernel_rfl
theorem la_one : LA.all (·.oneCell') = true := by decide +kernel
theorem la_size : LA.size = 257 := by decide +kernel
theorem za_size : ZA.size = 257 := by decide +kernel

set_option maxRecDepth 100000 in
set_option maxHeartbeats 1000000 in
theorem lengths_any (w : World) :
    Calls Try.prog 73 #[] w fun e w' => e = .returned (.agg LA) ∧ Below w.heap.size w w' := by
  obtain ⟨hz, hs⟩ := zero_of_info infoArr
  have hst := run_storeCells_new (P := Try.prog) w 123 ZA LA (by rw [hs, la_size]) (by rw [la_size, za_size]) la_one
  have hsz := la_size
  go_enter Try.func73, Try.ntmps73
  go_wp2_with (with_reducible refine wpList_build (v := .agg LA) (by kernel_rfl) ?_)
  exact bodyPost_ret (results_cell_row Try.results73 _ _ w.heap.size 123 LA (0, 0) _ rfl (heap_alloc_last w _) Try.underlying123 rfl (by rw [hs, la_size])) rfl ⟨rfl, (Below.refl _ _).alloc (Nat.le_refl _) _⟩


theorem la_get (k : Nat) (hk : k < 257) : LA[k]? = some (.int .u8 (ll k : Int)) := by
  unfold LA ll
  have h := tab_len.1
  rw [List.getElem?_toArray, List.getElem?_map, List.getElem?_eq_getElem (by omega), List.getD_eq_getElem?_getD, List.getElem?_eq_getElem (by omega)]
  rfl

end Go.Proofs.Ytejkbibahbcofaa

/-
  Contracts of huff.size, huff.Len.
-/
namespace Go.Proofs.Ytejkbibahbcofaa
open Go.RowKit
set_option linter.unusedVariables false

theorem hret_int {k : IntKind} {a b : Int} (h : a = b) : Ending.returned (.int k a) = .returned (.int k b) := by rw [h]

theorem take_snocB (s : ByteArray) (k : Nat) (h : k < s.size) : s.data.toList.take (k + 1) = s.data.toList.take k ++ [s[k]] := by
  rw [List.take_succ_eq_append_getElem (by simpa using h)]; rfl
theorem bitLen_snoc (s : ByteArray) (k : Nat) (h : k < s.size) : bitLen (s.data.toList.take (k + 1)) = bitLen (s.data.toList.take k) + ll s[k].toNat := by
  rw [take_snocB s k h, bitLen_append]; simp [bitLen]

end Go.Proofs.Ytejkbibahbcofaa
