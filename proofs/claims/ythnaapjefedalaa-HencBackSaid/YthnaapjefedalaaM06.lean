/-
  Texts put together: HuffA, HuffB.
-/
import Derived.Test.YthnaapjefedalaaRows
import Derived.Test.YthnaapjefedalaaM05
import Derived.Test.YthnaapjefedalaaM01
import Derived.WalkKit
import Derived.WalkSpells
import Derived.WalkLawsBesides
import Derived.Lib.MinMax
import Derived.Lib.Hide
import Derived.Handy
import Derived.Deep.WholeRow

/-
  Contracts of huff.lengths, huff.size.
-/
namespace Go.Proofs.Ythnaapjefedalaa
open Go.RowKit
set_option linter.unusedVariables false

/-- The lengths, as an array's cells. -/
def LA : Array Value := (LL.map fun (n : Nat) => Value.int .u8 (n : Int)).toArray
def ZA : Array Value := Array.replicate 257 (.int .u8 0)

theorem infoArr : (Try.prog.info? 99).map (fun i => (i.zero, i.size)) = some (some (.agg ZA), 257) := by kernel_rfl
theorem la_one : LA.all (·.oneCell') = true := by decide +kernel
theorem la_size : LA.size = 257 := by decide +kernel
theorem za_size : ZA.size = 257 := by decide +kernel

set_option maxRecDepth 100000 in
set_option maxHeartbeats 1000000 in
theorem lengths_any (w : World) :
    Calls Try.prog 63 #[] w fun e w' => e = .returned (.agg LA) ∧ Below w.heap.size w w' := by
  obtain ⟨hz, hs⟩ := zero_of_info infoArr
  have hst := run_storeCells_new (P := Try.prog) w 99 ZA LA (by rw [hs, la_size]) (by rw [la_size, za_size]) la_one
  have hsz := la_size
  go_enter Try.func63, Try.ntmps63
  go_wp2_with (with_reducible refine wpList_build (v := .agg LA) (by kernel_rfl) ?_)
  exact bodyPost_ret (results_cell_row Try.results63 _ _ w.heap.size 99 LA (0, 0) _ rfl (heap_alloc_last w _) Try.underlying99 rfl (by rw [hs, la_size])) rfl ⟨rfl, (Below.refl _ _).alloc (Nat.le_refl _) _⟩


theorem la_get (k : Nat) (hk : k < 257) : LA[k]? = some (.int .u8 (ll k : Int)) := by
  unfold LA ll
  have h := tab_len.1
  rw [List.getElem?_toArray, List.getElem?_map, List.getElem?_eq_getElem (by omega), List.getD_eq_getElem?_getD, List.getElem?_eq_getElem (by omega)]
  rfl

end Go.Proofs.Ythnaapjefedalaa

/-
  Contracts of huff.size, huff.Len.
-/
namespace Go.Proofs.Ythnaapjefedalaa
open Go.RowKit
set_option linter.unusedVariables false

theorem hret_int {k : IntKind} {a b : Int} (h : a = b) : Ending.returned (.int k a) = .returned (.int k b) := by rw [h]

theorem take_snocB (s : ByteArray) (k : Nat) (h : k < s.size) : s.data.toList.take (k + 1) = s.data.toList.take k ++ [s[k]] := by
  rw [List.take_succ_eq_append_getElem (by simpa using h)]; rfl
theorem bitLen_snoc (s : ByteArray) (k : Nat) (h : k < s.size) : bitLen (s.data.toList.take (k + 1)) = bitLen (s.data.toList.take k) + ll s[k].toNat := by
  rw [take_snocB s k h, bitLen_append]; simp [bitLen]

set_option maxRecDepth 100000 in
set_option maxHeartbeats 1000000 in
theorem hsize_any (s : ByteArray) (w : World) (hs : s.size ≤ 1000000) :
    Calls Try.prog 62 #[.string s, .agg LA] w fun e w' => e = .returned (.int .i64 (((bitLen s.data.toList + 7) / 8 : Nat) : Int)) ∧ Below w.heap.size w w' := by
  go_enter Try.func62, Try.ntmps62
  go_wp2
  have Hc : Bx (∀ k, k < 257 → (w.alloc (.cells LA 99)).cell? ⟨w.heap.size, k, none⟩ = some (.int .u8 (ll k : Int))) := ⟨fun k hk => by
    rw [cell_of_row _ _ k LA 99 (0, 0) (heap_alloc_last w _), la_get k hk]⟩
  go_loop [5, 9] (fun t i => ∃ k : Nat, k ≤ s.size ∧ i = .int .i64 k ∧ t = .int .i64 (bitLen (s.data.toList.take k))) (fun _ i => s.size - (intOf i).toNat)
  case atStart => exact ⟨0, Nat.zero_le _, rfl, rfl⟩
  case round =>
    obtain ⟨k, hk, rfl, rfl⟩ := hrel
    have hb := bitLen_le (s.data.toList.take k)
    have hl : (s.data.toList.take k).length ≤ k := List.length_take_le _ _
    by_cases hlt : k < s.size
    · have hx := s[k].toNat_lt
      have hc := Hc.out (s[k].toNat) (by omega)
      have hll := ll_byte s[k]
      have HS := Lib.hid (bitLen_snoc s k hlt)
      go_wp2
      go_round
      case rel => exact ⟨k + 1, by omega, by go_num, by rw [HS.out]; go_num⟩
      case measure => simp [intOf]; omega
    · go_wp2
      go_ret
      have he : s.data.toList.take k = s.data.toList := List.take_of_length_le (by simp; omega)
      refine ⟨hret_int (by rw [he]), (Below.refl _ _).alloc (Nat.le_refl _) _⟩

set_option maxRecDepth 100000 in
set_option maxHeartbeats 1000000 in
theorem len_any (s : ByteArray) (w : World) (hs : s.size ≤ 1000000) :
    Calls Try.prog 45 #[.string s] w fun e w' => e = .returned (.int .i64 (((bitLen s.data.toList + 7) / 8 : Nat) : Int)) ∧ Below w.heap.size w w' := by
  go_enter Try.func45, Try.ntmps45
  go_wp2_with (first
    | (go_at_call 63; refine (lengths_any _).mono ?_; rintro e w1 ⟨rfl, b1⟩)
    | (go_at_call 62; refine (hsize_any _ _ hs).mono ?_; rintro e w2 ⟨rfl, b2⟩))
  go_ret
  exact ⟨rfl, b1.trans (b2.mono b1.size)⟩

end Go.Proofs.Ythnaapjefedalaa
