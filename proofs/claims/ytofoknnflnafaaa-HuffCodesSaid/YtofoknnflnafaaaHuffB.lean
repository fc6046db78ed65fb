/-
  Contracts of huff.size, huff.Len.
-/
import Derived.Test.YtofoknnflnafaaaHuffA
namespace Go.Proofs.Ytofoknnflnafaaa
open Go.RowKit
set_option linter.unusedVariables false

theorem ret_int {k : IntKind} {a b : Int} (h : a = b) : Ending.returned (.int k a) = .returned (.int k b) := by rw [h]

theorem take_snocB (s : ByteArray) (k : Nat) (h : k < s.size) : s.data.toList.take (k + 1) = s.data.toList.take k ++ [s[k]] := by
  rw [List.take_succ_eq_append_getElem (by simpa using h)]; rfl
theorem bitLen_snoc (s : ByteArray) (k : Nat) (h : k < s.size) : bitLen (s.data.toList.take (k + 1)) = bitLen (s.data.toList.take k) + ll s[k].toNat := by
  rw [take_snocB s k h, bitLen_append]; simp [bitLen]

set_option maxRecDepth 100000 in
set_option maxHeartbeats 1000000 in
theorem size_any (s : ByteArray) (w : World) (hs : s.size ≤ 1000000) :
    Calls Try.prog 20 #[.string s, .agg LA] w fun e w' => e = .returned (.int .i64 (((bitLen s.data.toList + 7) / 8 : Nat) : Int)) ∧ Below w.heap.size w w' := by
  go_enter Try.func20, Try.ntmps20
  go_wp2
  have Hc : Bx (∀ k, k < 257 → (w.alloc (.cells LA 48)).cell? ⟨w.heap.size, k, none⟩ = some (.int .u8 (ll k : Int))) := ⟨fun k hk => by
    rw [cell_of_row _ _ k LA 48 (0, 0) (heap_alloc_last w _), la_get k hk]⟩
  go_loop [5, 9] (fun t i => ∃ k : Nat, k ≤ s.size ∧ i = .int .i64 k ∧ t = .int .i64 (bitLen (s.data.toList.take k))) (fun _ i => s.size - (intOf i).toNat)
  case atStart => exact ⟨0, Nat.zero_le _, rfl, rfl⟩
  case round =>
    obtain ⟨k, hk, rfl, rfl⟩ := hrel
    have hb := bitLen_le (s.data.toList.take k)
    have hl : (s.data.toList.take k).length ≤ k := List.length_take_le _ _
    by_cases hlt : k < s.size
    · have hx := s[k].toNat_lt
      have hc := Hc.out (s[k].toNat) (by omega)
      have hll := ll_byte s[k]
      have HS := Lib.hid (bitLen_snoc s k hlt)
      go_wp2
      go_round
      case rel => exact ⟨k + 1, by omega, by go_num, by rw [HS.out]; go_num⟩
      case measure => simp [intOf]; omega
    · go_wp2
      go_ret
      have he : s.data.toList.take k = s.data.toList := List.take_of_length_le (by simp; omega)
      refine ⟨ret_int (by rw [he]), (Below.refl _ _).alloc (Nat.le_refl _) _⟩

set_option maxRecDepth 100000 in
set_option maxHeartbeats 1000000 in
theorem len_any (s : ByteArray) (w : World) (hs : s.size ≤ 1000000) :
    Calls Try.prog 13 #[.string s] w fun e w' => e = .returned (.int .i64 (((bitLen s.data.toList + 7) / 8 : Nat) : Int)) ∧ Below w.heap.size w w' := by
  go_enter Try.func13, Try.ntmps13
  go_wp2_with (first
    | (go_at_call 21; refine (lengths_any _).mono ?_; rintro e w1 ⟨rfl, b1⟩)
    | (go_at_call 20; refine (size_any _ _ hs).mono ?_; rintro e w2 ⟨rfl, b2⟩))
  go_ret
  exact ⟨rfl, b1.trans (b2.mono b1.size)⟩

end Go.Proofs.Ytofoknnflnafaaa
