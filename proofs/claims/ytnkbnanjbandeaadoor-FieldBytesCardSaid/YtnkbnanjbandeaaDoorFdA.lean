/-
  Contracts of field.ofName, field.Name, field.Pseudo; the document's Name, blank, Value, Pseudo.
-/
import Derived.Test.YtnkbnanjbandeaaDoorShelf
import Derived.Test.YtnkbnanjbandeaaDoorFdMath
import Derived.Test.YtnkbnanjbandeaaDoorStep
import Derived.Test.YtnkbnanjbandeaaDoorRows
import Derived.Handy
import Derived.Lib.Hide
import Derived.WalkSpells
namespace Go.Proofs.YtnkbnanjbandeaaDoor
open Go.RowKit
set_option linter.unusedVariables false

theorem ret_bool {a b : Bool} (h : a = b) : Ending.returned (.bool a) = .returned (.bool b) := by rw [h]
theorem take_snocB (s : ByteArray) (k : Nat) (h : k < s.size) : s.data.toList.take (k + 1) = s.data.toList.take k ++ [s[k]] := by
  rw [List.take_succ_eq_append_getElem (by simpa using h)]; rfl

theorem okB_eq (c : UInt8) : okB c = ((decide (97 ≤ (c.toNat : Int)) && decide ((c.toNat : Int) ≤ 122)) || (decide (48 ≤ (c.toNat : Int)) && decide ((c.toNat : Int) ≤ 57)) || marks.contains c) := by
  have e : ∀ n : UInt8, decide (n ≤ c) = decide ((n.toNat : Int) ≤ (c.toNat : Int)) := fun n => by rw [decide_eq_decide, UInt8.le_iff_toNat_le]; omega
  have e' : ∀ n : UInt8, decide (c ≤ n) = decide ((c.toNat : Int) ≤ (n.toNat : Int)) := fun n => by rw [decide_eq_decide, UInt8.le_iff_toNat_le]; omega
  unfold okB
  simp only [e, e']
  rfl

set_option maxHeartbeats 1000000 in
theorem ofName_any (c : UInt8) (w : World) :
    Calls Tryd.prog 22 #[.int .u8 (c.toNat : Int)] w fun e w' => e = .returned (.bool (okB c)) ∧ w' = w := by
  have hm : marks.contains c = decide (0 ≤ Lib.indexByte marks c) := Lib.contains_iff_indexByte marks c
  rw [okB_eq, hm]
  have hback : ((c.toNat : Int)).toNat.toUInt8 = c := by simp
  have hc := c.toNat_lt
  clear hm
  go_enter Tryd.func22, Tryd.ntmps22
  go_wp2_with (go_at_call 28; refine (strings_IndexByte _ _ _).mono ?_; rintro e w' ⟨rfl, hw⟩; rw [hw, hback])
  all_goals
    go_ret
    refine ⟨ret_bool ?_, rfl⟩
    first
      | rfl
      | (rw [Bool.eq_iff_iff]; simp only [Bool.or_eq_true, Bool.and_eq_true, decide_eq_true_eq]; simp only [marks]; omega)

theorem nameB_take (s : ByteArray) (k : Nat) (h : k < s.size) : (s.data.toList.take (k + 1)).all okB = ((s.data.toList.take k).all okB && okB s[k]) := by
  rw [take_snocB s k h, List.all_append]; simp
theorem nameB_false {s : ByteArray} {k : Nat} (h : k < s.size) (hb : okB s[k] = false) : nameB s.data.toList = false := by
  unfold nameB
  have : s.data.toList.all okB = false := by
    rw [List.all_eq_false]
    exact ⟨s[k], List.mem_of_getElem? (by rw [List.getElem?_eq_getElem (by simpa using h)]; rfl), by simp [hb]⟩
  rw [this]; rfl
theorem nameB_end {s : ByteArray} (h : (s.data.toList.take s.size).all okB = true) : nameB s.data.toList = !s.toList.isEmpty := by
  have he : s.data.toList.take s.size = s.data.toList := List.take_of_length_le (by simp)
  rw [he] at h
  unfold nameB
  rw [h, Lib.toList_data]
  rfl

set_option maxHeartbeats 1000000 in
theorem name_any (s : ByteArray) (w : World) (hs : s.size ≤ 9223372036854775807) :
    Calls Tryd.prog 8 #[.string s] w fun e w' => e = .returned (.bool (nameB s.data.toList)) ∧ w' = w := by
  obtain ⟨R, hR⟩ : ∃ R, nameB s.data.toList = R := ⟨_, rfl⟩
  rw [hR]
  have HR := Bx.mk hR
  clear hR
  go_enter Tryd.func8, Tryd.ntmps8
  go_wp2
  go_loop [6] (fun i => ∃ k : Nat, k ≤ s.size ∧ i = .int .i64 k ∧ Bx ((s.data.toList.take k).all okB = true)) (fun i => s.size - (intOf i).toNat)
  case atStart => exact ⟨0, Nat.zero_le _, rfl, ⟨rfl⟩⟩
  case round =>
    obtain ⟨k, hk, rfl, HA⟩ := hrel
    by_cases hlt : k < s.size
    · cases hb : okB s[k]
      · have HB := Bx.mk hb
        clear hb
        go_wp2_with (go_at_call 22; refine (ofName_any _ _).mono ?_; rintro e w' ⟨rfl, hw⟩; rw [hw, HB.out])
        go_ret
        exact ⟨ret_bool (by rw [← HR.out, nameB_false hlt HB.out]), rfl⟩
      · have HB := Bx.mk hb
        clear hb
        go_wp2_with (go_at_call 22; refine (ofName_any _ _).mono ?_; rintro e w' ⟨rfl, hw⟩; rw [hw, HB.out])
        go_round
        case rel => exact ⟨k + 1, by omega, by go_num, ⟨by rw [nameB_take s k hlt, HA.out, HB.out]; rfl⟩⟩
        case measure => simp [intOf]; omega
    · obtain rfl : k = s.size := by omega
      go_wp2
      go_ret
      exact ⟨ret_bool (by rw [← HR.out, nameB_end HA.out]), rfl⟩

end Go.Proofs.YtnkbnanjbandeaaDoor
