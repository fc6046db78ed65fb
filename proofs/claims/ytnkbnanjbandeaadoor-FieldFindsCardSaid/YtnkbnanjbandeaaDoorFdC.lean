/-
  Contracts of field.Pseudo; the document's Pseudo, blank, Value.
-/
import Derived.Test.YtnkbnanjbandeaaDoorFdA
namespace Go.Proofs.YtnkbnanjbandeaaDoor
open Go.RowKit
set_option linter.unusedVariables false

theorem pseudo_prefix (l : List UInt8) : Lib.hasPrefix l [58] = pseudoB l := by
  cases l with
  | nil => rfl
  | cons a l =>
    show ((58 == a) && ([] : List UInt8).isPrefixOf l) = (some a == some 58)
    rw [Bool.eq_iff_iff]
    simp
    exact eq_comm

set_option maxHeartbeats 1000000 in
theorem pseudo_any (s : ByteArray) (w : World) :
    Calls Tryd.prog 12 #[.string s] w fun e w' => e = .returned (.bool (pseudoB s.data.toList)) ∧ w' = w := by
  go_enter Tryd.func12, Tryd.ntmps12
  go_wp2_with (go_at_call 26; refine (strings_HasPrefix _ _ _).mono ?_; rintro e w' ⟨rfl, hw⟩; rw [hw, pseudo_prefix])
  go_ret
  exact ⟨rfl, rfl⟩

theorem str_cons (s : ByteArray) (h : 0 < s.size) : s.data.toList = s[0] :: s.data.toList.drop 1 := by
  have := List.drop_eq_getElem_cons (l := s.data.toList) (i := 0) (by simpa using h)
  rw [List.drop_zero] at this
  exact this
theorem toList_nil (s : ByteArray) (h : s.size = 0) : s.toList = [] := by
  rw [Lib.toList_data]; exact List.eq_nil_of_length_eq_zero (by simpa using h)
theorem toList_ne (s : ByteArray) (h : 0 < s.size) : s.toList.isEmpty = false := by
  rw [Lib.toList_data, str_cons s h]; rfl

set_option maxHeartbeats 1000000 in
theorem refPseudo_any (s : ByteArray) (w : World) :
    Calls Tryd.prog 13 #[.string s] w fun e w' => e = .returned (.bool (pseudoB s.data.toList)) ∧ w' = w := by
  rcases Nat.eq_zero_or_pos s.size with h | h
  · have he := toList_nil s h
    have hp : pseudoB s.data.toList = false := by rw [← Lib.toList_data, he]; rfl
    rw [hp]
    clear hp
    go_enter Tryd.func13, Tryd.ntmps13
    go_wp2
    go_ret
    exact ⟨rfl, rfl⟩
  · have he := toList_ne s h
    have hp : pseudoB s.data.toList = ((s[0].toNat : Int) == 58) := by
      rw [str_cons s h]
      show (some s[0] == some 58) = _
      rw [Bool.eq_iff_iff, beq_iff_eq, beq_iff_eq, Option.some_inj, ← UInt8.toNat_inj]
      show s[0].toNat = 58 ↔ _
      omega
    rw [hp]
    clear hp
    go_enter Tryd.func13, Tryd.ntmps13
    go_wp2
    go_ret
    exact ⟨rfl, rfl⟩

theorem blnk_eq (c : UInt8) : blnk c = (((c.toNat : Int) == 32) || ((c.toNat : Int) == 9)) := by
  unfold blnk
  rw [Bool.eq_iff_iff]
  simp only [Bool.or_eq_true, beq_iff_eq, ← UInt8.toNat_inj]
  show (c.toNat = 32 ∨ c.toNat = 9) ↔ _
  omega
theorem brk_eq (c : UInt8) : brk c = (((c.toNat : Int) == 0) || ((c.toNat : Int) == 10) || ((c.toNat : Int) == 13)) := by
  unfold brk
  rw [Bool.eq_iff_iff]
  simp only [Bool.or_eq_true, beq_iff_eq, ← UInt8.toNat_inj]
  show ((c.toNat = 0 ∨ c.toNat = 10) ∨ c.toNat = 13) ↔ _
  omega

set_option maxHeartbeats 1000000 in
theorem blank_any (c : UInt8) (w : World) :
    Calls Tryd.prog 25 #[.int .u8 (c.toNat : Int)] w fun e w' => e = .returned (.bool (blnk c)) ∧ w' = w := by
  rw [blnk_eq]
  have hc := c.toNat_lt
  go_enter Tryd.func25, Tryd.ntmps25
  go_wp2
  all_goals
    go_ret
    refine ⟨ret_bool ?_, rfl⟩
    first | rfl | simp_all

/-! the document's Value -/
theorem noBrk_take (s : ByteArray) (k : Nat) (h : k < s.size) : (s.data.toList.take (k + 1)).all (fun c => !brk c) = ((s.data.toList.take k).all (fun c => !brk c) && !brk s[k]) := by
  rw [take_snocB s k h, List.all_append]; simp
theorem value_brk {s : ByteArray} {k : Nat} (h : k < s.size) (hb : brk s[k] = true) : valueB s.data.toList = false := by
  unfold valueB
  have : s.data.toList.all (fun c => !brk c) = false := by
    rw [List.all_eq_false]
    exact ⟨s[k], List.mem_of_getElem? (by rw [List.getElem?_eq_getElem (by simpa using h)]; rfl), by simp [hb]⟩
  rw [this]; rfl
theorem value_empty {s : ByteArray} (h : s.size = 0) : valueB s.data.toList = true := by
  have : s.data.toList = [] := List.eq_nil_of_length_eq_zero (by simpa using h)
  rw [this]; rfl
theorem value_ends {s : ByteArray} (h : 0 < s.size) (ha : (s.data.toList.take s.size).all (fun c => !brk c) = true) : valueB s.data.toList = (!blnk s[0] && !blnk (s[s.size - 1]'(by omega))) := by
  have he : s.data.toList.take s.size = s.data.toList := List.take_of_length_le (by simp)
  rw [he] at ha
  unfold valueB
  rw [ha]
  have h1 : s.data.toList.head? = some s[0] := by rw [str_cons s h]; rfl
  have h2 : s.data.toList.getLast? = some (s[s.size - 1]'(by omega)) := by
    rw [List.getLast?_eq_getElem?, List.getElem?_eq_getElem (by simp; omega)]
    rfl
  rw [h1, h2]
  rfl

set_option maxHeartbeats 2000000 in
theorem refValue_any (s : ByteArray) (w : World) (hs : s.size ≤ 9223372036854775807) :
    Calls Tryd.prog 11 #[.string s] w fun e w' => e = .returned (.bool (valueB s.data.toList)) ∧ w' = w := by
  obtain ⟨R, hR⟩ : ∃ R, valueB s.data.toList = R := ⟨_, rfl⟩
  rw [hR]
  have HR := Bx.mk hR
  clear hR
  go_enter Tryd.func11, Tryd.ntmps11
  go_wp2
  go_loop [3] (fun i => ∃ k : Nat, k ≤ s.size ∧ i = .int .i64 k ∧ Bx ((s.data.toList.take k).all (fun c => !brk c) = true)) (fun i => s.size - (intOf i).toNat)
  case atStart => exact ⟨0, Nat.zero_le _, rfl, ⟨rfl⟩⟩
  case round =>
    obtain ⟨k, hk, rfl, HA⟩ := hrel
    by_cases hlt : k < s.size
    · obtain ⟨c, hc⟩ : ∃ c, s[k] = c := ⟨_, rfl⟩
      have hc2 := c.toNat_lt
      have HC := Bx.mk hc
      cases hb : brk c
      · have HB := Bx.mk hb
        rw [brk_eq, Bool.or_eq_false_iff, Bool.or_eq_false_iff] at hb
        obtain ⟨⟨e1, e2⟩, e3⟩ := hb
        go_wp2
        go_round
        case rel => exact ⟨k + 1, by omega, by go_num, ⟨by rw [noBrk_take s k hlt, HA.out, HC.out, HB.out]; rfl⟩⟩
        case measure => simp [intOf]; omega
      · have HB := Bx.mk hb
        rw [brk_eq, Bool.or_eq_true, Bool.or_eq_true] at hb
        have hfin : R = false := by rw [← HR.out, value_brk hlt (by rw [HC.out]; exact HB.out)]
        have HF := Bx.mk hfin
        clear hfin
        cases e1 : ((c.toNat : Int) == 0)
        · cases e2 : ((c.toNat : Int) == 10)
          · have e3 : ((c.toNat : Int) == 13) = true := by rcases hb with (h | h) | h <;> simp_all
            clear hb
            go_wp2
            go_ret
            exact ⟨ret_bool (by rw [HF.out]), rfl⟩
          · clear hb
            go_wp2
            go_ret
            exact ⟨ret_bool (by rw [HF.out]), rfl⟩
        · clear hb
          go_wp2
          go_ret
          exact ⟨ret_bool (by rw [HF.out]), rfl⟩
    · obtain rfl : k = s.size := by omega
      rcases Nat.eq_zero_or_pos s.size with h | h
      · have he := toList_nil s h
        have hv := value_empty h
        have HV := Bx.mk hv
        clear hv
        go_wp2
        go_ret
        exact ⟨ret_bool (by rw [← HR.out, HV.out]), rfl⟩
      · have he := toList_ne s h
        have HV := Bx.mk (value_ends h HA.out)
        go_wp2_with (go_at_call 25; refine (blank_any _ _).mono ?_; rintro e w' ⟨rfl, hw⟩; rw [hw])
        all_goals
          go_ret
          refine ⟨ret_bool ?_, rfl⟩
          rw [← HR.out, HV.out]
          simp_all

end Go.Proofs.YtnkbnanjbandeaaDoor
