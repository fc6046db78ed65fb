/-
  Contracts of the document's Name.
-/
import Derived.Test.YtnkbnanjbandeaaDoorFdA
namespace Go.Proofs.YtnkbnanjbandeaaDoor
open Go.RowKit
set_option linter.unusedVariables false

def rngB (c : UInt8) : Bool := (97 ≤ c && c ≤ 122) || (48 ≤ c && c ≤ 57)
theorem rngB_eq (c : UInt8) : rngB c = ((decide (97 ≤ (c.toNat : Int)) && decide ((c.toNat : Int) ≤ 122)) || (decide (48 ≤ (c.toNat : Int)) && decide ((c.toNat : Int) ≤ 57))) := by
  have e : ∀ n : UInt8, decide (n ≤ c) = decide ((n.toNat : Int) ≤ (c.toNat : Int)) := fun n => by rw [decide_eq_decide, UInt8.le_iff_toNat_le]; omega
  have e' : ∀ n : UInt8, decide (c ≤ n) = decide ((c.toNat : Int) ≤ (n.toNat : Int)) := fun n => by rw [decide_eq_decide, UInt8.le_iff_toNat_le]; omega
  unfold rngB
  simp only [e, e']
  rfl
theorem okB_rng (c : UInt8) : okB c = (rngB c || marks.contains c) := rfl
theorem mk_at (q : Nat) (h : q < marks.length) (c : UInt8) : (((c.toNat : Int) == (((⟨#[33, 35, 36, 37, 38, 39, 42, 43, 45, 46, 94, 95, 96, 124, 126]⟩ : ByteArray)[q]'h).toNat : Int))) = (c == marks[q]'h) := by
  have e : ((⟨#[33, 35, 36, 37, 38, 39, 42, 43, 45, 46, 94, 95, 96, 124, 126]⟩ : ByteArray)[q]'h) = marks[q]'h := rfl
  rw [e, Bool.eq_iff_iff, beq_iff_eq, beq_iff_eq, ← UInt8.toNat_inj]
  omega
theorem marks_take (q : Nat) (h : q < marks.length) (c : UInt8) : (marks.take (q + 1)).contains c = ((marks.take q).contains c || c == marks[q]'h) := by
  rw [List.take_succ_eq_append_getElem h, List.contains_append]
  rw [show [marks[q]'h].contains c = (c == marks[q]'h) from by rw [List.contains_cons, List.contains_nil, Bool.or_false]]
def mk : ByteArray := ⟨#[33, 35, 36, 37, 38, 39, 42, 43, 45, 46, 94, 95, 96, 124, 126]⟩

set_option maxHeartbeats 1000000 in
theorem refName_any (s : ByteArray) (w : World) (hs : s.size ≤ 9223372036854775807) :
    Calls Tryd.prog 9 #[.string s] w fun e w' => e = .returned (.bool (nameB s.data.toList)) ∧ w' = w := by
  obtain ⟨R, hR⟩ : ∃ R, nameB s.data.toList = R := ⟨_, rfl⟩
  rw [hR]
  have HR := Bx.mk hR
  clear hR
  go_enter Tryd.func9, Tryd.ntmps9
  go_wp2
  go_loop [3] (fun i => ∃ k : Nat, k ≤ s.size ∧ i = .int .i64 k ∧ Bx ((s.data.toList.take k).all okB = true)) (fun i => s.size - (intOf i).toNat)
  case atStart => exact ⟨0, Nat.zero_le _, rfl, ⟨rfl⟩⟩
  case round =>
    obtain ⟨k, hk, rfl, HA⟩ := hrel
    by_cases hlt : k < s.size
    · obtain ⟨c, hc⟩ : ∃ c, s[k] = c := ⟨_, rfl⟩
      have hc2 := c.toNat_lt
      go_wp2
      all_goals
        go_loop [5, 6] (fun ok j => ∃ (b : Bool) (q : Nat), q ≤ 15 ∧ ok = .bool b ∧ j = .int .i64 q ∧ Bx (b = (rngB c || (marks.take q).contains c))) (fun _ j => 15 - (intOf j).toNat)
      any_goals
        refine ⟨_, 0, by omega, rfl, rfl, ⟨?_⟩⟩
        rw [rngB_eq, List.take_zero, Bool.eq_iff_iff]
        simp only [Bool.or_eq_true, Bool.and_eq_true, decide_eq_true_eq, List.contains_nil, Bool.false_eq_true, or_false, true_iff, false_iff]
        omega
      all_goals
        obtain ⟨b, q, hq, rfl, rfl, HB⟩ := hrel
        by_cases hql : q < 15
        · cases b
          · go_wp2
            go_round
            case rel => exact ⟨_, q + 1, by omega, rfl, by go_num, ⟨by rw [mk_at q hql, marks_take q hql, ← Bool.or_assoc, ← HB.out]; rfl⟩⟩
            case measure => simp [intOf]; omega
          · go_wp2
            go_round
            case rel => exact ⟨true, q + 1, by omega, rfl, by go_num, ⟨by rw [marks_take q hql, ← Bool.or_assoc, ← HB.out]; rfl⟩⟩
            case measure => simp [intOf]; omega
        · obtain rfl : q = 15 := by omega
          have hok : okB c = b := by rw [okB_rng, HB.out]; rfl
          have HO := Bx.mk hok
          have HC := Bx.mk hc
          clear hok HB hc
          cases b
          · go_wp2
            go_ret
            exact ⟨ret_bool (by rw [← HR.out, nameB_false hlt (by rw [HC.out]; exact HO.out)]), rfl⟩
          · go_wp2
            go_round
            case rel => exact ⟨k + 1, by omega, by go_num, ⟨by rw [nameB_take s k hlt, HA.out, HC.out, HO.out]; rfl⟩⟩
            case measure => simp [intOf]; omega
    · obtain rfl : k = s.size := by omega
      go_wp2
      go_ret
      exact ⟨ret_bool (by rw [← HR.out, nameB_end HA.out]), rfl⟩

end Go.Proofs.YtnkbnanjbandeaaDoor
