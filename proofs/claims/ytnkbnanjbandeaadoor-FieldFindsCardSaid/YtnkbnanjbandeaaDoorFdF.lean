/-
  Contract of field.Value.
-/
import Derived.Test.YtnkbnanjbandeaaDoorFdC
import Derived.Test.YtnkbnanjbandeaaDoorFdE
import Derived.Shelf.Strings.SlTrimAscii
namespace Go.Proofs.YtnkbnanjbandeaaDoor
open Go.RowKit
set_option linter.unusedVariables false

theorem containsAny_any_list (l cs : List UInt8) : Lib.containsAny l cs = l.any (cs.contains ·) := by
  unfold Lib.containsAny
  induction l with
  | nil => rfl
  | cons b t ih =>
    rw [List.any_cons, ← ih]
    have hg := Lib.indexAny_ge cs t
    have e : Lib.indexAny (b :: t) cs = if cs.contains b then 0 else if Lib.indexAny t cs == -1 then -1 else Lib.indexAny t cs + 1 := rfl
    rw [e]
    generalize Lib.indexAny t cs = q at hg ⊢
    cases hc : cs.contains b
    · simp only [Bool.false_eq_true, if_false, Bool.false_or]
      rw [decide_eq_decide]
      split
      · rename_i h; rw [beq_iff_eq] at h; omega
      · rename_i h; rw [beq_iff_eq] at h; omega
    · simp

theorem dropWhile_len {α : Type} (p : α → Bool) (l : List α) : (l.dropWhile p).length ≤ l.length := by
  induction l with
  | nil => simp
  | cons a l ih => rw [List.dropWhile_cons]; split <;> simp only [List.length_cons] <;> omega
theorem dropWhile_head {α : Type} (p : α → Bool) (a : α) (l : List α) (h : p a = true) : ((a :: l).dropWhile p).length ≤ l.length := by
  rw [List.dropWhile_cons, if_pos h]; exact dropWhile_len p l

/-- Cut off on neither side: just where neither end is one of them. -/
theorem trim_same (l cs : List UInt8) : (Lib.trimS l cs = l) ↔ (match l.head?, l.getLast? with | some a, some b => (!cs.contains a && !cs.contains b) = true | _, _ => True) := by
  rcases List.eq_nil_or_concat l with rfl | ⟨m, b, rfl⟩
  · simp [Lib.trimS, Lib.trimRightS, Lib.trimLeftS]
  · rw [List.concat_eq_append]
    have hlast : (m ++ [b]).getLast? = some b := by simp
    obtain ⟨a, t, hcons⟩ : ∃ a t, m ++ [b] = a :: t := by cases m <;> simp
    have hhead : (m ++ [b]).head? = some a := by rw [hcons]; rfl
    rw [hhead, hlast]
    simp only
    have hr1 : (Lib.trimRightS (m ++ [b]) cs).length ≤ (m ++ [b]).length := by
      unfold Lib.trimRightS
      rw [List.length_reverse]
      have := dropWhile_len (cs.contains ·) (m ++ [b]).reverse
      rwa [List.length_reverse] at this
    cases hb : cs.contains b
    · have hr : Lib.trimRightS (m ++ [b]) cs = m ++ [b] := by
        unfold Lib.trimRightS
        rw [List.reverse_append]
        show (List.dropWhile _ (b :: m.reverse)).reverse = _
        rw [List.dropWhile_cons, if_neg (by rw [hb]; decide)]
        simp
      unfold Lib.trimS
      rw [hr]
      cases ha : cs.contains a
      · unfold Lib.trimLeftS
        rw [hcons, List.dropWhile_cons, if_neg (by rw [ha]; decide)]
        simp
      · have h1 := dropWhile_head (cs.contains ·) a t ha
        simp only [Bool.not_true, Bool.false_and, Bool.false_eq_true, iff_false]
        intro h
        unfold Lib.trimLeftS at h
        rw [hcons] at h
        rw [h, List.length_cons] at h1
        omega
    · simp only [Bool.not_true, Bool.and_false, Bool.false_eq_true, iff_false]
      intro h
      have h2 : (Lib.trimRightS (m ++ [b]) cs).length ≤ m.length := by
        unfold Lib.trimRightS
        rw [List.length_reverse, List.reverse_append]
        have := dropWhile_head (cs.contains ·) b m.reverse hb
        rw [List.length_reverse] at this
        exact this
      have h3 : (Lib.trimS (m ++ [b]) cs).length ≤ (Lib.trimRightS (m ++ [b]) cs).length := by
        unfold Lib.trimS Lib.trimLeftS
        exact dropWhile_len _ _
      rw [h, List.length_append] at h3
      simp only [List.length_singleton] at h3
      omega

theorem contains_brk (c : UInt8) : ([0, 10, 13] : List UInt8).contains c = brk c := by
  rw [List.contains_cons, List.contains_cons, List.contains_cons, List.contains_nil, Bool.or_false, brk, Bool.or_assoc]
theorem contains_blnk (c : UInt8) : ([32, 9] : List UInt8).contains c = blnk c := by
  rw [List.contains_cons, List.contains_cons, List.contains_nil, Bool.or_false, blnk]

theorem value_eq (l : List UInt8) : valueB l = (!Lib.containsAny l [0, 10, 13] && decide (Lib.trimS l [32, 9] = l)) := by
  unfold valueB
  rw [containsAny_any_list]
  have h1 : (!l.any (([0, 10, 13] : List UInt8).contains ·)) = l.all (fun c => !brk c) := by
    rw [List.not_any_eq_all_not]
    congr 1
    funext c
    rw [contains_brk]
  rw [h1]
  congr 1
  have h2 := trim_same l [32, 9]
  rw [Bool.eq_iff_iff, decide_eq_true_iff, h2]
  cases l.head? <;> cases l.getLast? <;> simp [blnk]

set_option maxHeartbeats 1000000 in
theorem value_any (s : ByteArray) (w : World) (hs : s.size < 4294967281) :
    Calls Tryd.prog 10 #[.string s] w fun e w' => e = .returned (.bool (valueB s.data.toList)) ∧ Below w.heap.size w w' := by
  have hc : Calls Tryd.prog 23 #[.string s, .string ⟨#[0, 10, 13]⟩] w fun e w' => e = .returned (.bool (Lib.containsAny s.data.toList [0, 10, 13])) ∧ Below w.heap.size w w' :=
    containsAny_any s ⟨#[0, 10, 13]⟩ w (by decide) hs (by decide) (ascii_of_all (by decide))
  have ht : ∀ W, Calls Tryd.prog 24 #[.string s, .string ⟨#[32, 9]⟩] W fun e w' => e = .returned (.string ⟨(Lib.trimS s.data.toList [32, 9]).toArray⟩) ∧ Below W.heap.size W w' := fun W =>
    Any.strings_Trim_laid lays160 (by kernel_rfl) s ⟨#[32, 9]⟩ W (by omega) (by decide) (ascii_of_all (by decide))
  have HV := Bx.mk (value_eq s.data.toList)
  generalize Lib.trimS s.data.toList [32, 9] = tr at ht HV
  generalize Lib.containsAny s.data.toList [0, 10, 13] = ca at hc HV
  have HT := Bx.mk ht
  clear ht
  generalize valueB s.data.toList = R at HV ⊢
  go_enter Tryd.func10, Tryd.ntmps10
  go_wp2_with fail
  refine hc.mono ?_
  rintro e w1 ⟨rfl, b1⟩
  clear hc
  cases ca
  · go_wp2_with fail
    refine (HT.out w1).mono ?_
    rintro e w2 ⟨rfl, b2⟩
    go_wp2
    go_ret
    refine ⟨ret_bool ?_, b1.trans (b2.mono b1.size)⟩
    rw [HV.out, Lib.toList_data]
    simp only [Bool.not_false, Bool.true_and]
    rw [Bool.eq_iff_iff, beq_iff_eq, decide_eq_true_iff]
  · go_wp2
    go_ret
    exact ⟨ret_bool (by rw [HV.out]; rfl), b1⟩

end Go.Proofs.YtnkbnanjbandeaaDoor
