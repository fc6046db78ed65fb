/-
  Frames, FrameBack's mathematics: a frame that is written is read back; rows of frames appended.
-/
import Derived.Test.YtenoaljghbpaaaaBkR
import Derived.Test.YtenoaljghbpaaaaLawFrameReads
import Derived.Test.YtenoaljghbpaaaaFrF
namespace Go.Proofs.Ytenoaljghbpaaaa
open Go.RowKit
set_option linter.unusedVariables false
set_option linter.unusedSimpArgs false

theorem rbF_cons_from (l : List UInt8) : ∀ a : Nat, l.foldl (fun v c => v * 256 + c.toNat) a = a * 256 ^ l.length + rb l := by
  induction l with
  | nil => intro a; show a = a * 1 + 0; omega
  | cons c l ih =>
    intro a
    have h0 := ih (0 * 256 + c.toNat)
    show l.foldl (fun v c => v * 256 + c.toNat) (a * 256 + c.toNat) = a * 256 ^ (l.length + 1) + l.foldl (fun v c => v * 256 + c.toNat) (0 * 256 + c.toNat)
    rw [ih, h0, Nat.pow_succ, Nat.zero_mul, Nat.zero_add, Nat.add_mul, Nat.mul_assoc a, Nat.mul_comm 256, Nat.add_assoc]
theorem rbF_cons (c : UInt8) (l : List UInt8) : rb (c :: l) = c.toNat * 256 ^ l.length + rb l := by
  have := rbF_cons_from l (0 * 256 + c.toNat)
  rw [Nat.zero_mul, Nat.zero_add] at this
  rw [← this]
  show l.foldl (fun v c => v * 256 + c.toNat) (0 * 256 + c.toNat) = _
  rw [Nat.zero_mul, Nat.zero_add]
theorem byteAtF_nat (v i : Nat) : (byteAt (v : Int) i).toNat = v / 256 ^ i % 256 := by
  have h := byteAt_val (v : Int) i
  unfold bv at h
  injection h with _ h
  rw [← Int.natCast_inj, h, show (256 : Nat) ^ i = 2 ^ (8 * i) from by rw [Nat.pow_mul], Int.natCast_emod, Int.natCast_ediv, Int.natCast_pow]
  rfl
theorem rbF_bes (v n : Nat) : rb (bes (v : Int) n) = v % 256 ^ n := by
  induction n with
  | zero => show rb [] = v % 1; rw [Nat.mod_one]; rfl
  | succ n ih =>
    rw [bes, rbF_cons, ih, bes_lenF, byteAtF_nat, Nat.pow_succ, Nat.mod_mul]
    rw [Nat.mul_comm, Nat.add_comm]
theorem frB_eq (a : Frm) (rest : List UInt8) : frB a ++ rest = byteAt (a.rawb.length : Int) 2 :: byteAt (a.rawb.length : Int) 1 :: byteAt (a.rawb.length : Int) 0 :: UInt8.ofNat a.ty :: UInt8.ofNat a.fl :: byteAt ((a.st % 2147483648 : Nat) : Int) 3 :: byteAt ((a.st % 2147483648 : Nat) : Int) 2 :: byteAt ((a.st % 2147483648 : Nat) : Int) 1 :: byteAt ((a.st % 2147483648 : Nat) : Int) 0 :: (a.rawb ++ rest) := by
  unfold frB
  rw [List.append_assoc]
  rfl
theorem rdF_frB (a : Frm) (rest : List UInt8) (ho : frOk a) (hl : a.rawb.length ≤ 16384) : rdF (frB a ++ rest) 0 = ((a.ty, a.fl, a.st % 2147483648, a.rawb), 9 + a.rawb.length, 0) := by
  obtain ⟨o1, o2, o3⟩ := ho
  have h3 := rbF_bes a.rawb.length 3
  have h4 := rbF_bes (a.st % 2147483648) 4
  rw [frB_eq]
  refine rdF_yes _ 0 a.rawb.length (a.st % 2147483648) (a.st % 2147483648) a.ty a.fl a.rawb ?_ ?_ ?_ ?_ ?_ ?_ ?_ ?_ ?_
  · simp
  · show rb (bes (a.rawb.length : Int) 3) = _
    rw [h3]
    omega
  · show ¬ (min (max (0 : Int) 16384) 16777215 < (a.rawb.length : Int))
    omega
  · simp
  · show rb (bes ((a.st % 2147483648 : Nat) : Int) 4) = _
    rw [h4]
    omega
  · omega
  · show (UInt8.ofNat a.ty).toNat = _
    rw [UInt8.toNat_ofNat']
    omega
  · show (UInt8.ofNat a.fl).toNat = _
    rw [UInt8.toNat_ofNat']
    omega
  · show (a.rawb ++ rest).take a.rawb.length = _
    rw [List.take_left]
theorem frB_length (a : Frm) : (frB a).length = 9 + a.rawb.length := by
  have h := congrArg List.length (frB_eq a [])
  simp only [List.append_nil, List.length_cons] at h
  omega
/-- What stands behind the first k frames. -/
theorem frsB_rest (b0 : List UInt8) (l : List Frm) (k : Nat) (hk : k < l.length) : (b0 ++ frsB l).drop (b0.length + (frsB (l.take k)).length) = frB l[k] ++ frsB (l.drop (k + 1)) := by
  have h : l = l.take k ++ l[k] :: l.drop (k + 1) := by
    rw [← List.drop_eq_getElem_cons hk, List.take_append_drop]
  have h2 : frsB l = frsB (l.take k) ++ (frB l[k] ++ frsB (l.drop (k + 1))) := by
    have h3 := congrArg frsB h
    rw [h3]
    unfold frsB
    rw [List.flatMap_append, List.flatMap_cons]
  rw [h2, ← List.drop_drop, List.drop_left, List.drop_left]
/-- Frames behind a row of the call's own. -/
theorem run_rowsF (w : World) (ty : TypeId) (B : Nat) (v u : Value) (l m : List Frm) (hv : w.ownsRow B 28 4 v l.length (l.flatMap frvl)) (hu : Rows 4 frvl w u m) (h1 : ∀ a ∈ m, a.raw.oneCell' = true) (hl : l.length ≤ 1000) (hm : m.length ≤ 1000) (hB : B ≤ w.heap.size) :
    ∃ v' w', (Builtin.append_ #[23, 23] ty #[v, u]).run Try.prog w = .ok v' w' ∧ w'.ownsRow B 28 4 v' (l ++ m).length ((l ++ m).flatMap frvl) ∧ w.grownBy w' v.ownBlock := by
  obtain ⟨i, hi, hz, hs, hb⟩ := info_parts infoFrm
  obtain ⟨A, c, rfl, c1, c2, c4, c3⟩ := hu
  rw [List.length_append, List.flatMap_append]
  rcases c3 with ⟨rfl, h0⟩ | ⟨x, rfl, hc⟩
  · have hm0 : m = [] := by
      have h2 : m.length = 0 := by omega
      exact List.eq_nil_of_length_eq_zero h2
    subst hm0
    exact ⟨v, w, run_append_owned_none w B 23 ty 28 i 4 Try.underlying23 hi v _ _ hv, by simpa using hv, ⟨rfl, rfl, rfl, Nat.le_refl _, fun _ _ _ => rfl⟩⟩
  · obtain ⟨v', w', hrun, r1, r2, _⟩ := run_append_own (P := Try.prog) w B 23 ty 28 i _ 4 32 Try.underlying23 hi hz hs hb rfl (by omega) v l.length (l.flatMap frvl) hv x m.length c (m.flatMap frvl) c4 hc
      (fun y hy => by
        obtain ⟨a, ha, hy⟩ := List.mem_flatMap.1 hy
        exact frvl_one a (h1 a ha) y hy)
      (by unfold maxLen; omega) (by omega) hB
    exact ⟨v', w', hrun, r1, r2⟩
end Go.Proofs.Ytenoaljghbpaaaa
