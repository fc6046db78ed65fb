/-
  Contracts of the document's settings: Default, Apply.
-/
import Derived.Test.YtenoaljghbpaaaaSbW
import Derived.Test.YtenoaljghbpaaaaRwSetg
import Derived.Deep.RegionHeld
import Derived.Deep.CutRange
import Derived.Deep.CutBlock
import Derived.BigRegion
import Derived.Handy
namespace Go.Proofs.Ytenoaljghbpaaaa
open Go.RowKit
set_option linter.unusedVariables false
set_option linter.unusedSimpArgs false

/-- Settings by their numbers, as values. -/
abbrev arrS (S : Nat → Nat) : Array Value := #[.int .u64 (S 0 : Int), .int .u64 (S 1 : Int), .int .u64 (S 2 : Int), .int .u64 (S 3 : Int), .int .u64 (S 4 : Int), .int .u64 (S 5 : Int), .int .u64 (S 6 : Int)]
def defS (i : Nat) : Nat := if i = 1 then 4096 else if i = 2 then 1 else if i = 3 then 4294967295 else if i = 4 then 65535 else if i = 5 then 16384 else if i = 6 then 4294967295 else 0
/-- Which error a setting is. -/
def setE (id v : Nat) : Nat := if id = 2 then (if 1 < v then 34 else 0) else if id = 4 then (if 2147483647 < v then 31 else 0) else if id = 5 then (if v < 16384 ∨ 16777215 < v then 34 else 0) else 0
def setP (S : Nat → Nat) (id v : Nat) : Nat → Nat := fun i => if 1 ≤ id ∧ id ≤ 6 ∧ i = id then v else S i
def noS : Nat → Nat := fun _ => 0
def apS : (Nat → Nat) → List Stg → (Nat → Nat) × Nat
  | S, [] => (S, 0)
  | S, a :: l => if setE a.id a.val = 0 then apS (setP S a.id a.val) l else (noS, setE a.id a.val)
theorem set2_size : (Try.prog.info? 60).map (·.size) = some 7 := by kernel_rfl
theorem arrS_size (S : Nat → Nat) : (arrS S).size = 7 := rfl
theorem refDefault_any (w : World) : Calls Try.prog 41 #[] w fun e w' => e = .returned (.agg (arrS defS)) ∧ Below w.heap.size w w' := by
  go_enter Try.func41, Try.ntmps41
  go_wp2_with fail
  exact bodyPost_ret (ret_S1 Try.results41 _ _ w.heap.size 60 (arrS defS) _ rfl (Sb.new _ w _) Try.underlying60 rfl set2_size) rfl ⟨rfl, (Below.refl _ _).alloc (Nat.le_refl _) _⟩
section
variable {ops : Array Oper} {Q : Exit → Act → World → Prop} {a : Act} {w : World} {rest : List Oper}
/-- A store of whole settings. -/
theorem wpList_storeT {x y : Operand} {tr : TypeId} {pos : String} {af : Array Edge} (g : Nat) (Z S : Nat → Nat)
    (hx : a.eval x = .pointer (some ⟨g, 0, none⟩)) (hy : a.eval y = .agg (arrS S)) (hs : Sb 60 w g (arrS Z))
    (h : ∀ w2, Sb 60 w2 g (arrS S) → w.grownBy w2 (some g) → wpList Try.prog ops Q rest (a.put none undef) w2) :
    wpList Try.prog ops Q (⟨none, .store 60 x y, tr, pos, af, none⟩ :: rest) a w :=
  wpList_storeS 60 g (arrS Z) (arrS S) hx hy hs set2_size rfl (by simp [arrS, Value.oneCell']) h
end
theorem set2_index (g id : Nat) (h : id < 7) (W : World) : (Instr.indexAt 60 (.pointer (some ⟨g, 0, none⟩)) (.int .u64 (id : Int))).run Try.prog W = .ok (.pointer (some ⟨g, id, none⟩)) W := by
  simp [Instr.indexAt, asIntOf, run_underlying Try.underlying60, Sem.run_bind, h, Result.andThen, Instr.sureAddr]
  try simp [Addr.add]
  try (intro h; exact h.symm)
theorem arrS_set (S : Nat → Nat) (id v : Nat) (h1 : 1 ≤ id) (h2 : id ≤ 6) : (arrS S).set id (.int .u64 (v : Int)) (by rw [arrS_size]; omega) = arrS (setP S id v) := by
  match id, h1, h2 with
  | 1, _, _ => rfl
  | 2, _, _ => rfl
  | 3, _, _ => rfl
  | 4, _, _ => rfl
  | 5, _, _ => rfl
  | 6, _, _ => rfl
theorem arrS_at (S : Nat → Nat) (id : Nat) (h : id < 7) : (arrS S)[id]? = some (.int .u64 (S id : Int)) := by
  match id, h with
  | 0, _ => rfl
  | 1, _ => rfl
  | 2, _ => rfl
  | 3, _ => rfl
  | 4, _ => rfl
  | 5, _ => rfl
  | 6, _ => rfl
theorem setP_no (S : Nat → Nat) (id v : Nat) (h : ¬ (1 ≤ id ∧ id ≤ 6)) : setP S id v = S := by
  funext i
  unfold setP
  rw [if_neg (fun hh => h ⟨hh.1, hh.2.1⟩)]
set_option maxRecDepth 100000 in
set_option maxHeartbeats 8000000 in
theorem refApply_any (S : Nat → Nat) (v : Value) (l : List Stg) (w : World) (hv : Rows 2 sgvl w v l) (hok : ∀ a ∈ l, sgOk a) :
    Calls Try.prog 39 #[.agg (arrS S), v] w fun e w' => e = .returned (.tuple #[.agg (arrS (apS S l).1), .int .i64 ((apS S l).2 : Int)]) ∧ Below w.heap.size w w' := by
  have HV := Bx.mk hv
  have HOK := Bx.mk hok
  have hlen := fun tr W => sgs_len hv tr W
  have hmx := hv.max
  unfold maxLen at hmx
  obtain ⟨m, hm⟩ : ∃ n, l.length = n := ⟨_, rfl⟩
  rw [hm] at hlen hmx
  have HM := Bx.mk (And.intro hm hmx)
  obtain ⟨A0, hA0⟩ : ∃ A, arrS S = A := ⟨_, rfl⟩
  obtain ⟨R, hR⟩ : ∃ R, apS S l = R := ⟨_, rfl⟩
  have HR0 : Bx (R = apS S (l.drop 0)) := ⟨by rw [List.drop_zero, hR]⟩
  have HS0 : Bx (Sb 60 (w.alloc (.cells A0 60)) w.heap.size (arrS S)) := ⟨by rw [hA0]; exact Sb.new _ w _⟩
  rw [hA0, hR]
  clear hv hok hm hmx hA0 hR
  go_enter Try.func39, Try.ntmps39
  go_upto_region 1 with fail
  obtain ⟨g0, hg0⟩ : ∃ g, w.heap.size = g := ⟨_, rfl⟩
  obtain ⟨g1, hg1⟩ : ∃ g, w.heap.size + 1 = g := ⟨_, rfl⟩
  have HZ0 : Bx (Sb 60 ((w.alloc (.cells A0 60)).alloc (.cells (arrS noS) 60)) g1 (arrS noS)) := ⟨Sb.newg _ _ _ (by rw [← hg1]; simp) _⟩
  have HS1 := Bx.mk (HS0.out.alloc (.cells (arrS noS) 60))
  have HB0 : Bx (Below w.heap.size w ((w.alloc (.cells A0 60)).alloc (.cells (arrS noS) 60))) := ⟨((Below.refl _ _).alloc (Nat.le_refl _) _).alloc (by simp) _⟩
  have HG : Bx (g0 ≠ g1 ∧ w.heap.size ≤ g0 ∧ w.heap.size ≤ g1) := ⟨by omega, by omega, by omega⟩
  obtain ⟨w2, hw2⟩ : ∃ W, (w.alloc (.cells A0 60)).alloc (.cells (arrS noS) 60) = W := ⟨_, rfl⟩
  have hw2' := hw2
  rw [hw2] at HZ0 HS1 HB0
  unfold arrS noS at hw2'
  rw [hg0] at HS1
  rw [show ((w.alloc (.cells A0 60)).alloc (.cells #[.int .u64 0, .int .u64 0, .int .u64 0, .int .u64 0, .int .u64 0, .int .u64 0, .int .u64 0] 60)) = w2 from hw2', hg1, hg0]
  clear hw2 hw2' hg0 hg1 HS0
  go_wp2_with fail
  go_loopg [6] m (fun g s6 wx => ∃ (k : Nat) (S' : Nat → Nat), k + g = m ∧ s6 = .int .i64 k ∧ Bx (R = apS S' (l.drop k)) ∧ Bx (Sb 60 wx g0 (arrS S')) ∧ Bx (Sb 60 wx g1 (arrS noS)) ∧ Bx (Below w.heap.size w wx))
  case atStart => exact ⟨0, S, by omega, rfl, HR0, HS1, HZ0, HB0⟩
  case round =>
    clear HR0 HS1 HZ0 HB0
    obtain ⟨k, S', hkg, rfl, HR, HS, HZ, HB⟩ := hrel
    cases gk with
    | zero =>
      obtain rfl : k = m := by omega
      have hkd : decide ((k : Int) < (k : Int)) = false := by simp
      have hkd' : decide (k < k) = false := by simp
      have HRE : Bx (R = (S', 0)) := ⟨by rw [HR.out, List.drop_eq_nil_of_le (by have := HM.out.1; omega)]; rfl⟩
      have q0 := (HS.out.cell 0).trans (arrS_at S' 0 (by omega))
      have q1 := (HS.out.cell 1).trans (arrS_at S' 1 (by omega))
      have q2 := (HS.out.cell 2).trans (arrS_at S' 2 (by omega))
      have q3 := (HS.out.cell 3).trans (arrS_at S' 3 (by omega))
      have q4 := (HS.out.cell 4).trans (arrS_at S' 4 (by omega))
      have q5 := (HS.out.cell 5).trans (arrS_at S' 5 (by omega))
      have q6 := (HS.out.cell 6).trans (arrS_at S' 6 (by omega))
      go_wp2_with (with_reducible refine wpList_storeT g1 noS S' rfl rfl HZ.out ?_; intro w5 hs5 hg5; have HS5 := Bx.mk hs5; have HB5 := Bx.mk (HB.out.grown hg5 HB.out.size (fun k hk => by injection hk with hk; have := HG.out.2.2; omega)); clear hs5 hg5)
      rw [HRE.out]
      exact bodyPost_ret (ret_S Try.results39 _ _ g1 60 (arrS S') _ _ rfl rfl HS5.out Try.underlying60 rfl set2_size) rfl ⟨rfl, HB5.out⟩
    | succ g =>
      have hkm : k < m := by omega
      have hkl : k < l.length := by have := HM.out.1; omega
      have hkd : decide ((k : Int) < (m : Int)) = true := decide_eq_true (by omega)
      have hkd' : decide (k < m) = true := decide_eq_true hkm
      have hm63 := HM.out.2
      have HWK : Bx (wrap64 ((k : Int) + 1) = ((k + 1 : Nat) : Int)) := ⟨by unfold wrap64; omega⟩
      have HKG := Bx.mk hkg
      obtain ⟨b, o, hix0, hcs⟩ := sgs_at HV.out k hkl
      have hix := hix0 .i64
      have hao := HOK.out l[k] (List.getElem_mem hkl)
      have HDR : Bx (l.drop k = l[k] :: l.drop (k + 1)) := ⟨List.drop_eq_getElem_cons hkl⟩
      obtain ⟨c0, c1⟩ := hcs wr (HV.out.keep HB.out)
      obtain ⟨a, ha⟩ : ∃ a, l[k] = a := ⟨_, rfl⟩
      rw [ha] at hao HDR c0 c1
      obtain ⟨id, val⟩ := a
      obtain ⟨hid, hval⟩ := hao
      simp only at hid hval c0 c1
      obtain ⟨II, hII⟩ : ∃ X : Int, (id : Int) = X := ⟨_, rfl⟩
      obtain ⟨VI, hVI⟩ : ∃ X : Int, (val : Int) = X := ⟨_, rfl⟩
      rw [hII] at c0
      rw [hVI] at c1
      clear ha hcs hix0 hkm hkl hm63 hkg
      by_cases i2 : id = 2
      · have e2 : (II == 2) = true := by rw [beq_iff_eq]; omega
        by_cases v2 : 1 < val
        · have f2 : decide (1 < VI) = true := decide_eq_true (by omega)
          have HRE : Bx (R = (noS, 34)) := ⟨by rw [HR.out, HDR.out]; unfold apS; rw [if_neg (by unfold setE; rw [if_pos i2, if_pos v2]; decide)]; unfold setE; rw [if_pos i2, if_pos v2]⟩
          clear HR HDR
          go_wp2_with (with_reducible refine wpList_storeT g1 noS noS rfl rfl HZ.out ?_; intro w5 hs5 hg5; have HS5 := Bx.mk hs5; have HB5 := Bx.mk (HB.out.grown hg5 HB.out.size (fun k hk => by injection hk with hk; have := HG.out.2.2; omega)); clear hs5 hg5)
          rw [HRE.out]
          exact bodyPost_ret (ret_S Try.results39 _ _ g1 60 (arrS noS) _ _ rfl rfl HS5.out Try.underlying60 rfl set2_size) rfl ⟨rfl, HB5.out⟩
        · have f2 : decide (1 < VI) = false := decide_eq_false (by omega)
          have HRN : Bx (R = apS (setP S' id val) (l.drop (k + 1))) := ⟨by rw [HR.out, HDR.out]; conv => lhs; unfold apS; rw [if_pos (by unfold setE; rw [if_pos i2, if_neg v2])]⟩
          clear HR HDR
          have hge : decide (1 ≤ II) = true := decide_eq_true (by omega)
          have hle : decide (II ≤ 6) = true := decide_eq_true (by omega)
          have hxi := fun W => set2_index g0 id (by omega) W
          rw [hII] at hxi
          have hcl : wr.cell? ⟨g0, id, none⟩ = some (.int .u64 (S' id : Int)) := by rw [HS.out.cell id]; exact arrS_at S' id (by omega)
          have hfz := HS.out.free id
          have HSN := Bx.mk (HS.out.set id (.int .u64 (val : Int)) (by rw [arrS_size]; omega))
          rw [arrS_set S' id val (by omega) (by omega), hVI] at HSN
          have HZN := Bx.mk (HZ.out.fp (Sb.fpset (g := g0) id (.int .u64 VI) (fun k => k = g0) rfl) (fun h => HG.out.1 h.symm))
          have HBN := Bx.mk (HB.out.setCell (p := ⟨g0, id, none⟩) HG.out.2.1 (.int .u64 VI))
          clear HS HZ HB
          clear hid hval hII i2 v2
          go_wp2_with fail
          go_roundg g
          case measure => omega
          case rel => exact ⟨k + 1, setP S' id val, by have := HKG.out; omega, by rw [HWK.out], HRN, HSN, HZN, HBN⟩
      have e2 : (II == 2) = false := by rw [beq_eq_false_iff_ne]; omega
      by_cases i4 : id = 4
      · have e4 : (II == 4) = true := by rw [beq_iff_eq]; omega
        by_cases v4 : 2147483647 < val
        · have f4 : decide (2147483647 < VI) = true := decide_eq_true (by omega)
          have HRE : Bx (R = (noS, 31)) := ⟨by rw [HR.out, HDR.out]; unfold apS; rw [if_neg (by unfold setE; rw [if_neg i2, if_pos i4, if_pos v4]; decide)]; unfold setE; rw [if_neg i2, if_pos i4, if_pos v4]⟩
          clear HR HDR
          go_wp2_with (with_reducible refine wpList_storeT g1 noS noS rfl rfl HZ.out ?_; intro w5 hs5 hg5; have HS5 := Bx.mk hs5; have HB5 := Bx.mk (HB.out.grown hg5 HB.out.size (fun k hk => by injection hk with hk; have := HG.out.2.2; omega)); clear hs5 hg5)
          rw [HRE.out]
          exact bodyPost_ret (ret_S Try.results39 _ _ g1 60 (arrS noS) _ _ rfl rfl HS5.out Try.underlying60 rfl set2_size) rfl ⟨rfl, HB5.out⟩
        · have f4 : decide (2147483647 < VI) = false := decide_eq_false (by omega)
          have HRN : Bx (R = apS (setP S' id val) (l.drop (k + 1))) := ⟨by rw [HR.out, HDR.out]; conv => lhs; unfold apS; rw [if_pos (by unfold setE; rw [if_neg i2, if_pos i4, if_neg v4])]⟩
          clear HR HDR
          have hge : decide (1 ≤ II) = true := decide_eq_true (by omega)
          have hle : decide (II ≤ 6) = true := decide_eq_true (by omega)
          have hxi := fun W => set2_index g0 id (by omega) W
          rw [hII] at hxi
          have hcl : wr.cell? ⟨g0, id, none⟩ = some (.int .u64 (S' id : Int)) := by rw [HS.out.cell id]; exact arrS_at S' id (by omega)
          have hfz := HS.out.free id
          have HSN := Bx.mk (HS.out.set id (.int .u64 (val : Int)) (by rw [arrS_size]; omega))
          rw [arrS_set S' id val (by omega) (by omega), hVI] at HSN
          have HZN := Bx.mk (HZ.out.fp (Sb.fpset (g := g0) id (.int .u64 VI) (fun k => k = g0) rfl) (fun h => HG.out.1 h.symm))
          have HBN := Bx.mk (HB.out.setCell (p := ⟨g0, id, none⟩) HG.out.2.1 (.int .u64 VI))
          clear HS HZ HB
          clear hid hval hII i2 i4 v4
          go_wp2_with fail
          go_roundg g
          case measure => omega
          case rel => exact ⟨k + 1, setP S' id val, by have := HKG.out; omega, by rw [HWK.out], HRN, HSN, HZN, HBN⟩
      have e4 : (II == 4) = false := by rw [beq_eq_false_iff_ne]; omega
      by_cases i5 : id = 5
      · have e5 : (II == 5) = true := by rw [beq_iff_eq]; omega
        by_cases v5 : val < 16384
        · have f5 : decide (VI < 16384) = true := decide_eq_true (by omega)
          have HRE : Bx (R = (noS, 34)) := ⟨by rw [HR.out, HDR.out]; unfold apS; rw [if_neg (by unfold setE; rw [if_neg i2, if_neg i4, if_pos i5, if_pos (.inl v5)]; decide)]; unfold setE; rw [if_neg i2, if_neg i4, if_pos i5, if_pos (.inl v5)]⟩
          clear HR HDR
          go_wp2_with (with_reducible refine wpList_storeT g1 noS noS rfl rfl HZ.out ?_; intro w5 hs5 hg5; have HS5 := Bx.mk hs5; have HB5 := Bx.mk (HB.out.grown hg5 HB.out.size (fun k hk => by injection hk with hk; have := HG.out.2.2; omega)); clear hs5 hg5)
          rw [HRE.out]
          exact bodyPost_ret (ret_S Try.results39 _ _ g1 60 (arrS noS) _ _ rfl rfl HS5.out Try.underlying60 rfl set2_size) rfl ⟨rfl, HB5.out⟩
        have f5 : decide (VI < 16384) = false := decide_eq_false (by omega)
        by_cases v6 : 16777215 < val
        · have f6 : decide (16777215 < VI) = true := decide_eq_true (by omega)
          have HRE : Bx (R = (noS, 34)) := ⟨by rw [HR.out, HDR.out]; unfold apS; rw [if_neg (by unfold setE; rw [if_neg i2, if_neg i4, if_pos i5, if_pos (.inr v6)]; decide)]; unfold setE; rw [if_neg i2, if_neg i4, if_pos i5, if_pos (.inr v6)]⟩
          clear HR HDR
          go_wp2_with (with_reducible refine wpList_storeT g1 noS noS rfl rfl HZ.out ?_; intro w5 hs5 hg5; have HS5 := Bx.mk hs5; have HB5 := Bx.mk (HB.out.grown hg5 HB.out.size (fun k hk => by injection hk with hk; have := HG.out.2.2; omega)); clear hs5 hg5)
          rw [HRE.out]
          exact bodyPost_ret (ret_S Try.results39 _ _ g1 60 (arrS noS) _ _ rfl rfl HS5.out Try.underlying60 rfl set2_size) rfl ⟨rfl, HB5.out⟩
        · have f6 : decide (16777215 < VI) = false := decide_eq_false (by omega)
          have HRN : Bx (R = apS (setP S' id val) (l.drop (k + 1))) := ⟨by rw [HR.out, HDR.out]; conv => lhs; unfold apS; rw [if_pos (by unfold setE; rw [if_neg i2, if_neg i4, if_pos i5, if_neg (fun h => h.elim v5 v6)])]⟩
          clear HR HDR
          have hge : decide (1 ≤ II) = true := decide_eq_true (by omega)
          have hle : decide (II ≤ 6) = true := decide_eq_true (by omega)
          have hxi := fun W => set2_index g0 id (by omega) W
          rw [hII] at hxi
          have hcl : wr.cell? ⟨g0, id, none⟩ = some (.int .u64 (S' id : Int)) := by rw [HS.out.cell id]; exact arrS_at S' id (by omega)
          have hfz := HS.out.free id
          have HSN := Bx.mk (HS.out.set id (.int .u64 (val : Int)) (by rw [arrS_size]; omega))
          rw [arrS_set S' id val (by omega) (by omega), hVI] at HSN
          have HZN := Bx.mk (HZ.out.fp (Sb.fpset (g := g0) id (.int .u64 VI) (fun k => k = g0) rfl) (fun h => HG.out.1 h.symm))
          have HBN := Bx.mk (HB.out.setCell (p := ⟨g0, id, none⟩) HG.out.2.1 (.int .u64 VI))
          clear HS HZ HB
          clear hid hval hII i2 i4 i5 v5 v6
          go_wp2_with fail
          go_roundg g
          case measure => omega
          case rel => exact ⟨k + 1, setP S' id val, by have := HKG.out; omega, by rw [HWK.out], HRN, HSN, HZN, HBN⟩
      have e5 : (II == 5) = false := by rw [beq_eq_false_iff_ne]; omega
      by_cases i0 : 1 ≤ id ∧ id ≤ 6
      · obtain ⟨i1, i6⟩ := i0
        have HRN : Bx (R = apS (setP S' id val) (l.drop (k + 1))) := ⟨by rw [HR.out, HDR.out]; conv => lhs; unfold apS; rw [if_pos (by unfold setE; rw [if_neg i2, if_neg i4, if_neg i5])]⟩
        clear HR HDR
        have hge : decide (1 ≤ II) = true := decide_eq_true (by omega)
        have hle : decide (II ≤ 6) = true := decide_eq_true (by omega)
        have hxi := fun W => set2_index g0 id (by omega) W
        rw [hII] at hxi
        have hcl : wr.cell? ⟨g0, id, none⟩ = some (.int .u64 (S' id : Int)) := by rw [HS.out.cell id]; exact arrS_at S' id (by omega)
        have hfz := HS.out.free id
        have HSN := Bx.mk (HS.out.set id (.int .u64 (val : Int)) (by rw [arrS_size]; omega))
        rw [arrS_set S' id val (by omega) (by omega), hVI] at HSN
        have HZN := Bx.mk (HZ.out.fp (Sb.fpset (g := g0) id (.int .u64 VI) (fun k => k = g0) rfl) (fun h => HG.out.1 h.symm))
        have HBN := Bx.mk (HB.out.setCell (p := ⟨g0, id, none⟩) HG.out.2.1 (.int .u64 VI))
        clear HS HZ HB
        clear hid hval hII i2 i4 i5 i1 i6
        go_wp2_with fail
        go_roundg g
        case measure => omega
        case rel => exact ⟨k + 1, setP S' id val, by have := HKG.out; omega, by rw [HWK.out], HRN, HSN, HZN, HBN⟩
      · by_cases i1 : 1 ≤ id
        · have hge : decide (1 ≤ II) = true := decide_eq_true (by omega)
          have HRN : Bx (R = apS (setP S' id val) (l.drop (k + 1))) := ⟨by rw [HR.out, HDR.out]; conv => lhs; unfold apS; rw [if_pos (by unfold setE; rw [if_neg i2, if_neg i4, if_neg i5])]⟩
          clear HR HDR
          have hle : decide (II ≤ 6) = false := decide_eq_false (by omega)
          have HRN2 : Bx (R = apS S' (l.drop (k + 1))) := ⟨by rw [HRN.out, setP_no S' id val (by omega)]⟩
          clear HRN
          clear hid hval hII i2 i4 i5 i1 i0
          go_wp2_with fail
          go_roundg g
          case measure => omega
          case rel => exact ⟨k + 1, S', by have := HKG.out; omega, by rw [HWK.out], HRN2, HS, HZ, HB⟩
        · have hge : decide (1 ≤ II) = false := decide_eq_false (by omega)
          have HRN : Bx (R = apS (setP S' id val) (l.drop (k + 1))) := ⟨by rw [HR.out, HDR.out]; conv => lhs; unfold apS; rw [if_pos (by unfold setE; rw [if_neg i2, if_neg i4, if_neg i5])]⟩
          clear HR HDR
          have HRN2 : Bx (R = apS S' (l.drop (k + 1))) := ⟨by rw [HRN.out, setP_no S' id val (by omega)]⟩
          clear HRN
          clear hid hval hII i2 i4 i5 i1 i0
          go_wp2_with fail
          go_roundg g
          case measure => omega
          case rel => exact ⟨k + 1, S', by have := HKG.out; omega, by rw [HWK.out], HRN2, HS, HZ, HB⟩
end Go.Proofs.Ytenoaljghbpaaaa
