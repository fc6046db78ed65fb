/-
  Contract of the program's Apply.
-/
import Derived.Test.YtenoaljghbpaaaaStpB
namespace Go.Proofs.Ytenoaljghbpaaaa
open Go.RowKit
set_option linter.unusedVariables false
set_option linter.unusedSimpArgs false

abbrev zer6 : Array Value := #[.int .u64 0, .int .u64 0, .int .u64 0, .int .u64 0, .int .u64 0, .int .u64 0]
theorem arrH_no : arrH noS = zer6 := rfl
theorem harr_index (g i : Nat) (h : i < 6) (k : IntKind) (W : World) : (Instr.indexAt 128 (.pointer (some ⟨g, 0, none⟩)) (.int k (i : Int))).run Try.prog W = .ok (.pointer (some ⟨g, i, none⟩)) W := by
  simp [Instr.indexAt, asIntOf, run_underlying Try.underlying128, Sem.run_bind, h, Result.andThen, Instr.sureAddr]
  try simp [Addr.add]
  try (intro h; exact h.symm)
theorem arrH_set (S : Nat → Nat) (id v : Nat) (h1 : 1 ≤ id) (h2 : id ≤ 6) : (arrH S).set (id - 1) (.int .u64 (v : Int)) (by rw [arrH_size]; omega) = arrH (setP S id v) := by
  match id, h1, h2 with
  | 1, _, _ => rfl
  | 2, _, _ => rfl
  | 3, _, _ => rfl
  | 4, _, _ => rfl
  | 5, _, _ => rfl
  | 6, _, _ => rfl
theorem arrH_at (S : Nat → Nat) (i : Nat) (h : i < 6) : (arrH S)[i]? = some (.int .u64 (S (i + 1) : Int)) := by
  match i, h with
  | 0, _ => rfl
  | 1, _ => rfl
  | 2, _ => rfl
  | 3, _ => rfl
  | 4, _ => rfl
  | 5, _ => rfl
section
variable {ops : Array Oper} {Q : Exit → Act → World → Prop} {a : Act} {w : World} {rest : List Oper}
theorem wpList_storeH0 {x y : Operand} {tr : TypeId} {pos : String} {af : Array Edge} (g : Nat) (old : Array Value)
    (hx : a.eval x = .pointer (some ⟨g, 0, none⟩)) (hy : a.eval y = .agg zer6) (hs : Sb 57 w g old) (ho : old.size = 6)
    (h : ∀ w2, Sb 57 w2 g (arrH noS) → w.grownBy w2 (some g) → wpList Try.prog ops Q rest (a.put none undef) w2) :
    wpList Try.prog ops Q (⟨none, .store 57 x y, tr, pos, af, none⟩ :: rest) a w :=
  wpList_storeS 57 g old (arrH noS) hx hy hs hset_size ho (by simp [arrH, Value.oneCell']) h
end
set_option maxRecDepth 100000 in
set_option maxHeartbeats 8000000 in
theorem pApply_any (S : Nat → Nat) (v : Value) (l : List Stg) (w : World) (hv : Rows 2 sgvl w v l) (hok : ∀ a ∈ l, sgOk a) :
    Calls Try.prog 38 #[.agg (arrH S), v] w fun e w' => e = .returned (.tuple #[.agg (arrH (apS S l).1), .int .i64 ((apS S l).2 : Int)]) ∧ Below w.heap.size w w' := by
  have HV := Bx.mk hv
  have HOK := Bx.mk hok
  have hlen := fun tr W => sgs_len hv tr W
  have hmx := hv.max
  unfold maxLen at hmx
  obtain ⟨m, hm⟩ : ∃ n, l.length = n := ⟨_, rfl⟩
  rw [hm] at hlen hmx
  have HM := Bx.mk (And.intro hm hmx)
  have HVO := Bx.mk (fun W => valuesOf_any S W)
  obtain ⟨R, hR⟩ : ∃ R, apS S l = R := ⟨_, rfl⟩
  have HR0 : Bx (R = apS S (l.drop 0)) := ⟨by rw [List.drop_zero, hR]⟩
  have HB1 : Bx (Below w.heap.size w ((w.alloc (.cells (arrH S) 57)).alloc (.cells zer6 57))) := ⟨((Below.refl _ _).alloc (Nat.le_refl _) _).alloc (by simp) _⟩
  have HZ1 : Bx (Sb 57 ((w.alloc (.cells (arrH S) 57)).alloc (.cells zer6 57)) (w.heap.size + 1) zer6) := ⟨Sb.newg _ _ _ (by simp) _⟩
  rw [hR]
  clear hv hok hm hmx hR
  go_enter Try.func38, Try.ntmps38
  go_upto_region 3 with (first
    | (go_at_call 92; refine (HVO.out _).mono ?_; rintro e w2 ⟨rfl, b2⟩; have HB2 := Bx.mk (HB1.out.trans (b2.mono HB1.out.size)); have HZ2 := Bx.mk (HZ1.out.keep b2); have HN6 : Bx (Sb 128 (w2.alloc (.cells zer6 128)) w2.heap.size zer6) := ⟨Sb.new _ w2 _⟩; have HZ3 := Bx.mk (HZ2.out.alloc (.cells zer6 128)); have HB3 := Bx.mk (HB2.out.alloc HB2.out.size (.cells zer6 128)); clear b2)
    | (with_reducible refine wpList_storeV _ _ S rfl rfl HN6.out rfl ?_; intro w4 hs4 hg4; have HS4 := Bx.mk hs4; have HZ4 := Bx.mk (HZ3.out.grown hg4 (fun h => by injection h with h; have := HZ2.out.lt; omega)); have HB4 := Bx.mk (HB3.out.grown hg4 HB3.out.size (fun k hk => by injection hk with hk; have := HB2.out.size; omega)); clear hs4 hg4))
  obtain ⟨g1, hg1⟩ : ∃ g, w.heap.size + 1 = g := ⟨_, rfl⟩
  obtain ⟨g6, hg6⟩ : ∃ g, w2.heap.size = g := ⟨_, rfl⟩
  have HG : Bx (g1 ≠ g6 ∧ w.heap.size ≤ g1 ∧ w.heap.size ≤ g6) := ⟨by have := HZ2.out.lt; omega, by omega, by have := HB2.out.size; omega⟩
  rw [hg1] at HZ4 ⊢
  rw [hg6] at HS4 ⊢
  clear HZ1 HB1 HZ2 HB2 HZ3 HB3 HN6 hg1 hg6 HVO
  go_loopg [14] m (fun g s14 wx => ∃ (k : Nat) (S' : Nat → Nat), k + g = m ∧ s14 = .int .i64 k ∧ Bx (R = apS S' (l.drop k)) ∧ Bx (Sb 128 wx g6 (arrH S')) ∧ Bx (Sb 57 wx g1 zer6) ∧ Bx (Below w.heap.size w wx))
  case atStart => exact ⟨0, S, by omega, rfl, HR0, HS4, HZ4, HB4⟩
  case round =>
    clear HR0 HS4 HZ4 HB4
    obtain ⟨k, S', hkg, rfl, HR, HS, HZ, HB⟩ := hrel
    cases gk with
    | zero =>
      obtain rfl : k = m := by omega
      have hkd : decide ((k : Int) < (k : Int)) = false := by simp
      have hkd' : decide (k < k) = false := by simp
      have HRE : Bx (R = (S', 0)) := ⟨by rw [HR.out, List.drop_eq_nil_of_le (by have := HM.out.1; omega)]; rfl⟩
      have HSO := Bx.mk (fun W => settingsOf_any S' W)
      go_wp2_with (first
        | (with_reducible refine wpList_loadV g6 S' rfl HS.out ?_)
        | (go_at_call 94; refine (HSO.out _).mono ?_; rintro e w5 ⟨rfl, b5⟩; have HB5 := Bx.mk (HB.out.trans (b5.mono HB.out.size)); have HZ5 := Bx.mk (HZ.out.keep b5); clear b5)
        | (with_reducible refine wpList_storeH g1 _ S' rfl rfl HZ5.out rfl ?_; intro w6 hs6 hg6; have HS6 := Bx.mk hs6; have HB6 := Bx.mk (HB5.out.grown hg6 HB5.out.size (fun k hk => by injection hk with hk; have := HG.out.2.1; omega)); clear hs6 hg6))
      rw [HRE.out]
      exact bodyPost_ret (ret_S Try.results38 _ _ g1 57 (arrH S') _ _ rfl rfl HS6.out Try.underlying57 rfl hset_size) rfl ⟨rfl, HB6.out⟩
    | succ g =>
      have hkm : k < m := by omega
      have hkl : k < l.length := by have := HM.out.1; omega
      have hkd : decide ((k : Int) < (m : Int)) = true := decide_eq_true (by omega)
      have hkd' : decide (k < m) = true := decide_eq_true hkm
      have hm63 := HM.out.2
      have HWK : Bx (wrap64 ((k : Int) + 1) = ((k + 1 : Nat) : Int)) := ⟨by unfold wrap64; omega⟩
      have HKG := Bx.mk hkg
      obtain ⟨b, o, hix0, hcs⟩ := sgs_at HV.out k hkl
      have hix := hix0 .i64
      have hao := HOK.out l[k] (List.getElem_mem hkl)
      have HDR : Bx (l.drop k = l[k] :: l.drop (k + 1)) := ⟨List.drop_eq_getElem_cons hkl⟩
      obtain ⟨c0, c1⟩ := hcs wr (HV.out.keep HB.out)
      obtain ⟨a, ha⟩ : ∃ a, l[k] = a := ⟨_, rfl⟩
      rw [ha] at hao HDR c0 c1
      obtain ⟨id, val⟩ := a
      obtain ⟨hid, hval⟩ := hao
      simp only at hid hval c0 c1
      obtain ⟨E, hE⟩ : ∃ X : Nat, setE id val = X := ⟨_, rfl⟩
      have HF := fault_any id val
      rw [hE] at HF
      have HDE : Bx (apS S' (l.drop k) = if E = 0 then apS (setP S' id val) (l.drop (k + 1)) else (noS, E)) := ⟨by rw [HDR.out]; conv => lhs; unfold apS; simp only [hE]⟩
      obtain ⟨II, hII⟩ : ∃ X : Int, (id : Int) = X := ⟨_, rfl⟩
      obtain ⟨VI, hVI⟩ : ∃ X : Int, (val : Int) = X := ⟨_, rfl⟩
      obtain ⟨EI, hEI⟩ : ∃ X : Int, (E : Int) = X := ⟨_, rfl⟩
      rw [hII, hVI, hEI] at HF
      replace HF := Bx.mk HF
      rw [hII] at c0
      rw [hVI] at c1
      have HB0 := Bx.mk (HB.out.alloc HB.out.size (.cells #[.int .u64 II, .int .u64 VI] 63))
      have HS0 := Bx.mk (HS.out.alloc (.cells #[.int .u64 II, .int .u64 VI] 63))
      have HZ0 := Bx.mk (HZ.out.alloc (.cells #[.int .u64 II, .int .u64 VI] 63))
      have HA0 : Bx (Sb 63 (wr.alloc (.cells #[.int .u64 II, .int .u64 VI] 63)) wr.heap.size #[.int .u64 II, .int .u64 VI]) := ⟨Sb.new _ wr _⟩
      clear ha hcs hix0 hkm hkl hm63 hkg hE
      by_cases hE0 : E = 0
      · have HRN : Bx (R = apS (setP S' id val) (l.drop (k + 1))) := ⟨by rw [HR.out, HDE.out, if_pos hE0]⟩
        have hEf : (EI != 0) = false := by rw [bne_eq_false_iff_eq]; omega
        clear HR HDR HDE
        by_cases hr : 1 ≤ id ∧ id ≤ 6
        · have hge : decide (1 ≤ II) = true := decide_eq_true (by omega)
          have hle : decide (II ≤ 6) = true := decide_eq_true (by omega)
          obtain ⟨J, hJ⟩ : ∃ X : Int, ((id - 1 : Nat) : Int) = X := ⟨_, rfl⟩
          have hsb : IntKind.u64.wrap (II - 1) = J := by rw [IntKind.wrap_u64]; omega
          have HAT := Bx.mk (arrH_at S' (id - 1) (by omega))
          have hxi := fun W => harr_index g6 (id - 1) (by omega) .u64 W
          rw [hJ] at hxi
          clear hid hval hJ hEI
          go_wp2_with (go_at_call 93; refine (HF.out _).mono ?_; rintro e w5 ⟨rfl, b5⟩; have HB5 := Bx.mk (HB0.out.trans (b5.mono HB0.out.size)); have HS5 := Bx.mk (HS0.out.keep b5); have HZ5 := Bx.mk (HZ0.out.keep b5); have d0 := (HA0.out.keep b5).cell 0; have d1 := (HA0.out.keep b5).cell 1; simp only [List.getElem?_toArray, List.getElem?_cons_zero, List.getElem?_cons_succ] at d0 d1; have hcl := (HS5.out.cell (id - 1)).trans HAT.out; have hfz := HS5.out.free (id - 1); clear b5)
          have HSN := Bx.mk (HS5.out.set (id - 1) (.int .u64 (val : Int)) (by rw [arrH_size]; omega))
          rw [arrH_set S' id val (by omega) (by omega), hVI] at HSN
          have HZN := Bx.mk (HZ5.out.fp (Sb.fpset (g := g6) (id - 1) (.int .u64 VI) (fun k => k = g6) rfl) (fun h => HG.out.1 h))
          have HBN := Bx.mk (HB5.out.setCell (p := ⟨g6, id - 1, none⟩) HG.out.2.2 (.int .u64 VI))
          go_roundg g
          case measure => omega
          case rel => exact ⟨k + 1, setP S' id val, by have := HKG.out; omega, by rw [HWK.out], HRN, HSN, HZN, HBN⟩
        · have hP := setP_no S' id val hr
          rw [hP] at HRN
          obtain ⟨z1, hz1⟩ : ∃ z, decide (1 ≤ II) = z := ⟨_, rfl⟩
          obtain ⟨z6, hz6⟩ : ∃ z, decide (II ≤ 6) = z := ⟨_, rfl⟩
          have hzz : z1 = false ∨ (z1 = true ∧ z6 = false) := by
            by_cases h1 : 1 ≤ II
            · right
              rw [← hz1, ← hz6]
              exact ⟨decide_eq_true h1, decide_eq_false (by omega)⟩
            · left; rw [← hz1]; exact decide_eq_false h1
          clear hid hval hEI hr hII hVI
          rcases hzz with rfl | ⟨rfl, rfl⟩
          · go_wp2_with (go_at_call 93; refine (HF.out _).mono ?_; rintro e w5 ⟨rfl, b5⟩; have HB5 := Bx.mk (HB0.out.trans (b5.mono HB0.out.size)); have HS5 := Bx.mk (HS0.out.keep b5); have HZ5 := Bx.mk (HZ0.out.keep b5); have d0 := (HA0.out.keep b5).cell 0; have d1 := (HA0.out.keep b5).cell 1; simp only [List.getElem?_toArray, List.getElem?_cons_zero, List.getElem?_cons_succ] at d0 d1; clear b5)
            go_roundg g
            case measure => omega
            case rel => exact ⟨k + 1, S', by have := HKG.out; omega, by rw [HWK.out], HRN, HS5, HZ5, HB5⟩
          · go_wp2_with (go_at_call 93; refine (HF.out _).mono ?_; rintro e w5 ⟨rfl, b5⟩; have HB5 := Bx.mk (HB0.out.trans (b5.mono HB0.out.size)); have HS5 := Bx.mk (HS0.out.keep b5); have HZ5 := Bx.mk (HZ0.out.keep b5); have d0 := (HA0.out.keep b5).cell 0; have d1 := (HA0.out.keep b5).cell 1; simp only [List.getElem?_toArray, List.getElem?_cons_zero, List.getElem?_cons_succ] at d0 d1; clear b5)
            go_roundg g
            case measure => omega
            case rel => exact ⟨k + 1, S', by have := HKG.out; omega, by rw [HWK.out], HRN, HS5, HZ5, HB5⟩
      · have HRE : Bx (R = (noS, E)) := ⟨by rw [HR.out, HDE.out, if_neg hE0]⟩
        have hEf : (EI != 0) = true := by rw [bne_iff_ne]; omega
        have HEI := Bx.mk hEI
        clear HR HDR HDE hid hval hEI hE0 hII hVI
        go_wp2_with (first
          | (go_at_call 93; refine (HF.out _).mono ?_; rintro e w5 ⟨rfl, b5⟩; have HB5 := Bx.mk (HB0.out.trans (b5.mono HB0.out.size)); have HZ5 := Bx.mk (HZ0.out.keep b5); clear b5)
          | (with_reducible refine wpList_storeH0 g1 _ rfl rfl HZ5.out rfl ?_; intro w6 hs6 hg6; have HS6 := Bx.mk hs6; have HB6 := Bx.mk (HB5.out.grown hg6 HB5.out.size (fun k hk => by injection hk with hk; have := HG.out.2.1; omega)); clear hs6 hg6))
        rw [HRE.out]
        simp only
        rw [HEI.out]
        exact bodyPost_ret (ret_S Try.results38 _ _ g1 57 (arrH noS) _ _ rfl rfl HS6.out Try.underlying57 rfl hset_size) rfl ⟨rfl, HB6.out⟩
end Go.Proofs.Ytenoaljghbpaaaa
