/-
  Contracts of the program's settings: Default, fault, by their numbers and back.
-/
import Derived.Test.YtenoaljghbpaaaaStpA
namespace Go.Proofs.Ytenoaljghbpaaaa
open Go.RowKit
set_option linter.unusedVariables false
set_option linter.unusedSimpArgs false

/-- Settings by their numbers, as the program's values: from 1 on. -/
abbrev arrH (S : Nat → Nat) : Array Value := #[.int .u64 (S 1 : Int), .int .u64 (S 2 : Int), .int .u64 (S 3 : Int), .int .u64 (S 4 : Int), .int .u64 (S 5 : Int), .int .u64 (S 6 : Int)]
theorem arrH_size (S : Nat → Nat) : (arrH S).size = 6 := rfl
theorem hset_size : (Try.prog.info? 57).map (·.size) = some 6 := by kernel_rfl
theorem harr_size : (Try.prog.info? 128).map (·.size) = some 6 := by kernel_rfl
theorem pDefault_any (w : World) : Calls Try.prog 40 #[] w fun e w' => e = .returned (.agg (arrH defS)) ∧ Below w.heap.size w w' := by
  go_enter Try.func40, Try.ntmps40
  go_wp2_with fail
  exact bodyPost_ret (ret_S1 Try.results40 _ _ w.heap.size 57 (arrH defS) _ rfl (Sb.new _ w _) Try.underlying57 rfl hset_size) rfl ⟨rfl, (Below.refl _ _).alloc (Nat.le_refl _) _⟩
section
variable {ops : Array Oper} {Q : Exit → Act → World → Prop} {a : Act} {w : World} {rest : List Oper}
/-- A store of whole settings, of either kind. -/
theorem wpList_storeH {x y : Operand} {tr : TypeId} {pos : String} {af : Array Edge} (g : Nat) (old : Array Value) (S : Nat → Nat)
    (hx : a.eval x = .pointer (some ⟨g, 0, none⟩)) (hy : a.eval y = .agg (arrH S)) (hs : Sb 57 w g old) (ho : old.size = 6)
    (h : ∀ w2, Sb 57 w2 g (arrH S) → w.grownBy w2 (some g) → wpList Try.prog ops Q rest (a.put none undef) w2) :
    wpList Try.prog ops Q (⟨none, .store 57 x y, tr, pos, af, none⟩ :: rest) a w :=
  wpList_storeS 57 g old (arrH S) hx hy hs hset_size ho (by simp [arrH, Value.oneCell']) h
theorem wpList_storeV {x y : Operand} {tr : TypeId} {pos : String} {af : Array Edge} (g : Nat) (old : Array Value) (S : Nat → Nat)
    (hx : a.eval x = .pointer (some ⟨g, 0, none⟩)) (hy : a.eval y = .agg (arrH S)) (hs : Sb 128 w g old) (ho : old.size = 6)
    (h : ∀ w2, Sb 128 w2 g (arrH S) → w.grownBy w2 (some g) → wpList Try.prog ops Q rest (a.put none undef) w2) :
    wpList Try.prog ops Q (⟨none, .store 128 x y, tr, pos, af, none⟩ :: rest) a w :=
  wpList_storeS 128 g old (arrH S) hx hy hs harr_size ho (by simp [arrH, Value.oneCell']) h
theorem wpList_loadV {x : Operand} {d : Option Tmp} {tr : TypeId} {pos : String} {af : Array Edge} (g : Nat) (S : Nat → Nat)
    (hx : a.eval x = .pointer (some ⟨g, 0, none⟩)) (hs : Sb 128 w g (arrH S))
    (h : wpList Try.prog ops Q rest (a.put d (.agg (arrH S))) w) : wpList Try.prog ops Q (⟨d, .load 128 x, tr, pos, af, none⟩ :: rest) a w :=
  wpList_loadS 128 g (arrH S) _ hx hs Try.underlying128 rfl harr_size h
theorem wpList_loadH {x : Operand} {d : Option Tmp} {tr : TypeId} {pos : String} {af : Array Edge} (g : Nat) (S : Nat → Nat)
    (hx : a.eval x = .pointer (some ⟨g, 0, none⟩)) (hs : Sb 57 w g (arrH S))
    (h : wpList Try.prog ops Q rest (a.put d (.agg (arrH S))) w) : wpList Try.prog ops Q (⟨d, .load 57 x, tr, pos, af, none⟩ :: rest) a w :=
  wpList_loadS 57 g (arrH S) _ hx hs Try.underlying57 rfl hset_size h
end
set_option maxRecDepth 100000 in
set_option maxHeartbeats 2000000 in
theorem valuesOf_any (S : Nat → Nat) (w : World) : Calls Try.prog 92 #[.agg (arrH S)] w fun e w' => e = .returned (.agg (arrH S)) ∧ Below w.heap.size w w' := by
  have HZ : Bx (Sb 128 ((w.alloc (.cells (arrH S) 57)).alloc (.cells #[.int .u64 0, .int .u64 0, .int .u64 0, .int .u64 0, .int .u64 0, .int .u64 0] 128)) (w.heap.size + 1) #[.int .u64 0, .int .u64 0, .int .u64 0, .int .u64 0, .int .u64 0, .int .u64 0]) := ⟨Sb.newg _ _ _ (by simp) _⟩
  have HB : Bx (Below w.heap.size w ((w.alloc (.cells (arrH S) 57)).alloc (.cells #[.int .u64 0, .int .u64 0, .int .u64 0, .int .u64 0, .int .u64 0, .int .u64 0] 128))) := ⟨((Below.refl _ _).alloc (Nat.le_refl _) _).alloc (by simp) _⟩
  go_enter Try.func92, Try.ntmps92
  go_wp2_with (with_reducible refine wpList_storeV (w.heap.size + 1) _ S rfl rfl HZ.out rfl ?_; intro w5 hs5 hg5; have HS5 := Bx.mk hs5; have HB5 := Bx.mk (HB.out.grown hg5 HB.out.size (fun k hk => by injection hk with hk; omega)); clear hs5 hg5)
  exact bodyPost_ret (ret_S1 Try.results92 _ _ (w.heap.size + 1) 128 (arrH S) _ rfl HS5.out Try.underlying128 rfl harr_size) rfl ⟨rfl, HB5.out⟩
set_option maxRecDepth 100000 in
set_option maxHeartbeats 2000000 in
theorem settingsOf_any (S : Nat → Nat) (w : World) : Calls Try.prog 94 #[.agg (arrH S)] w fun e w' => e = .returned (.agg (arrH S)) ∧ Below w.heap.size w w' := by
  have HZ : Bx (Sb 57 ((w.alloc (.cells (arrH S) 128)).alloc (.cells #[.int .u64 0, .int .u64 0, .int .u64 0, .int .u64 0, .int .u64 0, .int .u64 0] 57)) (w.heap.size + 1) #[.int .u64 0, .int .u64 0, .int .u64 0, .int .u64 0, .int .u64 0, .int .u64 0]) := ⟨Sb.newg _ _ _ (by simp) _⟩
  have HB : Bx (Below w.heap.size w ((w.alloc (.cells (arrH S) 128)).alloc (.cells #[.int .u64 0, .int .u64 0, .int .u64 0, .int .u64 0, .int .u64 0, .int .u64 0] 57))) := ⟨((Below.refl _ _).alloc (Nat.le_refl _) _).alloc (by simp) _⟩
  go_enter Try.func94, Try.ntmps94
  go_wp2_with (with_reducible refine wpList_storeH (w.heap.size + 1) _ S rfl rfl HZ.out rfl ?_; intro w5 hs5 hg5; have HS5 := Bx.mk hs5; have HB5 := Bx.mk (HB.out.grown hg5 HB.out.size (fun k hk => by injection hk with hk; omega)); clear hs5 hg5)
  exact bodyPost_ret (ret_S1 Try.results94 _ _ (w.heap.size + 1) 57 (arrH S) _ rfl HS5.out Try.underlying57 rfl hset_size) rfl ⟨rfl, HB5.out⟩
set_option maxRecDepth 100000 in
set_option maxHeartbeats 4000000 in
theorem fault_any (id v : Nat) (w : World) : Calls Try.prog 93 #[.agg #[.int .u64 (id : Int), .int .u64 (v : Int)]] w fun e w' => e = .returned (.int .i64 (setE id v : Int)) ∧ Below w.heap.size w w' := by
  have hE : (setE id v : Int) = if (id : Int) = 2 ∧ 1 < (v : Int) then 34 else if (id : Int) = 5 ∧ ((v : Int) < 16384 ∨ 16777215 < (v : Int)) then 34 else if (id : Int) = 4 ∧ 2147483647 < (v : Int) then 31 else 0 := by
    unfold setE
    split
    · split
      · rw [if_pos (by omega)]; rfl
      · rw [if_neg (by omega), if_neg (by omega), if_neg (by omega)]; rfl
    · split
      · split
        · rw [if_neg (by omega), if_neg (by omega), if_pos (by omega)]; rfl
        · rw [if_neg (by omega), if_neg (by omega), if_neg (by omega)]; rfl
      · split
        · split
          · rw [if_neg (by omega), if_pos (by omega)]; rfl
          · rw [if_neg (by omega), if_neg (by omega), if_neg (by omega)]; rfl
        · rw [if_neg (by omega), if_neg (by omega), if_neg (by omega)]; rfl
  rw [hE]
  obtain ⟨I, hI⟩ : ∃ I : Int, (id : Int) = I := ⟨_, rfl⟩
  obtain ⟨V, hV⟩ : ∃ V : Int, (v : Int) = V := ⟨_, rfl⟩
  rw [hI, hV]
  clear hE hI hV
  have hB := Bx.mk ((Below.refl w.heap.size w).alloc (Nat.le_refl _) (.cells #[.int .u64 I, .int .u64 V] 63))
  obtain ⟨z2, hz2⟩ : ∃ z, (I == 2) = z := ⟨_, rfl⟩
  obtain ⟨z4, hz4⟩ : ∃ z, (I == 4) = z := ⟨_, rfl⟩
  obtain ⟨z5, hz5⟩ : ∃ z, (I == 5) = z := ⟨_, rfl⟩
  obtain ⟨y1, hy1⟩ : ∃ z, decide (1 < V) = z := ⟨_, rfl⟩
  obtain ⟨y2, hy2⟩ : ∃ z, decide (V < 16384) = z := ⟨_, rfl⟩
  obtain ⟨y3, hy3⟩ : ∃ z, decide (16777215 < V) = z := ⟨_, rfl⟩
  obtain ⟨y4, hy4⟩ : ∃ z, decide (2147483647 < V) = z := ⟨_, rfl⟩
  have hR : (if I = 2 ∧ 1 < V then (34 : Int) else if I = 5 ∧ (V < 16384 ∨ 16777215 < V) then 34 else if I = 4 ∧ 2147483647 < V then 31 else 0) = if z2 && y1 then 34 else if z5 && (y2 || y3) then 34 else if z4 && y4 then 31 else 0 := by
    subst hz2 hz4 hz5 hy1 hy2 hy3 hy4
    simp
  rw [hR]
  clear hR
  have h25 : z2 = true → z5 = false := fun h => by rw [h, beq_iff_eq] at hz2; rw [← hz5, beq_eq_false_iff_ne]; omega
  have h24 : z2 = true → z4 = false := fun h => by rw [h, beq_iff_eq] at hz2; rw [← hz4, beq_eq_false_iff_ne]; omega
  have h54 : z5 = true → z4 = false := fun h => by rw [h, beq_iff_eq] at hz5; rw [← hz4, beq_eq_false_iff_ne]; omega
  cases z2
  case true =>
    obtain rfl := h25 rfl
    obtain rfl := h24 rfl
    clear h25 h24 h54
    cases y1 <;> (go_enter Try.func93, Try.ntmps93; go_wp2_with fail; go_ret; exact ⟨rfl, hB.out⟩)
  case false =>
    clear h25 h24
    cases z5
    case true =>
      obtain rfl := h54 rfl
      clear h54
      cases y2
      case true => (go_enter Try.func93, Try.ntmps93; go_wp2_with fail; go_ret; exact ⟨rfl, hB.out⟩)
      case false => cases y3 <;> (go_enter Try.func93, Try.ntmps93; go_wp2_with fail; go_ret; exact ⟨rfl, hB.out⟩)
    case false =>
      clear h54
      cases z4
      case true => cases y4 <;> (go_enter Try.func93, Try.ntmps93; go_wp2_with fail; go_ret; exact ⟨rfl, hB.out⟩)
      case false => (go_enter Try.func93, Try.ntmps93; go_wp2_with fail; go_ret; exact ⟨rfl, hB.out⟩)
end Go.Proofs.Ytenoaljghbpaaaa
