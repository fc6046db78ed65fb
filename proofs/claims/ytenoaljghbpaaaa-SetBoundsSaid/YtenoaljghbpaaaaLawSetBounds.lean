/-
  bifoldlaw13.SetBounds answers true, whatever its arguments: the walk.
-/
import Derived.Test.YtenoaljghbpaaaaStpM
import Derived.Test.YtenoaljghbpaaaaSbS
import Derived.Test.YtenoaljghbpaaaaSetEq
namespace Go.Proofs.Ytenoaljghbpaaaa
open Go.RowKit
set_option linter.unusedVariables false
set_option linter.unusedSimpArgs false

def u64v (n : Nat) : List Value := [.int .u64 (n : Int)]
theorem u64v_len : ∀ a, (u64v a).length = 1 := fun _ => rfl
theorem u64s_size : ∀ W : World, (sizeOf 45).run Try.prog W = .ok 1 W := fun W => by kernel_rfl
def bdT : List Nat := [0, 1, 2, 16384, 16777215, 2147483647, 4294967295]
abbrev bdA : Array Value := #[.int .u64 0, .int .u64 1, .int .u64 2, .int .u64 16384, .int .u64 16777215, .int .u64 2147483647, .int .u64 4294967295]
theorem bd_rows (W : World) : Rows 1 u64v (W.alloc (.cells bdA 45)) (.slice (some ⟨W.heap.size, 0, none⟩) 7 7) bdT := Rows.lit W 45 bdT bdA 7 rfl rfl rfl (by unfold maxLen; omega)
theorem arrS_setL (S : Nat → Nat) (id v : Nat) (h1 : 1 ≤ id) (h2 : id ≤ 6) : ([Value.int .u64 (S 0 : Int), .int .u64 (S 1 : Int), .int .u64 (S 2 : Int), .int .u64 (S 3 : Int), .int .u64 (S 4 : Int), .int .u64 (S 5 : Int), .int .u64 (S 6 : Int)].set id (.int .u64 (v : Int))).toArray = arrS (setP S id v) := by
  match id, h1, h2 with
  | 1, _, _ => rfl
  | 2, _, _ => rfl
  | 3, _, _ => rfl
  | 4, _, _ => rfl
  | 5, _, _ => rfl
  | 6, _, _ => rfl
/-- The arguments' numbers, as they are reckoned. -/
structure BdN (id k less : Int) (i v : Nat) : Prop where
  hi : id.tmod 9 = (i : Int)
  i8 : i ≤ 8
  hv : v < 18446744073709551616
  ex : ∃ (j x : Nat) (D DU : Int) (hj : j < bdT.length), k.tmod 7 = (j : Int) ∧ bdT[j] = x ∧ less.tmod 2 = D ∧ -1 ≤ D ∧ D ≤ 1 ∧ IntKind.u64.wrap D = DU ∧ IntKind.u64.wrap ((x : Int) + DU) = (v : Int)
set_option maxRecDepth 100000 in
set_option maxHeartbeats 4000000 in
theorem setBounds_1 (id k less : Int) (i v : Nat) (h : BdN id k less i v) (c1 : i = 2) (c2 : 1 < v) (w : World) :
    Calls Try.prog 10 #[.int .u8 id, .int .u8 k, .int .i8 less] w fun e w' => e = .returned (.bool true) ∧ Below w.heap.size w w' := by
  obtain ⟨hi, hi8, hv, j, x, D, DU, hj, hkj, hjx, hD, hD1, hD2, hDU, hxv⟩ := h
  have HK := Bx.mk (fun W => known13_any W)
  have HD := Bx.mk (fun W => pDefault_any W)
  have HRD := Bx.mk (fun W => refDefault_any W)
  have HBD := Bx.mk (fun W => bd_rows W)
  have HI9 : i < 9 := by omega
  have hcs : ∀ W : World, ∃ b o : Nat, (∀ U : World, (Instr.indexAt 71 (.slice (some ⟨W.heap.size, 0, none⟩) 7 7) (.int .u8 (j : Int))).run Try.prog U = .ok (.pointer (some ⟨b, o, none⟩)) U) ∧ (W.alloc (.cells bdA 45)).cell? ⟨b, o, none⟩ = some (.int .u64 (x : Int)) := fun W => by
    obtain ⟨b, o, h1, h2⟩ := Rows.at_ Try.underlying71 u64s_size (by decide) u64v_len (bd_rows W) j hj
    refine ⟨b, o, fun U => h1 .u8 U, ?_⟩
    have := h2 _ (bd_rows W) 0 (.int .u64 (x : Int)) (by rw [hjx]; rfl)
    simpa using this
  have HCS := Bx.mk hcs
  have hw1 : IntKind.i8.wrap D = D := by
    rcases (by omega : D = -1 ∨ D = 0 ∨ D = 1) with h | h | h <;> rw [h] <;> rfl
  have hw2 : wrap64 D = D := by unfold wrap64; omega
  have hw22 : IntKind.i64.wrap D = D := by rw [IntKind.wrap_i64]; omega
  have hj7 : j < 7 := hj
  obtain ⟨JI, hJI⟩ : ∃ X : Int, (j : Int) = X := ⟨_, rfl⟩
  obtain ⟨XI, hXI⟩ : ∃ X : Int, (x : Int) = X := ⟨_, rfl⟩
  obtain ⟨II, hII⟩ : ∃ X : Int, (i : Int) = X := ⟨_, rfl⟩
  obtain ⟨VI, hVI⟩ : ∃ X : Int, (v : Int) = X := ⟨_, rfl⟩
  have hwj : IntKind.u8.wrap JI = JI := by rw [IntKind.wrap_u8]; omega
  have hwi : IntKind.u8.wrap II = II := by rw [IntKind.wrap_u8]; omega
  have hwi2 : IntKind.u64.wrap II = II := by rw [IntKind.wrap_u64]; omega
  have HR1 : Bx (∀ W : World, Rows 2 sgvl (W.alloc (.cells #[.int .u64 II, .int .u64 VI] 63)) (.slice (some ⟨W.heap.size, 0, none⟩) 1 1) [(⟨i, v⟩ : Stg)]) := ⟨fun W => Rows.lit W 63 [(⟨i, v⟩ : Stg)] _ 1 rfl (by rw [← hII, ← hVI]; rfl) rfl (by unfold maxLen; omega)⟩
  have HAP := fun (u : Value) (W : World) (h : Rows 2 sgvl W u [(⟨i, v⟩ : Stg)]) => pApply_any defS u [⟨i, v⟩] W h (fun a ha => by rw [List.mem_singleton.1 ha]; exact ⟨by show i < _; omega, hv⟩)
  rw [apS_cons] at HAP
  simp only at HAP
  rw [hII] at hi
  rw [hXI, hVI] at hxv
  rw [hJI] at hkj
  rw [hXI, hJI] at HCS
  have hE : setE i v = 34 := by unfold setE; rw [if_pos c1, if_pos c2]
  rw [hE, if_neg (by decide)] at HAP
  rw [arrH_no] at HAP
  replace HAP := Bx.mk HAP
  have f0 : (II == 2) = true := by rw [beq_iff_eq]; omega
  have f1 : decide (1 < VI) = true := decide_eq_true (by omega)
  clear hE c1 c2 hi8 hv hj hjx hD1 hD2 hJI hXI hII hVI hj7 hcs HI9
  go_enter Try.func10, Try.ntmps10
  go_wp2_with (first
    | (go_at_call 34; refine (HK.out _).mono ?_; rintro e w1 ⟨rfl, b1⟩; have HB1 := Bx.mk b1; obtain ⟨b, o, hix, hcx⟩ := HCS.out w1; have HB2 := Bx.mk (HB1.out.alloc HB1.out.size (.cells bdA 45)); clear b1)
    | (go_at_call 40; refine (HD.out _).mono ?_; rintro e w3 ⟨rfl, b3⟩; have HB3 := Bx.mk (HB2.out.trans (b3.mono HB2.out.size)); have HL := Bx.mk (HR1.out w3); have HB4 := Bx.mk (HB3.out.alloc HB3.out.size (.cells #[.int .u64 II, .int .u64 VI] 63)); clear b3)
    | (go_at_call 38; refine (HAP.out _ _ HL.out).mono ?_; rintro e w5 ⟨rfl, b5⟩; have HB5 := Bx.mk (HB4.out.trans (b5.mono HB4.out.size)); clear b5))
  go_ret
  exact ⟨rfl, HB5.out.alloc HB5.out.size _⟩
set_option maxRecDepth 100000 in
set_option maxHeartbeats 4000000 in
theorem setBounds_2 (id k less : Int) (i v : Nat) (h : BdN id k less i v) (c1 : i = 5) (c2 : v < 16384) (w : World) :
    Calls Try.prog 10 #[.int .u8 id, .int .u8 k, .int .i8 less] w fun e w' => e = .returned (.bool true) ∧ Below w.heap.size w w' := by
  obtain ⟨hi, hi8, hv, j, x, D, DU, hj, hkj, hjx, hD, hD1, hD2, hDU, hxv⟩ := h
  have HK := Bx.mk (fun W => known13_any W)
  have HD := Bx.mk (fun W => pDefault_any W)
  have HRD := Bx.mk (fun W => refDefault_any W)
  have HBD := Bx.mk (fun W => bd_rows W)
  have HI9 : i < 9 := by omega
  have hcs : ∀ W : World, ∃ b o : Nat, (∀ U : World, (Instr.indexAt 71 (.slice (some ⟨W.heap.size, 0, none⟩) 7 7) (.int .u8 (j : Int))).run Try.prog U = .ok (.pointer (some ⟨b, o, none⟩)) U) ∧ (W.alloc (.cells bdA 45)).cell? ⟨b, o, none⟩ = some (.int .u64 (x : Int)) := fun W => by
    obtain ⟨b, o, h1, h2⟩ := Rows.at_ Try.underlying71 u64s_size (by decide) u64v_len (bd_rows W) j hj
    refine ⟨b, o, fun U => h1 .u8 U, ?_⟩
    have := h2 _ (bd_rows W) 0 (.int .u64 (x : Int)) (by rw [hjx]; rfl)
    simpa using this
  have HCS := Bx.mk hcs
  have hw1 : IntKind.i8.wrap D = D := by
    rcases (by omega : D = -1 ∨ D = 0 ∨ D = 1) with h | h | h <;> rw [h] <;> rfl
  have hw2 : wrap64 D = D := by unfold wrap64; omega
  have hw22 : IntKind.i64.wrap D = D := by rw [IntKind.wrap_i64]; omega
  have hj7 : j < 7 := hj
  obtain ⟨JI, hJI⟩ : ∃ X : Int, (j : Int) = X := ⟨_, rfl⟩
  obtain ⟨XI, hXI⟩ : ∃ X : Int, (x : Int) = X := ⟨_, rfl⟩
  obtain ⟨II, hII⟩ : ∃ X : Int, (i : Int) = X := ⟨_, rfl⟩
  obtain ⟨VI, hVI⟩ : ∃ X : Int, (v : Int) = X := ⟨_, rfl⟩
  have hwj : IntKind.u8.wrap JI = JI := by rw [IntKind.wrap_u8]; omega
  have hwi : IntKind.u8.wrap II = II := by rw [IntKind.wrap_u8]; omega
  have hwi2 : IntKind.u64.wrap II = II := by rw [IntKind.wrap_u64]; omega
  have HR1 : Bx (∀ W : World, Rows 2 sgvl (W.alloc (.cells #[.int .u64 II, .int .u64 VI] 63)) (.slice (some ⟨W.heap.size, 0, none⟩) 1 1) [(⟨i, v⟩ : Stg)]) := ⟨fun W => Rows.lit W 63 [(⟨i, v⟩ : Stg)] _ 1 rfl (by rw [← hII, ← hVI]; rfl) rfl (by unfold maxLen; omega)⟩
  have HAP := fun (u : Value) (W : World) (h : Rows 2 sgvl W u [(⟨i, v⟩ : Stg)]) => pApply_any defS u [⟨i, v⟩] W h (fun a ha => by rw [List.mem_singleton.1 ha]; exact ⟨by show i < _; omega, hv⟩)
  rw [apS_cons] at HAP
  simp only at HAP
  rw [hII] at hi
  rw [hXI, hVI] at hxv
  rw [hJI] at hkj
  rw [hXI, hJI] at HCS
  have hE : setE i v = 34 := by unfold setE; rw [if_neg (by omega), if_neg (by omega), if_pos c1, if_pos (by omega)]
  rw [hE, if_neg (by decide)] at HAP
  rw [arrH_no] at HAP
  replace HAP := Bx.mk HAP
  have f0 : (II == 2) = false := by rw [beq_eq_false_iff_ne]; omega
  have f1 : (II == 5) = true := by rw [beq_iff_eq]; omega
  have f2 : decide (VI < 16384) = true := decide_eq_true (by omega)
  clear hE c1 c2 hi8 hv hj hjx hD1 hD2 hJI hXI hII hVI hj7 hcs HI9
  go_enter Try.func10, Try.ntmps10
  go_wp2_with (first
    | (go_at_call 34; refine (HK.out _).mono ?_; rintro e w1 ⟨rfl, b1⟩; have HB1 := Bx.mk b1; obtain ⟨b, o, hix, hcx⟩ := HCS.out w1; have HB2 := Bx.mk (HB1.out.alloc HB1.out.size (.cells bdA 45)); clear b1)
    | (go_at_call 40; refine (HD.out _).mono ?_; rintro e w3 ⟨rfl, b3⟩; have HB3 := Bx.mk (HB2.out.trans (b3.mono HB2.out.size)); have HL := Bx.mk (HR1.out w3); have HB4 := Bx.mk (HB3.out.alloc HB3.out.size (.cells #[.int .u64 II, .int .u64 VI] 63)); clear b3)
    | (go_at_call 38; refine (HAP.out _ _ HL.out).mono ?_; rintro e w5 ⟨rfl, b5⟩; have HB5 := Bx.mk (HB4.out.trans (b5.mono HB4.out.size)); clear b5))
  go_ret
  exact ⟨rfl, HB5.out.alloc HB5.out.size _⟩
set_option maxRecDepth 100000 in
set_option maxHeartbeats 4000000 in
theorem setBounds_3 (id k less : Int) (i v : Nat) (h : BdN id k less i v) (c1 : i = 5) (c2 : 16777215 < v) (w : World) :
    Calls Try.prog 10 #[.int .u8 id, .int .u8 k, .int .i8 less] w fun e w' => e = .returned (.bool true) ∧ Below w.heap.size w w' := by
  obtain ⟨hi, hi8, hv, j, x, D, DU, hj, hkj, hjx, hD, hD1, hD2, hDU, hxv⟩ := h
  have HK := Bx.mk (fun W => known13_any W)
  have HD := Bx.mk (fun W => pDefault_any W)
  have HRD := Bx.mk (fun W => refDefault_any W)
  have HBD := Bx.mk (fun W => bd_rows W)
  have HI9 : i < 9 := by omega
  have hcs : ∀ W : World, ∃ b o : Nat, (∀ U : World, (Instr.indexAt 71 (.slice (some ⟨W.heap.size, 0, none⟩) 7 7) (.int .u8 (j : Int))).run Try.prog U = .ok (.pointer (some ⟨b, o, none⟩)) U) ∧ (W.alloc (.cells bdA 45)).cell? ⟨b, o, none⟩ = some (.int .u64 (x : Int)) := fun W => by
    obtain ⟨b, o, h1, h2⟩ := Rows.at_ Try.underlying71 u64s_size (by decide) u64v_len (bd_rows W) j hj
    refine ⟨b, o, fun U => h1 .u8 U, ?_⟩
    have := h2 _ (bd_rows W) 0 (.int .u64 (x : Int)) (by rw [hjx]; rfl)
    simpa using this
  have HCS := Bx.mk hcs
  have hw1 : IntKind.i8.wrap D = D := by
    rcases (by omega : D = -1 ∨ D = 0 ∨ D = 1) with h | h | h <;> rw [h] <;> rfl
  have hw2 : wrap64 D = D := by unfold wrap64; omega
  have hw22 : IntKind.i64.wrap D = D := by rw [IntKind.wrap_i64]; omega
  have hj7 : j < 7 := hj
  obtain ⟨JI, hJI⟩ : ∃ X : Int, (j : Int) = X := ⟨_, rfl⟩
  obtain ⟨XI, hXI⟩ : ∃ X : Int, (x : Int) = X := ⟨_, rfl⟩
  obtain ⟨II, hII⟩ : ∃ X : Int, (i : Int) = X := ⟨_, rfl⟩
  obtain ⟨VI, hVI⟩ : ∃ X : Int, (v : Int) = X := ⟨_, rfl⟩
  have hwj : IntKind.u8.wrap JI = JI := by rw [IntKind.wrap_u8]; omega
  have hwi : IntKind.u8.wrap II = II := by rw [IntKind.wrap_u8]; omega
  have hwi2 : IntKind.u64.wrap II = II := by rw [IntKind.wrap_u64]; omega
  have HR1 : Bx (∀ W : World, Rows 2 sgvl (W.alloc (.cells #[.int .u64 II, .int .u64 VI] 63)) (.slice (some ⟨W.heap.size, 0, none⟩) 1 1) [(⟨i, v⟩ : Stg)]) := ⟨fun W => Rows.lit W 63 [(⟨i, v⟩ : Stg)] _ 1 rfl (by rw [← hII, ← hVI]; rfl) rfl (by unfold maxLen; omega)⟩
  have HAP := fun (u : Value) (W : World) (h : Rows 2 sgvl W u [(⟨i, v⟩ : Stg)]) => pApply_any defS u [⟨i, v⟩] W h (fun a ha => by rw [List.mem_singleton.1 ha]; exact ⟨by show i < _; omega, hv⟩)
  rw [apS_cons] at HAP
  simp only at HAP
  rw [hII] at hi
  rw [hXI, hVI] at hxv
  rw [hJI] at hkj
  rw [hXI, hJI] at HCS
  have hE : setE i v = 34 := by unfold setE; rw [if_neg (by omega), if_neg (by omega), if_pos c1, if_pos (by omega)]
  rw [hE, if_neg (by decide)] at HAP
  rw [arrH_no] at HAP
  replace HAP := Bx.mk HAP
  have f0 : (II == 2) = false := by rw [beq_eq_false_iff_ne]; omega
  have f1 : (II == 5) = true := by rw [beq_iff_eq]; omega
  have f2 : decide (VI < 16384) = false := decide_eq_false (by omega)
  have f3 : decide (16777215 < VI) = true := decide_eq_true (by omega)
  clear hE c1 c2 hi8 hv hj hjx hD1 hD2 hJI hXI hII hVI hj7 hcs HI9
  go_enter Try.func10, Try.ntmps10
  go_wp2_with (first
    | (go_at_call 34; refine (HK.out _).mono ?_; rintro e w1 ⟨rfl, b1⟩; have HB1 := Bx.mk b1; obtain ⟨b, o, hix, hcx⟩ := HCS.out w1; have HB2 := Bx.mk (HB1.out.alloc HB1.out.size (.cells bdA 45)); clear b1)
    | (go_at_call 40; refine (HD.out _).mono ?_; rintro e w3 ⟨rfl, b3⟩; have HB3 := Bx.mk (HB2.out.trans (b3.mono HB2.out.size)); have HL := Bx.mk (HR1.out w3); have HB4 := Bx.mk (HB3.out.alloc HB3.out.size (.cells #[.int .u64 II, .int .u64 VI] 63)); clear b3)
    | (go_at_call 38; refine (HAP.out _ _ HL.out).mono ?_; rintro e w5 ⟨rfl, b5⟩; have HB5 := Bx.mk (HB4.out.trans (b5.mono HB4.out.size)); clear b5))
  go_ret
  exact ⟨rfl, HB5.out.alloc HB5.out.size _⟩
set_option maxRecDepth 100000 in
set_option maxHeartbeats 4000000 in
theorem setBounds_4 (id k less : Int) (i v : Nat) (h : BdN id k less i v) (c1 : i = 4) (c2 : 2147483647 < v) (w : World) :
    Calls Try.prog 10 #[.int .u8 id, .int .u8 k, .int .i8 less] w fun e w' => e = .returned (.bool true) ∧ Below w.heap.size w w' := by
  obtain ⟨hi, hi8, hv, j, x, D, DU, hj, hkj, hjx, hD, hD1, hD2, hDU, hxv⟩ := h
  have HK := Bx.mk (fun W => known13_any W)
  have HD := Bx.mk (fun W => pDefault_any W)
  have HRD := Bx.mk (fun W => refDefault_any W)
  have HBD := Bx.mk (fun W => bd_rows W)
  have HI9 : i < 9 := by omega
  have hcs : ∀ W : World, ∃ b o : Nat, (∀ U : World, (Instr.indexAt 71 (.slice (some ⟨W.heap.size, 0, none⟩) 7 7) (.int .u8 (j : Int))).run Try.prog U = .ok (.pointer (some ⟨b, o, none⟩)) U) ∧ (W.alloc (.cells bdA 45)).cell? ⟨b, o, none⟩ = some (.int .u64 (x : Int)) := fun W => by
    obtain ⟨b, o, h1, h2⟩ := Rows.at_ Try.underlying71 u64s_size (by decide) u64v_len (bd_rows W) j hj
    refine ⟨b, o, fun U => h1 .u8 U, ?_⟩
    have := h2 _ (bd_rows W) 0 (.int .u64 (x : Int)) (by rw [hjx]; rfl)
    simpa using this
  have HCS := Bx.mk hcs
  have hw1 : IntKind.i8.wrap D = D := by
    rcases (by omega : D = -1 ∨ D = 0 ∨ D = 1) with h | h | h <;> rw [h] <;> rfl
  have hw2 : wrap64 D = D := by unfold wrap64; omega
  have hw22 : IntKind.i64.wrap D = D := by rw [IntKind.wrap_i64]; omega
  have hj7 : j < 7 := hj
  obtain ⟨JI, hJI⟩ : ∃ X : Int, (j : Int) = X := ⟨_, rfl⟩
  obtain ⟨XI, hXI⟩ : ∃ X : Int, (x : Int) = X := ⟨_, rfl⟩
  obtain ⟨II, hII⟩ : ∃ X : Int, (i : Int) = X := ⟨_, rfl⟩
  obtain ⟨VI, hVI⟩ : ∃ X : Int, (v : Int) = X := ⟨_, rfl⟩
  have hwj : IntKind.u8.wrap JI = JI := by rw [IntKind.wrap_u8]; omega
  have hwi : IntKind.u8.wrap II = II := by rw [IntKind.wrap_u8]; omega
  have hwi2 : IntKind.u64.wrap II = II := by rw [IntKind.wrap_u64]; omega
  have HR1 : Bx (∀ W : World, Rows 2 sgvl (W.alloc (.cells #[.int .u64 II, .int .u64 VI] 63)) (.slice (some ⟨W.heap.size, 0, none⟩) 1 1) [(⟨i, v⟩ : Stg)]) := ⟨fun W => Rows.lit W 63 [(⟨i, v⟩ : Stg)] _ 1 rfl (by rw [← hII, ← hVI]; rfl) rfl (by unfold maxLen; omega)⟩
  have HAP := fun (u : Value) (W : World) (h : Rows 2 sgvl W u [(⟨i, v⟩ : Stg)]) => pApply_any defS u [⟨i, v⟩] W h (fun a ha => by rw [List.mem_singleton.1 ha]; exact ⟨by show i < _; omega, hv⟩)
  rw [apS_cons] at HAP
  simp only at HAP
  rw [hII] at hi
  rw [hXI, hVI] at hxv
  rw [hJI] at hkj
  rw [hXI, hJI] at HCS
  have hE : setE i v = 31 := by unfold setE; rw [if_neg (by omega), if_pos c1, if_pos c2]
  rw [hE, if_neg (by decide)] at HAP
  rw [arrH_no] at HAP
  replace HAP := Bx.mk HAP
  have f0 : (II == 2) = false := by rw [beq_eq_false_iff_ne]; omega
  have f1 : (II == 5) = false := by rw [beq_eq_false_iff_ne]; omega
  have f2 : (II == 4) = true := by rw [beq_iff_eq]; omega
  have f3 : decide (2147483647 < VI) = true := decide_eq_true (by omega)
  clear hE c1 c2 hi8 hv hj hjx hD1 hD2 hJI hXI hII hVI hj7 hcs HI9
  go_enter Try.func10, Try.ntmps10
  go_wp2_with (first
    | (go_at_call 34; refine (HK.out _).mono ?_; rintro e w1 ⟨rfl, b1⟩; have HB1 := Bx.mk b1; obtain ⟨b, o, hix, hcx⟩ := HCS.out w1; have HB2 := Bx.mk (HB1.out.alloc HB1.out.size (.cells bdA 45)); clear b1)
    | (go_at_call 40; refine (HD.out _).mono ?_; rintro e w3 ⟨rfl, b3⟩; have HB3 := Bx.mk (HB2.out.trans (b3.mono HB2.out.size)); have HL := Bx.mk (HR1.out w3); have HB4 := Bx.mk (HB3.out.alloc HB3.out.size (.cells #[.int .u64 II, .int .u64 VI] 63)); clear b3)
    | (go_at_call 38; refine (HAP.out _ _ HL.out).mono ?_; rintro e w5 ⟨rfl, b5⟩; have HB5 := Bx.mk (HB4.out.trans (b5.mono HB4.out.size)); clear b5))
  go_ret
  exact ⟨rfl, HB5.out.alloc HB5.out.size _⟩
set_option maxRecDepth 100000 in
set_option maxHeartbeats 4000000 in
theorem setBounds_5 (id k less : Int) (i v : Nat) (h : BdN id k less i v) (c1 : i = 2) (c2 : ¬ 1 < v) (w : World) :
    Calls Try.prog 10 #[.int .u8 id, .int .u8 k, .int .i8 less] w fun e w' => e = .returned (.bool true) ∧ Below w.heap.size w w' := by
  obtain ⟨hi, hi8, hv, j, x, D, DU, hj, hkj, hjx, hD, hD1, hD2, hDU, hxv⟩ := h
  have HK := Bx.mk (fun W => known13_any W)
  have HD := Bx.mk (fun W => pDefault_any W)
  have HRD := Bx.mk (fun W => refDefault_any W)
  have HBD := Bx.mk (fun W => bd_rows W)
  have HI9 : i < 9 := by omega
  have hcs : ∀ W : World, ∃ b o : Nat, (∀ U : World, (Instr.indexAt 71 (.slice (some ⟨W.heap.size, 0, none⟩) 7 7) (.int .u8 (j : Int))).run Try.prog U = .ok (.pointer (some ⟨b, o, none⟩)) U) ∧ (W.alloc (.cells bdA 45)).cell? ⟨b, o, none⟩ = some (.int .u64 (x : Int)) := fun W => by
    obtain ⟨b, o, h1, h2⟩ := Rows.at_ Try.underlying71 u64s_size (by decide) u64v_len (bd_rows W) j hj
    refine ⟨b, o, fun U => h1 .u8 U, ?_⟩
    have := h2 _ (bd_rows W) 0 (.int .u64 (x : Int)) (by rw [hjx]; rfl)
    simpa using this
  have HCS := Bx.mk hcs
  have hw1 : IntKind.i8.wrap D = D := by
    rcases (by omega : D = -1 ∨ D = 0 ∨ D = 1) with h | h | h <;> rw [h] <;> rfl
  have hw2 : wrap64 D = D := by unfold wrap64; omega
  have hw22 : IntKind.i64.wrap D = D := by rw [IntKind.wrap_i64]; omega
  have hj7 : j < 7 := hj
  obtain ⟨JI, hJI⟩ : ∃ X : Int, (j : Int) = X := ⟨_, rfl⟩
  obtain ⟨XI, hXI⟩ : ∃ X : Int, (x : Int) = X := ⟨_, rfl⟩
  obtain ⟨II, hII⟩ : ∃ X : Int, (i : Int) = X := ⟨_, rfl⟩
  obtain ⟨VI, hVI⟩ : ∃ X : Int, (v : Int) = X := ⟨_, rfl⟩
  have hwj : IntKind.u8.wrap JI = JI := by rw [IntKind.wrap_u8]; omega
  have hwi : IntKind.u8.wrap II = II := by rw [IntKind.wrap_u8]; omega
  have hwi2 : IntKind.u64.wrap II = II := by rw [IntKind.wrap_u64]; omega
  have HR1 : Bx (∀ W : World, Rows 2 sgvl (W.alloc (.cells #[.int .u64 II, .int .u64 VI] 63)) (.slice (some ⟨W.heap.size, 0, none⟩) 1 1) [(⟨i, v⟩ : Stg)]) := ⟨fun W => Rows.lit W 63 [(⟨i, v⟩ : Stg)] _ 1 rfl (by rw [← hII, ← hVI]; rfl) rfl (by unfold maxLen; omega)⟩
  have HAP := fun (u : Value) (W : World) (h : Rows 2 sgvl W u [(⟨i, v⟩ : Stg)]) => pApply_any defS u [⟨i, v⟩] W h (fun a ha => by rw [List.mem_singleton.1 ha]; exact ⟨by show i < _; omega, hv⟩)
  rw [apS_cons] at HAP
  simp only at HAP
  rw [hII] at hi
  rw [hXI, hVI] at hxv
  rw [hJI] at hkj
  rw [hXI, hJI] at HCS
  have hE : setE i v = 0 := by unfold setE; rw [if_pos c1, if_neg c2]
  rw [hE, if_pos rfl, show apS (setP defS i v) [] = (setP defS i v, 0) from rfl] at HAP
  replace HAP := Bx.mk HAP
  have f0 : (II == 2) = true := by rw [beq_iff_eq]; omega
  have f1 : decide (1 < VI) = false := decide_eq_false (by omega)
  have f2 : (II == 5) = false := by rw [beq_eq_false_iff_ne]; omega
  have f3 : (II == 4) = false := by rw [beq_eq_false_iff_ne]; omega
  have f4 : decide (1 ≤ II) = true := decide_eq_true (by omega)
  have f5 : decide (II ≤ 6) = true := decide_eq_true (by omega)
  have HOF := Bx.mk (fun W => of13_any (setP defS i v) (by unfold setP; rw [if_neg (by omega)]; rfl) W)
  have hxi := fun W => set2_index 0 i (by omega) W
  have HXI : Bx (∀ g W, (Instr.indexAt 60 (.pointer (some ⟨g, 0, none⟩)) (.int .u64 II)).run Try.prog W = .ok (.pointer (some ⟨g, i, none⟩)) W) := ⟨fun g W => by rw [← hII]; exact set2_index g i (by omega) W⟩
  have HAS := Bx.mk (arrS_setL defS i v (by omega) (by omega))
  rw [hVI] at HAS
  have HAT := Bx.mk (arrS_at defS i (by omega))
  clear hxi
  clear hE c1 c2 hi8 hv hj hjx hD1 hD2 hJI hXI hII hVI hj7 hcs
  obtain ⟨T, hT⟩ : ∃ T, (setP defS i v) = T := ⟨_, rfl⟩
  rw [hT] at HAP HOF HAS
  go_enter Try.func10, Try.ntmps10
  go_upto_region 19 with (first
    | (go_at_call 34; refine (HK.out _).mono ?_; rintro e w1 ⟨rfl, b1⟩; have HB1 := Bx.mk b1; obtain ⟨b, o, hix, hcx⟩ := HCS.out w1; have HB2 := Bx.mk (HB1.out.alloc HB1.out.size (.cells bdA 45)); clear b1)
    | (go_at_call 40; refine (HD.out _).mono ?_; rintro e w3 ⟨rfl, b3⟩; have HB3 := Bx.mk (HB2.out.trans (b3.mono HB2.out.size)); have HL := Bx.mk (HR1.out w3); have HB4 := Bx.mk (HB3.out.alloc HB3.out.size (.cells #[.int .u64 II, .int .u64 VI] 63)); clear b3)
    | (go_at_call 38; refine (HAP.out _ _ HL.out).mono ?_; rintro e w5 ⟨rfl, b5⟩; have HB5 := Bx.mk (HB4.out.trans (b5.mono HB4.out.size)); have HN9 : Bx (Sb 57 (w5.alloc (.cells (arrH T) 57)) w5.heap.size (arrH T)) := ⟨Sb.new _ w5 _⟩; have HB6 := Bx.mk (HB5.out.alloc HB5.out.size (.cells (arrH T) 57)); clear b5)
    | (go_at_call 41; refine (HRD.out _).mono ?_; rintro e w7 ⟨rfl, b7⟩; have HB7 := Bx.mk (HB6.out.trans (b7.mono HB6.out.size)); have HN7 := Bx.mk (HN9.out.keep b7); have HN12 : Bx (Sb 60 (w7.alloc (.cells (arrS defS) 60)) w7.heap.size (arrS defS)) := ⟨Sb.new _ w7 _⟩; have HB8 := Bx.mk (HB7.out.alloc HB7.out.size (.cells (arrS defS) 60)); have HN8 := Bx.mk (HN7.out.alloc (.cells (arrS defS) 60)); have hxi := HXI.out w7.heap.size; have hcl := (HN12.out.cell i).trans HAT.out; have hfz := HN12.out.free i; clear b7))
  rw [HAS.out]
  have HS12 : Sb 60 (w7.alloc (.cells (arrS T) 60)) w7.heap.size (arrS T) := Sb.new _ w7 _
  have HF9 := HN7.out.alloc (.cells (arrS T) 60)
  have HBF := HB7.out.alloc HB7.out.size (.cells (arrS T) 60)
  obtain ⟨g9, hg9⟩ : ∃ g, w5.heap.size = g := ⟨_, rfl⟩
  obtain ⟨g12, hg12⟩ : ∃ g, w7.heap.size = g := ⟨_, rfl⟩
  obtain ⟨wz, hwz⟩ : ∃ W, (w7.alloc (.cells (arrS T) 60)) = W := ⟨_, rfl⟩
  replace HS12 := Bx.mk HS12
  replace HF9 := Bx.mk HF9
  replace HBF := Bx.mk HBF
  rw [hwz] at HS12 HF9 HBF ⊢
  rw [hg9] at HF9 ⊢
  rw [hg12] at HS12 ⊢
  have x0 := fun (W : World) (h : Below wz.heap.size wz W) => (HF9.out.cells6 h HF9.out.lt).1
  have x1 := fun (W : World) (h : Below wz.heap.size wz W) => (HF9.out.cells6 h HF9.out.lt).2.1
  have x2 := fun (W : World) (h : Below wz.heap.size wz W) => (HF9.out.cells6 h HF9.out.lt).2.2.1
  have x3 := fun (W : World) (h : Below wz.heap.size wz W) => (HF9.out.cells6 h HF9.out.lt).2.2.2.1
  have x4 := fun (W : World) (h : Below wz.heap.size wz W) => (HF9.out.cells6 h HF9.out.lt).2.2.2.2.1
  have x5 := fun (W : World) (h : Below wz.heap.size wz W) => (HF9.out.cells6 h HF9.out.lt).2.2.2.2.2
  have y0 := fun (W : World) (h : Below wz.heap.size wz W) => ((HS12.out.below h HS12.out.lt).cell 0).trans (arrS_at T 0 (by omega))
  have y1 := fun (W : World) (h : Below wz.heap.size wz W) => ((HS12.out.below h HS12.out.lt).cell 1).trans (arrS_at T 1 (by omega))
  have y2 := fun (W : World) (h : Below wz.heap.size wz W) => ((HS12.out.below h HS12.out.lt).cell 2).trans (arrS_at T 2 (by omega))
  have y3 := fun (W : World) (h : Below wz.heap.size wz W) => ((HS12.out.below h HS12.out.lt).cell 3).trans (arrS_at T 3 (by omega))
  have y4 := fun (W : World) (h : Below wz.heap.size wz W) => ((HS12.out.below h HS12.out.lt).cell 4).trans (arrS_at T 4 (by omega))
  have y5 := fun (W : World) (h : Below wz.heap.size wz W) => ((HS12.out.below h HS12.out.lt).cell 5).trans (arrS_at T 5 (by omega))
  have y6 := fun (W : World) (h : Below wz.heap.size wz W) => ((HS12.out.below h HS12.out.lt).cell 6).trans (arrS_at T 6 (by omega))
  have hS0 : Below wz.heap.size wz wz.drew := (Below.refl _ _).drew
  clear hwz hg9 hg12
  have heq : ∀ W, (Op.equalIn 10000 60 (.agg (arrS T)) (.agg #[.int .u64 (T 0 : Int), .int .u64 (T 1 : Int), .int .u64 (T 2 : Int), .int .u64 (T 3 : Int), .int .u64 (T 4 : Int), .int .u64 (T 5 : Int), .int .u64 (T 6 : Int)])).run Try.prog W = .ok true W := fun W => set2_eq T W
  go_region_held (fun W => Below wz.heap.size wz W) (first | assumption | exact hS0)
    (first | (go_at_call 36; refine (HOF.out _).mono ?_; rintro e wf ⟨rfl, bf⟩; have hSf : Below wz.heap.size wz wf := hS0.trans (bf.mono hS0.size); clear bf))
  clear x0 x1 x2 x3 x4 x5 y0 y1 y2 y3 y4 y5 y6
  go_wp2_with fail
  go_ret
  exact ⟨rfl, HBF.out.trans (hSf.mono HBF.out.size)⟩
set_option maxRecDepth 100000 in
set_option maxHeartbeats 4000000 in
theorem setBounds_6 (id k less : Int) (i v : Nat) (h : BdN id k less i v) (c1 : i = 5) (c2 : ¬ (v < 16384 ∨ 16777215 < v)) (w : World) :
    Calls Try.prog 10 #[.int .u8 id, .int .u8 k, .int .i8 less] w fun e w' => e = .returned (.bool true) ∧ Below w.heap.size w w' := by
  obtain ⟨hi, hi8, hv, j, x, D, DU, hj, hkj, hjx, hD, hD1, hD2, hDU, hxv⟩ := h
  have HK := Bx.mk (fun W => known13_any W)
  have HD := Bx.mk (fun W => pDefault_any W)
  have HRD := Bx.mk (fun W => refDefault_any W)
  have HBD := Bx.mk (fun W => bd_rows W)
  have HI9 : i < 9 := by omega
  have hcs : ∀ W : World, ∃ b o : Nat, (∀ U : World, (Instr.indexAt 71 (.slice (some ⟨W.heap.size, 0, none⟩) 7 7) (.int .u8 (j : Int))).run Try.prog U = .ok (.pointer (some ⟨b, o, none⟩)) U) ∧ (W.alloc (.cells bdA 45)).cell? ⟨b, o, none⟩ = some (.int .u64 (x : Int)) := fun W => by
    obtain ⟨b, o, h1, h2⟩ := Rows.at_ Try.underlying71 u64s_size (by decide) u64v_len (bd_rows W) j hj
    refine ⟨b, o, fun U => h1 .u8 U, ?_⟩
    have := h2 _ (bd_rows W) 0 (.int .u64 (x : Int)) (by rw [hjx]; rfl)
    simpa using this
  have HCS := Bx.mk hcs
  have hw1 : IntKind.i8.wrap D = D := by
    rcases (by omega : D = -1 ∨ D = 0 ∨ D = 1) with h | h | h <;> rw [h] <;> rfl
  have hw2 : wrap64 D = D := by unfold wrap64; omega
  have hw22 : IntKind.i64.wrap D = D := by rw [IntKind.wrap_i64]; omega
  have hj7 : j < 7 := hj
  obtain ⟨JI, hJI⟩ : ∃ X : Int, (j : Int) = X := ⟨_, rfl⟩
  obtain ⟨XI, hXI⟩ : ∃ X : Int, (x : Int) = X := ⟨_, rfl⟩
  obtain ⟨II, hII⟩ : ∃ X : Int, (i : Int) = X := ⟨_, rfl⟩
  obtain ⟨VI, hVI⟩ : ∃ X : Int, (v : Int) = X := ⟨_, rfl⟩
  have hwj : IntKind.u8.wrap JI = JI := by rw [IntKind.wrap_u8]; omega
  have hwi : IntKind.u8.wrap II = II := by rw [IntKind.wrap_u8]; omega
  have hwi2 : IntKind.u64.wrap II = II := by rw [IntKind.wrap_u64]; omega
  have HR1 : Bx (∀ W : World, Rows 2 sgvl (W.alloc (.cells #[.int .u64 II, .int .u64 VI] 63)) (.slice (some ⟨W.heap.size, 0, none⟩) 1 1) [(⟨i, v⟩ : Stg)]) := ⟨fun W => Rows.lit W 63 [(⟨i, v⟩ : Stg)] _ 1 rfl (by rw [← hII, ← hVI]; rfl) rfl (by unfold maxLen; omega)⟩
  have HAP := fun (u : Value) (W : World) (h : Rows 2 sgvl W u [(⟨i, v⟩ : Stg)]) => pApply_any defS u [⟨i, v⟩] W h (fun a ha => by rw [List.mem_singleton.1 ha]; exact ⟨by show i < _; omega, hv⟩)
  rw [apS_cons] at HAP
  simp only at HAP
  rw [hII] at hi
  rw [hXI, hVI] at hxv
  rw [hJI] at hkj
  rw [hXI, hJI] at HCS
  have hE : setE i v = 0 := by unfold setE; rw [if_neg (by omega), if_neg (by omega), if_pos c1, if_neg (by omega)]
  rw [hE, if_pos rfl, show apS (setP defS i v) [] = (setP defS i v, 0) from rfl] at HAP
  replace HAP := Bx.mk HAP
  have f0 : (II == 2) = false := by rw [beq_eq_false_iff_ne]; omega
  have f1 : (II == 5) = true := by rw [beq_iff_eq]; omega
  have f2 : decide (VI < 16384) = false := decide_eq_false (by omega)
  have f3 : decide (16777215 < VI) = false := decide_eq_false (by omega)
  have f4 : (II == 4) = false := by rw [beq_eq_false_iff_ne]; omega
  have f5 : decide (1 ≤ II) = true := decide_eq_true (by omega)
  have f6 : decide (II ≤ 6) = true := decide_eq_true (by omega)
  have HOF := Bx.mk (fun W => of13_any (setP defS i v) (by unfold setP; rw [if_neg (by omega)]; rfl) W)
  have hxi := fun W => set2_index 0 i (by omega) W
  have HXI : Bx (∀ g W, (Instr.indexAt 60 (.pointer (some ⟨g, 0, none⟩)) (.int .u64 II)).run Try.prog W = .ok (.pointer (some ⟨g, i, none⟩)) W) := ⟨fun g W => by rw [← hII]; exact set2_index g i (by omega) W⟩
  have HAS := Bx.mk (arrS_setL defS i v (by omega) (by omega))
  rw [hVI] at HAS
  have HAT := Bx.mk (arrS_at defS i (by omega))
  clear hxi
  clear hE c1 c2 hi8 hv hj hjx hD1 hD2 hJI hXI hII hVI hj7 hcs
  obtain ⟨T, hT⟩ : ∃ T, (setP defS i v) = T := ⟨_, rfl⟩
  rw [hT] at HAP HOF HAS
  go_enter Try.func10, Try.ntmps10
  go_upto_region 19 with (first
    | (go_at_call 34; refine (HK.out _).mono ?_; rintro e w1 ⟨rfl, b1⟩; have HB1 := Bx.mk b1; obtain ⟨b, o, hix, hcx⟩ := HCS.out w1; have HB2 := Bx.mk (HB1.out.alloc HB1.out.size (.cells bdA 45)); clear b1)
    | (go_at_call 40; refine (HD.out _).mono ?_; rintro e w3 ⟨rfl, b3⟩; have HB3 := Bx.mk (HB2.out.trans (b3.mono HB2.out.size)); have HL := Bx.mk (HR1.out w3); have HB4 := Bx.mk (HB3.out.alloc HB3.out.size (.cells #[.int .u64 II, .int .u64 VI] 63)); clear b3)
    | (go_at_call 38; refine (HAP.out _ _ HL.out).mono ?_; rintro e w5 ⟨rfl, b5⟩; have HB5 := Bx.mk (HB4.out.trans (b5.mono HB4.out.size)); have HN9 : Bx (Sb 57 (w5.alloc (.cells (arrH T) 57)) w5.heap.size (arrH T)) := ⟨Sb.new _ w5 _⟩; have HB6 := Bx.mk (HB5.out.alloc HB5.out.size (.cells (arrH T) 57)); clear b5)
    | (go_at_call 41; refine (HRD.out _).mono ?_; rintro e w7 ⟨rfl, b7⟩; have HB7 := Bx.mk (HB6.out.trans (b7.mono HB6.out.size)); have HN7 := Bx.mk (HN9.out.keep b7); have HN12 : Bx (Sb 60 (w7.alloc (.cells (arrS defS) 60)) w7.heap.size (arrS defS)) := ⟨Sb.new _ w7 _⟩; have HB8 := Bx.mk (HB7.out.alloc HB7.out.size (.cells (arrS defS) 60)); have HN8 := Bx.mk (HN7.out.alloc (.cells (arrS defS) 60)); have hxi := HXI.out w7.heap.size; have hcl := (HN12.out.cell i).trans HAT.out; have hfz := HN12.out.free i; clear b7))
  rw [HAS.out]
  have HS12 : Sb 60 (w7.alloc (.cells (arrS T) 60)) w7.heap.size (arrS T) := Sb.new _ w7 _
  have HF9 := HN7.out.alloc (.cells (arrS T) 60)
  have HBF := HB7.out.alloc HB7.out.size (.cells (arrS T) 60)
  obtain ⟨g9, hg9⟩ : ∃ g, w5.heap.size = g := ⟨_, rfl⟩
  obtain ⟨g12, hg12⟩ : ∃ g, w7.heap.size = g := ⟨_, rfl⟩
  obtain ⟨wz, hwz⟩ : ∃ W, (w7.alloc (.cells (arrS T) 60)) = W := ⟨_, rfl⟩
  replace HS12 := Bx.mk HS12
  replace HF9 := Bx.mk HF9
  replace HBF := Bx.mk HBF
  rw [hwz] at HS12 HF9 HBF ⊢
  rw [hg9] at HF9 ⊢
  rw [hg12] at HS12 ⊢
  have x0 := fun (W : World) (h : Below wz.heap.size wz W) => (HF9.out.cells6 h HF9.out.lt).1
  have x1 := fun (W : World) (h : Below wz.heap.size wz W) => (HF9.out.cells6 h HF9.out.lt).2.1
  have x2 := fun (W : World) (h : Below wz.heap.size wz W) => (HF9.out.cells6 h HF9.out.lt).2.2.1
  have x3 := fun (W : World) (h : Below wz.heap.size wz W) => (HF9.out.cells6 h HF9.out.lt).2.2.2.1
  have x4 := fun (W : World) (h : Below wz.heap.size wz W) => (HF9.out.cells6 h HF9.out.lt).2.2.2.2.1
  have x5 := fun (W : World) (h : Below wz.heap.size wz W) => (HF9.out.cells6 h HF9.out.lt).2.2.2.2.2
  have y0 := fun (W : World) (h : Below wz.heap.size wz W) => ((HS12.out.below h HS12.out.lt).cell 0).trans (arrS_at T 0 (by omega))
  have y1 := fun (W : World) (h : Below wz.heap.size wz W) => ((HS12.out.below h HS12.out.lt).cell 1).trans (arrS_at T 1 (by omega))
  have y2 := fun (W : World) (h : Below wz.heap.size wz W) => ((HS12.out.below h HS12.out.lt).cell 2).trans (arrS_at T 2 (by omega))
  have y3 := fun (W : World) (h : Below wz.heap.size wz W) => ((HS12.out.below h HS12.out.lt).cell 3).trans (arrS_at T 3 (by omega))
  have y4 := fun (W : World) (h : Below wz.heap.size wz W) => ((HS12.out.below h HS12.out.lt).cell 4).trans (arrS_at T 4 (by omega))
  have y5 := fun (W : World) (h : Below wz.heap.size wz W) => ((HS12.out.below h HS12.out.lt).cell 5).trans (arrS_at T 5 (by omega))
  have y6 := fun (W : World) (h : Below wz.heap.size wz W) => ((HS12.out.below h HS12.out.lt).cell 6).trans (arrS_at T 6 (by omega))
  have hS0 : Below wz.heap.size wz wz.drew := (Below.refl _ _).drew
  clear hwz hg9 hg12
  have heq : ∀ W, (Op.equalIn 10000 60 (.agg (arrS T)) (.agg #[.int .u64 (T 0 : Int), .int .u64 (T 1 : Int), .int .u64 (T 2 : Int), .int .u64 (T 3 : Int), .int .u64 (T 4 : Int), .int .u64 (T 5 : Int), .int .u64 (T 6 : Int)])).run Try.prog W = .ok true W := fun W => set2_eq T W
  go_region_held (fun W => Below wz.heap.size wz W) (first | assumption | exact hS0)
    (first | (go_at_call 36; refine (HOF.out _).mono ?_; rintro e wf ⟨rfl, bf⟩; have hSf : Below wz.heap.size wz wf := hS0.trans (bf.mono hS0.size); clear bf))
  clear x0 x1 x2 x3 x4 x5 y0 y1 y2 y3 y4 y5 y6
  go_wp2_with fail
  go_ret
  exact ⟨rfl, HBF.out.trans (hSf.mono HBF.out.size)⟩
set_option maxRecDepth 100000 in
set_option maxHeartbeats 4000000 in
theorem setBounds_7 (id k less : Int) (i v : Nat) (h : BdN id k less i v) (c1 : i = 4) (c2 : ¬ 2147483647 < v) (w : World) :
    Calls Try.prog 10 #[.int .u8 id, .int .u8 k, .int .i8 less] w fun e w' => e = .returned (.bool true) ∧ Below w.heap.size w w' := by
  obtain ⟨hi, hi8, hv, j, x, D, DU, hj, hkj, hjx, hD, hD1, hD2, hDU, hxv⟩ := h
  have HK := Bx.mk (fun W => known13_any W)
  have HD := Bx.mk (fun W => pDefault_any W)
  have HRD := Bx.mk (fun W => refDefault_any W)
  have HBD := Bx.mk (fun W => bd_rows W)
  have HI9 : i < 9 := by omega
  have hcs : ∀ W : World, ∃ b o : Nat, (∀ U : World, (Instr.indexAt 71 (.slice (some ⟨W.heap.size, 0, none⟩) 7 7) (.int .u8 (j : Int))).run Try.prog U = .ok (.pointer (some ⟨b, o, none⟩)) U) ∧ (W.alloc (.cells bdA 45)).cell? ⟨b, o, none⟩ = some (.int .u64 (x : Int)) := fun W => by
    obtain ⟨b, o, h1, h2⟩ := Rows.at_ Try.underlying71 u64s_size (by decide) u64v_len (bd_rows W) j hj
    refine ⟨b, o, fun U => h1 .u8 U, ?_⟩
    have := h2 _ (bd_rows W) 0 (.int .u64 (x : Int)) (by rw [hjx]; rfl)
    simpa using this
  have HCS := Bx.mk hcs
  have hw1 : IntKind.i8.wrap D = D := by
    rcases (by omega : D = -1 ∨ D = 0 ∨ D = 1) with h | h | h <;> rw [h] <;> rfl
  have hw2 : wrap64 D = D := by unfold wrap64; omega
  have hw22 : IntKind.i64.wrap D = D := by rw [IntKind.wrap_i64]; omega
  have hj7 : j < 7 := hj
  obtain ⟨JI, hJI⟩ : ∃ X : Int, (j : Int) = X := ⟨_, rfl⟩
  obtain ⟨XI, hXI⟩ : ∃ X : Int, (x : Int) = X := ⟨_, rfl⟩
  obtain ⟨II, hII⟩ : ∃ X : Int, (i : Int) = X := ⟨_, rfl⟩
  obtain ⟨VI, hVI⟩ : ∃ X : Int, (v : Int) = X := ⟨_, rfl⟩
  have hwj : IntKind.u8.wrap JI = JI := by rw [IntKind.wrap_u8]; omega
  have hwi : IntKind.u8.wrap II = II := by rw [IntKind.wrap_u8]; omega
  have hwi2 : IntKind.u64.wrap II = II := by rw [IntKind.wrap_u64]; omega
  have HR1 : Bx (∀ W : World, Rows 2 sgvl (W.alloc (.cells #[.int .u64 II, .int .u64 VI] 63)) (.slice (some ⟨W.heap.size, 0, none⟩) 1 1) [(⟨i, v⟩ : Stg)]) := ⟨fun W => Rows.lit W 63 [(⟨i, v⟩ : Stg)] _ 1 rfl (by rw [← hII, ← hVI]; rfl) rfl (by unfold maxLen; omega)⟩
  have HAP := fun (u : Value) (W : World) (h : Rows 2 sgvl W u [(⟨i, v⟩ : Stg)]) => pApply_any defS u [⟨i, v⟩] W h (fun a ha => by rw [List.mem_singleton.1 ha]; exact ⟨by show i < _; omega, hv⟩)
  rw [apS_cons] at HAP
  simp only at HAP
  rw [hII] at hi
  rw [hXI, hVI] at hxv
  rw [hJI] at hkj
  rw [hXI, hJI] at HCS
  have hE : setE i v = 0 := by unfold setE; rw [if_neg (by omega), if_pos c1, if_neg c2]
  rw [hE, if_pos rfl, show apS (setP defS i v) [] = (setP defS i v, 0) from rfl] at HAP
  replace HAP := Bx.mk HAP
  have f0 : (II == 2) = false := by rw [beq_eq_false_iff_ne]; omega
  have f1 : (II == 5) = false := by rw [beq_eq_false_iff_ne]; omega
  have f2 : (II == 4) = true := by rw [beq_iff_eq]; omega
  have f3 : decide (2147483647 < VI) = false := decide_eq_false (by omega)
  have f4 : decide (1 ≤ II) = true := decide_eq_true (by omega)
  have f5 : decide (II ≤ 6) = true := decide_eq_true (by omega)
  have HOF := Bx.mk (fun W => of13_any (setP defS i v) (by unfold setP; rw [if_neg (by omega)]; rfl) W)
  have hxi := fun W => set2_index 0 i (by omega) W
  have HXI : Bx (∀ g W, (Instr.indexAt 60 (.pointer (some ⟨g, 0, none⟩)) (.int .u64 II)).run Try.prog W = .ok (.pointer (some ⟨g, i, none⟩)) W) := ⟨fun g W => by rw [← hII]; exact set2_index g i (by omega) W⟩
  have HAS := Bx.mk (arrS_setL defS i v (by omega) (by omega))
  rw [hVI] at HAS
  have HAT := Bx.mk (arrS_at defS i (by omega))
  clear hxi
  clear hE c1 c2 hi8 hv hj hjx hD1 hD2 hJI hXI hII hVI hj7 hcs
  obtain ⟨T, hT⟩ : ∃ T, (setP defS i v) = T := ⟨_, rfl⟩
  rw [hT] at HAP HOF HAS
  go_enter Try.func10, Try.ntmps10
  go_upto_region 19 with (first
    | (go_at_call 34; refine (HK.out _).mono ?_; rintro e w1 ⟨rfl, b1⟩; have HB1 := Bx.mk b1; obtain ⟨b, o, hix, hcx⟩ := HCS.out w1; have HB2 := Bx.mk (HB1.out.alloc HB1.out.size (.cells bdA 45)); clear b1)
    | (go_at_call 40; refine (HD.out _).mono ?_; rintro e w3 ⟨rfl, b3⟩; have HB3 := Bx.mk (HB2.out.trans (b3.mono HB2.out.size)); have HL := Bx.mk (HR1.out w3); have HB4 := Bx.mk (HB3.out.alloc HB3.out.size (.cells #[.int .u64 II, .int .u64 VI] 63)); clear b3)
    | (go_at_call 38; refine (HAP.out _ _ HL.out).mono ?_; rintro e w5 ⟨rfl, b5⟩; have HB5 := Bx.mk (HB4.out.trans (b5.mono HB4.out.size)); have HN9 : Bx (Sb 57 (w5.alloc (.cells (arrH T) 57)) w5.heap.size (arrH T)) := ⟨Sb.new _ w5 _⟩; have HB6 := Bx.mk (HB5.out.alloc HB5.out.size (.cells (arrH T) 57)); clear b5)
    | (go_at_call 41; refine (HRD.out _).mono ?_; rintro e w7 ⟨rfl, b7⟩; have HB7 := Bx.mk (HB6.out.trans (b7.mono HB6.out.size)); have HN7 := Bx.mk (HN9.out.keep b7); have HN12 : Bx (Sb 60 (w7.alloc (.cells (arrS defS) 60)) w7.heap.size (arrS defS)) := ⟨Sb.new _ w7 _⟩; have HB8 := Bx.mk (HB7.out.alloc HB7.out.size (.cells (arrS defS) 60)); have HN8 := Bx.mk (HN7.out.alloc (.cells (arrS defS) 60)); have hxi := HXI.out w7.heap.size; have hcl := (HN12.out.cell i).trans HAT.out; have hfz := HN12.out.free i; clear b7))
  rw [HAS.out]
  have HS12 : Sb 60 (w7.alloc (.cells (arrS T) 60)) w7.heap.size (arrS T) := Sb.new _ w7 _
  have HF9 := HN7.out.alloc (.cells (arrS T) 60)
  have HBF := HB7.out.alloc HB7.out.size (.cells (arrS T) 60)
  obtain ⟨g9, hg9⟩ : ∃ g, w5.heap.size = g := ⟨_, rfl⟩
  obtain ⟨g12, hg12⟩ : ∃ g, w7.heap.size = g := ⟨_, rfl⟩
  obtain ⟨wz, hwz⟩ : ∃ W, (w7.alloc (.cells (arrS T) 60)) = W := ⟨_, rfl⟩
  replace HS12 := Bx.mk HS12
  replace HF9 := Bx.mk HF9
  replace HBF := Bx.mk HBF
  rw [hwz] at HS12 HF9 HBF ⊢
  rw [hg9] at HF9 ⊢
  rw [hg12] at HS12 ⊢
  have x0 := fun (W : World) (h : Below wz.heap.size wz W) => (HF9.out.cells6 h HF9.out.lt).1
  have x1 := fun (W : World) (h : Below wz.heap.size wz W) => (HF9.out.cells6 h HF9.out.lt).2.1
  have x2 := fun (W : World) (h : Below wz.heap.size wz W) => (HF9.out.cells6 h HF9.out.lt).2.2.1
  have x3 := fun (W : World) (h : Below wz.heap.size wz W) => (HF9.out.cells6 h HF9.out.lt).2.2.2.1
  have x4 := fun (W : World) (h : Below wz.heap.size wz W) => (HF9.out.cells6 h HF9.out.lt).2.2.2.2.1
  have x5 := fun (W : World) (h : Below wz.heap.size wz W) => (HF9.out.cells6 h HF9.out.lt).2.2.2.2.2
  have y0 := fun (W : World) (h : Below wz.heap.size wz W) => ((HS12.out.below h HS12.out.lt).cell 0).trans (arrS_at T 0 (by omega))
  have y1 := fun (W : World) (h : Below wz.heap.size wz W) => ((HS12.out.below h HS12.out.lt).cell 1).trans (arrS_at T 1 (by omega))
  have y2 := fun (W : World) (h : Below wz.heap.size wz W) => ((HS12.out.below h HS12.out.lt).cell 2).trans (arrS_at T 2 (by omega))
  have y3 := fun (W : World) (h : Below wz.heap.size wz W) => ((HS12.out.below h HS12.out.lt).cell 3).trans (arrS_at T 3 (by omega))
  have y4 := fun (W : World) (h : Below wz.heap.size wz W) => ((HS12.out.below h HS12.out.lt).cell 4).trans (arrS_at T 4 (by omega))
  have y5 := fun (W : World) (h : Below wz.heap.size wz W) => ((HS12.out.below h HS12.out.lt).cell 5).trans (arrS_at T 5 (by omega))
  have y6 := fun (W : World) (h : Below wz.heap.size wz W) => ((HS12.out.below h HS12.out.lt).cell 6).trans (arrS_at T 6 (by omega))
  have hS0 : Below wz.heap.size wz wz.drew := (Below.refl _ _).drew
  clear hwz hg9 hg12
  have heq : ∀ W, (Op.equalIn 10000 60 (.agg (arrS T)) (.agg #[.int .u64 (T 0 : Int), .int .u64 (T 1 : Int), .int .u64 (T 2 : Int), .int .u64 (T 3 : Int), .int .u64 (T 4 : Int), .int .u64 (T 5 : Int), .int .u64 (T 6 : Int)])).run Try.prog W = .ok true W := fun W => set2_eq T W
  go_region_held (fun W => Below wz.heap.size wz W) (first | assumption | exact hS0)
    (first | (go_at_call 36; refine (HOF.out _).mono ?_; rintro e wf ⟨rfl, bf⟩; have hSf : Below wz.heap.size wz wf := hS0.trans (bf.mono hS0.size); clear bf))
  clear x0 x1 x2 x3 x4 x5 y0 y1 y2 y3 y4 y5 y6
  go_wp2_with fail
  go_ret
  exact ⟨rfl, HBF.out.trans (hSf.mono HBF.out.size)⟩
set_option maxRecDepth 100000 in
set_option maxHeartbeats 4000000 in
theorem setBounds_8 (id k less : Int) (i v : Nat) (h : BdN id k less i v) (c1 : i = 1 ∨ i = 3 ∨ i = 6) (c2 : True) (w : World) :
    Calls Try.prog 10 #[.int .u8 id, .int .u8 k, .int .i8 less] w fun e w' => e = .returned (.bool true) ∧ Below w.heap.size w w' := by
  obtain ⟨hi, hi8, hv, j, x, D, DU, hj, hkj, hjx, hD, hD1, hD2, hDU, hxv⟩ := h
  have HK := Bx.mk (fun W => known13_any W)
  have HD := Bx.mk (fun W => pDefault_any W)
  have HRD := Bx.mk (fun W => refDefault_any W)
  have HBD := Bx.mk (fun W => bd_rows W)
  have HI9 : i < 9 := by omega
  have hcs : ∀ W : World, ∃ b o : Nat, (∀ U : World, (Instr.indexAt 71 (.slice (some ⟨W.heap.size, 0, none⟩) 7 7) (.int .u8 (j : Int))).run Try.prog U = .ok (.pointer (some ⟨b, o, none⟩)) U) ∧ (W.alloc (.cells bdA 45)).cell? ⟨b, o, none⟩ = some (.int .u64 (x : Int)) := fun W => by
    obtain ⟨b, o, h1, h2⟩ := Rows.at_ Try.underlying71 u64s_size (by decide) u64v_len (bd_rows W) j hj
    refine ⟨b, o, fun U => h1 .u8 U, ?_⟩
    have := h2 _ (bd_rows W) 0 (.int .u64 (x : Int)) (by rw [hjx]; rfl)
    simpa using this
  have HCS := Bx.mk hcs
  have hw1 : IntKind.i8.wrap D = D := by
    rcases (by omega : D = -1 ∨ D = 0 ∨ D = 1) with h | h | h <;> rw [h] <;> rfl
  have hw2 : wrap64 D = D := by unfold wrap64; omega
  have hw22 : IntKind.i64.wrap D = D := by rw [IntKind.wrap_i64]; omega
  have hj7 : j < 7 := hj
  obtain ⟨JI, hJI⟩ : ∃ X : Int, (j : Int) = X := ⟨_, rfl⟩
  obtain ⟨XI, hXI⟩ : ∃ X : Int, (x : Int) = X := ⟨_, rfl⟩
  obtain ⟨II, hII⟩ : ∃ X : Int, (i : Int) = X := ⟨_, rfl⟩
  obtain ⟨VI, hVI⟩ : ∃ X : Int, (v : Int) = X := ⟨_, rfl⟩
  have hwj : IntKind.u8.wrap JI = JI := by rw [IntKind.wrap_u8]; omega
  have hwi : IntKind.u8.wrap II = II := by rw [IntKind.wrap_u8]; omega
  have hwi2 : IntKind.u64.wrap II = II := by rw [IntKind.wrap_u64]; omega
  have HR1 : Bx (∀ W : World, Rows 2 sgvl (W.alloc (.cells #[.int .u64 II, .int .u64 VI] 63)) (.slice (some ⟨W.heap.size, 0, none⟩) 1 1) [(⟨i, v⟩ : Stg)]) := ⟨fun W => Rows.lit W 63 [(⟨i, v⟩ : Stg)] _ 1 rfl (by rw [← hII, ← hVI]; rfl) rfl (by unfold maxLen; omega)⟩
  have HAP := fun (u : Value) (W : World) (h : Rows 2 sgvl W u [(⟨i, v⟩ : Stg)]) => pApply_any defS u [⟨i, v⟩] W h (fun a ha => by rw [List.mem_singleton.1 ha]; exact ⟨by show i < _; omega, hv⟩)
  rw [apS_cons] at HAP
  simp only at HAP
  rw [hII] at hi
  rw [hXI, hVI] at hxv
  rw [hJI] at hkj
  rw [hXI, hJI] at HCS
  have hE : setE i v = 0 := by unfold setE; rw [if_neg (by omega), if_neg (by omega), if_neg (by omega)]
  rw [hE, if_pos rfl, show apS (setP defS i v) [] = (setP defS i v, 0) from rfl] at HAP
  replace HAP := Bx.mk HAP
  have f0 : (II == 2) = false := by rw [beq_eq_false_iff_ne]; omega
  have f1 : (II == 5) = false := by rw [beq_eq_false_iff_ne]; omega
  have f2 : (II == 4) = false := by rw [beq_eq_false_iff_ne]; omega
  have f3 : decide (1 ≤ II) = true := decide_eq_true (by omega)
  have f4 : decide (II ≤ 6) = true := decide_eq_true (by omega)
  have HOF := Bx.mk (fun W => of13_any (setP defS i v) (by unfold setP; rw [if_neg (by omega)]; rfl) W)
  have hxi := fun W => set2_index 0 i (by omega) W
  have HXI : Bx (∀ g W, (Instr.indexAt 60 (.pointer (some ⟨g, 0, none⟩)) (.int .u64 II)).run Try.prog W = .ok (.pointer (some ⟨g, i, none⟩)) W) := ⟨fun g W => by rw [← hII]; exact set2_index g i (by omega) W⟩
  have HAS := Bx.mk (arrS_setL defS i v (by omega) (by omega))
  rw [hVI] at HAS
  have HAT := Bx.mk (arrS_at defS i (by omega))
  clear hxi
  clear hE c1 c2 hi8 hv hj hjx hD1 hD2 hJI hXI hII hVI hj7 hcs
  obtain ⟨T, hT⟩ : ∃ T, (setP defS i v) = T := ⟨_, rfl⟩
  rw [hT] at HAP HOF HAS
  go_enter Try.func10, Try.ntmps10
  go_upto_region 19 with (first
    | (go_at_call 34; refine (HK.out _).mono ?_; rintro e w1 ⟨rfl, b1⟩; have HB1 := Bx.mk b1; obtain ⟨b, o, hix, hcx⟩ := HCS.out w1; have HB2 := Bx.mk (HB1.out.alloc HB1.out.size (.cells bdA 45)); clear b1)
    | (go_at_call 40; refine (HD.out _).mono ?_; rintro e w3 ⟨rfl, b3⟩; have HB3 := Bx.mk (HB2.out.trans (b3.mono HB2.out.size)); have HL := Bx.mk (HR1.out w3); have HB4 := Bx.mk (HB3.out.alloc HB3.out.size (.cells #[.int .u64 II, .int .u64 VI] 63)); clear b3)
    | (go_at_call 38; refine (HAP.out _ _ HL.out).mono ?_; rintro e w5 ⟨rfl, b5⟩; have HB5 := Bx.mk (HB4.out.trans (b5.mono HB4.out.size)); have HN9 : Bx (Sb 57 (w5.alloc (.cells (arrH T) 57)) w5.heap.size (arrH T)) := ⟨Sb.new _ w5 _⟩; have HB6 := Bx.mk (HB5.out.alloc HB5.out.size (.cells (arrH T) 57)); clear b5)
    | (go_at_call 41; refine (HRD.out _).mono ?_; rintro e w7 ⟨rfl, b7⟩; have HB7 := Bx.mk (HB6.out.trans (b7.mono HB6.out.size)); have HN7 := Bx.mk (HN9.out.keep b7); have HN12 : Bx (Sb 60 (w7.alloc (.cells (arrS defS) 60)) w7.heap.size (arrS defS)) := ⟨Sb.new _ w7 _⟩; have HB8 := Bx.mk (HB7.out.alloc HB7.out.size (.cells (arrS defS) 60)); have HN8 := Bx.mk (HN7.out.alloc (.cells (arrS defS) 60)); have hxi := HXI.out w7.heap.size; have hcl := (HN12.out.cell i).trans HAT.out; have hfz := HN12.out.free i; clear b7))
  rw [HAS.out]
  have HS12 : Sb 60 (w7.alloc (.cells (arrS T) 60)) w7.heap.size (arrS T) := Sb.new _ w7 _
  have HF9 := HN7.out.alloc (.cells (arrS T) 60)
  have HBF := HB7.out.alloc HB7.out.size (.cells (arrS T) 60)
  obtain ⟨g9, hg9⟩ : ∃ g, w5.heap.size = g := ⟨_, rfl⟩
  obtain ⟨g12, hg12⟩ : ∃ g, w7.heap.size = g := ⟨_, rfl⟩
  obtain ⟨wz, hwz⟩ : ∃ W, (w7.alloc (.cells (arrS T) 60)) = W := ⟨_, rfl⟩
  replace HS12 := Bx.mk HS12
  replace HF9 := Bx.mk HF9
  replace HBF := Bx.mk HBF
  rw [hwz] at HS12 HF9 HBF ⊢
  rw [hg9] at HF9 ⊢
  rw [hg12] at HS12 ⊢
  have x0 := fun (W : World) (h : Below wz.heap.size wz W) => (HF9.out.cells6 h HF9.out.lt).1
  have x1 := fun (W : World) (h : Below wz.heap.size wz W) => (HF9.out.cells6 h HF9.out.lt).2.1
  have x2 := fun (W : World) (h : Below wz.heap.size wz W) => (HF9.out.cells6 h HF9.out.lt).2.2.1
  have x3 := fun (W : World) (h : Below wz.heap.size wz W) => (HF9.out.cells6 h HF9.out.lt).2.2.2.1
  have x4 := fun (W : World) (h : Below wz.heap.size wz W) => (HF9.out.cells6 h HF9.out.lt).2.2.2.2.1
  have x5 := fun (W : World) (h : Below wz.heap.size wz W) => (HF9.out.cells6 h HF9.out.lt).2.2.2.2.2
  have y0 := fun (W : World) (h : Below wz.heap.size wz W) => ((HS12.out.below h HS12.out.lt).cell 0).trans (arrS_at T 0 (by omega))
  have y1 := fun (W : World) (h : Below wz.heap.size wz W) => ((HS12.out.below h HS12.out.lt).cell 1).trans (arrS_at T 1 (by omega))
  have y2 := fun (W : World) (h : Below wz.heap.size wz W) => ((HS12.out.below h HS12.out.lt).cell 2).trans (arrS_at T 2 (by omega))
  have y3 := fun (W : World) (h : Below wz.heap.size wz W) => ((HS12.out.below h HS12.out.lt).cell 3).trans (arrS_at T 3 (by omega))
  have y4 := fun (W : World) (h : Below wz.heap.size wz W) => ((HS12.out.below h HS12.out.lt).cell 4).trans (arrS_at T 4 (by omega))
  have y5 := fun (W : World) (h : Below wz.heap.size wz W) => ((HS12.out.below h HS12.out.lt).cell 5).trans (arrS_at T 5 (by omega))
  have y6 := fun (W : World) (h : Below wz.heap.size wz W) => ((HS12.out.below h HS12.out.lt).cell 6).trans (arrS_at T 6 (by omega))
  have hS0 : Below wz.heap.size wz wz.drew := (Below.refl _ _).drew
  clear hwz hg9 hg12
  have heq : ∀ W, (Op.equalIn 10000 60 (.agg (arrS T)) (.agg #[.int .u64 (T 0 : Int), .int .u64 (T 1 : Int), .int .u64 (T 2 : Int), .int .u64 (T 3 : Int), .int .u64 (T 4 : Int), .int .u64 (T 5 : Int), .int .u64 (T 6 : Int)])).run Try.prog W = .ok true W := fun W => set2_eq T W
  go_region_held (fun W => Below wz.heap.size wz W) (first | assumption | exact hS0)
    (first | (go_at_call 36; refine (HOF.out _).mono ?_; rintro e wf ⟨rfl, bf⟩; have hSf : Below wz.heap.size wz wf := hS0.trans (bf.mono hS0.size); clear bf))
  clear x0 x1 x2 x3 x4 x5 y0 y1 y2 y3 y4 y5 y6
  go_wp2_with fail
  go_ret
  exact ⟨rfl, HBF.out.trans (hSf.mono HBF.out.size)⟩
set_option maxRecDepth 100000 in
set_option maxHeartbeats 4000000 in
theorem setBounds_9 (id k less : Int) (i v : Nat) (h : BdN id k less i v) (c1 : i = 0) (c2 : True) (w : World) :
    Calls Try.prog 10 #[.int .u8 id, .int .u8 k, .int .i8 less] w fun e w' => e = .returned (.bool true) ∧ Below w.heap.size w w' := by
  obtain ⟨hi, hi8, hv, j, x, D, DU, hj, hkj, hjx, hD, hD1, hD2, hDU, hxv⟩ := h
  have HK := Bx.mk (fun W => known13_any W)
  have HD := Bx.mk (fun W => pDefault_any W)
  have HRD := Bx.mk (fun W => refDefault_any W)
  have HBD := Bx.mk (fun W => bd_rows W)
  have HI9 : i < 9 := by omega
  have hcs : ∀ W : World, ∃ b o : Nat, (∀ U : World, (Instr.indexAt 71 (.slice (some ⟨W.heap.size, 0, none⟩) 7 7) (.int .u8 (j : Int))).run Try.prog U = .ok (.pointer (some ⟨b, o, none⟩)) U) ∧ (W.alloc (.cells bdA 45)).cell? ⟨b, o, none⟩ = some (.int .u64 (x : Int)) := fun W => by
    obtain ⟨b, o, h1, h2⟩ := Rows.at_ Try.underlying71 u64s_size (by decide) u64v_len (bd_rows W) j hj
    refine ⟨b, o, fun U => h1 .u8 U, ?_⟩
    have := h2 _ (bd_rows W) 0 (.int .u64 (x : Int)) (by rw [hjx]; rfl)
    simpa using this
  have HCS := Bx.mk hcs
  have hw1 : IntKind.i8.wrap D = D := by
    rcases (by omega : D = -1 ∨ D = 0 ∨ D = 1) with h | h | h <;> rw [h] <;> rfl
  have hw2 : wrap64 D = D := by unfold wrap64; omega
  have hw22 : IntKind.i64.wrap D = D := by rw [IntKind.wrap_i64]; omega
  have hj7 : j < 7 := hj
  obtain ⟨JI, hJI⟩ : ∃ X : Int, (j : Int) = X := ⟨_, rfl⟩
  obtain ⟨XI, hXI⟩ : ∃ X : Int, (x : Int) = X := ⟨_, rfl⟩
  obtain ⟨II, hII⟩ : ∃ X : Int, (i : Int) = X := ⟨_, rfl⟩
  obtain ⟨VI, hVI⟩ : ∃ X : Int, (v : Int) = X := ⟨_, rfl⟩
  have hwj : IntKind.u8.wrap JI = JI := by rw [IntKind.wrap_u8]; omega
  have hwi : IntKind.u8.wrap II = II := by rw [IntKind.wrap_u8]; omega
  have hwi2 : IntKind.u64.wrap II = II := by rw [IntKind.wrap_u64]; omega
  have HR1 : Bx (∀ W : World, Rows 2 sgvl (W.alloc (.cells #[.int .u64 II, .int .u64 VI] 63)) (.slice (some ⟨W.heap.size, 0, none⟩) 1 1) [(⟨i, v⟩ : Stg)]) := ⟨fun W => Rows.lit W 63 [(⟨i, v⟩ : Stg)] _ 1 rfl (by rw [← hII, ← hVI]; rfl) rfl (by unfold maxLen; omega)⟩
  have HAP := fun (u : Value) (W : World) (h : Rows 2 sgvl W u [(⟨i, v⟩ : Stg)]) => pApply_any defS u [⟨i, v⟩] W h (fun a ha => by rw [List.mem_singleton.1 ha]; exact ⟨by show i < _; omega, hv⟩)
  rw [apS_cons] at HAP
  simp only at HAP
  rw [hII] at hi
  rw [hXI, hVI] at hxv
  rw [hJI] at hkj
  rw [hXI, hJI] at HCS
  have hE : setE i v = 0 := by unfold setE; rw [if_neg (by omega), if_neg (by omega), if_neg (by omega)]
  rw [hE, if_pos rfl, show apS (setP defS i v) [] = (setP defS i v, 0) from rfl] at HAP
  rw [setP_no defS i v (by omega)] at HAP
  replace HAP := Bx.mk HAP
  have f0 : (II == 2) = false := by rw [beq_eq_false_iff_ne]; omega
  have f1 : (II == 5) = false := by rw [beq_eq_false_iff_ne]; omega
  have f2 : (II == 4) = false := by rw [beq_eq_false_iff_ne]; omega
  have f3 : decide (1 ≤ II) = false := decide_eq_false (by omega)
  have HOF := Bx.mk (fun W => of13_any defS rfl W)
  clear hE c1 c2 hi8 hv hj hjx hD1 hD2 hJI hXI hII hVI hj7 hcs
  obtain ⟨T, hT⟩ : ∃ T, defS = T := ⟨_, rfl⟩
  rw [hT] at HAP HOF
  rw [hT] at HRD
  go_enter Try.func10, Try.ntmps10
  go_upto_region 19 with (first
    | (go_at_call 34; refine (HK.out _).mono ?_; rintro e w1 ⟨rfl, b1⟩; have HB1 := Bx.mk b1; obtain ⟨b, o, hix, hcx⟩ := HCS.out w1; have HB2 := Bx.mk (HB1.out.alloc HB1.out.size (.cells bdA 45)); clear b1)
    | (go_at_call 40; refine (HD.out _).mono ?_; rintro e w3 ⟨rfl, b3⟩; have HB3 := Bx.mk (HB2.out.trans (b3.mono HB2.out.size)); have HL := Bx.mk (HR1.out w3); have HB4 := Bx.mk (HB3.out.alloc HB3.out.size (.cells #[.int .u64 II, .int .u64 VI] 63)); clear b3)
    | (go_at_call 38; refine (HAP.out _ _ HL.out).mono ?_; rintro e w5 ⟨rfl, b5⟩; have HB5 := Bx.mk (HB4.out.trans (b5.mono HB4.out.size)); have HN9 : Bx (Sb 57 (w5.alloc (.cells (arrH T) 57)) w5.heap.size (arrH T)) := ⟨Sb.new _ w5 _⟩; have HB6 := Bx.mk (HB5.out.alloc HB5.out.size (.cells (arrH T) 57)); clear b5)
    | (go_at_call 41; refine (HRD.out _).mono ?_; rintro e w7 ⟨rfl, b7⟩; have HB7 := Bx.mk (HB6.out.trans (b7.mono HB6.out.size)); have HN7 := Bx.mk (HN9.out.keep b7); have HN12 : Bx (Sb 60 (w7.alloc (.cells (arrS T) 60)) w7.heap.size (arrS T)) := ⟨Sb.new _ w7 _⟩; have HB8 := Bx.mk (HB7.out.alloc HB7.out.size (.cells (arrS T) 60)); have HN8 := Bx.mk (HN7.out.alloc (.cells (arrS T) 60)); clear b7))
  have HS12 := HN12.out
  have HF9 := HN8.out
  have HBF := HB8.out
  obtain ⟨g9, hg9⟩ : ∃ g, w5.heap.size = g := ⟨_, rfl⟩
  obtain ⟨g12, hg12⟩ : ∃ g, w7.heap.size = g := ⟨_, rfl⟩
  obtain ⟨wz, hwz⟩ : ∃ W, (w7.alloc (.cells (arrS T) 60)) = W := ⟨_, rfl⟩
  replace HS12 := Bx.mk HS12
  replace HF9 := Bx.mk HF9
  replace HBF := Bx.mk HBF
  rw [hwz] at HS12 HF9 HBF ⊢
  rw [hg9] at HF9 ⊢
  rw [hg12] at HS12 ⊢
  have x0 := fun (W : World) (h : Below wz.heap.size wz W) => (HF9.out.cells6 h HF9.out.lt).1
  have x1 := fun (W : World) (h : Below wz.heap.size wz W) => (HF9.out.cells6 h HF9.out.lt).2.1
  have x2 := fun (W : World) (h : Below wz.heap.size wz W) => (HF9.out.cells6 h HF9.out.lt).2.2.1
  have x3 := fun (W : World) (h : Below wz.heap.size wz W) => (HF9.out.cells6 h HF9.out.lt).2.2.2.1
  have x4 := fun (W : World) (h : Below wz.heap.size wz W) => (HF9.out.cells6 h HF9.out.lt).2.2.2.2.1
  have x5 := fun (W : World) (h : Below wz.heap.size wz W) => (HF9.out.cells6 h HF9.out.lt).2.2.2.2.2
  have y0 := fun (W : World) (h : Below wz.heap.size wz W) => ((HS12.out.below h HS12.out.lt).cell 0).trans (arrS_at T 0 (by omega))
  have y1 := fun (W : World) (h : Below wz.heap.size wz W) => ((HS12.out.below h HS12.out.lt).cell 1).trans (arrS_at T 1 (by omega))
  have y2 := fun (W : World) (h : Below wz.heap.size wz W) => ((HS12.out.below h HS12.out.lt).cell 2).trans (arrS_at T 2 (by omega))
  have y3 := fun (W : World) (h : Below wz.heap.size wz W) => ((HS12.out.below h HS12.out.lt).cell 3).trans (arrS_at T 3 (by omega))
  have y4 := fun (W : World) (h : Below wz.heap.size wz W) => ((HS12.out.below h HS12.out.lt).cell 4).trans (arrS_at T 4 (by omega))
  have y5 := fun (W : World) (h : Below wz.heap.size wz W) => ((HS12.out.below h HS12.out.lt).cell 5).trans (arrS_at T 5 (by omega))
  have y6 := fun (W : World) (h : Below wz.heap.size wz W) => ((HS12.out.below h HS12.out.lt).cell 6).trans (arrS_at T 6 (by omega))
  have hS0 : Below wz.heap.size wz wz.drew := (Below.refl _ _).drew
  clear hwz hg9 hg12
  have heq : ∀ W, (Op.equalIn 10000 60 (.agg (arrS T)) (.agg #[.int .u64 (T 0 : Int), .int .u64 (T 1 : Int), .int .u64 (T 2 : Int), .int .u64 (T 3 : Int), .int .u64 (T 4 : Int), .int .u64 (T 5 : Int), .int .u64 (T 6 : Int)])).run Try.prog W = .ok true W := fun W => set2_eq T W
  go_region_held (fun W => Below wz.heap.size wz W) (first | assumption | exact hS0)
    (first | (go_at_call 36; refine (HOF.out _).mono ?_; rintro e wf ⟨rfl, bf⟩; have hSf : Below wz.heap.size wz wf := hS0.trans (bf.mono hS0.size); clear bf))
  clear x0 x1 x2 x3 x4 x5 y0 y1 y2 y3 y4 y5 y6
  go_wp2_with fail
  go_ret
  exact ⟨rfl, HBF.out.trans (hSf.mono HBF.out.size)⟩
set_option maxRecDepth 100000 in
set_option maxHeartbeats 4000000 in
theorem setBounds_10 (id k less : Int) (i v : Nat) (h : BdN id k less i v) (c1 : 6 < i) (c2 : True) (w : World) :
    Calls Try.prog 10 #[.int .u8 id, .int .u8 k, .int .i8 less] w fun e w' => e = .returned (.bool true) ∧ Below w.heap.size w w' := by
  obtain ⟨hi, hi8, hv, j, x, D, DU, hj, hkj, hjx, hD, hD1, hD2, hDU, hxv⟩ := h
  have HK := Bx.mk (fun W => known13_any W)
  have HD := Bx.mk (fun W => pDefault_any W)
  have HRD := Bx.mk (fun W => refDefault_any W)
  have HBD := Bx.mk (fun W => bd_rows W)
  have HI9 : i < 9 := by omega
  have hcs : ∀ W : World, ∃ b o : Nat, (∀ U : World, (Instr.indexAt 71 (.slice (some ⟨W.heap.size, 0, none⟩) 7 7) (.int .u8 (j : Int))).run Try.prog U = .ok (.pointer (some ⟨b, o, none⟩)) U) ∧ (W.alloc (.cells bdA 45)).cell? ⟨b, o, none⟩ = some (.int .u64 (x : Int)) := fun W => by
    obtain ⟨b, o, h1, h2⟩ := Rows.at_ Try.underlying71 u64s_size (by decide) u64v_len (bd_rows W) j hj
    refine ⟨b, o, fun U => h1 .u8 U, ?_⟩
    have := h2 _ (bd_rows W) 0 (.int .u64 (x : Int)) (by rw [hjx]; rfl)
    simpa using this
  have HCS := Bx.mk hcs
  have hw1 : IntKind.i8.wrap D = D := by
    rcases (by omega : D = -1 ∨ D = 0 ∨ D = 1) with h | h | h <;> rw [h] <;> rfl
  have hw2 : wrap64 D = D := by unfold wrap64; omega
  have hw22 : IntKind.i64.wrap D = D := by rw [IntKind.wrap_i64]; omega
  have hj7 : j < 7 := hj
  obtain ⟨JI, hJI⟩ : ∃ X : Int, (j : Int) = X := ⟨_, rfl⟩
  obtain ⟨XI, hXI⟩ : ∃ X : Int, (x : Int) = X := ⟨_, rfl⟩
  obtain ⟨II, hII⟩ : ∃ X : Int, (i : Int) = X := ⟨_, rfl⟩
  obtain ⟨VI, hVI⟩ : ∃ X : Int, (v : Int) = X := ⟨_, rfl⟩
  have hwj : IntKind.u8.wrap JI = JI := by rw [IntKind.wrap_u8]; omega
  have hwi : IntKind.u8.wrap II = II := by rw [IntKind.wrap_u8]; omega
  have hwi2 : IntKind.u64.wrap II = II := by rw [IntKind.wrap_u64]; omega
  have HR1 : Bx (∀ W : World, Rows 2 sgvl (W.alloc (.cells #[.int .u64 II, .int .u64 VI] 63)) (.slice (some ⟨W.heap.size, 0, none⟩) 1 1) [(⟨i, v⟩ : Stg)]) := ⟨fun W => Rows.lit W 63 [(⟨i, v⟩ : Stg)] _ 1 rfl (by rw [← hII, ← hVI]; rfl) rfl (by unfold maxLen; omega)⟩
  have HAP := fun (u : Value) (W : World) (h : Rows 2 sgvl W u [(⟨i, v⟩ : Stg)]) => pApply_any defS u [⟨i, v⟩] W h (fun a ha => by rw [List.mem_singleton.1 ha]; exact ⟨by show i < _; omega, hv⟩)
  rw [apS_cons] at HAP
  simp only at HAP
  rw [hII] at hi
  rw [hXI, hVI] at hxv
  rw [hJI] at hkj
  rw [hXI, hJI] at HCS
  have hE : setE i v = 0 := by unfold setE; rw [if_neg (by omega), if_neg (by omega), if_neg (by omega)]
  rw [hE, if_pos rfl, show apS (setP defS i v) [] = (setP defS i v, 0) from rfl] at HAP
  rw [setP_no defS i v (by omega)] at HAP
  replace HAP := Bx.mk HAP
  have f0 : (II == 2) = false := by rw [beq_eq_false_iff_ne]; omega
  have f1 : (II == 5) = false := by rw [beq_eq_false_iff_ne]; omega
  have f2 : (II == 4) = false := by rw [beq_eq_false_iff_ne]; omega
  have f3 : decide (1 ≤ II) = true := decide_eq_true (by omega)
  have f4 : decide (II ≤ 6) = false := decide_eq_false (by omega)
  have HOF := Bx.mk (fun W => of13_any defS rfl W)
  clear hE c1 c2 hi8 hv hj hjx hD1 hD2 hJI hXI hII hVI hj7 hcs
  obtain ⟨T, hT⟩ : ∃ T, defS = T := ⟨_, rfl⟩
  rw [hT] at HAP HOF
  rw [hT] at HRD
  go_enter Try.func10, Try.ntmps10
  go_upto_region 19 with (first
    | (go_at_call 34; refine (HK.out _).mono ?_; rintro e w1 ⟨rfl, b1⟩; have HB1 := Bx.mk b1; obtain ⟨b, o, hix, hcx⟩ := HCS.out w1; have HB2 := Bx.mk (HB1.out.alloc HB1.out.size (.cells bdA 45)); clear b1)
    | (go_at_call 40; refine (HD.out _).mono ?_; rintro e w3 ⟨rfl, b3⟩; have HB3 := Bx.mk (HB2.out.trans (b3.mono HB2.out.size)); have HL := Bx.mk (HR1.out w3); have HB4 := Bx.mk (HB3.out.alloc HB3.out.size (.cells #[.int .u64 II, .int .u64 VI] 63)); clear b3)
    | (go_at_call 38; refine (HAP.out _ _ HL.out).mono ?_; rintro e w5 ⟨rfl, b5⟩; have HB5 := Bx.mk (HB4.out.trans (b5.mono HB4.out.size)); have HN9 : Bx (Sb 57 (w5.alloc (.cells (arrH T) 57)) w5.heap.size (arrH T)) := ⟨Sb.new _ w5 _⟩; have HB6 := Bx.mk (HB5.out.alloc HB5.out.size (.cells (arrH T) 57)); clear b5)
    | (go_at_call 41; refine (HRD.out _).mono ?_; rintro e w7 ⟨rfl, b7⟩; have HB7 := Bx.mk (HB6.out.trans (b7.mono HB6.out.size)); have HN7 := Bx.mk (HN9.out.keep b7); have HN12 : Bx (Sb 60 (w7.alloc (.cells (arrS T) 60)) w7.heap.size (arrS T)) := ⟨Sb.new _ w7 _⟩; have HB8 := Bx.mk (HB7.out.alloc HB7.out.size (.cells (arrS T) 60)); have HN8 := Bx.mk (HN7.out.alloc (.cells (arrS T) 60)); clear b7))
  have HS12 := HN12.out
  have HF9 := HN8.out
  have HBF := HB8.out
  obtain ⟨g9, hg9⟩ : ∃ g, w5.heap.size = g := ⟨_, rfl⟩
  obtain ⟨g12, hg12⟩ : ∃ g, w7.heap.size = g := ⟨_, rfl⟩
  obtain ⟨wz, hwz⟩ : ∃ W, (w7.alloc (.cells (arrS T) 60)) = W := ⟨_, rfl⟩
  replace HS12 := Bx.mk HS12
  replace HF9 := Bx.mk HF9
  replace HBF := Bx.mk HBF
  rw [hwz] at HS12 HF9 HBF ⊢
  rw [hg9] at HF9 ⊢
  rw [hg12] at HS12 ⊢
  have x0 := fun (W : World) (h : Below wz.heap.size wz W) => (HF9.out.cells6 h HF9.out.lt).1
  have x1 := fun (W : World) (h : Below wz.heap.size wz W) => (HF9.out.cells6 h HF9.out.lt).2.1
  have x2 := fun (W : World) (h : Below wz.heap.size wz W) => (HF9.out.cells6 h HF9.out.lt).2.2.1
  have x3 := fun (W : World) (h : Below wz.heap.size wz W) => (HF9.out.cells6 h HF9.out.lt).2.2.2.1
  have x4 := fun (W : World) (h : Below wz.heap.size wz W) => (HF9.out.cells6 h HF9.out.lt).2.2.2.2.1
  have x5 := fun (W : World) (h : Below wz.heap.size wz W) => (HF9.out.cells6 h HF9.out.lt).2.2.2.2.2
  have y0 := fun (W : World) (h : Below wz.heap.size wz W) => ((HS12.out.below h HS12.out.lt).cell 0).trans (arrS_at T 0 (by omega))
  have y1 := fun (W : World) (h : Below wz.heap.size wz W) => ((HS12.out.below h HS12.out.lt).cell 1).trans (arrS_at T 1 (by omega))
  have y2 := fun (W : World) (h : Below wz.heap.size wz W) => ((HS12.out.below h HS12.out.lt).cell 2).trans (arrS_at T 2 (by omega))
  have y3 := fun (W : World) (h : Below wz.heap.size wz W) => ((HS12.out.below h HS12.out.lt).cell 3).trans (arrS_at T 3 (by omega))
  have y4 := fun (W : World) (h : Below wz.heap.size wz W) => ((HS12.out.below h HS12.out.lt).cell 4).trans (arrS_at T 4 (by omega))
  have y5 := fun (W : World) (h : Below wz.heap.size wz W) => ((HS12.out.below h HS12.out.lt).cell 5).trans (arrS_at T 5 (by omega))
  have y6 := fun (W : World) (h : Below wz.heap.size wz W) => ((HS12.out.below h HS12.out.lt).cell 6).trans (arrS_at T 6 (by omega))
  have hS0 : Below wz.heap.size wz wz.drew := (Below.refl _ _).drew
  clear hwz hg9 hg12
  have heq : ∀ W, (Op.equalIn 10000 60 (.agg (arrS T)) (.agg #[.int .u64 (T 0 : Int), .int .u64 (T 1 : Int), .int .u64 (T 2 : Int), .int .u64 (T 3 : Int), .int .u64 (T 4 : Int), .int .u64 (T 5 : Int), .int .u64 (T 6 : Int)])).run Try.prog W = .ok true W := fun W => set2_eq T W
  go_region_held (fun W => Below wz.heap.size wz W) (first | assumption | exact hS0)
    (first | (go_at_call 36; refine (HOF.out _).mono ?_; rintro e wf ⟨rfl, bf⟩; have hSf : Below wz.heap.size wz wf := hS0.trans (bf.mono hS0.size); clear bf))
  clear x0 x1 x2 x3 x4 x5 y0 y1 y2 y3 y4 y5 y6
  go_wp2_with fail
  go_ret
  exact ⟨rfl, HBF.out.trans (hSf.mono HBF.out.size)⟩
theorem setBounds_walk (id k less : Int) (h1 : (Lit.int .u8 id).wf = true) (h2 : (Lit.int .u8 k).wf = true) (h3 : (Lit.int .i8 less).wf = true) (w : World) :
    Calls Try.prog 10 #[.int .u8 id, .int .u8 k, .int .i8 less] w fun e w' => e = .returned (.bool true) ∧ Below w.heap.size w w' := by
  obtain ⟨n, rfl, hn⟩ := u8W h1
  obtain ⟨m, rfl, hm⟩ := u8W h2
  have hj : m % 7 < bdT.length := Nat.mod_lt _ (by decide)
  obtain ⟨x, hx⟩ : ∃ x, bdT[m % 7] = x := ⟨_, rfl⟩
  obtain ⟨D, hD⟩ : ∃ D, less.tmod 2 = D := ⟨_, rfl⟩
  have hD1 : -1 ≤ D ∧ D ≤ 1 := by
    have a := Int.lt_tmod_of_pos less (show (0 : Int) < 2 by decide)
    have b := Int.tmod_lt_of_pos less (show (0 : Int) < 2 by decide)
    omega
  obtain ⟨v, hv, hv2⟩ : ∃ v : Nat, IntKind.u64.wrap ((x : Int) + IntKind.u64.wrap D) = (v : Int) ∧ v < 18446744073709551616 := by
    refine ⟨(IntKind.u64.wrap ((x : Int) + IntKind.u64.wrap D)).toNat, ?_, ?_⟩ <;> rw [IntKind.wrap_u64] <;> omega
  have H : BdN (n : Int) (m : Int) less (n % 9) v := ⟨by rw [Int.tmod_eq_emod_of_nonneg (by omega)]; omega, by omega, hv2, m % 7, x, D, _, hj, by rw [Int.tmod_eq_emod_of_nonneg (by omega)]; omega, hx, hD, hD1.1, hD1.2, rfl, hv⟩
  have hr : n % 9 < 9 := Nat.mod_lt _ (by decide)
  obtain ⟨i, hi⟩ : ∃ i, n % 9 = i := ⟨_, rfl⟩
  rw [hi] at H hr
  by_cases i2 : i = 2
  · by_cases c : 1 < v
    · exact setBounds_1 _ _ _ i v H i2 c w
    · exact setBounds_5 _ _ _ i v H i2 c w
  by_cases i5 : i = 5
  · by_cases c : v < 16384
    · exact setBounds_2 _ _ _ i v H i5 c w
    · by_cases c2 : 16777215 < v
      · exact setBounds_3 _ _ _ i v H i5 c2 w
      · exact setBounds_6 _ _ _ i v H i5 (by omega) w
  by_cases i4 : i = 4
  · by_cases c : 2147483647 < v
    · exact setBounds_4 _ _ _ i v H i4 c w
    · exact setBounds_7 _ _ _ i v H i4 c w
  by_cases i0 : i = 0
  · exact setBounds_9 _ _ _ i v H i0 trivial w
  by_cases i7 : 6 < i
  · exact setBounds_10 _ _ _ i v H i7 trivial w
  exact setBounds_8 _ _ _ i v H (by omega) trivial w
end Go.Proofs.Ytenoaljghbpaaaa
