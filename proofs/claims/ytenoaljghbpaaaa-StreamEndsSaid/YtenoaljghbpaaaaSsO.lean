/-
  Contract of h2stream.moves.
-/
import Derived.Test.YtenoaljghbpaaaaSsN
import Derived.Deep.CutRange
import Derived.Deep.CutBlock
import Derived.Handy
namespace Go.Proofs.Ytenoaljghbpaaaa
open Go.RowKit Go.Maps
set_option linter.unusedVariables false
set_option linter.unusedSimpArgs false

theorem mvI_ok (x y : Int) (hx : (Lit.int .i64 x).wf = true) (hy : (Lit.int .i64 y).wf = true) : ∀ i ∈ mvI x y, mkOk i.2.1 ∧ (Lit.int .i64 i.2.2).wf = true := by
  unfold mvI
  simp only [List.mem_cons, List.not_mem_nil, or_false, forall_eq_or_imp, forall_eq]
  exact ⟨⟨⟨by first | rfl | assumption, by rfl⟩, by first | rfl | assumption⟩,
    ⟨⟨by first | rfl | assumption, by rfl⟩, by first | rfl | assumption⟩,
    ⟨⟨by first | rfl | assumption, by rfl⟩, by first | rfl | assumption⟩,
    ⟨⟨by first | rfl | assumption, by rfl⟩, by first | rfl | assumption⟩,
    ⟨⟨by first | rfl | assumption, by rfl⟩, by first | rfl | assumption⟩,
    ⟨⟨by first | rfl | assumption, by rfl⟩, by first | rfl | assumption⟩,
    ⟨⟨by first | rfl | assumption, by rfl⟩, by first | rfl | assumption⟩,
    ⟨⟨by first | rfl | assumption, by rfl⟩, by first | rfl | assumption⟩,
    ⟨⟨by first | rfl | assumption, by rfl⟩, by first | rfl | assumption⟩,
    ⟨⟨by first | rfl | assumption, by rfl⟩, by first | rfl | assumption⟩,
    ⟨⟨by first | rfl | assumption, by rfl⟩, by first | rfl | assumption⟩,
    ⟨⟨by first | rfl | assumption, by rfl⟩, by first | rfl | assumption⟩,
    ⟨⟨by first | rfl | assumption, by rfl⟩, by first | rfl | assumption⟩,
    ⟨⟨by first | rfl | assumption, by rfl⟩, by first | rfl | assumption⟩,
    ⟨⟨by first | rfl | assumption, by rfl⟩, by first | rfl | assumption⟩,
    ⟨⟨by first | rfl | assumption, by rfl⟩, by first | rfl | assumption⟩,
    ⟨⟨by first | rfl | assumption, by rfl⟩, by first | rfl | assumption⟩,
    ⟨⟨by first | rfl | assumption, by rfl⟩, by first | rfl | assumption⟩,
    ⟨⟨by first | rfl | assumption, by rfl⟩, by first | rfl | assumption⟩,
    ⟨⟨by first | rfl | assumption, by rfl⟩, by first | rfl | assumption⟩,
    ⟨⟨by first | rfl | assumption, by rfl⟩, by first | rfl | assumption⟩,
    ⟨⟨by first | rfl | assumption, by rfl⟩, by first | rfl | assumption⟩,
    ⟨⟨by first | rfl | assumption, by rfl⟩, by first | rfl | assumption⟩,
    ⟨⟨by first | rfl | assumption, by rfl⟩, by first | rfl | assumption⟩⟩
set_option maxRecDepth 100000 in
set_option maxHeartbeats 8000000 in
theorem moves_any (x y : Int) (hx : (Lit.int .i64 x).wf = true) (hy : (Lit.int .i64 y).wf = true) (hu : ∀ k v v', (k, v) ∈ mvL x y → (k, v') ∈ mvL x y → v = v') (w : World) :
    Calls Try.prog 98 #[.int .i64 x, .int .i64 y] w fun e w' => ∃ b, w.heap.size ≤ b ∧ e = .returned (.map (some b)) ∧ MvW b 24 (mvL x y) w' ∧ Below w.heap.size w w' := by
  have HOK := Bx.mk (mvI_ok x y hx hy)
  have HU := Bx.mk hu
  clear hu
  have hmm : ∀ (W : World), (Instr.makeMap 141 none).run Try.prog W = .ok (.map (some W.heap.size)) (W.alloc (.map #[] 0)) := fun W => run_makeMap _ W
  go_enter Try.func98, Try.ntmps98
  go_upto_region 1 with fail
  refine wp_region_x 71 (fun W => True) (by kernel_rfl) (trivial) (fun hHeld => ?_)
  refine wpAnyX_take0 (i := 1) (oi := ⟨some 6, Op.build 144 #[(0, Operand.const (Value.int IntKind.i64 0)), (1, Operand.const (Value.int IntKind.u8 1)), (2, Operand.const (Value.bool false))], 144, _, _, none⟩) (v := ?v1) rfl (by omega) (by kernel_rfl) (by kernel_rfl) (by kernel_rfl) (fun _ _ _ h => h) (Or.inl ⟨by rfl, ?y1⟩) (by assumption) ?r1
  case y1 =>
    intro W hSw
    try dsimp only at hSw
    go_simp
    try with_reducible rfl
  case r1 =>
  try simp only [Act.put, List.setIfInBounds_toArray, List.set_cons_zero, List.set_cons_succ]
  refine wpAnyX_take0 (i := 3) (oi := ⟨some 7, Op.build 144 #[(0, Operand.const (Value.int IntKind.i64 0)), (1, Operand.const (Value.int IntKind.u8 1)), (2, Operand.const (Value.bool true))], 144, _, _, none⟩) (v := ?v3) rfl (by omega) (by kernel_rfl) (by kernel_rfl) (by kernel_rfl) (fun _ _ _ h => h) (Or.inl ⟨by rfl, ?y3⟩) (by assumption) ?r3
  case y3 =>
    intro W hSw
    try dsimp only at hSw
    go_simp
    try with_reducible rfl
  case r3 =>
  try simp only [Act.put, List.setIfInBounds_toArray, List.set_cons_zero, List.set_cons_succ]
  refine wpAnyX_take0 (i := 4) (oi := ⟨some 8, Op.move (Operand.tmp 0), 3, _, _, none⟩) (v := ?v4) rfl (by omega) (by kernel_rfl) (by kernel_rfl) (by kernel_rfl) (fun _ _ _ h => h) (Or.inl ⟨by rfl, ?y4⟩) (by assumption) ?r4
  case y4 =>
    intro W hSw
    try dsimp only at hSw
    go_simp
    try with_reducible rfl
  case r4 =>
  try simp only [Act.put, List.setIfInBounds_toArray, List.set_cons_zero, List.set_cons_succ]
  refine wpAnyX_take0 (i := 6) (oi := ⟨some 9, Op.build 144 #[(0, Operand.const (Value.int IntKind.i64 1)), (1, Operand.const (Value.int IntKind.u8 1)), (2, Operand.const (Value.bool false))], 144, _, _, none⟩) (v := ?v6) rfl (by omega) (by kernel_rfl) (by kernel_rfl) (by kernel_rfl) (fun _ _ _ h => h) (Or.inl ⟨by rfl, ?y6⟩) (by assumption) ?r6
  case y6 =>
    intro W hSw
    try dsimp only at hSw
    go_simp
    try with_reducible rfl
  case r6 =>
  try simp only [Act.put, List.setIfInBounds_toArray, List.set_cons_zero, List.set_cons_succ]
  refine wpAnyX_take0 (i := 8) (oi := ⟨some 10, Op.build 144 #[(0, Operand.const (Value.int IntKind.i64 1)), (1, Operand.const (Value.int IntKind.u8 1)), (2, Operand.const (Value.bool true))], 144, _, _, none⟩) (v := ?v8) rfl (by omega) (by kernel_rfl) (by kernel_rfl) (by kernel_rfl) (fun _ _ _ h => h) (Or.inl ⟨by rfl, ?y8⟩) (by assumption) ?r8
  case y8 =>
    intro W hSw
    try dsimp only at hSw
    go_simp
    try with_reducible rfl
  case r8 =>
  try simp only [Act.put, List.setIfInBounds_toArray, List.set_cons_zero, List.set_cons_succ]
  refine wpAnyX_take0 (i := 9) (oi := ⟨some 11, Op.move (Operand.tmp 0), 3, _, _, none⟩) (v := ?v9) rfl (by omega) (by kernel_rfl) (by kernel_rfl) (by kernel_rfl) (fun _ _ _ h => h) (Or.inl ⟨by rfl, ?y9⟩) (by assumption) ?r9
  case y9 =>
    intro W hSw
    try dsimp only at hSw
    go_simp
    try with_reducible rfl
  case r9 =>
  try simp only [Act.put, List.setIfInBounds_toArray, List.set_cons_zero, List.set_cons_succ]
  refine wpAnyX_take0 (i := 11) (oi := ⟨some 12, Op.move (Operand.tmp 1), 3, _, _, none⟩) (v := ?v11) rfl (by omega) (by kernel_rfl) (by kernel_rfl) (by kernel_rfl) (fun _ _ _ h => h) (Or.inl ⟨by rfl, ?y11⟩) (by assumption) ?r11
  case y11 =>
    intro W hSw
    try dsimp only at hSw
    go_simp
    try with_reducible rfl
  case r11 =>
  try simp only [Act.put, List.setIfInBounds_toArray, List.set_cons_zero, List.set_cons_succ]
  refine wpAnyX_take0 (i := 12) (oi := ⟨some 13, Op.build 144 #[(0, Operand.tmp 12), (1, Operand.const (Value.int IntKind.u8 1)), (2, Operand.const (Value.bool false))], 144, _, _, none⟩) (v := ?v12) rfl (by omega) (by kernel_rfl) (by kernel_rfl) (by kernel_rfl) (fun _ _ _ h => h) (Or.inl ⟨by rfl, ?y12⟩) (by assumption) ?r12
  case y12 =>
    intro W hSw
    try dsimp only at hSw
    go_simp
    try with_reducible rfl
  case r12 =>
  try simp only [Act.put, List.setIfInBounds_toArray, List.set_cons_zero, List.set_cons_succ]
  refine wpAnyX_take0 (i := 13) (oi := ⟨some 14, Op.move (Operand.tmp 1), 3, _, _, none⟩) (v := ?v13) rfl (by omega) (by kernel_rfl) (by kernel_rfl) (by kernel_rfl) (fun _ _ _ h => h) (Or.inl ⟨by rfl, ?y13⟩) (by assumption) ?r13
  case y13 =>
    intro W hSw
    try dsimp only at hSw
    go_simp
    try with_reducible rfl
  case r13 =>
  try simp only [Act.put, List.setIfInBounds_toArray, List.set_cons_zero, List.set_cons_succ]
  refine wpAnyX_take0 (i := 15) (oi := ⟨some 15, Op.move (Operand.tmp 1), 3, _, _, none⟩) (v := ?v15) rfl (by omega) (by kernel_rfl) (by kernel_rfl) (by kernel_rfl) (fun _ _ _ h => h) (Or.inl ⟨by rfl, ?y15⟩) (by assumption) ?r15
  case y15 =>
    intro W hSw
    try dsimp only at hSw
    go_simp
    try with_reducible rfl
  case r15 =>
  try simp only [Act.put, List.setIfInBounds_toArray, List.set_cons_zero, List.set_cons_succ]
  refine wpAnyX_take0 (i := 16) (oi := ⟨some 16, Op.build 144 #[(0, Operand.tmp 15), (1, Operand.const (Value.int IntKind.u8 1)), (2, Operand.const (Value.bool true))], 144, _, _, none⟩) (v := ?v16) rfl (by omega) (by kernel_rfl) (by kernel_rfl) (by kernel_rfl) (fun _ _ _ h => h) (Or.inl ⟨by rfl, ?y16⟩) (by assumption) ?r16
  case y16 =>
    intro W hSw
    try dsimp only at hSw
    go_simp
    try with_reducible rfl
  case r16 =>
  try simp only [Act.put, List.setIfInBounds_toArray, List.set_cons_zero, List.set_cons_succ]
  refine wpAnyX_take0 (i := 18) (oi := ⟨some 17, Op.build 144 #[(0, Operand.const (Value.int IntKind.i64 1)), (1, Operand.const (Value.int IntKind.u8 9)), (2, Operand.const (Value.bool false))], 144, _, _, none⟩) (v := ?v18) rfl (by omega) (by kernel_rfl) (by kernel_rfl) (by kernel_rfl) (fun _ _ _ h => h) (Or.inl ⟨by rfl, ?y18⟩) (by assumption) ?r18
  case y18 =>
    intro W hSw
    try dsimp only at hSw
    go_simp
    try with_reducible rfl
  case r18 =>
  try simp only [Act.put, List.setIfInBounds_toArray, List.set_cons_zero, List.set_cons_succ]
  refine wpAnyX_take0 (i := 20) (oi := ⟨some 18, Op.move (Operand.tmp 1), 3, _, _, none⟩) (v := ?v20) rfl (by omega) (by kernel_rfl) (by kernel_rfl) (by kernel_rfl) (fun _ _ _ h => h) (Or.inl ⟨by rfl, ?y20⟩) (by assumption) ?r20
  case y20 =>
    intro W hSw
    try dsimp only at hSw
    go_simp
    try with_reducible rfl
  case r20 =>
  try simp only [Act.put, List.setIfInBounds_toArray, List.set_cons_zero, List.set_cons_succ]
  refine wpAnyX_take0 (i := 21) (oi := ⟨some 19, Op.build 144 #[(0, Operand.tmp 18), (1, Operand.const (Value.int IntKind.u8 9)), (2, Operand.const (Value.bool false))], 144, _, _, none⟩) (v := ?v21) rfl (by omega) (by kernel_rfl) (by kernel_rfl) (by kernel_rfl) (fun _ _ _ h => h) (Or.inl ⟨by rfl, ?y21⟩) (by assumption) ?r21
  case y21 =>
    intro W hSw
    try dsimp only at hSw
    go_simp
    try with_reducible rfl
  case r21 =>
  try simp only [Act.put, List.setIfInBounds_toArray, List.set_cons_zero, List.set_cons_succ]
  refine wpAnyX_take0 (i := 22) (oi := ⟨some 20, Op.move (Operand.tmp 1), 3, _, _, none⟩) (v := ?v22) rfl (by omega) (by kernel_rfl) (by kernel_rfl) (by kernel_rfl) (fun _ _ _ h => h) (Or.inl ⟨by rfl, ?y22⟩) (by assumption) ?r22
  case y22 =>
    intro W hSw
    try dsimp only at hSw
    go_simp
    try with_reducible rfl
  case r22 =>
  try simp only [Act.put, List.setIfInBounds_toArray, List.set_cons_zero, List.set_cons_succ]
  refine wpAnyX_take0 (i := 24) (oi := ⟨some 21, Op.build 144 #[(0, Operand.const (Value.int IntKind.i64 1)), (1, Operand.const (Value.int IntKind.u8 0)), (2, Operand.const (Value.bool false))], 144, _, _, none⟩) (v := ?v24) rfl (by omega) (by kernel_rfl) (by kernel_rfl) (by kernel_rfl) (fun _ _ _ h => h) (Or.inl ⟨by rfl, ?y24⟩) (by assumption) ?r24
  case y24 =>
    intro W hSw
    try dsimp only at hSw
    go_simp
    try with_reducible rfl
  case r24 =>
  try simp only [Act.put, List.setIfInBounds_toArray, List.set_cons_zero, List.set_cons_succ]
  refine wpAnyX_take0 (i := 26) (oi := ⟨some 22, Op.build 144 #[(0, Operand.const (Value.int IntKind.i64 1)), (1, Operand.const (Value.int IntKind.u8 0)), (2, Operand.const (Value.bool true))], 144, _, _, none⟩) (v := ?v26) rfl (by omega) (by kernel_rfl) (by kernel_rfl) (by kernel_rfl) (fun _ _ _ h => h) (Or.inl ⟨by rfl, ?y26⟩) (by assumption) ?r26
  case y26 =>
    intro W hSw
    try dsimp only at hSw
    go_simp
    try with_reducible rfl
  case r26 =>
  try simp only [Act.put, List.setIfInBounds_toArray, List.set_cons_zero, List.set_cons_succ]
  refine wpAnyX_take0 (i := 27) (oi := ⟨some 23, Op.move (Operand.tmp 0), 3, _, _, none⟩) (v := ?v27) rfl (by omega) (by kernel_rfl) (by kernel_rfl) (by kernel_rfl) (fun _ _ _ h => h) (Or.inl ⟨by rfl, ?y27⟩) (by assumption) ?r27
  case y27 =>
    intro W hSw
    try dsimp only at hSw
    go_simp
    try with_reducible rfl
  case r27 =>
  try simp only [Act.put, List.setIfInBounds_toArray, List.set_cons_zero, List.set_cons_succ]
  refine wpAnyX_take0 (i := 29) (oi := ⟨some 24, Op.move (Operand.tmp 1), 3, _, _, none⟩) (v := ?v29) rfl (by omega) (by kernel_rfl) (by kernel_rfl) (by kernel_rfl) (fun _ _ _ h => h) (Or.inl ⟨by rfl, ?y29⟩) (by assumption) ?r29
  case y29 =>
    intro W hSw
    try dsimp only at hSw
    go_simp
    try with_reducible rfl
  case r29 =>
  try simp only [Act.put, List.setIfInBounds_toArray, List.set_cons_zero, List.set_cons_succ]
  refine wpAnyX_take0 (i := 30) (oi := ⟨some 25, Op.build 144 #[(0, Operand.tmp 24), (1, Operand.const (Value.int IntKind.u8 0)), (2, Operand.const (Value.bool false))], 144, _, _, none⟩) (v := ?v30) rfl (by omega) (by kernel_rfl) (by kernel_rfl) (by kernel_rfl) (fun _ _ _ h => h) (Or.inl ⟨by rfl, ?y30⟩) (by assumption) ?r30
  case y30 =>
    intro W hSw
    try dsimp only at hSw
    go_simp
    try with_reducible rfl
  case r30 =>
  try simp only [Act.put, List.setIfInBounds_toArray, List.set_cons_zero, List.set_cons_succ]
  refine wpAnyX_take0 (i := 31) (oi := ⟨some 26, Op.move (Operand.tmp 1), 3, _, _, none⟩) (v := ?v31) rfl (by omega) (by kernel_rfl) (by kernel_rfl) (by kernel_rfl) (fun _ _ _ h => h) (Or.inl ⟨by rfl, ?y31⟩) (by assumption) ?r31
  case y31 =>
    intro W hSw
    try dsimp only at hSw
    go_simp
    try with_reducible rfl
  case r31 =>
  try simp only [Act.put, List.setIfInBounds_toArray, List.set_cons_zero, List.set_cons_succ]
  refine wpAnyX_take0 (i := 33) (oi := ⟨some 27, Op.move (Operand.tmp 1), 3, _, _, none⟩) (v := ?v33) rfl (by omega) (by kernel_rfl) (by kernel_rfl) (by kernel_rfl) (fun _ _ _ h => h) (Or.inl ⟨by rfl, ?y33⟩) (by assumption) ?r33
  case y33 =>
    intro W hSw
    try dsimp only at hSw
    go_simp
    try with_reducible rfl
  case r33 =>
  try simp only [Act.put, List.setIfInBounds_toArray, List.set_cons_zero, List.set_cons_succ]
  refine wpAnyX_take0 (i := 34) (oi := ⟨some 28, Op.build 144 #[(0, Operand.tmp 27), (1, Operand.const (Value.int IntKind.u8 0)), (2, Operand.const (Value.bool true))], 144, _, _, none⟩) (v := ?v34) rfl (by omega) (by kernel_rfl) (by kernel_rfl) (by kernel_rfl) (fun _ _ _ h => h) (Or.inl ⟨by rfl, ?y34⟩) (by assumption) ?r34
  case y34 =>
    intro W hSw
    try dsimp only at hSw
    go_simp
    try with_reducible rfl
  case r34 =>
  try simp only [Act.put, List.setIfInBounds_toArray, List.set_cons_zero, List.set_cons_succ]
  refine wpAnyX_take0 (i := 36) (oi := ⟨some 29, Op.build 144 #[(0, Operand.const (Value.int IntKind.i64 1)), (1, Operand.const (Value.int IntKind.u8 3)), (2, Operand.const (Value.bool false))], 144, _, _, none⟩) (v := ?v36) rfl (by omega) (by kernel_rfl) (by kernel_rfl) (by kernel_rfl) (fun _ _ _ h => h) (Or.inl ⟨by rfl, ?y36⟩) (by assumption) ?r36
  case y36 =>
    intro W hSw
    try dsimp only at hSw
    go_simp
    try with_reducible rfl
  case r36 =>
  try simp only [Act.put, List.setIfInBounds_toArray, List.set_cons_zero, List.set_cons_succ]
  refine wpAnyX_take0 (i := 38) (oi := ⟨some 30, Op.move (Operand.tmp 0), 3, _, _, none⟩) (v := ?v38) rfl (by omega) (by kernel_rfl) (by kernel_rfl) (by kernel_rfl) (fun _ _ _ h => h) (Or.inl ⟨by rfl, ?y38⟩) (by assumption) ?r38
  case y38 =>
    intro W hSw
    try dsimp only at hSw
    go_simp
    try with_reducible rfl
  case r38 =>
  try simp only [Act.put, List.setIfInBounds_toArray, List.set_cons_zero, List.set_cons_succ]
  refine wpAnyX_take0 (i := 39) (oi := ⟨some 31, Op.build 144 #[(0, Operand.tmp 30), (1, Operand.const (Value.int IntKind.u8 3)), (2, Operand.const (Value.bool false))], 144, _, _, none⟩) (v := ?v39) rfl (by omega) (by kernel_rfl) (by kernel_rfl) (by kernel_rfl) (fun _ _ _ h => h) (Or.inl ⟨by rfl, ?y39⟩) (by assumption) ?r39
  case y39 =>
    intro W hSw
    try dsimp only at hSw
    go_simp
    try with_reducible rfl
  case r39 =>
  try simp only [Act.put, List.setIfInBounds_toArray, List.set_cons_zero, List.set_cons_succ]
  refine wpAnyX_take0 (i := 41) (oi := ⟨some 32, Op.move (Operand.tmp 1), 3, _, _, none⟩) (v := ?v41) rfl (by omega) (by kernel_rfl) (by kernel_rfl) (by kernel_rfl) (fun _ _ _ h => h) (Or.inl ⟨by rfl, ?y41⟩) (by assumption) ?r41
  case y41 =>
    intro W hSw
    try dsimp only at hSw
    go_simp
    try with_reducible rfl
  case r41 =>
  try simp only [Act.put, List.setIfInBounds_toArray, List.set_cons_zero, List.set_cons_succ]
  refine wpAnyX_take0 (i := 42) (oi := ⟨some 33, Op.build 144 #[(0, Operand.tmp 32), (1, Operand.const (Value.int IntKind.u8 3)), (2, Operand.const (Value.bool false))], 144, _, _, none⟩) (v := ?v42) rfl (by omega) (by kernel_rfl) (by kernel_rfl) (by kernel_rfl) (fun _ _ _ h => h) (Or.inl ⟨by rfl, ?y42⟩) (by assumption) ?r42
  case y42 =>
    intro W hSw
    try dsimp only at hSw
    go_simp
    try with_reducible rfl
  case r42 =>
  try simp only [Act.put, List.setIfInBounds_toArray, List.set_cons_zero, List.set_cons_succ]
  refine wpAnyX_take0 (i := 44) (oi := ⟨some 34, Op.build 144 #[(0, Operand.const (Value.int IntKind.i64 4)), (1, Operand.const (Value.int IntKind.u8 3)), (2, Operand.const (Value.bool false))], 144, _, _, none⟩) (v := ?v44) rfl (by omega) (by kernel_rfl) (by kernel_rfl) (by kernel_rfl) (fun _ _ _ h => h) (Or.inl ⟨by rfl, ?y44⟩) (by assumption) ?r44
  case y44 =>
    intro W hSw
    try dsimp only at hSw
    go_simp
    try with_reducible rfl
  case r44 =>
  try simp only [Act.put, List.setIfInBounds_toArray, List.set_cons_zero, List.set_cons_succ]
  refine wpAnyX_take0 (i := 46) (oi := ⟨some 35, Op.build 144 #[(0, Operand.const (Value.int IntKind.i64 1)), (1, Operand.const (Value.int IntKind.u8 8)), (2, Operand.const (Value.bool false))], 144, _, _, none⟩) (v := ?v46) rfl (by omega) (by kernel_rfl) (by kernel_rfl) (by kernel_rfl) (fun _ _ _ h => h) (Or.inl ⟨by rfl, ?y46⟩) (by assumption) ?r46
  case y46 =>
    intro W hSw
    try dsimp only at hSw
    go_simp
    try with_reducible rfl
  case r46 =>
  try simp only [Act.put, List.setIfInBounds_toArray, List.set_cons_zero, List.set_cons_succ]
  refine wpAnyX_take0 (i := 48) (oi := ⟨some 36, Op.move (Operand.tmp 0), 3, _, _, none⟩) (v := ?v48) rfl (by omega) (by kernel_rfl) (by kernel_rfl) (by kernel_rfl) (fun _ _ _ h => h) (Or.inl ⟨by rfl, ?y48⟩) (by assumption) ?r48
  case y48 =>
    intro W hSw
    try dsimp only at hSw
    go_simp
    try with_reducible rfl
  case r48 =>
  try simp only [Act.put, List.setIfInBounds_toArray, List.set_cons_zero, List.set_cons_succ]
  refine wpAnyX_take0 (i := 49) (oi := ⟨some 37, Op.build 144 #[(0, Operand.tmp 36), (1, Operand.const (Value.int IntKind.u8 8)), (2, Operand.const (Value.bool false))], 144, _, _, none⟩) (v := ?v49) rfl (by omega) (by kernel_rfl) (by kernel_rfl) (by kernel_rfl) (fun _ _ _ h => h) (Or.inl ⟨by rfl, ?y49⟩) (by assumption) ?r49
  case y49 =>
    intro W hSw
    try dsimp only at hSw
    go_simp
    try with_reducible rfl
  case r49 =>
  try simp only [Act.put, List.setIfInBounds_toArray, List.set_cons_zero, List.set_cons_succ]
  refine wpAnyX_take0 (i := 50) (oi := ⟨some 38, Op.move (Operand.tmp 0), 3, _, _, none⟩) (v := ?v50) rfl (by omega) (by kernel_rfl) (by kernel_rfl) (by kernel_rfl) (fun _ _ _ h => h) (Or.inl ⟨by rfl, ?y50⟩) (by assumption) ?r50
  case y50 =>
    intro W hSw
    try dsimp only at hSw
    go_simp
    try with_reducible rfl
  case r50 =>
  try simp only [Act.put, List.setIfInBounds_toArray, List.set_cons_zero, List.set_cons_succ]
  refine wpAnyX_take0 (i := 52) (oi := ⟨some 39, Op.move (Operand.tmp 1), 3, _, _, none⟩) (v := ?v52) rfl (by omega) (by kernel_rfl) (by kernel_rfl) (by kernel_rfl) (fun _ _ _ h => h) (Or.inl ⟨by rfl, ?y52⟩) (by assumption) ?r52
  case y52 =>
    intro W hSw
    try dsimp only at hSw
    go_simp
    try with_reducible rfl
  case r52 =>
  try simp only [Act.put, List.setIfInBounds_toArray, List.set_cons_zero, List.set_cons_succ]
  refine wpAnyX_take0 (i := 53) (oi := ⟨some 40, Op.build 144 #[(0, Operand.tmp 39), (1, Operand.const (Value.int IntKind.u8 8)), (2, Operand.const (Value.bool false))], 144, _, _, none⟩) (v := ?v53) rfl (by omega) (by kernel_rfl) (by kernel_rfl) (by kernel_rfl) (fun _ _ _ h => h) (Or.inl ⟨by rfl, ?y53⟩) (by assumption) ?r53
  case y53 =>
    intro W hSw
    try dsimp only at hSw
    go_simp
    try with_reducible rfl
  case r53 =>
  try simp only [Act.put, List.setIfInBounds_toArray, List.set_cons_zero, List.set_cons_succ]
  refine wpAnyX_take0 (i := 54) (oi := ⟨some 41, Op.move (Operand.tmp 1), 3, _, _, none⟩) (v := ?v54) rfl (by omega) (by kernel_rfl) (by kernel_rfl) (by kernel_rfl) (fun _ _ _ h => h) (Or.inl ⟨by rfl, ?y54⟩) (by assumption) ?r54
  case y54 =>
    intro W hSw
    try dsimp only at hSw
    go_simp
    try with_reducible rfl
  case r54 =>
  try simp only [Act.put, List.setIfInBounds_toArray, List.set_cons_zero, List.set_cons_succ]
  refine wpAnyX_take0 (i := 56) (oi := ⟨some 42, Op.build 144 #[(0, Operand.const (Value.int IntKind.i64 0)), (1, Operand.const (Value.int IntKind.u8 2)), (2, Operand.const (Value.bool false))], 144, _, _, none⟩) (v := ?v56) rfl (by omega) (by kernel_rfl) (by kernel_rfl) (by kernel_rfl) (fun _ _ _ h => h) (Or.inl ⟨by rfl, ?y56⟩) (by assumption) ?r56
  case y56 =>
    intro W hSw
    try dsimp only at hSw
    go_simp
    try with_reducible rfl
  case r56 =>
  try simp only [Act.put, List.setIfInBounds_toArray, List.set_cons_zero, List.set_cons_succ]
  refine wpAnyX_take0 (i := 58) (oi := ⟨some 43, Op.build 144 #[(0, Operand.const (Value.int IntKind.i64 1)), (1, Operand.const (Value.int IntKind.u8 2)), (2, Operand.const (Value.bool false))], 144, _, _, none⟩) (v := ?v58) rfl (by omega) (by kernel_rfl) (by kernel_rfl) (by kernel_rfl) (fun _ _ _ h => h) (Or.inl ⟨by rfl, ?y58⟩) (by assumption) ?r58
  case y58 =>
    intro W hSw
    try dsimp only at hSw
    go_simp
    try with_reducible rfl
  case r58 =>
  try simp only [Act.put, List.setIfInBounds_toArray, List.set_cons_zero, List.set_cons_succ]
  refine wpAnyX_take0 (i := 60) (oi := ⟨some 44, Op.move (Operand.tmp 0), 3, _, _, none⟩) (v := ?v60) rfl (by omega) (by kernel_rfl) (by kernel_rfl) (by kernel_rfl) (fun _ _ _ h => h) (Or.inl ⟨by rfl, ?y60⟩) (by assumption) ?r60
  case y60 =>
    intro W hSw
    try dsimp only at hSw
    go_simp
    try with_reducible rfl
  case r60 =>
  try simp only [Act.put, List.setIfInBounds_toArray, List.set_cons_zero, List.set_cons_succ]
  refine wpAnyX_take0 (i := 61) (oi := ⟨some 45, Op.build 144 #[(0, Operand.tmp 44), (1, Operand.const (Value.int IntKind.u8 2)), (2, Operand.const (Value.bool false))], 144, _, _, none⟩) (v := ?v61) rfl (by omega) (by kernel_rfl) (by kernel_rfl) (by kernel_rfl) (fun _ _ _ h => h) (Or.inl ⟨by rfl, ?y61⟩) (by assumption) ?r61
  case y61 =>
    intro W hSw
    try dsimp only at hSw
    go_simp
    try with_reducible rfl
  case r61 =>
  try simp only [Act.put, List.setIfInBounds_toArray, List.set_cons_zero, List.set_cons_succ]
  refine wpAnyX_take0 (i := 62) (oi := ⟨some 46, Op.move (Operand.tmp 0), 3, _, _, none⟩) (v := ?v62) rfl (by omega) (by kernel_rfl) (by kernel_rfl) (by kernel_rfl) (fun _ _ _ h => h) (Or.inl ⟨by rfl, ?y62⟩) (by assumption) ?r62
  case y62 =>
    intro W hSw
    try dsimp only at hSw
    go_simp
    try with_reducible rfl
  case r62 =>
  try simp only [Act.put, List.setIfInBounds_toArray, List.set_cons_zero, List.set_cons_succ]
  refine wpAnyX_take0 (i := 64) (oi := ⟨some 47, Op.move (Operand.tmp 1), 3, _, _, none⟩) (v := ?v64) rfl (by omega) (by kernel_rfl) (by kernel_rfl) (by kernel_rfl) (fun _ _ _ h => h) (Or.inl ⟨by rfl, ?y64⟩) (by assumption) ?r64
  case y64 =>
    intro W hSw
    try dsimp only at hSw
    go_simp
    try with_reducible rfl
  case r64 =>
  try simp only [Act.put, List.setIfInBounds_toArray, List.set_cons_zero, List.set_cons_succ]
  refine wpAnyX_take0 (i := 65) (oi := ⟨some 48, Op.build 144 #[(0, Operand.tmp 47), (1, Operand.const (Value.int IntKind.u8 2)), (2, Operand.const (Value.bool false))], 144, _, _, none⟩) (v := ?v65) rfl (by omega) (by kernel_rfl) (by kernel_rfl) (by kernel_rfl) (fun _ _ _ h => h) (Or.inl ⟨by rfl, ?y65⟩) (by assumption) ?r65
  case y65 =>
    intro W hSw
    try dsimp only at hSw
    go_simp
    try with_reducible rfl
  case r65 =>
  try simp only [Act.put, List.setIfInBounds_toArray, List.set_cons_zero, List.set_cons_succ]
  refine wpAnyX_take0 (i := 66) (oi := ⟨some 49, Op.move (Operand.tmp 1), 3, _, _, none⟩) (v := ?v66) rfl (by omega) (by kernel_rfl) (by kernel_rfl) (by kernel_rfl) (fun _ _ _ h => h) (Or.inl ⟨by rfl, ?y66⟩) (by assumption) ?r66
  case y66 =>
    intro W hSw
    try dsimp only at hSw
    go_simp
    try with_reducible rfl
  case r66 =>
  try simp only [Act.put, List.setIfInBounds_toArray, List.set_cons_zero, List.set_cons_succ]
  refine wpAnyX_take0 (i := 68) (oi := ⟨some 50, Op.build 144 #[(0, Operand.const (Value.int IntKind.i64 4)), (1, Operand.const (Value.int IntKind.u8 2)), (2, Operand.const (Value.bool false))], 144, _, _, none⟩) (v := ?v68) rfl (by omega) (by kernel_rfl) (by kernel_rfl) (by kernel_rfl) (fun _ _ _ h => h) (Or.inl ⟨by rfl, ?y68⟩) (by assumption) ?r68
  case y68 =>
    intro W hSw
    try dsimp only at hSw
    go_simp
    try with_reducible rfl
  case r68 =>
  try simp only [Act.put, List.setIfInBounds_toArray, List.set_cons_zero, List.set_cons_succ]
  refine wpAnyX_one (i := 0) (by kernel_rfl) rfl (fun K hK => ?_)
  go_simp
  refine hK _ _ (fun _ => trivial) ?_
  clear hK K
  try simp only [Act.put, List.setIfInBounds_toArray, List.set_cons_zero, List.set_cons_succ]
  obtain ⟨b0, hb0⟩ : ∃ b0, w.heap.size = b0 := ⟨_, rfl⟩
  have hwd : w.drew.heap.size = b0 := hb0
  have HB0 : Bx (MvB b0 b0 w x y mvP (w.drew.alloc (.map #[] 0))) := ⟨by
    refine ⟨[], 0, ⟨_, by rw [← hwd]; exact World.ownsMap_made _ _ _ _, MvD.zero⟩, rfl, Nat.le_of_eq hb0.symm, ?_, fun p => ⟨fun h => (by cases h), ?_⟩⟩
    · rw [← hb0]; exact (Below.refl _ _).drew.alloc (Nat.le_refl _) _
    · rintro ⟨i, hi, hp, _⟩
      exact (hp (by rw [← mvI_fst x y]; exact List.mem_map.2 ⟨i, hi, rfl⟩)).elim⟩
  refine wpAnyX_bag0 (base := #[true, true, false, true, true, false, true, false, true, true, false, true, true, true, false, true, true, false, true, false, true, true, true, false, true, false, true, true, false, true, true, true, false, true, true, false, true, false, true, true, false, true, true, false, true, false, true, false, true, true, true, false, true, true, true, false, true, false, true, false, true, true, true, false, true, true, true, false, true, false, false, false]) (lend := #[true, true, true, true, true, true, true, true, true, true, true, true, true, true, true, true, true, true, true, true, true, true, true, true, true, true, true, true, true, true, true, true, true, true, true, true, true, true, true, true, true, true, true, true, true, true, true, true, true, true, true, true, true, true, true, true, true, true, true, true, true, true, true, true, true, true, true, true, true, true, false, false]) (fun _ => trivial) (MvB b0 b0 w x y) (by kernel_rfl) (by kernel_rfl) mvP_nodup ?_ HB0.out (by decide) ?_
  · intro pend hnd hsub p hp W hI K hK
    refine mvB_step (by rw [← hb0]; rfl) (Nat.le_refl _) ?_ HOK.out pend hnd hsub p hp W hI K hK
    unfold mvI
    simp only [List.mem_cons, List.not_mem_nil, or_false, forall_eq_or_imp, forall_eq]
    exact ⟨⟨_, _, _, rfl, rfl, rfl, rfl, rfl, rfl⟩, ⟨_, _, _, rfl, rfl, rfl, rfl, rfl, rfl⟩, ⟨_, _, _, rfl, rfl, rfl, rfl, rfl, rfl⟩, ⟨_, _, _, rfl, rfl, rfl, rfl, rfl, rfl⟩, ⟨_, _, _, rfl, rfl, rfl, rfl, rfl, rfl⟩, ⟨_, _, _, rfl, rfl, rfl, rfl, rfl, rfl⟩, ⟨_, _, _, rfl, rfl, rfl, rfl, rfl, rfl⟩, ⟨_, _, _, rfl, rfl, rfl, rfl, rfl, rfl⟩, ⟨_, _, _, rfl, rfl, rfl, rfl, rfl, rfl⟩, ⟨_, _, _, rfl, rfl, rfl, rfl, rfl, rfl⟩, ⟨_, _, _, rfl, rfl, rfl, rfl, rfl, rfl⟩, ⟨_, _, _, rfl, rfl, rfl, rfl, rfl, rfl⟩, ⟨_, _, _, rfl, rfl, rfl, rfl, rfl, rfl⟩, ⟨_, _, _, rfl, rfl, rfl, rfl, rfl, rfl⟩, ⟨_, _, _, rfl, rfl, rfl, rfl, rfl, rfl⟩, ⟨_, _, _, rfl, rfl, rfl, rfl, rfl, rfl⟩, ⟨_, _, _, rfl, rfl, rfl, rfl, rfl, rfl⟩, ⟨_, _, _, rfl, rfl, rfl, rfl, rfl, rfl⟩, ⟨_, _, _, rfl, rfl, rfl, rfl, rfl, rfl⟩, ⟨_, _, _, rfl, rfl, rfl, rfl, rfl, rfl⟩, ⟨_, _, _, rfl, rfl, rfl, rfl, rfl, rfl⟩, ⟨_, _, _, rfl, rfl, rfl, rfl, rfl, rfl⟩, ⟨_, _, _, rfl, rfl, rfl, rfl, rfl, rfl⟩, ⟨_, _, _, rfl, rfl, rfl, rfl, rfl, rfl⟩⟩
  intro w2 hw2
  obtain ⟨l, n, h1, h2, h3, h4, h5⟩ := hw2
  have HM : Bx (MvW b0 24 (mvL x y) w2) := ⟨by
    simp at h2
    subst h2
    refine h1.perm HU.out fun p => ?_
    rw [h5, ← mvI_map x y, List.mem_map]
    exact ⟨fun ⟨i, hi, _, he⟩ => ⟨i, hi, he⟩, fun ⟨i, hi, he⟩ => ⟨i, hi, by simp, he⟩⟩⟩
  have HB2 := Bx.mk h4
  clear h1 h2 h3 h4 h5 HB0
  refine wpAnyX_take0 (i := 70) (oi := ⟨some 51, Op.move (Operand.tmp 5), 141, _, _, none⟩) (v := ?v70) rfl (by omega) (by kernel_rfl) (by kernel_rfl) (by kernel_rfl) (fun _ _ _ h => h) (Or.inl ⟨by rfl, ?y70⟩) (by assumption) ?r70
  case y70 =>
    intro W hSw
    try dsimp only at hSw
    go_simp
    try with_reducible rfl
  case r70 =>
  try simp only [Act.put, List.setIfInBounds_toArray, List.set_cons_zero, List.set_cons_succ]
  refine wpAnyX_one (i := 71) (by kernel_rfl) rfl (fun K hK => ?_)
  go_simp
  refine hK _ _ (fun _ => trivial) ?_
  clear hK K
  try simp only [Act.put, List.setIfInBounds_toArray, List.set_cons_zero, List.set_cons_succ]
  refine wpAnyX_done (by kernel_rfl) ?_ _
  go_wp2
  go_ret
  exact ⟨b0, Nat.le_of_eq hb0, by rw [← hb0]; rfl, HM.out, by rw [hb0]; exact HB2.out⟩
end Go.Proofs.Ytenoaljghbpaaaa
