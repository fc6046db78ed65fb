/-
  Frames: what stands ahead of a payload, the program's (written by mkfre.py).
-/
import Derived.Test.YtenoaljghbpaaaaFrD
namespace Go.Proofs.Ytenoaljghbpaaaa
open Go.RowKit
set_option linter.unusedVariables false
set_option linter.unusedSimpArgs false

theorem bes_lenF (v : Int) (n : Nat) : (bes v n).length = n := by
  induction n with
  | zero => rfl
  | succ n ih => unfold bes; simp [ih]
theorem bes_head (n t f : Nat) (hn : n < 16777216) (ht : t < 256) (hf : f < 256) : bes ((n * 65536 + t * 256 + f : Nat) : Int) 5 = bes (n : Int) 3 ++ [UInt8.ofNat t, UInt8.ofNat f] := by
  unfold bes bes bes bes bes bes byteAt
  simp only [List.cons_append, List.nil_append, List.cons.injEq, and_true]
  refine ⟨?_, ?_, ?_, ?_, ?_⟩ <;> congr 1 <;> omega
set_option maxRecDepth 100000 in
set_option maxHeartbeats 8000000 in
theorem headOf_any (a : Frm) (w : World) (ho : frOk a) (hf : frBs w a) (hl : a.rawb.length ≤ 16384) :
    Calls Try.prog 73 #[.agg (frA a)] w fun e w' => ∃ v, e = .returned v ∧ Bs w' v (bes (a.rawb.length : Int) 3 ++ [UInt8.ofNat a.ty, UInt8.ofNat a.fl] ++ bes ((a.st % 2147483648 : Nat) : Int) 4) ∧ Below w.heap.size w w' := by
  obtain ⟨o1, o2, o3⟩ := ho
  have HF1 : Bx (Sb 28 (w.alloc (.cells (frA a) 28)) w.heap.size (frA a)) := ⟨Sb.new _ w _⟩
  have HB1 : Bx (Below w.heap.size w (w.alloc (.cells (frA a) 28))) := ⟨(Below.refl _ _).alloc (Nat.le_refl _) _⟩
  obtain ⟨n, hn⟩ : ∃ n, a.rawb.length = n := ⟨_, rfl⟩
  have hbe := bes_head n a.ty a.fl (by omega) o1 o2
  obtain ⟨L, hL⟩ : ∃ x : Int, (n : Int) = x := ⟨_, rfl⟩
  obtain ⟨TI, hTI⟩ : ∃ x : Int, (a.ty : Int) = x := ⟨_, rfl⟩
  obtain ⟨FI, hFI⟩ : ∃ x : Int, (a.fl : Int) = x := ⟨_, rfl⟩
  have hlen : ∀ (tr : TypeId) (W : World), (Builtin.len_ #[22] tr #[a.raw]).run Try.prog W = .ok (.int .i64 L) W := fun tr W => by rw [← hL, ← hn]; exact Bs.run_len hf tr W
  have hor1 : bits .or .u64 ((n * 65536 : Nat) : Int) ((a.ty * 256 : Nat) : Int) = ((n * 65536 + a.ty * 256 : Nat) : Int) := by
    rw [u64_or_nat _ _ (by omega) (by omega), show n * 65536 = n * 2 ^ 16 from rfl, or_add n (a.ty * 256) 16 (by omega)]
  have hor2 : bits .or .u64 ((n * 65536 + a.ty * 256 : Nat) : Int) (a.fl : Int) = ((n * 65536 + a.ty * 256 + a.fl : Nat) : Int) := by
    rw [u64_or_nat _ _ (by omega) (by omega), show n * 65536 + a.ty * 256 = (n * 256 + a.ty) * 2 ^ 8 from by omega, or_add (n * 256 + a.ty) a.fl 8 (by omega)]
  have hm := u32_mask31 a.st o3
  obtain ⟨M, hM⟩ : ∃ x, a.st % 2147483648 = x := ⟨_, rfl⟩
  obtain ⟨SI, hSI⟩ : ∃ x : Int, (a.st : Int) = x := ⟨_, rfl⟩
  obtain ⟨MI, hMI⟩ : ∃ x : Int, (M : Int) = x := ⟨_, rfl⟩
  obtain ⟨X1, hX1⟩ : ∃ x : Int, ((n * 65536 + a.ty * 256 : Nat) : Int) = x := ⟨_, rfl⟩
  obtain ⟨X, hX⟩ : ∃ x : Int, ((n * 65536 + a.ty * 256 + a.fl : Nat) : Int) = x := ⟨_, rfl⟩
  rw [hX] at hbe
  rw [hX1, hX, hFI] at hor2
  have hq1 : ((n * 65536 : Nat) : Int) = L * 65536 := by rw [← hL, Int.natCast_mul]; rfl
  have hq2 : ((a.ty * 256 : Nat) : Int) = TI * 256 := by rw [← hTI, Int.natCast_mul]; rfl
  rw [hX1, hq1, hq2] at hor1
  clear hq1 hq2
  rw [hM, hSI, hMI] at hm
  rw [hM, hMI, hn, ← hbe]
  have hLw : IntKind.u64.wrap L = L := IntWalk.u64_in _ ⟨by omega, by omega⟩
  have hw1 : IntKind.u64.wrap TI = TI := IntWalk.u64_in _ ⟨by omega, by omega⟩
  have hw2 : IntKind.u64.wrap (TI * 256) = TI * 256 := IntWalk.u64_in _ ⟨by omega, by omega⟩
  have hw5 : IntKind.u64.wrap (L * 65536) = L * 65536 := IntWalk.u64_in _ ⟨by omega, by omega⟩
  have hw3 : IntKind.u64.wrap FI = FI := IntWalk.u64_in _ ⟨by omega, by omega⟩
  have hw4 : IntKind.u64.wrap MI = MI := IntWalk.u64_in _ ⟨by omega, by omega⟩
  have HB5 := Bx.mk (fun W => big_any nilV [] X 5 W (Rd.nil W) (by simp) (by omega) (by omega))
  rw [show (min (max (5 : Int) 0) 8).toNat = 5 from by decide, List.nil_append] at HB5
  have HB4 := Bx.mk (fun W (v : Value) (h : Bs W v (bes X 5)) => big_any v (bes X 5) MI 4 W h (by rw [bes_lenF]; omega) (by omega) (by omega))
  rw [show (min (max (4 : Int) 0) 8).toNat = 4 from by decide] at HB4
  obtain ⟨R, hR⟩ : ∃ R, bes X 5 ++ bes MI 4 = R := ⟨_, rfl⟩
  rw [hR] at HB4 ⊢
  have HFA : Bx (frA a = #[.int .u8 TI, .int .u8 FI, .int .u32 SI, a.raw]) := ⟨by rw [← hTI, ← hFI, ← hSI]; rfl⟩
  rw [HFA.out] at HF1 HB1 ⊢
  obtain ⟨raw, hraw⟩ : ∃ v, a.raw = v := ⟨_, rfl⟩
  rw [hraw] at HF1 HB1 hlen ⊢
  clear hL hTI hFI hSI hMI hX1 hX hM hR hbe hn hl o1 o2 o3 HFA hraw hf
  go_enter Try.func73, Try.ntmps73
  go_upto_region 1 with fail
  obtain ⟨w1, hw1e⟩ : ∃ W, w.alloc (.cells #[.int .u8 TI, .int .u8 FI, .int .u32 SI, raw] 28) = W := ⟨_, rfl⟩
  obtain ⟨g1, hg1⟩ : ∃ g, w.heap.size = g := ⟨_, rfl⟩
  rw [hw1e] at HF1 HB1 ⊢
  rw [hg1] at HF1 ⊢
  clear hw1e hg1
  have c0 : w1.cell? ⟨g1, 0, none⟩ = some (.int .u8 TI) := HF1.out.cell 0
  have c1 : w1.cell? ⟨g1, 1, none⟩ = some (.int .u8 FI) := HF1.out.cell 1
  have c3 : w1.cell? ⟨g1, 3, none⟩ = some raw := HF1.out.cell 3
  go_upto_region 2 with fail
  clear c0 c1 c3
  have hSx := Below.refl w1.heap.size w1
  have k2 : ∀ W, Below w1.heap.size w1 W → W.cell? ⟨g1, 2, none⟩ = some (.int .u32 SI) := fun W h => (HF1.out.keep h).cell 2
  refine wp_region_x 7 (fun W => Below w1.heap.size w1 W) (by kernel_rfl) (hSx.drew) (fun hHeld => ?_)
  refine wpAnyX_take0 (i := 0) (oi := ⟨some 18, Op.move (Operand.tmp 3), 45, _, _, none⟩) (v := ?v0) rfl (by omega) (by kernel_rfl) (by kernel_rfl) (by kernel_rfl) (fun _ _ _ h => h) (Or.inl ⟨by rfl, ?y0⟩) (by assumption) ?r0
  case y0 =>
    intro W hSw
    try dsimp only at hSw
    go_simp
    try with_reducible rfl
  case r0 =>
  try simp only [Act.put, List.setIfInBounds_toArray, List.set_cons_zero, List.set_cons_succ]
  refine wpAnyX_take0 (i := 2) (oi := ⟨some 20, Op.fieldAddr 28 (Operand.tmp 1) 2, 0, _, _, none⟩) (v := ?v2) rfl (by omega) (by kernel_rfl) (by kernel_rfl) (by kernel_rfl) (fun _ _ _ h => h) (Or.inl ⟨by rfl, ?y2⟩) (by assumption) ?r2
  case y2 =>
    intro W hSw
    try dsimp only at hSw
    go_simp
    try with_reducible rfl
  case r2 =>
  try simp only [Act.put, List.setIfInBounds_toArray, List.set_cons_zero, List.set_cons_succ]
  refine wpAnyX_take (i := 3) (oi := ⟨some 21, Op.load 26 (Operand.tmp 20), 26, _, _, none⟩) (v := ?v3) rfl (by omega) (by kernel_rfl) (by kernel_rfl) (by kernel_rfl) (by kernel_rfl) (by kernel_rfl) (fun _ _ _ h => h) (Or.inl ⟨by rfl, ?y3⟩) (by assumption) ?r3
  case y3 =>
    intro W hSw
    try dsimp only at hSw
    go_simp
    try with_reducible rfl
  case r3 =>
  try simp only [Act.put, List.setIfInBounds_toArray, List.set_cons_zero, List.set_cons_succ]
  refine wpAnyX_take0 (i := 4) (oi := ⟨some 22, Op.binOp BinOp.and 26 (Operand.tmp 21) (Operand.const (Value.int IntKind.u32 2147483647)) 26, 26, _, _, none⟩) (v := ?v4) rfl (by omega) (by kernel_rfl) (by kernel_rfl) (by kernel_rfl) (fun _ _ _ h => h) (Or.inl ⟨by rfl, ?y4⟩) (by assumption) ?r4
  case y4 =>
    intro W hSw
    try dsimp only at hSw
    go_simp
    try with_reducible rfl
  case r4 =>
  try simp only [Act.put, List.setIfInBounds_toArray, List.set_cons_zero, List.set_cons_succ]
  refine wpAnyX_take (i := 5) (oi := ⟨some 23, Op.convert 26 45 (Operand.tmp 22), 45, _, _, none⟩) (v := ?v5) rfl (by omega) (by kernel_rfl) (by kernel_rfl) (by kernel_rfl) (by kernel_rfl) (by kernel_rfl) (fun _ _ _ h => h) (Or.inl ⟨by rfl, ?y5⟩) (by assumption) ?r5
  case y5 =>
    intro W hSw
    try dsimp only at hSw
    go_simp
    try with_reducible rfl
  case r5 =>
  try simp only [Act.put, List.setIfInBounds_toArray, List.set_cons_zero, List.set_cons_succ]
  refine wpAnyX_one (i := 1) (by kernel_rfl) rfl (fun K hK => ?_)
  go_simp
  go_at_call 106
  refine (HB5.out _).mono ?_
  rintro e w3 ⟨v3, rfl, h3, b3⟩
  have hS3 : Below w1.heap.size w1 w3 := hHeld.trans (b3.mono hHeld.size)
  have HV3 := Bx.mk h3.rd
  clear h3 b3
  refine hK _ _ (fun _ => hS3) ?_
  clear hK K
  try simp only [Act.put, List.setIfInBounds_toArray, List.set_cons_zero, List.set_cons_succ]
  refine wpAnyX_one (i := 6) (by kernel_rfl) rfl (fun K hK => ?_)
  go_simp
  go_at_call 106
  refine (HB4.out _ _ HV3.out).mono ?_
  rintro e w4 ⟨v4, rfl, h4, b4⟩
  have hS4 : Below w1.heap.size w1 w4 := hS3.trans (b4.mono hS3.size)
  have HV4 := Bx.mk h4.rd
  clear h4 b4
  refine hK _ _ (fun _ => hS4) ?_
  clear hK K
  try simp only [Act.put, List.setIfInBounds_toArray, List.set_cons_zero, List.set_cons_succ]
  refine wpAnyX_one (i := 7) (by kernel_rfl) rfl (fun K hK => ?_)
  go_simp
  refine hK _ _ (fun h => absurd h (by decide)) ?_
  clear hK K
  try simp only [Act.put, List.setIfInBounds_toArray, List.set_cons_zero, List.set_cons_succ]
  refine wpAnyX_done (by kernel_rfl) ?_ _
  go_wp2_with fail
  go_ret
  exact ⟨_, rfl, HV4.out, HB1.out.trans (hS4.mono HB1.out.size)⟩
end Go.Proofs.Ytenoaljghbpaaaa
