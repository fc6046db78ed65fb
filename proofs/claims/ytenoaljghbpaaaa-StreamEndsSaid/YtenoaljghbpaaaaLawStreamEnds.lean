/-
  bifoldlaw15.StreamEnds answers true, whatever its arguments: the walk.
-/
import Derived.Test.YtenoaljghbpaaaaSsK
import Derived.Test.YtenoaljghbpaaaaStep
import Derived.Deep.RegionHeld
import Derived.Deep.CutRange
import Derived.Deep.CutBlock
import Derived.BigRegion
namespace Go.Proofs.Ytenoaljghbpaaaa
open Go.RowKit
set_option linter.unusedVariables false
set_option linter.unusedSimpArgs false

set_option maxRecDepth 100000 in
set_option maxHeartbeats 4000000 in
theorem se_tt2 (t : Int) (w : World) (ht : t.tmod 10 = 2) :
    Calls Try.prog 17 #[.int .u8 t, .bool true, .bool true] w fun e w' => e = .returned (.bool true) ∧ Below w.heap.size w w' := by
  have HK := Bx.mk (known15_any w)
  have S1 : hSend 0 1 1 = (2, 0) := rfl
  have R1 : hRecv 2 1 1 = (4, 0) := rfl
  have S2 : hSend 0 1 0 = (1, 0) := rfl
  have S3 : hSend 1 3 0 = (4, 0) := rfl
  have HS4 : hSend 4 2 0 = (4, 0) := rfl
  have HR4 : hRecv 4 2 0 = (4, 0) := rfl
  have C0 := Bx.mk (fun st v W => ss_send 0 1 1 st v (by decide) (by decide) (by rfl) W 1 1 rfl rfl)
  rw [S1] at C0
  have C1 := Bx.mk (fun st v W => ss_recv 2 1 1 st v (by decide) (by decide) (by rfl) W 1 1 rfl rfl)
  rw [R1] at C1
  have C2 := Bx.mk (fun st v W => ss_send 0 1 0 st v (by decide) (by decide) (by rfl) W 1 0 rfl rfl)
  rw [S2] at C2
  have C3 := Bx.mk (fun st v W => ss_send 1 3 0 st v (by decide) (by decide) (by rfl) W 3 0 rfl rfl)
  rw [S3] at C3
  have C4 := Bx.mk (fun st v W => ss_send 4 2 0 st v (by decide) (by decide) (by rfl) W 2 0 rfl rfl)
  rw [HS4] at C4
  have C5 := Bx.mk (fun st v W => ss_recv 4 2 0 st v (by decide) (by decide) (by rfl) W 2 0 rfl rfl)
  rw [HR4] at C5
  clear HR4 HS4 R1 S1 S2 S3
  go_enter Try.func17, Try.ntmps17
  go_upto_region 15 with (first
    | (go_at_call 61; refine HK.out.mono ?_; rintro e w1 ⟨rfl, b1⟩; have HB := Bx.mk b1; clear b1)
    | (go_at_call 62; have hz := M3; clear hz; refine (C3.out _ _ _).mono ?_; rintro e wn ⟨rfl, bn⟩; replace HB := Bx.mk (HB.out.trans (bn.mono HB.out.size)); have M4 := HK; clear bn)
    | (go_at_call 62; have hz := M2; clear hz; refine (C2.out _ _ _).mono ?_; rintro e wn ⟨rfl, bn⟩; replace HB := Bx.mk (HB.out.trans (bn.mono HB.out.size)); have M3 := HK; clear bn)
    | (go_at_call 63; have hz := M1; clear hz; refine (C1.out _ _ _).mono ?_; rintro e wn ⟨rfl, bn⟩; replace HB := Bx.mk (HB.out.trans (bn.mono HB.out.size)); have M2 := HK; clear bn)
    | (go_at_call 62; refine (C0.out _ _ _).mono ?_; rintro e wn ⟨rfl, bn⟩; replace HB := Bx.mk (HB.out.trans (bn.mono HB.out.size)); have M1 := HK; clear bn))
  obtain ⟨wA, hwA⟩ : ∃ W, wn.alloc (.cells #[.int .u8 2, .int .u8 0, .int .u32 0, .slice none 0 0] 28) = W := ⟨_, rfl⟩
  obtain ⟨gA, hgA⟩ : ∃ g, wn.heap.size = g := ⟨_, rfl⟩
  have HCC : Bx (∀ W, Below wA.heap.size wA W → W.cell? ⟨gA, 0, none⟩ = some (.int .u8 2) ∧ W.cell? ⟨gA, 1, none⟩ = some (.int .u8 0) ∧ W.cell? ⟨gA, 2, none⟩ = some (.int .u32 0) ∧ W.cell? ⟨gA, 3, none⟩ = some (.slice none 0 0)) := ⟨fun W hW => by
    have hlt : gA < wA.heap.size := by rw [← hwA, ← hgA]; simp
    rw [hW.cell hlt, hW.cell hlt, hW.cell hlt, hW.cell hlt, ← hwA, ← hgA]
    exact ⟨by simp, by simp, by simp, by simp⟩⟩
  replace HB : Bx (Below w.heap.size w wA) := ⟨by rw [← hwA]; exact HB.out.alloc HB.out.size _⟩
  have HBX := Bx.mk (Below.refl wA.heap.size wA)
  rw [hwA, hgA]
  clear hwA hgA
  obtain ⟨c0, c1, c2, c3⟩ := HCC.out _ HBX.out
  go_wp2_with (first
    | (go_at_call 62; refine (C4.out _ _ _).mono ?_; rintro e wx ⟨rfl, bn⟩; clear c0 c1 c2 c3; replace HBX := Bx.mk (HBX.out.trans (bn.mono HBX.out.size)); obtain ⟨c0, c1, c2, c3⟩ := HCC.out _ HBX.out; clear bn)
    | (go_at_call 63; refine (C5.out _ _ _).mono ?_; rintro e wx ⟨rfl, bn⟩; clear c0 c1 c2 c3; replace HBX := Bx.mk (HBX.out.trans (bn.mono HBX.out.size)); obtain ⟨c0, c1, c2, c3⟩ := HCC.out _ HBX.out; clear bn))
  go_ret
  exact ⟨rfl, HB.out.trans (HBX.out.mono HB.out.size)⟩
set_option maxRecDepth 100000 in
set_option maxHeartbeats 4000000 in
theorem se_tt3 (t : Int) (w : World) (ht : t.tmod 10 = 3) :
    Calls Try.prog 17 #[.int .u8 t, .bool true, .bool true] w fun e w' => e = .returned (.bool true) ∧ Below w.heap.size w w' := by
  have HK := Bx.mk (known15_any w)
  have S1 : hSend 0 1 1 = (2, 0) := rfl
  have R1 : hRecv 2 1 1 = (4, 0) := rfl
  have S2 : hSend 0 1 0 = (1, 0) := rfl
  have S3 : hSend 1 3 0 = (4, 0) := rfl
  have HS4 : hSend 4 3 0 = (4, 0) := rfl
  have HR4 : hRecv 4 3 0 = (4, 0) := rfl
  have C0 := Bx.mk (fun st v W => ss_send 0 1 1 st v (by decide) (by decide) (by rfl) W 1 1 rfl rfl)
  rw [S1] at C0
  have C1 := Bx.mk (fun st v W => ss_recv 2 1 1 st v (by decide) (by decide) (by rfl) W 1 1 rfl rfl)
  rw [R1] at C1
  have C2 := Bx.mk (fun st v W => ss_send 0 1 0 st v (by decide) (by decide) (by rfl) W 1 0 rfl rfl)
  rw [S2] at C2
  have C3 := Bx.mk (fun st v W => ss_send 1 3 0 st v (by decide) (by decide) (by rfl) W 3 0 rfl rfl)
  rw [S3] at C3
  have C4 := Bx.mk (fun st v W => ss_send 4 3 0 st v (by decide) (by decide) (by rfl) W 3 0 rfl rfl)
  rw [HS4] at C4
  have C5 := Bx.mk (fun st v W => ss_recv 4 3 0 st v (by decide) (by decide) (by rfl) W 3 0 rfl rfl)
  rw [HR4] at C5
  clear HR4 HS4 R1 S1 S2 S3
  go_enter Try.func17, Try.ntmps17
  go_upto_region 15 with (first
    | (go_at_call 61; refine HK.out.mono ?_; rintro e w1 ⟨rfl, b1⟩; have HB := Bx.mk b1; clear b1)
    | (go_at_call 62; have hz := M3; clear hz; refine (C3.out _ _ _).mono ?_; rintro e wn ⟨rfl, bn⟩; replace HB := Bx.mk (HB.out.trans (bn.mono HB.out.size)); have M4 := HK; clear bn)
    | (go_at_call 62; have hz := M2; clear hz; refine (C2.out _ _ _).mono ?_; rintro e wn ⟨rfl, bn⟩; replace HB := Bx.mk (HB.out.trans (bn.mono HB.out.size)); have M3 := HK; clear bn)
    | (go_at_call 63; have hz := M1; clear hz; refine (C1.out _ _ _).mono ?_; rintro e wn ⟨rfl, bn⟩; replace HB := Bx.mk (HB.out.trans (bn.mono HB.out.size)); have M2 := HK; clear bn)
    | (go_at_call 62; refine (C0.out _ _ _).mono ?_; rintro e wn ⟨rfl, bn⟩; replace HB := Bx.mk (HB.out.trans (bn.mono HB.out.size)); have M1 := HK; clear bn))
  obtain ⟨wA, hwA⟩ : ∃ W, wn.alloc (.cells #[.int .u8 3, .int .u8 0, .int .u32 0, .slice none 0 0] 28) = W := ⟨_, rfl⟩
  obtain ⟨gA, hgA⟩ : ∃ g, wn.heap.size = g := ⟨_, rfl⟩
  have HCC : Bx (∀ W, Below wA.heap.size wA W → W.cell? ⟨gA, 0, none⟩ = some (.int .u8 3) ∧ W.cell? ⟨gA, 1, none⟩ = some (.int .u8 0) ∧ W.cell? ⟨gA, 2, none⟩ = some (.int .u32 0) ∧ W.cell? ⟨gA, 3, none⟩ = some (.slice none 0 0)) := ⟨fun W hW => by
    have hlt : gA < wA.heap.size := by rw [← hwA, ← hgA]; simp
    rw [hW.cell hlt, hW.cell hlt, hW.cell hlt, hW.cell hlt, ← hwA, ← hgA]
    exact ⟨by simp, by simp, by simp, by simp⟩⟩
  replace HB : Bx (Below w.heap.size w wA) := ⟨by rw [← hwA]; exact HB.out.alloc HB.out.size _⟩
  have HBX := Bx.mk (Below.refl wA.heap.size wA)
  rw [hwA, hgA]
  clear hwA hgA
  obtain ⟨c0, c1, c2, c3⟩ := HCC.out _ HBX.out
  go_wp2_with (first
    | (go_at_call 62; refine (C4.out _ _ _).mono ?_; rintro e wx ⟨rfl, bn⟩; clear c0 c1 c2 c3; replace HBX := Bx.mk (HBX.out.trans (bn.mono HBX.out.size)); obtain ⟨c0, c1, c2, c3⟩ := HCC.out _ HBX.out; clear bn)
    | (go_at_call 63; refine (C5.out _ _ _).mono ?_; rintro e wx ⟨rfl, bn⟩; clear c0 c1 c2 c3; replace HBX := Bx.mk (HBX.out.trans (bn.mono HBX.out.size)); obtain ⟨c0, c1, c2, c3⟩ := HCC.out _ HBX.out; clear bn))
  go_ret
  exact ⟨rfl, HB.out.trans (HBX.out.mono HB.out.size)⟩
set_option maxRecDepth 100000 in
set_option maxHeartbeats 4000000 in
theorem se_tt8 (t : Int) (w : World) (ht : t.tmod 10 = 8) :
    Calls Try.prog 17 #[.int .u8 t, .bool true, .bool true] w fun e w' => e = .returned (.bool true) ∧ Below w.heap.size w w' := by
  have HK := Bx.mk (known15_any w)
  have S1 : hSend 0 1 1 = (2, 0) := rfl
  have R1 : hRecv 2 1 1 = (4, 0) := rfl
  have S2 : hSend 0 1 0 = (1, 0) := rfl
  have S3 : hSend 1 3 0 = (4, 0) := rfl
  have HS4 : hSend 4 8 0 = (4, 32) := rfl
  have HR4 : hRecv 4 8 0 = (4, 0) := rfl
  have C0 := Bx.mk (fun st v W => ss_send 0 1 1 st v (by decide) (by decide) (by rfl) W 1 1 rfl rfl)
  rw [S1] at C0
  have C1 := Bx.mk (fun st v W => ss_recv 2 1 1 st v (by decide) (by decide) (by rfl) W 1 1 rfl rfl)
  rw [R1] at C1
  have C2 := Bx.mk (fun st v W => ss_send 0 1 0 st v (by decide) (by decide) (by rfl) W 1 0 rfl rfl)
  rw [S2] at C2
  have C3 := Bx.mk (fun st v W => ss_send 1 3 0 st v (by decide) (by decide) (by rfl) W 3 0 rfl rfl)
  rw [S3] at C3
  have C4 := Bx.mk (fun st v W => ss_send 4 8 0 st v (by decide) (by decide) (by rfl) W 8 0 rfl rfl)
  rw [HS4] at C4
  have C5 := Bx.mk (fun st v W => ss_recv 4 8 0 st v (by decide) (by decide) (by rfl) W 8 0 rfl rfl)
  rw [HR4] at C5
  clear HR4 HS4 R1 S1 S2 S3
  go_enter Try.func17, Try.ntmps17
  go_upto_region 15 with (first
    | (go_at_call 61; refine HK.out.mono ?_; rintro e w1 ⟨rfl, b1⟩; have HB := Bx.mk b1; clear b1)
    | (go_at_call 62; have hz := M3; clear hz; refine (C3.out _ _ _).mono ?_; rintro e wn ⟨rfl, bn⟩; replace HB := Bx.mk (HB.out.trans (bn.mono HB.out.size)); have M4 := HK; clear bn)
    | (go_at_call 62; have hz := M2; clear hz; refine (C2.out _ _ _).mono ?_; rintro e wn ⟨rfl, bn⟩; replace HB := Bx.mk (HB.out.trans (bn.mono HB.out.size)); have M3 := HK; clear bn)
    | (go_at_call 63; have hz := M1; clear hz; refine (C1.out _ _ _).mono ?_; rintro e wn ⟨rfl, bn⟩; replace HB := Bx.mk (HB.out.trans (bn.mono HB.out.size)); have M2 := HK; clear bn)
    | (go_at_call 62; refine (C0.out _ _ _).mono ?_; rintro e wn ⟨rfl, bn⟩; replace HB := Bx.mk (HB.out.trans (bn.mono HB.out.size)); have M1 := HK; clear bn))
  obtain ⟨wA, hwA⟩ : ∃ W, wn.alloc (.cells #[.int .u8 8, .int .u8 0, .int .u32 0, .slice none 0 0] 28) = W := ⟨_, rfl⟩
  obtain ⟨gA, hgA⟩ : ∃ g, wn.heap.size = g := ⟨_, rfl⟩
  have HCC : Bx (∀ W, Below wA.heap.size wA W → W.cell? ⟨gA, 0, none⟩ = some (.int .u8 8) ∧ W.cell? ⟨gA, 1, none⟩ = some (.int .u8 0) ∧ W.cell? ⟨gA, 2, none⟩ = some (.int .u32 0) ∧ W.cell? ⟨gA, 3, none⟩ = some (.slice none 0 0)) := ⟨fun W hW => by
    have hlt : gA < wA.heap.size := by rw [← hwA, ← hgA]; simp
    rw [hW.cell hlt, hW.cell hlt, hW.cell hlt, hW.cell hlt, ← hwA, ← hgA]
    exact ⟨by simp, by simp, by simp, by simp⟩⟩
  replace HB : Bx (Below w.heap.size w wA) := ⟨by rw [← hwA]; exact HB.out.alloc HB.out.size _⟩
  have HBX := Bx.mk (Below.refl wA.heap.size wA)
  rw [hwA, hgA]
  clear hwA hgA
  obtain ⟨c0, c1, c2, c3⟩ := HCC.out _ HBX.out
  go_wp2_with (first
    | (go_at_call 62; refine (C4.out _ _ _).mono ?_; rintro e wx ⟨rfl, bn⟩; clear c0 c1 c2 c3; replace HBX := Bx.mk (HBX.out.trans (bn.mono HBX.out.size)); obtain ⟨c0, c1, c2, c3⟩ := HCC.out _ HBX.out; clear bn)
    | (go_at_call 63; refine (C5.out _ _ _).mono ?_; rintro e wx ⟨rfl, bn⟩; clear c0 c1 c2 c3; replace HBX := Bx.mk (HBX.out.trans (bn.mono HBX.out.size)); obtain ⟨c0, c1, c2, c3⟩ := HCC.out _ HBX.out; clear bn))
  go_ret
  exact ⟨rfl, HB.out.trans (HBX.out.mono HB.out.size)⟩
set_option maxRecDepth 100000 in
set_option maxHeartbeats 4000000 in
theorem se_tto (t : Int) (w : World) (T : Nat) (TI x : Int) (hT : T < 10) (hTI : (T : Int) = TI) (e2 : (TI == 2) = false) (e3 : (TI == 3) = false) (e8 : (TI == 8) = false) (ex : (x == 0) = false) (HS4 : hSend 4 T 0 = (4, 32)) (HR4 : hRecv 4 T 0 = (4, x)) (ht : t.tmod 10 = TI) (hw : IntKind.u8.wrap TI = TI) :
    Calls Try.prog 17 #[.int .u8 t, .bool true, .bool true] w fun e w' => e = .returned (.bool true) ∧ Below w.heap.size w w' := by
  have HK := Bx.mk (known15_any w)
  have S1 : hSend 0 1 1 = (2, 0) := rfl
  have R1 : hRecv 2 1 1 = (4, 0) := rfl
  have S2 : hSend 0 1 0 = (1, 0) := rfl
  have S3 : hSend 1 3 0 = (4, 0) := rfl
  have C0 := Bx.mk (fun st v W => ss_send 0 1 1 st v (by decide) (by decide) (by rfl) W 1 1 rfl rfl)
  rw [S1] at C0
  have C1 := Bx.mk (fun st v W => ss_recv 2 1 1 st v (by decide) (by decide) (by rfl) W 1 1 rfl rfl)
  rw [R1] at C1
  have C2 := Bx.mk (fun st v W => ss_send 0 1 0 st v (by decide) (by decide) (by rfl) W 1 0 rfl rfl)
  rw [S2] at C2
  have C3 := Bx.mk (fun st v W => ss_send 1 3 0 st v (by decide) (by decide) (by rfl) W 3 0 rfl rfl)
  rw [S3] at C3
  have C4 := Bx.mk (fun st v W => ss_send 4 T 0 st v (by omega) (by decide) (by rfl) W TI 0 hTI rfl)
  rw [HS4] at C4
  have C5 := Bx.mk (fun st v W => ss_recv 4 T 0 st v (by omega) (by decide) (by rfl) W TI 0 hTI rfl)
  rw [HR4] at C5
  clear HR4 HS4 R1 S1 S2 S3 hTI hT
  go_enter Try.func17, Try.ntmps17
  go_upto_region 15 with (first
    | (go_at_call 61; refine HK.out.mono ?_; rintro e w1 ⟨rfl, b1⟩; have HB := Bx.mk b1; clear b1)
    | (go_at_call 62; have hz := M3; clear hz; refine (C3.out _ _ _).mono ?_; rintro e wn ⟨rfl, bn⟩; replace HB := Bx.mk (HB.out.trans (bn.mono HB.out.size)); have M4 := HK; clear bn)
    | (go_at_call 62; have hz := M2; clear hz; refine (C2.out _ _ _).mono ?_; rintro e wn ⟨rfl, bn⟩; replace HB := Bx.mk (HB.out.trans (bn.mono HB.out.size)); have M3 := HK; clear bn)
    | (go_at_call 63; have hz := M1; clear hz; refine (C1.out _ _ _).mono ?_; rintro e wn ⟨rfl, bn⟩; replace HB := Bx.mk (HB.out.trans (bn.mono HB.out.size)); have M2 := HK; clear bn)
    | (go_at_call 62; refine (C0.out _ _ _).mono ?_; rintro e wn ⟨rfl, bn⟩; replace HB := Bx.mk (HB.out.trans (bn.mono HB.out.size)); have M1 := HK; clear bn))
  obtain ⟨wA, hwA⟩ : ∃ W, wn.alloc (.cells #[.int .u8 TI, .int .u8 0, .int .u32 0, .slice none 0 0] 28) = W := ⟨_, rfl⟩
  obtain ⟨gA, hgA⟩ : ∃ g, wn.heap.size = g := ⟨_, rfl⟩
  have HCC : Bx (∀ W, Below wA.heap.size wA W → W.cell? ⟨gA, 0, none⟩ = some (.int .u8 TI) ∧ W.cell? ⟨gA, 1, none⟩ = some (.int .u8 0) ∧ W.cell? ⟨gA, 2, none⟩ = some (.int .u32 0) ∧ W.cell? ⟨gA, 3, none⟩ = some (.slice none 0 0)) := ⟨fun W hW => by
    have hlt : gA < wA.heap.size := by rw [← hwA, ← hgA]; simp
    rw [hW.cell hlt, hW.cell hlt, hW.cell hlt, hW.cell hlt, ← hwA, ← hgA]
    exact ⟨by simp, by simp, by simp, by simp⟩⟩
  replace HB : Bx (Below w.heap.size w wA) := ⟨by rw [← hwA]; exact HB.out.alloc HB.out.size _⟩
  have HBX := Bx.mk (Below.refl wA.heap.size wA)
  rw [hwA, hgA]
  clear hwA hgA
  obtain ⟨c0, c1, c2, c3⟩ := HCC.out _ HBX.out
  go_wp2_with (first
    | (go_at_call 62; refine (C4.out _ _ _).mono ?_; rintro e wx ⟨rfl, bn⟩; clear c0 c1 c2 c3; replace HBX := Bx.mk (HBX.out.trans (bn.mono HBX.out.size)); obtain ⟨c0, c1, c2, c3⟩ := HCC.out _ HBX.out; clear bn)
    | (go_at_call 63; refine (C5.out _ _ _).mono ?_; rintro e wx ⟨rfl, bn⟩; clear c0 c1 c2 c3; replace HBX := Bx.mk (HBX.out.trans (bn.mono HBX.out.size)); obtain ⟨c0, c1, c2, c3⟩ := HCC.out _ HBX.out; clear bn))
  go_ret
  exact ⟨rfl, HB.out.trans (HBX.out.mono HB.out.size)⟩
set_option maxRecDepth 100000 in
set_option maxHeartbeats 4000000 in
theorem se_tf2 (t : Int) (w : World) (ht : t.tmod 10 = 2) :
    Calls Try.prog 17 #[.int .u8 t, .bool true, .bool false] w fun e w' => e = .returned (.bool true) ∧ Below w.heap.size w w' := by
  have HK := Bx.mk (known15_any w)
  have S1 : hSend 0 1 1 = (2, 0) := rfl
  have R1 : hRecv 2 1 1 = (4, 0) := rfl
  have S2 : hSend 0 1 0 = (1, 0) := rfl
  have R3 : hRecv 1 3 0 = (4, 0) := rfl
  have HS4 : hSend 4 2 0 = (4, 0) := rfl
  have HR4 : hRecv 4 2 0 = (4, 0) := rfl
  have C0 := Bx.mk (fun st v W => ss_send 0 1 1 st v (by decide) (by decide) (by rfl) W 1 1 rfl rfl)
  rw [S1] at C0
  have C1 := Bx.mk (fun st v W => ss_recv 2 1 1 st v (by decide) (by decide) (by rfl) W 1 1 rfl rfl)
  rw [R1] at C1
  have C2 := Bx.mk (fun st v W => ss_send 0 1 0 st v (by decide) (by decide) (by rfl) W 1 0 rfl rfl)
  rw [S2] at C2
  have C3 := Bx.mk (fun st v W => ss_recv 1 3 0 st v (by decide) (by decide) (by rfl) W 3 0 rfl rfl)
  rw [R3] at C3
  have C4 := Bx.mk (fun st v W => ss_send 4 2 0 st v (by decide) (by decide) (by rfl) W 2 0 rfl rfl)
  rw [HS4] at C4
  have C5 := Bx.mk (fun st v W => ss_recv 4 2 0 st v (by decide) (by decide) (by rfl) W 2 0 rfl rfl)
  rw [HR4] at C5
  clear HR4 HS4 R1 R3 S1 S2
  go_enter Try.func17, Try.ntmps17
  go_upto_region 15 with (first
    | (go_at_call 61; refine HK.out.mono ?_; rintro e w1 ⟨rfl, b1⟩; have HB := Bx.mk b1; clear b1)
    | (go_at_call 63; have hz := M3; clear hz; refine (C3.out _ _ _).mono ?_; rintro e wn ⟨rfl, bn⟩; replace HB := Bx.mk (HB.out.trans (bn.mono HB.out.size)); have M4 := HK; clear bn)
    | (go_at_call 62; have hz := M2; clear hz; refine (C2.out _ _ _).mono ?_; rintro e wn ⟨rfl, bn⟩; replace HB := Bx.mk (HB.out.trans (bn.mono HB.out.size)); have M3 := HK; clear bn)
    | (go_at_call 63; have hz := M1; clear hz; refine (C1.out _ _ _).mono ?_; rintro e wn ⟨rfl, bn⟩; replace HB := Bx.mk (HB.out.trans (bn.mono HB.out.size)); have M2 := HK; clear bn)
    | (go_at_call 62; refine (C0.out _ _ _).mono ?_; rintro e wn ⟨rfl, bn⟩; replace HB := Bx.mk (HB.out.trans (bn.mono HB.out.size)); have M1 := HK; clear bn))
  obtain ⟨wA, hwA⟩ : ∃ W, wn.alloc (.cells #[.int .u8 2, .int .u8 0, .int .u32 0, .slice none 0 0] 28) = W := ⟨_, rfl⟩
  obtain ⟨gA, hgA⟩ : ∃ g, wn.heap.size = g := ⟨_, rfl⟩
  have HCC : Bx (∀ W, Below wA.heap.size wA W → W.cell? ⟨gA, 0, none⟩ = some (.int .u8 2) ∧ W.cell? ⟨gA, 1, none⟩ = some (.int .u8 0) ∧ W.cell? ⟨gA, 2, none⟩ = some (.int .u32 0) ∧ W.cell? ⟨gA, 3, none⟩ = some (.slice none 0 0)) := ⟨fun W hW => by
    have hlt : gA < wA.heap.size := by rw [← hwA, ← hgA]; simp
    rw [hW.cell hlt, hW.cell hlt, hW.cell hlt, hW.cell hlt, ← hwA, ← hgA]
    exact ⟨by simp, by simp, by simp, by simp⟩⟩
  replace HB : Bx (Below w.heap.size w wA) := ⟨by rw [← hwA]; exact HB.out.alloc HB.out.size _⟩
  have HBX := Bx.mk (Below.refl wA.heap.size wA)
  rw [hwA, hgA]
  clear hwA hgA
  obtain ⟨c0, c1, c2, c3⟩ := HCC.out _ HBX.out
  go_wp2_with (first
    | (go_at_call 62; refine (C4.out _ _ _).mono ?_; rintro e wx ⟨rfl, bn⟩; clear c0 c1 c2 c3; replace HBX := Bx.mk (HBX.out.trans (bn.mono HBX.out.size)); obtain ⟨c0, c1, c2, c3⟩ := HCC.out _ HBX.out; clear bn)
    | (go_at_call 63; refine (C5.out _ _ _).mono ?_; rintro e wx ⟨rfl, bn⟩; clear c0 c1 c2 c3; replace HBX := Bx.mk (HBX.out.trans (bn.mono HBX.out.size)); obtain ⟨c0, c1, c2, c3⟩ := HCC.out _ HBX.out; clear bn))
  go_ret
  exact ⟨rfl, HB.out.trans (HBX.out.mono HB.out.size)⟩
set_option maxRecDepth 100000 in
set_option maxHeartbeats 4000000 in
theorem se_tf3 (t : Int) (w : World) (ht : t.tmod 10 = 3) :
    Calls Try.prog 17 #[.int .u8 t, .bool true, .bool false] w fun e w' => e = .returned (.bool true) ∧ Below w.heap.size w w' := by
  have HK := Bx.mk (known15_any w)
  have S1 : hSend 0 1 1 = (2, 0) := rfl
  have R1 : hRecv 2 1 1 = (4, 0) := rfl
  have S2 : hSend 0 1 0 = (1, 0) := rfl
  have R3 : hRecv 1 3 0 = (4, 0) := rfl
  have HS4 : hSend 4 3 0 = (4, 0) := rfl
  have HR4 : hRecv 4 3 0 = (4, 0) := rfl
  have C0 := Bx.mk (fun st v W => ss_send 0 1 1 st v (by decide) (by decide) (by rfl) W 1 1 rfl rfl)
  rw [S1] at C0
  have C1 := Bx.mk (fun st v W => ss_recv 2 1 1 st v (by decide) (by decide) (by rfl) W 1 1 rfl rfl)
  rw [R1] at C1
  have C2 := Bx.mk (fun st v W => ss_send 0 1 0 st v (by decide) (by decide) (by rfl) W 1 0 rfl rfl)
  rw [S2] at C2
  have C3 := Bx.mk (fun st v W => ss_recv 1 3 0 st v (by decide) (by decide) (by rfl) W 3 0 rfl rfl)
  rw [R3] at C3
  have C4 := Bx.mk (fun st v W => ss_send 4 3 0 st v (by decide) (by decide) (by rfl) W 3 0 rfl rfl)
  rw [HS4] at C4
  have C5 := Bx.mk (fun st v W => ss_recv 4 3 0 st v (by decide) (by decide) (by rfl) W 3 0 rfl rfl)
  rw [HR4] at C5
  clear HR4 HS4 R1 R3 S1 S2
  go_enter Try.func17, Try.ntmps17
  go_upto_region 15 with (first
    | (go_at_call 61; refine HK.out.mono ?_; rintro e w1 ⟨rfl, b1⟩; have HB := Bx.mk b1; clear b1)
    | (go_at_call 63; have hz := M3; clear hz; refine (C3.out _ _ _).mono ?_; rintro e wn ⟨rfl, bn⟩; replace HB := Bx.mk (HB.out.trans (bn.mono HB.out.size)); have M4 := HK; clear bn)
    | (go_at_call 62; have hz := M2; clear hz; refine (C2.out _ _ _).mono ?_; rintro e wn ⟨rfl, bn⟩; replace HB := Bx.mk (HB.out.trans (bn.mono HB.out.size)); have M3 := HK; clear bn)
    | (go_at_call 63; have hz := M1; clear hz; refine (C1.out _ _ _).mono ?_; rintro e wn ⟨rfl, bn⟩; replace HB := Bx.mk (HB.out.trans (bn.mono HB.out.size)); have M2 := HK; clear bn)
    | (go_at_call 62; refine (C0.out _ _ _).mono ?_; rintro e wn ⟨rfl, bn⟩; replace HB := Bx.mk (HB.out.trans (bn.mono HB.out.size)); have M1 := HK; clear bn))
  obtain ⟨wA, hwA⟩ : ∃ W, wn.alloc (.cells #[.int .u8 3, .int .u8 0, .int .u32 0, .slice none 0 0] 28) = W := ⟨_, rfl⟩
  obtain ⟨gA, hgA⟩ : ∃ g, wn.heap.size = g := ⟨_, rfl⟩
  have HCC : Bx (∀ W, Below wA.heap.size wA W → W.cell? ⟨gA, 0, none⟩ = some (.int .u8 3) ∧ W.cell? ⟨gA, 1, none⟩ = some (.int .u8 0) ∧ W.cell? ⟨gA, 2, none⟩ = some (.int .u32 0) ∧ W.cell? ⟨gA, 3, none⟩ = some (.slice none 0 0)) := ⟨fun W hW => by
    have hlt : gA < wA.heap.size := by rw [← hwA, ← hgA]; simp
    rw [hW.cell hlt, hW.cell hlt, hW.cell hlt, hW.cell hlt, ← hwA, ← hgA]
    exact ⟨by simp, by simp, by simp, by simp⟩⟩
  replace HB : Bx (Below w.heap.size w wA) := ⟨by rw [← hwA]; exact HB.out.alloc HB.out.size _⟩
  have HBX := Bx.mk (Below.refl wA.heap.size wA)
  rw [hwA, hgA]
  clear hwA hgA
  obtain ⟨c0, c1, c2, c3⟩ := HCC.out _ HBX.out
  go_wp2_with (first
    | (go_at_call 62; refine (C4.out _ _ _).mono ?_; rintro e wx ⟨rfl, bn⟩; clear c0 c1 c2 c3; replace HBX := Bx.mk (HBX.out.trans (bn.mono HBX.out.size)); obtain ⟨c0, c1, c2, c3⟩ := HCC.out _ HBX.out; clear bn)
    | (go_at_call 63; refine (C5.out _ _ _).mono ?_; rintro e wx ⟨rfl, bn⟩; clear c0 c1 c2 c3; replace HBX := Bx.mk (HBX.out.trans (bn.mono HBX.out.size)); obtain ⟨c0, c1, c2, c3⟩ := HCC.out _ HBX.out; clear bn))
  go_ret
  exact ⟨rfl, HB.out.trans (HBX.out.mono HB.out.size)⟩
set_option maxRecDepth 100000 in
set_option maxHeartbeats 4000000 in
theorem se_tf8 (t : Int) (w : World) (ht : t.tmod 10 = 8) :
    Calls Try.prog 17 #[.int .u8 t, .bool true, .bool false] w fun e w' => e = .returned (.bool true) ∧ Below w.heap.size w w' := by
  have HK := Bx.mk (known15_any w)
  have S1 : hSend 0 1 1 = (2, 0) := rfl
  have R1 : hRecv 2 1 1 = (4, 0) := rfl
  have S2 : hSend 0 1 0 = (1, 0) := rfl
  have R3 : hRecv 1 3 0 = (4, 0) := rfl
  have HS4 : hSend 4 8 0 = (4, 32) := rfl
  have HR4 : hRecv 4 8 0 = (4, 0) := rfl
  have C0 := Bx.mk (fun st v W => ss_send 0 1 1 st v (by decide) (by decide) (by rfl) W 1 1 rfl rfl)
  rw [S1] at C0
  have C1 := Bx.mk (fun st v W => ss_recv 2 1 1 st v (by decide) (by decide) (by rfl) W 1 1 rfl rfl)
  rw [R1] at C1
  have C2 := Bx.mk (fun st v W => ss_send 0 1 0 st v (by decide) (by decide) (by rfl) W 1 0 rfl rfl)
  rw [S2] at C2
  have C3 := Bx.mk (fun st v W => ss_recv 1 3 0 st v (by decide) (by decide) (by rfl) W 3 0 rfl rfl)
  rw [R3] at C3
  have C4 := Bx.mk (fun st v W => ss_send 4 8 0 st v (by decide) (by decide) (by rfl) W 8 0 rfl rfl)
  rw [HS4] at C4
  have C5 := Bx.mk (fun st v W => ss_recv 4 8 0 st v (by decide) (by decide) (by rfl) W 8 0 rfl rfl)
  rw [HR4] at C5
  clear HR4 HS4 R1 R3 S1 S2
  go_enter Try.func17, Try.ntmps17
  go_upto_region 15 with (first
    | (go_at_call 61; refine HK.out.mono ?_; rintro e w1 ⟨rfl, b1⟩; have HB := Bx.mk b1; clear b1)
    | (go_at_call 63; have hz := M3; clear hz; refine (C3.out _ _ _).mono ?_; rintro e wn ⟨rfl, bn⟩; replace HB := Bx.mk (HB.out.trans (bn.mono HB.out.size)); have M4 := HK; clear bn)
    | (go_at_call 62; have hz := M2; clear hz; refine (C2.out _ _ _).mono ?_; rintro e wn ⟨rfl, bn⟩; replace HB := Bx.mk (HB.out.trans (bn.mono HB.out.size)); have M3 := HK; clear bn)
    | (go_at_call 63; have hz := M1; clear hz; refine (C1.out _ _ _).mono ?_; rintro e wn ⟨rfl, bn⟩; replace HB := Bx.mk (HB.out.trans (bn.mono HB.out.size)); have M2 := HK; clear bn)
    | (go_at_call 62; refine (C0.out _ _ _).mono ?_; rintro e wn ⟨rfl, bn⟩; replace HB := Bx.mk (HB.out.trans (bn.mono HB.out.size)); have M1 := HK; clear bn))
  obtain ⟨wA, hwA⟩ : ∃ W, wn.alloc (.cells #[.int .u8 8, .int .u8 0, .int .u32 0, .slice none 0 0] 28) = W := ⟨_, rfl⟩
  obtain ⟨gA, hgA⟩ : ∃ g, wn.heap.size = g := ⟨_, rfl⟩
  have HCC : Bx (∀ W, Below wA.heap.size wA W → W.cell? ⟨gA, 0, none⟩ = some (.int .u8 8) ∧ W.cell? ⟨gA, 1, none⟩ = some (.int .u8 0) ∧ W.cell? ⟨gA, 2, none⟩ = some (.int .u32 0) ∧ W.cell? ⟨gA, 3, none⟩ = some (.slice none 0 0)) := ⟨fun W hW => by
    have hlt : gA < wA.heap.size := by rw [← hwA, ← hgA]; simp
    rw [hW.cell hlt, hW.cell hlt, hW.cell hlt, hW.cell hlt, ← hwA, ← hgA]
    exact ⟨by simp, by simp, by simp, by simp⟩⟩
  replace HB : Bx (Below w.heap.size w wA) := ⟨by rw [← hwA]; exact HB.out.alloc HB.out.size _⟩
  have HBX := Bx.mk (Below.refl wA.heap.size wA)
  rw [hwA, hgA]
  clear hwA hgA
  obtain ⟨c0, c1, c2, c3⟩ := HCC.out _ HBX.out
  go_wp2_with (first
    | (go_at_call 62; refine (C4.out _ _ _).mono ?_; rintro e wx ⟨rfl, bn⟩; clear c0 c1 c2 c3; replace HBX := Bx.mk (HBX.out.trans (bn.mono HBX.out.size)); obtain ⟨c0, c1, c2, c3⟩ := HCC.out _ HBX.out; clear bn)
    | (go_at_call 63; refine (C5.out _ _ _).mono ?_; rintro e wx ⟨rfl, bn⟩; clear c0 c1 c2 c3; replace HBX := Bx.mk (HBX.out.trans (bn.mono HBX.out.size)); obtain ⟨c0, c1, c2, c3⟩ := HCC.out _ HBX.out; clear bn))
  go_ret
  exact ⟨rfl, HB.out.trans (HBX.out.mono HB.out.size)⟩
set_option maxRecDepth 100000 in
set_option maxHeartbeats 4000000 in
theorem se_tfo (t : Int) (w : World) (T : Nat) (TI x : Int) (hT : T < 10) (hTI : (T : Int) = TI) (e2 : (TI == 2) = false) (e3 : (TI == 3) = false) (e8 : (TI == 8) = false) (ex : (x == 0) = false) (HS4 : hSend 4 T 0 = (4, 32)) (HR4 : hRecv 4 T 0 = (4, x)) (ht : t.tmod 10 = TI) (hw : IntKind.u8.wrap TI = TI) :
    Calls Try.prog 17 #[.int .u8 t, .bool true, .bool false] w fun e w' => e = .returned (.bool true) ∧ Below w.heap.size w w' := by
  have HK := Bx.mk (known15_any w)
  have S1 : hSend 0 1 1 = (2, 0) := rfl
  have R1 : hRecv 2 1 1 = (4, 0) := rfl
  have S2 : hSend 0 1 0 = (1, 0) := rfl
  have R3 : hRecv 1 3 0 = (4, 0) := rfl
  have C0 := Bx.mk (fun st v W => ss_send 0 1 1 st v (by decide) (by decide) (by rfl) W 1 1 rfl rfl)
  rw [S1] at C0
  have C1 := Bx.mk (fun st v W => ss_recv 2 1 1 st v (by decide) (by decide) (by rfl) W 1 1 rfl rfl)
  rw [R1] at C1
  have C2 := Bx.mk (fun st v W => ss_send 0 1 0 st v (by decide) (by decide) (by rfl) W 1 0 rfl rfl)
  rw [S2] at C2
  have C3 := Bx.mk (fun st v W => ss_recv 1 3 0 st v (by decide) (by decide) (by rfl) W 3 0 rfl rfl)
  rw [R3] at C3
  have C4 := Bx.mk (fun st v W => ss_send 4 T 0 st v (by omega) (by decide) (by rfl) W TI 0 hTI rfl)
  rw [HS4] at C4
  have C5 := Bx.mk (fun st v W => ss_recv 4 T 0 st v (by omega) (by decide) (by rfl) W TI 0 hTI rfl)
  rw [HR4] at C5
  clear HR4 HS4 R1 R3 S1 S2 hTI hT
  go_enter Try.func17, Try.ntmps17
  go_upto_region 15 with (first
    | (go_at_call 61; refine HK.out.mono ?_; rintro e w1 ⟨rfl, b1⟩; have HB := Bx.mk b1; clear b1)
    | (go_at_call 63; have hz := M3; clear hz; refine (C3.out _ _ _).mono ?_; rintro e wn ⟨rfl, bn⟩; replace HB := Bx.mk (HB.out.trans (bn.mono HB.out.size)); have M4 := HK; clear bn)
    | (go_at_call 62; have hz := M2; clear hz; refine (C2.out _ _ _).mono ?_; rintro e wn ⟨rfl, bn⟩; replace HB := Bx.mk (HB.out.trans (bn.mono HB.out.size)); have M3 := HK; clear bn)
    | (go_at_call 63; have hz := M1; clear hz; refine (C1.out _ _ _).mono ?_; rintro e wn ⟨rfl, bn⟩; replace HB := Bx.mk (HB.out.trans (bn.mono HB.out.size)); have M2 := HK; clear bn)
    | (go_at_call 62; refine (C0.out _ _ _).mono ?_; rintro e wn ⟨rfl, bn⟩; replace HB := Bx.mk (HB.out.trans (bn.mono HB.out.size)); have M1 := HK; clear bn))
  obtain ⟨wA, hwA⟩ : ∃ W, wn.alloc (.cells #[.int .u8 TI, .int .u8 0, .int .u32 0, .slice none 0 0] 28) = W := ⟨_, rfl⟩
  obtain ⟨gA, hgA⟩ : ∃ g, wn.heap.size = g := ⟨_, rfl⟩
  have HCC : Bx (∀ W, Below wA.heap.size wA W → W.cell? ⟨gA, 0, none⟩ = some (.int .u8 TI) ∧ W.cell? ⟨gA, 1, none⟩ = some (.int .u8 0) ∧ W.cell? ⟨gA, 2, none⟩ = some (.int .u32 0) ∧ W.cell? ⟨gA, 3, none⟩ = some (.slice none 0 0)) := ⟨fun W hW => by
    have hlt : gA < wA.heap.size := by rw [← hwA, ← hgA]; simp
    rw [hW.cell hlt, hW.cell hlt, hW.cell hlt, hW.cell hlt, ← hwA, ← hgA]
    exact ⟨by simp, by simp, by simp, by simp⟩⟩
  replace HB : Bx (Below w.heap.size w wA) := ⟨by rw [← hwA]; exact HB.out.alloc HB.out.size _⟩
  have HBX := Bx.mk (Below.refl wA.heap.size wA)
  rw [hwA, hgA]
  clear hwA hgA
  obtain ⟨c0, c1, c2, c3⟩ := HCC.out _ HBX.out
  go_wp2_with (first
    | (go_at_call 62; refine (C4.out _ _ _).mono ?_; rintro e wx ⟨rfl, bn⟩; clear c0 c1 c2 c3; replace HBX := Bx.mk (HBX.out.trans (bn.mono HBX.out.size)); obtain ⟨c0, c1, c2, c3⟩ := HCC.out _ HBX.out; clear bn)
    | (go_at_call 63; refine (C5.out _ _ _).mono ?_; rintro e wx ⟨rfl, bn⟩; clear c0 c1 c2 c3; replace HBX := Bx.mk (HBX.out.trans (bn.mono HBX.out.size)); obtain ⟨c0, c1, c2, c3⟩ := HCC.out _ HBX.out; clear bn))
  go_ret
  exact ⟨rfl, HB.out.trans (HBX.out.mono HB.out.size)⟩
set_option maxRecDepth 100000 in
set_option maxHeartbeats 4000000 in
theorem se_fx2 (t : Int) (first : Bool) (w : World) (ht : t.tmod 10 = 2) :
    Calls Try.prog 17 #[.int .u8 t, .bool false, .bool first] w fun e w' => e = .returned (.bool true) ∧ Below w.heap.size w w' := by
  have HK := Bx.mk (known15_any w)
  have S1 : hSend 0 1 1 = (2, 0) := rfl
  have R1 : hRecv 2 1 1 = (4, 0) := rfl
  have HS4 : hSend 4 2 0 = (4, 0) := rfl
  have HR4 : hRecv 4 2 0 = (4, 0) := rfl
  have C0 := Bx.mk (fun st v W => ss_send 0 1 1 st v (by decide) (by decide) (by rfl) W 1 1 rfl rfl)
  rw [S1] at C0
  have C1 := Bx.mk (fun st v W => ss_recv 2 1 1 st v (by decide) (by decide) (by rfl) W 1 1 rfl rfl)
  rw [R1] at C1
  have C2 := Bx.mk (fun st v W => ss_send 4 2 0 st v (by decide) (by decide) (by rfl) W 2 0 rfl rfl)
  rw [HS4] at C2
  have C3 := Bx.mk (fun st v W => ss_recv 4 2 0 st v (by decide) (by decide) (by rfl) W 2 0 rfl rfl)
  rw [HR4] at C3
  clear HR4 HS4 R1 S1
  go_enter Try.func17, Try.ntmps17
  go_upto_region 15 with (first
    | (go_at_call 61; refine HK.out.mono ?_; rintro e w1 ⟨rfl, b1⟩; have HB := Bx.mk b1; clear b1)
    | (go_at_call 63; have hz := M1; clear hz; refine (C1.out _ _ _).mono ?_; rintro e wn ⟨rfl, bn⟩; replace HB := Bx.mk (HB.out.trans (bn.mono HB.out.size)); have M2 := HK; clear bn)
    | (go_at_call 62; refine (C0.out _ _ _).mono ?_; rintro e wn ⟨rfl, bn⟩; replace HB := Bx.mk (HB.out.trans (bn.mono HB.out.size)); have M1 := HK; clear bn))
  obtain ⟨wA, hwA⟩ : ∃ W, wn.alloc (.cells #[.int .u8 2, .int .u8 0, .int .u32 0, .slice none 0 0] 28) = W := ⟨_, rfl⟩
  obtain ⟨gA, hgA⟩ : ∃ g, wn.heap.size = g := ⟨_, rfl⟩
  have HCC : Bx (∀ W, Below wA.heap.size wA W → W.cell? ⟨gA, 0, none⟩ = some (.int .u8 2) ∧ W.cell? ⟨gA, 1, none⟩ = some (.int .u8 0) ∧ W.cell? ⟨gA, 2, none⟩ = some (.int .u32 0) ∧ W.cell? ⟨gA, 3, none⟩ = some (.slice none 0 0)) := ⟨fun W hW => by
    have hlt : gA < wA.heap.size := by rw [← hwA, ← hgA]; simp
    rw [hW.cell hlt, hW.cell hlt, hW.cell hlt, hW.cell hlt, ← hwA, ← hgA]
    exact ⟨by simp, by simp, by simp, by simp⟩⟩
  replace HB : Bx (Below w.heap.size w wA) := ⟨by rw [← hwA]; exact HB.out.alloc HB.out.size _⟩
  have HBX := Bx.mk (Below.refl wA.heap.size wA)
  rw [hwA, hgA]
  clear hwA hgA
  obtain ⟨c0, c1, c2, c3⟩ := HCC.out _ HBX.out
  go_wp2_with (first
    | (go_at_call 62; refine (C2.out _ _ _).mono ?_; rintro e wx ⟨rfl, bn⟩; clear c0 c1 c2 c3; replace HBX := Bx.mk (HBX.out.trans (bn.mono HBX.out.size)); obtain ⟨c0, c1, c2, c3⟩ := HCC.out _ HBX.out; clear bn)
    | (go_at_call 63; refine (C3.out _ _ _).mono ?_; rintro e wx ⟨rfl, bn⟩; clear c0 c1 c2 c3; replace HBX := Bx.mk (HBX.out.trans (bn.mono HBX.out.size)); obtain ⟨c0, c1, c2, c3⟩ := HCC.out _ HBX.out; clear bn))
  go_ret
  exact ⟨rfl, HB.out.trans (HBX.out.mono HB.out.size)⟩
set_option maxRecDepth 100000 in
set_option maxHeartbeats 4000000 in
theorem se_fx3 (t : Int) (first : Bool) (w : World) (ht : t.tmod 10 = 3) :
    Calls Try.prog 17 #[.int .u8 t, .bool false, .bool first] w fun e w' => e = .returned (.bool true) ∧ Below w.heap.size w w' := by
  have HK := Bx.mk (known15_any w)
  have S1 : hSend 0 1 1 = (2, 0) := rfl
  have R1 : hRecv 2 1 1 = (4, 0) := rfl
  have HS4 : hSend 4 3 0 = (4, 0) := rfl
  have HR4 : hRecv 4 3 0 = (4, 0) := rfl
  have C0 := Bx.mk (fun st v W => ss_send 0 1 1 st v (by decide) (by decide) (by rfl) W 1 1 rfl rfl)
  rw [S1] at C0
  have C1 := Bx.mk (fun st v W => ss_recv 2 1 1 st v (by decide) (by decide) (by rfl) W 1 1 rfl rfl)
  rw [R1] at C1
  have C2 := Bx.mk (fun st v W => ss_send 4 3 0 st v (by decide) (by decide) (by rfl) W 3 0 rfl rfl)
  rw [HS4] at C2
  have C3 := Bx.mk (fun st v W => ss_recv 4 3 0 st v (by decide) (by decide) (by rfl) W 3 0 rfl rfl)
  rw [HR4] at C3
  clear HR4 HS4 R1 S1
  go_enter Try.func17, Try.ntmps17
  go_upto_region 15 with (first
    | (go_at_call 61; refine HK.out.mono ?_; rintro e w1 ⟨rfl, b1⟩; have HB := Bx.mk b1; clear b1)
    | (go_at_call 63; have hz := M1; clear hz; refine (C1.out _ _ _).mono ?_; rintro e wn ⟨rfl, bn⟩; replace HB := Bx.mk (HB.out.trans (bn.mono HB.out.size)); have M2 := HK; clear bn)
    | (go_at_call 62; refine (C0.out _ _ _).mono ?_; rintro e wn ⟨rfl, bn⟩; replace HB := Bx.mk (HB.out.trans (bn.mono HB.out.size)); have M1 := HK; clear bn))
  obtain ⟨wA, hwA⟩ : ∃ W, wn.alloc (.cells #[.int .u8 3, .int .u8 0, .int .u32 0, .slice none 0 0] 28) = W := ⟨_, rfl⟩
  obtain ⟨gA, hgA⟩ : ∃ g, wn.heap.size = g := ⟨_, rfl⟩
  have HCC : Bx (∀ W, Below wA.heap.size wA W → W.cell? ⟨gA, 0, none⟩ = some (.int .u8 3) ∧ W.cell? ⟨gA, 1, none⟩ = some (.int .u8 0) ∧ W.cell? ⟨gA, 2, none⟩ = some (.int .u32 0) ∧ W.cell? ⟨gA, 3, none⟩ = some (.slice none 0 0)) := ⟨fun W hW => by
    have hlt : gA < wA.heap.size := by rw [← hwA, ← hgA]; simp
    rw [hW.cell hlt, hW.cell hlt, hW.cell hlt, hW.cell hlt, ← hwA, ← hgA]
    exact ⟨by simp, by simp, by simp, by simp⟩⟩
  replace HB : Bx (Below w.heap.size w wA) := ⟨by rw [← hwA]; exact HB.out.alloc HB.out.size _⟩
  have HBX := Bx.mk (Below.refl wA.heap.size wA)
  rw [hwA, hgA]
  clear hwA hgA
  obtain ⟨c0, c1, c2, c3⟩ := HCC.out _ HBX.out
  go_wp2_with (first
    | (go_at_call 62; refine (C2.out _ _ _).mono ?_; rintro e wx ⟨rfl, bn⟩; clear c0 c1 c2 c3; replace HBX := Bx.mk (HBX.out.trans (bn.mono HBX.out.size)); obtain ⟨c0, c1, c2, c3⟩ := HCC.out _ HBX.out; clear bn)
    | (go_at_call 63; refine (C3.out _ _ _).mono ?_; rintro e wx ⟨rfl, bn⟩; clear c0 c1 c2 c3; replace HBX := Bx.mk (HBX.out.trans (bn.mono HBX.out.size)); obtain ⟨c0, c1, c2, c3⟩ := HCC.out _ HBX.out; clear bn))
  go_ret
  exact ⟨rfl, HB.out.trans (HBX.out.mono HB.out.size)⟩
set_option maxRecDepth 100000 in
set_option maxHeartbeats 4000000 in
theorem se_fx8 (t : Int) (first : Bool) (w : World) (ht : t.tmod 10 = 8) :
    Calls Try.prog 17 #[.int .u8 t, .bool false, .bool first] w fun e w' => e = .returned (.bool true) ∧ Below w.heap.size w w' := by
  have HK := Bx.mk (known15_any w)
  have S1 : hSend 0 1 1 = (2, 0) := rfl
  have R1 : hRecv 2 1 1 = (4, 0) := rfl
  have HS4 : hSend 4 8 0 = (4, 32) := rfl
  have HR4 : hRecv 4 8 0 = (4, 0) := rfl
  have C0 := Bx.mk (fun st v W => ss_send 0 1 1 st v (by decide) (by decide) (by rfl) W 1 1 rfl rfl)
  rw [S1] at C0
  have C1 := Bx.mk (fun st v W => ss_recv 2 1 1 st v (by decide) (by decide) (by rfl) W 1 1 rfl rfl)
  rw [R1] at C1
  have C2 := Bx.mk (fun st v W => ss_send 4 8 0 st v (by decide) (by decide) (by rfl) W 8 0 rfl rfl)
  rw [HS4] at C2
  have C3 := Bx.mk (fun st v W => ss_recv 4 8 0 st v (by decide) (by decide) (by rfl) W 8 0 rfl rfl)
  rw [HR4] at C3
  clear HR4 HS4 R1 S1
  go_enter Try.func17, Try.ntmps17
  go_upto_region 15 with (first
    | (go_at_call 61; refine HK.out.mono ?_; rintro e w1 ⟨rfl, b1⟩; have HB := Bx.mk b1; clear b1)
    | (go_at_call 63; have hz := M1; clear hz; refine (C1.out _ _ _).mono ?_; rintro e wn ⟨rfl, bn⟩; replace HB := Bx.mk (HB.out.trans (bn.mono HB.out.size)); have M2 := HK; clear bn)
    | (go_at_call 62; refine (C0.out _ _ _).mono ?_; rintro e wn ⟨rfl, bn⟩; replace HB := Bx.mk (HB.out.trans (bn.mono HB.out.size)); have M1 := HK; clear bn))
  obtain ⟨wA, hwA⟩ : ∃ W, wn.alloc (.cells #[.int .u8 8, .int .u8 0, .int .u32 0, .slice none 0 0] 28) = W := ⟨_, rfl⟩
  obtain ⟨gA, hgA⟩ : ∃ g, wn.heap.size = g := ⟨_, rfl⟩
  have HCC : Bx (∀ W, Below wA.heap.size wA W → W.cell? ⟨gA, 0, none⟩ = some (.int .u8 8) ∧ W.cell? ⟨gA, 1, none⟩ = some (.int .u8 0) ∧ W.cell? ⟨gA, 2, none⟩ = some (.int .u32 0) ∧ W.cell? ⟨gA, 3, none⟩ = some (.slice none 0 0)) := ⟨fun W hW => by
    have hlt : gA < wA.heap.size := by rw [← hwA, ← hgA]; simp
    rw [hW.cell hlt, hW.cell hlt, hW.cell hlt, hW.cell hlt, ← hwA, ← hgA]
    exact ⟨by simp, by simp, by simp, by simp⟩⟩
  replace HB : Bx (Below w.heap.size w wA) := ⟨by rw [← hwA]; exact HB.out.alloc HB.out.size _⟩
  have HBX := Bx.mk (Below.refl wA.heap.size wA)
  rw [hwA, hgA]
  clear hwA hgA
  obtain ⟨c0, c1, c2, c3⟩ := HCC.out _ HBX.out
  go_wp2_with (first
    | (go_at_call 62; refine (C2.out _ _ _).mono ?_; rintro e wx ⟨rfl, bn⟩; clear c0 c1 c2 c3; replace HBX := Bx.mk (HBX.out.trans (bn.mono HBX.out.size)); obtain ⟨c0, c1, c2, c3⟩ := HCC.out _ HBX.out; clear bn)
    | (go_at_call 63; refine (C3.out _ _ _).mono ?_; rintro e wx ⟨rfl, bn⟩; clear c0 c1 c2 c3; replace HBX := Bx.mk (HBX.out.trans (bn.mono HBX.out.size)); obtain ⟨c0, c1, c2, c3⟩ := HCC.out _ HBX.out; clear bn))
  go_ret
  exact ⟨rfl, HB.out.trans (HBX.out.mono HB.out.size)⟩
set_option maxRecDepth 100000 in
set_option maxHeartbeats 4000000 in
theorem se_fxo (t : Int) (first : Bool) (w : World) (T : Nat) (TI x : Int) (hT : T < 10) (hTI : (T : Int) = TI) (e2 : (TI == 2) = false) (e3 : (TI == 3) = false) (e8 : (TI == 8) = false) (ex : (x == 0) = false) (HS4 : hSend 4 T 0 = (4, 32)) (HR4 : hRecv 4 T 0 = (4, x)) (ht : t.tmod 10 = TI) (hw : IntKind.u8.wrap TI = TI) :
    Calls Try.prog 17 #[.int .u8 t, .bool false, .bool first] w fun e w' => e = .returned (.bool true) ∧ Below w.heap.size w w' := by
  have HK := Bx.mk (known15_any w)
  have S1 : hSend 0 1 1 = (2, 0) := rfl
  have R1 : hRecv 2 1 1 = (4, 0) := rfl
  have C0 := Bx.mk (fun st v W => ss_send 0 1 1 st v (by decide) (by decide) (by rfl) W 1 1 rfl rfl)
  rw [S1] at C0
  have C1 := Bx.mk (fun st v W => ss_recv 2 1 1 st v (by decide) (by decide) (by rfl) W 1 1 rfl rfl)
  rw [R1] at C1
  have C2 := Bx.mk (fun st v W => ss_send 4 T 0 st v (by omega) (by decide) (by rfl) W TI 0 hTI rfl)
  rw [HS4] at C2
  have C3 := Bx.mk (fun st v W => ss_recv 4 T 0 st v (by omega) (by decide) (by rfl) W TI 0 hTI rfl)
  rw [HR4] at C3
  clear HR4 HS4 R1 S1 hTI hT
  go_enter Try.func17, Try.ntmps17
  go_upto_region 15 with (first
    | (go_at_call 61; refine HK.out.mono ?_; rintro e w1 ⟨rfl, b1⟩; have HB := Bx.mk b1; clear b1)
    | (go_at_call 63; have hz := M1; clear hz; refine (C1.out _ _ _).mono ?_; rintro e wn ⟨rfl, bn⟩; replace HB := Bx.mk (HB.out.trans (bn.mono HB.out.size)); have M2 := HK; clear bn)
    | (go_at_call 62; refine (C0.out _ _ _).mono ?_; rintro e wn ⟨rfl, bn⟩; replace HB := Bx.mk (HB.out.trans (bn.mono HB.out.size)); have M1 := HK; clear bn))
  obtain ⟨wA, hwA⟩ : ∃ W, wn.alloc (.cells #[.int .u8 TI, .int .u8 0, .int .u32 0, .slice none 0 0] 28) = W := ⟨_, rfl⟩
  obtain ⟨gA, hgA⟩ : ∃ g, wn.heap.size = g := ⟨_, rfl⟩
  have HCC : Bx (∀ W, Below wA.heap.size wA W → W.cell? ⟨gA, 0, none⟩ = some (.int .u8 TI) ∧ W.cell? ⟨gA, 1, none⟩ = some (.int .u8 0) ∧ W.cell? ⟨gA, 2, none⟩ = some (.int .u32 0) ∧ W.cell? ⟨gA, 3, none⟩ = some (.slice none 0 0)) := ⟨fun W hW => by
    have hlt : gA < wA.heap.size := by rw [← hwA, ← hgA]; simp
    rw [hW.cell hlt, hW.cell hlt, hW.cell hlt, hW.cell hlt, ← hwA, ← hgA]
    exact ⟨by simp, by simp, by simp, by simp⟩⟩
  replace HB : Bx (Below w.heap.size w wA) := ⟨by rw [← hwA]; exact HB.out.alloc HB.out.size _⟩
  have HBX := Bx.mk (Below.refl wA.heap.size wA)
  rw [hwA, hgA]
  clear hwA hgA
  obtain ⟨c0, c1, c2, c3⟩ := HCC.out _ HBX.out
  go_wp2_with (first
    | (go_at_call 62; refine (C2.out _ _ _).mono ?_; rintro e wx ⟨rfl, bn⟩; clear c0 c1 c2 c3; replace HBX := Bx.mk (HBX.out.trans (bn.mono HBX.out.size)); obtain ⟨c0, c1, c2, c3⟩ := HCC.out _ HBX.out; clear bn)
    | (go_at_call 63; refine (C3.out _ _ _).mono ?_; rintro e wx ⟨rfl, bn⟩; clear c0 c1 c2 c3; replace HBX := Bx.mk (HBX.out.trans (bn.mono HBX.out.size)); obtain ⟨c0, c1, c2, c3⟩ := HCC.out _ HBX.out; clear bn))
  go_ret
  exact ⟨rfl, HB.out.trans (HBX.out.mono HB.out.size)⟩
theorem streamEnds_walk (t : Int) (reset first : Bool) (ht : (Lit.int .u8 t).wf = true) (w : World) :
    Calls Try.prog 17 #[.int .u8 t, .bool reset, .bool first] w fun e w' => e = .returned (.bool true) ∧ Below w.heap.size w w' := by
  have r0 : 0 ≤ t ∧ t < 256 := by
    simp [Lit.wf, IntKind.min, IntKind.max, IntKind.signed, IntKind.bits] at ht
    omega
  obtain ⟨T, hT⟩ : ∃ T : Nat, t.tmod 10 = (T : Int) := ⟨(t.tmod 10).toNat, by rw [Int.tmod_eq_emod_of_nonneg r0.1]; omega⟩
  have hT10 : T < 10 := by rw [Int.tmod_eq_emod_of_nonneg r0.1] at hT; omega
  rcases hs_closed T hT10 with ⟨rfl, h1, h2⟩ | ⟨rfl, h1, h2⟩ | ⟨rfl, h1, h2⟩ | ⟨n2, n3, n8, h1, x, h2, hx⟩
  · cases reset with
    | false => exact se_fx2 t first w hT
    | true =>
      cases first with
      | true => exact se_tt2 t w hT
      | false => exact se_tf2 t w hT
  · cases reset with
    | false => exact se_fx3 t first w hT
    | true =>
      cases first with
      | true => exact se_tt3 t w hT
      | false => exact se_tf3 t w hT
  · cases reset with
    | false => exact se_fx8 t first w hT
    | true =>
      cases first with
      | true => exact se_tt8 t w hT
      | false => exact se_tf8 t w hT
  · have e2 : ((T : Int) == 2) = false := by rw [beq_eq_false_iff_ne]; omega
    have e3 : ((T : Int) == 3) = false := by rw [beq_eq_false_iff_ne]; omega
    have e8 : ((T : Int) == 8) = false := by rw [beq_eq_false_iff_ne]; omega
    have ex : (x == 0) = false := by rw [beq_eq_false_iff_ne]; exact hx
    have hw : IntKind.u8.wrap (T : Int) = (T : Int) := by rw [IntKind.wrap_u8]; omega
    cases reset with
    | false => exact se_fxo t first w T T x hT10 rfl e2 e3 e8 ex h1 h2 hT hw
    | true =>
      cases first with
      | true => exact se_tto t w T T x hT10 rfl e2 e3 e8 ex h1 h2 hT hw
      | false => exact se_tfo t w T T x hT10 rfl e2 e3 e8 ex h1 h2 hT hw
end Go.Proofs.Ytenoaljghbpaaaa
