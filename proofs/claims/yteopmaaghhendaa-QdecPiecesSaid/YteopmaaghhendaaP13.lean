/-
  Texts put together: QpO.
-/
import Derived.Test.YteopmaaghhendaaP07
import Derived.Test.YteopmaaghhendaaP09
import Derived.Test.YteopmaaghhendaaP06
import Derived.Shelf.Spec.SlicesGrow
import Derived.Handy

/-
  Contracts of slices.Grow, slices.Concat, slices.Clone at bytes.
-/
namespace Go.Proofs.Yteopmaaghhendaa
open Go.RowKit
set_option linter.unusedVariables false

def grRen : Go.Shelf.Ren := ⟨fun | 4 => 50 | n => n, fun | 0 => 0 | 3 => 3 | 4 => 4 | 9 => 9 | 20 => 20 | 22 => 23 | 25 => 5 | n => n, fun n => n⟩
set_option maxRecDepth 100000 in
theorem grLay : Lays8.n4 Try.prog grRen where
  mixed := by kernel_rfl
  f4 := ⟨(Try.f50).name, by kernel_rfl, Try.func50.trans (congrArg some (by kernel_rfl))⟩
  t0 := Try.underlying0
  a0 := Try.isAgg0
  z0 := Try.sizeOf0
  v0 := Try.zeroValue0
  t3 := Try.underlying3
  a3 := Try.isAgg3
  z3 := Try.sizeOf3
  v3 := Try.zeroValue3
  t4 := Try.underlying4
  a4 := Try.isAgg4
  z4 := Try.sizeOf4
  v4 := Try.zeroValue4
  t9 := Try.underlying9
  a9 := Try.isAgg9
  z9 := Try.sizeOf9
  v9 := Try.zeroValue9
  t20 := Try.underlying20
  a20 := Try.isAgg20
  z20 := Try.sizeOf20
  v20 := Try.zeroValue20
  t22 := Try.underlying23
  a22 := Try.isAgg23
  z22 := Try.sizeOf23
  v22 := Try.zeroValue23

theorem grow_any (n : Nat) (w : World) (hn : n ≤ 1000000) :
    Calls Try.prog 50 #[.slice none 0 0, .int .i64 (n : Int)] w fun e w' => ∃ v', e = .returned v' ∧ OwB w' w.heap.size v' [] ∧ Below w.heap.size w w' := by
  by_cases h0 : n = 0
  · subst h0
    refine (Any8.slices_Grow_room grLay none 0 0 0 w (by omega) (by omega) (by omega) (by omega)).mono ?_
    rintro e w' ⟨rfl, rfl⟩
    exact ⟨_, rfl, OwB.nil _ _, Below.refl _ _⟩
  · obtain ⟨i0, hi, hz, hz1, hz2⟩ := info_parts infoU8
    refine (Any8.slices_Grow_grow grLay i0 (.int .u8 0) hi hz (by omega) none 0 0 n [] w (by omega) (by omega) (by rw [hz2]; omega) (by omega) (by simp) (fun _ => rfl) (fun a ha => by cases ha)).mono ?_
    rintro e w' ⟨rfl, rfl⟩
    have hG : 0 + n ≤ grownCap w (0 + n) 0 5 := grownCap_ge w _ _ _
    have hGm : grownCap w (0 + n) 0 5 ≤ maxLen := grownCap_le_maxLen w (0 + n) 0 5 (by unfold maxLen; omega)
    refine ⟨_, rfl, ⟨rfl, .inr ⟨w.heap.size, _, _, rfl, Nat.le_refl _, heap_alloc_last w.drew _, Nat.zero_le _, hGm, ?_, rfl⟩⟩, (Below.refl w.heap.size w).drew.alloc (Nat.le_refl w.heap.size) _⟩
    show (#[] ++ Builtin.zeroCells (Value.int .u8 0).cells (0 + n - 0) ++ Builtin.zeroCells (Value.int .u8 0).cells (grownCap w (0 + n) 0 5 - (0 + n))).size = _
    have hzc : ∀ k, (Builtin.zeroCells (Value.int .u8 0).cells k).size = k := fun k => by simp [Builtin.zeroCells, Value.cells]
    rw [Array.size_append, Array.size_append, hzc, hzc]
    show 0 + (0 + n - 0) + (grownCap w (0 + n) 0 5 - (0 + n)) = grownCap w (0 + n) 0 5 * 1
    omega

/-- Two slices of bytes side by side. -/
def Cc (W : World) (g : Nat) (v1 v2 : Value) : Prop := W.heap[g]? = some (.cells #[v1, v2] 23 (0, 0))
theorem Cc.lt {w : World} {g : Nat} {v1 v2 : Value} (h : Cc w g v1 v2) : g < w.heap.size := (Array.getElem?_eq_some_iff.1 h).1
theorem Cc.keep {w w' : World} {g : Nat} {v1 v2 : Value} (h : Cc w g v1 v2) (hb : Below w.heap.size w w') : Cc w' g v1 v2 := (hb.block g h.lt).trans h
theorem Cc.cells {w : World} {g : Nat} {v1 v2 : Value} (h : Cc w g v1 v2) : w.cell? ⟨g, 0, none⟩ = some v1 ∧ w.cell? ⟨g, 1, none⟩ = some v2 := by
  unfold Cc at h
  refine ⟨?_, ?_⟩ <;> simp [World.cell?, h]
set_option maxRecDepth 100000 in
set_option maxHeartbeats 2000000 in
theorem concat_any {w : World} {g : Nat} {v1 v2 : Value} {l1 l2 : List UInt8} (hc : Cc w g v1 v2) (h1 : Bs w v1 l1) (h2 : Bs w v2 l2) (hl1 : l1.length ≤ 300000) (hl2 : l2.length ≤ 300000) :
    Calls Try.prog 27 #[.slice (some ⟨g, 0, none⟩) 2 2] w fun e w' => ∃ v', e = .returned v' ∧ OwB w' w.heap.size v' (l1 ++ l2) ∧ Below w.heap.size w w' := by
  obtain ⟨A1, n1, cc1, rfl, hn1, _, _, _, _⟩ := h1.open_
  obtain ⟨A2, n2, cc2, rfl, hn2, _, _, _, _⟩ := h2.open_
  have e1 : n1 = l1.length := hn1.out
  have e2 : n2 = l2.length := hn2.out
  clear hn1 hn2
  obtain ⟨c0, c1⟩ := hc.cells
  have hw1 : wrap64 (n1 : Int) = (n1 : Int) := by unfold wrap64; omega
  have hw2 : wrap64 ((n1 : Int) + (n2 : Int)) = ((n1 + n2 : Nat) : Int) := by unfold wrap64; omega
  have hd1 : decide ((n1 : Int) < 0) = false := decide_eq_false (by omega)
  obtain ⟨n, hn⟩ : ∃ n, n1 + n2 = n := ⟨_, rfl⟩
  rw [hn] at hw2
  have hd2 : decide ((n : Int) < 0) = false := decide_eq_false (by omega)
  have HGR := Bx.mk (grow_any n w (by omega))
  have HC := Bx.mk hc
  have H1 := Bx.mk (fun (W : World) (hW : Below w.heap.size w W) => (Rd.keep h1 hW : Bs W _ l1))
  have H2 := Bx.mk (fun (W : World) (hW : Below w.heap.size w W) => (Rd.keep h2 hW : Bs W _ l2))
  have HL : Bx (l1.length ≤ 300000 ∧ l2.length ≤ 300000) := ⟨hl1, hl2⟩
  obtain ⟨i0, hi, hz, hz1, hz2⟩ := info_parts infoU8
  have HI : Bx (Try.prog.info? 5 = some i0 ∧ i0.zero = some (.int .u8 0) ∧ i0.size = 1 ∧ i0.bytes = 1) := ⟨hi, hz, hz1, hz2⟩
  clear hc h1 h2 hl1 hl2 e1 e2 hn hi hz hz1 hz2
  go_enter Try.func27, Try.ntmps27
  go_wp2_with fail
  go_loopg [3, 11] 2 (fun gk s3 s11 wx => ∃ k : Nat, k + gk = 2 ∧ s11 = .int .i64 k ∧ s3 = .int .i64 ((if k = 0 then 0 else if k = 1 then n1 else n : Nat) : Int) ∧ Bx (w = wx))
  case atStart => exact ⟨0, rfl, rfl, rfl, ⟨rfl⟩⟩
  case round =>
    obtain ⟨k, hkn, rfl, rfl, HW⟩ := hrel
    obtain rfl := HW.out
    match gk, hkn with
    | 2, hkn =>
      obtain rfl : k = 0 := by omega
      simp only [if_true]
      go_wp2_with fail
      go_roundg 1
      case measure => omega
      case rel => exact ⟨1, rfl, rfl, by simp, ⟨rfl⟩⟩
    | 1, hkn =>
      obtain rfl : k = 1 := by omega
      simp only [if_true, show ¬ (1 : Nat) = 0 from by omega, if_false]
      go_wp2_with fail
      go_roundg 0
      case measure => omega
      case rel => exact ⟨2, rfl, rfl, by simp, ⟨rfl⟩⟩
    | 0, hkn =>
      obtain rfl : k = 2 := by omega
      simp only [show ¬ (2 : Nat) = 1 from by omega, show ¬ (2 : Nat) = 0 from by omega, if_false]
      go_wp2_with (go_at_call 50; refine HGR.out.mono ?_; rintro e w1 ⟨v6, rfl, ho6, b6⟩; have HO6 := Bx.mk ho6; have HB6 := Bx.mk b6; clear ho6 b6)
      clear c0 c1 hw1 hw2 hd1 hd2
      go_loopg [6, 27] 2 (fun gk s6 s27 wx => ∃ k : Nat, k + gk = 2 ∧ s27 = .int .i64 k ∧ Bx (OwB wx w.heap.size s6 (if k = 0 then [] else if k = 1 then l1 else l1 ++ l2)) ∧ Bx (Below w.heap.size w wx))
      case atStart => exact ⟨0, rfl, rfl, HO6, HB6⟩
      case round =>
        obtain ⟨k, hkn, rfl, HO, HB⟩ := hrel
        obtain ⟨c0, c1⟩ := (HC.out.keep HB.out).cells
        match gk, hkn with
        | 2, hkn =>
          obtain rfl : k = 0 := by omega
          have HO1 : Bx (OwB wr w.heap.size u6 []) := HO
          go_wp2_with (at_builtin; refine wpList_append_og _ rfl _ _ 23 rfl w.heap.size 5 i0 (.int .u8 0) 1 Try.underlying23 HI.out.1 HI.out.2.1 HI.out.2.2.1 HI.out.2.2.2 rfl _ _ _ _ rfl rfl HO1.out (H1.out _ HB.out) one_bv (by have := HL.out; simp only [List.length_map, List.length_nil]; omega) (by have := HL.out; simp only [List.length_map, List.length_nil, maxLen]; omega) HB.out.size ?_; intro v3 w3 ho3 hb3 hg3; have HO3 := Bx.mk (OwB.cat ho3); have HB3 := Bx.mk (HB.out.trans hb3); clear ho3 hb3 hg3)
          go_roundg 1
          case measure => omega
          case rel => exact ⟨1, rfl, rfl, by simpa using HO3, HB3⟩
        | 1, hkn =>
          obtain rfl : k = 1 := by omega
          have HO1 : Bx (OwB wr w.heap.size u6 l1) := by simpa using HO
          go_wp2_with (at_builtin; refine wpList_append_og _ rfl _ _ 23 rfl w.heap.size 5 i0 (.int .u8 0) 1 Try.underlying23 HI.out.1 HI.out.2.1 HI.out.2.2.1 HI.out.2.2.2 rfl _ _ _ _ rfl rfl HO1.out (H2.out _ HB.out) one_bv (by have := HL.out; simp only [List.length_map]; omega) (by have := HL.out; simp only [List.length_map, maxLen]; omega) HB.out.size ?_; intro v3 w3 ho3 hb3 hg3; have HO3 := Bx.mk (OwB.cat ho3); have HB3 := Bx.mk (HB.out.trans hb3); clear ho3 hb3 hg3)
          go_roundg 0
          case measure => omega
          case rel => exact ⟨2, rfl, rfl, by simpa using HO3, HB3⟩
        | 0, hkn =>
          obtain rfl : k = 2 := by omega
          have HO1 : Bx (OwB wr w.heap.size u6 (l1 ++ l2)) := by simpa using HO
          go_wp2_with fail
          go_ret
          exact ⟨_, rfl, HO1.out, HB.out⟩

theorem eqNil (A : Option Addr) (n c : Nat) (w : World) : (binOp .eql 23 (.slice A n c) (.slice none 0 0)).run Try.prog w = .ok (.bool A.isNone) w := by
  have h := Lib.run_equalIn_slice_nil (P := Try.prog) w 9999 23 5 A n c 0 0 Try.underlying23
  simp [binOp, Op.equal, Op.maxDepth, h, Result.andThen]
set_option maxRecDepth 100000 in
set_option maxHeartbeats 2000000 in
theorem bclone_any {w : World} {v : Value} {l : List UInt8} (h : Bs w v l) (hl : l.length ≤ 600000) :
    Calls Try.prog 30 #[v] w fun e w' => ∃ v', e = .returned v' ∧ OwB w' w.heap.size v' l ∧ Below w.heap.size w w' := by
  have HB := Bx.mk h
  have HL := Bx.mk hl
  obtain ⟨A, n, c, rfl, hn, h1, h2, h3, h4⟩ := h.open_
  have hnl : n = l.length := hn.out
  have heq := fun W => eqNil A n c W
  obtain ⟨i0, hi, hz, hz1, hz2⟩ := info_parts infoU8
  have HI : Bx (Try.prog.info? 5 = some i0 ∧ i0.zero = some (.int .u8 0) ∧ i0.size = 1 ∧ i0.bytes = 1) := ⟨hi, hz, hz1, hz2⟩
  cases A with
  | none =>
    have hl0 : l = [] := by
      obtain ⟨A', c', e, r1, r2, r3⟩ := h
      injection e with e1 e2 e3
      subst e1
      rcases r3 with ⟨_, hc⟩ | ⟨x, hx, _⟩
      · have : (l.map bv).length = 0 := by omega
        rw [List.length_map] at this
        exact List.eq_nil_of_length_eq_zero this
      · cases hx
    subst hl0
    simp only [Option.isNone_none] at heq
    clear h h1 h2 h3 h4 hl hi hz hz1 hz2 hn hnl
    go_enter Try.func30, Try.ntmps30
    go_wp2_with fail
    go_ret
    exact ⟨_, rfl, OwB.nil _ _, Below.refl _ _⟩
  | some x =>
    simp only [Option.isNone_some] at heq
    have HO0 : Bx (OwB (w.alloc (.cells #[] 5)) w.heap.size (.slice (some ⟨w.heap.size, 0, none⟩) 0 0) []) := ⟨⟨rfl, .inr ⟨w.heap.size, 0, #[], rfl, Nat.le_refl _, heap_alloc_last w _, Nat.le_refl _, by unfold maxLen; omega, rfl, rfl⟩⟩⟩
    have HB0 := Bx.mk ((Below.refl w.heap.size w).alloc (Nat.le_refl _) (.cells #[] 5))
    have HB1 : Bx (Bs (w.alloc (.cells #[] 5)) (.slice (some x) n c) l) := ⟨Rd.keep HB.out HB0.out⟩
    clear h h1 h2 h3 h4 hl hi hz hz1 hz2 hn hnl
    go_enter Try.func30, Try.ntmps30
    go_wp2_with (at_builtin; refine wpList_append_og _ rfl _ _ 23 rfl w.heap.size 5 i0 (.int .u8 0) 1 Try.underlying23 HI.out.1 HI.out.2.1 HI.out.2.2.1 HI.out.2.2.2 rfl _ _ _ _ rfl rfl HO0.out HB1.out one_bv (by have := HL.out; simp only [List.length_map, List.length_nil]; omega) (by have := HL.out; simp only [List.length_map, List.length_nil, maxLen]; omega) HB0.out.size ?_; intro v3 w3 ho3 hb3 hg3; have HO3 := Bx.mk (OwB.cat ho3); have HB3 := Bx.mk (HB0.out.trans hb3); clear ho3 hb3 hg3)
    go_ret
    exact ⟨_, rfl, HO3.out, HB3.out⟩
end Go.Proofs.Yteopmaaghhendaa
