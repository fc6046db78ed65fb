/-
  bifoldlaw12.PayCodes answers true, whatever its arguments: the walk.
-/
import Derived.Test.YtenoaljghbpaaaaPyK
import Derived.Test.YtenoaljghbpaaaaRowG
import Derived.Deep.CutRange
import Derived.Deep.CutBlock
import Derived.Deep.RegionHeld
import Derived.BigRegion
namespace Go.Proofs.Ytenoaljghbpaaaa
open Go.RowKit
set_option linter.unusedVariables false
set_option linter.unusedSimpArgs false

theorem ints_size : ∀ W : World, (sizeOf 3).run Try.prog W = .ok 1 W := fun W => by kernel_rfl
set_option maxRecDepth 100000 in
set_option maxHeartbeats 8000000 in
theorem payCodes_walk (r s : Int) (hr : (Lit.int .i64 r).wf = true) (hs : (Lit.int .i64 s).wf = true) (w : World) :
    Calls Try.prog 6 #[.int .i64 r, .int .i64 s] w fun e w' => e = .returned (.bool true) ∧ Below w.heap.size w w' := by
  have HK := Bx.mk (known12_any w)
  obtain ⟨r2, hr2⟩ : ∃ x, r.tmod 12 = x := ⟨_, rfl⟩
  have hw : IntKind.i64.wrap r2 = r2 := by
    have h1 := Int.lt_tmod_of_pos r (show (0 : Int) < 12 by decide)
    have h2 := Int.tmod_lt_of_pos r (show (0 : Int) < 12 by decide)
    rw [IntKind.wrap_i64]
    omega
  have HR := Bx.mk (fun W : World => Rows.lit (k := 1) (f := i64v) W 3 [r, r2] #[.int .i64 r, .int .i64 r2] 2 rfl rfl rfl (by unfold maxLen; omega))
  have HS := Bx.mk (fun W : World => Rows.lit (k := 1) (f := i64v) W 3 [s, 2, 3] #[.int .i64 s, .int .i64 2, .int .i64 3] 3 rfl rfl rfl (by unfold maxLen; omega))
  clear hr hs
  go_enter Try.func6, Try.ntmps6
  go_wp2_with (go_at_call 28; refine HK.out.mono ?_; rintro e w1 ⟨rfl, b1⟩; have HB1 := Bx.mk b1; clear b1)
  have HA := Bx.mk (HR.out w1)
  obtain ⟨wA, hwA⟩ : ∃ W, w1.alloc (.cells #[.int .i64 r, .int .i64 r2] 3) = W := ⟨_, rfl⟩
  rw [hwA] at HA ⊢
  have HBA : Bx (Below w.heap.size w wA) := ⟨by rw [← hwA]; exact HB1.out.alloc HB1.out.size _⟩
  clear hwA
  generalize Value.slice (some ⟨w1.heap.size, 0, none⟩) 2 2 = vA at HA ⊢
  go_loopg [16] 2 (fun g s16 wx => ∃ i : Nat, i + g = 2 ∧ s16 = .int .i64 i ∧ Bx (Below wA.heap.size wA wx))
  case atStart => exact ⟨0, rfl, rfl, ⟨Below.refl _ _⟩⟩
  case round =>
    obtain ⟨i, hig, rfl, HB⟩ := hrel
    cases gk with
    | zero =>
      obtain rfl : i = 2 := by omega
      go_wp2_with fail
      go_ret
      exact ⟨rfl, HBA.out.trans (HB.out.mono HBA.out.size)⟩
    | succ g =>
      have hi : i < [r, r2].length := by simp; omega
      have hd : decide ((i : Int) < 2) = true := decide_eq_true (by omega)
      have hwi : wrap64 ((i : Int) + 1) = ((i + 1 : Nat) : Int) := by unfold wrap64; omega
      obtain ⟨b, o, hix0, hcs⟩ := Rows.at_ Try.underlying44 ints_size (by decide) i64v_len HA.out i hi
      have hix := hix0 .i64
      obtain ⟨x, hx⟩ : ∃ x, [r, r2][i] = x := ⟨_, rfl⟩
      have c0 := hcs wr (HA.out.keep HB.out) 0 (.int .i64 x) (by rw [hx]; rfl)
      have HIG := Bx.mk hig
      rw [Nat.add_zero] at c0
      clear hix0 hcs hx hi hig
      go_upto_region 7 with fail
      have HS2 := Bx.mk (HS.out wr)
      obtain ⟨wS, hwS⟩ : ∃ W, wr.alloc (.cells #[.int .i64 s, .int .i64 2, .int .i64 3] 3) = W := ⟨_, rfl⟩
      rw [hwS] at HS2 ⊢
      have HBS : Bx (Below wA.heap.size wA wS) := ⟨by rw [← hwS]; exact HB.out.alloc HB.out.size _⟩
      clear hwS
      generalize Value.slice (some ⟨wr.heap.size, 0, none⟩) 3 3 = vS at HS2 ⊢
      go_loopg [23] 3 (fun g2 s23 wx => ∃ j : Nat, j + g2 = 3 ∧ s23 = .int .i64 j ∧ Bx (Below wS.heap.size wS wx))
      case atStart => exact ⟨0, rfl, rfl, ⟨Below.refl _ _⟩⟩
      case round =>
        obtain ⟨j, hjg, rfl, HB2⟩ := hrel
        cases gk with
        | zero =>
          obtain rfl : j = 3 := by omega
          clear hd c0
          go_wp2_with fail
          go_roundg g
          case measure => omega
          case rel => exact ⟨i + 1, by have := HIG.out; omega, by first | rw [hwi] | simp, ⟨HBS.out.trans (HB2.out.mono HBS.out.size)⟩⟩
        | succ g2 =>
          have hj : j < [s, 2, 3].length := by simp; omega
          have hd2 : decide ((j : Int) < 3) = true := decide_eq_true (by omega)
          have hwj : wrap64 ((j : Int) + 1) = ((j + 1 : Nat) : Int) := by unfold wrap64; omega
          obtain ⟨b2, o2, hix0, hcs⟩ := Rows.at_ Try.underlying44 ints_size (by decide) i64v_len HS2.out j hj
          have hix2 := hix0 .i64
          obtain ⟨y, hy⟩ : ∃ y, [s, 2, 3][j] = y := ⟨_, rfl⟩
          have c2 := hcs wr (HS2.out.keep HB2.out) 0 (.int .i64 y) (by rw [hy]; rfl)
          have HJG := Bx.mk hjg
          rw [Nat.add_zero] at c2
          have hne : (codeN x y != codeN x y) = false := by simp
          clear hix0 hcs hy hj hjg hd c0 hwi
          go_wp2_with (first
            | (go_at_call 29; refine (pyCode_any x y _).mono ?_; rintro e w5 ⟨rfl, rfl⟩)
            | (go_at_call 30; refine (refCode_any x y _).mono ?_; rintro e w5 ⟨rfl, rfl⟩))
          go_roundg g2
          case measure => omega
          case rel => exact ⟨j + 1, by have := HJG.out; omega, by first | rw [hwj] | simp, HB2⟩
end Go.Proofs.Ytenoaljghbpaaaa
