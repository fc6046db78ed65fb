/-
  bifoldlaw11's known answers; the preface.
-/
import Derived.Test.YtenoaljghbpaaaaFrF
namespace Go.Proofs.Ytenoaljghbpaaaa
open Go.RowKit
set_option linter.unusedVariables false
set_option linter.unusedSimpArgs false

/-- A frame in a value. -/
abbrev fraB (T F S : Int) (v : Value) : Array Value := #[.int .u8 T, .int .u8 F, .int .u32 S, v]
def prefS : ByteArray := ⟨#[80, 82, 73, 32, 42, 32, 72, 84, 84, 80, 47, 50, 46, 48, 13, 10, 13, 10, 83, 77, 13, 10, 13, 10]⟩
theorem preface_any (w : World) : Calls Try.prog 27 #[] w fun e w' => e = .returned (.string prefS) ∧ w' = w := by
  go_enter Try.func27, Try.ntmps27
  go_wp2_with fail
  go_ret
  exact ⟨rfl, rfl⟩
def pingB : List UInt8 := [0, 0, 8, 6, 0, 0, 0, 0, 0, 0, 0, 0, 0, 0, 0, 0, 0]
theorem ping_frs (raw : Value) : frsB [⟨6, 0, 0, raw, [0, 0, 0, 0, 0, 0, 0, 0]⟩] = pingB := by
  have h : frsB [⟨6, 0, 0, .slice none 0 0, [0, 0, 0, 0, 0, 0, 0, 0]⟩] = pingB := by decide +kernel
  exact h
theorem ping_rd : rdF pingB 0 = ((6, 0, 0, [0, 0, 0, 0, 0, 0, 0, 0]), 17, 0) := by decide +kernel
theorem ping_cut : rdF (pingB.take 16) 0 = ((0, 0, 0, []), 0, 20) := by decide +kernel
theorem ping_read (v : Value) (W : World) (h : Bs W v pingB) : Calls Try.prog 24 #[v, .int .i64 0] W fun e w' => ∃ A n c, e = .returned (.tuple #[.agg (fraB 6 0 0 (.slice A n c)), .int .i64 17, .int .i64 0]) ∧ Below W.heap.size W w' := by
  have hh := pRead_any v pingB 0 W h (by omega) (by omega) (by decide)
  rw [ping_rd] at hh
  refine hh.mono ?_
  rintro e w' ⟨raw, he, hb, bb⟩
  obtain ⟨A, n, c, rfl, -⟩ := hb.open_
  exact ⟨A, n, c, he, bb⟩
theorem ping_less (v : Value) (W : World) (h : Bs W v (pingB.take 16)) : Calls Try.prog 24 #[v, .int .i64 0] W fun e w' => ∃ A n c, e = .returned (.tuple #[.agg (fraB 0 0 0 (.slice A n c)), .int .i64 0, .int .i64 20]) ∧ Below W.heap.size W w' := by
  have hh := pRead_any v (pingB.take 16) 0 W h (by omega) (by omega) (by decide)
  rw [ping_cut] at hh
  refine hh.mono ?_
  rintro e w' ⟨raw, he, hb, bb⟩
  obtain ⟨A, n, c, rfl, -⟩ := hb.open_
  exact ⟨A, n, c, he, bb⟩
theorem pWrite_ping (v raw : Value) (W : World) (hv : Rows 4 frvl W v [(⟨6, 0, 0, raw, [0, 0, 0, 0, 0, 0, 0, 0]⟩ : Frm)]) (h8 : Bs W raw [0, 0, 0, 0, 0, 0, 0, 0]) :
    Calls Try.prog 22 #[.slice none 0 0, v] W fun e w' => ∃ v1, e = .returned (.tuple #[v1, .int .i64 0]) ∧ Bs w' v1 pingB ∧ Below W.heap.size W w' := by
  refine (pWrite_any (.slice none 0 0) v [] _ W (Rd.nil W) hv ?_ (by simp) (by simp)).mono ?_
  · intro a ha
    rw [List.mem_singleton] at ha
    subst ha
    exact ⟨⟨(by show 6 < 256; omega), (by show 0 < 256; omega), (by show 0 < 4294967296; omega)⟩, h8⟩
  · rintro e w1 (⟨_, v1, he, h1, b1⟩ | ⟨hno, _⟩)
    · rw [ping_frs, List.nil_append] at h1
      exact ⟨v1, he, h1.rd, b1⟩
    · exfalso
      apply hno
      intro a ha
      rw [List.mem_singleton] at ha
      subst ha
      show 8 ≤ 16384
      omega
set_option maxRecDepth 100000 in
set_option maxHeartbeats 8000000 in
theorem known11_any (w : World) : Calls Try.prog 21 #[] w fun e w' => e = .returned (.bool true) ∧ Below w.heap.size w w' := by
  have hm8 : madeCells #[.int .u8 0] 8 = #[.int .u8 0, .int .u8 0, .int .u8 0, .int .u8 0, .int .u8 0, .int .u8 0, .int .u8 0, .int .u8 0] := by kernel_rfl
  obtain ⟨z8, hz8⟩ : ∃ z : Array Value, #[.int .u8 0, .int .u8 0, .int .u8 0, .int .u8 0, .int .u8 0, .int .u8 0, .int .u8 0, .int .u8 0] = z := ⟨_, rfl⟩
  have hmk : ∀ W : World, (Instr.makeSlice 22 (.int .i64 8) (.int .i64 8)).run Try.prog W = .ok (.slice (some ⟨W.heap.size, 0, none⟩) 8 8) (W.alloc (.cells z8 5)) := fun W => by
    have h := run_make_row' (P := Try.prog) 22 5 (.int .u8 0) 1 Try.underlying22 infoU8a rfl .i64 .i64 8 (by omega) (by omega) W
    rw [hm8, hz8] at h
    exact h
  have HR8 := Bx.mk (fun W : World => (show Bs (W.alloc (.cells z8 5)) (.slice (some ⟨W.heap.size, 0, none⟩) 8 8) [0, 0, 0, 0, 0, 0, 0, 0] by rw [← hz8]; exact Rd.lit W 5 _ 8 rfl (by unfold maxLen; omega)))
  clear hm8 hz8
  go_enter Try.func21, Try.ntmps21
  have HB0 := Bx.mk ((Below.refl w.heap.size w).alloc (Nat.le_refl _) (.cells z8 5))
  have HB1 := Bx.mk (HB0.out.alloc HB0.out.size (.cells #[.int .u8 6, .int .u8 0, .int .u32 0, .slice (some ⟨w.heap.size, 0, none⟩) 8 8] 28))
  have HW := Bx.mk (fun (v : Value) (W : World) => pWrite_ping v (.slice (some ⟨w.heap.size, 0, none⟩) 8 8) W)
  have HRW : Bx (Rows 4 frvl ((w.alloc (.cells z8 5)).alloc (.cells #[.int .u8 6, .int .u8 0, .int .u32 0, .slice (some ⟨w.heap.size, 0, none⟩) 8 8] 28)) (.slice (some ⟨(w.alloc (.cells z8 5)).heap.size, 0, none⟩) 1 1) [(⟨6, 0, 0, .slice (some ⟨w.heap.size, 0, none⟩) 8 8, [0, 0, 0, 0, 0, 0, 0, 0]⟩ : Frm)]) := ⟨Rows.lit (k := 4) (f := frvl) _ 28 [(⟨6, 0, 0, .slice (some ⟨w.heap.size, 0, none⟩) 8 8, [0, 0, 0, 0, 0, 0, 0, 0]⟩ : Frm)] _ 1 rfl rfl rfl (by unfold maxLen; omega)⟩
  rw [show (w.alloc (.cells z8 5)).heap.size = w.heap.size + 1 by simp] at HRW
  have HR9 := Bx.mk ((HR8.out w).keep ((Below.refl _ _).alloc (Nat.le_refl _) (.cells #[.int .u8 6, .int .u8 0, .int .u32 0, .slice (some ⟨w.heap.size, 0, none⟩) 8 8] 28)))
  go_upto_region 2 with (go_at_call 22; refine (HW.out _ _ HRW.out HR9.out).mono ?_; rintro e w1 ⟨v1, rfl, h1, b1⟩; have HV1 := Bx.mk h1; have HB2 := Bx.mk (HB1.out.trans (b1.mono HB1.out.size)); clear h1 b1)
  have hlen1 : ∀ (tr : TypeId) (W : World), (Builtin.len_ #[22] tr #[v1]).run Try.prog W = .ok (.int .i64 17) W := fun tr W => Bs.run_len (show Bs w1 v1 pingB from HV1.out) tr W
  obtain ⟨vc, hslc, hvc⟩ := Bs.upto (show Bs w1 v1 pingB from HV1.out) 16 (by omega) (by decide)
  have HVC := Bx.mk (hvc w1 HV1.out)
  rw [show (16 : Int).toNat = 16 from rfl] at HVC
  have HD1 := Bx.mk (fun W (h : Bs W v1 pingB) => ping_read v1 W h)
  have HD2 := Bx.mk (fun W (h : Bs W vc (pingB.take 16)) => ping_less vc W h)
  have hps : prefS.size = 24 := rfl
  go_upto_region 5 with (go_at_call 24; refine (HD1.out _ HV1.out).mono ?_; rintro e w3 ⟨A3, n3, c3, rfl, b3⟩; have HX3 := Bx.mk b3; clear b3)
  have HX4 := Bx.mk (HX3.out.alloc HX3.out.size (.cells (fraB 6 0 0 (.slice A3 n3 c3)) 28))
  have HS4 : Bx (Sb 28 (w3.alloc (.cells (fraB 6 0 0 (.slice A3 n3 c3)) 28)) w3.heap.size (fraB 6 0 0 (.slice A3 n3 c3))) := ⟨Sb.new _ w3 _⟩
  obtain ⟨w4, hw4⟩ : ∃ W, w3.alloc (.cells (fraB 6 0 0 (.slice A3 n3 c3)) 28) = W := ⟨_, rfl⟩
  obtain ⟨g4, hg4⟩ : ∃ g, w3.heap.size = g := ⟨_, rfl⟩
  rw [hw4] at HX4 HS4 ⊢
  rw [hg4] at HS4 ⊢
  clear hw4 hg4
  go_upto_region 6 with (go_at_call 24; refine (HD2.out _ (HVC.out.keep HX4.out)).mono ?_; rintro e w5 ⟨A5, n5, c5, rfl, b5⟩; have HX5 := Bx.mk b5; clear b5)
  have HX6 := Bx.mk (HX5.out.alloc HX5.out.size (.cells (fraB 0 0 0 (.slice A5 n5 c5)) 28))
  obtain ⟨w6, hw6⟩ : ∃ W, w5.alloc (.cells (fraB 0 0 0 (.slice A5 n5 c5)) 28) = W := ⟨_, rfl⟩
  rw [hw6] at HX6 ⊢
  clear hw6
  have k0 : w6.cell? ⟨g4, 0, none⟩ = some (.int .u8 6) := (HS4.out.keep HX6.out).cell 0
  have HBF := Bx.mk ((HB2.out.trans (HX4.out.mono HB2.out.size)).trans (HX6.out.mono (HB2.out.trans (HX4.out.mono HB2.out.size)).size))
  go_wp2_with (go_at_call 27; refine (preface_any _).mono ?_; rintro e w7 ⟨rfl, hw7⟩; subst w7)
  go_ret
  exact ⟨rfl, HBF.out⟩
end Go.Proofs.Ytenoaljghbpaaaa
