/-
  Texts put together: StF.
-/
import Derived.Test.YteopmaaghhendaaP17
import Derived.Test.YteopmaaghhendaaP15
import Derived.Test.YteopmaaghhendaaP10

/-
  Contracts of static.H2, static.H3.
-/
namespace Go.Proofs.Yteopmaaghhendaa
open Go.RowKit
set_option linter.unusedVariables false

set_option maxRecDepth 100000 in
set_option maxHeartbeats 1000000 in
theorem h3_any (i : Nat) (w : World) (hi : i < 18446744073709551616) :
    Calls Try.prog 72 #[.int .u64 (i : Int)] w fun e w' => e = .returned (.tuple #[aggF (entF T3 0 i), .bool (isF T3 0 i)]) ∧ Below w.heap.size w w' := by
  have HI := Bx.mk hi
  clear hi
  obtain ⟨e0, he0⟩ : ∃ e0, entF T3 0 i = e0 := ⟨_, rfl⟩
  obtain ⟨b0, hb0⟩ : ∃ b0, isF T3 0 i = b0 := ⟨_, rfl⟩
  rw [he0, hb0]
  have HE0 := Bx.mk he0
  have HB0 := Bx.mk hb0
  clear he0 hb0
  obtain ⟨f1, f2⟩ := e0
  have hag : aggF (f1, f2) = .agg #[.string f1, .string f2] := rfl
  go_enter Try.func72, Try.ntmps72
  go_wp2_with fail
  have HF := Bx.mk (Fb.new 56 w emp)
  refine (rows3_any _).mono ?_
  rintro e w2 ⟨v, rfl, hv, hb⟩
  have HF2 := Bx.mk (HF.out.keep hb)
  have HV := Bx.mk hv
  have HB := Bx.mk (((Below.refl w.heap.size w).alloc (Nat.le_refl _) _).trans (hb.mono (by simp)))
  clear hv hb HF
  go_wp2_with fail
  refine (entry_any v T3 0 i _ HV.out (by rw [t3_len]; omega) (by omega) HI.out).mono ?_
  rintro e w3 ⟨rfl, hb⟩
  rw [HE0.out, HB0.out, hag]
  have HF3 := Bx.mk (HF2.out.keep hb)
  have HB3 := Bx.mk (HB.out.trans (hb.mono HB.out.size))
  clear hb HF2 HV HB
  go_wp2_with (with_reducible refine wpList_storeF 56 w.heap.size emp (f1, f2) rfl rfl HF3.out ?_; intro w4 hf4 hg4)
  exact bodyPost_ret (ret_field Try.results72 _ _ w.heap.size (f1, f2) b0 rfl rfl hf4) rfl ⟨rfl, HB3.out.grown hg4 HB3.out.size (fun k hk => by cases hk; exact Nat.le_refl _)⟩

end Go.Proofs.Yteopmaaghhendaa
