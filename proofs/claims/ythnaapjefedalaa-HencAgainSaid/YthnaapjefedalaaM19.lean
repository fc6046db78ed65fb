/-
  Texts put together: StJ.
-/
import Derived.Test.YthnaapjefedalaaM17
import Derived.Test.YthnaapjefedalaaM18

/-
  Contracts of static.FindH2, static.FindH3.
-/
namespace Go.Proofs.Ythnaapjefedalaa
open Go.RowKit Go.Maps
set_option linter.unusedVariables false

theorem t2_sized : ∀ f ∈ T2, SizedS f := fun f hf => by have := t2_size f hf; unfold SizedS maxLen; omega
theorem t3_sized : ∀ f ∈ T3, SizedS f := fun f hf => by have := t3_size f hf; unfold SizedS maxLen; omega

theorem findP_eq (l : List Fd) (fr : Nat) (f : Fd) : ∃ (n : Int) (p q : Bool), findP l fr f = .tuple #[.int .u64 n, .bool p, .bool q] := by
  unfold findP
  split
  · exact ⟨_, _, _, rfl⟩
  · exact ⟨_, _, _, rfl⟩

set_option maxRecDepth 100000 in
set_option maxHeartbeats 1000000 in
theorem findH2_any (f : Fd) (w : World) (hf : SizedS f) :
    Calls Try.prog 68 #[.agg #[.string f.1, .string f.2]] w fun e w' => e = .returned (findP T2 1 f) ∧ Below w.heap.size w w' := by
  have HSF := Bx.mk hf
  obtain ⟨f1, f2⟩ := f
  have HB1 := Bx.mk ((Below.refl w.heap.size w).alloc (Nat.le_refl _) (.cells #[.string f1, .string f2] 58))
  have HF1 := Bx.mk (Fb.new 58 w (f1, f2))
  obtain ⟨hca, hcb⟩ := HF1.out.cells
  clear hf
  obtain ⟨n, p, q, hr⟩ := findP_eq T2 1 (f1, f2)
  have HR := Bx.mk hr
  rw [hr]
  clear hr
  go_enter Try.func68, Try.ntmps68
  go_wp2
  go_region_with (first
    | (go_at_call 78; refine (rows2_any _).mono ?_; rintro e w3 ⟨v3, rfl, hv3, hb3⟩; obtain ⟨hca3, hcb3⟩ := (HF1.out.keep ((Below.refl _ _).drew.trans hb3)).cells)
    | (go_at_call 77; refine (sfind_any v3 T2 1 (f1, f2) _ hv3 (by rw [t2_len]; omega) t2_nodup t2_sized (by omega) HSF.out).mono ?_; rintro e w4 ⟨rfl, hb4⟩; rw [HR.out]))
  all_goals go_wp2
  all_goals go_ret3
  all_goals exact ⟨rfl, HB1.out.trans ((((Below.refl _ _).drew.trans hb3).mono HB1.out.size).trans (hb4.mono (Nat.le_trans HB1.out.size hb3.size)))⟩

end Go.Proofs.Ythnaapjefedalaa
