/-
  Texts put together: StJ.
-/
import Derived.Test.YtebakjdeighdnaaGreatM09
import Derived.Test.YtebakjdeighdnaaGreatM01
import Derived.Test.YtebakjdeighdnaaGreatM08

/-
  Contracts of static.FindH2, static.FindH3.
-/
namespace Go.Proofs.YtebakjdeighdnaaGreat
open Go.RowKit Go.Maps
set_option linter.unusedVariables false

theorem t2_sized : ∀ f ∈ T2, SizedS f := fun f hf => by have := t2_size f hf; unfold SizedS maxLen; omega
theorem t3_sized : ∀ f ∈ T3, SizedS f := fun f hf => by have := t3_size f hf; unfold SizedS maxLen; omega

theorem findP_eq (l : List Fd) (fr : Nat) (f : Fd) : ∃ (n : Int) (p q : Bool), findP l fr f = .tuple #[.int .u64 n, .bool p, .bool q] := by
  unfold findP
  split
  · exact ⟨_, _, _, rfl⟩
  · exact ⟨_, _, _, rfl⟩

set_option maxRecDepth 100000 in
set_option maxHeartbeats 1000000 in
theorem findH3_any (f : Fd) (w : World) (hf : SizedS f) :
    Calls Tryz.prog 50 #[.agg #[.string f.1, .string f.2]] w fun e w' => e = .returned (findP T3 0 f) ∧ Below w.heap.size w w' := by
  have HSF := Bx.mk hf
  obtain ⟨f1, f2⟩ := f
  have HB1 := Bx.mk ((Below.refl w.heap.size w).alloc (Nat.le_refl _) (.cells #[.string f1, .string f2] 53))
  have HF1 := Bx.mk (Fb.new 53 w (f1, f2))
  obtain ⟨hca, hcb⟩ := HF1.out.cells
  clear hf
  obtain ⟨n, p, q, hr⟩ := findP_eq T3 0 (f1, f2)
  have HR := Bx.mk hr
  rw [hr]
  clear hr
  go_enter Tryz.func50, Tryz.ntmps50
  go_wp2
  go_region_with (first
    | (go_at_call 84; refine (rows3_any _).mono ?_; rintro e w3 ⟨v3, rfl, hv3, hb3⟩; obtain ⟨hca3, hcb3⟩ := (HF1.out.keep ((Below.refl _ _).drew.trans hb3)).cells)
    | (go_at_call 83; refine (sfind_any v3 T3 0 (f1, f2) _ hv3 (by rw [t3_len]; omega) t3_nodup t3_sized (by omega) HSF.out).mono ?_; rintro e w4 ⟨rfl, hb4⟩; rw [HR.out]))
  all_goals go_wp2
  all_goals go_ret3
  all_goals exact ⟨rfl, HB1.out.trans ((((Below.refl _ _).drew.trans hb3).mono HB1.out.size).trans (hb4.mono (Nat.le_trans HB1.out.size hb3.size)))⟩

end Go.Proofs.YtebakjdeighdnaaGreat
