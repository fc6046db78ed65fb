/-
  bifoldlaw13's known answers true; its helpers.
-/
import Derived.Test.YtenoaljghbpaaaaStpD
import Derived.Deep.RegionHeld
namespace Go.Proofs.Ytenoaljghbpaaaa
open Go.RowKit
set_option linter.unusedVariables false
set_option linter.unusedSimpArgs false

abbrev arr7 (S : Nat → Nat) : Array Value := #[.int .u64 0, .int .u64 (S 1 : Int), .int .u64 (S 2 : Int), .int .u64 (S 3 : Int), .int .u64 (S 4 : Int), .int .u64 (S 5 : Int), .int .u64 (S 6 : Int)]
section
variable {ops : Array Oper} {Q : Exit → Act → World → Prop} {a : Act} {w : World} {rest : List Oper}
theorem wpList_store7 {x y : Operand} {tr : TypeId} {pos : String} {af : Array Edge} (g : Nat) (old : Array Value) (S : Nat → Nat)
    (hx : a.eval x = .pointer (some ⟨g, 0, none⟩)) (hy : a.eval y = .agg (arr7 S)) (hs : Sb 60 w g old) (ho : old.size = 7)
    (h : ∀ w2, Sb 60 w2 g (arr7 S) → w.grownBy w2 (some g) → wpList Try.prog ops Q rest (a.put none undef) w2) :
    wpList Try.prog ops Q (⟨none, .store 60 x y, tr, pos, af, none⟩ :: rest) a w :=
  wpList_storeS 60 g old (arr7 S) hx hy hs set2_size ho (by simp [arr7, Value.oneCell']) h
end
set_option maxRecDepth 100000 in
set_option maxHeartbeats 2000000 in
theorem of13_any (S : Nat → Nat) (h0 : S 0 = 0) (w : World) : Calls Try.prog 36 #[.agg (arrH S)] w fun e w' => e = .returned (.agg (arrS S)) ∧ Below w.heap.size w w' := by
  have h00 : ((S 0 : Nat) : Int) = 0 := by rw [h0]; rfl
  have he : arrS S = #[.int .u64 0, .int .u64 (S 1 : Int), .int .u64 (S 2 : Int), .int .u64 (S 3 : Int), .int .u64 (S 4 : Int), .int .u64 (S 5 : Int), .int .u64 (S 6 : Int)] := by unfold arrS; rw [h00]
  rw [he]
  clear he h00 h0
  have HZ : Bx (Sb 60 ((w.alloc (.cells (arrH S) 57)).alloc (.cells #[.int .u64 0, .int .u64 0, .int .u64 0, .int .u64 0, .int .u64 0, .int .u64 0, .int .u64 0] 60)) (w.heap.size + 1) #[.int .u64 0, .int .u64 0, .int .u64 0, .int .u64 0, .int .u64 0, .int .u64 0, .int .u64 0]) := ⟨Sb.newg _ _ _ (by simp) _⟩
  have HB : Bx (Below w.heap.size w ((w.alloc (.cells (arrH S) 57)).alloc (.cells #[.int .u64 0, .int .u64 0, .int .u64 0, .int .u64 0, .int .u64 0, .int .u64 0, .int .u64 0] 60))) := ⟨((Below.refl _ _).alloc (Nat.le_refl _) _).alloc (by simp) _⟩
  go_enter Try.func36, Try.ntmps36
  go_wp2_with (with_reducible refine wpList_store7 (w.heap.size + 1) _ S rfl rfl HZ.out rfl ?_; intro w5 hs5 hg5; have HS5 := Bx.mk hs5; have HB5 := Bx.mk (HB.out.grown hg5 HB.out.size (fun k hk => by injection hk with hk; omega)); clear hs5 hg5)
  exact bodyPost_ret (ret_S1 Try.results36 _ _ (w.heap.size + 1) 60 _ _ rfl HS5.out Try.underlying60 rfl set2_size) rfl ⟨rfl, HB5.out⟩
set_option maxRecDepth 100000 in
set_option maxHeartbeats 4000000 in
/-- Two lists that are alike. -/
theorem hSettings_any (v u : Value) (l : List Stg) (w : World) (hv : Rows 2 sgvl w v l) (hu : Rows 2 sgvl w u l) : Calls Try.prog 37 #[v, u] w fun e w' => e = .returned (.bool true) ∧ Below w.heap.size w w' := by
  have HV := Bx.mk hv
  have HU := Bx.mk hu
  have hlv := fun tr W => sgs_len hv tr W
  have hlu := fun tr W => sgs_len hu tr W
  have hmx := hv.max
  unfold maxLen at hmx
  obtain ⟨m, hm⟩ : ∃ n, l.length = n := ⟨_, rfl⟩
  rw [hm] at hlv hlu hmx
  have HM := Bx.mk (And.intro hm hmx)
  have hmm : ((m : Int) != (m : Int)) = false := by simp
  clear hv hu hm hmx
  go_enter Try.func37, Try.ntmps37
  go_wp2_with fail
  go_loopg [5] m (fun g s5 wx => ∃ k : Nat, k + g = m ∧ s5 = .int .i64 k ∧ Bx (Below w.heap.size w wx))
  case atStart => exact ⟨0, by omega, rfl, ⟨Below.refl _ _⟩⟩
  case round =>
    obtain ⟨k, hkg, rfl, HB⟩ := hrel
    cases gk with
    | zero =>
      obtain rfl : k = m := by omega
      have hkd : decide ((k : Int) < (k : Int)) = false := by simp
      have hkd' : decide (k < k) = false := by simp
      go_wp2_with fail
      go_ret
      exact ⟨rfl, HB.out⟩
    | succ g =>
      have hkm : k < m := by omega
      have hkl : k < l.length := by have := HM.out.1; omega
      have hkd : decide ((k : Int) < (m : Int)) = true := decide_eq_true (by omega)
      have hkd' : decide (k < m) = true := decide_eq_true hkm
      have hm63 := HM.out.2
      have HWK : Bx (wrap64 ((k : Int) + 1) = ((k + 1 : Nat) : Int)) := ⟨by unfold wrap64; omega⟩
      have HKG := Bx.mk hkg
      obtain ⟨b, o, hix0, hcs⟩ := sgs_at HV.out k hkl
      have hix := hix0 .i64
      obtain ⟨b2, o2, hix20, hcs2⟩ := sgs_at HU.out k hkl
      have hix2 := hix20 .i64
      obtain ⟨II, hII⟩ : ∃ X : Int, (l[k].id : Int) = X := ⟨_, rfl⟩
      obtain ⟨VI, hVI⟩ : ∃ X : Int, (l[k].val : Int) = X := ⟨_, rfl⟩
      obtain ⟨c0, c1⟩ := hcs wr (HV.out.keep HB.out)
      obtain ⟨d0, d1⟩ := hcs2 wr (HU.out.keep HB.out)
      rw [hII] at c0 d0
      rw [hVI] at c1 d1
      clear hix0 hix20 hcs hcs2 hII hVI hkm hkl hm63 hkg
      go_upto_region 6 with fail
      go_quiet (fail)
      all_goals (have HB2 := Bx.mk (below_drewN HB.out nq); go_wp2_with fail; go_roundg g)
      case measure => omega
      case rel => exact ⟨k + 1, by have := HKG.out; omega, by rw [HWK.out], HB2⟩
end Go.Proofs.Ytenoaljghbpaaaa
