/-
  bifoldlaw13.SetDiffs answers true, whatever its arguments: the walk.
-/
import Derived.Test.YtenoaljghbpaaaaStpM
import Derived.Test.YtenoaljghbpaaaaSbS
import Derived.Test.YtenoaljghbpaaaaBag
namespace Go.Proofs.Ytenoaljghbpaaaa
open Go.RowKit
set_option linter.unusedVariables false
set_option linter.unusedSimpArgs false

theorem set2_indexK (g id : Nat) (h : id < 7) (k : IntKind) (W : World) : (Instr.indexAt 60 (.pointer (some ⟨g, 0, none⟩)) (.int k (id : Int))).run Try.prog W = .ok (.pointer (some ⟨g, id, none⟩)) W := by
  simp [Instr.indexAt, asIntOf, run_underlying Try.underlying60, Sem.run_bind, h, Result.andThen, Instr.sureAddr]
  try simp [Addr.add]
  try (intro h; exact h.symm)
theorem hS_lt (a : HSet) (h : hsOk a) (i : Nat) : hS a i < 18446744073709551616 := by
  obtain ⟨h1, h2, h3, h4, h5, h6⟩ := h
  unfold hS
  split
  · exact h1
  · split
    · exact h2
    · split
      · exact h3
      · split
        · exact h4
        · split
          · exact h5
          · split
            · exact h6
            · decide
theorem arr7_at (S : Nat → Nat) (i : Nat) (h : i < 6) : (arr7 S)[i + 1]? = some (.int .u64 (S (i + 1) : Int)) := by
  match i, h with
  | 0, _ => rfl
  | 1, _ => rfl
  | 2, _ => rfl
  | 3, _ => rfl
  | 4, _ => rfl
  | 5, _ => rfl
section
variable {ops : Array Oper} {Q : Exit → Act → World → Prop} {a : Act} {w : World} {rest : List Oper}
theorem wpList_load7 {x : Operand} {d : Option Tmp} {tr : TypeId} {pos : String} {af : Array Edge} (g : Nat) (S : Nat → Nat)
    (hx : a.eval x = .pointer (some ⟨g, 0, none⟩)) (hs : Sb 60 w g (arr7 S))
    (h : wpList Try.prog ops Q rest (a.put d (.agg (arr7 S))) w) : wpList Try.prog ops Q (⟨d, .load 60 x, tr, pos, af, none⟩ :: rest) a w :=
  wpList_loadS 60 g (arr7 S) _ hx hs Try.underlying60 rfl set2_size h
end
abbrev z7 : Array Value := #[.int .u64 0, .int .u64 0, .int .u64 0, .int .u64 0, .int .u64 0, .int .u64 0, .int .u64 0]
theorem of13_any7 (S : Nat → Nat) (h0 : S 0 = 0) (w : World) : Calls Try.prog 36 #[.agg (arrH S)] w fun e w' => e = .returned (.agg (arr7 S)) ∧ Below w.heap.size w w' := by
  have h := of13_any S h0 w
  have e : arrS S = arr7 S := by unfold arrS; rw [h0]; rfl
  rw [e] at h
  exact h
theorem er {p j : Nat} {l : List Nat} (h : j ≠ p) (hj : j ∉ l.erase p) : j ∉ l := fun h2 => hj ((List.mem_erase_of_ne h).2 h2)
/-- What stands while the two are told by their numbers, in whatever order. -/
def SdI (A C : Nat → Nat) (w w2 : World) (v5 : Value) (pend : List Nat) (a : Act) (W : World) : Prop :=
  ∃ (v19 v20 v21 v22 v6 v7 : Value) (g6 g7 : Nat), a = ⟨#[.agg (arrH A), .agg (arrH C), .pointer (some ⟨w.heap.size, 0, none⟩), .pointer (some ⟨w.heap.size + 1, 0, none⟩), .bool false, v5, v6, v7, undef, undef, undef, undef, undef, undef, .bool true, .bool false, .agg (arrH A), .agg (arrH C), v5, v19, v20, v21, v22, undef, undef, undef, undef, undef, undef, undef, undef, undef, undef, undef, undef, undef, undef, undef, undef, undef, undef, undef, undef, undef, undef, undef, undef, undef, undef, undef, undef, undef, undef, undef, undef, undef, undef, undef, undef, undef, undef, undef, undef, undef, undef, undef, undef, undef, undef, undef, undef], []⟩ ∧ Below w2.heap.size w2 W ∧
    (0 ∉ pend → v19 = .agg (arrH A)) ∧ (1 ∉ pend → v20 = .agg (arr7 A)) ∧ (2 ∉ pend → v21 = .agg (arrH C)) ∧ (3 ∉ pend → v22 = .agg (arr7 C)) ∧
    (4 ∉ pend → v6 = .pointer (some ⟨g6, 0, none⟩) ∧ Sb 60 W g6 z7 ∧ w2.heap.size ≤ g6) ∧
    (5 ∉ pend → v7 = .pointer (some ⟨g7, 0, none⟩) ∧ Sb 60 W g7 z7 ∧ w2.heap.size ≤ g7) ∧ (4 ∉ pend → 5 ∉ pend → g6 ≠ g7)
set_option maxRecDepth 100000 in
set_option maxHeartbeats 8000000 in
theorem setDiffs_two (A C : Nat → Nat) (hA0 : A 0 = 0) (hC0 : C 0 = 0) (hC : ∀ i, C i < 18446744073709551616) (w : World) :
    Calls Try.prog 9 #[.agg (arrH A), .agg (arrH C)] w fun e w' => e = .returned (.bool true) ∧ Below w.heap.size w w' := by
  have HK := Bx.mk (fun W => known13_any W)
  have HD := Bx.mk (fun W => pDiff_any A C W)
  have HP : Bx (Sb 57 ((w.alloc (.cells (arrH A) 57)).alloc (.cells (arrH C) 57)) w.heap.size (arrH A)) := ⟨(Sb.new _ w _).alloc _⟩
  have HQ : Bx (Sb 57 ((w.alloc (.cells (arrH A) 57)).alloc (.cells (arrH C) 57)) (w.heap.size + 1) (arrH C)) := ⟨Sb.newg _ _ _ (by simp) _⟩
  have HB0 : Bx (Below w.heap.size w ((w.alloc (.cells (arrH A) 57)).alloc (.cells (arrH C) 57))) := ⟨((Below.refl _ _).alloc (Nat.le_refl _) _).alloc (by simp) _⟩
  go_enter Try.func9, Try.ntmps9
  go_upto_region 4 with (first
    | (go_at_call 34; refine (HK.out _).mono ?_; rintro e w1 ⟨rfl, b1⟩; have HB1 := Bx.mk (HB0.out.trans (b1.mono HB0.out.size)); have HP1 := Bx.mk (HP.out.keep b1); have HQ1 := Bx.mk (HQ.out.keep b1); clear b1)
    | (with_reducible refine wpList_loadH w.heap.size A rfl HP1.out ?_)
    | (with_reducible refine wpList_loadH (w.heap.size + 1) C rfl HQ1.out ?_)
    | (go_at_call 35; refine (HD.out _).mono ?_; rintro e w2 ⟨v5, rfl, hr2, b2⟩; have HB2 := Bx.mk (HB1.out.trans (b2.mono HB1.out.size)); have HP2 := Bx.mk (HP1.out.keep b2); have HQ2 := Bx.mk (HQ1.out.keep b2); have HR2 := Bx.mk hr2; clear b2 hr2))
  have HLT : Bx (w.heap.size < w2.heap.size ∧ w.heap.size + 1 < w2.heap.size) := ⟨HP2.out.lt, HQ2.out.lt⟩
  refine wp_region_x 7 (fun _ => True) (by kernel_rfl) trivial (fun _ => ?_)
  refine wpAnyX_bagD0 (ins := [0, 1, 2, 3, 4, 5]) (base := #[false, false, false, false, false, false, false, false]) (lend := #[true, true, true, true, true, true, false, false]) (fun _ => trivial) (SdI A C w w2 v5) (by kernel_rfl) (by kernel_rfl) (by decide) ?_ ?_ (by decide) ?_
  · intro pend hnd hsub p hp hdep a W hI K hK
    obtain ⟨v19, v20, v21, v22, v6, v7, g6, g7, rfl, hbl, f0, f1, f2, f3, f4, f5, f6⟩ := hI
    have hp6 := hsub p hp
    simp only [List.mem_cons, List.not_mem_nil, or_false] at hp6
    rcases hp6 with rfl | rfl | rfl | rfl | rfl | rfl
    · obtain ⟨c0, c1, c2, c3, c4, c5⟩ := HP2.out.cells6 hbl HLT.out.1
      have HI : Bx (∀ v, v = .agg (arrH A) → SdI A C w w2 v5 (pend.erase 0) (Act.put ⟨#[.agg (arrH A), .agg (arrH C), .pointer (some ⟨w.heap.size, 0, none⟩), .pointer (some ⟨w.heap.size + 1, 0, none⟩), .bool false, v5, v6, v7, undef, undef, undef, undef, undef, undef, .bool true, .bool false, .agg (arrH A), .agg (arrH C), v5, v19, v20, v21, v22, undef, undef, undef, undef, undef, undef, undef, undef, undef, undef, undef, undef, undef, undef, undef, undef, undef, undef, undef, undef, undef, undef, undef, undef, undef, undef, undef, undef, undef, undef, undef, undef, undef, undef, undef, undef, undef, undef, undef, undef, undef, undef, undef, undef, undef, undef, undef, undef], []⟩ (some 19) v) W) := ⟨fun v hv => ⟨v, v20, v21, v22, v6, v7, g6, g7, rfl, hbl, fun _ => hv, fun h => f1 (er (by decide) h), fun h => f2 (er (by decide) h), fun h => f3 (er (by decide) h), fun h => f4 (er (by decide) h), fun h => f5 (er (by decide) h), fun h h' => f6 (er (by decide) h) (er (by decide) h')⟩⟩
      replace hK := Bx.mk hK
      clear f0 f1 f2 f3 f4 f5 f6 hdep hsub hnd hp
      refine wpOp_step rfl (fun K' hK' => ?_)
      go_simp
      exact hK' _ _ (hK.out _ _ (HI.out _ rfl))
    · have h0 : 0 ∉ pend := hdep _ rfl ⟨0, .data⟩ (by simp) rfl
      obtain rfl := f0 h0
      have HI : Bx (∀ W', Below W.heap.size W W' → SdI A C w w2 v5 (pend.erase 1) (Act.put ⟨#[.agg (arrH A), .agg (arrH C), .pointer (some ⟨w.heap.size, 0, none⟩), .pointer (some ⟨w.heap.size + 1, 0, none⟩), .bool false, v5, v6, v7, undef, undef, undef, undef, undef, undef, .bool true, .bool false, .agg (arrH A), .agg (arrH C), v5, .agg (arrH A), v20, v21, v22, undef, undef, undef, undef, undef, undef, undef, undef, undef, undef, undef, undef, undef, undef, undef, undef, undef, undef, undef, undef, undef, undef, undef, undef, undef, undef, undef, undef, undef, undef, undef, undef, undef, undef, undef, undef, undef, undef, undef, undef, undef, undef, undef, undef, undef, undef, undef, undef], []⟩ (some 20) (.agg (arr7 A))) W') := ⟨fun W' hw => ⟨_, _, v21, v22, v6, v7, g6, g7, rfl, hbl.trans (hw.mono hbl.size), fun h => rfl, fun _ => rfl, fun h => f2 (er (by decide) h), fun h => f3 (er (by decide) h), fun h => by obtain ⟨x1, x2, x3⟩ := f4 (er (by decide) h); exact ⟨x1, x2.keep hw, x3⟩, fun h => by obtain ⟨x1, x2, x3⟩ := f5 (er (by decide) h); exact ⟨x1, x2.keep hw, x3⟩, fun h h' => f6 (er (by decide) h) (er (by decide) h')⟩⟩
      replace hK := Bx.mk hK
      clear f0 f1 f2 f3 f4 f5 f6 hdep hsub hnd hp h0
      refine wpOp_step rfl (fun K' hK' => ?_)
      go_simp
      go_at_call 36
      refine (of13_any7 A hA0 W).mono ?_
      rintro e W' ⟨rfl, hw⟩
      exact hK' _ _ (hK.out _ _ (HI.out _ hw))
    · obtain ⟨c0, c1, c2, c3, c4, c5⟩ := HQ2.out.cells6 hbl HLT.out.2
      have HI : Bx (∀ v, v = .agg (arrH C) → SdI A C w w2 v5 (pend.erase 2) (Act.put ⟨#[.agg (arrH A), .agg (arrH C), .pointer (some ⟨w.heap.size, 0, none⟩), .pointer (some ⟨w.heap.size + 1, 0, none⟩), .bool false, v5, v6, v7, undef, undef, undef, undef, undef, undef, .bool true, .bool false, .agg (arrH A), .agg (arrH C), v5, v19, v20, v21, v22, undef, undef, undef, undef, undef, undef, undef, undef, undef, undef, undef, undef, undef, undef, undef, undef, undef, undef, undef, undef, undef, undef, undef, undef, undef, undef, undef, undef, undef, undef, undef, undef, undef, undef, undef, undef, undef, undef, undef, undef, undef, undef, undef, undef, undef, undef, undef, undef], []⟩ (some 21) v) W) := ⟨fun v hv => ⟨v19, v20, v, v22, v6, v7, g6, g7, rfl, hbl, fun h => f0 (er (by decide) h), fun h => f1 (er (by decide) h), fun _ => hv, fun h => f3 (er (by decide) h), fun h => f4 (er (by decide) h), fun h => f5 (er (by decide) h), fun h h' => f6 (er (by decide) h) (er (by decide) h')⟩⟩
      replace hK := Bx.mk hK
      clear f0 f1 f2 f3 f4 f5 f6 hdep hsub hnd hp
      refine wpOp_step rfl (fun K' hK' => ?_)
      go_simp
      exact hK' _ _ (hK.out _ _ (HI.out _ rfl))
    · have h0 : 2 ∉ pend := hdep _ rfl ⟨2, .data⟩ (by simp) rfl
      obtain rfl := f2 h0
      have HI : Bx (∀ W', Below W.heap.size W W' → SdI A C w w2 v5 (pend.erase 3) (Act.put ⟨#[.agg (arrH A), .agg (arrH C), .pointer (some ⟨w.heap.size, 0, none⟩), .pointer (some ⟨w.heap.size + 1, 0, none⟩), .bool false, v5, v6, v7, undef, undef, undef, undef, undef, undef, .bool true, .bool false, .agg (arrH A), .agg (arrH C), v5, v19, v20, .agg (arrH C), v22, undef, undef, undef, undef, undef, undef, undef, undef, undef, undef, undef, undef, undef, undef, undef, undef, undef, undef, undef, undef, undef, undef, undef, undef, undef, undef, undef, undef, undef, undef, undef, undef, undef, undef, undef, undef, undef, undef, undef, undef, undef, undef, undef, undef, undef, undef, undef, undef], []⟩ (some 22) (.agg (arr7 C))) W') := ⟨fun W' hw => ⟨v19, v20, _, _, v6, v7, g6, g7, rfl, hbl.trans (hw.mono hbl.size), fun h => f0 (er (by decide) h), fun h => f1 (er (by decide) h), fun h => rfl, fun _ => rfl, fun h => by obtain ⟨x1, x2, x3⟩ := f4 (er (by decide) h); exact ⟨x1, x2.keep hw, x3⟩, fun h => by obtain ⟨x1, x2, x3⟩ := f5 (er (by decide) h); exact ⟨x1, x2.keep hw, x3⟩, fun h h' => f6 (er (by decide) h) (er (by decide) h')⟩⟩
      replace hK := Bx.mk hK
      clear f0 f1 f2 f3 f4 f5 f6 hdep hsub hnd hp h0
      refine wpOp_step rfl (fun K' hK' => ?_)
      go_simp
      go_at_call 36
      refine (of13_any7 C hC0 W).mono ?_
      rintro e W' ⟨rfl, hw⟩
      exact hK' _ _ (hK.out _ _ (HI.out _ hw))
    · have HI : Bx (SdI A C w w2 v5 (pend.erase 4) (Act.put ⟨#[.agg (arrH A), .agg (arrH C), .pointer (some ⟨w.heap.size, 0, none⟩), .pointer (some ⟨w.heap.size + 1, 0, none⟩), .bool false, v5, v6, v7, undef, undef, undef, undef, undef, undef, .bool true, .bool false, .agg (arrH A), .agg (arrH C), v5, v19, v20, v21, v22, undef, undef, undef, undef, undef, undef, undef, undef, undef, undef, undef, undef, undef, undef, undef, undef, undef, undef, undef, undef, undef, undef, undef, undef, undef, undef, undef, undef, undef, undef, undef, undef, undef, undef, undef, undef, undef, undef, undef, undef, undef, undef, undef, undef, undef, undef, undef, undef], []⟩ (some 6) (.pointer (some ⟨W.heap.size, 0, none⟩))) (W.alloc (.cells z7 60))) := ⟨⟨v19, v20, v21, v22, _, v7, W.heap.size, g7, rfl, hbl.alloc hbl.size _, fun h => f0 (er (by decide) h), fun h => f1 (er (by decide) h), fun h => f2 (er (by decide) h), fun h => f3 (er (by decide) h), fun _ => ⟨rfl, Sb.new _ W _, hbl.size⟩, fun h => by obtain ⟨x1, x2, x3⟩ := f5 (er (by decide) h); exact ⟨x1, x2.alloc _, x3⟩, fun _ h' => by obtain ⟨x1, x2, x3⟩ := f5 (er (by decide) h'); have := x2.lt; omega⟩⟩
      replace hK := Bx.mk hK
      clear f0 f1 f2 f3 f4 f5 f6 hdep hsub hnd hp
      refine wpOp_step rfl (fun K' hK' => ?_)
      go_simp
      exact hK' _ _ (hK.out _ _ HI.out)
    · have HI : Bx (SdI A C w w2 v5 (pend.erase 5) (Act.put ⟨#[.agg (arrH A), .agg (arrH C), .pointer (some ⟨w.heap.size, 0, none⟩), .pointer (some ⟨w.heap.size + 1, 0, none⟩), .bool false, v5, v6, v7, undef, undef, undef, undef, undef, undef, .bool true, .bool false, .agg (arrH A), .agg (arrH C), v5, v19, v20, v21, v22, undef, undef, undef, undef, undef, undef, undef, undef, undef, undef, undef, undef, undef, undef, undef, undef, undef, undef, undef, undef, undef, undef, undef, undef, undef, undef, undef, undef, undef, undef, undef, undef, undef, undef, undef, undef, undef, undef, undef, undef, undef, undef, undef, undef, undef, undef, undef, undef], []⟩ (some 7) (.pointer (some ⟨W.heap.size, 0, none⟩))) (W.alloc (.cells z7 60))) := ⟨⟨v19, v20, v21, v22, v6, _, g6, W.heap.size, rfl, hbl.alloc hbl.size _, fun h => f0 (er (by decide) h), fun h => f1 (er (by decide) h), fun h => f2 (er (by decide) h), fun h => f3 (er (by decide) h), fun h => by obtain ⟨x1, x2, x3⟩ := f4 (er (by decide) h); exact ⟨x1, x2.alloc _, x3⟩, fun _ => ⟨rfl, Sb.new _ W _, hbl.size⟩, fun h' _ => by obtain ⟨x1, x2, x3⟩ := f4 (er (by decide) h'); have := x2.lt; omega⟩⟩
      replace hK := Bx.mk hK
      clear f0 f1 f2 f3 f4 f5 f6 hdep hsub hnd hp
      refine wpOp_step rfl (fun K' hK' => ?_)
      go_simp
      exact hK' _ _ (hK.out _ _ HI.out)
  · exact ⟨undef, undef, undef, undef, undef, undef, 0, 0, rfl, (Below.refl _ _).drew, fun h => absurd (by decide) h, fun h => absurd (by decide) h, fun h => absurd (by decide) h, fun h => absurd (by decide) h, fun h => absurd (by decide) h, fun h => absurd (by decide) h, fun h => absurd (by decide) h⟩
  intro a W hI
  obtain ⟨v19, v20, v21, v22, v6, v7, g6, g7, rfl, hbl, f0, f1, f2, f3, f4, f5, f6⟩ := hI
  obtain rfl := f0 (by simp)
  obtain rfl := f1 (by simp)
  obtain rfl := f2 (by simp)
  obtain rfl := f3 (by simp)
  obtain ⟨rfl, x6, y6⟩ := f4 (by simp)
  obtain ⟨rfl, x7, y7⟩ := f5 (by simp)
  have hne := f6 (by simp) (by simp)
  clear f0 f1 f2 f3 f4 f5 f6
  refine wpAnyX_one (i := 6) (o := ⟨none, Op.store 60 (Operand.tmp 6) (Operand.tmp 20), 0, _, _, none⟩) (by kernel_rfl) rfl (fun K hK => ?_)
  refine step_storeS rfl 60 _ _ rfl 60 g6 z7 (arr7 A) rfl rfl x6 set2_size rfl (by simp [arr7, Value.oneCell']) ?_
  intro w6 hs6 hg6
  refine hK _ _ (fun _ => trivial) ?_
  clear hK K
  try simp only [Act.put, List.setIfInBounds_toArray, List.set_cons_zero, List.set_cons_succ]
  have x7b := x7.grown hg6 (fun h => by injection h with h; exact hne h.symm)
  refine wpAnyX_one (i := 7) (o := ⟨none, Op.store 60 (Operand.tmp 7) (Operand.tmp 22), 0, _, _, none⟩) (by kernel_rfl) rfl (fun K hK => ?_)
  refine step_storeS rfl 60 _ _ rfl 60 g7 z7 (arr7 C) rfl rfl x7b set2_size rfl (by simp [arr7, Value.oneCell']) ?_
  intro w7 hs7 hg7
  refine hK _ _ (fun _ => trivial) ?_
  clear hK K
  try simp only [Act.put, List.setIfInBounds_toArray, List.set_cons_zero, List.set_cons_succ]
  have HS6 := Bx.mk (hs6.grown hg7 (fun h => by injection h with h; exact hne h))
  have HS7 := Bx.mk hs7
  have HW7 := Bx.mk ((hbl.grown hg6 hbl.size (fun k hk => by injection hk with hk; omega)).grown hg7 (by have := hg6; have h1 := (hbl.grown hg6 hbl.size (fun k hk => by injection hk with hk; omega)).size; exact h1) (fun k hk => by injection hk with hk; omega))
  refine wpAnyX_done (by kernel_rfl) ?_ _
  clear x6 x7 x7b hs6 hs7 hg6 hg7 hbl
  have HG : Bx (g6 < w7.heap.size ∧ g7 < w7.heap.size) := ⟨HS6.out.lt, HS7.out.lt⟩
  have HBW := Bx.mk (HB2.out.trans (HW7.out.mono HB2.out.size))
  have HPQ := Bx.mk (HP2.out.below HW7.out HLT.out.1)
  have HQQ := Bx.mk (HQ2.out.below HW7.out HLT.out.2)
  have HR7 := Bx.mk (HR2.out.keep HW7.out)
  clear HP HQ HB0 HB1 HP1 HQ1 HB2 HP2 HQ2 HR2 HLT y6 y7 HW7
  go_wp2_with fail
  go_loopg [9, 8] 6 (fun g s9 s8 wx => ∃ (k : Nat) (v8 : Value), k + g = 6 ∧ s9 = .int .i64 ((k + 1 : Nat) : Int) ∧ v8 = s8 ∧ Bx (AnS wx w7.heap.size v8 (dTo A C k)) ∧ Bx (Below w7.heap.size w7 wx))
  case atStart => exact ⟨0, _, rfl, rfl, rfl, ⟨AnS.nil _ _⟩, ⟨Below.refl _ _⟩⟩
  case round =>
    obtain ⟨k, v8, hkg, rfl, rfl, HA, HB⟩ := hrel
    cases gk with
    | zero =>
      obtain rfl : k = 6 := by omega
      have hkd : decide (((6 + 1 : Nat) : Int) ≤ 6) = false := by decide
      have HSE := Bx.mk (fun W (h1 : Rows 2 sgvl W v5 (dTo A C 6)) (h2 : Rows 2 sgvl W v8 (dTo A C 6)) => hSettings_any v5 v8 _ W h1 h2)
      have hdo := dTo_ok A C hC 6 (Nat.le_refl _)
      have HPA := fun W (h : Rows 2 sgvl W v5 (dTo A C 6)) => pApply_any A v5 (dTo A C 6) W h hdo
      have HRA := fun W (h : Rows 2 sgvl W v8 (dTo A C 6)) => refApply_any A v8 (dTo A C 6) W h hdo
      have e7 : arrS A = arr7 A := by unfold arrS; rw [hA0]; rfl
      rw [e7] at HRA
      obtain ⟨T, hT⟩ : ∃ T, (apS A (dTo A C 6)).1 = T := ⟨_, rfl⟩
      obtain ⟨E, hE⟩ : ∃ E, (apS A (dTo A C 6)).2 = E := ⟨_, rfl⟩
      have hTC : E = 0 → arrH T = arrH C := fun h0 => by
        have h := apS_dTo A C 6 (Nat.le_refl _) (by rw [hE, h0])
        rw [hT] at h
        unfold arrH
        rw [h 1, h 2, h 3, h 4, h 5, h 6]
        rfl
      rw [hT, hE] at HPA HRA
      have HR8 := Bx.mk (HR7.out.keep HB.out)
      have HP8 := Bx.mk (HPQ.out.below HB.out HPQ.out.lt)
      have HQ8 := Bx.mk (HQQ.out.below HB.out HQQ.out.lt)
      have HT6 := Bx.mk (HS6.out.below HB.out HS6.out.lt)
      have HB8 := Bx.mk (HBW.out.trans (HB.out.mono HBW.out.size))
      have HA8 := Bx.mk HA.out.rows
      have HLQ : Bx (w.heap.size + 1 < wr.heap.size) := ⟨HQ8.out.lt⟩
      clear hT hE hdo e7 hA0 hC0 hC hkg HB HA HS6 HS7 HPQ HQQ HR7 HBW
      by_cases h0 : E = 0
      · subst h0
        rw [hTC rfl] at HPA
        replace HPA := Bx.mk HPA
        replace HRA := Bx.mk HRA
        clear hTC
        go_wp2_with (first
          | (go_at_call 37; refine (HSE.out _ HR8.out HA8.out).mono ?_; rintro e x1 ⟨rfl, b1⟩; have GB1 := Bx.mk (HB8.out.trans (b1.mono HB8.out.size)); have GP1 := Bx.mk (HP8.out.keep b1); have GC1 := Bx.mk b1; clear b1)
          | (with_reducible refine wpList_loadH w.heap.size A rfl GP1.out ?_)
          | (go_at_call 38; refine (HPA.out _ (HR8.out.keep GC1.out)).mono ?_; rintro e x2 ⟨rfl, b2⟩; have GB2 := Bx.mk (GB1.out.trans (b2.mono GB1.out.size)); have GC2 := Bx.mk (GC1.out.trans (b2.mono GC1.out.size)); have GN : Bx (Sb 57 (x2.alloc (.cells (arrH C) 57)) x2.heap.size (arrH C)) := ⟨Sb.new _ x2 _⟩; have GC3 := Bx.mk (GC2.out.alloc GC2.out.size (.cells (arrH C) 57)); have GT3 := Bx.mk (HT6.out.keep GC3.out); have GA3 := Bx.mk (HA8.out.keep GC3.out); clear b2)
          | (with_reducible refine wpList_load7 g6 A rfl GT3.out ?_)
          | (go_at_call 39; refine (HRA.out _ GA3.out).mono ?_; rintro e x4 ⟨rfl, b4⟩; have GC4 := Bx.mk (GC3.out.trans (b4.mono GC3.out.size)); have GN4 := Bx.mk (GN.out.keep b4); have GB4 := Bx.mk (GB2.out.trans ((((Below.refl x2.heap.size x2).alloc (Nat.le_refl _) (.cells (arrH C) 57)).trans (b4.mono (by simp))).mono GB2.out.size)); have GB5 := Bx.mk (GB4.out.alloc GB4.out.size (.cells (arrS T) 60)); obtain ⟨p0, p1, p2, p3, p4, p5⟩ := GN4.out.cells6 ((Below.refl x4.heap.size x4).alloc (Nat.le_refl _) (.cells (arrS T) 60)) GN4.out.lt; obtain ⟨q0, q1, q2, q3, q4, q5⟩ := HQ8.out.cells6 (GC4.out.alloc GC4.out.size (.cells (arrS T) 60)) HLQ.out; clear b4))
        go_ret
        exact ⟨rfl, GB5.out⟩
      · obtain ⟨EI, hEI⟩ : ∃ X : Int, (E : Int) = X := ⟨_, rfl⟩
        have hE1 : (EI == EI) = true := by simp
        have hE2 : (EI != 0) = true := by rw [bne_iff_ne]; omega
        rw [hEI] at HPA HRA
        replace HPA := Bx.mk HPA
        replace HRA := Bx.mk HRA
        clear hTC hEI h0
        go_wp2_with (first
          | (go_at_call 37; refine (HSE.out _ HR8.out HA8.out).mono ?_; rintro e x1 ⟨rfl, b1⟩; have GB1 := Bx.mk (HB8.out.trans (b1.mono HB8.out.size)); have GP1 := Bx.mk (HP8.out.keep b1); have GC1 := Bx.mk b1; clear b1)
          | (with_reducible refine wpList_loadH w.heap.size A rfl GP1.out ?_)
          | (go_at_call 38; refine (HPA.out _ (HR8.out.keep GC1.out)).mono ?_; rintro e x2 ⟨rfl, b2⟩; have GB2 := Bx.mk (GB1.out.trans (b2.mono GB1.out.size)); have GC2 := Bx.mk (GC1.out.trans (b2.mono GC1.out.size)); have GC3 := Bx.mk (GC2.out.alloc GC2.out.size (.cells (arrH T) 57)); have GT3 := Bx.mk (HT6.out.keep GC3.out); have GA3 := Bx.mk (HA8.out.keep GC3.out); clear b2)
          | (with_reducible refine wpList_load7 g6 A rfl GT3.out ?_)
          | (go_at_call 39; refine (HRA.out _ GA3.out).mono ?_; rintro e x4 ⟨rfl, b4⟩; have GB4 := Bx.mk (GB2.out.trans ((((Below.refl x2.heap.size x2).alloc (Nat.le_refl _) (.cells (arrH T) 57)).trans (b4.mono (by simp))).mono GB2.out.size)); have GB5 := Bx.mk (GB4.out.alloc GB4.out.size (.cells (arrS T) 60)); clear b4))
        go_ret
        exact ⟨rfl, GB5.out⟩
    | succ g =>
      have hk : k < 6 := by omega
      obtain ⟨KI, hKI⟩ : ∃ X : Int, ((k + 1 : Nat) : Int) = X := ⟨_, rfl⟩
      have hkd : decide (KI ≤ 6) = true := decide_eq_true (by omega)
      have HWK : Bx (wrap64 (KI + 1) = ((k + 1 + 1 : Nat) : Int)) := ⟨by unfold wrap64; omega⟩
      have HKG := Bx.mk hkg
      have hx6 := fun W => set2_indexK g6 (k + 1) (by omega) .i64 W
      have hx7 := fun W => set2_indexK g7 (k + 1) (by omega) .i64 W
      have hc6 : ∀ W, Below w7.heap.size w7 W → W.cell? ⟨g6, k + 1, none⟩ = some (.int .u64 (A (k + 1) : Int)) := fun W hW => by rw [hW.cell HG.out.1, HS6.out.cell (k + 1)]; exact arr7_at A k hk
      have hc7 : ∀ W, Below w7.heap.size w7 W → W.cell? ⟨g7, k + 1, none⟩ = some (.int .u64 (C (k + 1) : Int)) := fun W hW => by rw [hW.cell HG.out.2, HS7.out.cell (k + 1)]; exact arr7_at C k hk
      have HK6 := Bx.mk hk
      obtain ⟨av, hav⟩ : ∃ x : Nat, A (k + 1) = x := ⟨_, rfl⟩
      obtain ⟨cv, hcv⟩ : ∃ x : Nat, C (k + 1) = x := ⟨_, rfl⟩
      rw [hKI] at hx6 hx7 ⊢
      rw [hav] at hc6
      rw [hcv] at hc7
      have e6 := hc6 wr HB.out
      have e7 := hc7 wr HB.out
      have HC7 := Bx.mk hc7
      clear hkg hc6 hc7
      by_cases he : cv = av
      · have hne2 : ((av : Int) != (cv : Int)) = false := by rw [he]; simp
        have HD2 : Bx (AnS wr w7.heap.size v8 (dTo A C (k + 1))) := ⟨by rw [dTo_same (by rw [hcv, hav, he])]; exact HA.out⟩
        clear hav hcv he hk hKI
        go_upto_region 9 with fail
        go_quiet (fail)
        all_goals (have HB2 := Bx.mk (below_drewN HB.out nq); have HD3 := Bx.mk (HD2.out.keep (below_drewN (Below.refl wr.heap.size wr) nq)); go_wp2_with fail; go_roundg g)
        case measure => omega
        case rel => exact ⟨k + 1, _, by have := HKG.out; omega, by rw [HWK.out], rfl, HD3, HB2⟩
      · have hne2 : ((av : Int) != (cv : Int)) = true := by rw [bne_iff_ne]; omega
        have HDD : Bx (dTo A C (k + 1) = dTo A C k ++ [⟨k + 1, cv⟩]) := ⟨by rw [← hcv]; exact dTo_diff (by rw [hcv, hav]; exact he)⟩
        have hw1 : IntKind.u64.wrap KI = KI := by rw [IntKind.wrap_u64]; omega
        have HKI := Bx.mk hKI
        have HLL := Bx.mk (dTo_len A C k)
        clear hav hcv he hk hKI
        go_upto_region 9 with fail
        go_quiet (fail)
        all_goals (
          have HB2 := Bx.mk (below_drewN HB.out nq)
          have HD3 := Bx.mk (HA.out.keep (below_drewN (Below.refl wr.heap.size wr) nq))
          obtain ⟨wq, hwq⟩ : ∃ W, wr.drewN nq = W := ⟨_, rfl⟩
          rw [hwq] at HB2 HD3 ⊢
          have e77 := HC7.out wq HB2.out
          have HR1 : Bx (Rows 2 sgvl (wq.alloc (.cells #[.int .u64 KI, .int .u64 (cv : Int)] 63)) (.slice (some ⟨wq.heap.size, 0, none⟩) 1 1) [(⟨k + 1, cv⟩ : Stg)]) := ⟨Rows.lit wq 63 [(⟨k + 1, cv⟩ : Stg)] _ 1 rfl (by rw [← HKI.out]; rfl) rfl (by unfold maxLen; omega)⟩
          have HA1 := Bx.mk (HD3.out.keep ((Below.refl wq.heap.size wq).alloc (Nat.le_refl _) (.cells #[.int .u64 KI, .int .u64 (cv : Int)] 63)))
          have HB1 := Bx.mk (HB2.out.alloc HB2.out.size (.cells #[.int .u64 KI, .int .u64 (cv : Int)] 63))
          clear hwq e6 e7
          go_wp2_with (at_builtin; refine wpList_append_sg rfl _ _ rfl w7.heap.size v8 _ _ ⟨k + 1, cv⟩ rfl rfl HA1.out HR1.out (by have := HLL.out; have := HK6.out; omega) HB1.out.size ?_; intro v9 w9 hA9 hb9; have HA9 := Bx.mk hA9; have HB9 := Bx.mk (HB1.out.trans hb9); clear hA9 hb9)
          go_roundg g)
        case measure => omega
        case rel => exact ⟨k + 1, _, by have := HKG.out; omega, by rw [HWK.out], rfl, ⟨by rw [HDD.out]; exact HA9.out⟩, HB9⟩
theorem setDiffs_walk (a b : HSet) (ha : hsOk a) (hb : hsOk b) (w : World) :
    Calls Try.prog 9 #[.agg (hsvl a).toArray, .agg (hsvl b).toArray] w fun e w' => e = .returned (.bool true) ∧ Below w.heap.size w w' :=
  setDiffs_two (hS a) (hS b) rfl rfl (hS_lt b hb) w
end Go.Proofs.Ytenoaljghbpaaaa
