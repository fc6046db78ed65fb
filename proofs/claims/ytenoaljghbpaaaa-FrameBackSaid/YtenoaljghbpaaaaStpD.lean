/-
  Contract of the program's Diff.
-/
import Derived.Test.YtenoaljghbpaaaaStpC
import Derived.ChangeKeysEq
import Derived.BigQuiet
namespace Go.Proofs.Ytenoaljghbpaaaa
open Go.RowKit
set_option linter.unusedVariables false
set_option linter.unusedSimpArgs false

/-- The settings up to number k that differ. -/
def dTo (A B : Nat → Nat) : Nat → List Stg
  | 0 => []
  | k + 1 => dTo A B k ++ (if B (k + 1) = A (k + 1) then [] else [⟨k + 1, B (k + 1)⟩])
theorem dTo_len (A B : Nat → Nat) (k : Nat) : (dTo A B k).length ≤ k := by
  induction k with
  | zero => exact Nat.le_refl _
  | succ k ih =>
    unfold dTo
    rw [List.length_append]
    split <;> simp <;> omega
theorem dTo_ok (A B : Nat → Nat) (hB : ∀ i, B i < 18446744073709551616) (k : Nat) (hk : k ≤ 6) : ∀ a ∈ dTo A B k, sgOk a := by
  induction k with
  | zero => intro a ha; cases ha
  | succ k ih =>
    intro a ha
    unfold dTo at ha
    rcases List.mem_append.1 ha with ha | ha
    · exact ih (by omega) a ha
    · split at ha
      · cases ha
      · rcases List.mem_singleton.1 ha with rfl
        exact ⟨by show k + 1 < _; omega, hB _⟩
theorem harr_get (S : Nat → Nat) (i : Nat) (h : i < 6) (W : World) : (Instr.index 128 (.agg (arrH S)) (.int .i64 (i : Int))).run Try.prog W = .ok (.int .u64 (S (i + 1) : Int)) W := by
  have hsz : (sizeOf 45).run Try.prog W = .ok 1 W := by kernel_rfl
  have hpk : Try.prog.plainKey 45 = true := by kernel_rfl
  match i, h with
  | 0, _ => simp [Instr.index, asIntOf, run_underlying Try.underlying128, Sem.run_bind, hsz, Result.andThen, Value.cells]; exact run_part_plain _ hpk rfl
  | 1, _ => simp [Instr.index, asIntOf, run_underlying Try.underlying128, Sem.run_bind, hsz, Result.andThen, Value.cells]; exact run_part_plain _ hpk rfl
  | 2, _ => simp [Instr.index, asIntOf, run_underlying Try.underlying128, Sem.run_bind, hsz, Result.andThen, Value.cells]; exact run_part_plain _ hpk rfl
  | 3, _ => simp [Instr.index, asIntOf, run_underlying Try.underlying128, Sem.run_bind, hsz, Result.andThen, Value.cells]; exact run_part_plain _ hpk rfl
  | 4, _ => simp [Instr.index, asIntOf, run_underlying Try.underlying128, Sem.run_bind, hsz, Result.andThen, Value.cells]; exact run_part_plain _ hpk rfl
  | 5, _ => simp [Instr.index, asIntOf, run_underlying Try.underlying128, Sem.run_bind, hsz, Result.andThen, Value.cells]; exact run_part_plain _ hpk rfl
theorem infoSg : (Try.prog.info? 63).map (fun i => (i.zero, i.size, i.bytes)) = some (some (.agg #[.int .u64 0, .int .u64 0]), 2, 16) := by kernel_rfl
theorem infoSg' : ∃ i0, Try.prog.info? 63 = some i0 ∧ i0.zero = some (.agg #[.int .u64 0, .int .u64 0]) ∧ i0.size = 2 ∧ i0.bytes = 16 := by
  have h := infoSg
  cases hh : Try.prog.info? 63 with
  | none => rw [hh] at h; cases h
  | some i0 =>
    rw [hh] at h
    simp only [Option.map_some, Option.some.injEq, Prod.mk.injEq] at h
    exact ⟨i0, rfl, h.1, h.2.1, h.2.2⟩
/-- A slice of settings, to be appended to. -/
def AnS (w : World) (B : Nat) (v : Value) (l : List Stg) : Prop := An 2 w B 63 v l.length (l.flatMap sgvl)
theorem AnS.rows {w : World} {B : Nat} {v : Value} {l : List Stg} (h : AnS w B v l) : Rows 2 sgvl w v l := An.rd h
theorem AnS.nil (w : World) (B : Nat) : AnS w B (.slice none 0 0) [] := An.nil 2 w B _
theorem AnS.keep {w w' : World} {B : Nat} {v : Value} {l : List Stg} (h : AnS w B v l) (hb : Below w.heap.size w w') : AnS w' B v l := An.keep h hb
theorem sg_one' (a : Stg) : ∀ x ∈ sgvl a, x.oneCell' = true := by
  intro x hx
  unfold sgvl at hx
  simp only [List.mem_cons, List.not_mem_nil, or_false] at hx
  rcases hx with rfl | rfl <;> rfl
section
variable {w : World}
/-- One setting more. -/
theorem wpList_append_sg {ops : Array Oper} {rest : List Oper} {o : Oper} {a : Act} {Q : Exit → Act → World → Prop} (hgd : o.guard = none) (s x : Operand)
    (ho : o.op = .call { callee := .builtin .append, args := #[s, x], argTypes := #[48, 48] })
    (B : Nat) (v u : Value) (l : List Stg) (st : Stg) (hs : a.eval s = v) (hx : a.eval x = u) (hv : AnS w B v l) (hu : Rows 2 sgvl w u [st]) (hl : l.length ≤ 1000000) (hB : B ≤ w.heap.size)
    (h : ∀ v' w', AnS w' B v' (l ++ [st]) → Below B w w' → wpList Try.prog ops Q rest (a.put o.dst v') w') : wpList Try.prog ops Q (o :: rest) a w := by
  obtain ⟨i0, hi, hz, hz1, hz2⟩ := infoSg'
  refine wpList_append_an w 2 (by omega) hgd s x _ ho B 63 i0 _ 16 Try.underlying48 hi hz hz1 hz2 rfl v u _ 1 _ (sgvl st) hs hx hv (by have := hu; unfold Rows at this; simpa using this) (sg_one' st) (by omega) (by unfold maxLen; omega) hB ?_
  intro v' w' h1 h2
  refine h v' w' ?_ h2
  unfold AnS
  rw [List.length_append, List.flatMap_append]
  simpa using h1
end
theorem dTo_same {A B : Nat → Nat} {k : Nat} (h : B (k + 1) = A (k + 1)) : dTo A B (k + 1) = dTo A B k := by
  conv => lhs; unfold dTo
  rw [if_pos h, List.append_nil]
theorem dTo_diff {A B : Nat → Nat} {k : Nat} (h : ¬ B (k + 1) = A (k + 1)) : dTo A B (k + 1) = dTo A B k ++ [⟨k + 1, B (k + 1)⟩] := by
  conv => lhs; unfold dTo
  rw [if_neg h]
set_option maxRecDepth 100000 in
set_option maxHeartbeats 8000000 in
theorem pDiff_any (A C : Nat → Nat) (w : World) : Calls Try.prog 35 #[.agg (arrH A), .agg (arrH C)] w fun e w' => ∃ v, e = .returned v ∧ Rows 2 sgvl w' v (dTo A C 6) ∧ Below w.heap.size w w' := by
  have HVA := Bx.mk (fun W => valuesOf_any A W)
  have HVC := Bx.mk (fun W => valuesOf_any C W)
  have HB1 : Bx (Below w.heap.size w ((w.alloc (.cells (arrH A) 57)).alloc (.cells (arrH C) 57))) := ⟨((Below.refl _ _).alloc (Nat.le_refl _) _).alloc (by simp) _⟩
  have HP1 : Bx (Sb 57 ((w.alloc (.cells (arrH A) 57)).alloc (.cells (arrH C) 57)) (w.heap.size + 1) (arrH C)) := ⟨Sb.newg _ _ _ (by simp) _⟩
  go_enter Try.func35, Try.ntmps35
  go_upto_region 4 with (first
    | (go_at_call 92; have hz := M1; clear hz; refine (HVC.out _).mono ?_; rintro e w6 ⟨rfl, b6⟩; have HB6 := Bx.mk (HB4.out.trans (b6.mono HB4.out.size)); have HS6 := Bx.mk (HS4.out.keep b6); clear b6)
    | (go_at_call 92; refine (HVA.out _).mono ?_; rintro e w2 ⟨rfl, b2⟩; have M1 := HB1; have HB2 := Bx.mk (HB1.out.trans (b2.mono HB1.out.size)); have HP2 := Bx.mk (HP1.out.keep b2); have HN6 : Bx (Sb 128 (w2.alloc (.cells zer6 128)) w2.heap.size zer6) := ⟨Sb.new _ w2 _⟩; have HP3 := Bx.mk (HP2.out.alloc (.cells zer6 128)); have HB3 := Bx.mk (HB2.out.alloc HB2.out.size (.cells zer6 128)); clear b2)
    | (with_reducible refine wpList_storeV _ _ A rfl rfl HN6.out rfl ?_; intro w4 hs4 hg4; have HS4 := Bx.mk hs4; have HP4 := Bx.mk (HP3.out.grown hg4 (fun h => by injection h with h; have := HP2.out.lt; omega)); have HB4 := Bx.mk (HB3.out.grown hg4 HB3.out.size (fun k hk => by injection hk with hk; have := HB2.out.size; omega)); clear hs4 hg4)
    | (with_reducible refine wpList_loadH (w.heap.size + 1) C rfl HP4.out ?_))
  obtain ⟨g6, hg6⟩ : ∃ g, w2.heap.size = g := ⟨_, rfl⟩
  rw [hg6] at HS6 ⊢
  have HG : Bx (g6 < w6.heap.size) := ⟨HS6.out.lt⟩
  clear HB1 HP1 HB2 HP2 HP3 HB3 HN6 HS4 HP4 HB4 hg6 HVA HVC M1
  go_loopg [13, 5] 6 (fun g s13 s5 wx => ∃ (k : Nat) (v5 : Value), k + g = 6 ∧ s13 = .int .i64 k ∧ v5 = s5 ∧ Bx (AnS wx w6.heap.size v5 (dTo A C k)) ∧ Bx (Below w6.heap.size w6 wx))
  case atStart => exact ⟨0, _, rfl, rfl, rfl, ⟨AnS.nil _ _⟩, ⟨Below.refl _ _⟩⟩
  case round =>
    obtain ⟨k, v5, hkg, rfl, rfl, HA, HB⟩ := hrel
    cases gk with
    | zero =>
      obtain rfl : k = 6 := by omega
      go_wp2_with fail
      go_ret
      exact ⟨_, rfl, HA.out.rows, HB6.out.trans (HB.out.mono HB6.out.size)⟩
    | succ g =>
      have hk : k < 6 := by omega
      have hkd : decide ((k : Int) < 6) = true := decide_eq_true (by omega)
      have HWK : Bx (wrap64 ((k : Int) + 1) = ((k + 1 : Nat) : Int)) := ⟨by unfold wrap64; omega⟩
      have HKG := Bx.mk hkg
      have hg := harr_get C k hk
      have hxi := fun W => harr_index g6 k hk .i64 W
      have hcl : wr.cell? ⟨g6, k, none⟩ = some (.int .u64 (A (k + 1) : Int)) := by rw [HB.out.cell HG.out, HS6.out.cell k]; exact arrH_at A k hk
      have HK := Bx.mk hk
      obtain ⟨av, hav⟩ : ∃ x : Nat, A (k + 1) = x := ⟨_, rfl⟩
      obtain ⟨cv, hcv⟩ : ∃ x : Nat, C (k + 1) = x := ⟨_, rfl⟩
      rw [hcv] at hg
      rw [hav] at hcl
      clear hkg
      by_cases he : cv = av
      · have hne : ((cv : Int) != (av : Int)) = false := by rw [he]; simp
        have HD : Bx (AnS wr w6.heap.size v5 (dTo A C (k + 1))) := ⟨by rw [dTo_same (by rw [hcv, hav, he])]; exact HA.out⟩
        clear hav hcv he hk
        go_wp2_with fail
        go_roundg g
        case measure => omega
        case rel => exact ⟨k + 1, _, by have := HKG.out; omega, by rw [HWK.out], rfl, HD, HB⟩
      · have hne : ((cv : Int) != (av : Int)) = true := by rw [bne_iff_ne]; omega
        have HDD : Bx (dTo A C (k + 1) = dTo A C k ++ [⟨k + 1, cv⟩]) := ⟨by rw [← hcv]; exact dTo_diff (by rw [hcv, hav]; exact he)⟩
        obtain ⟨K1, hK1⟩ : ∃ X : Int, ((k + 1 : Nat) : Int) = X := ⟨_, rfl⟩
        have hw1 : IntKind.u64.wrap (k : Int) = (k : Int) := by rw [IntKind.wrap_u64]; omega
        have hw2 : IntKind.u64.wrap ((k : Int) + 1) = K1 := by rw [IntKind.wrap_u64]; omega
        have HR1 : Bx (Rows 2 sgvl (wr.alloc (.cells #[.int .u64 K1, .int .u64 (cv : Int)] 63)) (.slice (some ⟨wr.heap.size, 0, none⟩) 1 1) [(⟨k + 1, cv⟩ : Stg)]) := ⟨Rows.lit wr 63 [(⟨k + 1, cv⟩ : Stg)] _ 1 rfl (by rw [← hK1]; rfl) rfl (by unfold maxLen; omega)⟩
        have HA1 := Bx.mk (HA.out.keep ((Below.refl wr.heap.size wr).alloc (Nat.le_refl _) (.cells #[.int .u64 K1, .int .u64 (cv : Int)] 63)))
        have HB1 := Bx.mk (HB.out.alloc HB.out.size (.cells #[.int .u64 K1, .int .u64 (cv : Int)] 63))
        have HLL := Bx.mk (dTo_len A C k)
        clear hav hcv he hk hK1
        go_wp2_with (at_builtin; refine wpList_append_sg rfl _ _ rfl w6.heap.size v5 _ _ ⟨k + 1, cv⟩ rfl rfl HA1.out HR1.out (by have := HLL.out; have := HK.out; omega) HB1.out.size ?_; intro v7 w7 hA7 hb7; have HA7 := Bx.mk hA7; have HB7 := Bx.mk (HB1.out.trans hb7); clear hA7 hb7)
        go_roundg g
        case measure => omega
        case rel => exact ⟨k + 1, _, by have := HKG.out; omega, by rw [HWK.out], rfl, ⟨by rw [HDD.out]; exact HA7.out⟩, HB7⟩
end Go.Proofs.Ytenoaljghbpaaaa
