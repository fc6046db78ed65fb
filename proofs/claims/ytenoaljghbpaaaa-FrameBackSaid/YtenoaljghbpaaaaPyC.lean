/-
  Payloads, the program's: where a frame may not be, which sizes it may not have, copies, numbers.
-/
import Derived.Test.YtenoaljghbpaaaaPyB
namespace Go.Proofs.Ytenoaljghbpaaaa
open Go.RowKit
set_option linter.unusedVariables false
set_option linter.unusedSimpArgs false

/-- On stream 0, or on another one, where it may not be. -/
def misN (ty st : Nat) : Bool :=
  if ty = 0 ∨ ty = 1 ∨ ty = 2 ∨ ty = 3 ∨ ty = 5 ∨ ty = 9 then st % 2147483648 == 0 else if ty = 4 ∨ ty = 6 ∨ ty = 7 then !(st % 2147483648 == 0) else false
set_option maxRecDepth 100000 in
set_option maxHeartbeats 4000000 in
theorem misplaced_any (ty st : Nat) (F : Int) (v : Value) (hst : st < 4294967296) (w : World) (T S : Int) (hT : (ty : Int) = T) (hS : (st : Int) = S) :
    Calls Try.prog 82 #[.agg #[.int .u8 T, .int .u8 F, .int .u32 S, v]] w fun e w' => e = .returned (.bool (misN ty st)) ∧ Below w.heap.size w w' := by
  have hb := u32_mask31 st hst
  rw [hS] at hb
  obtain ⟨R, hR⟩ : ∃ R : Int, ((st % 2147483648 : Nat) : Int) = R := ⟨_, rfl⟩
  rw [hR] at hb
  have hN : misN ty st = if T = 0 ∨ T = 1 ∨ T = 2 ∨ T = 3 ∨ T = 5 ∨ T = 9 then R == 0 else if T = 4 ∨ T = 6 ∨ T = 7 then !(R == 0) else false := by
    unfold misN
    have e1 : (T = 0 ∨ T = 1 ∨ T = 2 ∨ T = 3 ∨ T = 5 ∨ T = 9) ↔ (ty = 0 ∨ ty = 1 ∨ ty = 2 ∨ ty = 3 ∨ ty = 5 ∨ ty = 9) := by omega
    have e2 : (T = 4 ∨ T = 6 ∨ T = 7) ↔ (ty = 4 ∨ ty = 6 ∨ ty = 7) := by omega
    have e3 : (R == 0) = (st % 2147483648 == 0) := by rw [Bool.eq_iff_iff, beq_iff_eq, beq_iff_eq]; omega
    simp only [e1, e2, e3]
  rw [hN]
  obtain ⟨z, hz⟩ : ∃ z, (R == 0) = z := ⟨_, rfl⟩
  rw [hz]
  clear hN hR hT hS hst
  have HB1 := Bx.mk ((Below.refl w.heap.size w).alloc (Nat.le_refl _) (.cells #[.int .u8 T, .int .u8 F, .int .u32 S, v] 28))
  go_enter Try.func82, Try.ntmps82
  go_wp2
  all_goals go_ret
  all_goals refine ⟨?_, HB1.out⟩
  all_goals simp_all [Array.getD]
/-- Sizes that may not be. -/
def sizN (ty fl n : Nat) : Bool :=
  if ty = 0 ∨ ty = 1 ∨ ty = 5 then decide (n < aheadN ty fl) else if ty = 2 then n != 5 else if ty = 3 then n != 4 else if ty = 4 then (n % 6 != 0 || (hasN fl 1 && decide (0 < n)))
  else if ty = 6 then n != 8 else if ty = 7 then decide (n < 8) else if ty = 8 then n != 4 else false
set_option maxRecDepth 100000 in
set_option maxHeartbeats 8000000 in
theorem missized_any (ty fl : Nat) (S : Int) (v : Value) (l : List UInt8) (hty : ty < 256) (hfl : fl < 256) (w : World) (T F : Int) (hT : (ty : Int) = T) (hF : (fl : Int) = F) (hv : Bs w v l) (hl : l.length ≤ 1000000) :
    Calls Try.prog 83 #[.agg #[.int .u8 T, .int .u8 F, .int .u32 S, v]] w fun e w' => e = .returned (.bool (sizN ty fl l.length)) ∧ Below w.heap.size w w' := by
  have hlen := fun tr W => hv.run_len tr W
  obtain ⟨n, hn⟩ : ∃ n, l.length = n := ⟨_, rfl⟩
  rw [hn] at hlen hl ⊢
  obtain ⟨N, hN⟩ : ∃ N : Int, (n : Int) = N := ⟨_, rfl⟩
  have HA := Bx.mk (fun W => ahead_any ty fl 0 v hty hfl W T F S hT hF)
  have HH := Bx.mk (fun W => has_any ty fl 0 1 v hfl (by omega) W T F S 1 hF rfl)
  obtain ⟨A, hA⟩ : ∃ A : Int, (aheadN ty fl : Int) = A := ⟨_, rfl⟩
  obtain ⟨x, hx⟩ : ∃ x, hasN fl 1 = x := ⟨_, rfl⟩
  rw [hA] at HA
  rw [hx] at HH
  rw [hN] at hlen
  obtain ⟨q, hq⟩ : ∃ q : Int, N.tmod 6 = q := ⟨_, rfl⟩
  have hqn : q = ((n % 6 : Nat) : Int) := by rw [← hq, ← hN, Int.tmod_eq_emod_of_nonneg (by omega)]; omega
  have hwq : IntKind.i64.wrap q = q := by rw [IntKind.wrap_i64]; omega
  have hwq2 : wrap64 q = q := by unfold wrap64; omega
  have hR : sizN ty fl n = if T = 0 ∨ T = 1 ∨ T = 5 then decide (N < A) else if T = 2 then N != 5 else if T = 3 then N != 4 else if T = 4 then (q != 0 || (x && decide (0 < N))) else if T = 6 then N != 8 else if T = 7 then decide (N < 8) else if T = 8 then N != 4 else false := by
    unfold sizN
    have e1 : (T = 0 ∨ T = 1 ∨ T = 5) ↔ (ty = 0 ∨ ty = 1 ∨ ty = 5) := by omega
    have e2 : T = 2 ↔ ty = 2 := by omega
    have e3 : T = 3 ↔ ty = 3 := by omega
    have e4 : T = 4 ↔ ty = 4 := by omega
    have e6 : T = 6 ↔ ty = 6 := by omega
    have e7 : T = 7 ↔ ty = 7 := by omega
    have e8 : T = 8 ↔ ty = 8 := by omega
    have f1 : decide (N < A) = decide (n < aheadN ty fl) := by rw [← hN, ← hA]; exact decide_eq_decide.2 (by omega)
    have f2 : (N != 5) = (n != 5) := by rw [Bool.eq_iff_iff, bne_iff_ne, bne_iff_ne]; omega
    have f3 : (N != 4) = (n != 4) := by rw [Bool.eq_iff_iff, bne_iff_ne, bne_iff_ne]; omega
    have f4 : (q != 0) = (n % 6 != 0) := by rw [Bool.eq_iff_iff, bne_iff_ne, bne_iff_ne]; omega
    have f5 : decide (0 < N) = decide (0 < n) := decide_eq_decide.2 (by omega)
    have f6 : (N != 8) = (n != 8) := by rw [Bool.eq_iff_iff, bne_iff_ne, bne_iff_ne]; omega
    have f7 : decide (N < 8) = decide (n < 8) := decide_eq_decide.2 (by omega)
    simp only [e1, e2, e3, e4, e6, e7, e8, f1, f2, f3, f4, f5, f6, f7, hx]
  rw [hR]
  obtain ⟨y1, hy1⟩ : ∃ y, decide (N < A) = y := ⟨_, rfl⟩
  obtain ⟨y2, hy2⟩ : ∃ y, (N != 5) = y := ⟨_, rfl⟩
  obtain ⟨y3, hy3⟩ : ∃ y, (N != 4) = y := ⟨_, rfl⟩
  obtain ⟨y4, hy4⟩ : ∃ y, (q != 0) = y := ⟨_, rfl⟩
  obtain ⟨y5, hy5⟩ : ∃ y, decide (0 < N) = y := ⟨_, rfl⟩
  obtain ⟨y6, hy6⟩ : ∃ y, (N != 8) = y := ⟨_, rfl⟩
  obtain ⟨y7, hy7⟩ : ∃ y, decide (N < 8) = y := ⟨_, rfl⟩
  rw [hy1, hy2, hy3, hy4, hy5, hy6, hy7]
  have HB1 := Bx.mk ((Below.refl w.heap.size w).alloc (Nat.le_refl _) (.cells #[.int .u8 T, .int .u8 F, .int .u32 S, v] 28))
  clear hR hT hF hty hfl hn hl hN hA hx hqn hv
  by_cases h0 : T = 0 ∨ T = 1 ∨ T = 5
  · rw [if_pos h0]
    have e4 : (T == 4) = false := by rw [beq_eq_false_iff_ne]; omega
    rcases h0 with rfl | rfl | rfl
    all_goals go_enter Try.func83, Try.ntmps83
    all_goals go_wp2_with (go_at_call 110; refine (HA.out _).mono ?_; rintro e w2 ⟨rfl, b2⟩; have HB2 := Bx.mk (HB1.out.trans (b2.mono HB1.out.size)); clear b2)
    all_goals go_ret
    all_goals exact ⟨rfl, HB2.out⟩
  rw [if_neg h0]
  have e0 : (T == 0) = false := by rw [beq_eq_false_iff_ne]; omega
  have e1 : (T == 1) = false := by rw [beq_eq_false_iff_ne]; omega
  have e5 : (T == 5) = false := by rw [beq_eq_false_iff_ne]; omega
  clear h0
  by_cases h4 : T = 4
  · subst h4
    rw [if_neg (by decide), if_neg (by decide), if_pos rfl]
    clear e0 e1 e5
    cases y4
    · cases x
      all_goals go_enter Try.func83, Try.ntmps83
      all_goals go_wp2_with (go_at_call 111; refine (HH.out _).mono ?_; rintro e w2 ⟨rfl, b2⟩; have HB2 := Bx.mk (HB1.out.trans (b2.mono HB1.out.size)); clear b2)
      all_goals go_ret
      all_goals exact ⟨rfl, HB2.out⟩
    · go_enter Try.func83, Try.ntmps83
      go_wp2_with fail
      go_ret
      exact ⟨rfl, HB1.out⟩
  have e4 : (T == 4) = false := by rw [beq_eq_false_iff_ne]; exact h4
  simp only [if_neg h4]
  clear h4
  go_enter Try.func83, Try.ntmps83
  go_wp2_with fail
  all_goals go_ret
  all_goals refine ⟨?_, (Below.refl _ _).alloc (Nat.le_refl _) _⟩
  all_goals simp_all [Array.getD]
section
variable {w : World} {ops : Array Oper} {o : Oper} {a : Act} {Q : Exit → Act → World → Prop}
/-- Bytes behind bytes. -/
theorem wpList_append_bs {rest : List Oper} (hgd : o.guard = none) (s x : Operand)
    (ho : o.op = .call { callee := .builtin .append, args := #[s, x], argTypes := #[22, 22] })
    (B : Nat) (v u : Value) (l m : List UInt8) (hs : a.eval s = v) (hx : a.eval x = u) (hv : ApB w B v l) (hu : Bs w u m) (hl : l.length + m.length ≤ 100000000) (hB : B ≤ w.heap.size)
    (h : ∀ v' w', ApB w' B v' (l ++ m) → Below B w w' → wpList Try.prog ops Q rest (a.put o.dst v') w') : wpList Try.prog ops Q (o :: rest) a w := by
  obtain ⟨i0, hi, hz, hz1, hz2⟩ := info_parts infoU8a
  refine wpList_append_ap w hgd s x _ ho B 5 i0 (.int .u8 0) 1 Try.underlying22 hi hz hz1 hz2 rfl v u (l.map bv) (m.map bv) hs hx hv hu one_bv (by simp; omega) (by simp [maxLen]; omega) hB ?_
  intro v' w' h1 h2
  exact h v' w' (by unfold ApB; rw [List.map_append]; exact h1) h2
end
section
variable {w : World} {ops : Array Oper} {o : Oper} {a : Act} {Q : Exit → Act → World → Prop}
/-- Bytes behind bytes of a row of its own. -/
theorem wpList_append_ob {rest : List Oper} (hgd : o.guard = none) (s x : Operand)
    (ho : o.op = .call { callee := .builtin .append, args := #[s, x], argTypes := #[22, 22] })
    (B : Nat) (v u : Value) (l m : List UInt8) (hs : a.eval s = v) (hx : a.eval x = u) (hv : OwB w B v l) (hu : Bs w u m) (hl : l.length + m.length ≤ 100000000) (hB : B ≤ w.heap.size)
    (h : ∀ v' w', OwB w' B v' (l ++ m) → Below B w w' → wpList Try.prog ops Q rest (a.put o.dst v') w') : wpList Try.prog ops Q (o :: rest) a w := by
  obtain ⟨i0, hi, hz, hz1, hz2⟩ := info_parts infoU8a
  refine wpList_append_oo hgd s x _ ho B 5 i0 (.int .u8 0) 1 Try.underlying22 hi hz hz1 hz2 rfl v u (l.map bv) (m.map bv) hs hx hv hu one_bv (by simp; omega) (by simp [maxLen]; omega) hB ?_
  intro v' w' h1 h2
  exact h v' w' (by unfold OwB; rw [List.map_append]; exact h1) h2
end
theorem OwB.grownO {w w' : World} {B g : Nat} {v : Value} {l : List UInt8} (h : OwB w B v l) (hg : w.grownBy w' (some g)) (hlt : g < B) : OwB w' B v l :=
  h.kept fun k hk => hg.block k (h.lt hk) (fun e => by injection e with e; have := h.ge hk; omega)
theorem OwB.shape {w : World} {B : Nat} {v : Value} {l : List UInt8} (h : OwB w B v l) : ∃ A n c, v = .slice A n c := by
  obtain ⟨A, L, c, hv, _⟩ := h.bs.open_
  exact ⟨A, L, c, hv⟩
theorem clone_any (B : Nat) (v : Value) (l : List UInt8) (w : World) (hv : Bs w v l) (hB : B ≤ w.heap.size) (hl : l.length ≤ 1000000) :
    Calls Try.prog 85 #[v] w fun e w' => ∃ u, e = .returned u ∧ OwB w' B u l ∧ Below B w w' := by
  have HV := Bx.mk hv
  have HBB := Bx.mk hB
  have HL := Bx.mk hl
  clear hv hB hl
  go_enter Try.func85, Try.ntmps85
  go_wp2_with (at_builtin; refine wpList_append_ob rfl _ _ rfl B _ v [] l rfl rfl (OwB.nil w B) HV.out (by have := HL.out; simp; omega) HBB.out ?_; intro u w1 h1 b1)
  go_ret
  exact ⟨_, rfl, h1, b1⟩
/-- The first four bytes, as a number. -/
def be4 (l : List UInt8) : Nat := rb (l.take 4)
theorem be4_lt (l : List UInt8) : be4 l < 4294967296 := by
  have := rb_lt_n (l.take 4) 4 (by rw [List.length_take]; omega)
  unfold be4
  simpa using this
theorem four_any (v : Value) (l : List UInt8) (w : World) (hv : Bs w v l) (h4 : 4 ≤ l.length) (hl : l.length ≤ 1000000) :
    Calls Try.prog 87 #[v] w fun e w' => e = .returned (.int .u32 (be4 l : Int)) ∧ w' = w := by
  have HR := readBig_ok v l 4 w hv (by omega) (by omega) (by omega) hl
  rw [show rb (l.take (Int.toNat 4)) = be4 l from rfl] at HR
  have hlt := be4_lt l
  obtain ⟨N, hN⟩ : ∃ N : Int, (be4 l : Int) = N := ⟨_, rfl⟩
  rw [hN] at HR ⊢
  replace HR := Bx.mk HR
  have hw : IntKind.u32.wrap N = N := by rw [IntKind.wrap_u32]; omega
  clear hv h4 hl hlt hN
  go_enter Try.func87, Try.ntmps87
  go_wp2_with (go_at_call 75; refine HR.out.mono ?_; rintro e w1 ⟨rfl, rfl⟩)
  go_ret
  exact ⟨rfl, rfl⟩
theorem low_any (v : Value) (l : List UInt8) (w : World) (hv : Bs w v l) (h4 : 4 ≤ l.length) (hl : l.length ≤ 1000000) :
    Calls Try.prog 86 #[v] w fun e w' => e = .returned (.int .u32 ((be4 l % 2147483648 : Nat) : Int)) ∧ w' = w := by
  have HR := four_any v l w hv h4 hl
  have hm := u32_mask31 (be4 l) (be4_lt l)
  obtain ⟨N, hN⟩ : ∃ N : Int, (be4 l : Int) = N := ⟨_, rfl⟩
  obtain ⟨M, hM⟩ : ∃ N : Int, ((be4 l % 2147483648 : Nat) : Int) = N := ⟨_, rfl⟩
  rw [hN] at HR hm
  rw [hM] at hm ⊢
  replace HR := Bx.mk HR
  clear hv h4 hl hN hM
  go_enter Try.func86, Try.ntmps86
  go_wp2_with (go_at_call 87; refine HR.out.mono ?_; rintro e w1 ⟨rfl, rfl⟩)
  go_ret
  exact ⟨rfl, rfl⟩
/-- A payload, read. -/
abbrev payA (d s : Value) (c st i : Int) : Array Value := #[d, s, .int .u32 c, .int .u32 st, .int .u32 i]
abbrev nilV : Value := .slice none 0 0
theorem pay_size : (Try.prog.info? 50).map (·.size) = some 5 := by kernel_rfl
theorem readIncr_any (v : Value) (l : List UInt8) (w : World) (hv : Bs w v l) (h4 : 4 ≤ l.length) (hl : l.length ≤ 1000000) :
    Calls Try.prog 89 #[v] w fun e w' => e = .returned (.tuple #[.agg (payA nilV nilV 0 0 ((be4 l % 2147483648 : Nat) : Int)), .int .i64 (if be4 l % 2147483648 = 0 then 3 else 0)]) ∧ Below w.heap.size w w' := by
  have HL := fun W (h : Bs W v l) => low_any v l W h h4 hl
  have hv2 := hv.alloc (.cells (payA nilV nilV 0 0 0) 50)
  have HL2 := Bx.mk (HL _ hv2)
  have HB := Bx.mk ((Below.refl w.heap.size w).alloc (Nat.le_refl _) (.cells (payA nilV nilV 0 0 0) 50))
  obtain ⟨M, hM⟩ : ∃ N : Int, ((be4 l % 2147483648 : Nat) : Int) = N := ⟨_, rfl⟩
  rw [hM] at HL2 ⊢
  by_cases hz : be4 l % 2147483648 = 0
  · rw [if_pos hz]
    obtain rfl : M = 0 := by omega
    clear HL hv hv2 hM hz h4 hl
    go_enter Try.func89, Try.ntmps89
    go_wp2_with (go_at_call 86; refine HL2.out.mono ?_; rintro e w1 ⟨rfl, hw⟩; subst hw)
    exact bodyPost_ret (ret_S Try.results89 _ _ w.heap.size 50 (payA nilV nilV 0 0 0) _ _ rfl rfl (Sb.new _ w _) Try.underlying50 rfl pay_size) rfl ⟨rfl, HB.out⟩
  · rw [if_neg hz]
    have hne : (M == 0) = false := by rw [beq_eq_false_iff_ne]; omega
    clear HL hv hv2 hM hz h4 hl
    go_enter Try.func89, Try.ntmps89
    go_wp2_with (go_at_call 86; refine HL2.out.mono ?_; rintro e w1 ⟨rfl, hw⟩; subst hw)
    exact bodyPost_ret (ret_S Try.results89 _ _ w.heap.size 50 (payA nilV nilV 0 0 M) _ _ rfl rfl (Sb.new _ w _) Try.underlying50 rfl pay_size) rfl ⟨rfl, (Below.refl _ _).alloc (Nat.le_refl _) _⟩
end Go.Proofs.Ytenoaljghbpaaaa
