/-
  A stream's moves: the program's Send, Recv, Name.
-/
import Derived.Test.YtenoaljghbpaaaaSsO
import Derived.Test.YtenoaljghbpaaaaStep
import Derived.Deep.RegionHeld
import Derived.BigQuiet
import Derived.Deep.WholeRow
import Derived.Laws.BitsAllLaws
namespace Go.Proofs.Ytenoaljghbpaaaa
open Go.RowKit Go.Maps
set_option linter.unusedVariables false
set_option linter.unusedSimpArgs false

/-- What the list says: of states and types beyond all, nothing. -/
theorem lkM_none {l : List (Mk × Int)} {m : Mk} (h : ∀ p ∈ l, p.1 ≠ m) : lkM l m = none := by
  induction l with
  | nil => rfl
  | cons p l ih =>
    obtain ⟨k, v⟩ := p
    unfold lkM
    rw [if_neg (fun e => h (k, v) (by simp) e.symm)]
    exact ih fun p hp => h p (List.mem_cons_of_mem _ hp)
def mvIn (l : List (Mk × Int)) : Bool := l.all fun p => decide (0 ≤ p.1.1 ∧ p.1.1 ≤ 4 ∧ 0 ≤ p.1.2.1 ∧ p.1.2.1 ≤ 9)
theorem lkM_out {l : List (Mk × Int)} (h : mvIn l = true) (s k : Int) (e : Bool) (ho : s < 0 ∨ 4 < s ∨ k < 0 ∨ 9 < k) : lkM l (s, k, e) = none := by
  refine lkM_none fun p hp he => ?_
  unfold mvIn at h
  have := List.all_eq_true.1 h p hp
  rw [decide_eq_true_iff] at this
  rw [he] at this
  simp only at this
  omega
/-- Whether a frame ends its sender's half. -/
def ssE (ty fl : Nat) : Bool := (ty == 1 || ty == 0) && fl % 2 == 1
def sendT (s : Nat) (ty : Nat) (b : Bool) : Bool :=
  (match lkM (mvL 2 3) ((s : Int), (ty : Int), (ty == 1 || ty == 0) && b) with | some v => ((v : Int), (0 : Int)) | none => ((s : Int), 32)) == hSend (s : Int) ty (if b then 1 else 0)
theorem hSend_mod (s : Int) (ty fl : Nat) : hSend s ty fl = hSend s ty (if fl % 2 == 1 then 1 else 0) := by
  unfold hSend
  rcases Nat.mod_two_eq_zero_or_one fl with h | h <;> simp [h]
theorem hRecv_mod (s : Int) (ty fl : Nat) : hRecv s ty fl = hRecv s ty (if fl % 2 == 1 then 1 else 0) := by
  unfold hRecv
  rcases Nat.mod_two_eq_zero_or_one fl with h | h <;> simp [h]
theorem send_lk (s : Int) (ty fl : Nat) : hSend s ty fl = match lkM (mvL 2 3) (s, (ty : Int), ssE ty fl) with | some v => (v, 0) | none => (s, 32) := by
  by_cases hs : s < 0 ∨ 4 < s
  · rw [lkM_out (by decide) s ty _ (by omega)]
    unfold hSend
    rw [if_pos hs]
  by_cases ht : 9 < ty
  · rw [lkM_out (by decide) s ty _ (by omega)]
    unfold hSend
    rw [if_neg hs, if_neg (by omega), if_neg (by omega), if_neg (by omega), if_neg (by omega)]
  have key : ∀ (a : Fin 5) (t : Fin 10) (b : Bool), sendT a.val t.val b = true := by decide +kernel
  obtain ⟨n, rfl⟩ : ∃ n : Nat, s = (n : Int) := ⟨s.toNat, by omega⟩
  have h := key ⟨n, by omega⟩ ⟨ty, by omega⟩ (fl % 2 == 1)
  unfold sendT at h
  rw [hSend_mod]
  exact (beq_iff_eq.1 h).symm
def recvT (s : Nat) (ty : Nat) (b : Bool) : Bool :=
  (if s == 4 && ty == 8 then ((s : Int), (0 : Int)) else match lkM (mvL 3 2) ((s : Int), (ty : Int), (ty == 1 || ty == 0) && b) with | some v => ((v : Int), (0 : Int)) | none => ((s : Int), if ty = 4 ∨ ty = 5 ∨ ty = 6 ∨ ty = 7 then 9 else if s = 0 then 6 else 5)) == hRecv (s : Int) ty (if b then 1 else 0)
def brkN (s : Int) (ty : Nat) : Int := if ty = 4 ∨ ty = 5 ∨ ty = 6 ∨ ty = 7 then 9 else if s = 0 then 6 else 5
theorem recv_lk (s : Int) (ty fl : Nat) (h1 : 0 ≤ s) (h2 : s ≤ 4) (h3 : ty ≤ 9) (h4 : ¬ (s = 4 ∧ ty = 8)) : hRecv s ty fl = match lkM (mvL 3 2) (s, (ty : Int), ssE ty fl) with | some v => (v, 0) | none => (s, brkN s ty) := by
  have key : ∀ (a : Fin 5) (t : Fin 10) (b : Bool), recvT a.val t.val b = true := by decide +kernel
  obtain ⟨n, rfl⟩ : ∃ n : Nat, s = (n : Int) := ⟨s.toNat, by omega⟩
  have h := key ⟨n, by omega⟩ ⟨ty, by omega⟩ (fl % 2 == 1)
  unfold recvT at h
  simp only at h
  have hc : (n == 4 && ty == 8) = false := by
    cases e : (n == 4 && ty == 8) with
    | false => rfl
    | true => simp only [Bool.and_eq_true, beq_iff_eq] at e; omega
  rw [hc, if_neg (by decide)] at h
  have hb := beq_iff_eq.1 h
  rw [hRecv_mod, ← hb]
  unfold brkN
  simp only [Int.natCast_eq_zero]
  rfl

theorem mvU {x y : Int} (h : ((mvL x y).all fun p => (mvL x y).all fun q => !decide (p.1 = q.1) || decide (p.2 = q.2)) = true) : ∀ k v v', (k, v) ∈ mvL x y → (k, v') ∈ mvL x y → v = v' := fun k v v' h1 h2 => by
  have := List.all_eq_true.1 (List.all_eq_true.1 h _ h1) _ h2
  simpa using this
theorem mvU23 : ∀ k v v', (k, v) ∈ mvL 2 3 → (k, v') ∈ mvL 2 3 → v = v' := mvU (by decide +kernel)
theorem mvU32 : ∀ k v v', (k, v) ∈ mvL 3 2 → (k, v') ∈ mvL 3 2 → v = v' := mvU (by decide +kernel)
theorem mv_lk {b n : Nat} {l : List (Mk × Int)} {w : World} (h : MvW b n l w) {s S : Int} {E : Bool} (hok : mkOk (s, S, E)) {R : Option Int} (hR : lkM l (s, S, E) = R) :
    ∀ W, Below w.heap.size w W → (Instr.lookup 141 (.map (some b)) (mvV (s, S, E)) true).run Try.prog W = .ok (.tuple #[.int .i64 (R.getD 0), .bool R.isSome]) W := fun W hW => by
  have h := (h.keep hW h.lt).look (s, S, E) hok
  rw [hR] at h
  exact h
theorem fl_bit (fl : Nat) (h : fl < 256) : bits .and .u8 (fl : Int) 1 = ((fl % 2 : Nat) : Int) := by
  rw [show (1 : Int) = ((1 : Nat) : Int) from rfl, u8_and_nat _ _ h (by omega), Nat.and_one_is_mod]
theorem heap_last1 (w : World) (o1 o2 : Obj) : ((w.alloc o1).alloc o2).heap[w.heap.size + 1]? = some o2 := by
  have := heap_alloc_last (w.alloc o1) o2
  simpa using this
set_option maxRecDepth 100000 in
set_option maxHeartbeats 2000000 in
theorem moveOf_any (s : Int) (ty fl : Nat) (st : Int) (v : Value) (hty : ty < 256) (hfl : fl < 256) (w : World) (T F : Int) (hT : (ty : Int) = T) (hF : (fl : Int) = F) :
    Calls Try.prog 99 #[.int .i64 s, .agg #[.int .u8 T, .int .u8 F, .int .u32 st, v]] w fun e w' => e = .returned (mvV (s, T, ssE ty fl)) ∧ Below w.heap.size w w' := by
  have hb := fl_bit fl hfl
  rw [hF] at hb
  obtain ⟨r, hr⟩ : ∃ r : Int, ((fl % 2 : Nat) : Int) = r := ⟨_, rfl⟩
  rw [hr] at hb
  have hB0 := Bx.mk ((Below.refl w.heap.size w))
  have hE : ssE ty fl = ((T == 1 || T == 0) && (r != 0)) := by
    unfold ssE
    have e1 : (ty == 1) = (T == 1) := by rw [Bool.eq_iff_iff, beq_iff_eq, beq_iff_eq]; omega
    have e0 : (ty == 0) = (T == 0) := by rw [Bool.eq_iff_iff, beq_iff_eq, beq_iff_eq]; omega
    have e2 : (fl % 2 == 1) = (r != 0) := by rw [Bool.eq_iff_iff, beq_iff_eq, bne_iff_ne]; omega
    rw [e1, e0, e2]
  rw [hE]
  clear hE hT hF hr hty hfl
  obtain ⟨z1, hz1⟩ : ∃ z, (T == 1) = z := ⟨_, rfl⟩
  obtain ⟨z0, hz0⟩ : ∃ z, (T == 0) = z := ⟨_, rfl⟩
  obtain ⟨zr, hzr⟩ : ∃ z, (r != 0) = z := ⟨_, rfl⟩
  rw [hz1, hz0, hzr]
  have hsz : (Try.prog.info? 144).map (·.size) = some 3 := by kernel_rfl
  by_cases hc : z1 = true ∧ z0 = true
  · exfalso
    rw [hc.1] at hz1; rw [hc.2] at hz0
    rw [beq_iff_eq] at hz1 hz0
    omega
  cases z1 <;> cases z0 <;> cases zr
  all_goals first | (exact absurd ⟨rfl, rfl⟩ hc) | skip
  all_goals clear hc
  all_goals go_enter Try.func99, Try.ntmps99
  all_goals go_wp2
  all_goals exact bodyPost_ret (results_cell_row Try.results99 _ _ (w.heap.size + 1) 144 _ (0, 0) _ rfl (heap_last1 _ _ _) Try.underlying144 rfl hsz) rfl ⟨rfl, ((Below.refl _ _).alloc (Nat.le_refl _) _).alloc (by simp) _⟩
theorem broken_any (s : Int) (ty : Nat) (w : World) (T : Int) (hT : (ty : Int) = T) :
    Calls Try.prog 100 #[.int .i64 s, .int .u8 T] w fun e w' => e = .returned (.int .i64 (brkN s ty)) ∧ w' = w := by
  have hb : brkN s ty = if T = 4 ∨ T = 5 ∨ T = 6 ∨ T = 7 then 9 else if s = 0 then 6 else 5 := by
    unfold brkN
    have e : (T = 4 ∨ T = 5 ∨ T = 6 ∨ T = 7) ↔ (ty = 4 ∨ ty = 5 ∨ ty = 6 ∨ ty = 7) := by omega
    simp only [e]
  rw [hb]
  clear hb hT
  go_enter Try.func100, Try.ntmps100
  go_wp2
  all_goals go_ret
  all_goals refine ⟨?_, rfl⟩
  all_goals simp_all [Array.getD]
set_option maxRecDepth 100000 in
set_option maxHeartbeats 4000000 in
theorem ss_send (s : Int) (ty fl : Nat) (st : Int) (v : Value) (hty : ty < 256) (hfl : fl < 256) (hs : (Lit.int .i64 s).wf = true) (w : World) (S F : Int) (hS : (ty : Int) = S) (hF : (fl : Int) = F) : Calls Try.prog 62 #[.int .i64 s, .agg #[.int .u8 S, .int .u8 F, .int .u32 st, v]] w fun e w' => e = .returned (.tuple #[.int .i64 (hSend s ty fl).1, .int .i64 (hSend s ty fl).2]) ∧ Below w.heap.size w w' := by
  have hE := send_lk s ty fl
  have hok : mkOk (s, S, ssE ty fl) := ⟨hs, show (Lit.int .u8 S).wf = true from WalkArith.wf_u8 (by omega)⟩
  have HM := Bx.mk (fun W => moves_any 2 3 (by rfl) (by rfl) mvU23 W)
  have HO := Bx.mk (fun W => moveOf_any s ty fl st v hty hfl W S F hS hF)
  rw [hS] at hE
  obtain ⟨E, hEE⟩ : ∃ E, ssE ty fl = E := ⟨_, rfl⟩
  rw [hEE] at hE hok HO
  obtain ⟨R, hR⟩ : ∃ R, lkM (mvL 2 3) (s, S, E) = R := ⟨_, rfl⟩
  rw [hR] at hE
  have HOK := Bx.mk hok
  have HR := Bx.mk hR
  obtain ⟨p1, p2, hp⟩ : ∃ p1 p2, hSend s ty fl = (p1, p2) := ⟨_, _, rfl⟩
  rw [hp] at hE ⊢
  have HE := Bx.mk hE
  clear hEE hR hE hok hS hF hs hp
  have hB1 := Bx.mk ((Below.refl w.heap.size w).alloc (Nat.le_refl _) (.cells #[.int .u8 S, .int .u8 F, .int .u32 st, v] 28))
  have HX : Bx (∀ W, Below (w.heap.size + 1) (w.alloc (.cells #[.int .u8 S, .int .u8 F, .int .u32 st, v] 28)) W → W.cell? ⟨w.heap.size, 0, none⟩ = some (.int .u8 S) ∧ W.cell? ⟨w.heap.size, 1, none⟩ = some (.int .u8 F) ∧ W.cell? ⟨w.heap.size, 2, none⟩ = some (.int .u32 st) ∧ W.cell? ⟨w.heap.size, 3, none⟩ = some v) := ⟨fun W hW => by
    have hlt : w.heap.size < w.heap.size + 1 := by omega
    rw [hW.cell hlt, hW.cell hlt, hW.cell hlt, hW.cell hlt]
    exact ⟨by simp, by simp, by simp, by simp⟩⟩
  go_enter Try.func62, Try.ntmps62
  go_upto_region 1 with fail
  obtain ⟨w1, hw1⟩ : ∃ W, w.alloc (.cells #[.int .u8 S, .int .u8 F, .int .u32 st, v] 28) = W := ⟨_, rfl⟩
  obtain ⟨g, hg⟩ : ∃ g, w.heap.size = g := ⟨_, rfl⟩
  have hw1s : w1.heap.size = g + 1 := by rw [← hw1, ← hg]; simp
  rw [hw1] at hB1 HX ⊢
  rw [hg] at hB1 HX ⊢
  have hk0 : ∀ W, Below (g + 1) w1 W → W.cell? ⟨g, 0, none⟩ = some (.int .u8 S) := fun W h => (HX.out W h).1
  have hk1 : ∀ W, Below (g + 1) w1 W → W.cell? ⟨g, 1, none⟩ = some (.int .u8 F) := fun W h => (HX.out W h).2.1
  have hk2 : ∀ W, Below (g + 1) w1 W → W.cell? ⟨g, 2, none⟩ = some (.int .u32 st) := fun W h => (HX.out W h).2.2.1
  have hk3 : ∀ W, Below (g + 1) w1 W → W.cell? ⟨g, 3, none⟩ = some v := fun W h => (HX.out W h).2.2.2
  have hS0 : Below (g + 1) w1 w1.drew := by rw [← hw1s]; exact (Below.refl _ _).drew
  clear HX hw1
  go_region_held (fun W => Below (g + 1) w1 W) (first | assumption | exact hS0)
    (first
      | (go_at_call 98; refine (HM.out _).mono ?_; rintro e w2 ⟨b, hb, rfl, hm, hbl⟩; have hS2 : Below (g + 1) w1 w2 := hS0.trans (hbl.mono (show g + 1 ≤ w1.drew.heap.size from Nat.le_of_eq hw1s.symm)); have hlk := mv_lk hm HOK.out HR.out; clear hm hbl hb)
      | (go_at_call 99; refine (HO.out _).mono ?_; rintro e w3 ⟨rfl, hbl⟩; have hS3 : Below (g + 1) w1 w3 := hS2.trans (hbl.mono (hw1s ▸ hS2.size)); have hl3 := hlk w3 hbl; have hc3 := hk0 w3 hS3; clear hbl))
  have hE := HE.out
  clear HE hk0 hk1 hk2 hk3 hlk hl3
  cases R with
  | none =>
    simp only at hE
    obtain ⟨rfl, rfl⟩ := Prod.mk.inj hE
    clear hE
    go_wp2_with fail
    go_ret2
    exact ⟨rfl, by rw [hg]; exact hB1.out.trans (hS3.mono (Nat.le_succ g))⟩
  | some x =>
    simp only at hE
    obtain ⟨rfl, rfl⟩ := Prod.mk.inj hE
    clear hE
    go_wp2_with fail
    go_ret2
    exact ⟨rfl, by rw [hg]; exact hB1.out.trans (hS3.mono (Nat.le_succ g))⟩
set_option maxRecDepth 100000 in
set_option maxHeartbeats 8000000 in
theorem ss_recv (s : Int) (ty fl : Nat) (st : Int) (v : Value) (hty : ty < 256) (hfl : fl < 256) (hs : (Lit.int .i64 s).wf = true) (w : World) (S F : Int) (hS : (ty : Int) = S) (hF : (fl : Int) = F) : Calls Try.prog 63 #[.int .i64 s, .agg #[.int .u8 S, .int .u8 F, .int .u32 st, v]] w fun e w' => e = .returned (.tuple #[.int .i64 (hRecv s ty fl).1, .int .i64 (hRecv s ty fl).2]) ∧ Below w.heap.size w w' := by
  have hB1 := Bx.mk ((Below.refl w.heap.size w).alloc (Nat.le_refl _) (.cells #[.int .u8 S, .int .u8 F, .int .u32 st, v] 28))
  have HX : Bx (∀ W, Below (w.heap.size + 1) (w.alloc (.cells #[.int .u8 S, .int .u8 F, .int .u32 st, v] 28)) W → W.cell? ⟨w.heap.size, 0, none⟩ = some (.int .u8 S) ∧ W.cell? ⟨w.heap.size, 1, none⟩ = some (.int .u8 F) ∧ W.cell? ⟨w.heap.size, 2, none⟩ = some (.int .u32 st) ∧ W.cell? ⟨w.heap.size, 3, none⟩ = some v) := ⟨fun W hW => by
    have hlt : w.heap.size < w.heap.size + 1 := by omega
    rw [hW.cell hlt, hW.cell hlt, hW.cell hlt, hW.cell hlt]
    exact ⟨by simp, by simp, by simp, by simp⟩⟩
  by_cases h1 : s < 0
  · have e : hRecv s ty fl = (s, 9) := by unfold hRecv; rw [if_pos (by omega)]
    rw [e]
    have hd : decide (s < 0) = true := decide_eq_true h1
    clear h1 e hs hS hF HX
    go_enter Try.func63, Try.ntmps63
    go_wp2_with fail
    go_ret2
    exact ⟨rfl, hB1.out⟩
  have hd : decide (s < 0) = false := decide_eq_false h1
  by_cases h2 : 4 < s
  · have e : hRecv s ty fl = (s, 9) := by unfold hRecv; rw [if_pos (by omega)]
    rw [e]
    have hd2 : decide (4 < s) = true := decide_eq_true h2
    clear h1 h2 e hs hS hF HX
    go_enter Try.func63, Try.ntmps63
    go_wp2_with fail
    go_ret2
    exact ⟨rfl, hB1.out⟩
  have hd2 : decide (4 < s) = false := decide_eq_false h2
  by_cases h3 : 9 < ty
  · have e : hRecv s ty fl = (s, 0) := by unfold hRecv; rw [if_neg (by omega), if_neg (by omega), if_neg (by omega), if_neg (by omega), if_neg (by omega), if_pos h3]
    rw [e]
    have hd3 : decide (9 < S) = true := decide_eq_true (by omega)
    clear h1 h2 h3 e hs hS hF HX
    go_enter Try.func63, Try.ntmps63
    go_wp2_with fail
    go_ret2
    exact ⟨rfl, hB1.out⟩
  have hd3 : decide (9 < S) = false := decide_eq_false (by omega)
  by_cases h4 : s = 4 ∧ ty = 8
  · have e : hRecv s ty fl = (s, 0) := by unfold hRecv; rw [if_neg (by omega), if_neg (by omega), if_neg (by omega), if_neg (by omega), if_pos (by omega), if_neg (by omega)]
    rw [e]
    have hd4 : (s == 4) = true := by rw [beq_iff_eq]; omega
    have hd5 : (S == 8) = true := by rw [beq_iff_eq]; omega
    clear h1 h2 h3 h4 e hs hS hF HX
    go_enter Try.func63, Try.ntmps63
    go_wp2_with fail
    go_ret2
    exact ⟨rfl, hB1.out⟩
  have hE := recv_lk s ty fl (by omega) (by omega) (by omega) h4
  have HBR := Bx.mk (fun W => broken_any s ty W S hS)
  obtain ⟨z4, hz4⟩ : ∃ z, (s == 4) = z := ⟨_, rfl⟩
  obtain ⟨z8, hz8⟩ : ∃ z, (S == 8) = z := ⟨_, rfl⟩
  have hzz : z4 = false ∨ z8 = false := by
    cases z4 with
    | false => exact .inl rfl
    | true =>
      cases z8 with
      | false => exact .inr rfl
      | true =>
        rw [beq_iff_eq] at hz4 hz8
        omega
  have hok : mkOk (s, S, ssE ty fl) := ⟨hs, show (Lit.int .u8 S).wf = true from WalkArith.wf_u8 (by omega)⟩
  have HM := Bx.mk (fun W => moves_any 3 2 (by rfl) (by rfl) mvU32 W)
  have HO := Bx.mk (fun W => moveOf_any s ty fl st v hty hfl W S F hS hF)
  rw [hS] at hE
  obtain ⟨E, hEE⟩ : ∃ E, ssE ty fl = E := ⟨_, rfl⟩
  rw [hEE] at hE hok HO
  obtain ⟨R, hR⟩ : ∃ R, lkM (mvL 3 2) (s, S, E) = R := ⟨_, rfl⟩
  rw [hR] at hE
  have HOK := Bx.mk hok
  have HR := Bx.mk hR
  obtain ⟨p1, p2, hp⟩ : ∃ p1 p2, hRecv s ty fl = (p1, p2) := ⟨_, _, rfl⟩
  rw [hp] at hE ⊢
  obtain ⟨bk, hbk⟩ : ∃ bk, brkN s ty = bk := ⟨_, rfl⟩
  rw [hbk] at hE HBR
  have HE := Bx.mk hE
  clear hEE hR hE hok hS hF hs hp hbk h1 h2 h3 h4
  have fin : ∀ z4 z8 : Bool, (z4 = false ∨ z8 = false) → (s == 4) = z4 → (S == 8) = z8 → Calls Try.prog 63 #[.int .i64 s, .agg #[.int .u8 S, .int .u8 F, .int .u32 st, v]] w fun e w' => e = .returned (.tuple #[.int .i64 p1, .int .i64 p2]) ∧ Below w.heap.size w w' := by
    clear hz4 hz8 hzz
    intro z4 z8 hzz hz4 hz8
    rcases hzz with rfl | rfl
    · go_enter Try.func63, Try.ntmps63
      go_upto_region 7 with fail
      obtain ⟨w1, hw1⟩ : ∃ W, w.alloc (.cells #[.int .u8 S, .int .u8 F, .int .u32 st, v] 28) = W := ⟨_, rfl⟩
      obtain ⟨g, hg⟩ : ∃ g, w.heap.size = g := ⟨_, rfl⟩
      have hw1s : w1.heap.size = g + 1 := by rw [← hw1, ← hg]; simp
      rw [hw1] at hB1 HX ⊢
      rw [hg] at hB1 HX ⊢
      have hk0 : ∀ W, Below (g + 1) w1 W → W.cell? ⟨g, 0, none⟩ = some (.int .u8 S) := fun W h => (HX.out W h).1
      have hk1 : ∀ W, Below (g + 1) w1 W → W.cell? ⟨g, 1, none⟩ = some (.int .u8 F) := fun W h => (HX.out W h).2.1
      have hk2 : ∀ W, Below (g + 1) w1 W → W.cell? ⟨g, 2, none⟩ = some (.int .u32 st) := fun W h => (HX.out W h).2.2.1
      have hk3 : ∀ W, Below (g + 1) w1 W → W.cell? ⟨g, 3, none⟩ = some v := fun W h => (HX.out W h).2.2.2
      have hS0 : Below (g + 1) w1 w1.drew := by rw [← hw1s]; exact (Below.refl _ _).drew
      clear HX hw1
      go_region_held (fun W => Below (g + 1) w1 W) (first | assumption | exact hS0)
        (first
          | (go_at_call 98; refine (HM.out _).mono ?_; rintro e w2 ⟨b, hb, rfl, hm, hbl⟩; have hS2 : Below (g + 1) w1 w2 := hS0.trans (hbl.mono (show g + 1 ≤ w1.drew.heap.size from Nat.le_of_eq hw1s.symm)); have hlk := mv_lk hm HOK.out HR.out; clear hm hbl hb)
          | (go_at_call 99; refine (HO.out _).mono ?_; rintro e w3 ⟨rfl, hbl⟩; have hS3 : Below (g + 1) w1 w3 := hS2.trans (hbl.mono (hw1s ▸ hS2.size)); have hl3 := hlk w3 hbl; have hc3 := hk0 w3 hS3; clear hbl))
      have hE := HE.out
      clear HE hk0 hk1 hk2 hk3 hlk hl3
      cases R with
      | none =>
        simp only at hE
        obtain ⟨rfl, rfl⟩ := Prod.mk.inj hE
        clear hE
        go_wp2_with (go_at_call 100; refine (HBR.out _).mono ?_; rintro e w4 ⟨rfl, rfl⟩)
        go_ret2
        exact ⟨rfl, by rw [hg]; exact hB1.out.trans (hS3.mono (Nat.le_succ g))⟩
      | some x =>
        simp only at hE
        obtain ⟨rfl, rfl⟩ := Prod.mk.inj hE
        clear hE
        go_wp2_with fail
        go_ret2
        exact ⟨rfl, by rw [hg]; exact hB1.out.trans (hS3.mono (Nat.le_succ g))⟩
    · cases z4
      · go_enter Try.func63, Try.ntmps63
        go_upto_region 7 with fail
        obtain ⟨w1, hw1⟩ : ∃ W, w.alloc (.cells #[.int .u8 S, .int .u8 F, .int .u32 st, v] 28) = W := ⟨_, rfl⟩
        obtain ⟨g, hg⟩ : ∃ g, w.heap.size = g := ⟨_, rfl⟩
        have hw1s : w1.heap.size = g + 1 := by rw [← hw1, ← hg]; simp
        rw [hw1] at hB1 HX ⊢
        rw [hg] at hB1 HX ⊢
        have hk0 : ∀ W, Below (g + 1) w1 W → W.cell? ⟨g, 0, none⟩ = some (.int .u8 S) := fun W h => (HX.out W h).1
        have hk1 : ∀ W, Below (g + 1) w1 W → W.cell? ⟨g, 1, none⟩ = some (.int .u8 F) := fun W h => (HX.out W h).2.1
        have hk2 : ∀ W, Below (g + 1) w1 W → W.cell? ⟨g, 2, none⟩ = some (.int .u32 st) := fun W h => (HX.out W h).2.2.1
        have hk3 : ∀ W, Below (g + 1) w1 W → W.cell? ⟨g, 3, none⟩ = some v := fun W h => (HX.out W h).2.2.2
        have hS0 : Below (g + 1) w1 w1.drew := by rw [← hw1s]; exact (Below.refl _ _).drew
        clear HX hw1
        go_region_held (fun W => Below (g + 1) w1 W) (first | assumption | exact hS0)
          (first
            | (go_at_call 98; refine (HM.out _).mono ?_; rintro e w2 ⟨b, hb, rfl, hm, hbl⟩; have hS2 : Below (g + 1) w1 w2 := hS0.trans (hbl.mono (show g + 1 ≤ w1.drew.heap.size from Nat.le_of_eq hw1s.symm)); have hlk := mv_lk hm HOK.out HR.out; clear hm hbl hb)
            | (go_at_call 99; refine (HO.out _).mono ?_; rintro e w3 ⟨rfl, hbl⟩; have hS3 : Below (g + 1) w1 w3 := hS2.trans (hbl.mono (hw1s ▸ hS2.size)); have hl3 := hlk w3 hbl; have hc3 := hk0 w3 hS3; clear hbl))
        have hE := HE.out
        clear HE hk0 hk1 hk2 hk3 hlk hl3
        cases R with
        | none =>
          simp only at hE
          obtain ⟨rfl, rfl⟩ := Prod.mk.inj hE
          clear hE
          go_wp2_with (go_at_call 100; refine (HBR.out _).mono ?_; rintro e w4 ⟨rfl, rfl⟩)
          go_ret2
          exact ⟨rfl, by rw [hg]; exact hB1.out.trans (hS3.mono (Nat.le_succ g))⟩
        | some x =>
          simp only at hE
          obtain ⟨rfl, rfl⟩ := Prod.mk.inj hE
          clear hE
          go_wp2_with fail
          go_ret2
          exact ⟨rfl, by rw [hg]; exact hB1.out.trans (hS3.mono (Nat.le_succ g))⟩
      · go_enter Try.func63, Try.ntmps63
        go_upto_region 7 with fail
        obtain ⟨w1, hw1⟩ : ∃ W, w.alloc (.cells #[.int .u8 S, .int .u8 F, .int .u32 st, v] 28) = W := ⟨_, rfl⟩
        obtain ⟨g, hg⟩ : ∃ g, w.heap.size = g := ⟨_, rfl⟩
        have hw1s : w1.heap.size = g + 1 := by rw [← hw1, ← hg]; simp
        rw [hw1] at hB1 HX ⊢
        rw [hg] at hB1 HX ⊢
        have hk0 : ∀ W, Below (g + 1) w1 W → W.cell? ⟨g, 0, none⟩ = some (.int .u8 S) := fun W h => (HX.out W h).1
        have hk1 : ∀ W, Below (g + 1) w1 W → W.cell? ⟨g, 1, none⟩ = some (.int .u8 F) := fun W h => (HX.out W h).2.1
        have hk2 : ∀ W, Below (g + 1) w1 W → W.cell? ⟨g, 2, none⟩ = some (.int .u32 st) := fun W h => (HX.out W h).2.2.1
        have hk3 : ∀ W, Below (g + 1) w1 W → W.cell? ⟨g, 3, none⟩ = some v := fun W h => (HX.out W h).2.2.2
        have hS0 : Below (g + 1) w1 w1.drew := by rw [← hw1s]; exact (Below.refl _ _).drew
        clear HX hw1
        go_region_held (fun W => Below (g + 1) w1 W) (first | assumption | exact hS0)
          (first
            | (go_at_call 98; refine (HM.out _).mono ?_; rintro e w2 ⟨b, hb, rfl, hm, hbl⟩; have hS2 : Below (g + 1) w1 w2 := hS0.trans (hbl.mono (show g + 1 ≤ w1.drew.heap.size from Nat.le_of_eq hw1s.symm)); have hlk := mv_lk hm HOK.out HR.out; clear hm hbl hb)
            | (go_at_call 99; refine (HO.out _).mono ?_; rintro e w3 ⟨rfl, hbl⟩; have hS3 : Below (g + 1) w1 w3 := hS2.trans (hbl.mono (hw1s ▸ hS2.size)); have hl3 := hlk w3 hbl; have hc3 := hk0 w3 hS3; clear hbl))
        have hE := HE.out
        clear HE hk0 hk1 hk2 hk3 hlk hl3
        cases R with
        | none =>
          simp only at hE
          obtain ⟨rfl, rfl⟩ := Prod.mk.inj hE
          clear hE
          go_wp2_with (go_at_call 100; refine (HBR.out _).mono ?_; rintro e w4 ⟨rfl, rfl⟩)
          go_ret2
          exact ⟨rfl, by rw [hg]; exact hB1.out.trans (hS3.mono (Nat.le_succ g))⟩
        | some x =>
          simp only at hE
          obtain ⟨rfl, rfl⟩ := Prod.mk.inj hE
          clear hE
          go_wp2_with fail
          go_ret2
          exact ⟨rfl, by rw [hg]; exact hB1.out.trans (hS3.mono (Nat.le_succ g))⟩
  exact fin _ _ hzz hz4 hz8
end Go.Proofs.Ytenoaljghbpaaaa
