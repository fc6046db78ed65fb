/-
  Packets: the program's copied, pnLen, readId (written by mkqkd.py).
-/
import Derived.Test.YtcakppdabolfiaaSliceM
import Derived.Test.YtcakppdabolfiaaSbS
import Derived.Test.YtcakppdabolfiaaApZ
import Derived.Test.YtcakppdabolfiaaNumD
import Derived.BigQuiet
import Derived.Deep.RegionWith
import Derived.Test.YtcakppdabolfiaaQkC
namespace Go.Proofs.Ytcakppdabolfiaa
open Go.RowKit
set_option linter.unusedVariables false
set_option linter.unusedSimpArgs false

theorem OwB.grownQ {w w' : World} {B g : Nat} {v : Value} {l : List UInt8} (h : OwB w B v l) (hg : w.grownBy w' (some g)) (hne : g < B) : OwB w' B v l :=
  h.kept fun k hk => hg.block k (h.lt hk) (fun e => by injection e with e; have := h.ge hk; omega)
set_option maxHeartbeats 1000000 in
theorem qCopied_any (v : Value) (l : List UInt8) (w : World) (hv : Bs w v l) (hl : l.length ≤ 1000000) :
    Calls Try.prog 58 #[v] w fun e w' => ∃ A n cc, e = .returned (.slice A n cc) ∧ OwB w' w.heap.size (.slice A n cc) l ∧ Below w.heap.size w w' := by
  have HV := Bx.mk hv
  have HL := Bx.mk hl
  clear hv hl
  go_enter Try.func58, Try.ntmps58
  go_wp2_with (first
    | (at_builtin
       obtain ⟨v8, w8, hr8, o8, g8⟩ := run_bytes_own w 36 w.heap.size (.slice none 0 0) v [] l (OwB.nil _ _) HV.out (by simp) HL.out (Nat.le_refl _)
       obtain ⟨A8, n8, c8, rfl, _⟩ := Bs.open_ o8.bs
       refine Lib.wpList_append_run _ rfl _ _ _ _ rfl _ _ rfl rfl _ _ hr8 ?_
       have HO8 := Bx.mk o8
       have HB8 := Bx.mk ((Below.refl w.heap.size w).grown g8 (Nat.le_refl _) (fun j hj => by simp [Value.ownBlock] at hj))
       clear hr8 o8 g8))
  go_ret
  exact ⟨A8, n8, c8, rfl, HO8.out, HB8.out⟩
theorem qPnLen_any (c : Nat) (hc : c < 256) (w : World) :
    Calls Try.prog 108 #[.int .u8 (c : Int)] w fun e w' => e = .returned (.int .i64 ((c % 4 + 1 : Nat) : Int)) ∧ w' = w := by
  obtain ⟨r, hr⟩ : ∃ r, c % 4 = r := ⟨_, rfl⟩
  have hr4 : r < 256 := by omega
  have t1 : ((c : Int)).tmod 4 = (r : Int) := by rw [← hr]; rfl
  have t2 : (c : Int) % 4 = (r : Int) := by omega
  obtain ⟨s, hs⟩ : ∃ s, r + 1 = s := ⟨_, rfl⟩
  have s0 : (r : Int) + 1 = (s : Int) := by omega
  have hs9 : s < 100000 := by omega
  rw [hr, hs]
  have c1 : IntKind.i64.wrap (c : Int) = (c : Int) := i64s c (Nat.lt_trans hc (by decide))
  have s1 : wrap64 (s : Int) = (s : Int) := w64s s hs9
  clear hr hr4 hs hs9 hc
  go_enter Try.func108, Try.ntmps108
  go_wp2_with fail
  go_ret
  exact ⟨rfl, rfl⟩
set_option maxRecDepth 100000 in
set_option maxHeartbeats 4000000 in
theorem qId_any (v : Value) (c : UInt8) (t : List UInt8) (w : World) (hv : Bs w v (c :: t)) (h20 : c.toNat ≤ 20) (hle : c.toNat ≤ t.length) (hl : t.length ≤ 500000) :
    Calls Try.prog 107 #[v] w fun e w' => ∃ A n cc r, e = .returned (.tuple #[.slice A n cc, r]) ∧ OwB w' w.heap.size (.slice A n cc) (t.take c.toNat) ∧ Bs w r (t.drop c.toNat) ∧ Below w.heap.size w w' := by
  obtain ⟨x, hx⟩ : ∃ x, c.toNat = x := ⟨_, rfl⟩
  rw [hx] at h20 hle ⊢
  obtain ⟨v1, r1, k1⟩ := hv.mid 1 ((1 + x : Nat) : Int) (by omega) (by omega) (by simp; omega)
  obtain ⟨v2, r2, k2⟩ := hv.from_ ((1 + x : Nat) : Int) (by omega) (by simp; omega)
  have K1 : Bx (∀ W, Bs W v (c :: t) → Bs W v1 (t.take x)) := ⟨fun W h => by
    have := k1 W h
    rw [Int.toNat_natCast, show (1 : Int).toNat = 1 from rfl, Nat.add_comm 1 x, List.take_succ_cons, List.drop_succ_cons, List.drop_zero] at this
    exact this⟩
  have K2 : Bx (Bs w v2 (t.drop x)) := ⟨by
    have := k2 w hv
    rw [Int.toNat_natCast, Nat.add_comm 1 x, List.drop_succ_cons] at this
    exact this⟩
  have HV := Bx.mk hv
  obtain ⟨b, o, L, cc, rfl, hL, h1, h2, h3, h4⟩ := hv.cell0
  rw [hx] at h4
  obtain ⟨e, he⟩ : ∃ e, 1 + x = e := ⟨_, rfl⟩
  rw [he] at r1 r2
  have hxL : x < L := by have := hL.out; omega
  have e0 : 1 + (x : Int) = (e : Int) := by omega
  have f1 : decide (20 < (x : Int)) = false := decide_eq_false (by omega)
  have f1n : decide (20 < x) = false := decide_eq_false (by omega)
  have f2 : decide ((L : Int) ≤ (x : Int)) = false := decide_eq_false (by omega)
  have f2n : decide (L ≤ x) = false := decide_eq_false (by omega)
  have f0 : ((L : Int) == 0) = false := by rw [beq_eq_false_iff_ne]; omega
  have f0n : ¬ (L : Int) = 0 := by omega
  have HTL : Bx ((t.take x).length ≤ 1000000) := ⟨by rw [List.length_take]; omega⟩
  have hx9 : x < 100000 := by omega
  have he9 : e < 100000 := by omega
  have x1 : IntKind.i64.wrap (x : Int) = (x : Int) := i64s x hx9
  have e1 : wrap64 (e : Int) = (e : Int) := w64s e he9
  have HCo := Bx.mk (fun W (h : Bs W v1 (t.take x)) => qCopied_any v1 (t.take x) W h HTL.out)
  clear hL hx hle hl he h20 k1 k2 hxL hx9 he9
  go_enter Try.func107, Try.ntmps107
  go_upto_region 4 with fail

  refine wp_region_x 7 (fun W => Below w.heap.size w.drew W) (by kernel_rfl) (Below.refl _ _) (fun hHeld => ?_)
  refine wpAnyX_take0 (i := 0) (oi := ⟨some 28, Op.move (Operand.tmp 0), 36, _, _, none⟩) (v := ?v0i) rfl (by omega) (by kernel_rfl) (by kernel_rfl) (by kernel_rfl) (fun _ _ _ h => h) (Or.inl ⟨by rfl, ?y0i⟩) (by assumption) ?r0i
  case y0i =>
    intro W hSw
    try dsimp only at hSw
    go_simp
    try with_reducible rfl
  case r0i =>
  try simp only [Act.put, List.setIfInBounds_toArray, List.set_cons_zero, List.set_cons_succ]
  refine wpAnyX_take0 (i := 1) (oi := ⟨some 29, Op.move (Operand.tmp 4), 3, _, _, none⟩) (v := ?v1i) rfl (by omega) (by kernel_rfl) (by kernel_rfl) (by kernel_rfl) (fun _ _ _ h => h) (Or.inl ⟨by rfl, ?y1i⟩) (by assumption) ?r1i
  case y1i =>
    intro W hSw
    try dsimp only at hSw
    go_simp
    try with_reducible rfl
  case r1i =>
  try simp only [Act.put, List.setIfInBounds_toArray, List.set_cons_zero, List.set_cons_succ]
  refine wpAnyX_take0 (i := 2) (oi := ⟨some 30, Op.slice 36 (Operand.tmp 28) (some (Operand.const (Value.int IntKind.i64 1))) (some (Operand.tmp 29)) none, 36, _, _, none⟩) (v := ?v2i) rfl (by omega) (by kernel_rfl) (by kernel_rfl) (by kernel_rfl) (fun _ _ _ h => h) (Or.inl ⟨by rfl, ?y2i⟩) (by assumption) ?r2i
  case y2i =>
    intro W hSw
    try dsimp only at hSw
    go_simp
    try with_reducible rfl
  case r2i =>
  try simp only [Act.put, List.setIfInBounds_toArray, List.set_cons_zero, List.set_cons_succ]
  refine wpAnyX_take0 (i := 4) (oi := ⟨some 32, Op.move (Operand.tmp 0), 36, _, _, none⟩) (v := ?v4i) rfl (by omega) (by kernel_rfl) (by kernel_rfl) (by kernel_rfl) (fun _ _ _ h => h) (Or.inl ⟨by rfl, ?y4i⟩) (by assumption) ?r4i
  case y4i =>
    intro W hSw
    try dsimp only at hSw
    go_simp
    try with_reducible rfl
  case r4i =>
  try simp only [Act.put, List.setIfInBounds_toArray, List.set_cons_zero, List.set_cons_succ]
  refine wpAnyX_take0 (i := 5) (oi := ⟨some 33, Op.move (Operand.tmp 4), 3, _, _, none⟩) (v := ?v5i) rfl (by omega) (by kernel_rfl) (by kernel_rfl) (by kernel_rfl) (fun _ _ _ h => h) (Or.inl ⟨by rfl, ?y5i⟩) (by assumption) ?r5i
  case y5i =>
    intro W hSw
    try dsimp only at hSw
    go_simp
    try with_reducible rfl
  case r5i =>
  try simp only [Act.put, List.setIfInBounds_toArray, List.set_cons_zero, List.set_cons_succ]
  refine wpAnyX_take0 (i := 6) (oi := ⟨some 34, Op.slice 36 (Operand.tmp 32) (some (Operand.tmp 33)) none none, 36, _, _, none⟩) (v := ?v6i) rfl (by omega) (by kernel_rfl) (by kernel_rfl) (by kernel_rfl) (fun _ _ _ h => h) (Or.inl ⟨by rfl, ?y6i⟩) (by assumption) ?r6i
  case y6i =>
    intro W hSw
    try dsimp only at hSw
    go_simp
    try with_reducible rfl
  case r6i =>
  try simp only [Act.put, List.setIfInBounds_toArray, List.set_cons_zero, List.set_cons_succ]
  refine wpAnyX_one (i := 3) (by kernel_rfl) rfl (fun K hK => ?_)
  go_simp
  go_at_call 58
  refine (HCo.out _ (K1.out _ (HV.out.keep ((Below.refl _ _).drew.trans hHeld)))).mono ?_
  rintro e w3 ⟨A3, n3, cc3, rfl, h3, b3⟩
  have hS3 : Below w.heap.size w.drew w3 := hHeld.trans (b3.mono hHeld.size)
  have HD3 : Bx (OwB w3 w.heap.size (.slice A3 n3 cc3) (t.take x)) := ⟨h3.mono hHeld.size⟩
  have HB3 : Bx (Below w.heap.size w w3) := ⟨(Below.refl _ _).drew.trans hS3⟩
  clear h3 b3
  refine hK _ _ (fun _ => hS3) ?_
  clear hK K
  try simp only [Act.put, List.setIfInBounds_toArray, List.set_cons_zero, List.set_cons_succ]
  refine wpAnyX_one (i := 7) (by kernel_rfl) rfl (fun K hK => ?_)
  go_simp
  refine hK _ _ (fun h => absurd h (by decide)) ?_
  clear hK K
  try simp only [Act.put, List.setIfInBounds_toArray, List.set_cons_zero, List.set_cons_succ]
  refine wpAnyX_one (i := 8) (by kernel_rfl) rfl (fun K hK => ?_)
  go_simp
  refine hK _ _ (fun h => absurd h (by decide)) ?_
  clear hK K
  try simp only [Act.put, List.setIfInBounds_toArray, List.set_cons_zero, List.set_cons_succ]
  refine wpAnyX_done (by kernel_rfl) ?_ _
  go_wp2_with fail
  go_ret2
  exact ⟨A3, n3, cc3, v2, rfl, HD3.out, K2.out, HB3.out⟩
end Go.Proofs.Ytcakppdabolfiaa
