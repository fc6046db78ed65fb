/-
  Texts put together: QpO, QpQ, QpR, QpD, QpU, QpV.
-/
import Derived.Test.YtebakjdeighdnaaM07
import Derived.Test.YtebakjdeighdnaaM08
import Derived.Test.YtebakjdeighdnaaM03
import Derived.Shelf.Spec.SlicesGrow
import Derived.Handy
import Derived.Test.YtebakjdeighdnaaM11
import Derived.Test.YtebakjdeighdnaaM10
import Derived.Deep.RegionHeld
import Derived.ArgAppend

/-
  Contracts of slices.Grow, slices.Concat, slices.Clone at bytes.
-/
namespace Go.Proofs.Ytebakjdeighdnaa
open Go.RowKit
set_option linter.unusedVariables false

def grRen : Go.Shelf.Ren := ⟨fun | 4 => 34 | n => n, fun | 0 => 0 | 3 => 3 | 4 => 4 | 9 => 9 | 20 => 20 | 22 => 28 | 25 => 5 | n => n, fun n => n⟩
set_option maxRecDepth 100000 in
theorem grLay : Lays8.n4 Try.prog grRen where
  mixed := by kernel_rfl
  f4 := ⟨(Try.f34).name, by kernel_rfl, Try.func34.trans (congrArg some (by kernel_rfl))⟩
  t0 := Try.underlying0
  a0 := Try.isAgg0
  z0 := Try.sizeOf0
  v0 := Try.zeroValue0
  t3 := Try.underlying3
  a3 := Try.isAgg3
  z3 := Try.sizeOf3
  v3 := Try.zeroValue3
  t4 := Try.underlying4
  a4 := Try.isAgg4
  z4 := Try.sizeOf4
  v4 := Try.zeroValue4
  t9 := Try.underlying9
  a9 := Try.isAgg9
  z9 := Try.sizeOf9
  v9 := Try.zeroValue9
  t20 := Try.underlying20
  a20 := Try.isAgg20
  z20 := Try.sizeOf20
  v20 := Try.zeroValue20
  t22 := Try.underlying28
  a22 := Try.isAgg28
  z22 := Try.sizeOf28
  v22 := Try.zeroValue28

theorem grow_any (n : Nat) (w : World) (hn : n ≤ 1000000) :
    Calls Try.prog 34 #[.slice none 0 0, .int .i64 (n : Int)] w fun e w' => ∃ v', e = .returned v' ∧ OwB w' w.heap.size v' [] ∧ Below w.heap.size w w' := by
  by_cases h0 : n = 0
  · subst h0
    refine (Any8.slices_Grow_room grLay none 0 0 0 w (by omega) (by omega) (by omega) (by omega)).mono ?_
    rintro e w' ⟨rfl, rfl⟩
    exact ⟨_, rfl, OwB.nil _ _, Below.refl _ _⟩
  · obtain ⟨i0, hi, hz, hz1, hz2⟩ := info_parts infoU8
    refine (Any8.slices_Grow_grow grLay i0 (.int .u8 0) hi hz (by omega) none 0 0 n [] w (by omega) (by omega) (by rw [hz2]; omega) (by omega) (by simp) (fun _ => rfl) (fun a ha => by cases ha)).mono ?_
    rintro e w' ⟨rfl, rfl⟩
    have hG : 0 + n ≤ grownCap w (0 + n) 0 5 := grownCap_ge w _ _ _
    have hGm : grownCap w (0 + n) 0 5 ≤ maxLen := grownCap_le_maxLen w (0 + n) 0 5 (by unfold maxLen; omega)
    refine ⟨_, rfl, ⟨rfl, .inr ⟨w.heap.size, _, _, rfl, Nat.le_refl _, heap_alloc_last w.drew _, Nat.zero_le _, hGm, ?_, rfl⟩⟩, (Below.refl w.heap.size w).drew.alloc (Nat.le_refl w.heap.size) _⟩
    show (#[] ++ Builtin.zeroCells (Value.int .u8 0).cells (0 + n - 0) ++ Builtin.zeroCells (Value.int .u8 0).cells (grownCap w (0 + n) 0 5 - (0 + n))).size = _
    have hzc : ∀ k, (Builtin.zeroCells (Value.int .u8 0).cells k).size = k := fun k => by simp [Builtin.zeroCells, Value.cells]
    rw [Array.size_append, Array.size_append, hzc, hzc]
    show 0 + (0 + n - 0) + (grownCap w (0 + n) 0 5 - (0 + n)) = grownCap w (0 + n) 0 5 * 1
    omega

/-- Two slices of bytes side by side. -/
def Cc (W : World) (g : Nat) (v1 v2 : Value) : Prop := W.heap[g]? = some (.cells #[v1, v2] 28 (0, 0))
theorem Cc.lt {w : World} {g : Nat} {v1 v2 : Value} (h : Cc w g v1 v2) : g < w.heap.size := (Array.getElem?_eq_some_iff.1 h).1
theorem Cc.keep {w w' : World} {g : Nat} {v1 v2 : Value} (h : Cc w g v1 v2) (hb : Below w.heap.size w w') : Cc w' g v1 v2 := (hb.block g h.lt).trans h
theorem Cc.cells {w : World} {g : Nat} {v1 v2 : Value} (h : Cc w g v1 v2) : w.cell? ⟨g, 0, none⟩ = some v1 ∧ w.cell? ⟨g, 1, none⟩ = some v2 := by
  unfold Cc at h
  refine ⟨?_, ?_⟩ <;> simp [World.cell?, h]
set_option maxRecDepth 100000 in
set_option maxHeartbeats 2000000 in
theorem concat_any {w : World} {g : Nat} {v1 v2 : Value} {l1 l2 : List UInt8} (hc : Cc w g v1 v2) (h1 : Bs w v1 l1) (h2 : Bs w v2 l2) (hl1 : l1.length ≤ 300000) (hl2 : l2.length ≤ 300000) :
    Calls Try.prog 17 #[.slice (some ⟨g, 0, none⟩) 2 2] w fun e w' => ∃ v', e = .returned v' ∧ OwB w' w.heap.size v' (l1 ++ l2) ∧ Below w.heap.size w w' := by
  obtain ⟨A1, n1, cc1, rfl, hn1, _, _, _, _⟩ := h1.open_
  obtain ⟨A2, n2, cc2, rfl, hn2, _, _, _, _⟩ := h2.open_
  have e1 : n1 = l1.length := hn1.out
  have e2 : n2 = l2.length := hn2.out
  clear hn1 hn2
  obtain ⟨c0, c1⟩ := hc.cells
  have hw1 : wrap64 (n1 : Int) = (n1 : Int) := by unfold wrap64; omega
  have hw2 : wrap64 ((n1 : Int) + (n2 : Int)) = ((n1 + n2 : Nat) : Int) := by unfold wrap64; omega
  have hd1 : decide ((n1 : Int) < 0) = false := decide_eq_false (by omega)
  obtain ⟨n, hn⟩ : ∃ n, n1 + n2 = n := ⟨_, rfl⟩
  rw [hn] at hw2
  have hd2 : decide ((n : Int) < 0) = false := decide_eq_false (by omega)
  have HGR := Bx.mk (grow_any n w (by omega))
  have HC := Bx.mk hc
  have H1 := Bx.mk (fun (W : World) (hW : Below w.heap.size w W) => (Rd.keep h1 hW : Bs W _ l1))
  have H2 := Bx.mk (fun (W : World) (hW : Below w.heap.size w W) => (Rd.keep h2 hW : Bs W _ l2))
  have HL : Bx (l1.length ≤ 300000 ∧ l2.length ≤ 300000) := ⟨hl1, hl2⟩
  obtain ⟨i0, hi, hz, hz1, hz2⟩ := info_parts infoU8
  have HI : Bx (Try.prog.info? 5 = some i0 ∧ i0.zero = some (.int .u8 0) ∧ i0.size = 1 ∧ i0.bytes = 1) := ⟨hi, hz, hz1, hz2⟩
  clear hc h1 h2 hl1 hl2 e1 e2 hn hi hz hz1 hz2
  go_enter Try.func17, Try.ntmps17
  go_wp2_with fail
  go_loopg [3, 11] 2 (fun gk s3 s11 wx => ∃ k : Nat, k + gk = 2 ∧ s11 = .int .i64 k ∧ s3 = .int .i64 ((if k = 0 then 0 else if k = 1 then n1 else n : Nat) : Int) ∧ Bx (w = wx))
  case atStart => exact ⟨0, rfl, rfl, rfl, ⟨rfl⟩⟩
  case round =>
    obtain ⟨k, hkn, rfl, rfl, HW⟩ := hrel
    obtain rfl := HW.out
    match gk, hkn with
    | 2, hkn =>
      obtain rfl : k = 0 := by omega
      simp only [if_true]
      go_wp2_with fail
      go_roundg 1
      case measure => omega
      case rel => exact ⟨1, rfl, rfl, by simp, ⟨rfl⟩⟩
    | 1, hkn =>
      obtain rfl : k = 1 := by omega
      simp only [if_true, show ¬ (1 : Nat) = 0 from by omega, if_false]
      go_wp2_with fail
      go_roundg 0
      case measure => omega
      case rel => exact ⟨2, rfl, rfl, by simp, ⟨rfl⟩⟩
    | 0, hkn =>
      obtain rfl : k = 2 := by omega
      simp only [show ¬ (2 : Nat) = 1 from by omega, show ¬ (2 : Nat) = 0 from by omega, if_false]
      go_wp2_with (go_at_call 34; refine HGR.out.mono ?_; rintro e w1 ⟨v6, rfl, ho6, b6⟩; have HO6 := Bx.mk ho6; have HB6 := Bx.mk b6; clear ho6 b6)
      clear c0 c1 hw1 hw2 hd1 hd2
      go_loopg [6, 27] 2 (fun gk s6 s27 wx => ∃ k : Nat, k + gk = 2 ∧ s27 = .int .i64 k ∧ Bx (OwB wx w.heap.size s6 (if k = 0 then [] else if k = 1 then l1 else l1 ++ l2)) ∧ Bx (Below w.heap.size w wx))
      case atStart => exact ⟨0, rfl, rfl, HO6, HB6⟩
      case round =>
        obtain ⟨k, hkn, rfl, HO, HB⟩ := hrel
        obtain ⟨c0, c1⟩ := (HC.out.keep HB.out).cells
        match gk, hkn with
        | 2, hkn =>
          obtain rfl : k = 0 := by omega
          have HO1 : Bx (OwB wr w.heap.size u6 []) := HO
          go_wp2_with (at_builtin; refine wpList_append_og _ rfl _ _ 28 rfl w.heap.size 5 i0 (.int .u8 0) 1 Try.underlying28 HI.out.1 HI.out.2.1 HI.out.2.2.1 HI.out.2.2.2 rfl _ _ _ _ rfl rfl HO1.out (H1.out _ HB.out) one_bv (by have := HL.out; simp only [List.length_map, List.length_nil]; omega) (by have := HL.out; simp only [List.length_map, List.length_nil, maxLen]; omega) HB.out.size ?_; intro v3 w3 ho3 hb3 hg3; have HO3 := Bx.mk (OwB.cat ho3); have HB3 := Bx.mk (HB.out.trans hb3); clear ho3 hb3 hg3)
          go_roundg 1
          case measure => omega
          case rel => exact ⟨1, rfl, rfl, by simpa using HO3, HB3⟩
        | 1, hkn =>
          obtain rfl : k = 1 := by omega
          have HO1 : Bx (OwB wr w.heap.size u6 l1) := by simpa using HO
          go_wp2_with (at_builtin; refine wpList_append_og _ rfl _ _ 28 rfl w.heap.size 5 i0 (.int .u8 0) 1 Try.underlying28 HI.out.1 HI.out.2.1 HI.out.2.2.1 HI.out.2.2.2 rfl _ _ _ _ rfl rfl HO1.out (H2.out _ HB.out) one_bv (by have := HL.out; simp only [List.length_map]; omega) (by have := HL.out; simp only [List.length_map, maxLen]; omega) HB.out.size ?_; intro v3 w3 ho3 hb3 hg3; have HO3 := Bx.mk (OwB.cat ho3); have HB3 := Bx.mk (HB.out.trans hb3); clear ho3 hb3 hg3)
          go_roundg 0
          case measure => omega
          case rel => exact ⟨2, rfl, rfl, by simpa using HO3, HB3⟩
        | 0, hkn =>
          obtain rfl : k = 2 := by omega
          have HO1 : Bx (OwB wr w.heap.size u6 (l1 ++ l2)) := by simpa using HO
          go_wp2_with fail
          go_ret
          exact ⟨_, rfl, HO1.out, HB.out⟩

theorem eqNil (A : Option Addr) (n c : Nat) (w : World) : (binOp .eql 28 (.slice A n c) (.slice none 0 0)).run Try.prog w = .ok (.bool A.isNone) w := by
  have h := Lib.run_equalIn_slice_nil (P := Try.prog) w 9999 28 5 A n c 0 0 Try.underlying28
  simp [binOp, Op.equal, Op.maxDepth, h, Result.andThen]
set_option maxRecDepth 100000 in
set_option maxHeartbeats 2000000 in
theorem bclone_any {w : World} {v : Value} {l : List UInt8} (h : Bs w v l) (hl : l.length ≤ 600000) :
    Calls Try.prog 19 #[v] w fun e w' => ∃ v', e = .returned v' ∧ OwB w' w.heap.size v' l ∧ Below w.heap.size w w' := by
  have HB := Bx.mk h
  have HL := Bx.mk hl
  obtain ⟨A, n, c, rfl, hn, h1, h2, h3, h4⟩ := h.open_
  have hnl : n = l.length := hn.out
  have heq := fun W => eqNil A n c W
  obtain ⟨i0, hi, hz, hz1, hz2⟩ := info_parts infoU8
  have HI : Bx (Try.prog.info? 5 = some i0 ∧ i0.zero = some (.int .u8 0) ∧ i0.size = 1 ∧ i0.bytes = 1) := ⟨hi, hz, hz1, hz2⟩
  cases A with
  | none =>
    have hl0 : l = [] := by
      obtain ⟨A', c', e, r1, r2, r3⟩ := h
      injection e with e1 e2 e3
      subst e1
      rcases r3 with ⟨_, hc⟩ | ⟨x, hx, _⟩
      · have : (l.map bv).length = 0 := by omega
        rw [List.length_map] at this
        exact List.eq_nil_of_length_eq_zero this
      · cases hx
    subst hl0
    simp only [Option.isNone_none] at heq
    clear h h1 h2 h3 h4 hl hi hz hz1 hz2 hn hnl
    go_enter Try.func19, Try.ntmps19
    go_wp2_with fail
    go_ret
    exact ⟨_, rfl, OwB.nil _ _, Below.refl _ _⟩
  | some x =>
    simp only [Option.isNone_some] at heq
    have HO0 : Bx (OwB (w.alloc (.cells #[] 5)) w.heap.size (.slice (some ⟨w.heap.size, 0, none⟩) 0 0) []) := ⟨⟨rfl, .inr ⟨w.heap.size, 0, #[], rfl, Nat.le_refl _, heap_alloc_last w _, Nat.le_refl _, by unfold maxLen; omega, rfl, rfl⟩⟩⟩
    have HB0 := Bx.mk ((Below.refl w.heap.size w).alloc (Nat.le_refl _) (.cells #[] 5))
    have HB1 : Bx (Bs (w.alloc (.cells #[] 5)) (.slice (some x) n c) l) := ⟨Rd.keep HB.out HB0.out⟩
    clear h h1 h2 h3 h4 hl hi hz hz1 hz2 hn hnl
    go_enter Try.func19, Try.ntmps19
    go_wp2_with (at_builtin; refine wpList_append_og _ rfl _ _ 28 rfl w.heap.size 5 i0 (.int .u8 0) 1 Try.underlying28 HI.out.1 HI.out.2.1 HI.out.2.2.1 HI.out.2.2.2 rfl _ _ _ _ rfl rfl HO0.out HB1.out one_bv (by have := HL.out; simp only [List.length_map, List.length_nil]; omega) (by have := HL.out; simp only [List.length_map, List.length_nil, maxLen]; omega) HB0.out.size ?_; intro v3 w3 ho3 hb3 hg3; have HO3 := Bx.mk (OwB.cat ho3); have HB3 := Bx.mk (HB0.out.trans hb3); clear ho3 hb3 hg3)
    go_ret
    exact ⟨_, rfl, HO3.out, HB3.out⟩
end Go.Proofs.Ytebakjdeighdnaa

/-
  The decoder stream fed, as mathematics; contract of the encoder's Feed.
-/
namespace Go.Proofs.Ytebakjdeighdnaa
open Go.RowKit Go.Maps
set_option linter.unusedVariables false

def Qe.setRest (E : Qe) (r : List UInt8) : Qe := ⟨E.T, E.B, E.K, E.op, r, E.err, E.said⟩
def Qe.setErr (E : Qe) (er : Nat) : Qe := ⟨E.T, E.B, E.K, E.op, [], er, E.said⟩
/-- Bytes of the decoder stream, the first n instructions at most: the encoder, the error. -/
def feedQ : Nat → Qe → List UInt8 → Qe × Nat
  | 0, E, r => (E.setRest r, 0)
  | n + 1, E, r => if r = [] then (E.setRest [], 0)
    else if (instQ E r).2.1 = 20 then ((instQ E r).2.2.setRest r, 0)
    else if (instQ E r).2.1 ≠ 0 then ((instQ E r).2.2.setErr (instQ E r).2.1, (instQ E r).2.1)
    else feedQ n (instQ E r).2.2 (r.drop (instQ E r).1)
def Qe.feed (E : Qe) (b : List UInt8) : Qe × Nat := if E.err ≠ 0 then (E, E.err) else feedQ (E.rest ++ b).length E (E.rest ++ b)

theorem ansQ_cases (r : Option Qe) : ansQ r = 0 ∨ ansQ r = 26 := by unfold ansQ; split <;> simp
theorem Qe.good.ack {E : Qe} (h : E.good) (s : Nat) : ((E.ack s).getD E).good := by
  unfold Qe.ack
  cases hx : (secs E.op s).head? with
  | none => exact h
  | some x =>
    obtain ⟨hm, _⟩ := head_mem hx
    have h1 := h.drop s
    have h2 := (h.sec x hm).2.2.2.2
    exact ⟨h1.gq, h1.sec, Nat.max_le.2 ⟨h.kn, h2⟩, h1.len⟩
theorem Qe.good.inc {E : Qe} (h : E.good) (n : Nat) : ((E.inc n).getD E).good := by
  unfold Qe.inc
  have := h.kn
  by_cases hc : n = 0 ∨ E.T.tot - E.K < n
  · rw [if_pos hc]; exact h
  · rw [if_neg hc]
    exact ⟨h.gq, h.sec, by show E.K + n ≤ E.T.tot; omega, h.len⟩
theorem Qe.good.can {E : Qe} (h : E.good) (s : Nat) : (E.can s).good :=
  ⟨h.gq, fun x hx => h.sec x ((List.mem_filter.1 hx).1), h.kn, Nat.le_trans (List.length_filter_le _ _) h.len⟩
/-- What an instruction comes to. -/
theorem instQ_cases (E : Qe) (b : List UInt8) : (∃ e, instQ E b = (0, e, E) ∧ (e = 20 ∨ e = 21)) ∨ ∃ n m, 1 ≤ m ∧ m ≤ b.length ∧ n ≤ maxVar ∧
    (instQ E b = (m, ansQ (E.inc n), (E.inc n).getD E) ∨ instQ E b = (m, 0, E.can n) ∨ instQ E b = (m, ansQ (E.ack n), (E.ack n).getD E)) := by
  by_cases h128 : 128 ≤ headN b
  · have HI : instQ E b = if (rp 7 b).2.2 ≠ 0 then (0, (rp 7 b).2.2.toNat, E) else ((rp 7 b).2.1.toNat, ansQ (E.ack (rp 7 b).1.toNat), (E.ack (rp 7 b).1.toNat).getD E) := by
      unfold instQ
      rw [if_pos h128, if_neg (show ¬ headN b < 64 by omega), if_neg (show ¬ headN b < 128 by omega)]
    rcases rp_cases 7 b with hr | hr | ⟨n, m, hr, h1, h2, h3⟩
    · exact .inl ⟨20, by rw [HI, hr]; rfl, .inl rfl⟩
    · exact .inl ⟨21, by rw [HI, hr]; rfl, .inr rfl⟩
    · exact .inr ⟨n, m, h1, h2, h3, .inr (.inr (by rw [HI, hr, if_neg (by simp)]; rfl))⟩
  · by_cases h64 : headN b < 64
    · have HI : instQ E b = if (rp 6 b).2.2 ≠ 0 then (0, (rp 6 b).2.2.toNat, E) else ((rp 6 b).2.1.toNat, ansQ (E.inc (rp 6 b).1.toNat), (E.inc (rp 6 b).1.toNat).getD E) := by
        unfold instQ
        rw [if_neg h128, if_pos h64]
      rcases rp_cases 6 b with hr | hr | ⟨n, m, hr, h1, h2, h3⟩
      · exact .inl ⟨20, by rw [HI, hr]; rfl, .inl rfl⟩
      · exact .inl ⟨21, by rw [HI, hr]; rfl, .inr rfl⟩
      · exact .inr ⟨n, m, h1, h2, h3, .inl (by rw [HI, hr, if_neg (by simp)]; rfl)⟩
    · have HI : instQ E b = if (rp 6 b).2.2 ≠ 0 then (0, (rp 6 b).2.2.toNat, E) else ((rp 6 b).2.1.toNat, 0, E.can (rp 6 b).1.toNat) := by
        unfold instQ
        rw [if_neg h128, if_neg h64, if_pos (show headN b < 128 by omega)]
      rcases rp_cases 6 b with hr | hr | ⟨n, m, hr, h1, h2, h3⟩
      · exact .inl ⟨20, by rw [HI, hr]; rfl, .inl rfl⟩
      · exact .inl ⟨21, by rw [HI, hr]; rfl, .inr rfl⟩
      · exact .inr ⟨n, m, h1, h2, h3, .inr (.inl (by rw [HI, hr, if_neg (by simp)]; rfl))⟩
theorem Qe.good.inst {E : Qe} (h : E.good) (b : List UInt8) : (instQ E b).2.2.good := by
  rcases instQ_cases E b with ⟨e, hi, _⟩ | ⟨n, m, _, _, _, hi | hi | hi⟩
  · rw [hi]; exact h
  · rw [hi]; exact h.inc _
  · rw [hi]; exact h.can _
  · rw [hi]; exact h.ack _
/-- An instruction that is whole takes a byte at least. -/
theorem instQ_len (E : Qe) (b : List UInt8) : ((instQ E b).2.1 = 0 → 1 ≤ (instQ E b).1) ∧ (instQ E b).2.1 ≤ 26 ∧ (instQ E b).1 ≤ b.length ∧ ((instQ E b).2.1 = 20 → (instQ E b).2.2 = E) := by
  rcases instQ_cases E b with ⟨e, hi, he⟩ | ⟨n, m, h1, h2, _, hi | hi | hi⟩
  · rw [hi]
    exact ⟨fun h => by have h : e = 0 := h; omega, by show e ≤ 26; omega, Nat.zero_le _, fun _ => rfl⟩
  · have := ansQ_cases (E.inc n)
    rw [hi]
    exact ⟨fun _ => h1, by show ansQ _ ≤ 26; omega, h2, fun h => by have h : ansQ (E.inc n) = 20 := h; omega⟩
  · rw [hi]
    exact ⟨fun _ => h1, Nat.zero_le _, h2, fun h => by have h : (0 : Nat) = 20 := h; omega⟩
  · have := ansQ_cases (E.ack n)
    rw [hi]
    exact ⟨fun _ => h1, by show ansQ _ ≤ 26; omega, h2, fun h => by have h : ansQ (E.ack n) = 20 := h; omega⟩
theorem instQ_keep (E : Qe) (b : List UInt8) : (instQ E b).2.2.rest = E.rest ∧ (instQ E b).2.2.err = E.err := by
  rcases instQ_cases E b with ⟨e, hi, he⟩ | ⟨n, m, h1, h2, _, hi | hi | hi⟩
  · rw [hi]; exact ⟨rfl, rfl⟩
  · rw [hi]
    unfold Qe.inc
    split
    · exact ⟨rfl, rfl⟩
    · exact ⟨rfl, rfl⟩
  · rw [hi]; exact ⟨rfl, rfl⟩
  · rw [hi]
    unfold Qe.ack
    split
    · exact ⟨rfl, rfl⟩
    · exact ⟨rfl, rfl⟩
section
variable {q p N : Nat} {E : Qe} {w w' : World} {S : Nat → Prop}
theorem pF_9 (p : Nat) (sd : Bool) (B K bs bq bu bb : Nat) (vR : Value) (er er' : Nat) : ∀ j, j < 10 → (if j = 9 then Value.int .i64 (er' : Int) else pF p sd B K bs bq bu bb vR er j) = pF p sd B K bs bq bu bb vR er' j := fun j hj => by
  unfold pF
  match j, hj with
  | 0, _ => rfl
  | 1, _ => rfl
  | 2, _ => rfl
  | 3, _ => rfl
  | 4, _ => rfl
  | 5, _ => rfl
  | 6, _ => rfl
  | 7, _ => rfl
  | 8, _ => rfl
  | 9, _ => rfl
/-- What waits is written. -/
theorem Pq.putRest (h : Pq q p N E w S) {v : Value} {r : List UInt8} {S3 : Nat → Prop} (ho : Ob (fun W => Bs W v r) w S3) (hd : ∀ k, S3 k → ¬ S k) :
    w.frozen? ⟨q, 8, none⟩ = false ∧ (∃ x, w.cell? ⟨q, 8, none⟩ = some x) ∧ w.cell? ⟨q, 0, none⟩ = some (.pointer (some ⟨p, 0, none⟩)) ∧ ∃ S', Pq q p N (E.setRest r) (w.setCell ⟨q, 8, none⟩ v) S' ∧ (∀ k, S' k → S k ∨ S3 k) ∧ Fp S w (w.setCell ⟨q, 8, none⟩ v) := by
  obtain ⟨a, LV, hlv, bs, bq, bu, bb, vR, S1, S2, hp, hS⟩ := h
  have hd' : ∀ k, S3 k → ¬ Pset q bs bq bu bb S1 S2 k := fun k hk hh => hd k hk ((hS k).2 hh)
  have hr := hp.setRest ho (hp.ob.map fun W hW => hW.2) fun k hk => ⟨fun e => hd' k hk (.inl e), fun e => hd' k hk (.inr (.inr (.inl e))), fun e => hd' k hk (.inr (.inr (.inr (.inl e)))), fun e => hd' k hk (.inr (.inr (.inr (.inr (.inl e))))), fun e => hd' k hk (.inr (.inr (.inr (.inr (.inr (.inl e)))))), fun e => hd' k hk (.inr (.inr (.inr (.inr (.inr (.inr e))))))⟩
  obtain ⟨c0, _, _, _, _, _, _, _, c8, _, hf⟩ := hp.cells
  refine ⟨hf 8, ⟨_, c8⟩, c0, _, ⟨a, LV, hlv, hr.raw⟩, fun k hk => ?_, (Fp.set (fun k => k = q) w ⟨q, 8, none⟩ v rfl).mono fun k hk => (hS k).2 (.inr (.inr (.inl hk)))⟩
  rcases hk with hk | (hk | hk) | hk
  · exact .inl ((hS k).2 (.inl hk))
  · exact .inl ((hS k).2 (.inr (.inl hk)))
  · exact .inr hk
  · exact .inl ((hS k).2 (.inr (.inr hk)))
theorem Pq.putErr (h : Pq q p N E w S) (er : Nat) : w.frozen? ⟨q, 9, none⟩ = false ∧ (∃ x, w.cell? ⟨q, 9, none⟩ = some x) ∧ Pq q p N ⟨E.T, E.B, E.K, E.op, E.rest, er, E.said⟩ (w.setCell ⟨q, 9, none⟩ (.int .i64 (er : Int))) S ∧ Fp S w (w.setCell ⟨q, 9, none⟩ (.int .i64 (er : Int))) := by
  obtain ⟨a, LV, hlv, bs, bq, bu, bb, vR, S1, S2, hp, hS⟩ := h
  obtain ⟨_, _, _, _, _, _, _, _, _, c9, hf⟩ := hp.cells
  obtain ⟨h1, h2⟩ := hp.set (sd := E.said) (K := E.K) (er := er) 9 (.int .i64 (er : Int)) (pF_9 _ _ _ _ _ _ _ _ _ _ _)
  exact ⟨hf 9, ⟨_, c9⟩, ⟨a, LV, hlv, bs, bq, bu, bb, vR, S1, S2, h1, hS⟩, h2.mono fun k hk => (hS k).2 hk⟩
end
end Go.Proofs.Ytebakjdeighdnaa

/-
  Contract of the encoder's Feed.
-/
namespace Go.Proofs.Ytebakjdeighdnaa
open Go.RowKit Go.Maps
set_option linter.unusedVariables false

theorem OwB.shape {w : World} {B : Nat} {v : Value} {l : List UInt8} (h : OwB w B v l) : ∃ A n c, v = .slice A n c := by
  rcases h.2 with ⟨rfl, _⟩ | ⟨g, cap, cur, rfl, _⟩
  · exact ⟨_, _, _, rfl⟩
  · exact ⟨_, _, _, rfl⟩
theorem OwB.ob {w : World} {B : Nat} {v : Value} {l : List UInt8} (h : OwB w B v l) : Ob (fun W => Bs W v l) w (fun k => v.ownBlock = some k) :=
  ⟨fun k hk => h.lt hk, fun W _ hk => (h.kept fun k hh => hk k hh).bs⟩
/-- What Feed's loop keeps. -/
structure FdR (q p N : Nat) (E : Qe) (l0 : List UInt8) (v0 : Value) (S : Nat → Prop) (w w1 : World) (n : Nat) (E' : Qe) (r : List UInt8) (v : Value) (wx : World) : Prop where
  good : E'.good
  fuel : r.length ≤ n
  len : r.length ≤ 200000
  go : feedQ n E' r = feedQ l0.length E l0
  pq : ∃ S', Pq q p N E' wx S' ∧ ∀ k, S' k → S k ∨ w1.heap.size ≤ k
  fp : Fp S w wx
  sz : w.heap.size ≤ w1.heap.size
  sx : w1.heap.size ≤ wx.heap.size
  bs : ∀ W, Bs W v0 l0 → Bs W v r
  b0 : OwB wx w.heap.size v0 l0
  bl : ∀ k, v0.ownBlock = some k → k < w1.heap.size
  sl : ∀ k, S k → k < w.heap.size
section
variable {q p N n : Nat} {E E' : Qe} {w w' w1 wx w2 : World} {S : Nat → Prop} {r l0 : List UInt8} {v0 v v2 : Value}
theorem feedQ_step (n : Nat) (E : Qe) (r : List UInt8) : feedQ (n + 1) E r = if r = [] then (E.setRest [], 0) else if (instQ E r).2.1 = 20 then ((instQ E r).2.2.setRest r, 0) else if (instQ E r).2.1 ≠ 0 then ((instQ E r).2.2.setErr (instQ E r).2.1, (instQ E r).2.1) else feedQ n (instQ E r).2.2 (r.drop (instQ E r).1) := rfl
theorem feedQ_nil (n : Nat) (E : Qe) : feedQ n E [] = (E.setRest [], 0) := by cases n <;> rfl
/-- The end: what is left waits. -/
theorem FdR.ends (h : FdR q p N E l0 v0 S w w1 n E' r v wx) (ho : OwB w2 wx.heap.size v2 r) (hb : Below wx.heap.size wx w2) :
    w2.frozen? ⟨q, 8, none⟩ = false ∧ (∃ x, w2.cell? ⟨q, 8, none⟩ = some x) ∧ Turn (Pq q p N (E'.setRest r)) S w (w2.setCell ⟨q, 8, none⟩ v2) := by
  obtain ⟨S', hpq, hs⟩ := h.pq
  have hlt := (Wd.pq _ _ _ _).lt hpq
  have hs' : ∀ k, S' k → S k ∨ w.heap.size ≤ k := fun k hk => (hs k hk).imp id fun hge => Nat.le_trans h.sz hge
  obtain ⟨f8, c8, c0, S3, h3, s3, f3⟩ := ((Wd.pq _ _ _ _).keep hpq hb).putRest ho.ob (fun k hk hh => by have := ho.ge hk; have := hlt k hh; omega)
  refine ⟨f8, c8, S3, h3, fun k hk => ?_, (h.fp.then (Fp.of_below hb)).trans f3 hs'⟩
  rcases s3 k hk with hk | hk
  · exact hs' k hk
  · exact .inr (Nat.le_trans h.fp.size (ho.ge hk))
/-- An error: nothing waits. -/
theorem FdR.fails (h : FdR q p N E l0 v0 S w w1 n E' r v wx) {S' : Nat → Prop} (hpq : Pq q p N E' wx S') (hs : ∀ k, S' k → S k ∨ w1.heap.size ≤ k) {E2 : Qe} (ht : Turn (Pq q p N E2) S' wx w2) (er : Nat) :
    w2.frozen? ⟨q, 8, none⟩ = false ∧ (∃ x, w2.cell? ⟨q, 8, none⟩ = some x) ∧ (w2.setCell ⟨q, 8, none⟩ (.slice none 0 0)).frozen? ⟨q, 9, none⟩ = false ∧ (∃ x, (w2.setCell ⟨q, 8, none⟩ (.slice none 0 0)).cell? ⟨q, 9, none⟩ = some x) ∧
      Turn (Pq q p N (E2.setErr er)) S w ((w2.setCell ⟨q, 8, none⟩ (.slice none 0 0)).setCell ⟨q, 9, none⟩ (.int .i64 (er : Int))) := by
  have hs' : ∀ k, S' k → S k ∨ w.heap.size ≤ k := fun k hk => (hs k hk).imp id fun hge => Nat.le_trans h.sz hge
  obtain ⟨S2, h2, s2, f2⟩ := ht
  have hs2 : ∀ k, S2 k → S k ∨ w.heap.size ≤ k := fun k hk => (s2 k hk).elim (hs' k) fun hge => .inr (Nat.le_trans h.fp.size hge)
  obtain ⟨f8, c8, c0, S3, h3, s3, f3⟩ := h2.putRest (v := .slice none 0 0) (r := []) (S3 := fun _ => False) (Ob.none fun W => Rd.nil W) (fun k hk => hk.elim)
  obtain ⟨f9, c9, h4, f4⟩ := h3.putErr er
  have hs3 : ∀ k, S3 k → S k ∨ w.heap.size ≤ k := fun k hk => (s3 k hk).elim (hs2 k) fun hh => hh.elim
  exact ⟨f8, c8, f9, c9, S3, h4, hs3, (((h.fp.trans f2 hs').trans f3 hs2).trans f4 hs3)⟩
/-- What Feed keeps stands beside what turns. -/
theorem FdR.b1 (h : FdR q p N E l0 v0 S w w1 n E' r v wx) {S' : Nat → Prop} (hs : ∀ k, S' k → S k ∨ w1.heap.size ≤ k) (f2 : Fp S' wx w2) : OwB w2 w.heap.size v0 l0 :=
  h.b0.kept fun k hk => f2.block k (h.b0.lt hk) fun hh => by
    rcases hs k hh with hh | hh
    · have := h.sl k hh
      have := h.b0.ge hk
      omega
    · have := h.bl k hk
      omega
theorem FdR.same (h : FdR q p N E l0 v0 S w w1 n E' r v wx) {S' : Nat → Prop} (hpq : Pq q p N E' wx S') (hs : ∀ k, S' k → S k ∨ w1.heap.size ≤ k) (ht : Turn (Pq q p N E') S' wx w2) : FdR q p N E l0 v0 S w w1 n E' r v w2 := by
  have hs' : ∀ k, S' k → S k ∨ w.heap.size ≤ k := fun k hk => (hs k hk).imp id fun hge => Nat.le_trans h.sz hge
  obtain ⟨S2, h2, s2, f2⟩ := ht
  exact ⟨h.good, h.fuel, h.len, h.go, ⟨S2, h2, fun k hk => (s2 k hk).elim (hs k) fun hge => .inr (Nat.le_trans h.sx hge)⟩, h.fp.trans f2 hs', h.sz, Nat.le_trans h.sx f2.size, h.bs, h.b1 hs f2, h.bl, h.sl⟩
/-- One instruction more. -/
theorem FdR.next (h : FdR q p N E l0 v0 S w w1 (n + 1) E' r v wx) {S' : Nat → Prop} (hpq : Pq q p N E' wx S') (hs : ∀ k, S' k → S k ∨ w1.heap.size ≤ k) (hne : r ≠ []) (h0 : (instQ E' r).2.1 = 0) (ht : Turn (Pq q p N (instQ E' r).2.2) S' wx w2) {v2 : Value} (hv : ∀ W, Bs W v r → Bs W v2 (r.drop (instQ E' r).1)) :
    FdR q p N E l0 v0 S w w1 n (instQ E' r).2.2 (r.drop (instQ E' r).1) v2 w2 := by
  have hs' : ∀ k, S' k → S k ∨ w.heap.size ≤ k := fun k hk => (hs k hk).imp id fun hge => Nat.le_trans h.sz hge
  obtain ⟨S2, h2, s2, f2⟩ := ht
  obtain ⟨l1, l2, l3, _⟩ := instQ_len E' r
  have l1 := l1 h0
  have hfu := h.fuel
  have hln := h.len
  refine ⟨h.good.inst r, by rw [List.length_drop]; omega, by rw [List.length_drop]; omega, ?_, ⟨S2, h2, fun k hk => (s2 k hk).elim (hs k) fun hge => .inr (Nat.le_trans h.sx hge)⟩, h.fp.trans f2 hs', h.sz, Nat.le_trans h.sx f2.size, fun W hW => hv W (h.bs W hW), ?_, h.bl, h.sl⟩
  · have hg := h.go
    rw [feedQ_step, if_neg hne, if_neg (by omega), if_neg (by omega)] at hg
    exact hg
  · exact h.b1 hs f2

set_option maxRecDepth 100000 in
set_option maxHeartbeats 8000000 in
theorem feed_any (h : Pq q p N E w S) (hg : E.good) (hN : N < 1000000000) {bV : Value} {b : List UInt8} (hb : Bs w bV b) (hl : b.length ≤ 90000) (hr : E.rest.length ≤ 90000) :
    Calls Try.prog 9 #[.pointer (some ⟨q, 0, none⟩), bV] w fun e w' => e = .returned (.int .i64 ((E.feed b).2 : Int)) ∧ Turn (Pq q p N (E.feed b).1) S w w' := by
  have hpq := h
  have hlt := (Wd.pq _ _ _ _).lt h
  obtain ⟨a, LV, hlv, bs, bq, bu, bb, vR, S1, S2, hp, hPS⟩ := h
  obtain ⟨c0, _, _, _, _, _, _, _, c8, c9, _⟩ := hp.cells
  by_cases her : E.err = 0
  · have hfe : E.feed b = feedQ (E.rest ++ b).length E (E.rest ++ b) := by unfold Qe.feed; rw [if_neg (by omega)]
    rw [hfe]
    have c9' : w.cell? ⟨q, 9, none⟩ = some (.int .i64 0) := by
      have e : (qcOf N E (blkF E.op E.K) a LV).er = 0 := her
      rw [e] at c9
      exact c9
    have hbs : Bs w vR E.rest := hp.bytes
    have bA := (Below.refl w.heap.size w).alloc (Nat.le_refl _) (.cells #[vR, bV] 28)
    have ccA : Cc (w.alloc (.cells #[vR, bV] 28)) w.heap.size vR bV := heap_alloc_last w _
    obtain ⟨A1, n1, k1, hvR⟩ : ∃ A1 n1 k1, vR = .slice A1 n1 k1 := by obtain ⟨A, n, c, e, _⟩ := hbs.open_; exact ⟨A, n, c, e⟩
    obtain ⟨A2, n2, k2, hbV⟩ : ∃ A2 n2 k2, bV = .slice A2 n2 k2 := by obtain ⟨A, n, c, e, _⟩ := hb.open_; exact ⟨A, n, c, e⟩
    have HCON := Bx.mk (concat_any ccA (Rd.keep hbs bA) (Rd.keep hb bA) (by omega) (by omega))
    obtain ⟨wA, hwA⟩ : ∃ wA, w.alloc (.cells #[vR, bV] 28) = wA := ⟨_, rfl⟩
    rw [hwA] at bA HCON
    obtain ⟨l0, hl0⟩ : ∃ l0, E.rest ++ b = l0 := ⟨_, rfl⟩
    rw [hl0] at HCON ⊢
    have hl0l : l0.length ≤ 200000 := by rw [← hl0, List.length_append]; omega
    have HSTART : Bx (∀ (v0 : Value) (w1 : World), OwB w1 wA.heap.size v0 l0 → Below wA.heap.size wA w1 → FdR q p N E l0 v0 S w w1 l0.length E l0 v0 w1) := ⟨fun v0 w1 ho hb1 =>
      have hbw : Below w.heap.size w w1 := bA.trans (hb1.mono bA.size)
      ⟨hg, Nat.le_refl _, hl0l, rfl, ⟨S, (Wd.pq _ _ _ _).keep hpq hbw, fun k hk => .inl hk⟩, Fp.of_below hbw, hbw.size, Nat.le_refl _, fun W hW => hW, ho.mono bA.size, fun k hk => ho.lt hk, hlt⟩⟩
    have HN := Bx.mk hN
    subst hvR
    subst hbV
    clear hpq hp hPS hlv hg hN hb hl hr her hfe hbs bA ccA hl0 hl0l hlt c9
    go_enter Try.func9, Try.ntmps9
    go_wp2_with (go_at_call 17; refine HCON.out.mono ?_; rintro e w1 ⟨v0, rfl, ho, hb1⟩; have HS0 := Bx.mk (HSTART.out v0 w1 ho hb1); clear ho hb1)
    clear c0 c8 c9' hwA HSTART HCON
    go_loopg [5] l0.length (fun gk s5 wx => ∃ (E' : Qe) (r : List UInt8), Bx (FdR q p N E l0 v0 S w w1 gk E' r s5 wx))
    case atStart => exact ⟨E, l0, HS0⟩
    case round =>
      obtain ⟨E', r, HR⟩ := hrel
      clear HS0
      have hbr := HR.out.bs wr HR.out.b0.bs
      have hlen := fun ty W => hbr.run_len ty W
      have HBR := Bx.mk hbr
      obtain ⟨L, hL⟩ : ∃ L, r.length = L := ⟨_, rfl⟩
      rw [hL] at hlen
      have HL := Bx.mk hL
      have HQ := Bx.mk HR.out.pq
      have HCLONE := Bx.mk (bclone_any hbr (by have := HR.out.len; omega))
      obtain ⟨Sx, hx, hsx⟩ := HQ.out
      have hx0 := hx
      obtain ⟨ax, LVx, hlvx, bsx, bqx, bux, bbx, vRx, S1x, S2x, hpx, _⟩ := hx0
      obtain ⟨c0, _⟩ := hpx.cells
      clear hpx hlvx
      by_cases h0 : L = 0
      · have hd : decide (0 < L) = false := decide_eq_false (by omega)
        have hr0 : r = [] := List.eq_nil_of_length_eq_zero (by omega)
        have HGO : Bx (feedQ l0.length E l0 = (E'.setRest r, 0)) := ⟨by rw [← HR.out.go, hr0, feedQ_nil]⟩
        clear hbr hL h0 hr0 hx
        go_wp2_with (go_at_call 19; refine HCLONE.out.mono ?_; rintro e w2 ⟨v2, rfl, ho2, hb2⟩; obtain ⟨vA, vn, vc, rfl⟩ := ho2.shape; obtain ⟨f8, ⟨x8, c8⟩, ht⟩ := HR.out.ends ho2 hb2; have HT := Bx.mk ht; clear ht ho2 hb2)
        go_ret
        rw [HGO.out]
        exact ⟨rfl, HT.out⟩
      · have hd : decide (0 < L) = true := decide_eq_true (by omega)
        have hne : r ≠ [] := fun e => by rw [e] at hL; simp at hL; omega
        have HNE := Bx.mk hne
        cases gk with
        | zero => exact absurd HR.out.fuel (by omega)
        | succ n =>
          have hinst := instruction_any hx HR.out.good HN.out hbr (by omega) (by have := HR.out.len; omega)
          obtain ⟨l1, l2, l3, l4⟩ := instQ_len E' r
          have HX := Bx.mk (And.intro hx hsx)
          have HGO := Bx.mk HR.out.go
          rw [feedQ_step, if_neg hne] at HGO
          obtain ⟨m, hm⟩ : ∃ m, (instQ E' r).1 = m := ⟨_, rfl⟩
          obtain ⟨er, her⟩ : ∃ er, (instQ E' r).2.1 = er := ⟨_, rfl⟩
          rw [hm, her] at hinst HGO
          rw [her] at l1 l2 l4
          rw [hm] at l1 l3
          have HM := Bx.mk (And.intro hm her)
          obtain ⟨MM, hMM⟩ := letter m
          obtain ⟨RR, hRR⟩ := letter er
          rw [hMM, hRR] at hinst
          have HINST := Bx.mk hinst
          by_cases h20 : er = 20
          · have hd1 : (RR == 20) = true := by rw [beq_iff_eq]; omega
            have HE := Bx.mk (l4 h20)
            have HGO2 := HGO.out
            rw [if_pos h20, HE.out] at HGO2
            have HG2 := Bx.mk HGO2
            clear hinst hx hsx hbr hL h0 hne l1 l2 l3 l4 hm her hMM hRR h20 HGO2 HGO
            go_wp2_with (first
              | (go_at_call 18; refine HINST.out.mono ?_; rintro e w2 ⟨rfl, ht2⟩; have HR2 := Bx.mk (HR.out.same HX.out.1 HX.out.2 (by rw [HE.out] at ht2; exact ht2)); clear ht2)
              | (go_at_call 19; refine (bclone_any (HR2.out.bs _ HR2.out.b0.bs) (by have := HR2.out.len; omega)).mono ?_; rintro e w3 ⟨v3, rfl, ho3, hb3⟩; obtain ⟨vA, vn, vc, rfl⟩ := ho3.shape; obtain ⟨f8, ⟨x8, c8⟩, ht⟩ := HR2.out.ends ho3 hb3; have HT := Bx.mk ht; clear ht ho3 hb3))
            go_ret
            rw [← HG2.out]
            exact ⟨rfl, HT.out⟩
          · have hd1 : (RR == 20) = false := by rw [beq_eq_false_iff_ne]; omega
            by_cases hz : er = 0
            · have hd2 : (RR != 0) = false := by rw [bne_eq_false_iff_eq]; omega
              have l1 := l1 hz
              obtain ⟨v4, hfrom, hbs4⟩ := hbr.from_ MM (by omega) (by omega)
              have hmm : MM.toNat = m := by omega
              rw [hmm] at hbs4
              have HB4 := Bx.mk hbs4
              have HZ : Bx ((instQ E' r).2.1 = 0) := ⟨by rw [her]; exact hz⟩
              obtain ⟨A4, n4, c4, hv4⟩ : ∃ A4 n4 c4, v4 = .slice A4 n4 c4 := by obtain ⟨A, n, c, e, _⟩ := (hbs4 wr hbr).open_; exact ⟨A, n, c, e⟩
              subst hv4
              clear hinst hx hsx hbr hL h0 hne l1 l2 l3 l4 hm her hMM hRR h20 hz hbs4 HGO hmm
              go_wp2_with (first
                | (go_at_call 18; refine HINST.out.mono ?_; rintro e w2 ⟨rfl, ht2⟩; have HR2 := Bx.mk (HR.out.next HX.out.1 HX.out.2 HNE.out HZ.out ht2 (v2 := .slice A4 n4 c4) (by rw [HM.out.1]; exact HB4.out)); clear ht2))
              go_roundg n
              case measure => omega
              case rel => exact ⟨_, _, HR2⟩
            · have hd2 : (RR != 0) = true := by rw [bne_iff_ne]; omega
              have HGO2 := HGO.out
              rw [if_neg h20, if_pos hz] at HGO2
              have HG2 := Bx.mk HGO2
              have HRR := Bx.mk hRR
              clear hinst hx hsx hbr hL h0 hne l1 l2 l3 l4 hm her hMM h20 hz HGO2 HGO hRR
              go_wp2_with (first
                | (go_at_call 18; refine HINST.out.mono ?_; rintro e w2 ⟨rfl, ht2⟩; obtain ⟨f8, ⟨x8, c8⟩, f9, ⟨x9, c9⟩, ht⟩ := HR.out.fails HX.out.1 HX.out.2 ht2 er; rw [HRR.out] at ht; have HT := Bx.mk ht; clear ht ht2))
              go_ret
              rw [← HG2.out]
              exact ⟨by rw [HRR.out]; rfl, HT.out⟩
  · have hfe : E.feed b = (E, E.err) := by unfold Qe.feed; rw [if_pos her]
    have HT : Bx (Turn (Pq q p N E) S w w) := ⟨(Wd.pq _ _ _ _).turned hpq (Below.refl _ _)⟩
    rw [hfe]
    have c9' : w.cell? ⟨q, 9, none⟩ = some (.int .i64 (E.err : Int)) := c9
    obtain ⟨er, hER⟩ : ∃ er, E.err = er := ⟨_, rfl⟩
    rw [hER] at c9' her
    obtain ⟨RR, hRR⟩ := letter er
    rw [hRR] at c9'
    have hd : (RR != 0) = true := by rw [bne_iff_ne]; omega
    have HRR : Bx (((E.err : Nat) : Int) = RR) := ⟨by rw [hER]; exact hRR⟩
    clear hpq hp hPS hlv hg hN hb hl hr her hfe hlt c9 hER hRR
    go_enter Try.func9, Try.ntmps9
    go_wp2_with fail
    go_ret
    exact ⟨by rw [HRR.out]; rfl, HT.out⟩
end
end Go.Proofs.Ytebakjdeighdnaa

/-
  Contracts of the program's insertion and literal.
-/
namespace Go.Proofs.Ytebakjdeighdnaa
open Go.RowKit
set_option linter.unusedVariables false

theorem text_at (m : Nat) (hm : m ≤ 3) (f : UInt8) (k : Nat) (hk1 : 1 ≤ k) (hk7 : k ≤ 7) (hf0 : IntKind.u8.wrap (((2 * m : Nat) : Int) * 2 ^ k) = (f.toNat : Int)) (hf1 : IntKind.u8.wrap (((2 * m + 1 : Nat) : Int) * 2 ^ k) = ((hiB f k).toNat : Int)) (s : ByteArray) (hs : s.size ≤ 20000) (M K : Int) (hM : (m : Int) = M) (hK : (k : Int) = K) (w : World) :
    Calls Try.prog 48 #[.int .u8 M, .int .i64 K, .string s] w fun e w' => ∃ v', e = .returned v' ∧ OwB w' w.heap.size v' (putSk f k s.data.toList) ∧ Below w.heap.size w w' := by
  subst hM hK
  exact text_any m hm f k hk1 hk7 hf0 hf1 s hs w
/-- An instruction that inserts. -/
def insB (i : Nat) (nm : Bool) (f : Fd) : List UInt8 := (if nm then pre 192 6 i else putSk 64 5 f.1.data.toList) ++ putSk 0 7 f.2.data.toList
/-- A line in full. -/
def litB (i : Nat) (nm : Bool) (f : Fd) : List UInt8 := (if nm then pre (if secN f.1 then 112 else 80) 4 i else putSk (if secN f.1 then 48 else 32) 3 f.1.data.toList) ++ putSk 0 7 f.2.data.toList
theorem insB_len (i : Nat) (nm : Bool) (f : Fd) : (insB i nm f).length ≤ fsz f + 22 := by
  have h1 := (pre_len 192 6 i).2
  have h2 := putSk_len 64 5 f.1.data.toList
  have h3 := putSk_len 0 7 f.2.data.toList
  have e1 : f.1.data.toList.length = f.1.size := by simp
  have e2 : f.2.data.toList.length = f.2.size := by simp
  unfold insB fsz
  rw [List.length_append]
  cases nm
  · simp only [Bool.false_eq_true, if_false]; omega
  · simp only [if_true]; omega
theorem litB_len (i : Nat) (nm : Bool) (f : Fd) : (litB i nm f).length ≤ fsz f + 22 := by
  have h1 := fun a => (pre_len a 4 i).2
  have h2 := fun a => putSk_len a 3 f.1.data.toList
  have h3 := putSk_len 0 7 f.2.data.toList
  have e1 : f.1.data.toList.length = f.1.size := by simp
  have e2 : f.2.data.toList.length = f.2.size := by simp
  unfold litB fsz
  rw [List.length_append]
  cases nm
  · have := h2 (if secN f.1 then 48 else 32); simp only [Bool.false_eq_true, if_false]; omega
  · have := h1 (if secN f.1 then 112 else 80); simp only [if_true]; omega

set_option maxRecDepth 100000 in
set_option maxHeartbeats 2000000 in
theorem insertion_any (i : Nat) (nm : Bool) (f : Fd) (hi : i < 18446744073709551616) (h1 : f.1.size ≤ 20000) (h2 : f.2.size ≤ 20000) (w : World) :
    Calls Try.prog 28 #[.int .u64 (i : Int), .bool nm, .agg #[.string f.1, .string f.2]] w fun e w' => ∃ v', e = .returned v' ∧ OwB w' w.heap.size v' (insB i nm f) ∧ Below w.heap.size w w' := by
  have HB0 := Bx.mk ((Below.refl w.heap.size w).alloc (Nat.le_refl _) (.cells #[.string f.1, .string f.2] 35))
  have HF0 := Bx.mk (Fb.new 35 w f)
  obtain ⟨f1, f2⟩ := f
  simp only at h1 h2 HB0 HF0 ⊢
  obtain ⟨w1, hw1⟩ : ∃ w1, w.alloc (.cells #[.string f1, .string f2] 35) = w1 := ⟨_, rfl⟩
  rw [hw1] at HB0 HF0
  have hX0 : ∀ W, Below w1.heap.size w1 W → W.cell? ⟨w.heap.size, 0, none⟩ = some (.string f1) := fun W hW => (HF0.out.keep hW).cells.1
  have hX1 : ∀ W, Below w1.heap.size w1 W → W.cell? ⟨w.heap.size, 1, none⟩ = some (.string f2) := fun W hW => (HF0.out.keep hW).cells.2
  have hS0 : Below w1.heap.size w1 w1.drew := (Below.refl _ _).drew
  obtain ⟨I, hI⟩ := letter i
  have HNUM := Bx.mk (fun W => qnumber_at 3 192 6 (by omega) (by omega) (by rfl) i 3 6 I rfl rfl hI hi W)
  have HTXT := Bx.mk (fun W => text_at 1 (by omega) 64 5 (by omega) (by omega) (by rfl) (by rfl) f1 h1 1 5 rfl rfl W)
  have hl1 := (pre_len 192 6 i).2
  have hl2 := putSk_len 64 5 f1.data.toList
  have e1 : f1.data.toList.length = f1.size := by simp
  have HSTR := Bx.mk (fun (v : Value) (l : List UInt8) (W : World) (hb : Bs W v l) (hl : l.length ≤ 50000) => hstr_any v l f2 W hb hl h2)
  have HL : Bx ((pre 192 6 i).length ≤ 50000 ∧ (putSk 64 5 f1.data.toList).length ≤ 50000) := ⟨by omega, by omega⟩
  rw [hI]
  clear hI hi h1 h2 hl1 hl2 e1
  cases nm with
  | true =>
    have HR : Bx (insB i true (f1, f2) = pre 192 6 i ++ putSk 0 7 f2.data.toList) := ⟨rfl⟩
    go_enter Try.func28, Try.ntmps28
    go_wp2_with fail
    go_region_held (fun W => Below w1.heap.size w1 W) (first | assumption) (first
      | (go_at_call 23; refine (HNUM.out _).mono ?_; rintro e w3 ⟨v3, rfl, ho3, b3⟩; have hS3 := below_next (by assumption) b3)
      | (go_at_call 47; refine (HSTR.out _ _ _ ho3.bs HL.out.1).mono ?_; rintro e w4 ⟨v4, rfl, ho4, b4⟩; have hS4 := below_next (by assumption) b4))
    all_goals clear hX0 hX1 hS0
    all_goals go_wp2_with fail
    all_goals go_ret
    all_goals rw [HR.out]
    all_goals exact ⟨_, rfl, ho4.mono (by have := HB0.out.size; have := hS3.size; omega), HB0.out.trans (hS4.mono HB0.out.size)⟩
  | false =>
    have HR : Bx (insB i false (f1, f2) = putSk 64 5 f1.data.toList ++ putSk 0 7 f2.data.toList) := ⟨rfl⟩
    go_enter Try.func28, Try.ntmps28
    go_wp2_with fail
    go_region_held (fun W => Below w1.heap.size w1 W) (first | assumption) (first
      | (go_at_call 48; refine (HTXT.out _).mono ?_; rintro e w3 ⟨v3, rfl, ho3, b3⟩; have hS3 := below_next (by assumption) b3)
      | (go_at_call 47; refine (HSTR.out _ _ _ ho3.bs HL.out.2).mono ?_; rintro e w4 ⟨v4, rfl, ho4, b4⟩; have hS4 := below_next (by assumption) b4))
    all_goals clear hX0 hX1 hS0
    all_goals go_wp2_with fail
    all_goals go_ret
    all_goals rw [HR.out]
    all_goals exact ⟨_, rfl, ho4.mono (by have := HB0.out.size; have := hS3.size; omega), HB0.out.trans (hS4.mono HB0.out.size)⟩

set_option maxRecDepth 100000 in
set_option maxHeartbeats 4000000 in
theorem qliteral_any (i : Nat) (nm : Bool) (f : Fd) (hi : i < 18446744073709551616) (h1 : f.1.size ≤ 20000) (h2 : f.2.size ≤ 20000) (w : World) :
    Calls Try.prog 31 #[.int .u64 (i : Int), .bool nm, .agg #[.string f.1, .string f.2]] w fun e w' => ∃ v', e = .returned v' ∧ OwB w' w.heap.size v' (litB i nm f) ∧ Below w.heap.size w w' := by
  have HB0 := Bx.mk ((Below.refl w.heap.size w).alloc (Nat.le_refl _) (.cells #[.string f.1, .string f.2] 35))
  have HF0 := Bx.mk (Fb.new 35 w f)
  obtain ⟨f1, f2⟩ := f
  simp only at h1 h2 HB0 HF0 ⊢
  obtain ⟨w1, hw1⟩ : ∃ w1, w.alloc (.cells #[.string f1, .string f2] 35) = w1 := ⟨_, rfl⟩
  rw [hw1] at HB0 HF0
  have hX0 : ∀ W, Below w1.heap.size w1 W → W.cell? ⟨w.heap.size, 0, none⟩ = some (.string f1) := fun W hW => (HF0.out.keep hW).cells.1
  have hX1 : ∀ W, Below w1.heap.size w1 W → W.cell? ⟨w.heap.size, 1, none⟩ = some (.string f2) := fun W hW => (HF0.out.keep hW).cells.2
  have hS0 : Below w1.heap.size w1 w1.drew := (Below.refl _ _).drew
  have hc0 := hX0 w1 (Below.refl _ _)
  have HSEC := Bx.mk (fun W => qsecret_any f1 W)
  obtain ⟨I, hI⟩ := letter i
  have HNUM0 := Bx.mk (fun W => qnumber_at 5 80 4 (by omega) (by omega) (by rfl) i 5 4 I rfl rfl hI hi W)
  have HNUM1 := Bx.mk (fun W => qnumber_at 7 112 4 (by omega) (by omega) (by rfl) i 7 4 I rfl rfl hI hi W)
  have HTXT0 := Bx.mk (fun W => text_at 2 (by omega) 32 3 (by omega) (by omega) (by rfl) (by rfl) f1 h1 2 3 rfl rfl W)
  have HTXT1 := Bx.mk (fun W => text_at 3 (by omega) 48 3 (by omega) (by omega) (by rfl) (by rfl) f1 h1 3 3 rfl rfl W)
  have hl1 := fun a => (pre_len a 4 i).2
  have hl2 := fun a => putSk_len a 3 f1.data.toList
  have e1 : f1.data.toList.length = f1.size := by simp
  have HSTR := Bx.mk (fun (v : Value) (l : List UInt8) (W : World) (hb : Bs W v l) (hl : l.length ≤ 50000) => hstr_any v l f2 W hb hl h2)
  have HL : Bx ((∀ a, (pre a 4 i).length ≤ 50000) ∧ ∀ a, (putSk a 3 f1.data.toList).length ≤ 50000) := ⟨fun a => by have := hl1 a; omega, fun a => by have := hl2 a; omega⟩
  have HR : Bx (litB i nm (f1, f2) = (if nm then pre (if secN f1 then 112 else 80) 4 i else putSk (if secN f1 then 48 else 32) 3 f1.data.toList) ++ putSk 0 7 f2.data.toList) := ⟨rfl⟩
  rw [hI]
  obtain ⟨sc, hsc⟩ : ∃ sc, secN f1 = sc := ⟨_, rfl⟩
  rw [hsc] at HSEC HR
  obtain ⟨R, hR⟩ : ∃ R, litB i nm (f1, f2) = R := ⟨_, rfl⟩
  rw [hR] at HR ⊢
  clear hI hi h1 h2 hl1 hl2 e1 hR hsc
  cases sc with
  | true =>
    cases nm with
    | true =>
      have HR2 := HR.out
      simp only [if_true] at HR2
      subst HR2
      go_enter Try.func31, Try.ntmps31
      go_wp2_with fail
      go_wp2_with (go_at_call 43; refine (HSEC.out _).mono ?_; rintro e w9 ⟨rfl, rfl⟩)
      go_region_held (fun W => Below w1.heap.size w1 W) (first | assumption) (first
        | (go_at_call 23; refine (HNUM1.out _).mono ?_; rintro e w3 ⟨v3, rfl, ho3, b3⟩; have hS3 := below_next (by assumption) b3)
        | (go_at_call 47; refine (HSTR.out _ _ _ ho3.bs (HL.out.1 _)).mono ?_; rintro e w4 ⟨v4, rfl, ho4, b4⟩; have hS4 := below_next (by assumption) b4))
      all_goals clear hX0 hX1 hS0
      all_goals go_wp2_with fail
      all_goals go_ret
      all_goals exact ⟨_, rfl, ho4.mono (by have := HB0.out.size; have := hS3.size; omega), HB0.out.trans (hS4.mono HB0.out.size)⟩
    | false =>
      have HR2 := HR.out
      simp only [if_true, Bool.false_eq_true, if_false] at HR2
      subst HR2
      go_enter Try.func31, Try.ntmps31
      go_wp2_with fail
      go_wp2_with (go_at_call 43; refine (HSEC.out _).mono ?_; rintro e w9 ⟨rfl, rfl⟩)
      go_region_held (fun W => Below w1.heap.size w1 W) (first | assumption) (first
        | (go_at_call 48; refine (HTXT1.out _).mono ?_; rintro e w3 ⟨v3, rfl, ho3, b3⟩; have hS3 := below_next (by assumption) b3)
        | (go_at_call 47; refine (HSTR.out _ _ _ ho3.bs (HL.out.2 _)).mono ?_; rintro e w4 ⟨v4, rfl, ho4, b4⟩; have hS4 := below_next (by assumption) b4))
      all_goals clear hX0 hX1 hS0
      all_goals go_wp2_with fail
      all_goals go_ret
      all_goals exact ⟨_, rfl, ho4.mono (by have := HB0.out.size; have := hS3.size; omega), HB0.out.trans (hS4.mono HB0.out.size)⟩
  | false =>
    cases nm with
    | true =>
      have HR2 := HR.out
      simp only [if_true, Bool.false_eq_true, if_false] at HR2
      subst HR2
      go_enter Try.func31, Try.ntmps31
      go_wp2_with fail
      go_wp2_with (go_at_call 43; refine (HSEC.out _).mono ?_; rintro e w9 ⟨rfl, rfl⟩)
      go_region_held (fun W => Below w1.heap.size w1 W) (first | assumption) (first
        | (go_at_call 23; refine (HNUM0.out _).mono ?_; rintro e w3 ⟨v3, rfl, ho3, b3⟩; have hS3 := below_next (by assumption) b3)
        | (go_at_call 47; refine (HSTR.out _ _ _ ho3.bs (HL.out.1 _)).mono ?_; rintro e w4 ⟨v4, rfl, ho4, b4⟩; have hS4 := below_next (by assumption) b4))
      all_goals clear hX0 hX1 hS0
      all_goals go_wp2_with fail
      all_goals go_ret
      all_goals exact ⟨_, rfl, ho4.mono (by have := HB0.out.size; have := hS3.size; omega), HB0.out.trans (hS4.mono HB0.out.size)⟩
    | false =>
      have HR2 := HR.out
      simp only [Bool.false_eq_true, if_false] at HR2
      subst HR2
      go_enter Try.func31, Try.ntmps31
      go_wp2_with fail
      go_wp2_with (go_at_call 43; refine (HSEC.out _).mono ?_; rintro e w9 ⟨rfl, rfl⟩)
      go_region_held (fun W => Below w1.heap.size w1 W) (first | assumption) (first
        | (go_at_call 48; refine (HTXT0.out _).mono ?_; rintro e w3 ⟨v3, rfl, ho3, b3⟩; have hS3 := below_next (by assumption) b3)
        | (go_at_call 47; refine (HSTR.out _ _ _ ho3.bs (HL.out.2 _)).mono ?_; rintro e w4 ⟨v4, rfl, ho4, b4⟩; have hS4 := below_next (by assumption) b4))
      all_goals clear hX0 hX1 hS0
      all_goals go_wp2_with fail
      all_goals go_ret
      all_goals exact ⟨_, rfl, ho4.mono (by have := HB0.out.size; have := hS3.size; omega), HB0.out.trans (hS4.mono HB0.out.size)⟩

end Go.Proofs.Ytebakjdeighdnaa

/-
  An append to a row of its own: in place, or in a new block; a section under way in memory.
-/
namespace Go.Proofs.Ytebakjdeighdnaa
open Go.RowKit Go.Maps
set_option linter.unusedVariables false

section
variable {P : Program} (w : World)
theorem append_blk (k : Nat) (hk : 0 < k) (B : Nat) (t ty e : TypeId) (i : TypeInfo) (z : Value) (bytes : Nat) (ht : P.underlying t = some (.slice e)) (hi : P.info? e = some i) (hz : i.zero = some z)
    (hsize : i.size = k) (hby : i.bytes = bytes) (hzs : z.cells.size = k)
    (v u : Value) (n m : Nat) (xs news : List Value) (hv : w.ownsRow B e k v n xs) (hu : Rn k w u m news) (h1 : ∀ x ∈ news, x.oneCell' = true)
    (hbytes : (n + m) * bytes ≤ 140737488355328) (hmax : n + m ≤ maxLen) {v' : Value} {w' : World} (hrun : (Builtin.append_ #[t, t] ty #[v, u]).run P w = .ok v' w') :
    ∀ g, v'.ownBlock = some g → v.ownBlock = some g ∨ w.heap.size ≤ g := by
  have hul := hu.cells
  obtain ⟨Au, c, rfl, c1, c2, c4, c3⟩ := hu
  rcases c3 with ⟨rfl, rfl⟩ | ⟨x, rfl, hc⟩
  · obtain rfl : m = 0 := by omega
    have hr := run_append_owned_none w B t ty e i k ht hi v n xs hv
    rw [hr] at hrun
    injection hrun with e1 e2
    subst e1
    exact fun g hg => .inl hg
  · have hv0 := hv
    rcases hv.2 with ⟨rfl, rfl⟩ | ⟨g, cap, cur, rfl, hB, hh, hnc, hcm, hcs, htk⟩
    · have hxs : xs = [] := List.eq_nil_of_length_eq_zero (by have := hv.1; omega)
      subst hxs
      obtain ⟨v2, w2, hr, r1, _⟩ := run_append_own (P := P) w w.heap.size t ty e i z k bytes ht hi hz hsize hby hzs hk (.slice none 0 0) 0 [] (World.ownsRow_nil w _ e k) x m c news (by omega) hc h1 hmax hbytes (Nat.le_refl _)
      rw [hr] at hrun
      injection hrun with e1 e2
      subst e1
      exact fun g hg => .inr (r1.lt g hg).1
    · by_cases hroom : n + m ≤ cap
      · have hnl : news.length = m * k := by omega
        have hsp : n * k + news.length ≤ cap * k := by rw [hnl, ← Nat.add_mul]; exact Nat.mul_le_mul_right k hroom
        have hr := run_append_room_cells (P := P) w t ty e i ht hi g 0 n cap x m c news (by rw [hsize]; omega) hc h1 hroom (fun j hj => by
          rw [hsize, Nat.zero_add]
          have : n * k + j < cur.size := by omega
          simp [World.cell?, hh, this]) (fun j hj => World.ownsRow.frozenAt hv0 _)
        rw [hr] at hrun
        injection hrun with e1 e2
        subst e1
        exact fun g' hg' => .inl hg'
      · obtain ⟨v2, w2, hr, r1, _⟩ := run_append_arg_grows (P := P) w t ty e i z k bytes ht hi hz hsize hby hzs hk ⟨g, 0, none⟩ n cap xs hv0.1 (fun j u hu => by
          have hj : j < xs.length := (List.getElem?_eq_some_iff.1 hu).1
          rw [Addr.add_lit, Nat.zero_add, World.ownsRow.cellAt hv0 j (by have := hv0.1; omega)]
          exact hu) x m c news (by omega) hc (by omega) hmax hbytes
        rw [hr] at hrun
        injection hrun with e1 e2
        subst e1
        exact fun g' hg' => .inr (r1.lt g' hg').1
/-- The append, with all that is known of it. -/
theorem run_append_full (k : Nat) (hk : 0 < k) (B : Nat) (t ty e : TypeId) (i : TypeInfo) (z : Value) (bytes : Nat) (ht : P.underlying t = some (.slice e)) (hi : P.info? e = some i) (hz : i.zero = some z)
    (hsize : i.size = k) (hby : i.bytes = bytes) (hzs : z.cells.size = k)
    (v u : Value) (n m : Nat) (xs news : List Value) (hv : w.ownsRow B e k v n xs) (hu : Rn k w u m news) (h1 : ∀ x ∈ news, x.oneCell' = true)
    (hbytes : (n + m) * bytes ≤ 140737488355328) (hmax : n + m ≤ maxLen) (hB : B ≤ w.heap.size) :
    ∃ A c w', (Builtin.append_ #[t, t] ty #[v, u]).run P w = .ok (.slice A (n + m) c) w' ∧ w'.ownsRow B e k (.slice A (n + m) c) (n + m) (xs ++ news) ∧ Below B w w' ∧ w.grownBy w' v.ownBlock ∧ ∀ g, (Value.slice A (n + m) c).ownBlock = some g → v.ownBlock = some g ∨ w.heap.size ≤ g := by
  obtain ⟨v', w', hr, h2, h3, h4⟩ := run_append_ok (P := P) w k hk B t ty e i z bytes ht hi hz hsize hby hzs v u n m xs news hv hu h1 hbytes hmax hB
  have hb := append_blk (P := P) w k hk B t ty e i z bytes ht hi hz hsize hby hzs v u n m xs news hv hu h1 hbytes hmax hr
  obtain ⟨A, c, rfl⟩ : ∃ A c, v' = .slice A (n + m) c := by
    rcases h2.2 with ⟨rfl, h0⟩ | ⟨g, cap, cur, rfl, _⟩
    · exact ⟨none, 0, by rw [h0]⟩
    · exact ⟨_, _, rfl⟩
  exact ⟨A, c, w', hr, h2, h3, h4, hb⟩
end
end Go.Proofs.Ytebakjdeighdnaa

/-
  A section under way, in memory: the encoder, the draft, its rows.
-/
namespace Go.Proofs.Ytebakjdeighdnaa
open Go.RowKit Go.Maps
set_option linter.unusedVariables false

/-- What the encoder holds while a section of stream s is under way. -/
def qcD (N : Nat) (E : Qe) (s : Nat) (a : Qa) (aa : Nat → Nat) (LV : LvT) : Qc := ⟨E.said, E.B, E.K, E.err, N, a.T, secF aa LV, queF aa LV, useF (cntU (E.op ++ [⟨s, a.c, a.u⟩])), blkD (blkF (E.op ++ [⟨s, a.c, a.u⟩]) E.K), E.rest⟩
def PqD (q p N : Nat) (E : Qe) (s : Nat) (a : Qa) : Wx := fun w S => ∃ aa LV, Lv E.op aa LV N ∧ Raw q p (qcD N E s a aa LV) (Zl LV) w S
theorem Wd.pqD (q p N : Nat) (E : Qe) (s : Nat) (a : Qa) : Wd (PqD q p N E s a) := by
  constructor
  · rintro w S ⟨aa, LV, h1, h2⟩ k hk
    exact (Wd.raw _ _ _ _).lt h2 k hk
  · rintro w w' S ⟨aa, LV, h1, h2⟩ hs hb
    exact ⟨aa, LV, h1, (Wd.raw _ _ _ _).kept h2 hs hb⟩
/-- The cells of the draft. -/
def drF (q s : Nat) (oV pV lV : Value) (i : Nat) : Value := if i = 0 then .pointer (some ⟨q, 0, none⟩) else if i = 1 then .int .u64 (s : Int) else if i = 2 then oV else if i = 3 then pV else lV
def lnc (y : Ql × Value) : List Value := [y.2, .bool (decide (y.1.k = 1)), .int .u64 ((if y.1.k = 1 then y.1.i else 0 : Nat) : Int)]
theorem lnc_length (l : List (Ql × Value)) : (l.flatMap lnc).length = l.length * 3 := by
  induction l with
  | nil => rfl
  | cons a l ih => rw [List.flatMap_cons, List.length_append, ih]; simp [lnc]; omega
def OwLn (w : World) (B : Nat) (v : Value) (ln : List (Ql × Value)) : Prop := w.ownsRow B 69 3 v ln.length (ln.flatMap lnc)
/-- The lines' bytes. -/
def Zd (ln : List (Ql × Value)) (W : World) : Prop := ∀ y ∈ ln, (∃ A n c, y.2 = .slice A n c) ∧ (y.1.k = 1 → y.2 = .slice none 0 0) ∧ (y.1.k ≠ 1 → Bs W y.2 (lineW 0 y.1))
structure Dr (q p N s d : Nat) (E : Qe) (S : Nat → Prop) (w : World) (a : Qa) (ins : List UInt8) (pl : List Nat) (ln : List (Ql × Value)) (oV pV lV : Value) (e T : Nat → Prop) (wx : World) : Prop where
  enc : PqD q p N E s a wx e
  row : wx.rowIs d 52 5 (drF q s oV pV lV)
  o : OwB wx w.heap.size oV ins
  p : OwU wx w.heap.size pV pl
  l : OwLn wx w.heap.size lV ln
  z : Ob (Zd ln) wx T
  dB : w.heap.size ≤ d
  ed : ¬ e d
  eo : ∀ k, oV.ownBlock = some k → ¬ e k
  ep : ∀ k, pV.ownBlock = some k → ¬ e k
  el : ∀ k, lV.ownBlock = some k → ¬ e k
  et : ∀ k, T k → w.heap.size ≤ k ∧ ¬ e k ∧ k ≠ d ∧ oV.ownBlock ≠ some k ∧ pV.ownBlock ≠ some k ∧ lV.ownBlock ≠ some k
  es : ∀ k, e k → S k ∨ w.heap.size ≤ k
  fp : Fp S w wx
theorem own_ne {w : World} {B B' k k' n n' : Nat} {ty ty' : TypeId} {v v' : Value} {xs xs' : List Value} (h : w.ownsRow B ty k v n xs) (h' : w.ownsRow B' ty' k' v' n' xs') (ht : ty ≠ ty') : ∀ g, v.ownBlock = some g → v'.ownBlock ≠ some g := fun g hg hg' => by
  obtain ⟨c, hc⟩ := own_blk h hg
  obtain ⟨c', hc'⟩ := own_blk h' hg'
  rw [hc] at hc'
  injection hc' with hc'
  injection hc' with _ e _
  exact ht e
theorem own_row_ne {w : World} {B k n d m : Nat} {ty ty' : TypeId} {v : Value} {xs : List Value} {F : Nat → Value} (h : w.ownsRow B ty k v n xs) (hr : w.rowIs d ty' m F) (ht : ty ≠ ty') : ∀ g, v.ownBlock = some g → g ≠ d := fun g hg e => by
  subst e
  obtain ⟨c, hc⟩ := own_blk h hg
  obtain ⟨c', hc', _⟩ := hr
  rw [hc] at hc'
  injection hc' with hc'
  injection hc' with _ e _
  exact ht e
theorem own_keep8 {w w' : World} {B k n : Nat} {ty : TypeId} {v : Value} {xs : List Value} (h : w.ownsRow B ty k v n xs) {S : Nat → Prop} (hf : Fp S w w') (hd : ∀ g, v.ownBlock = some g → ¬ S g) : w'.ownsRow B ty k v n xs :=
  own_kept h fun g hg => hf.block g (h.lt g hg).2 (hd g hg)
section
variable {q p N N' s d : Nat} {E : Qe} {S : Nat → Prop} {w wx wy : World} {a a' : Qa} {ins ins' : List UInt8} {pl pl' : List Nat} {ln ln' : List (Ql × Value)} {oV pV lV oV' pV' lV' : Value} {e T : Nat → Prop}
theorem Dr.keep (h : Dr q p N s d E S w a ins pl ln oV pV lV e T wx) (hb : Below wx.heap.size wx wy) : Dr q p N s d E S w a ins pl ln oV pV lV e T wy :=
  ⟨(Wd.pqD _ _ _ _ _ _).keep h.enc hb, h.row.of_block (hb.block d h.row.lt), h.o.keep hb, ownN_keep h.p hb, ownN_keep h.l hb, (Wd.ob _).keep h.z hb, h.dB, h.ed, h.eo, h.ep, h.el, h.et, h.es, h.fp.then (Fp.of_below hb)⟩
theorem Dr.cells (h : Dr q p N s d E S w a ins pl ln oV pV lV e T wx) : wx.cell? ⟨d, 0, none⟩ = some (.pointer (some ⟨q, 0, none⟩)) ∧ wx.cell? ⟨d, 1, none⟩ = some (.int .u64 (s : Int)) ∧ wx.cell? ⟨d, 2, none⟩ = some oV ∧ wx.cell? ⟨d, 3, none⟩ = some pV ∧ wx.cell? ⟨d, 4, none⟩ = some lV ∧ ∀ i, wx.frozen? ⟨d, i, none⟩ = false :=
  ⟨h.row.cell (i := 0) (by omega), h.row.cell (i := 1) (by omega), h.row.cell (i := 2) (by omega), h.row.cell (i := 3) (by omega), h.row.cell (i := 4) (by omega), fun i => h.row.frozen i⟩
theorem Dr.ecell (h : Dr q p N s d E S w a ins pl ln oV pV lV e T wx) : wx.cell? ⟨q, 0, none⟩ = some (.pointer (some ⟨p, 0, none⟩)) := by
  obtain ⟨aa, LV, _, bs, bq, bu, bb, vR, S1, S2, hp, _⟩ := h.enc
  exact hp.cells.1
theorem Dr.dlt (h : Dr q p N s d E S w a ins pl ln oV pV lV e T wx) : d < wx.heap.size := h.row.lt
theorem Dr.elt (h : Dr q p N s d E S w a ins pl ln oV pV lV e T wx) : ∀ k, e k → k < wx.heap.size := (Wd.pqD _ _ _ _ _ _).lt h.enc
/-- The encoder turns. -/
theorem Dr.encT (h : Dr q p N s d E S w a ins pl ln oV pV lV e T wx) (ht : Turn (PqD q p N' E s a') e wx wy) : ∃ e', Dr q p N' s d E S w a' ins pl ln oV pV lV e' T wy := by
  obtain ⟨e', x, s', f⟩ := ht
  have hnew : ∀ k, k < wx.heap.size → ¬ e k → ¬ e' k := fun k hk hn hh => (s' k hh).elim hn fun hge => by omega
  exact ⟨e', x, h.row.of_block (f.block d h.row.lt h.ed), h.o.kept fun k hk => f.block k (h.o.lt hk) (h.eo k hk), own_keep8 h.p f h.ep, own_keep8 h.l f h.el, (Wd.ob _).besides h.z f fun k hk => (h.et k hk).2.1, h.dB, hnew d h.row.lt h.ed,
    fun k hk => hnew k (h.o.lt hk) (h.eo k hk), fun k hk => hnew k (h.p.lt k hk).2 (h.ep k hk), fun k hk => hnew k (h.l.lt k hk).2 (h.el k hk), fun k hk => by
      obtain ⟨t1, t2, t3⟩ := h.et k hk
      exact ⟨t1, hnew k (h.z.1 k hk) t2, t3⟩, fun k hk => (s' k hk).elim (h.es k) fun hge => .inr (Nat.le_trans h.fp.size hge), h.fp.trans f h.es⟩
theorem drF_2 (q s : Nat) (oV oV' pV lV : Value) : ∀ j, j < 5 → (if j = 2 then oV' else drF q s oV pV lV j) = drF q s oV' pV lV j := fun j hj => by
  unfold drF
  match j, hj with
  | 0, _ => rfl
  | 1, _ => rfl
  | 2, _ => rfl
  | 3, _ => rfl
  | 4, _ => rfl
theorem drF_3 (q s : Nat) (oV pV pV' lV : Value) : ∀ j, j < 5 → (if j = 3 then pV' else drF q s oV pV lV j) = drF q s oV pV' lV j := fun j hj => by
  unfold drF
  match j, hj with
  | 0, _ => rfl
  | 1, _ => rfl
  | 2, _ => rfl
  | 3, _ => rfl
  | 4, _ => rfl
theorem drF_4 (q s : Nat) (oV pV lV lV' : Value) : ∀ j, j < 5 → (if j = 4 then lV' else drF q s oV pV lV j) = drF q s oV pV lV' j := fun j hj => by
  unfold drF
  match j, hj with
  | 0, _ => rfl
  | 1, _ => rfl
  | 2, _ => rfl
  | 3, _ => rfl
  | 4, _ => rfl
theorem fp_set (g i : Nat) (v : Value) (w : World) : Fp (fun k => k = g) w (w.setCell ⟨g, i, none⟩ v) := Fp.set _ _ _ _ rfl
/-- What is ordered has grown. -/
theorem Dr.ord (h : Dr q p N s d E S w a ins pl ln oV pV lV e T wx) (hg : wx.grownBy wy oV.ownBlock) (hv : ∀ g, oV'.ownBlock = some g → oV.ownBlock = some g ∨ wx.heap.size ≤ g) (ho : OwB wy w.heap.size oV' ins') :
    Dr q p N s d E S w a ins' pl ln oV' pV lV e T (wy.setCell ⟨d, 2, none⟩ oV') := by
  have f : Fp (fun k => oV.ownBlock = some k) wx wy := Fp.of_grown hg fun k hk => hk
  have hp' := own_ne h.p h.o (by decide)
  have hl' := own_ne h.l h.o (by decide)
  have hod := own_row_ne h.o h.row (by decide)
  have hpd := own_row_ne h.p h.row (by decide)
  have hld := own_row_ne h.l h.row (by decide)
  have enc1 := (Wd.pqD _ _ _ _ _ _).besides h.enc f fun k hk hh => h.eo k hh hk
  have row1 := h.row.of_block (f.block d h.row.lt fun hh => hod d hh rfl)
  have p1 := own_keep8 h.p f fun g hg => hp' g hg
  have l1 := own_keep8 h.l f fun g hg => hl' g hg
  have z1 := (Wd.ob _).besides h.z f fun k hk => (h.et k hk).2.2.2.1
  have hlt : ∀ k, e k → k < wx.heap.size := h.elt
  have hdlt := h.dlt
  have hvo : ∀ g, oV'.ownBlock = some g → g ≠ d := fun g hg hh => (hv g hg).elim (fun h1 => hod g h1 hh) fun h1 => by omega
  have f2 := fp_set d 2 oV' wy
  refine ⟨(Wd.pqD _ _ _ _ _ _).besides enc1 f2 (fun k hk hh => h.ed (hh ▸ hk)), (row1.set 2 oV').congr (drF_2 q s oV oV' pV lV), ho.kept fun k hk => f2.block k (ho.lt hk) (hvo k hk), own_keep8 p1 f2 hpd, own_keep8 l1 f2 hld, (Wd.ob _).besides z1 f2 (fun k hk => (h.et k hk).2.2.1), h.dB, h.ed,
    fun k hk => (hv k hk).elim (h.eo k) (fun h1 hh => by have := hlt k hh; omega), h.ep, h.el, fun k hk => ?_, h.es, (h.fp.trans f fun k hk => .inr (h.o.ge hk)).trans f2 fun k hk => .inr (by rw [hk]; exact h.dB)⟩
  obtain ⟨t1, t2, t3, t4, t5, t6⟩ := h.et k hk
  exact ⟨t1, t2, t3, fun hh => (hv k hh).elim t4 fun h1 => by have := h.z.1 k hk; omega, t5, t6⟩
/-- The places have grown. -/
theorem Dr.plc (h : Dr q p N s d E S w a ins pl ln oV pV lV e T wx) (hg : wx.grownBy wy pV.ownBlock) (hv : ∀ g, pV'.ownBlock = some g → pV.ownBlock = some g ∨ wx.heap.size ≤ g) (ho : OwU wy w.heap.size pV' pl') :
    Dr q p N s d E S w a ins pl' ln oV pV' lV e T (wy.setCell ⟨d, 3, none⟩ pV') := by
  have f : Fp (fun k => pV.ownBlock = some k) wx wy := Fp.of_grown hg fun k hk => hk
  have ho' := own_ne h.o h.p (by decide)
  have hl' := own_ne h.l h.p (by decide)
  have hod := own_row_ne h.o h.row (by decide)
  have hpd := own_row_ne h.p h.row (by decide)
  have hld := own_row_ne h.l h.row (by decide)
  have enc1 := (Wd.pqD _ _ _ _ _ _).besides h.enc f fun k hk hh => h.ep k hh hk
  have row1 := h.row.of_block (f.block d h.row.lt fun hh => hpd d hh rfl)
  have o1 : OwB wy w.heap.size oV ins := h.o.kept fun k hk => f.block k (h.o.lt hk) (ho' k hk)
  have l1 := own_keep8 h.l f fun g hg => hl' g hg
  have z1 := (Wd.ob _).besides h.z f fun k hk => (h.et k hk).2.2.2.2.1
  have hlt : ∀ k, e k → k < wx.heap.size := h.elt
  have hdlt := h.dlt
  have hvo : ∀ g, pV'.ownBlock = some g → g ≠ d := fun g hg hh => (hv g hg).elim (fun h1 => hpd g h1 hh) fun h1 => by omega
  have f2 := fp_set d 3 pV' wy
  refine ⟨(Wd.pqD _ _ _ _ _ _).besides enc1 f2 (fun k hk hh => h.ed (hh ▸ hk)), (row1.set 3 pV').congr (drF_3 q s oV pV pV' lV), o1.kept fun k hk => f2.block k (o1.lt hk) (hod k hk), own_keep8 ho f2 hvo, own_keep8 l1 f2 hld, (Wd.ob _).besides z1 f2 (fun k hk => (h.et k hk).2.2.1), h.dB, h.ed,
    h.eo, fun k hk => (hv k hk).elim (h.ep k) (fun h1 hh => by have := hlt k hh; omega), h.el, fun k hk => ?_, h.es, (h.fp.trans f fun k hk => .inr (h.p.lt k hk).1).trans f2 fun k hk => .inr (by rw [hk]; exact h.dB)⟩
  obtain ⟨t1, t2, t3, t4, t5, t6⟩ := h.et k hk
  exact ⟨t1, t2, t3, t4, fun hh => (hv k hh).elim t5 fun h1 => by have := h.z.1 k hk; omega, t6⟩
/-- A line more; its bytes lie in blocks that were made since wx. -/
theorem Dr.lin {w4 : World} (h : Dr q p N s d E S w a ins pl ln oV pV lV e T wx) (hb : Below wx.heap.size wx w4) {y : Ql × Value} {T3 : Nat → Prop} (hz : Ob (Zd [y]) w4 T3) (hT : ∀ k, T3 k → wx.heap.size ≤ k) (hg : w4.grownBy wy lV.ownBlock) (hv : ∀ g, lV'.ownBlock = some g → lV.ownBlock = some g ∨ w4.heap.size ≤ g) (ho : OwLn wy w.heap.size lV' (ln ++ [y])) :
    Dr q p N s d E S w a ins pl (ln ++ [y]) oV pV lV' e (fun k => T k ∨ T3 k) (wy.setCell ⟨d, 4, none⟩ lV') := by
  have h4 := h.keep hb
  have f : Fp (fun k => lV.ownBlock = some k) w4 wy := Fp.of_grown hg fun k hk => hk
  have ho' := own_ne h4.o h4.l (by decide)
  have hp' := own_ne h4.p h4.l (by decide)
  have hod := own_row_ne h4.o h4.row (by decide)
  have hpd := own_row_ne h4.p h4.row (by decide)
  have hld := own_row_ne h4.l h4.row (by decide)
  have enc1 := (Wd.pqD _ _ _ _ _ _).besides h4.enc f fun k hk hh => h.el k hh hk
  have row1 := h4.row.of_block (f.block d h4.row.lt fun hh => hld d hh rfl)
  have o1 : OwB wy w.heap.size oV ins := h4.o.kept fun k hk => f.block k (h4.o.lt hk) (ho' k hk)
  have p1 := own_keep8 h4.p f fun g hg => hp' g hg
  have hl3 : ∀ k, T3 k → lV.ownBlock ≠ some k := fun k hk hh => by have := (h.l.lt k hh).2; have := hT k hk; omega
  have z1 := (Wd.ob _).besides h4.z f fun k hk => (h.et k hk).2.2.2.2.2
  have z2 := (Wd.ob _).besides hz f hl3
  have hlt : ∀ k, e k → k < wx.heap.size := h.elt
  have hdlt := h.dlt
  have hsz := hb.size
  have hvo : ∀ g, lV'.ownBlock = some g → g ≠ d := fun g hg hh => (hv g hg).elim (fun h1 => hld g h1 hh) fun h1 => by omega
  have f2 := fp_set d 4 lV' wy
  have hT3d : ∀ k, T3 k → k ≠ d := fun k hk e => by have := hT k hk; omega
  have zz : Ob (Zd (ln ++ [y])) (wy.setCell ⟨d, 4, none⟩ lV') (fun k => T k ∨ T3 k) := (((Wd.ob _).besides z1 f2 (fun k hk => (h.et k hk).2.2.1)).and ((Wd.ob _).besides z2 f2 hT3d)).map fun W hW x hx => (List.mem_append.1 hx).elim (hW.1 x) (hW.2 x)
  refine ⟨(Wd.pqD _ _ _ _ _ _).besides enc1 f2 (fun k hk hh => h.ed (hh ▸ hk)), (row1.set 4 lV').congr (drF_4 q s oV pV lV lV'), o1.kept fun k hk => f2.block k (o1.lt hk) (hod k hk), own_keep8 p1 f2 hpd, own_keep8 ho f2 hvo, zz, h.dB, h.ed,
    h.eo, h.ep, fun k hk => (hv k hk).elim (h.el k) (fun h1 hh => by have := hlt k hh; omega), fun k hk => ?_, h.es, (h4.fp.trans f fun k hk => .inr (h.l.lt k hk).1).trans f2 fun k hk => .inr (by rw [hk]; exact h.dB)⟩
  rcases hk with hk | hk
  · obtain ⟨t1, t2, t3, t4, t5, t6⟩ := h.et k hk
    exact ⟨t1, t2, t3, t4, t5, fun hh => (hv k hh).elim t6 fun h1 => by have := h.z.1 k hk; omega⟩
  · have hge := hT k hk
    have hlt4 := hz.1 k hk
    exact ⟨Nat.le_trans h.fp.size hge, fun hh => by have := hlt k hh; omega, hT3d k hk, fun hh => by have := h.o.lt hh; omega, fun hh => by have := (h.p.lt k hh).2; omega, fun hh => (hv k hh).elim (hl3 k hk) fun h1 => by omega⟩
end
end Go.Proofs.Ytebakjdeighdnaa
