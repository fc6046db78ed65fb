/-
  QUIC's frames, the document's writing: numbers appended; what is no row of bytes stands.
-/
import Derived.Test.YtcakppdabolfiaaWqA
import Derived.Test.YtcakppdabolfiaaApN
import Derived.Test.YtcakppdabolfiaaSbW
namespace Go.Proofs.Ytcakppdabolfiaa
open Go.RowKit
set_option linter.unusedVariables false
set_option linter.unusedSimpArgs false

theorem Sb.rd {t : TypeId} {w : World} {g n : Nat} {cs : Array Value} {l : List Value} (h : Sb t w g cs) (hn : l.length = n) (hc : cs.toList = l) (hm : n ≤ maxLen) : Rd w (.slice (some ⟨g, 0, none⟩) n n) l := by
  subst hn
  refine ⟨_, _, rfl, Nat.le_refl _, hm, .inr ⟨_, rfl, fun j u hj => ?_⟩⟩
  rw [Addr.add_lit, Nat.zero_add, h.cell j, ← Array.getElem?_toList, hc]
  exact hj
theorem Nv.cell {w : World} {b o c L : Nat} {l : List Nat} (h : Rd w (.slice (some ⟨b, o, none⟩) L c) (l.map nv)) (k : Nat) (hk : k < l.length) : w.cell? ⟨b, o + k, none⟩ = some (.int .u64 (l[k] : Int)) := by
  obtain ⟨b', o', c', e, _, _, _, hc⟩ := Rd.at_ h (by simp; omega)
  injection e with e1 e2 e3
  injection e1 with e1
  injection e1 with e4 e5 e6
  subst e4; subst e5
  exact hc k _ (by rw [List.getElem?_map, List.getElem?_eq_getElem hk]; rfl)
theorem nonB_u64 {w w' : World} {g : Nat} {cs : Array Value} (h : NonB w w') (hs : Sb 22 w g cs) : Sb 22 w' g cs := h.fb hs (by decide)
theorem refVarN_0 (B : Nat) (bV : Value) (bl : List UInt8) (x : Nat) (w : World) (hb : ApB w B bV bl) (hB : B ≤ w.heap.size) (hbl : bl.length ≤ 200000) (hx : x < 64) :
    Calls Try.prog 55 #[bV, .int .u64 x] w fun e w' => ∃ v', e = .returned (.tuple #[v', .int .i64 0]) ∧ ApB w' B v' (bl ++ bes x 1) ∧ Below B w w' ∧ NonB w w' := by
  obtain ⟨i0, hi, hz, hz1, hz2⟩ := info_parts infoU8n
  have Hi := Lib.hid hi
  have Hz := Lib.hid hz
  have Hz1 := Lib.hid hz1
  have Hz2 := Lib.hid hz2
  clear hi hz hz1 hz2
  have hc := (clsLen_at (x : Int)).1 (by omega)
  go_enter Try.func55, Try.ntmps55
  go_wp2_with (first
    | (go_at_call 70; refine (refVarLen_any _ (by omega) (by omega) _).mono ?_; rintro e w' ⟨rfl, rfl⟩)
    | (at_builtin
       refine wpList_append_apn _ rfl _ _ 36 rfl B i0 (.int .u8 0) 1 Try.underlying36 Hi.out Hz.out Hz1.out Hz2.out rfl _ _ (bl.map bv) _ rfl rfl (hb.alloc _) (Rd.lit w 5 _ 1 rfl (by simp [maxLen])) (by simp [Value.oneCell']) (by simp; omega) (by simp [maxLen]; omega) (by simp; omega) ?_
       intro v2 w2 hap2 hb2 hn2))
  go_ret2
  refine ⟨_, rfl, ?_, ((Below.refl _ _).alloc hB _).trans hb2, (NonB.alloc _ _).trans hn2⟩
  unfold ApB
  rw [List.map_append, bes_one _ (by omega) (by omega)]
  exact hap2

theorem refVarN_1 (B : Nat) (bV : Value) (bl : List UInt8) (x : Nat) (w : World) (hb : ApB w B bV bl) (hB : B ≤ w.heap.size) (hbl : bl.length ≤ 200000) (hx0 : 64 ≤ x) (hx : x < 16384) :
    Calls Try.prog 55 #[bV, .int .u64 x] w fun e w' => ∃ v', e = .returned (.tuple #[v', .int .i64 0]) ∧ ApB w' B v' (bl ++ bes ((x : Int) + 16384) 2) ∧ Below B w w' ∧ NonB w w' := by
  have hc := (clsLen_at (x : Int)).2.1 (by omega) (by omega)
  have hor : bits .or .u64 (x : Int) 16384 = (x : Int) + 16384 := or_mark' _ 14 1 _ (by rfl) (by omega) (by omega)
  go_enter Try.func55, Try.ntmps55
  go_wp2_with (first
    | (go_at_call 70; refine (refVarLen_any _ (by omega) (by omega) _).mono ?_; rintro e w' ⟨rfl, rfl⟩)
    | (go_at_call 54; refine (refBig_apn B _ bl ((x : Int) + 16384) 2 _ hb hB (by omega) (by omega) (by omega)).mono ?_; rintro e w2 ⟨v2, rfl, hap2, hb2, hn2⟩))
  go_ret2
  exact ⟨_, rfl, hap2, hb2, hn2⟩

theorem refVarN_2 (B : Nat) (bV : Value) (bl : List UInt8) (x : Nat) (w : World) (hb : ApB w B bV bl) (hB : B ≤ w.heap.size) (hbl : bl.length ≤ 200000) (hx0 : 16384 ≤ x) (hx : x < 1073741824) :
    Calls Try.prog 55 #[bV, .int .u64 x] w fun e w' => ∃ v', e = .returned (.tuple #[v', .int .i64 0]) ∧ ApB w' B v' (bl ++ bes ((x : Int) + 2147483648) 4) ∧ Below B w w' ∧ NonB w w' := by
  have hc := (clsLen_at (x : Int)).2.2.1 (by omega) (by omega)
  have hor : bits .or .u64 (x : Int) 2147483648 = (x : Int) + 2147483648 := or_mark' _ 30 2 _ (by rfl) (by omega) (by omega)
  go_enter Try.func55, Try.ntmps55
  go_wp2_with (first
    | (go_at_call 70; refine (refVarLen_any _ (by omega) (by omega) _).mono ?_; rintro e w' ⟨rfl, rfl⟩)
    | (go_at_call 54; refine (refBig_apn B _ bl ((x : Int) + 2147483648) 4 _ hb hB (by omega) (by omega) (by omega)).mono ?_; rintro e w2 ⟨v2, rfl, hap2, hb2, hn2⟩))
  go_ret2
  exact ⟨_, rfl, hap2, hb2, hn2⟩

theorem refVarN_3 (B : Nat) (bV : Value) (bl : List UInt8) (x : Nat) (w : World) (hb : ApB w B bV bl) (hB : B ≤ w.heap.size) (hbl : bl.length ≤ 200000) (hx0 : 1073741824 ≤ x) (hx : x < 4611686018427387904) :
    Calls Try.prog 55 #[bV, .int .u64 x] w fun e w' => ∃ v', e = .returned (.tuple #[v', .int .i64 0]) ∧ ApB w' B v' (bl ++ bes ((x : Int) + 13835058055282163712) 8) ∧ Below B w w' ∧ NonB w w' := by
  have hc := (clsLen_at (x : Int)).2.2.2.1 (by omega) (by omega)
  have hor : bits .or .u64 (x : Int) 13835058055282163712 = (x : Int) + 13835058055282163712 := or_mark' _ 62 3 _ (by rfl) (by omega) (by omega)
  go_enter Try.func55, Try.ntmps55
  go_wp2_with (first
    | (go_at_call 70; refine (refVarLen_any _ (by omega) (by omega) _).mono ?_; rintro e w' ⟨rfl, rfl⟩)
    | (go_at_call 54; refine (refBig_apn B _ bl ((x : Int) + 13835058055282163712) 8 _ hb hB (by omega) (by omega) (by omega)).mono ?_; rintro e w2 ⟨v2, rfl, hap2, hb2, hn2⟩))
  go_ret2
  exact ⟨_, rfl, hap2, hb2, hn2⟩

theorem refVarN_ok (B : Nat) (bV : Value) (bl : List UInt8) (x : Nat) (w : World) (hb : ApB w B bV bl) (hB : B ≤ w.heap.size) (hbl : bl.length ≤ 200000) (hx : x < 4611686018427387904) :
    Calls Try.prog 55 #[bV, .int .u64 x] w fun e w' => ∃ v', e = .returned (.tuple #[v', .int .i64 0]) ∧ ApB w' B v' (bl ++ varB x) ∧ Below B w w' ∧ NonB w w' := by
  rcases cls_cases (x : Int) (by omega) (by omega) with ⟨h1, he⟩ | ⟨h0, h1, he⟩ | ⟨h0, h1, he⟩ | ⟨h0, he⟩ <;> rw [he]
  · exact refVarN_0 B bV bl x w hb hB hbl (by omega)
  · exact refVarN_1 B bV bl x w hb hB hbl (by omega) (by omega)
  · exact refVarN_2 B bV bl x w hb hB hbl (by omega) (by omega)
  · exact refVarN_3 B bV bl x w hb hB hbl (by omega) (by omega)
theorem wVars_snoc (l : List Nat) (k : Nat) (h : k < l.length) : wVars (l.take (k + 1)) = wVars (l.take k) ++ varB (l[k] : Int) := by
  unfold wVars
  rw [List.take_succ_eq_append_getElem h, List.flatMap_append]
  simp
theorem varB_len8 (x : Nat) : (varB (x : Int)).length ≤ 8 := by
  unfold varB
  rw [bes_length]
  unfold clsLen
  repeat' split
  all_goals decide
theorem wVars_len (l : List Nat) : (wVars l).length ≤ 8 * l.length := by
  induction l with
  | nil => simp [wVars]
  | cons x l ih =>
    have := varB_len8 x
    rw [wVars_cons, List.length_append, List.length_cons]
    omega
set_option maxHeartbeats 4000000 in
theorem refVarsN_ok (B : Nat) (bV lV : Value) (bl : List UInt8) (l : List Nat) (w : World) (hb : ApB w B bV bl) (hB : B ≤ w.heap.size) (hlB : ∀ (w' : World), NonB w w' → Rd w' lV (l.map nv)) (hbl : bl.length ≤ 100000) (hll : l.length ≤ 100) (hf : fitsN l) :
    Calls Try.prog 41 #[bV, lV] w fun e w' => ∃ v', e = .returned (.tuple #[v', .int .i64 0]) ∧ ApB w' B v' (bl ++ wVars l) ∧ Below B w w' ∧ NonB w w' := by
  have HF := Bx.mk hf
  obtain ⟨A, c, rfl, h1, h2, _⟩ := hlB w (NonB.refl _)
  rw [List.length_map] at h1
  have HV := Bx.mk hlB
  rw [List.length_map] at HV ⊢
  obtain ⟨L, hL⟩ : ∃ n, l.length = n := ⟨_, rfl⟩
  rw [hL] at h1 HV ⊢
  unfold maxLen at h2
  have HL := Bx.mk (And.intro hL hll)
  have HBL := Bx.mk hbl
  have HAP := Bx.mk hb
  clear hlB hf hbl hb hL
  go_enter Try.func41, Try.ntmps41
  go_wp2_with fail
  go_loopg [0, 6] L (fun g s0 s6 wx => ∃ (k : Nat), k + g = L ∧ s6 = .int .i64 k ∧ Bx (ApB wx B s0 (bl ++ wVars (l.take k))) ∧ Bx (Below B w wx) ∧ Bx (NonB w wx))
  case atStart => exact ⟨0, by omega, rfl, ⟨by rw [List.take_zero, wVars_nil, List.append_nil]; exact HAP.out⟩, ⟨Below.refl _ _⟩, ⟨NonB.refl _⟩⟩
  case round =>
    obtain ⟨k, hkg, rfl, HB, HK, HN⟩ := hrel
    cases gk with
    | zero =>
      obtain rfl : k = L := by omega
      have hkd : decide ((k : Int) < (k : Int)) = false := by simp
      have hkd' : decide (k < k) = false := by simp
      have HE : Bx (ApB wr B u0 (bl ++ wVars l)) := ⟨by have := HB.out; rw [List.take_of_length_le (by have := HL.out.1; omega)] at this; exact this⟩
      go_wp2_with fail
      go_ret2
      exact ⟨_, rfl, HE.out, HK.out, HN.out⟩
    | succ g =>
      have hkl : k < l.length := by have := HL.out.1; omega
      have hkd : decide ((k : Int) < (L : Int)) = true := decide_eq_true (by omega)
      have hkd' : decide (k < L) = true := decide_eq_true (by omega)
      have HWK : Bx (wrap64 ((k : Int) + 1) = ((k + 1 : Nat) : Int)) := ⟨by unfold wrap64; omega⟩
      obtain ⟨b, o, rfl⟩ := Rd.place (HV.out w (NonB.refl _)) (by simp; omega)
      have hc := Nv.cell (HV.out wr HN.out) k hkl
      have hxl := HF.out l[k] (List.getElem_mem hkl)
      have HSN := Bx.mk (wVars_snoc l k hkl)
      obtain ⟨x, hx⟩ : ∃ x, l[k] = x := ⟨_, rfl⟩
      rw [hx] at HSN hxl
      rw [hx] at hc
      clear hx
      have HKG := Bx.mk hkg
      have HLL : Bx ((bl ++ wVars (l.take k)).length ≤ 200000) := ⟨by
        have h1 := wVars_len (l.take k)
        have h2 := HBL.out
        have h3 := HL.out
        rw [List.length_take] at h1
        rw [List.length_append]
        omega⟩
      have HX := Bx.mk hxl
      have HBZ := Bx.mk (Nat.le_trans hB HK.out.size)
      go_wp2_with (go_at_call 55; refine (refVarN_ok B _ _ x _ HB.out HBZ.out HLL.out (by have := HX.out; unfold mv at this; omega)).mono ?_; rintro e w3 ⟨v3, rfl, h3, b3, n3⟩; have H3 := Bx.mk h3; have B3 := Bx.mk (HK.out.trans b3); have N3 := Bx.mk (HN.out.trans n3); clear h3 b3 n3)
      go_roundg g
      case measure => exact Nat.lt_succ_self _
      case rel =>
        refine ⟨k + 1, by have := HKG.out; omega, by first | rfl | (rw [HWK.out]) | (congr 1), ⟨?_⟩, B3, N3⟩
        rw [HSN.out, ← List.append_assoc]
        exact H3.out
set_option maxHeartbeats 4000000 in
theorem refPutN_ok (B : Nat) (bV lV : Value) (bl : List UInt8) (l : List Nat) (w : World) (hb : ApB w B bV bl) (hB : B ≤ w.heap.size) (hlB : ∀ (w' : World), NonB w w' → Rd w' lV (l.map nv)) (hbl : bl.length ≤ 100000) (hll : l.length ≤ 100) (hl : fitsN l) :
    Calls Try.prog 77 #[bV, lV] w fun e w' => ∃ v', e = .returned v' ∧ ApB w' B v' (bl ++ wVars l) ∧ Below B w w' ∧ NonB w w' := by
  have HC := refVarsN_ok B bV lV bl l w hb hB hlB hbl hll hl
  clear hb hlB hl
  go_enter Try.func77, Try.ntmps77
  go_wp2_with (go_at_call 41; refine HC.mono ?_; rintro e w' ⟨v', rfl, h1, h2, h3⟩; have H1 := Bx.mk h1; have H2 := Bx.mk h2; have H3 := Bx.mk h3; clear h1 h2 h3)
  go_ret
  exact ⟨_, rfl, H1.out, H2.out, H3.out⟩
end Go.Proofs.Ytcakppdabolfiaa
