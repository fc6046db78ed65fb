/-
  Contracts of the document's Var, Vars.
-/
import Derived.Test.YtcakppdabolfiaaNumE
namespace Go.Proofs.Ytcakppdabolfiaa
open Go.RowKit
set_option linter.unusedVariables false

theorem clsLen_at (v : Int) : (v < 64 → clsLen v = 1) ∧ (64 ≤ v → v < 16384 → clsLen v = 2) ∧ (16384 ≤ v → v < 1073741824 → clsLen v = 4) ∧ (1073741824 ≤ v → v < 4611686018427387904 → clsLen v = 8) ∧ (4611686018427387904 ≤ v → clsLen v = 0) := by
  unfold clsLen
  refine ⟨?_, ?_, ?_, ?_, ?_⟩ <;> intros <;> (repeat' split) <;> omega

theorem bes_one (v : Int) (h0 : 0 ≤ v) (h1 : v < 256) : (bes v 1).map bv = [.int .u8 v] := by
  simp only [bes, List.map_cons, List.map_nil, byteAt_val]
  simp
  omega

theorem refVar_0 (B : Nat) (bV : Value) (bl : List UInt8) (x : Nat) (w : World) (hb : ApB w B bV bl) (hB : B ≤ w.heap.size) (hbl : bl.length ≤ 200000) (hx : x < 64) :
    Calls Try.prog 55 #[bV, .int .u64 x] w fun e w' => ∃ v', e = .returned (.tuple #[v', .int .i64 0]) ∧ ApB w' B v' (bl ++ bes x 1) ∧ Below B w w' := by
  obtain ⟨i0, hi, hz, hz1, hz2⟩ := info_parts infoU8n
  have Hi := Lib.hid hi
  have Hz := Lib.hid hz
  have Hz1 := Lib.hid hz1
  have Hz2 := Lib.hid hz2
  clear hi hz hz1 hz2
  have hc := (clsLen_at (x : Int)).1 (by omega)
  go_enter Try.func55, Try.ntmps55
  go_wp2_with (first
    | (go_at_call 70; refine (refVarLen_any _ (by omega) (by omega) _).mono ?_; rintro e w' ⟨rfl, rfl⟩)
    | (at_builtin
       refine wpList_append_ap _ rfl _ _ 36 rfl B 5 i0 (.int .u8 0) 1 Try.underlying36 Hi.out Hz.out Hz1.out Hz2.out rfl _ _ (bl.map bv) _ rfl rfl (hb.alloc _) (Rd.lit w 5 _ 1 rfl (by simp [maxLen])) (by simp [Value.oneCell']) (by simp; omega) (by simp [maxLen]; omega) (by simp; omega) ?_
       intro v2 w2 hap2 hb2))
  go_ret2
  refine ⟨_, rfl, ?_, ((Below.refl _ _).alloc hB _).trans hb2⟩
  unfold ApB
  rw [List.map_append, bes_one _ (by omega) (by omega)]
  exact hap2

theorem refVar_1 (B : Nat) (bV : Value) (bl : List UInt8) (x : Nat) (w : World) (hb : ApB w B bV bl) (hB : B ≤ w.heap.size) (hbl : bl.length ≤ 200000) (hx0 : 64 ≤ x) (hx : x < 16384) :
    Calls Try.prog 55 #[bV, .int .u64 x] w fun e w' => ∃ v', e = .returned (.tuple #[v', .int .i64 0]) ∧ ApB w' B v' (bl ++ bes ((x : Int) + 16384) 2) ∧ Below B w w' := by
  have hc := (clsLen_at (x : Int)).2.1 (by omega) (by omega)
  have hor : bits .or .u64 (x : Int) 16384 = (x : Int) + 16384 := or_mark' _ 14 1 _ (by rfl) (by omega) (by omega)
  go_enter Try.func55, Try.ntmps55
  go_wp2_with (first
    | (go_at_call 70; refine (refVarLen_any _ (by omega) (by omega) _).mono ?_; rintro e w' ⟨rfl, rfl⟩)
    | (go_at_call 54; refine (refBig_any B _ bl ((x : Int) + 16384) 2 _ hb hB (by omega) (by omega) (by omega)).mono ?_; rintro e w2 ⟨v2, rfl, hap2, hb2⟩))
  go_ret2
  exact ⟨_, rfl, hap2, hb2⟩

theorem refVar_2 (B : Nat) (bV : Value) (bl : List UInt8) (x : Nat) (w : World) (hb : ApB w B bV bl) (hB : B ≤ w.heap.size) (hbl : bl.length ≤ 200000) (hx0 : 16384 ≤ x) (hx : x < 1073741824) :
    Calls Try.prog 55 #[bV, .int .u64 x] w fun e w' => ∃ v', e = .returned (.tuple #[v', .int .i64 0]) ∧ ApB w' B v' (bl ++ bes ((x : Int) + 2147483648) 4) ∧ Below B w w' := by
  have hc := (clsLen_at (x : Int)).2.2.1 (by omega) (by omega)
  have hor : bits .or .u64 (x : Int) 2147483648 = (x : Int) + 2147483648 := or_mark' _ 30 2 _ (by rfl) (by omega) (by omega)
  go_enter Try.func55, Try.ntmps55
  go_wp2_with (first
    | (go_at_call 70; refine (refVarLen_any _ (by omega) (by omega) _).mono ?_; rintro e w' ⟨rfl, rfl⟩)
    | (go_at_call 54; refine (refBig_any B _ bl ((x : Int) + 2147483648) 4 _ hb hB (by omega) (by omega) (by omega)).mono ?_; rintro e w2 ⟨v2, rfl, hap2, hb2⟩))
  go_ret2
  exact ⟨_, rfl, hap2, hb2⟩

theorem refVar_3 (B : Nat) (bV : Value) (bl : List UInt8) (x : Nat) (w : World) (hb : ApB w B bV bl) (hB : B ≤ w.heap.size) (hbl : bl.length ≤ 200000) (hx0 : 1073741824 ≤ x) (hx : x < 4611686018427387904) :
    Calls Try.prog 55 #[bV, .int .u64 x] w fun e w' => ∃ v', e = .returned (.tuple #[v', .int .i64 0]) ∧ ApB w' B v' (bl ++ bes ((x : Int) + 13835058055282163712) 8) ∧ Below B w w' := by
  have hc := (clsLen_at (x : Int)).2.2.2.1 (by omega) (by omega)
  have hor : bits .or .u64 (x : Int) 13835058055282163712 = (x : Int) + 13835058055282163712 := or_mark' _ 62 3 _ (by rfl) (by omega) (by omega)
  go_enter Try.func55, Try.ntmps55
  go_wp2_with (first
    | (go_at_call 70; refine (refVarLen_any _ (by omega) (by omega) _).mono ?_; rintro e w' ⟨rfl, rfl⟩)
    | (go_at_call 54; refine (refBig_any B _ bl ((x : Int) + 13835058055282163712) 8 _ hb hB (by omega) (by omega) (by omega)).mono ?_; rintro e w2 ⟨v2, rfl, hap2, hb2⟩))
  go_ret2
  exact ⟨_, rfl, hap2, hb2⟩

theorem refVar_4 (bV : Value) (x : Nat) (w : World) (hx0 : 4611686018427387904 ≤ x) (hx : x < 18446744073709551616) :
    Calls Try.prog 55 #[bV, .int .u64 x] w fun e w' => e = .returned (.tuple #[.slice none 0 0, .int .i64 21]) ∧ w = w' := by
  have hc := (clsLen_at (x : Int)).2.2.2.2 (by omega)
  go_enter Try.func55, Try.ntmps55
  go_wp2_with (go_at_call 70; refine (refVarLen_any _ (by omega) (by omega) _).mono ?_; rintro e w' ⟨rfl, rfl⟩)
  go_ret2
  exact ⟨rfl, rfl⟩

theorem refVar_ok (B : Nat) (bV : Value) (bl : List UInt8) (x : Nat) (w : World) (hb : ApB w B bV bl) (hB : B ≤ w.heap.size) (hbl : bl.length ≤ 200000) (hx : x < 4611686018427387904) :
    Calls Try.prog 55 #[bV, .int .u64 x] w fun e w' => ∃ v', e = .returned (.tuple #[v', .int .i64 0]) ∧ ApB w' B v' (bl ++ varB x) ∧ Below B w w' := by
  rcases cls_cases (x : Int) (by omega) (by omega) with ⟨h1, he⟩ | ⟨h0, h1, he⟩ | ⟨h0, h1, he⟩ | ⟨h0, he⟩ <;> rw [he]
  · exact refVar_0 B bV bl x w hb hB hbl (by omega)
  · exact refVar_1 B bV bl x w hb hB hbl (by omega) (by omega)
  · exact refVar_2 B bV bl x w hb hB hbl (by omega) (by omega)
  · exact refVar_3 B bV bl x w hb hB hbl (by omega) (by omega)

set_option maxHeartbeats 400000 in
theorem refVars_any (B : Nat) (bV lV : Value) (bl : List UInt8) (l : List UInt64) (w : World) (hb : ApB w B bV bl) (hB : B ≤ w.heap.size) (hlB : ∀ (w' : World), Below B w w' → Rd w' lV (l.map uv)) (hbl : bl.length ≤ 100000) (hll : l.length ≤ 1000) :
    Calls Try.prog 41 #[bV, lV] w (VarPost w B bl l) := by
  obtain ⟨A, L, c, rfl, hL, h1, h2, h3, h4⟩ := Us.open_ (hlB w (Below.refl _ _))
  have Hl := Lib.hid hlB
  clear hlB
  unfold maxLen at h2
  go_enter Try.func41, Try.ntmps41
  go_wp2
  go_loopw [0, 6] (fun b i wr => ∃ (k : Nat), k ≤ L ∧ i = .int .i64 k ∧ ApB wr B b (bl ++ varsB (l.take k)) ∧ Below B w wr ∧ ∀ x ∈ l.take k, small x) (fun _ i _ => L - (intOf i).toNat)
  case atStart => exact ⟨0, by omega, rfl, by simpa [varsB] using hb, Below.refl _ _, by simp⟩
  case round =>
    obtain ⟨k, hk, rfl, hap, hbw, hsm⟩ := hrel
    have Hsm := Lib.hid hsm
    clear hsm
    have hsz := hbw.size
    by_cases hlt : k < L
    · have hkl : k < l.length := by omega
      obtain ⟨b, o, rfl⟩ := Rd.place (Hl.out w (Below.refl _ _)) (by simp; omega)
      have hc := Us.cell (Hl.out _ hbw) k hkl
      have hx := l[k].toNat_lt
      have hlen := varsB_length (l.take k)
      rw [List.length_take] at hlen
      by_cases hs : small l[k]
      · have hs' : l[k].toNat < 4611686018427387904 := hs
        have Hsn := Lib.hid (varsB_snoc l k hkl)
        go_wp2_with (go_at_call 55; refine (refVar_ok B _ (bl ++ varsB (l.take k)) _ _ hap (by omega) (by simp only [List.length_append]; omega) hs').mono ?_; rintro e w3 ⟨v3, rfl, hap3, hb3⟩)
        go_roundw
        case rel =>
          refine ⟨k + 1, by omega, by go_num, by rw [Hsn.out, ← List.append_assoc]; exact hap3, hbw.trans hb3, ?_⟩
          rw [List.take_succ_eq_append_getElem hkl]
          intro x hx
          rcases List.mem_append.1 hx with hx | hx
          · exact Hsm.out x hx
          · simp at hx; subst hx; exact hs
        case measure => simp [intOf]; omega
      · have hs' : 4611686018427387904 ≤ l[k].toNat := by unfold small at hs; omega
        go_wp2_with (go_at_call 55; refine (refVar_4 _ _ _ hs' (by omega)).mono ?_; rintro e w' ⟨rfl, rfl⟩)
        go_ret2
        exact .inr ⟨fun h => hs (h _ (List.getElem_mem _)), rfl, hbw⟩
    · go_wp2
      go_ret2
      obtain rfl : k = L := by omega
      have hall := Hsm.out
      rw [List.take_of_length_le (by omega)] at hap hall
      exact .inl ⟨hall, _, rfl, hap, hbw⟩

end Go.Proofs.Ytcakppdabolfiaa
