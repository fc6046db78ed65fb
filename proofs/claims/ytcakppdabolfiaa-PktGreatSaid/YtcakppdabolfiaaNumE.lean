/-
  Contracts of num.Var and of the document's Var, Vars.
-/
import Derived.Test.YtcakppdabolfiaaNumC
namespace Go.Proofs.Ytcakppdabolfiaa
open Go.RowKit
set_option linter.unusedVariables false

def uv (x : UInt64) : Value := .int .u64 (x.toNat : Int)
/-- The word that is written for v: its mark above it. -/
def varWord (v : Int) : Int := v + cls v * 2 ^ (8 * (clsLen v).toNat - 2)
def varB (v : Int) : List UInt8 := bes (varWord v) (clsLen v).toNat
def small (x : UInt64) : Prop := x.toNat < 4611686018427387904
instance (x : UInt64) : Decidable (small x) := inferInstanceAs (Decidable (_ < _))
def varsB (l : List UInt64) : List UInt8 := l.flatMap fun x => varB x.toNat

theorem varsB_snoc (l : List UInt64) (k : Nat) (h : k < l.length) : varsB (l.take (k + 1)) = varsB (l.take k) ++ varB (l[k].toNat : Int) := by
  unfold varsB
  rw [List.take_succ_eq_append_getElem h, List.flatMap_append]
  simp

theorem bes_length (v : Int) (n : Nat) : (bes v n).length = n := by
  induction n with
  | zero => rfl
  | succ n ih => simp [bes, ih]

theorem clsLen_le (v : Int) : 0 ≤ clsLen v ∧ clsLen v ≤ 8 := by
  unfold clsLen
  repeat' split
  all_goals omega
theorem clsLen_ne (v : Int) (h0 : 0 ≤ v) (h : v < 4611686018427387904) : (clsLen v == 0) = false := by
  rw [beq_eq_false_iff_ne]
  unfold clsLen
  repeat' split
  all_goals omega
theorem clsLen_eq (v : Int) (h : ¬ v < 4611686018427387904) : (clsLen v == 0) = true := by
  rw [beq_iff_eq]
  unfold clsLen
  repeat' split
  all_goals omega
theorem varB_length (v : Int) : (varB v).length ≤ 8 := by
  have := clsLen_le v
  unfold varB; rw [bes_length]; omega
theorem varsB_length (l : List UInt64) : (varsB l).length ≤ 8 * l.length := by
  induction l with
  | nil => simp [varsB]
  | cons x l ih =>
    have := varB_length (x.toNat : Int)
    simp only [varsB, List.flatMap_cons, List.length_append, List.length_cons] at *
    omega

theorem cls_cases (v : Int) (h0 : 0 ≤ v) (h1 : v < 4611686018427387904) :
    (v < 64 ∧ varB v = bes v 1) ∨ (64 ≤ v ∧ v < 16384 ∧ varB v = bes (v + 16384) 2) ∨ (16384 ≤ v ∧ v < 1073741824 ∧ varB v = bes (v + 2147483648) 4) ∨ (1073741824 ≤ v ∧ varB v = bes (v + 13835058055282163712) 8) := by
  unfold varB varWord cls clsLen
  by_cases c1 : v < 64
  · simp only [if_pos c1]; left; refine ⟨c1, ?_⟩; simp
  by_cases c2 : v < 16384
  · simp only [if_neg c1, if_pos c2]; right; left; exact ⟨by omega, c2, rfl⟩
  by_cases c3 : v < 1073741824
  · simp only [if_neg c1, if_neg c2, if_pos c3]; right; right; left; exact ⟨by omega, c3, rfl⟩
  · simp only [if_neg c1, if_neg c2, if_neg c3, if_pos h1]; right; right; right; exact ⟨by omega, rfl⟩

theorem or_mark (x i k : Nat) (m : Int) (hm : m = ((k * 2 ^ i : Nat) : Int)) (h : x < 2 ^ i) (h2 : k * 2 ^ i + x < 18446744073709551616) : bits .or .u64 m (x : Int) = (x : Int) + m := by
  subst hm
  rw [u64_or_add k x i h h2]
  omega
theorem or_mark' (x i k : Nat) (m : Int) (hm : m = ((k * 2 ^ i : Nat) : Int)) (h : x < 2 ^ i) (h2 : k * 2 ^ i + x < 18446744073709551616) : bits .or .u64 (x : Int) m = (x : Int) + m := by
  subst hm
  rw [u64_or_nat _ _ (by omega) (by omega), Nat.or_comm, or_add k x i h]
  omega

/-- A list of numbers, read. -/
theorem Us.cell {w : World} {b o c L : Nat} {l : List UInt64} (h : Rd w (.slice (some ⟨b, o, none⟩) L c) (l.map uv)) (k : Nat) (hk : k < l.length) : w.cell? ⟨b, o + k, none⟩ = some (.int .u64 (l[k].toNat : Int)) := by
  obtain ⟨b', o', c', e, _, _, _, hc⟩ := Rd.at_ h (by simp; omega)
  injection e with e1 e2 e3
  injection e1 with e1
  injection e1 with e1 e4
  subst e1; subst e4
  exact hc k _ (by simp [hk, uv])
theorem Rd.place {w : World} {A : Option Addr} {L c : Nat} {xs : List Value} (h : Rd w (.slice A L c) xs) (hn : 0 < xs.length) : ∃ b o, A = some ⟨b, o, none⟩ := by
  obtain ⟨b, o, c', hv, -, -, -, -⟩ := h.at_ hn
  injection hv with hA _ _
  exact ⟨b, o, hA⟩
/-- Its value: nil or a place. -/
theorem Us.open_ {w : World} {v : Value} {l : List UInt64} (h : Rd w v (l.map uv)) : ∃ A L c, v = .slice A L c ∧ Hid (L = l.length) ∧ L ≤ c ∧ c ≤ maxLen ∧ L ≤ l.length ∧ l.length ≤ L := by
  obtain ⟨A, c, rfl, h1, h2, h3⟩ := h
  rw [List.length_map] at h1
  exact ⟨A, l.length, c, by rw [List.length_map], rfl, h1, h2, Nat.le_refl _, Nat.le_refl _⟩

def VarPost (w : World) (B : Nat) (bl : List UInt8) (l : List UInt64) (e : Ending) (w' : World) : Prop :=
  ((∀ x ∈ l, small x) ∧ ∃ v', e = .returned (.tuple #[v', .int .i64 0]) ∧ ApB w' B v' (bl ++ varsB l) ∧ Below B w w') ∨
  ((¬ ∀ x ∈ l, small x) ∧ e = .returned (.tuple #[.slice none 0 0, .int .i64 21]) ∧ Below B w w')

set_option maxHeartbeats 1000000 in
theorem var_any (bV lV : Value) (bl : List UInt8) (l : List UInt64) (w : World) (hb : Bs w bV bl) (hlv : Rd w lV (l.map uv)) (hbl : bl.length ≤ 100000) (hll : l.length ≤ 1000) :
    Calls Try.prog 76 #[bV, lV] w (VarPost w w.heap.size bl l) := by
  obtain ⟨A, L, c, rfl, hL, h1, h2, h3, h4⟩ := Us.open_ hlv
  have Hl := Lib.hid hlv
  have Hb := Lib.hid hb
  clear hlv hb
  unfold maxLen at h2
  go_enter Try.func76, Try.ntmps76
  go_wp2
  go_loop [6, 18] (fun s i => ∃ (k : Nat) (q : Int), k ≤ L ∧ i = .int .i64 k ∧ s = .int .i64 q ∧ 0 ≤ q ∧ q ≤ 8 * k ∧ ∀ x ∈ l.take k, small x) (fun _ i => L - (intOf i).toNat)
  case atStart => exact ⟨0, 0, by omega, rfl, rfl, by omega, by omega, by simp⟩
  case round =>
    obtain ⟨k, q, hk, rfl, rfl, hq0, hq1, hsm⟩ := hrel
    have Hsm := Lib.hid hsm
    clear hsm
    by_cases hlt : k < L
    · have hkl : k < l.length := by omega
      obtain ⟨b, o, rfl⟩ := Rd.place Hl.out (by simp; omega)
      have hc := Us.cell Hl.out k hkl
      have hx := l[k].toNat_lt
      have hcl := clsLen_le (l[k].toNat : Int)
      by_cases hs : small l[k]
      · have hne : (clsLen (l[k].toNat : Int) == 0) = false := by
          have : ((l[k].toNat : Nat) : Int) < 4611686018427387904 := by have := hs; unfold small at this; omega
          exact clsLen_ne _ (by omega) this
        go_wp2_with (go_at_call 66; refine (varLen_any _ (by omega) (by omega) _).mono ?_; rintro e w' ⟨rfl, rfl⟩)
        go_round
        case rel =>
          refine ⟨k + 1, _, by omega, by go_num, rfl, by omega, by omega, ?_⟩
          rw [List.take_succ_eq_append_getElem hkl]
          intro x hx
          rcases List.mem_append.1 hx with hx | hx
          · exact Hsm.out x hx
          · simp at hx; subst hx; exact hs
        case measure => simp [intOf]; omega
      · have hne : (clsLen (l[k].toNat : Int) == 0) = true := by
          have : ¬ ((l[k].toNat : Nat) : Int) < 4611686018427387904 := by have := hs; unfold small at this; omega
          exact clsLen_eq _ this
        go_wp2_with (go_at_call 66; refine (varLen_any _ (by omega) (by omega) _).mono ?_; rintro e w' ⟨rfl, rfl⟩)
        go_ret2
        exact .inr ⟨fun h => hs (h _ (List.getElem_mem _)), rfl, Below.refl _ _⟩
    · have hall : ∀ x ∈ l, small x := by
        have := Hsm.out
        rwa [List.take_of_length_le (by omega)] at this
      have Hall := Lib.hid hall
      clear hall Hsm
      go_wp2_with (go_at_call 88; refine (grown_int bV bl _ _ Hb.out (by omega) (by omega) (by omega)).mono ?_; rintro e w1 ⟨v1, rfl, hap, hb1⟩)
      go_loopw [10, 35] (fun ov i wr => ∃ (k : Nat), k ≤ L ∧ i = .int .i64 k ∧ ApB wr w.heap.size ov (bl ++ varsB (l.take k)) ∧ Below w.heap.size w wr) (fun _ i _ => L - (intOf i).toNat)
      case atStart => exact ⟨0, by omega, rfl, by simpa [varsB] using hap, hb1⟩
      case round =>
        obtain ⟨k, hk, rfl, hap2, hb2⟩ := hrel
        clear hap hb1
        by_cases hlt : k < L
        · have hkl : k < l.length := by omega
          obtain ⟨b, o, rfl⟩ := Rd.place Hl.out (by simp; omega)
          have hc := Us.cell (Rd.keep Hl.out hb2) k hkl
          have hx : ((l[k].toNat : Nat) : Int) < 4611686018427387904 := by have := Hall.out _ (List.getElem_mem hkl); unfold small at this; omega
          have hsn := varsB_snoc l k hkl
          have hlen := varsB_length (l.take k)
          rw [List.length_take] at hlen
          rcases cls_cases (l[k].toNat : Int) (by omega) hx with hcase | hcase | hcase | hcase
          · obtain ⟨c1, he⟩ := hcase
            rw [he] at hsn
            have Hsn := Lib.hid hsn
            clear hsn he
            have hor : bits .or .u64 0 (l[k].toNat : Int) = (l[k].toNat : Int) + 0 := or_mark _ 6 0 _ (by rfl) (by omega) (by omega)
            go_wp2_with (first
              | (go_at_call 98; refine (varClass_0 _ (by omega) (by omega) _).mono ?_; rintro e w' ⟨rfl, rfl⟩)
              | (go_at_call 87; refine (putBig_int w.heap.size _ (bl ++ varsB (l.take k)) (l[k].toNat : Int) 1 _ hap2 hb2.size (by omega) (by omega) (by simp only [List.length_append]; omega) (by omega) (by omega)).mono ?_; rintro e w3 ⟨v3, rfl, hap3, hb3⟩))
            go_roundw
            case rel => exact ⟨k + 1, by omega, by go_num, by rw [Hsn.out, ← List.append_assoc]; exact hap3, hb2.trans hb3⟩
            case measure => simp [intOf]; omega
          · obtain ⟨c0, c1, he⟩ := hcase
            rw [he] at hsn
            have Hsn := Lib.hid hsn
            clear hsn he
            have hor : bits .or .u64 16384 (l[k].toNat : Int) = (l[k].toNat : Int) + 16384 := or_mark _ 14 1 _ (by rfl) (by omega) (by omega)
            go_wp2_with (first
              | (go_at_call 98; refine (varClass_1 _ (by omega) (by omega) _).mono ?_; rintro e w' ⟨rfl, rfl⟩)
              | (go_at_call 87; refine (putBig_int w.heap.size _ (bl ++ varsB (l.take k)) ((l[k].toNat : Int) + 16384) 2 _ hap2 hb2.size (by omega) (by omega) (by simp only [List.length_append]; omega) (by omega) (by omega)).mono ?_; rintro e w3 ⟨v3, rfl, hap3, hb3⟩))
            go_roundw
            case rel => exact ⟨k + 1, by omega, by go_num, by rw [Hsn.out, ← List.append_assoc]; exact hap3, hb2.trans hb3⟩
            case measure => simp [intOf]; omega
          · obtain ⟨c0, c1, he⟩ := hcase
            rw [he] at hsn
            have Hsn := Lib.hid hsn
            clear hsn he
            have hor : bits .or .u64 2147483648 (l[k].toNat : Int) = (l[k].toNat : Int) + 2147483648 := or_mark _ 30 2 _ (by rfl) (by omega) (by omega)
            go_wp2_with (first
              | (go_at_call 98; refine (varClass_2 _ (by omega) (by omega) _).mono ?_; rintro e w' ⟨rfl, rfl⟩)
              | (go_at_call 87; refine (putBig_int w.heap.size _ (bl ++ varsB (l.take k)) ((l[k].toNat : Int) + 2147483648) 4 _ hap2 hb2.size (by omega) (by omega) (by simp only [List.length_append]; omega) (by omega) (by omega)).mono ?_; rintro e w3 ⟨v3, rfl, hap3, hb3⟩))
            go_roundw
            case rel => exact ⟨k + 1, by omega, by go_num, by rw [Hsn.out, ← List.append_assoc]; exact hap3, hb2.trans hb3⟩
            case measure => simp [intOf]; omega
          · obtain ⟨c0, he⟩ := hcase
            rw [he] at hsn
            have Hsn := Lib.hid hsn
            clear hsn he
            have hor : bits .or .u64 13835058055282163712 (l[k].toNat : Int) = (l[k].toNat : Int) + 13835058055282163712 := or_mark _ 62 3 _ (by rfl) (by omega) (by omega)
            go_wp2_with (first
              | (go_at_call 98; refine (varClass_3 _ (by omega) (by omega) _).mono ?_; rintro e w' ⟨rfl, rfl⟩)
              | (go_at_call 87; refine (putBig_int w.heap.size _ (bl ++ varsB (l.take k)) ((l[k].toNat : Int) + 13835058055282163712) 8 _ hap2 hb2.size (by omega) (by omega) (by simp only [List.length_append]; omega) (by omega) (by omega)).mono ?_; rintro e w3 ⟨v3, rfl, hap3, hb3⟩))
            go_roundw
            case rel => exact ⟨k + 1, by omega, by go_num, by rw [Hsn.out, ← List.append_assoc]; exact hap3, hb2.trans hb3⟩
            case measure => simp [intOf]; omega
        · go_wp2
          go_ret2
          obtain rfl : k = L := by omega
          refine .inl ⟨Hall.out, _, rfl, ?_, hb2⟩
          rwa [List.take_of_length_le (by omega)] at hap2

end Go.Proofs.Ytcakppdabolfiaa
