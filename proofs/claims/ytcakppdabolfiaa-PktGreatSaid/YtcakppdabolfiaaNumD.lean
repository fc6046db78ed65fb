/-
  Contracts of num.ReadVar and of the document's ReadVar.
-/
import Derived.Test.YtcakppdabolfiaaNumC
namespace Go.Proofs.Ytcakppdabolfiaa
open Go.RowKit
set_option linter.unusedVariables false

def rvLen (c : UInt8) : Nat := 2 ^ (c.toNat / 64)
/-- What ReadVar answers: the number, how many bytes, the error's number. -/
def rv : List UInt8 → Int × Int × Int
  | [] => (0, 0, 20)
  | c :: t => if (c :: t).length < rvLen c then (0, 0, 20) else ((rb ((c :: t).take (rvLen c)) : Int) % 2 ^ (8 * rvLen c - 2), (rvLen c : Int), 0)

def Ans3 (x : Int × Int × Int) : Ending := .returned (.tuple #[.int .u64 x.1, .int .i64 x.2.1, .int .i64 x.2.2])

theorem ans3 {a b c : Int} {x : Int × Int × Int} (h : x = (a, b, c)) : Ending.returned (.tuple #[.int .u64 a, .int .i64 b, .int .i64 c]) = Ans3 x := by subst h; rfl

theorem rv_more (c : UInt8) (t : List UInt8) (h : (c :: t).length < rvLen c) : rv (c :: t) = (0, 0, 20) := by simp only [rv, if_pos h]
theorem rv_ok (c : UInt8) (t : List UInt8) (h : ¬ (c :: t).length < rvLen c) : rv (c :: t) = ((rb ((c :: t).take (rvLen c)) : Int) % 2 ^ (8 * rvLen c - 2), (rvLen c : Int), 0) := by simp only [rv, if_neg h]

theorem fin_mask (n i r : Nat) (m N : Int) (hm : m = ((2 ^ i - 1 : Nat) : Int)) (hi : i ≤ 64) (hr : r < 18446744073709551616) (hN : N = (n : Int)) : ((r : Int) % 2 ^ i, (n : Int), (0 : Int)) = (bits .and .u64 (r : Int) m, N, 0) := by
  rw [u64_mask r i m hm hi hr, hN]
  simp

theorem Bs.cell0 {w : World} {bV : Value} {x : UInt8} {t : List UInt8} (h : Bs w bV (x :: t)) : ∃ b o L c, bV = .slice (some ⟨b, o, none⟩) L c ∧ Hid (L = t.length + 1) ∧ 1 ≤ L ∧ L ≤ c ∧ c ≤ maxLen ∧ w.cell? ⟨b, o, none⟩ = some (.int .u8 (x.toNat : Int)) := by
  obtain ⟨b, o, c, hv, h1, h2, -, h3⟩ := Rd.at_ h (by simp)
  have := h3 0 (bv x) (by simp)
  exact ⟨b, o, _, c, hv, by simp [Hid], by simp, h1, h2, by simpa [bv] using this⟩

theorem readVar_nil (bV : Value) (w : World) (hb : Bs w bV []) :
    Calls Try.prog 97 #[bV] w fun e w' => e = Ans3 (rv []) ∧ w = w' := by
  obtain ⟨A, L, c, rfl, hL, h1, h2, h3, h4⟩ := hb.open_
  have hL0 : L = 0 := hL.out
  subst hL0
  clear hb hL h3 h4
  go_enter Try.func97, Try.ntmps97
  go_wp2
  go_ret3
  exact ⟨rfl, rfl⟩

set_option maxHeartbeats 400000 in
theorem readVar_0 (bV : Value) (x : UInt8) (t : List UInt8) (w : World) (hb : Bs w bV (x :: t)) (hm : (x :: t).length ≤ 1000000) (hx : x.toNat / 64 = 0) :
    Calls Try.prog 97 #[bV] w fun e w' => e = Ans3 (rv (x :: t)) ∧ w = w' := by
  have hn : rvLen x = 1 := by unfold rvLen; rw [hx]
  have hq : ((x.toNat : Int) / 64) = 0 := by omega
  have hx256 := x.toNat_lt
  have hb' := hb
  obtain ⟨b, o, L, c, rfl, hL, h0, h1, h2, hc⟩ := hb'.cell0
  have Hb := Lib.hid hb
  clear hb hb' hx
  have hne : ((L : Int) == 0) = false := by simp; omega
  have hlen : ¬ (x :: t).length < 1 := by simp
  have hLn : ¬ L < 1 := by have := hL.out; simp at hlen; omega
  have hfin := rv_ok x t (by omega)
  rw [hn] at hfin
  have Hfin := Lib.hid hfin
  have Hn := Lib.hid hn
  clear hfin hn
  unfold maxLen at h2
  have hr := rb_lt_n ((x :: t).take 1) 1 (List.length_take_le _ _)
  go_enter Try.func97, Try.ntmps97
  go_wp2_with (go_at_call 57; refine (readBig_ok _ _ _ _ Hb.out (by omega) (by omega) (by have h := hlen; simp only [List.length_cons] at h ⊢; omega) hm).mono ?_; rintro e w' ⟨rfl, rfl⟩)
  go_ret3
  refine ⟨ans3 (Hfin.out.trans ?_), rfl⟩
  exact fin_mask 1 6 _ 63 1 (by rfl) (by omega) (Nat.lt_of_lt_of_le hr (by decide)) (by rfl)

set_option maxHeartbeats 400000 in
theorem readVar_1 (bV : Value) (x : UInt8) (t : List UInt8) (w : World) (hb : Bs w bV (x :: t)) (hm : (x :: t).length ≤ 1000000) (hx : x.toNat / 64 = 1) :
    Calls Try.prog 97 #[bV] w fun e w' => e = Ans3 (rv (x :: t)) ∧ w = w' := by
  have hn : rvLen x = 2 := by unfold rvLen; rw [hx]
  have hq : ((x.toNat : Int) / 64) = 1 := by omega
  have hx256 := x.toNat_lt
  have hb' := hb
  obtain ⟨b, o, L, c, rfl, hL, h0, h1, h2, hc⟩ := hb'.cell0
  have Hb := Lib.hid hb
  clear hb hb' hx
  have hne : ((L : Int) == 0) = false := by simp; omega
  by_cases hlen : (x :: t).length < 2
  · have hLn : L < 2 := by have := hL.out; simp at hlen; omega
    have hfin : rv (x :: t) = (0, 0, 20) := rv_more x t (by omega)
    have Hfin := Lib.hid hfin
    have Hn := Lib.hid hn
    clear hfin hn
    unfold maxLen at h2
    go_enter Try.func97, Try.ntmps97
    go_wp2_with (go_at_call 57; refine (readBig_no _ _ _ _ Hb.out (by have h := hlen; simp only [List.length_cons] at h ⊢; omega)).mono ?_; rintro e w' ⟨rfl, rfl⟩)
    go_ret3
    exact ⟨ans3 Hfin.out, rfl⟩
  · have hLn : ¬ L < 2 := by have := hL.out; simp at hlen; omega
    have hfin := rv_ok x t (by omega)
    rw [hn] at hfin
    have Hfin := Lib.hid hfin
    have Hn := Lib.hid hn
    clear hfin hn
    unfold maxLen at h2
    have hr := rb_lt_n ((x :: t).take 2) 2 (List.length_take_le _ _)
    go_enter Try.func97, Try.ntmps97
    go_wp2_with (go_at_call 57; refine (readBig_ok _ _ _ _ Hb.out (by omega) (by omega) (by have h := hlen; simp only [List.length_cons] at h ⊢; omega) hm).mono ?_; rintro e w' ⟨rfl, rfl⟩)
    go_ret3
    refine ⟨ans3 (Hfin.out.trans ?_), rfl⟩
    exact fin_mask 2 14 _ 16383 2 (by rfl) (by omega) (Nat.lt_of_lt_of_le hr (by decide)) (by rfl)

set_option maxHeartbeats 400000 in
theorem readVar_2 (bV : Value) (x : UInt8) (t : List UInt8) (w : World) (hb : Bs w bV (x :: t)) (hm : (x :: t).length ≤ 1000000) (hx : x.toNat / 64 = 2) :
    Calls Try.prog 97 #[bV] w fun e w' => e = Ans3 (rv (x :: t)) ∧ w = w' := by
  have hn : rvLen x = 4 := by unfold rvLen; rw [hx]
  have hq : ((x.toNat : Int) / 64) = 2 := by omega
  have hx256 := x.toNat_lt
  have hb' := hb
  obtain ⟨b, o, L, c, rfl, hL, h0, h1, h2, hc⟩ := hb'.cell0
  have Hb := Lib.hid hb
  clear hb hb' hx
  have hne : ((L : Int) == 0) = false := by simp; omega
  by_cases hlen : (x :: t).length < 4
  · have hLn : L < 4 := by have := hL.out; simp at hlen; omega
    have hfin : rv (x :: t) = (0, 0, 20) := rv_more x t (by omega)
    have Hfin := Lib.hid hfin
    have Hn := Lib.hid hn
    clear hfin hn
    unfold maxLen at h2
    go_enter Try.func97, Try.ntmps97
    go_wp2_with (go_at_call 57; refine (readBig_no _ _ _ _ Hb.out (by have h := hlen; simp only [List.length_cons] at h ⊢; omega)).mono ?_; rintro e w' ⟨rfl, rfl⟩)
    go_ret3
    exact ⟨ans3 Hfin.out, rfl⟩
  · have hLn : ¬ L < 4 := by have := hL.out; simp at hlen; omega
    have hfin := rv_ok x t (by omega)
    rw [hn] at hfin
    have Hfin := Lib.hid hfin
    have Hn := Lib.hid hn
    clear hfin hn
    unfold maxLen at h2
    have hr := rb_lt_n ((x :: t).take 4) 4 (List.length_take_le _ _)
    go_enter Try.func97, Try.ntmps97
    go_wp2_with (go_at_call 57; refine (readBig_ok _ _ _ _ Hb.out (by omega) (by omega) (by have h := hlen; simp only [List.length_cons] at h ⊢; omega) hm).mono ?_; rintro e w' ⟨rfl, rfl⟩)
    go_ret3
    refine ⟨ans3 (Hfin.out.trans ?_), rfl⟩
    exact fin_mask 4 30 _ 1073741823 4 (by rfl) (by omega) (Nat.lt_of_lt_of_le hr (by decide)) (by rfl)

set_option maxHeartbeats 400000 in
theorem readVar_3 (bV : Value) (x : UInt8) (t : List UInt8) (w : World) (hb : Bs w bV (x :: t)) (hm : (x :: t).length ≤ 1000000) (hx : x.toNat / 64 = 3) :
    Calls Try.prog 97 #[bV] w fun e w' => e = Ans3 (rv (x :: t)) ∧ w = w' := by
  have hn : rvLen x = 8 := by unfold rvLen; rw [hx]
  have hq : ((x.toNat : Int) / 64) = 3 := by omega
  have hx256 := x.toNat_lt
  have hb' := hb
  obtain ⟨b, o, L, c, rfl, hL, h0, h1, h2, hc⟩ := hb'.cell0
  have Hb := Lib.hid hb
  clear hb hb' hx
  have hne : ((L : Int) == 0) = false := by simp; omega
  by_cases hlen : (x :: t).length < 8
  · have hLn : L < 8 := by have := hL.out; simp at hlen; omega
    have hfin : rv (x :: t) = (0, 0, 20) := rv_more x t (by omega)
    have Hfin := Lib.hid hfin
    have Hn := Lib.hid hn
    clear hfin hn
    unfold maxLen at h2
    go_enter Try.func97, Try.ntmps97
    go_wp2_with (go_at_call 57; refine (readBig_no _ _ _ _ Hb.out (by have h := hlen; simp only [List.length_cons] at h ⊢; omega)).mono ?_; rintro e w' ⟨rfl, rfl⟩)
    go_ret3
    exact ⟨ans3 Hfin.out, rfl⟩
  · have hLn : ¬ L < 8 := by have := hL.out; simp at hlen; omega
    have hfin := rv_ok x t (by omega)
    rw [hn] at hfin
    have Hfin := Lib.hid hfin
    have Hn := Lib.hid hn
    clear hfin hn
    unfold maxLen at h2
    have hr := rb_lt_n ((x :: t).take 8) 8 (List.length_take_le _ _)
    go_enter Try.func97, Try.ntmps97
    go_wp2_with (go_at_call 57; refine (readBig_ok _ _ _ _ Hb.out (by omega) (by omega) (by have h := hlen; simp only [List.length_cons] at h ⊢; omega) hm).mono ?_; rintro e w' ⟨rfl, rfl⟩)
    go_ret3
    refine ⟨ans3 (Hfin.out.trans ?_), rfl⟩
    exact fin_mask 8 62 _ 4611686018427387903 8 (by rfl) (by omega) (Nat.lt_of_lt_of_le hr (by decide)) (by rfl)

theorem refReadVar_nil (bV : Value) (w : World) (hb : Bs w bV []) :
    Calls Try.prog 104 #[bV] w fun e w' => e = Ans3 (rv []) ∧ w = w' := by
  obtain ⟨A, L, c, rfl, hL, h1, h2, h3, h4⟩ := hb.open_
  have hL0 : L = 0 := hL.out
  subst hL0
  clear hb hL h3 h4
  go_enter Try.func104, Try.ntmps104
  go_wp2
  go_ret3
  exact ⟨rfl, rfl⟩

set_option maxHeartbeats 400000 in
theorem refReadVar_0 (bV : Value) (x : UInt8) (t : List UInt8) (w : World) (hb : Bs w bV (x :: t)) (hm : (x :: t).length ≤ 1000000) (hx : x.toNat / 64 = 0) :
    Calls Try.prog 104 #[bV] w fun e w' => e = Ans3 (rv (x :: t)) ∧ w = w' := by
  have hn : rvLen x = 1 := by unfold rvLen; rw [hx]
  have hq : ((x.toNat : Int) / 64) = 0 := by omega
  have hx256 := x.toNat_lt
  have hb' := hb
  obtain ⟨b, o, L, c, rfl, hL, h0, h1, h2, hc⟩ := hb'.cell0
  have Hb := Lib.hid hb
  clear hb hb' hx
  have hne : ((L : Int) == 0) = false := by simp; omega
  have hlen : ¬ (x :: t).length < 1 := by simp
  have hLn : decide ((L : Int) < 1) = false := by simp; omega
  have hfin := rv_ok x t (by omega)
  rw [hn] at hfin
  have Hfin := Lib.hid hfin
  have Hn := Lib.hid hn
  clear hfin hn
  unfold maxLen at h2
  have hr := rb_lt_n ((x :: t).take 1) 1 (List.length_take_le _ _)
  go_enter Try.func104, Try.ntmps104
  go_wp2_with (go_at_call 112; refine (refReadBig_ok _ _ _ _ Hb.out (by omega) (by omega) (by have h := hlen; simp only [List.length_cons] at h ⊢; omega) hm).mono ?_; rintro e w' ⟨rfl, rfl⟩)
  go_ret3
  refine ⟨ans3 (Hfin.out.trans ?_), rfl⟩
  exact fin_mask 1 6 _ 63 1 (by rfl) (by omega) (Nat.lt_of_lt_of_le hr (by decide)) (by rfl)

set_option maxHeartbeats 400000 in
theorem refReadVar_1 (bV : Value) (x : UInt8) (t : List UInt8) (w : World) (hb : Bs w bV (x :: t)) (hm : (x :: t).length ≤ 1000000) (hx : x.toNat / 64 = 1) :
    Calls Try.prog 104 #[bV] w fun e w' => e = Ans3 (rv (x :: t)) ∧ w = w' := by
  have hn : rvLen x = 2 := by unfold rvLen; rw [hx]
  have hq : ((x.toNat : Int) / 64) = 1 := by omega
  have hx256 := x.toNat_lt
  have hb' := hb
  obtain ⟨b, o, L, c, rfl, hL, h0, h1, h2, hc⟩ := hb'.cell0
  have Hb := Lib.hid hb
  clear hb hb' hx
  have hne : ((L : Int) == 0) = false := by simp; omega
  by_cases hlen : (x :: t).length < 2
  · have hLn : L < 2 := by have := hL.out; simp at hlen; omega
    have hfin : rv (x :: t) = (0, 0, 20) := rv_more x t (by omega)
    have Hfin := Lib.hid hfin
    have Hn := Lib.hid hn
    clear hfin hn
    unfold maxLen at h2
    go_enter Try.func104, Try.ntmps104
    go_wp2_with (go_at_call 112; refine (refReadBig_no _ _ _ _ Hb.out (by have h := hlen; simp only [List.length_cons] at h ⊢; omega)).mono ?_; rintro e w' ⟨rfl, rfl⟩)
    go_ret3
    exact ⟨ans3 Hfin.out, rfl⟩
  · have hLn : ¬ L < 2 := by have := hL.out; simp at hlen; omega
    have hfin := rv_ok x t (by omega)
    rw [hn] at hfin
    have Hfin := Lib.hid hfin
    have Hn := Lib.hid hn
    clear hfin hn
    unfold maxLen at h2
    have hr := rb_lt_n ((x :: t).take 2) 2 (List.length_take_le _ _)
    go_enter Try.func104, Try.ntmps104
    go_wp2_with (go_at_call 112; refine (refReadBig_ok _ _ _ _ Hb.out (by omega) (by omega) (by have h := hlen; simp only [List.length_cons] at h ⊢; omega) hm).mono ?_; rintro e w' ⟨rfl, rfl⟩)
    go_ret3
    refine ⟨ans3 (Hfin.out.trans ?_), rfl⟩
    exact fin_mask 2 14 _ 16383 2 (by rfl) (by omega) (Nat.lt_of_lt_of_le hr (by decide)) (by rfl)

set_option maxHeartbeats 400000 in
theorem refReadVar_2 (bV : Value) (x : UInt8) (t : List UInt8) (w : World) (hb : Bs w bV (x :: t)) (hm : (x :: t).length ≤ 1000000) (hx : x.toNat / 64 = 2) :
    Calls Try.prog 104 #[bV] w fun e w' => e = Ans3 (rv (x :: t)) ∧ w = w' := by
  have hn : rvLen x = 4 := by unfold rvLen; rw [hx]
  have hq : ((x.toNat : Int) / 64) = 2 := by omega
  have hx256 := x.toNat_lt
  have hb' := hb
  obtain ⟨b, o, L, c, rfl, hL, h0, h1, h2, hc⟩ := hb'.cell0
  have Hb := Lib.hid hb
  clear hb hb' hx
  have hne : ((L : Int) == 0) = false := by simp; omega
  by_cases hlen : (x :: t).length < 4
  · have hLn : L < 4 := by have := hL.out; simp at hlen; omega
    have hfin : rv (x :: t) = (0, 0, 20) := rv_more x t (by omega)
    have Hfin := Lib.hid hfin
    have Hn := Lib.hid hn
    clear hfin hn
    unfold maxLen at h2
    go_enter Try.func104, Try.ntmps104
    go_wp2_with (go_at_call 112; refine (refReadBig_no _ _ _ _ Hb.out (by have h := hlen; simp only [List.length_cons] at h ⊢; omega)).mono ?_; rintro e w' ⟨rfl, rfl⟩)
    go_ret3
    exact ⟨ans3 Hfin.out, rfl⟩
  · have hLn : ¬ L < 4 := by have := hL.out; simp at hlen; omega
    have hfin := rv_ok x t (by omega)
    rw [hn] at hfin
    have Hfin := Lib.hid hfin
    have Hn := Lib.hid hn
    clear hfin hn
    unfold maxLen at h2
    have hr := rb_lt_n ((x :: t).take 4) 4 (List.length_take_le _ _)
    go_enter Try.func104, Try.ntmps104
    go_wp2_with (go_at_call 112; refine (refReadBig_ok _ _ _ _ Hb.out (by omega) (by omega) (by have h := hlen; simp only [List.length_cons] at h ⊢; omega) hm).mono ?_; rintro e w' ⟨rfl, rfl⟩)
    go_ret3
    refine ⟨ans3 (Hfin.out.trans ?_), rfl⟩
    exact fin_mask 4 30 _ 1073741823 4 (by rfl) (by omega) (Nat.lt_of_lt_of_le hr (by decide)) (by rfl)

set_option maxHeartbeats 400000 in
theorem refReadVar_3 (bV : Value) (x : UInt8) (t : List UInt8) (w : World) (hb : Bs w bV (x :: t)) (hm : (x :: t).length ≤ 1000000) (hx : x.toNat / 64 = 3) :
    Calls Try.prog 104 #[bV] w fun e w' => e = Ans3 (rv (x :: t)) ∧ w = w' := by
  have hn : rvLen x = 8 := by unfold rvLen; rw [hx]
  have hq : ((x.toNat : Int) / 64) = 3 := by omega
  have hx256 := x.toNat_lt
  have hb' := hb
  obtain ⟨b, o, L, c, rfl, hL, h0, h1, h2, hc⟩ := hb'.cell0
  have Hb := Lib.hid hb
  clear hb hb' hx
  have hne : ((L : Int) == 0) = false := by simp; omega
  by_cases hlen : (x :: t).length < 8
  · have hLn : L < 8 := by have := hL.out; simp at hlen; omega
    have hfin : rv (x :: t) = (0, 0, 20) := rv_more x t (by omega)
    have Hfin := Lib.hid hfin
    have Hn := Lib.hid hn
    clear hfin hn
    unfold maxLen at h2
    go_enter Try.func104, Try.ntmps104
    go_wp2_with (go_at_call 112; refine (refReadBig_no _ _ _ _ Hb.out (by have h := hlen; simp only [List.length_cons] at h ⊢; omega)).mono ?_; rintro e w' ⟨rfl, rfl⟩)
    go_ret3
    exact ⟨ans3 Hfin.out, rfl⟩
  · have hLn : ¬ L < 8 := by have := hL.out; simp at hlen; omega
    have hfin := rv_ok x t (by omega)
    rw [hn] at hfin
    have Hfin := Lib.hid hfin
    have Hn := Lib.hid hn
    clear hfin hn
    unfold maxLen at h2
    have hr := rb_lt_n ((x :: t).take 8) 8 (List.length_take_le _ _)
    go_enter Try.func104, Try.ntmps104
    go_wp2_with (go_at_call 112; refine (refReadBig_ok _ _ _ _ Hb.out (by omega) (by omega) (by have h := hlen; simp only [List.length_cons] at h ⊢; omega) hm).mono ?_; rintro e w' ⟨rfl, rfl⟩)
    go_ret3
    refine ⟨ans3 (Hfin.out.trans ?_), rfl⟩
    exact fin_mask 8 62 _ 4611686018427387903 8 (by rfl) (by omega) (Nat.lt_of_lt_of_le hr (by decide)) (by rfl)

theorem readVar_any (bV : Value) (l : List UInt8) (w : World) (hb : Bs w bV l) (hm : l.length ≤ 1000000) :
    Calls Try.prog 97 #[bV] w fun e w' => e = Ans3 (rv l) ∧ w = w' := by
  cases l with
  | nil => exact readVar_nil bV w hb
  | cons x t =>
    have hx := x.toNat_lt
    have h4 : x.toNat / 64 = 0 ∨ x.toNat / 64 = 1 ∨ x.toNat / 64 = 2 ∨ x.toNat / 64 = 3 := by omega
    rcases h4 with h | h | h | h
    · exact readVar_0 bV x t w hb hm h
    · exact readVar_1 bV x t w hb hm h
    · exact readVar_2 bV x t w hb hm h
    · exact readVar_3 bV x t w hb hm h

theorem refReadVar_any (bV : Value) (l : List UInt8) (w : World) (hb : Bs w bV l) (hm : l.length ≤ 1000000) :
    Calls Try.prog 104 #[bV] w fun e w' => e = Ans3 (rv l) ∧ w = w' := by
  cases l with
  | nil => exact refReadVar_nil bV w hb
  | cons x t =>
    have hx := x.toNat_lt
    have h4 : x.toNat / 64 = 0 ∨ x.toNat / 64 = 1 ∨ x.toNat / 64 = 2 ∨ x.toNat / 64 = 3 := by omega
    rcases h4 with h | h | h | h
    · exact refReadVar_0 bV x t w hb hm h
    · exact refReadVar_1 bV x t w hb hm h
    · exact refReadVar_2 bV x t w hb hm h
    · exact refReadVar_3 bV x t w hb hm h

end Go.Proofs.Ytcakppdabolfiaa
