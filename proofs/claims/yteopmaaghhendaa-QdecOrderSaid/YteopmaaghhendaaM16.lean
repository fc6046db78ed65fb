/-
  Texts put together: QtF.
-/
import Derived.Test.YteopmaaghhendaaM12
import Derived.Test.YteopmaaghhendaaM10
import Derived.Test.YteopmaaghhendaaM05

/-
  Contracts of qtab.baseAt, qtab.ReadPrefix.
-/
namespace Go.Proofs.Yteopmaaghhendaa
open Go.RowKit
set_option linter.unusedVariables false

theorem rpGo_three (t : List UInt8) : ∀ i v, v ≤ maxVar → rpGo t i v = (0, 0, 20) ∨ rpGo t i v = (0, 0, 21) ∨
    ∃ n m : Nat, rpGo t i v = ((n : Int), (m : Int), 0) ∧ 1 ≤ m ∧ m ≤ i + 1 + t.length ∧ n ≤ maxVar := by
  induction t with
  | nil => intro i v h; exact .inl rfl
  | cons c t ih =>
    intro i v h
    rw [rpGo_ans]
    unfold rpAns
    split
    · exact .inr (.inl rfl)
    · rename_i hb
      have hf := pfits _ v i h hb
      split
      · exact .inr (.inr ⟨_, _, rfl, by omega, by simp; omega, hf⟩)
      · split
        · exact .inr (.inl rfl)
        · rcases ih (i + 1) _ hf with h1 | h1 | ⟨n, m, h1, h2, h3, h4⟩
          · exact .inl h1
          · exact .inr (.inl h1)
          · exact .inr (.inr ⟨n, m, h1, h2, by simp; omega, h4⟩)

/-- The ways of a prefixed number: an error, or a number. -/
theorem rp_two (k : Nat) (l : List UInt8) : (∃ e : Int, rp k l = (0, 0, e) ∧ (e = 20 ∨ e = 21)) ∨
    ∃ n m : Nat, rp k l = ((n : Int), (m : Int), 0) ∧ 1 ≤ m ∧ m ≤ l.length ∧ n ≤ maxVar := by
  cases l with
  | nil => exact .inl ⟨20, rfl, .inl rfl⟩
  | cons c t =>
    have hc := c.toNat_lt
    have hm : c.toNat % 2 ^ k ≤ c.toNat := Nat.mod_le _ _
    rw [show rp k (c :: t) = if c.toNat % 2 ^ k < 2 ^ k - 1 then (((c.toNat % 2 ^ k : Nat) : Int), 1, 0) else rpGo t 0 (c.toNat % 2 ^ k) from rfl]
    split
    · exact .inr ⟨_, 1, rfl, by omega, by simp, by unfold maxVar; omega⟩
    · rcases rpGo_three t 0 (c.toNat % 2 ^ k) (by unfold maxVar; omega) with h1 | h1 | ⟨n, m, h1, h2, h3, h4⟩
      · exact .inl ⟨20, h1, .inl rfl⟩
      · exact .inl ⟨21, h1, .inr rfl⟩
      · exact .inr ⟨n, m, h1, h2, by simp; omega, h4⟩

/-- The base that a sign and a delta tell. -/
def baseN (c s d : Nat) : Option Nat := if s = 1 then (if d + 1 ≤ c ∧ c - (d + 1) ≤ 4611686018427387903 then some (c - (d + 1)) else none) else sumN c d 4611686018427387903

def BAns : Option Nat → Ending → Prop
  | some b, e => e = .returned (.tuple #[.int .u64 (b : Int), .bool true])
  | none, e => ∃ x : Int, e = .returned (.tuple #[.int .u64 x, .bool false])

set_option maxHeartbeats 1000000 in
theorem baseAt_any (c s d : Nat) (hc : c < 18446744073709551616) (hs : s < 256) (hd : d ≤ 4611686018427387903) (w : World) :
    Calls Try.prog 59 #[.int .u64 c, .int .u8 s, .int .u64 d] w fun e w' => BAns (baseN c s d) e ∧ w = w' := by
  have HSU := Bx.mk (sum_62 c d hc (by omega))
  have HLE := Bx.mk (less_any c (d + 1) hc)
  obtain ⟨C, hC⟩ := letter c
  obtain ⟨S, hS⟩ := letter s
  obtain ⟨D, hD⟩ := letter d
  obtain ⟨D1, hD1⟩ := letter (d + 1)
  simp only [hC, hS, hD, hD1] at HSU HLE ⊢
  by_cases h : s = 1
  · have h1 : (S != 1) = false := by rw [bne_eq_false_iff_eq]; omega
    have h1' : (S == 1) = true := by rw [beq_iff_eq]; omega
    obtain rfl : S = 1 := by omega
    have hadd : IntKind.u64.wrap (D + 1) = D1 := by rw [show D + 1 = D1 from by omega]; exact u64_keep (by omega) (by omega)
    by_cases h2 : d + 1 ≤ c
    · rw [show subN c (d + 1) = some (c - (d + 1)) from by unfold subN; rw [if_pos h2], Opt_some] at HLE
      obtain ⟨B, hB⟩ := letter (c - (d + 1))
      simp only [hB] at HLE
      by_cases h3 : c - (d + 1) ≤ 4611686018427387903
      · rw [show baseN c s d = some (c - (d + 1)) from by unfold baseN; rw [if_pos h, if_pos ⟨h2, h3⟩]]
        have h4 : decide (B ≤ 4611686018427387903) = true := by rw [decide_eq_true_iff]; omega
        unfold BAns
        simp only [hB]
        clear h h2 h3 hB hC hS hD hD1 hc hs hd HSU h1 h1'
        go_enter Try.func59, Try.ntmps59
        go_wp2_with (go_at_call 79; refine (HLE.out _).mono ?_; rintro e w' ⟨rfl, rfl⟩)
        go_ret2
        exact ⟨rfl, rfl⟩
      · rw [show baseN c s d = none from by unfold baseN; rw [if_pos h, if_neg (by omega)]]
        have h4 : decide (B ≤ 4611686018427387903) = false := by rw [decide_eq_false_iff_not]; omega
        unfold BAns
        clear h h2 h3 hB hC hS hD hD1 hc hs hd HSU h1 h1'
        go_enter Try.func59, Try.ntmps59
        go_wp2_with (go_at_call 79; refine (HLE.out _).mono ?_; rintro e w' ⟨rfl, rfl⟩)
        go_ret2
        exact ⟨⟨_, rfl⟩, rfl⟩
    · rw [show subN c (d + 1) = none from by unfold subN; rw [if_neg h2], Opt_none] at HLE
      rw [show baseN c s d = none from by unfold baseN; rw [if_pos h, if_neg (by omega)]]
      unfold BAns
      clear h h2 hC hS hD hD1 hc hs hd HSU h1 h1'
      go_enter Try.func59, Try.ntmps59
      go_wp2_with (go_at_call 79; refine (HLE.out _).mono ?_; rintro e w' ⟨rfl, rfl⟩)
      go_ret2
      exact ⟨⟨_, rfl⟩, rfl⟩
  · have h1 : (S != 1) = true := by rw [bne_iff_ne]; omega
    have h1' : (S == 1) = false := by rw [beq_eq_false_iff_ne]; omega
    rw [show baseN c s d = sumN c d 4611686018427387903 from by unfold baseN; rw [if_neg h]]
    generalize sumN c d 4611686018427387903 = o at HSU ⊢
    clear h hC hS hD hD1 hc hs hd HLE
    cases o with
    | none =>
      rw [Opt_none] at HSU
      unfold BAns
      go_enter Try.func59, Try.ntmps59
      go_wp2_with (go_at_call 78; refine (HSU.out _).mono ?_; rintro e w' ⟨rfl, rfl⟩)
      go_ret2
      exact ⟨⟨_, rfl⟩, rfl⟩
    | some b =>
      rw [Opt_some] at HSU
      unfold BAns
      obtain ⟨B, hB⟩ := letter b
      simp only [hB] at HSU ⊢
      clear hB
      go_enter Try.func59, Try.ntmps59
      go_wp2_with (go_at_call 78; refine (HSU.out _).mono ?_; rintro e w' ⟨rfl, rfl⟩)
      go_ret2
      exact ⟨rfl, rfl⟩

/-- What a section's prefix comes to: a count, a base, how many bytes, an error. -/
def qrd (l : List UInt8) (t m : Nat) : Int × Int × Int × Int :=
  if (rp 8 l).2.2 ≠ 0 then (0, 0, 0, (rp 8 l).2.2)
  else if (rp 7 (l.drop (rp 8 l).2.1.toNat)).2.2 ≠ 0 then (0, 0, 0, (rp 7 (l.drop (rp 8 l).2.1.toNat)).2.2)
  else match dcN (rp 8 l).1.toNat t m with
    | none => (0, 0, 0, 24)
    | some c => match baseN c ((l.getD (rp 8 l).2.1.toNat 0).toNat / 128) (rp 7 (l.drop (rp 8 l).2.1.toNat)).1.toNat with
      | none => (0, 0, 0, 24)
      | some b => ((c : Int), (b : Int), (rp 8 l).2.1 + (rp 7 (l.drop (rp 8 l).2.1.toNat)).2.1, 0)
def Ans4 (r : Int × Int × Int × Int) : Ending := .returned (.tuple #[.int .u64 r.1, .int .u64 r.2.1, .int .i64 r.2.2.1, .int .i64 r.2.2.2])

theorem results_tmp4 {fn : Func} {t u v x : Tmp} (h : fn.results = #[.tmp t, .tmp u, .tmp v, .tmp x]) (tmps : Array Value) (P : Program) (w : World) :
    (results fn tmps).run P w = .ok (.tuple #[tmps.getD t undef, tmps.getD u undef, tmps.getD v undef, tmps.getD x undef]) w := by
  simp [results, h]
theorem ret4 {a b d : Value} {c c' : Int} (h : c = c') : Ending.returned (.tuple #[a, b, .int .i64 c, d]) = .returned (.tuple #[a, b, .int .i64 c', d]) := by rw [h]
theorem rp_at (bV : Value) (l : List UInt8) (n : Int) (k : Nat) (hk : bitsOf n = k) (r : Int × Int × Int) (hr : rp k l = r) (w : World) (hb : Bs w bV l) (hm : l.length ≤ 1000000) :
    Calls Try.prog 57 #[bV, .int .i64 n] w fun e w' => e = .returned (.tuple #[.int .u64 r.1, .int .i64 r.2.1, .int .i64 r.2.2]) ∧ w = w' := by
  subst hk hr
  exact readPrefix_any bV l n w hb hm

set_option maxRecDepth 100000 in
set_option maxHeartbeats 4000000 in
theorem qReadPrefix_any (bV : Value) (l : List UInt8) (t : Nat) (cap : Int) (w : World) (hb : Bs w bV l) (hm : l.length ≤ 1000000) (ht : t < 4611686018427387904) (hcap : cap < 9223372036854775808) :
    Calls Try.prog 32 #[bV, .int .u64 t, .int .i64 cap] w fun e w' => e = Ans4 (qrd l t (mostN cap)) ∧ w = w' := by
  have hmo := mostN_lt hcap
  have HQ := Bx.mk (show qrd l t (mostN cap) = qrd l t (mostN cap) from rfl)
  rcases rp_two 8 l with ⟨e1, he1, hh⟩ | ⟨n1, m1, he1, hm1, hm2, hn1⟩
  · have HR := Bx.mk (rp_at bV l 8 8 rfl _ he1 w hb hm)
    have hq : qrd l t (mostN cap) = (0, 0, 0, e1) := by unfold qrd; rw [he1, if_pos (by rcases hh with rfl | rfl <;> simp)]
    rw [hq]
    unfold Ans4
    obtain ⟨T, hT⟩ := letter t
    simp only [hT]
    have h0 : (e1 != 0) = true := by rw [bne_iff_ne]; omega
    have h0' : (e1 == 0) = false := by rw [beq_eq_false_iff_ne]; omega
    clear hq HQ hT hb hm ht hcap hmo hh he1
    go_enter Try.func32, Try.ntmps32
    go_wp2_with fail
    refine HR.out.mono ?_
    rintro e w' ⟨rfl, rfl⟩
    go_wp2_with fail
    ((try simp only [Exit.inBlock, Exit.then]); refine bodyPost_ret (results_tmp4 rfl _ _ _) rfl ?_)
    exact ⟨rfl, rfl⟩
  have HR1 := Bx.mk (rp_at bV l 8 8 rfl _ he1 w hb hm)
  obtain ⟨cV, hfrom, hcV⟩ := hb.from_ (m1 : Int) (by omega) (by omega)
  have hcb := hcV w hb
  rw [Int.toNat_natCast] at hcb
  obtain ⟨N1, hN1⟩ := letter n1
  obtain ⟨M1, hM1⟩ := letter m1
  rw [hM1] at hfrom
  simp only [hN1, hM1] at HR1
  rcases rp_two 7 (l.drop m1) with ⟨e2, he2, hh⟩ | ⟨n2, m2, he2, hm3, hm4, hn2⟩
  · have HR2 := Bx.mk (rp_at cV (l.drop m1) 7 7 rfl _ he2 w hcb (by simp; omega))
    have hq : qrd l t (mostN cap) = (0, 0, 0, e2) := by unfold qrd; rw [he1, if_neg (by simp)]; dsimp only; rw [Int.toNat_natCast, he2, if_pos (by rcases hh with rfl | rfl <;> simp)]
    rw [hq]
    unfold Ans4
    obtain ⟨T, hT⟩ := letter t
    simp only [hT]
    have h0 : (e2 != 0) = true := by rw [bne_iff_ne]; omega
    have h0' : (e2 == 0) = false := by rw [beq_eq_false_iff_ne]; omega
    clear hq HQ hT hb hm ht hcap hmo hh he1 he2 hN1 hM1 hcV hcb hm1 hm2 hn1
    go_enter Try.func32, Try.ntmps32
    go_wp2_with fail
    refine HR1.out.mono ?_
    rintro e w' ⟨rfl, rfl⟩
    go_wp2_with fail
    refine HR2.out.mono ?_
    rintro e w' ⟨rfl, rfl⟩
    go_wp2_with fail
    ((try simp only [Exit.inBlock, Exit.then]); refine bodyPost_ret (results_tmp4 rfl _ _ _) rfl ?_)
    exact ⟨rfl, rfl⟩
  have HR2 := Bx.mk (rp_at cV (l.drop m1) 7 7 rfl _ he2 w hcb (by simp; omega))
  obtain ⟨N2, hN2⟩ := letter n2
  obtain ⟨M2, hM2⟩ := letter m2
  simp only [hN2, hM2] at HR2
  have hmx : maxVar = 4611686018427387903 := rfl
  have HD := Bx.mk (decodeCount_any n1 t cap (by omega) ht hcap w)
  have hq : qrd l t (mostN cap) = match dcN n1 t (mostN cap) with
    | none => (0, 0, 0, 24)
    | some c => match baseN c ((l.getD m1 0).toNat / 128) n2 with
      | none => (0, 0, 0, 24)
      | some b => ((c : Int), (b : Int), (m1 : Int) + (m2 : Int), 0) := by
    unfold qrd
    rw [he1, if_neg (by simp)]
    dsimp only
    rw [Int.toNat_natCast, he2, if_neg (by simp), Int.toNat_natCast]
    dsimp only
    rw [Int.toNat_natCast]
  rw [hq]
  clear hq HQ
  have hdl : ∀ c, dcN n1 t (mostN cap) = some c → c < 18446744073709551616 := fun c h => by have := (dcN_le h).1; omega
  generalize dcN n1 t (mostN cap) = dc at HD hdl ⊢
  cases dc with
  | none =>
    rw [Dec_none] at HD
    unfold Ans4
    obtain ⟨T, hT⟩ := letter t
    simp only [hT, hN1] at HD ⊢
    clear hdl hT hb hm ht hcap hmo he1 he2 hN1 hM1 hcV hcb hm1 hm2 hn1 hm3 hm4 hn2 hN2 hM2 hmx
    go_enter Try.func32, Try.ntmps32
    go_wp2_with fail
    refine HR1.out.mono ?_
    rintro e w' ⟨rfl, rfl⟩
    go_wp2_with fail
    refine HR2.out.mono ?_
    rintro e w' ⟨rfl, rfl⟩
    go_wp2_with fail
    refine HD.out.mono ?_
    rintro e w' ⟨rfl, rfl⟩
    go_wp2_with fail
    ((try simp only [Exit.inBlock, Exit.then]); refine bodyPost_ret (results_tmp4 rfl _ _ _) rfl ?_)
    exact ⟨rfl, rfl⟩
  | some c =>
    have hc := hdl c rfl
    rw [Dec_some] at HD
    have hlt : m1 < l.length := by have : (l.drop m1).length = l.length - m1 := List.length_drop; omega
    obtain ⟨p, hix, hcell0⟩ := hb.at_ m1 hlt
    have hcell := hcell0 w hb
    have hgd : l.getD m1 0 = l[m1] := by simp [List.getD, hlt]
    rw [← hgd] at hcell
    have hz := (l.getD m1 0).toNat_lt
    have hz' : (l.getD m1 0).toNat < 256 := hz
    generalize (l.getD m1 0).toNat = z at hcell hz' ⊢
    have hB := baseAt_any c (z / 128) n2 hc (by omega) (by omega) w
    obtain ⟨T, hT⟩ := letter t
    obtain ⟨C, hC⟩ := letter c
    obtain ⟨Z, hZ⟩ := letter z
    obtain ⟨S, hS⟩ := letter (z / 128)
    rw [hM1] at hix
    simp only [hT, hN1, hN2, hC, hS, hM1, hM2] at HD hB ⊢
    rw [hZ] at hcell
    have hshr : Z / 128 = S := by omega
    have hshr' : Z / 2 ^ 7 = S := by omega
    have hdl : (l.drop m1).length = l.length - m1 := List.length_drop
    have HADD : Bx (wrap64 (M1 + M2) = M1 + M2) := ⟨by unfold wrap64; omega⟩
    generalize baseN c (z / 128) n2 = bn at hB ⊢
    cases bn with
    | none =>
      unfold BAns at hB
      have HB := Bx.mk hB
      unfold Ans4
      clear hB hZ hS hC hT hz hz' hgd hcell0 hlt hc hdl hb hm ht hcap hmo he1 he2 hN1 hM1 hcV hcb hm1 hm2 hn1 hm3 hm4 hn2 hN2 hM2 hmx
      go_enter Try.func32, Try.ntmps32
      go_wp2_with fail
      refine HR1.out.mono ?_
      rintro e w' ⟨rfl, rfl⟩
      go_wp2_with fail
      refine HR2.out.mono ?_
      rintro e w' ⟨rfl, rfl⟩
      go_wp2_with fail
      refine HD.out.mono ?_
      rintro e w' ⟨rfl, rfl⟩
      go_wp2_with (with_reducible refine wpList_indexAddr (v := .pointer (some p)) (by with_unfolding_all exact hix _) ?_)
      refine HB.out.mono ?_
      rintro e w' ⟨⟨x, rfl⟩, rfl⟩
      go_wp2_with fail
      ((try simp only [Exit.inBlock, Exit.then]); refine bodyPost_ret (results_tmp4 rfl _ _ _) rfl ?_)
      exact ⟨rfl, rfl⟩
    | some b =>
      unfold BAns at hB
      obtain ⟨B, hBB⟩ := letter b
      simp only [hBB] at hB ⊢
      have HB := Bx.mk hB
      unfold Ans4
      clear hB hBB hZ hS hC hT hz hz' hgd hcell0 hlt hc hdl hb hm ht hcap hmo he1 he2 hN1 hM1 hcV hcb hm1 hm2 hn1 hm3 hm4 hn2 hN2 hM2 hmx
      go_enter Try.func32, Try.ntmps32
      go_wp2_with fail
      refine HR1.out.mono ?_
      rintro e w' ⟨rfl, rfl⟩
      go_wp2_with fail
      refine HR2.out.mono ?_
      rintro e w' ⟨rfl, rfl⟩
      go_wp2_with fail
      refine HD.out.mono ?_
      rintro e w' ⟨rfl, rfl⟩
      go_wp2_with (with_reducible refine wpList_indexAddr (v := .pointer (some p)) (by with_unfolding_all exact hix _) ?_)
      refine HB.out.mono ?_
      rintro e w' ⟨rfl, rfl⟩
      go_wp2_with fail
      ((try simp only [Exit.inBlock, Exit.then]); refine bodyPost_ret (results_tmp4 rfl _ _ _) rfl ?_)
      exact ⟨ret4 HADD.out, rfl⟩

end Go.Proofs.Yteopmaaghhendaa
