/-
  Texts put together: HlU.
-/
import Derived.Test.YtejkbibahbcofaaM27
import Derived.Test.YtejkbibahbcofaaM28
import Derived.BigRegion
import Derived.Deep.CutRange
import Derived.Deep.Cut

/-
  Contract of the statements' bytes: a part of a block, written.
-/
namespace Go.Proofs.Ytejkbibahbcofaa
open Go.RowKit
set_option linter.unusedVariables false

set_option maxRecDepth 100000 in
set_option maxHeartbeats 2000000 in
theorem lbytes_any (B : Nat) (bV : Value) (l : List UInt8) (p : Pv) (w : World) (hb : OwB w B bV l) (hB : B ≤ w.heap.size) (hl : l.length ≤ 10000) (hp : p.ok) :
    Calls Try.prog 13 #[bV, .agg p.cs] w fun e w' => ∃ v', e = .returned v' ∧ OwB w' B v' (l ++ p.w) ∧ Below B w w' ∧ NonB w w' := by
  have HB := Bx.mk hb
  have HBS := Bx.mk hB
  have HL := Bx.mk hl
  have HP := Bx.mk hp
  obtain ⟨k, hk⟩ : ∃ k, p.k % 8 = k := ⟨_, rfl⟩
  have hk8 : k < 8 := by omega
  have hk1 : (p.k : Int) % 8 = (k : Int) := by omega
  have hk2 : (p.k : Int).tmod 8 = (k : Int) := by rw [Int.tmod_eq_emod_of_nonneg (by omega)]; exact hk1
  have HW : Bx (p.w = if k < 2 then pre 128 7 p.i else if k = 7 then pre 32 5 p.i else litW (lineF k) (lineK k) p.i p.h p.n.data.toList p.v.data.toList) := ⟨by unfold Pv.w; rw [hk]⟩
  have HK8 := Bx.mk hk8
  have HN1 := Bx.mk (NonB.alloc w (.cells p.cs 33))
  have HB1 := Bx.mk ((Below.refl B w).alloc hB (.cells p.cs 33))
  have HO1 := Bx.mk (hb.alloc (.cells p.cs 33))
  have HP1 := Bx.mk (Pb.new w p)
  have HS1 : Bx (B ≤ (w.alloc (.cells p.cs 33)).heap.size) := ⟨by simp; omega⟩
  obtain ⟨w1, hw1⟩ : ∃ w1, w.alloc (.cells p.cs 33) = w1 := ⟨_, rfl⟩
  obtain ⟨g, hg⟩ : ∃ g, w.heap.size = g := ⟨_, rfl⟩
  rw [hw1] at HN1 HB1 HO1 HP1 HS1
  rw [hg] at HP1
  have HW1 := Bx.mk hw1
  have HG := Bx.mk hg
  obtain ⟨c0, c1, c2, c3, c4⟩ := HP1.out.cells
  obtain ⟨pi, hpi⟩ : ∃ pi, p.i = pi := ⟨_, rfl⟩
  obtain ⟨pk, hpk⟩ : ∃ pk, p.k = pk := ⟨_, rfl⟩
  obtain ⟨pn, hpn⟩ : ∃ pn, p.n = pn := ⟨_, rfl⟩
  obtain ⟨pv, hpv⟩ : ∃ pv, p.v = pv := ⟨_, rfl⟩
  obtain ⟨ph, hph⟩ : ∃ ph, p.h = ph := ⟨_, rfl⟩
  have HPI : Bx (pi < 18446744073709551616 ∧ pn.size ≤ 200 ∧ pv.size ≤ 200) := ⟨by rw [← hpi, ← hpn, ← hpv]; exact hp.2⟩
  rw [hpi, hpn, hpv, hph] at HW
  rw [hpk] at hk1 hk2
  rw [hpi] at c1
  rw [hpk] at c0
  rw [hpn] at c2
  rw [hpv] at c3
  rw [hph] at c4
  have HPE : Bx (p.i = pi ∧ p.k = pk ∧ p.n = pn ∧ p.v = pv ∧ p.h = ph) := ⟨hpi, hpk, hpn, hpv, hph⟩
  clear hb hB hl hp hk hk8 hw1 hg hpi hpk hpn hpv hph HP
  have hbox : ∀ {ops : Array Oper} {Q : Exit → Act → World → Prop} {a : Act} {rest : List Oper} {d : Option Tmp} {ty : TypeId} {x : Operand} {pos : String} {af : Array Edge}, a.eval x = .agg p.cs →
      wpList Try.prog ops Q rest (a.put d (.pointer (some ⟨g, 0, none⟩))) w1 → wpList Try.prog ops Q (⟨d, .box 33 x, ty, pos, af, none⟩ :: rest) a w := fun hx h =>
    wpList_boxAgg hx fun w2 g2 hw2 hg2 => by rw [HW1.out] at hw2; rw [HG.out] at hg2; subst hw2; subst hg2; exact h
  by_cases hlt2 : k < 2
  · have hd1 : decide ((k : Int) < 2) = true := decide_eq_true (by omega)
    have HW2 : Bx (p.w = pre 128 7 pi) := ⟨by rw [HW.out, if_pos hlt2]⟩
    clear hlt2 HW
    go_enter Try.func13, Try.ntmps13
    go_wp2_with (with_reducible refine hbox rfl ?_)
    refine (refPrefix_non B bV l 128 7 pi w1 HO1.out HS1.out (by have := HL.out; omega) HPI.out.1).mono ?_
    rintro e w2 ⟨v2, rfl, ho2, b2, n2⟩
    rw [show bitsOf 7 = 7 from rfl, ← HW2.out] at ho2
    have HO2 := Bx.mk ho2
    have HB2 := Bx.mk (HB1.out.trans b2)
    have HN2 := Bx.mk (HN1.out.trans n2)
    clear ho2 b2 n2
    go_wp2_with fail
    go_ret
    exact ⟨_, rfl, HO2.out, HB2.out, HN2.out⟩
  by_cases h7 : k = 7
  · have hd1 : decide ((k : Int) < 2) = false := decide_eq_false (by omega)
    have hd2 : ((k : Int) == 7) = true := by rw [beq_iff_eq]; omega
    have HW2 : Bx (p.w = pre 32 5 pi) := ⟨by rw [HW.out, if_neg hlt2, if_pos h7]⟩
    clear hlt2 h7 HW
    go_enter Try.func13, Try.ntmps13
    go_wp2_with (with_reducible refine hbox rfl ?_)
    refine (refPrefix_non B bV l 32 5 pi w1 HO1.out HS1.out (by have := HL.out; omega) HPI.out.1).mono ?_
    rintro e w2 ⟨v2, rfl, ho2, b2, n2⟩
    rw [show bitsOf 5 = 5 from rfl, ← HW2.out] at ho2
    have HO2 := Bx.mk ho2
    have HB2 := Bx.mk (HB1.out.trans b2)
    have HN2 := Bx.mk (HN1.out.trans n2)
    clear ho2 b2 n2
    go_wp2_with fail
    go_ret
    exact ⟨_, rfl, HO2.out, HB2.out, HN2.out⟩
  have hd1 : decide ((k : Int) < 2) = false := decide_eq_false (by omega)
  have hd2 : ((k : Int) == 7) = false := by rw [beq_eq_false_iff_ne]; omega
  have HW2 : Bx (p.w = litW (lineF k) (lineK k) pi ph pn.data.toList pv.data.toList) := ⟨by rw [HW.out, if_neg hlt2, if_neg h7]⟩
  obtain ⟨m, hm, hm5⟩ : ∃ m, k = m + 2 ∧ m < 5 := ⟨k - 2, by omega, by have := HK8.out; omega⟩
  have hm1 : IntKind.u8.wrap ((k : Int) - 2) = (m : Int) := by simp only [IntKind.wrap_u8]; omega
  have HM : Bx (k = m + 2 ∧ m < 5) := ⟨hm, hm5⟩
  clear hlt2 h7 HW hm
  go_enter Try.func13, Try.ntmps13
  go_upto_region 6 with (with_reducible refine hbox rfl ?_)
  go_cut [6, 7] from 25 to 34 (fun s6 s7 wx => s6 = .int .u8 ((lineF k).toNat : Int) ∧ s7 = .int .i64 (lineK k : Int) ∧ Bx (Below w1.heap.size w1 wx))
  case first =>
    have HF6 : Bx (lineF k = lineF (m + 2) ∧ lineK k = lineK (m + 2)) := ⟨by rw [HM.out.1]; exact ⟨rfl, rfl⟩⟩
    clear hd1 hd2 c0 c1 c2 c3 c4 hk1 hk2 hbox
    rcases (by omega : m = 0 ∨ m = 1 ∨ m = 2 ∨ m = 3 ∨ m = 4) with hm0 | hm0 | hm0 | hm0 | hm0
    all_goals subst hm0
    all_goals clear hm5
    case' inl => replace hm1 : IntKind.u8.wrap ((k : Int) - 2) = 0 := by simpa using hm1
    case' inr.inl => replace hm1 : IntKind.u8.wrap ((k : Int) - 2) = 1 := by simpa using hm1
    case' inr.inr.inl => replace hm1 : IntKind.u8.wrap ((k : Int) - 2) = 2 := by simpa using hm1
    case' inr.inr.inr.inl => replace hm1 : IntKind.u8.wrap ((k : Int) - 2) = 3 := by simpa using hm1
    case' inr.inr.inr.inr => replace hm1 : IntKind.u8.wrap ((k : Int) - 2) = 4 := by simpa using hm1
    all_goals go_region
    all_goals go_wp2_with fail
    all_goals go_meet
    all_goals exact ⟨by rw [HF6.out.1]; rfl, by rw [HF6.out.2]; rfl, ⟨(((Below.refl w1.heap.size w1).alloc (Nat.le_refl _) _).alloc (by simp) _).drew⟩⟩
  case rest =>
    clear hm1 hm5 hbox
    obtain ⟨rfl, rfl, HBC⟩ := hcut
    have HPC := Bx.mk (HP1.out.keep HBC.out)
    have HOC := Bx.mk (HO1.out.keep HBC.out)
    have HSC : Bx (B ≤ wc.heap.size) := ⟨Nat.le_trans HS1.out HBC.out.size⟩
    have HBC1 : Bx (Below B w wc) := ⟨HB1.out.trans (HBC.out.mono HS1.out)⟩
    have HNC : Bx (NonB w wc) := ⟨HN1.out.trans (NonB.of_below HBC.out)⟩
    have hpc := HPC.out.cells
    rw [HPE.out.1, HPE.out.2.1, HPE.out.2.2.1, HPE.out.2.2.2.1, HPE.out.2.2.2.2] at hpc
    obtain ⟨e0, e1, e2, e3, e4⟩ := hpc
    have HLF : Bx ((pre (lineF k) (lineK k) pi).length ≤ 11) := ⟨(pre_len _ _ _).2⟩
    have hbk : bitsOf (lineK k : Int) = lineK k := by
      unfold lineK
      split
      · rfl
      · split <;> rfl
    have HBK := Bx.mk hbk
    clear hbk HBC c0 c1 c2 c3 c4
    obtain ⟨lf, hlf⟩ : ∃ lf, lineF k = lf := ⟨_, rfl⟩
    obtain ⟨lk, hlk⟩ : ∃ lk, lineK k = lk := ⟨_, rfl⟩
    rw [hlf, hlk] at HLF HW2
    rw [hlk] at HBK
    rw [hlf, hlk]
    clear hlf hlk
    go_wp2_with fail
    refine (refPrefix_non B bV l lf (lk : Int) pi wc HOC.out HSC.out (by have := HL.out; omega) HPI.out.1).mono ?_
    rintro e w2 ⟨v2, rfl, ho2, b2, n2⟩
    rw [HBK.out] at ho2
    have HO2 := Bx.mk ho2
    have HB2 := Bx.mk (HBC1.out.trans b2)
    have HN2 := Bx.mk (HNC.out.trans n2)
    have HS2 : Bx (B ≤ w2.heap.size) := ⟨Nat.le_trans HSC.out b2.size⟩
    have HP2 := Bx.mk (HPC.out.non n2)
    have hpc := HP2.out.cells
    rw [HPE.out.1, HPE.out.2.1, HPE.out.2.2.1, HPE.out.2.2.2.1, HPE.out.2.2.2.2] at hpc
    clear ho2 b2 n2 e0 e1 e2 e3 e4
    obtain ⟨e0, e1, e2, e3, e4⟩ := hpc
    obtain ⟨z0, hz0⟩ : ∃ z0, ((pi : Int) == 0) = z0 := ⟨_, rfl⟩
    cases z0 with
    | true =>
      have hpi0 : pi = 0 := by rw [beq_iff_eq] at hz0; omega
      have HW3 : Bx (p.w = pre lf lk pi ++ (strW ph pn.data.toList ++ strW ph pv.data.toList)) := ⟨by rw [HW2.out]; unfold litW; rw [if_pos hpi0]⟩
      have HWL := Bx.mk (strW_len ph pn.data.toList).2
      clear hpi0 HW2
      go_wp2_with fail
      refine (lstr_non B v2 _ pn ph w2 HO2.out HS2.out (by have := HL.out; have := HLF.out; rw [List.length_append]; omega) (by have := HPI.out.2.1; omega)).mono ?_
      rintro e w3 ⟨v3, rfl, ho3, b3, n3⟩
      have HO3 := Bx.mk ho3
      have HB3 := Bx.mk (HB2.out.trans b3)
      have HN3 := Bx.mk (HN2.out.trans n3)
      have HS3 : Bx (B ≤ w3.heap.size) := ⟨Nat.le_trans HS2.out b3.size⟩
      have HP3 := Bx.mk (HP2.out.non n3)
      have hpc := HP3.out.cells
      rw [HPE.out.1, HPE.out.2.1, HPE.out.2.2.1, HPE.out.2.2.2.1, HPE.out.2.2.2.2] at hpc
      clear ho3 b3 n3 e0 e1 e2 e3 e4
      obtain ⟨e0, e1, e2, e3, e4⟩ := hpc
      go_wp2_with fail
      refine (lstr_non B v3 _ pv ph w3 HO3.out HS3.out (by have := HL.out; have := HLF.out; have := HWL.out; have := HPI.out.2.1; have h9 : pn.data.toList.length = pn.size := by simp
                                                           simp only [List.length_append]; omega) (by have := HPI.out.2.2; omega)).mono ?_
      rintro e w4 ⟨v4, rfl, ho4, b4, n4⟩
      rw [List.append_assoc, List.append_assoc, ← HW3.out] at ho4
      have HO4 := Bx.mk ho4
      have HB4 := Bx.mk (HB3.out.trans b4)
      have HN4 := Bx.mk (HN3.out.trans n4)
      clear ho4 b4 n4 e0 e1 e2 e3 e4
      go_wp2_with fail
      go_ret
      exact ⟨_, rfl, HO4.out, HB4.out, HN4.out⟩
    | false =>
      have hpi0 : pi ≠ 0 := by rw [beq_eq_false_iff_ne] at hz0; omega
      have HW3 : Bx (p.w = pre lf lk pi ++ strW ph pv.data.toList) := ⟨by rw [HW2.out]; unfold litW; rw [if_neg hpi0, List.nil_append]⟩
      clear hpi0 HW2
      go_wp2_with fail
      refine (lstr_non B v2 _ pv ph w2 HO2.out HS2.out (by have := HL.out; have := HLF.out; rw [List.length_append]; omega) (by have := HPI.out.2.2; omega)).mono ?_
      rintro e w4 ⟨v4, rfl, ho4, b4, n4⟩
      rw [List.append_assoc, ← HW3.out] at ho4
      have HO4 := Bx.mk ho4
      have HB4 := Bx.mk (HB2.out.trans b4)
      have HN4 := Bx.mk (HN2.out.trans n4)
      clear ho4 b4 n4 e0 e1 e2 e3 e4
      go_wp2_with fail
      go_ret
      exact ⟨_, rfl, HO4.out, HB4.out, HN4.out⟩

end Go.Proofs.Ytejkbibahbcofaa
