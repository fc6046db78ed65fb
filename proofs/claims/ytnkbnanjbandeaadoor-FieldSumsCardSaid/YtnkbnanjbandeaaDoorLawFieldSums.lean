/-
  bifoldlaw3.FieldSums answers true, whatever its arguments: the walk.
-/
import Derived.Test.YtnkbnanjbandeaaDoorLawFieldFinds
import Derived.Deep.QuietTactic
import Derived.BigQuiet
namespace Go.Proofs.YtnkbnanjbandeaaDoor
open Go.RowKit
set_option linter.unusedVariables false

theorem same_prefix (l m : List Fd) : decide (l = l ++ m) = ((m.length : Int) == 0) := by
  rw [Bool.eq_iff_iff, decide_eq_true_iff, beq_iff_eq]
  constructor
  · intro h
    have := congrArg List.length h
    rw [List.length_append] at this
    omega
  · intro h
    have : m = [] := List.eq_nil_of_length_eq_zero (by omega)
    rw [this, List.append_nil]

set_option maxRecDepth 100000 in
set_option maxHeartbeats 4000000 in
theorem fieldSums_walk (v0 v1 : Value) (l m : List Fd) (name : ByteArray) (w : World) (h0 : Fs w v0 l) (h1 : Fs w v1 m) (s0 : Small l) (s1 : Small m) :
    Calls Tryd.prog 6 #[v0, v1, .string name] w fun e w' => e = .returned (.bool true) ∧ Below w.heap.size w w' := by
  have H0 := Bx.mk h0
  have H1 := Bx.mk h1
  have S0 := Bx.mk s0
  have S1 := Bx.mk s1
  have hlen := fun ty W => h0.run_len ty W
  have hlen1 := fun ty W => h1.run_len ty W
  clear h0 h1 s0 s1
  by_cases hl : 30 < l.length
  · have hd : decide (30 < (l.length : Int)) = true := by rw [decide_eq_true_iff]; omega
    clear hl
    go_enter Tryd.func6, Tryd.ntmps6
    go_wp2_with (go_at_call 7; refine (known_any _).mono ?_; rintro e w1 ⟨rfl, b1⟩)
    go_ret
    exact ⟨rfl, b1⟩
  by_cases hm : 30 < m.length
  · have hd : decide (30 < (l.length : Int)) = false := by rw [decide_eq_false_iff_not]; omega
    have hd2 : decide (30 < (m.length : Int)) = true := by rw [decide_eq_true_iff]; omega
    clear hl hm
    go_enter Tryd.func6, Tryd.ntmps6
    go_wp2_with (go_at_call 7; refine (known_any _).mono ?_; rintro e w1 ⟨rfl, b1⟩)
    go_ret
    exact ⟨rfl, b1⟩
  have hd : decide (30 < (l.length : Int)) = false := by rw [decide_eq_false_iff_not]; omega
  have hd2 : decide (30 < (m.length : Int)) = false := by rw [decide_eq_false_iff_not]; omega
  have HL : Bx (l.length ≤ 30) := ⟨by omega⟩
  have HM : Bx (m.length ≤ 30) := ⟨by omega⟩
  clear hl hm
  obtain ⟨i0, hi, hz, hz1, hz2⟩ := infoFd'
  have Hi := Bx.mk hi; have Hz := Bx.mk hz; have Hz1 := Bx.mk hz1; have Hz2 := Bx.mk hz2
  clear hi hz hz1 hz2
  go_enter Tryd.func6, Tryd.ntmps6
  go_wp2_with fail
  refine (known_any w).mono ?_
  rintro e w1 ⟨rfl, b1⟩
  have HB1 := Bx.mk b1
  clear b1
  go_wp2
  clear hd hd2
  go_loopg [7] l.length (fun g s7 wx => ∃ k : Nat, k + g = l.length ∧ s7 = .int .i64 k ∧ Bx (sumF (l.take k) ≤ 100 * k) ∧ Bx (Below w.heap.size w wx))
  case atStart => exact ⟨0, by omega, rfl, ⟨by simp [sumF]⟩, HB1⟩
  case round =>
    clear HB1
    obtain ⟨k, hkg, rfl, HQ, HB⟩ := hrel
    cases gk with
    | zero =>
      obtain rfl : k = l.length := by omega
      rw [List.take_length] at HQ
      go_wp2
      go_loopg [8] m.length (fun g s8 wx => ∃ k : Nat, k + g = m.length ∧ s8 = .int .i64 k ∧ Bx (sumF (m.take k) ≤ 100 * k) ∧ Bx (Below w.heap.size w wx))
      case atStart => exact ⟨0, by omega, rfl, ⟨by simp [sumF]⟩, HB⟩
      case round =>
        clear HB
        obtain ⟨k, hkg, rfl, HQ2, HB⟩ := hrel
        cases gk with
        | zero =>
          obtain rfl : k = m.length := by omega
          rw [List.take_length] at HQ2
          go_wp2_with (first
            | (at_builtin; refine wpList_append_an _ 2 (by omega) rfl _ _ 27 rfl w.heap.size 31 i0 _ 32 Tryd.underlying27 Hi.out Hz.out Hz1.out Hz2.out rfl _ v0 0 _ [] _ rfl rfl (An.nil 2 wr _ _) (H0.out.keep HB.out) one_fvl (by have := HL.out; omega) (by have := HL.out; simp [maxLen]; omega) HB.out.size ?_; intro v2 w2 hap2 hb2)
            | (at_builtin; refine wpList_append_an _ 2 (by omega) rfl _ _ 27 rfl w.heap.size 31 i0 _ 32 Tryd.underlying27 Hi.out Hz.out Hz1.out Hz2.out rfl v2 v1 _ _ _ _ rfl rfl hap2 (H1.out.keep (HB.out.trans hb2)) one_fvl (by have := HL.out; have := HM.out; omega) (by have := HL.out; have := HM.out; simp [maxLen]; omega) (HB.out.trans hb2).size ?_; intro v3 w3 hap3 hb3))
          have hfa : Fs w3 v3 (l ++ m) := by
            have h := hap3.rd
            rw [Nat.zero_add, List.nil_append, ← List.flatMap_append, ← List.length_append] at h
            exact h
          have HFA := Bx.mk hfa
          have HB3 := Bx.mk (HB.out.trans (hb2.trans hb3))
          have HA0 := Bx.mk (H0.out.keep HB3.out)
          have HA1 := Bx.mk (H1.out.keep HB3.out)
          clear hap2 hap3 hb2 hb3 HB hfa
          have HLLM := Bx.mk (show (l ++ m).length ≤ 100000 by have := HL.out; have := HM.out; rw [List.length_append]; omega)
          refine (find_any v0 l name w3 HA0.out (by have := HL.out; omega)).mono ?_
          rintro e w4 ⟨xa, rfl, pa, b4⟩
          have PA := Bx.mk pa.ss
          clear pa
          go_wp2_with fail
          refine (find_any v1 m name w4 (HA1.out.keep b4) (by have := HM.out; omega)).mono ?_
          rintro e w5 ⟨xb, rfl, pb, b5⟩
          have PA5 := Bx.mk (PA.out.keep b5)
          have PB := Bx.mk pb.ss
          have h5 : Below w3.heap.size w3 w5 := b4.trans (b5.mono b4.size)
          clear pb b4 b5 PA
          go_wp2_with fail
          refine (find_any v3 (l ++ m) name w5 (HFA.out.keep h5) HLLM.out).mono ?_
          rintro e w6 ⟨xc, rfl, pc, b6⟩
          have PA6 := Bx.mk (PA5.out.keep b6)
          have PB6 := Bx.mk (PB.out.keep b6)
          have PC6 := Bx.mk pc.ss
          have h6 : Below w3.heap.size w3 w6 := h5.trans (b6.mono h5.size)
          clear pc b6 h5 PA5 PB
          have la := fun ty W => PA6.out.run_len ty W
          have lb := fun ty W => PB6.out.run_len ty W
          have lc := fun ty W => PC6.out.run_len ty W
          have HSL := Bx.mk (sizeF_sum l)
          have HSM := Bx.mk (sizeF_sum m)
          go_wp2_with fail
          refine (size_any v3 (l ++ m) w6 (HFA.out.keep h6) (by rw [sizeF_append]; have := HSL.out; have := HSM.out; have := HQ.out; have := HQ2.out; have := HL.out; have := HM.out; omega)).mono ?_
          rintro e w7 ⟨rfl, b7⟩
          have h7 : Below w3.heap.size w3 w7 := h6.trans (b7.mono h6.size)
          have PA7 := Bx.mk (PA6.out.keep b7)
          have PB7 := Bx.mk (PB6.out.keep b7)
          have PC7 := Bx.mk (PC6.out.keep b7)
          clear b7 h6 PA6 PB6 PC6
          go_wp2_with fail
          refine (size_any v0 l w7 (HA0.out.keep h7) (by have := HSL.out; have := HQ.out; have := HL.out; omega)).mono ?_
          rintro e w8 ⟨rfl, b8⟩
          have h8 : Below w3.heap.size w3 w8 := h7.trans (b8.mono h7.size)
          have PA8 := Bx.mk (PA7.out.keep b8)
          have PB8 := Bx.mk (PB7.out.keep b8)
          have PC8 := Bx.mk (PC7.out.keep b8)
          clear b8 h7 PA7 PB7 PC7
          go_wp2_with fail
          refine (size_any v1 m w8 (HA1.out.keep h8) (by have := HSM.out; have := HQ2.out; have := HM.out; omega)).mono ?_
          rintro e w9 ⟨rfl, b9⟩
          have h9 : Below w3.heap.size w3 w9 := h8.trans (b9.mono h8.size)
          have PA9 := Bx.mk (PA8.out.keep b9)
          have PB9 := Bx.mk (PB8.out.keep b9)
          have PC9 := Bx.mk (PC8.out.keep b9)
          clear b9 h8 PA8 PB8 PC8
          rw [sizeF_append]
          have hsl : sizeF l ≤ 100000 := by have := HSL.out; have := HQ.out; have := HL.out; omega
          have hsm : sizeF m ≤ 100000 := by have := HSM.out; have := HQ2.out; have := HM.out; omega
          generalize sizeF l = SL at hsl HSL ⊢
          generalize sizeF m = SM at hsm HSM ⊢
          have hse : (((SL + SM : Nat) : Int) != (SL : Int) + (SM : Int)) = false := by rw [bne_eq_false_iff_eq]; omega
          have HLC := Bx.mk (show (findF (l ++ m) name).length = (findF l name).length + (findF m name).length by rw [findF_append, List.length_append])
          have HFC := Bx.mk (findF_append l m name)
          have hla : (findF l name).length ≤ 30 := Nat.le_trans (findF_length_le _ _) HL.out
          have hlb : (findF m name).length ≤ 30 := Nat.le_trans (findF_length_le _ _) HM.out
          rw [HLC.out] at lc
          generalize hA : findF l name = fa at PA9 la lc HFC HLC hla
          generalize hBB : findF m name = fb at PB9 lb lc HFC HLC hlb
          generalize hC : findF (l ++ m) name = fc at PC9 HFC HLC
          clear hA hBB hC
          have hle : ((fa.length + fb.length : Nat) : Int) = (fa.length : Int) + (fb.length : Int) := by omega
          have hlne : (((fa.length + fb.length : Nat) : Int) != (fa.length : Int) + (fb.length : Int)) = false := by rw [bne_eq_false_iff_eq]; omega
          generalize hLA : fa.length = LA at la lc HLC hla hlne hle
          generalize hLB : fb.length = LB at lb lc HLC hlb hlne hle
          have HLA := Bx.mk hLA
          have HLB := Bx.mk hLB
          clear hLA hLB hle
          go_wp2
          clear hse hlne hsl hsm
          go_loopg [13] (LA + LB) (fun g s13 wx => ∃ k : Nat, k + g = LA + LB ∧ s13 = .int .i64 k ∧ Bx (Below w9.heap.size w9 wx))
          case atStart => exact ⟨0, by omega, rfl, ⟨Below.refl _ _⟩⟩
          case round =>
            obtain ⟨k, hkg2, rfl, HK⟩ := hrel
            cases gk with
            | zero =>
              obtain rfl : k = LA + LB := by omega
              have H9 := Bx.mk (h9.trans (HK.out.mono h9.size))
              clear HK h9
              have hnl : ¬ ((LA + LB : Nat) : Int) < (LA : Int) + (LB : Int) := by omega
              go_wp2_with fail
              refine (same_any v3 v3 _ _ wr (HFA.out.keep H9.out) (HFA.out.keep H9.out)).mono ?_
              rintro e wa ⟨rfl, ba⟩
              rw [show decide (l ++ m = l ++ m) = true from decide_eq_true rfl]
              have Ha := Bx.mk (H9.out.trans (ba.mono H9.out.size))
              clear ba
              go_wp2_with fail
              refine (same_any v0 v3 l (l ++ m) wa (HA0.out.keep Ha.out) (HFA.out.keep Ha.out)).mono ?_
              rintro e wb ⟨rfl, bb⟩
              rw [same_prefix]
              have Hb := Bx.mk (Ha.out.trans (bb.mono Ha.out.size))
              clear bb
              go_wp2
              go_ret
              exact ⟨rfl, HB3.out.trans (Hb.out.mono HB3.out.size)⟩
            | succ g =>
              have hkc : k < LA + LB := by omega
              have hkz : (k : Int) < (LA : Int) + (LB : Int) := by omega
              obtain ⟨b3, o3, hix3, hcs3⟩ := PC9.out.at_ k (by have := HLC.out; omega)
              have hc3 := hcs3 wr (PC9.out.keep HK.out)
              clear hcs3
              by_cases hka : k < LA
              · have hkaz : (k : Int) < (LA : Int) := by omega
                have hd1 : decide ((k : Int) < (LA : Int)) = true := decide_eq_true hkaz
                have hd2 : decide ((LA : Int) ≤ (k : Int)) = false := by rw [decide_eq_false_iff_not]; omega
                have hn1 : decide (k < LA) = true := by rw [decide_eq_true_iff]; omega
                have hn2 : decide (LA ≤ k) = false := by rw [decide_eq_false_iff_not]; omega
                obtain ⟨b1, o1, hix1, hcs1⟩ := PA9.out.at_ k (by have := HLA.out; omega)
                have hc1 := hcs1 wr (PA9.out.keep HK.out)
                clear hcs1
                have heq : fc[k]'(by have := HLC.out; omega) = fa[k]'(by have := HLA.out; omega) := by
                  have h := HFC.out
                  subst h
                  exact List.getElem_append_left _
                rw [heq] at hc3
                clear heq
                generalize fa[k]'(by have := HLA.out; omega) = x at hc1 hc3
                have hx : (x.toList != x.toList) = false := str_bne_false rfl
                have hx2 : (x.toList == x.toList) = true := str_beq_true rfl
                go_wp2
                go_quiet (fail)
                go_wp2
                go_roundg g
                case measure => omega
                case rel => exact ⟨k + 1, by omega, by go_num, ⟨below_drewN HK.out _⟩⟩
              · have hd1 : decide ((k : Int) < (LA : Int)) = false := by rw [decide_eq_false_iff_not]; omega
                have hd2 : decide ((LA : Int) ≤ (k : Int)) = true := by rw [decide_eq_true_iff]; omega
                have hn1 : decide (k < LA) = false := by rw [decide_eq_false_iff_not]; omega
                have hn2 : decide (LA ≤ k) = true := by rw [decide_eq_true_iff]; omega
                obtain ⟨b2, o2, hix2, hcs2⟩ := PB9.out.at_ (k - LA) (by have := HLB.out; omega)
                have hc2 := hcs2 wr (PB9.out.keep HK.out)
                clear hcs2
                have heq : fc[k]'(by have := HLC.out; omega) = fb[k - LA]'(by have := HLB.out; omega) := by
                  have h := HFC.out
                  have h2 := HLA.out
                  subst h h2
                  exact List.getElem_append_right (by omega)
                rw [heq] at hc3
                clear heq
                have hsub : ((k - LA : Nat) : Int) = (k : Int) - (LA : Int) := by omega
                rw [hsub] at hix2
                clear hsub
                generalize fb[k - LA]'(by have := HLB.out; omega) = x at hc2 hc3
                have hx : (x.toList != x.toList) = false := str_bne_false rfl
                have hx2 : (x.toList == x.toList) = true := str_beq_true rfl
                have hw : IntKind.i64.wrap ((k : Int) - (LA : Int)) = (k : Int) - (LA : Int) := IntWalk.i64_in _ (by omega)
                go_wp2
                go_quiet (fail)
                clear hw
                go_wp2
                go_roundg g
                case measure => omega
                case rel => exact ⟨k + 1, by omega, by go_num, ⟨below_drewN HK.out _⟩⟩
        | succ g =>
          have hk : k < m.length := by omega
          have hkz : (k : Int) < (m.length : Int) := by omega
          have hkb : (k : Int) ≤ 30 := by have := HM.out; omega
          obtain ⟨b, o, hix, hcs⟩ := H1.out.at_ k hk
          obtain ⟨hc1, hc2⟩ := hcs wr (H1.out.keep HB.out)
          obtain ⟨hs1, hs2⟩ := S1.out.at_ k hk
          have HST := Bx.mk (sumF_take_succ m k hk)
          obtain ⟨f1, hf1⟩ : ∃ f1, m[k].1 = f1 := ⟨_, rfl⟩
          obtain ⟨f2, hf2⟩ : ∃ f2, m[k].2 = f2 := ⟨_, rfl⟩
          unfold fsz at HST
          rw [hf1] at hc1 hs1 HST
          rw [hf2] at hc2 hs2 HST
          clear hcs hf1 hf2
          have w1 : IntKind.i64.wrap ((f1.size : Int) + (f2.size : Int)) = (f1.size : Int) + (f2.size : Int) := IntWalk.i64_in _ (by omega)
          by_cases hgt : 100 < f1.size + f2.size
          · have hd : decide (100 < (f1.size : Int) + (f2.size : Int)) = true := by rw [decide_eq_true_iff]; omega
            clear hgt
            go_wp2
            go_quiet (fail)
            clear w1
            go_wp2
            go_ret
            exact ⟨rfl, below_drewN HB.out _⟩
          · have hd : decide (100 < (f1.size : Int) + (f2.size : Int)) = false := by rw [decide_eq_false_iff_not]; omega
            have HG : Bx (f1.size + f2.size ≤ 100) := ⟨by omega⟩
            clear hgt
            go_wp2
            go_quiet (fail)
            clear w1
            go_wp2
            go_roundg g
            case measure => omega
            case rel => exact ⟨k + 1, by omega, by go_num, ⟨by have := HST.out; have := HG.out; have := HQ2.out; omega⟩, ⟨below_drewN HB.out _⟩⟩

    | succ g =>
      have hk : k < l.length := by omega
      have hkz : (k : Int) < (l.length : Int) := by omega
      have hkb : (k : Int) ≤ 30 := by have := HL.out; omega
      obtain ⟨b, o, hix, hcs⟩ := H0.out.at_ k hk
      obtain ⟨hc1, hc2⟩ := hcs wr (H0.out.keep HB.out)
      obtain ⟨hs1, hs2⟩ := S0.out.at_ k hk
      have HST := Bx.mk (sumF_take_succ l k hk)
      obtain ⟨f1, hf1⟩ : ∃ f1, l[k].1 = f1 := ⟨_, rfl⟩
      obtain ⟨f2, hf2⟩ : ∃ f2, l[k].2 = f2 := ⟨_, rfl⟩
      unfold fsz at HST
      rw [hf1] at hc1 hs1 HST
      rw [hf2] at hc2 hs2 HST
      clear hcs hf1 hf2
      have w1 : IntKind.i64.wrap ((f1.size : Int) + (f2.size : Int)) = (f1.size : Int) + (f2.size : Int) := IntWalk.i64_in _ (by omega)
      by_cases hgt : 100 < f1.size + f2.size
      · have hd : decide (100 < (f1.size : Int) + (f2.size : Int)) = true := by rw [decide_eq_true_iff]; omega
        clear hgt
        go_wp2
        go_quiet (fail)
        clear w1
        go_wp2
        go_ret
        exact ⟨rfl, below_drewN HB.out _⟩
      · have hd : decide (100 < (f1.size : Int) + (f2.size : Int)) = false := by rw [decide_eq_false_iff_not]; omega
        have HG : Bx (f1.size + f2.size ≤ 100) := ⟨by omega⟩
        clear hgt
        go_wp2
        go_quiet (fail)
        clear w1
        go_wp2
        go_roundg g
        case measure => omega
        case rel => exact ⟨k + 1, by omega, by go_num, ⟨by have := HST.out; have := HG.out; have := HQ.out; omega⟩, ⟨below_drewN HB.out _⟩⟩

end Go.Proofs.YtnkbnanjbandeaaDoor
