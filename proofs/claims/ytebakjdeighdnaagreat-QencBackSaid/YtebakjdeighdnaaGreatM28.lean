/-
  Texts put together: FdL2.
-/
import Derived.Test.YtebakjdeighdnaaGreatM24
import Derived.Test.YtebakjdeighdnaaGreatM22
import Derived.IntWalk
import Derived.BigRegion
import Derived.RegionTactic

/-
  Contract of bifoldhelp.Light (beside the table's texts).
-/
namespace Go.Proofs.YtebakjdeighdnaaGreat
open Go.RowKit
set_option linter.unusedVariables false

theorem Small.at_ {l : List Fd} (h : Small l) (k : Nat) (hk : k < l.length) : l[k].1.size ≤ 140737488351232 ∧ l[k].2.size ≤ 140737488351232 := h _ (List.getElem_mem hk)
def lightB (l : List Fd) : Bool := decide (l.length ≤ 70 ∧ sumF l ≤ 3000)

set_option maxRecDepth 100000 in
set_option maxHeartbeats 1000000 in
theorem light_any (v : Value) (l : List Fd) (w : World) (hv : Fs w v l) (hs : Small l) :
    Calls Tryz.prog 8 #[v] w fun e w' => e = .returned (.bool (lightB l)) ∧ Below w.heap.size w w' := by
  have HV := Bx.mk hv
  have HS := Bx.mk hs
  have hlen := fun ty W => hv.run_len ty W
  have hlm := hv.len
  unfold maxLen at hlm
  clear hv hs
  by_cases hbig : 70 < l.length
  · have hbb : decide (70 < (l.length : Int)) = true := by rw [decide_eq_true_iff]; omega
    have hr : lightB l = false := by unfold lightB; rw [decide_eq_false_iff_not]; omega
    rw [hr]
    clear hr hbig
    go_enter Tryz.func8, Tryz.ntmps8
    go_wp2
    go_ret
    exact ⟨rfl, Below.refl _ _⟩
  have hbb : decide (70 < (l.length : Int)) = false := by rw [decide_eq_false_iff_not]; omega
  obtain ⟨R, hR⟩ : ∃ R, lightB l = R := ⟨_, rfl⟩
  rw [hR]
  have HR := Bx.mk hR
  have HL : Bx (l.length ≤ 70) := ⟨by omega⟩
  clear hR hbig
  go_enter Tryz.func8, Tryz.ntmps8
  go_wp2
  clear hbb
  go_loopg [3, 4] l.length (fun g s3 s4 wx => ∃ k : Nat, k + g = l.length ∧ s4 = .int .i64 k ∧ s3 = .int .i64 (sumF (l.take k) : Int) ∧ Bx (sumF (l.take k) ≤ 3000) ∧ Bx (Below w.heap.size w wx))
  case atStart => exact ⟨0, by omega, rfl, rfl, ⟨by simp [sumF]⟩, ⟨Below.refl _ _⟩⟩
  case round =>
    obtain ⟨k, hkg, rfl, rfl, HQ, HB⟩ := hrel
    cases gk with
    | zero =>
      obtain rfl : k = l.length := by omega
      go_wp2
      go_ret
      refine ⟨ret_bool ?_, HB.out⟩
      rw [← HR.out]
      unfold lightB
      have := HQ.out
      rw [List.take_length] at this
      exact (decide_eq_true ⟨HL.out, this⟩).symm
    | succ g =>
      have hk : k < l.length := by omega
      have hkz : (k : Int) < (l.length : Int) := by omega
      obtain ⟨b, o, hix, hcs⟩ := HV.out.at_ k hk
      obtain ⟨hc1, hc2⟩ := hcs wr (HV.out.keep HB.out)
      obtain ⟨hs1, hs2⟩ := HS.out.at_ k hk
      have hst := sumF_take_succ l k hk
      have HST := Bx.mk hst
      have hq := HQ.out
      have HTL := Bx.mk (sumF_take_le l (k + 1))
      unfold fsz at hst
      obtain ⟨f1, hf1⟩ : ∃ f1, l[k].1 = f1 := ⟨_, rfl⟩
      obtain ⟨f2, hf2⟩ : ∃ f2, l[k].2 = f2 := ⟨_, rfl⟩
      rw [hf1] at hc1 hst hs1
      rw [hf2] at hc2 hst hs2
      have HF1 := Bx.mk hf1
      have HF2 := Bx.mk hf2
      clear hcs hf1 hf2
      generalize hT : sumF (l.take k) = T at hst hq
      have HT := Bx.mk hT
      have HTS := Bx.mk hst
      clear hT hst
      have w1 : IntKind.i64.wrap ((f1.size : Int) + (f2.size : Int)) = (f1.size : Int) + (f2.size : Int) := IntWalk.i64_in _ (by omega)
      have w2 : IntKind.i64.wrap ((T : Int) + ((f1.size : Int) + (f2.size : Int))) = (T : Int) + ((f1.size : Int) + (f2.size : Int)) := IntWalk.i64_in _ (by omega)
      by_cases hgt : 3000 < T + (f1.size + f2.size)
      · have hd : decide (3000 < (T : Int) + ((f1.size : Int) + (f2.size : Int))) = true := by rw [decide_eq_true_iff]; omega
        have hfin : R = false := by
          rw [← HR.out]
          unfold lightB
          rw [decide_eq_false_iff_not]
          have h1 := HTL.out
          have h2 := HTS.out
          omega
        have HFIN := Bx.mk hfin
        clear hfin hgt
        go_wp2
        go_region
        clear w1 w2
        go_wp2
        go_ret
        exact ⟨ret_bool HFIN.out.symm, HB.out.drew⟩
      · have hd : decide (3000 < (T : Int) + ((f1.size : Int) + (f2.size : Int))) = false := by rw [decide_eq_false_iff_not]; omega
        have HG : Bx (T + (f1.size + f2.size) ≤ 3000) := ⟨by omega⟩
        clear hgt
        go_wp2
        go_region
        clear w1 w2
        go_wp2
        go_roundg g
        case measure => omega
        case rel => exact ⟨k + 1, by omega, by go_num, by rw [HTS.out]; go_num, ⟨by have := HTS.out; have := HG.out; omega⟩, ⟨HB.out.drew⟩⟩

end Go.Proofs.YtebakjdeighdnaaGreat
