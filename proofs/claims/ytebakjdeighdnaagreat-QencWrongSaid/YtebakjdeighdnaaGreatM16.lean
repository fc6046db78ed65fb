/-
  Texts put together: HuffH.
-/
import Derived.Test.YtebakjdeighdnaaGreatM12

/-
  The contract of the document's Codes.
-/
namespace Go.Proofs.YtebakjdeighdnaaGreat
open Go.RowKit
set_option linter.unusedVariables false

set_option maxRecDepth 100000 in
set_option maxHeartbeats 1000000 in
theorem codes_any (w : World) :
    Calls Tryz.prog 103 #[] w fun e w' => ∃ m, e = .returned (.slice (some ⟨m, 0, none⟩) 257 257) ∧ CodesAt w' m ∧ Below w.heap.size w w' := by
  go_enter Tryz.func103, Tryz.ntmps103
  go_wp2_with (first
    | (go_at_call 122; refine (refLengths_any _).mono ?_; rintro e w1 ⟨g, rfl, hg, b1⟩)
    | (with_reducible refine wpList_makeRun (t := 157) (by with_unfolding_all exact makeOZ _) ?_))
  have hrow := oz_row w1
  have hg2 := hg.alloc (.cells OZ 161)
  have b2 := b1.alloc b1.size (.cells OZ 161)
  have hgm : g ≠ w1.heap.size := by have := hg.lt; omega
  have hwm : w.heap.size ≤ w1.heap.size := b1.size
  generalize w1.alloc (.cells OZ 161) = w2 at hrow hg2 b2 ⊢
  generalize w1.heap.size = m at hrow hgm hwm ⊢
  have he := ends_facts
  clear b1 hg
  go_loopw [5, 3, 4] (fun n c h wr => RowRel g m w n c h wr) (fun n _ _ _ => 31 - (intOf n).toNat)
  case atStart => exact ⟨5, rfl, by omega, by omega, by rw [he.1, he.2.2.1]; rfl, by rw [he.1, he.2.2.2]; rfl, by rw [he.1]; exact hrow, hg2, b2⟩
  case round =>
    obtain ⟨n, rfl, hn5, hn31, rfl, rfl, hr, hg3, hb⟩ := hrel
    have HE := Bx.mk he
    have HR := Bx.mk hr
    have HG := Bx.mk hg3
    have HB := Bx.mk hb
    clear hrow hg2 b2 he hr hg3 hb
    by_cases hlt : n < 31
    · go_wp2
      have hpq := pq_all n (by omega)
      go_loopw [6, 3, 4] (fun s c h wr => ColRel g m n w s c h wr) (fun s _ _ _ => 257 - (intOf s).toNat)
      case atStart => exact ⟨0, pq n, rfl, by omega, by simp, rfl, rfl, HR.out, HG.out, HB.out⟩
      case round =>
        obtain ⟨k, q, rfl, hk, hq, rfl, rfl, hr, hg3, hb⟩ := hrel
        have HQ := Bx.mk hq
        have HR3 := Bx.mk hr
        have HG3 := Bx.mk hg3
        have HB3 := Bx.mk hb
        clear hq hr hg3 hb HR HG HB
        by_cases hlk : k < 257
        · have hc := HG3.out.cell hlk
          unfold intF at hc
          by_cases hln : ll k = n
          · rw [hln] at hc
            have hpos : q = pos k := by rw [HQ.out, ← hln, here_facts k hlk]
            have hst := step_facts k hlk
            have haf := after_facts k hlk
            rw [hln] at hst haf
            subst hpos
            obtain ⟨z0, hz0⟩ : ∃ z, wr.cell? ⟨m, k * 2, none⟩ = some z := ⟨_, HR3.out.cell (by omega)⟩
            obtain ⟨z1, hz1⟩ : ∃ z, wr.cell? ⟨m, k * 2 + 1, none⟩ = some z := ⟨_, HR3.out.cell (by omega)⟩
            have hf0 := HR3.out.frozen (k * 2)
            have hf1 := HR3.out.frozen (k * 2 + 1)
            have HR5 := Bx.mk (outF_set HR3.out hlk)
            rw [hln] at HR5
            have hcw : cw k < 4294967296 := by
              have h1 := sign_facts k hlk
              have h2 : (2:Nat) ^ ll k ≤ 2 ^ 30 := Nat.pow_le_pow_right (by omega) h1.2.1
              have h3 : (2:Nat) ^ 30 = 1073741824 := by decide
              omega
            have HAF := Bx.mk haf
            clear HR3 haf
            have HG5 : ∀ v0 v1, ((wr.setCell ⟨m, k * 2, none⟩ v0).setCell ⟨m, k * 2 + 1, none⟩ v1).rowIs g 3 257 intF := fun v0 v1 => (HG3.out.setOther hgm _).setOther hgm _
            have HB5 : ∀ v0 v1, Below w.heap.size w ((wr.setCell ⟨m, k * 2, none⟩ v0).setCell ⟨m, k * 2 + 1, none⟩ v1) := fun v0 v1 => (HB3.out.setCell hwm _).setCell hwm _
            have HG6 := Bx.mk HG5
            have HB6 := Bx.mk HB5
            clear HG5 HB5 HG3 HB3
            by_cases hq0 : pos k = 0
            · have hv := hst.1 hq0
              rw [hv] at HR5 HAF
              rw [hq0]
              have hh : hs 0 = 0 := HE.out.2.2.2
              have hcc : cs 0 = 0 := HE.out.2.2.1
              rw [hh, hcc]
              clear hst hv hh hcc hcw
              go_wp2
              go_roundw
              case rel => exact ⟨k + 1, pos k + 1, by go_num, by omega, by rw [HQ.out, count_snoc k n hlk, if_pos hln]; omega, by rw [HAF.out.1], by rw [HAF.out.2], HR5.out, HG6.out _ _, HB6.out _ _⟩
              case measure => simp [intOf]; omega
            · obtain ⟨h5, hle, hval, hcs⟩ := hst.2 (by omega)
              clear hst
              generalize hhq : hs (pos k) = hq at *
              generalize hcq : cs (pos k) = cq at *
              clear hhq hcq
              generalize hv : cw k = v at *
              have hval2 : ((cq : Int) + 1) * 2 ^ (n - hq) % 4294967296 = (v : Int) := by
                have e : ((cq : Int) + 1) * 2 ^ (n - hq) = (((cq + 1) * 2 ^ (n - hq) : Nat) : Int) := by simp
                rw [e, hval]; omega
              have HV2 := Bx.mk hval2
              clear hval hv hcw hval2
              go_wp2
              rw [HV2.out]
              go_roundw
              case rel => exact ⟨k + 1, pos k + 1, by go_num, by omega, by rw [HQ.out, count_snoc k n hlk, if_pos hln]; omega, by rw [HAF.out.1], by rw [HAF.out.2], HR5.out, HG6.out _ _, HB6.out _ _⟩
              case measure => simp [intOf]; omega
          · have hne : ((ll k : Int) == (n : Int)) = false := by simp; omega
            have hne2 : ((ll k : Int) != (n : Int)) = true := by simp; omega
            have HNE : Bx (¬ ll k = n) := ⟨hln⟩
            generalize ll k = x at hc hne hne2 hln
            go_wp2
            go_roundw
            case rel => exact ⟨k + 1, q, by go_num, by omega, by rw [HQ.out, count_snoc k n hlk, if_neg HNE.out, Nat.add_zero], rfl, rfl, HR3.out, HG3.out, HB3.out⟩
            case measure => simp [intOf]; omega
        · obtain rfl : k = 257 := by omega
          have hq : q = pq (n + 1) := by rw [HQ.out, row_facts n (by omega) hn5]
          subst hq
          go_wp2
          go_roundw
          case rel => exact ⟨n + 1, by go_num, by omega, by omega, rfl, rfl, HR3.out, HG3.out, HB3.out⟩
          case measure => simp [intOf]; omega
    · obtain rfl : n = 31 := by omega
      have hr := HR.out
      rw [HE.out.2.1] at hr
      have HR5 := Bx.mk hr
      clear hr
      go_wp2
      go_ret
      exact ⟨m, rfl, HR5.out, HB.out⟩

end Go.Proofs.YtebakjdeighdnaaGreat
