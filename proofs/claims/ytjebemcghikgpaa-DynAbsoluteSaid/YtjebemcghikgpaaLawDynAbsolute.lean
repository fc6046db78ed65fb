/-
  The walk of DynAbsolute.
-/
import Derived.Test.YtjebemcghikgpaaDnM
namespace Go.Proofs.Ytjebemcghikgpaa
open Go.RowKit Go.Maps
set_option linter.unusedVariables false
set_option linter.unusedSimpArgs false

set_option maxRecDepth 100000 in
set_option maxHeartbeats 4000000 in
theorem dynAbsolute_walk (a : Int) (v : Value) (l : List Fd) (w : World) (ha : (Lit.int .u16 a).wf = true) (hv : Fs w v l) (hs : Small l) :
    Calls Try.prog 6 #[.int .u16 a, v] w fun e w' => e = .returned (.bool true) ∧ Below w.heap.size w w' := by
  obtain ⟨n0, rfl, hn⟩ := u16n ha
  obtain ⟨n, hnn⟩ : ∃ n, n0 % 600 = n := ⟨_, rfl⟩
  have hni : (n0 : Int) % 600 = (n : Int) := by omega
  have hwn : wrap64 (n : Int) = (n : Int) := by unfold wrap64; omega
  have HN : Bx (n < 600) := ⟨by omega⟩
  have HV := Bx.mk hv
  have HS := Bx.mk hs
  have hlen := fun ty W => hv.run_len ty W
  have hmk : ∀ (W : World), (Instr.makeMap 44 none).run Try.prog W = .ok (.map (some W.heap.size)) (W.alloc (.map #[] 0)) := fun W => by
    simp [Instr.makeMap, run_underlying Try.underlying44, Sem.run_bind, asInt, asIntOf, Result.andThen]
  clear ha hv hs hn hnn
  go_enter Try.func6, Try.ntmps6
  go_wp2_with fail
  refine (known_any w).mono ?_
  rintro e w1 ⟨rfl, b1⟩
  have B1 := Bx.mk b1
  clear b1
  by_cases hL : 30 < l.length
  · have hd1 : decide ((30 : Int) < (l.length : Int)) = true := decide_eq_true (by omega)
    have hd2 : decide (30 < l.length) = true := decide_eq_true hL
    go_wp2_with fail
    go_ret
    exact ⟨rfl, B1.out⟩
  · have hd1 : decide ((30 : Int) < (l.length : Int)) = false := decide_eq_false (by omega)
    have hd2 : decide (30 < l.length) = false := decide_eq_false hL
    have HL : Bx (l.length ≤ 30) := ⟨by omega⟩
    clear hL
    go_wp2_with fail
    refine (One.new (n : Int) (by have := HN.out; omega) w1).mono ?_
    rintro e w2 ⟨p, rfl, h2, b2⟩
    have H2 := Bx.mk (h2.withMap b2.size)
    have B2 := Bx.mk (b2.alloc b2.size (.map #[] 0))
    clear h2 b2 hd1 hd2
    go_wp2_with fail
    obtain ⟨bm, hbm⟩ : ∃ bm, w2.heap.size = bm := ⟨_, rfl⟩
    rw [hbm] at H2 ⊢
    clear hbm hmk hni hwn
    go_loopg [7] l.length (fun g s7 wx => ∃ (k : Nat) (T : Tab) (D : DataW Unit), k + g = l.length ∧ s7 = .int .i64 k ∧ Bx (T.tot ≤ k) ∧ Bx (OneM w1.heap.size p bm k T D wx) ∧ Bx (Sd T D) ∧ Bx (Below w1.heap.size w1 wx))
    case atStart => exact ⟨0, _, _, by omega, rfl, ⟨Nat.le_refl _⟩, H2, ⟨Sd.new (n : Int)⟩, B2⟩
    case round =>
      clear H2 B2
      obtain ⟨k, T, D, hkg, rfl, HT, H3, HD, B3⟩ := hrel
      cases gk with
      | zero =>
        obtain rfl : k = l.length := by omega
        go_wp2_with fail
        go_ret
        exact ⟨rfl, B1.out.trans (B3.out.mono B1.out.size)⟩
      | succ g =>
        have hk : k < l.length := by omega
        have HB3 := Bx.mk (B1.out.trans (B3.out.mono B1.out.size))
        have HVW := Bx.mk (HV.out.keep HB3.out)
        obtain ⟨b, o, hix, hcs⟩ := HVW.out.at_ k hk
        obtain ⟨hc1, hc2⟩ := hcs _ HVW.out
        have hsm := HS.out l[k] (List.getElem_mem hk)
        obtain ⟨v', hsl, hfs⟩ := HVW.out.cut1 k hk
        have HCS := Bx.mk hcs
        have HSL := Bx.mk hsl
        have HFS := Bx.mk hfs
        obtain ⟨f1, hf1⟩ : ∃ f1, l[k].1 = f1 := ⟨_, rfl⟩
        obtain ⟨f2, hf2⟩ : ∃ f2, l[k].2 = f2 := ⟨_, rfl⟩
        rw [hf1, hf2] at HCS
        rw [hf1] at hc1 hsm
        rw [hf2] at hc2 hsm
        have hff : l[k] = (f1, f2) := by rw [← hf1, ← hf2]
        rw [hff] at HFS
        obtain ⟨m, hm⟩ : ∃ m, f1.size + f2.size = m := ⟨_, rfl⟩
        have hwm : IntKind.i64.wrap ((f1.size : Int) + (f2.size : Int)) = (m : Int) := by simp only [IntKind.wrap_i64]; omega
        have HM := Bx.mk hm
        have hkz : (k : Int) < (l.length : Int) := by omega
        have hk20 : k < 30 := by have := HL.out; omega
        clear hcs hsl hfs hf1 hf2 hff hm hsm
        by_cases hbig : 100 < m
        · have hd1 : decide ((100 : Int) < (m : Int)) = true := decide_eq_true (by omega)
          have hd2 : decide (100 < m) = true := decide_eq_true hbig
          go_wp2_with fail
          go_region
          go_wp2_with fail
          go_ret
          exact ⟨rfl, HB3.out.drew⟩
        · have hd1 : decide ((100 : Int) < (m : Int)) = false := decide_eq_false (by omega)
          have hd2 : decide (100 < m) = false := decide_eq_false hbig
          have HMB : Bx (m ≤ 100) := ⟨by omega⟩
          have H4 := Bx.mk (H3.out.keep (Below.refl _ _).drew)
          have B4 := Bx.mk B3.out.drew
          clear hbig
          go_wp2_with fail
          go_region
          generalize wr.drew = w4 at *
          clear hd1 hd2 hwm hc1 hc2
          obtain ⟨tt, htt⟩ : ∃ tt, T.tot = tt := ⟨_, rfl⟩
          have HTT := Bx.mk htt
          have HTB : Bx (tt ≤ 30) := ⟨by have := HT.out; omega⟩
          clear htt
          go_wp2_with fail
          refine H4.out.one.count_.mono ?_
          rintro e w5 ⟨rfl, b5⟩
          rw [HTT.out]
          have H5 := Bx.mk (H4.out.keep b5)
          have B5 := Bx.mk (B4.out.trans (b5.mono B4.out.size))
          clear b5
          have HV5 := Bx.mk (HV.out.keep (B1.out.trans (B5.out.mono B1.out.size)))
          obtain ⟨hc1, hc2⟩ := HCS.out _ HV5.out
          go_wp2_with fail
          refine (H5.out.addLit B5.out.size (f1, f2) (by rw [HTT.out]; have := HTB.out; omega) (by unfold fsz; have := HM.out; have := HMB.out; simp only; omega)).mono ?_
          rintro e w6 ⟨rfl, h6, b6⟩
          have H6 := Bx.mk h6
          have B6 := Bx.mk (B5.out.trans b6)
          clear h6 b6 hc1 hc2
          have hsl0 : ∀ W : World, (Instr.slice 40 v (some (.int .i64 (k : Int))) (some (.int .i64 ((k : Int) + 1))) none).run Try.prog W = .ok v' W := fun W => HSL.out W
          have HV6 := Bx.mk (HFS.out _ (HV.out.keep (B1.out.trans (B6.out.mono B1.out.size))))
          obtain ⟨m2, hm2⟩ : ∃ m2, m + 32 = m2 := ⟨_, rfl⟩
          have HM2 : Bx (fsz (f1, f2) + 32 = m2) := ⟨by unfold fsz; have := HM.out; simp only; omega⟩
          have HM3 : Bx (sizeF [(f1, f2)] = m2) := ⟨by simp only [sizeF]; have := HM2.out; omega⟩
          have HCP : Bx ((T.add (f1, f2)).cap = T.cap) := ⟨T.add_cap _⟩
          obtain ⟨cp, hcp⟩ : ∃ cp, T.cap = cp := ⟨_, rfl⟩
          rw [hcp] at HCP
          have HCC := Bx.mk hcp
          clear hm2 hcp
          go_wp2_with fail
          refine (refSize_any v' [(f1, f2)] w6 HV6.out (by rw [HM3.out]; have := HM2.out; have := HM.out; have := HMB.out; unfold fsz at *; simp only at *; omega)).mono ?_
          rintro e w7 ⟨rfl, b7⟩
          rw [HM3.out]
          have H7 := Bx.mk (H6.out.keep b7)
          have B7 := Bx.mk (B6.out.trans (b7.mono B6.out.size))
          clear b7 hsl0
          go_wp2_with fail
          refine H7.out.one.cap_.mono ?_
          rintro e w8 ⟨rfl, b8⟩
          rw [HCP.out]
          have H8 := Bx.mk (H7.out.keep b8)
          have B8 := Bx.mk (B7.out.trans (b8.mono B7.out.size))
          clear b8
          by_cases hfit : m2 ≤ cp
          case' pos =>
            have hd1 : decide ((m2 : Int) ≤ (cp : Int)) = true := decide_eq_true (by omega)
            have hd2 : decide (m2 ≤ cp) = true := decide_eq_true hfit
            have HFIT : Bx (fsz (f1, f2) + 32 ≤ T.cap) := ⟨by rw [HM2.out, HCC.out]; exact hfit⟩
            obtain ⟨t1, ht1⟩ : ∃ t1, tt + 1 = t1 := ⟨_, rfl⟩
            have HT1 : Bx ((T.add (f1, f2)).tot = t1) := ⟨by unfold Tab.add; rw [if_pos HFIT.out]; show T.tot + 1 = t1; rw [HTT.out]; exact ht1⟩
            have hwt : IntKind.u64.wrap ((tt : Int) + 1) = (t1 : Int) := by have := HTB.out; simp [IntKind.wrap, IntKind.signed, IntKind.bits]; omega
            have HT1B : Bx (t1 ≤ k + 1) := ⟨by have := HT.out; rw [HTT.out] at this; omega⟩
            clear ht1 hfit
            go_wp2_with fail
            refine H8.out.one.count_.mono ?_
            rintro e w9 ⟨rfl, b9⟩
            rw [HT1.out]
            have H9 := Bx.mk (H8.out.keep b9)
            have B9 := Bx.mk (B8.out.trans (b9.mono B8.out.size))
            clear b9
            obtain ⟨hc1, hc2⟩ := HCS.out _ (HV.out.keep (B1.out.trans (B9.out.mono B1.out.size)))
            obtain ⟨w10, hrun, h10, hb10⟩ := H9.out.put tt (by have := HTB.out; omega) (by omega) (f1, f2)
            have hb10 := hb10 B9.out.size
            go_wp2_with fail
            have HDX : Bx (Sd (T.add (f1, f2)) (D.put (.int .u64 (tt : Int)) (fD (f1, f2)))) := ⟨by have := HD.out.add H3.out.one.ok (f1, f2) HFIT.out; rw [HTT.out] at this; exact this⟩
            have HX := Bx.mk h10
            have BX := Bx.mk (B9.out.trans hb10)
            have HTX : Bx ((T.add (f1, f2)).tot ≤ k + 1) := ⟨by rw [HT1.out]; exact HT1B.out⟩
            generalize D.put (.int .u64 (tt : Int)) (fD (f1, f2)) = D' at HDX HX
            clear hrun h10 hb10 hc1 hc2 hd1 hd2 hwt
          case' neg =>
            have hd1 : decide ((m2 : Int) ≤ (cp : Int)) = false := decide_eq_false (by omega)
            have hd2 : decide (m2 ≤ cp) = false := decide_eq_false hfit
            have HADD : Bx (T.add (f1, f2) = ⟨[], T.cap, T.tot⟩) := ⟨by unfold Tab.add; rw [if_neg (by rw [HM2.out, HCC.out]; exact hfit), fits_neg (by unfold Tab.room; rw [HM2.out, HCC.out]; omega)]⟩
            clear hfit
            go_wp2_with fail
            refine H8.out.one.count_.mono ?_
            rintro e w9 ⟨rfl, b9⟩
            rw [show (T.add (f1, f2)).tot = tt by rw [HADD.out]; exact HTT.out]
            have H9 := Bx.mk (H8.out.keep b9)
            have B9 := Bx.mk (B8.out.trans (b9.mono B8.out.size))
            clear b9
            go_wp2_with fail
            refine H9.out.one.len_.mono ?_
            rintro e w10 ⟨rfl, b10⟩
            rw [show (T.add (f1, f2)).l.length = 0 by rw [HADD.out]; rfl]
            have HX : Bx (OneM w1.heap.size p bm (k + 1) (T.add (f1, f2)) D w10) := ⟨by
              obtain ⟨S, k1, k2, k3, k4, k5⟩ := H9.out.keep b10
              exact ⟨S, k1, k2, k3, k4, k5.mono (by omega)⟩⟩
            have BX := Bx.mk (B9.out.trans (b10.mono B9.out.size))
            have HDX : Bx (Sd (T.add (f1, f2)) D) := ⟨⟨HD.out.1, fun j hj => by rw [HADD.out] at hj; simp at hj⟩⟩
            have HTX : Bx ((T.add (f1, f2)).tot ≤ k + 1) := ⟨by have := T.add_tot_le (f1, f2); have := HT.out; omega⟩
            obtain ⟨D', hD'⟩ : ∃ D', D = D' := ⟨_, rfl⟩
            rw [hD'] at HX HDX
            go_wp2_with fail
            clear b10 hd1 hd2 hD'
          all_goals
            obtain ⟨T', hT'⟩ : ∃ T', T.add (f1, f2) = T' := ⟨_, rfl⟩
            rw [hT'] at HX HDX HTX
            have HOK := Bx.mk HX.out.one.ok
            obtain ⟨t', ht'⟩ : ∃ t', T'.tot = t' := ⟨_, rfl⟩
            obtain ⟨n', hn'⟩ : ∃ n', T'.l.length = n' := ⟨_, rfl⟩
            obtain ⟨fr, hfr⟩ : ∃ fr, T'.first = fr := ⟨_, rfl⟩
            have HFR : Bx (fr + n' = t' ∧ t' ≤ 31) := ⟨by have h1 := HOK.out.len; have h2 := HTX.out; rw [← hfr]; unfold Tab.first; omega⟩
            have HT' := Bx.mk ht'
            have HN' := Bx.mk hn'
            have HF' := Bx.mk hfr
            clear hT' ht' hn' hfr H3 H4 H5 H6 H7 H8 H9 B3 B4 B5 B6 B7 B8 B9 HB3 HVW HD
            go_loopg [9] t' (fun g s9 wx => ∃ a : Nat, a + g = t' ∧ s9 = .int .u64 a ∧ Bx (OneM w1.heap.size p bm (k + 1) T' D' wx) ∧ Bx (Below w1.heap.size w1 wx))
            case atStart => exact ⟨0, by omega, rfl, HX, BX⟩
            case round =>
              clear HX BX
              obtain ⟨a, hag, rfl, HX, BX⟩ := hrel
              have hab : a ≤ 31 := by have := HFR.out; omega
              go_wp2_with fail
              refine HX.out.one.count_.mono ?_
              rintro e x1 ⟨rfl, c1⟩
              rw [HT'.out]
              have HX1 := Bx.mk (HX.out.keep c1)
              have BX1 := Bx.mk (BX.out.trans (c1.mono BX.out.size))
              clear c1
              cases gk with
              | zero =>
                obtain rfl : a = t' := by omega
                go_wp2_with fail
                go_roundg g
                case measure => omega
                case rel => exact ⟨k + 1, T', D', by omega, by go_num, HTX, HX1, HDX, BX1⟩
              | succ g2 =>
                have hd1 : decide ((a : Int) < (t' : Int)) = true := decide_eq_true (by omega)
                have hd2 : decide (a < t') = true := decide_eq_true (by omega)
                go_wp2_with fail
                refine (HX1.out.one.at_ a (by omega)).mono ?_
                rintro e x2 ⟨rfl, c2⟩
                rw [HF'.out]
                have hwn' : wrap64 (n' : Int) = (n' : Int) := by have := HFR.out; unfold wrap64; omega
                have hwl : IntKind.u64.wrap (n' : Int) = (n' : Int) := by have := HFR.out; simp [IntKind.wrap, IntKind.signed, IntKind.bits]; omega
                have hwf : IntKind.u64.wrap ((t' : Int) - (n' : Int)) = (fr : Int) := by have := HFR.out; simp [IntKind.wrap, IntKind.signed, IntKind.bits]; omega
                have hwa : IntKind.u64.wrap ((a : Int) + 1) = ((a + 1 : Nat) : Int) := by simp [IntKind.wrap, IntKind.signed, IntKind.bits]; omega
                obtain ⟨a1, ha1⟩ : ∃ a1, a + 1 = a1 := ⟨_, rfl⟩
                rw [ha1] at hwa
                have HA1 := Bx.mk ha1
                by_cases hin : fr ≤ a
                case' neg =>
                  have hd3 : decide ((fr : Int) ≤ (a : Int)) = false := decide_eq_false (by omega)
                  have hd4 : decide (fr ≤ a) = false := decide_eq_false hin
                  have hI : isF T'.l fr a = false := by unfold isF; simp; omega
                  obtain ⟨y1, y2, hE⟩ : ∃ y1 y2, entF T'.l fr a = (y1, y2) := ⟨_, _, rfl⟩
                  rw [hI, hE, show aggF (y1, y2) = .agg #[.string y1, .string y2] from rfl]
                  have hlk0 : ∀ W, OneM w1.heap.size p bm (k + 1) T' D' W → True := fun _ _ => trivial
                  clear hI hE
                case' pos =>
                  have hd3 : decide ((fr : Int) ≤ (a : Int)) = true := decide_eq_true (by omega)
                  have hd4 : decide (fr ≤ a) = true := decide_eq_true hin
                  have hjl : a - fr < T'.l.length := by rw [HN'.out]; have := HFR.out; omega
                  obtain ⟨y1, hy1⟩ : ∃ y1, T'.l[a - fr].1 = y1 := ⟨_, rfl⟩
                  obtain ⟨y2, hy2⟩ : ∃ y2, T'.l[a - fr].2 = y2 := ⟨_, rfl⟩
                  have hI : isF T'.l fr a = true := by unfold isF; simp; omega
                  have hE : entF T'.l fr a = (y1, y2) := by unfold entF; rw [dif_pos ⟨hin, hjl⟩, ← hy1, ← hy2]
                  have hlk0 : ∀ W, OneM w1.heap.size p bm (k + 1) T' D' W → (Instr.lookup 44 (.map (some bm)) (.int .u64 (a : Int)) false).run Try.prog W = .ok (.agg #[.string y1, .string y2]) W := fun W hW => hW.look a (by omega) (y1, y2) (by
                    have := HDX.out.2 (a - fr) hjl
                    rw [HF'.out, show fr + (a - fr) = a by omega] at this
                    rw [this, ← hy1, ← hy2])
                  rw [hI, hE, show aggF (y1, y2) = .agg #[.string y1, .string y2] from rfl]
                  clear hI hE hjl hy1 hy2
                all_goals
                  have HLK0 := Bx.mk hlk0
                  clear hin hlk0 ha1
                  go_wp2_with fail
                  have HX2 := Bx.mk ((HX1.out.keep c2).keep ((Below.refl x2.heap.size x2).alloc (Nat.le_refl _) (.cells #[.string y1, .string y2] 24)))
                  have BX2 := Bx.mk ((BX1.out.trans (c2.mono BX1.out.size)).alloc (Nat.le_trans BX1.out.size c2.size) (.cells #[.string y1, .string y2] 24))
                  have F2 := Bx.mk (Fb.new 24 x2 (y1, y2))
                  clear c2
                  refine HX2.out.one.count_.mono ?_
                  rintro e x3 ⟨rfl, c3⟩
                  rw [HT'.out]
                  have HX3 := Bx.mk (HX2.out.keep c3)
                  have BX3 := Bx.mk (BX2.out.trans (c3.mono BX2.out.size))
                  have F3 := Bx.mk (F2.out.keep c3)
                  clear c3
                  go_wp2_with fail
                  refine HX3.out.one.len_.mono ?_
                  rintro e x4 ⟨rfl, c4⟩
                  rw [HN'.out]
                  have HX4 := Bx.mk (HX3.out.keep c4)
                  have BX4 := Bx.mk (BX3.out.trans (c4.mono BX3.out.size))
                  obtain ⟨q1, q2⟩ := (F3.out.keep c4).cells
                  have hlk := HLK0.out x4 HX4.out
                  clear c4
                  go_wp2_with fail
                  go_roundg g2
                  case measure => omega
                  case rel => exact ⟨a1, by have := HA1.out; omega, rfl, HX4, BX4⟩

end Go.Proofs.Ytjebemcghikgpaa
