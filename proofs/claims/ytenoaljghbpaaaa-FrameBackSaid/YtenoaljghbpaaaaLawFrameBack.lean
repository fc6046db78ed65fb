/-
  bifoldlaw11.FrameBack answers true, whatever its arguments: the walk (written by mkfb.py).
-/
import Derived.Test.YtenoaljghbpaaaaFrG
namespace Go.Proofs.Ytenoaljghbpaaaa
open Go.RowKit
set_option linter.unusedVariables false
set_option linter.unusedSimpArgs false

theorem wrapsF (x : Nat) (h : x ≤ 300000) : wrap64 (x : Int) = (x : Int) ∧ IntKind.i64.wrap (x : Int) = (x : Int) := by
  constructor
  · unfold wrap64; omega
  · rw [IntKind.wrap_i64]; omega
theorem frBs_one {w : World} {a : Frm} (h : frBs w a) : a.raw.oneCell' = true := by
  obtain ⟨A, n, c, hr, -⟩ := Bs.open_ (show Bs w a.raw a.rawb from h)
  rw [hr]
  rfl
set_option maxRecDepth 100000 in
set_option maxHeartbeats 4000000 in
theorem frameBack_great (Big : Int) (bV v : Value) (b : List UInt8) (l : List Frm) (w : World) (hv : Bs w bV b) (hr : Rows 4 frvl w v l) (hg : 100 < b.length ∨ 8 < l.length) :
    Calls Try.prog 3 #[bV, v, .int .u16 Big] w fun e w' => e = .returned (.bool true) ∧ Below w.heap.size w w' := by
  have HK := Bx.mk (known11_any w)
  have hlenb := fun tr W => hv.run_len tr W
  have hlenl := fun tr W => frs_len hr tr W
  obtain ⟨n, hn⟩ : ∃ n, b.length = n := ⟨_, rfl⟩
  obtain ⟨m, hm⟩ : ∃ n, l.length = n := ⟨_, rfl⟩
  rw [hn] at hlenb hg
  rw [hm] at hlenl hg
  clear hv hr hn hm
  by_cases h1 : 100 < n
  · have hd : decide ((100 : Int) < (n : Int)) = true := decide_eq_true (by omega)
    have hd' : decide (100 < n) = true := decide_eq_true (by omega)
    clear hg h1
    go_enter Try.func3, Try.ntmps3
    go_wp2_with (go_at_call 21; refine HK.out.mono ?_; rintro e w1 ⟨rfl, b1⟩; have HB1 := Bx.mk b1; clear b1)
    go_ret
    exact ⟨rfl, HB1.out⟩
  · have hd : decide ((100 : Int) < (n : Int)) = false := decide_eq_false (by omega)
    have hd' : decide (100 < n) = false := decide_eq_false (by omega)
    have hd2 : decide ((8 : Int) < (m : Int)) = true := decide_eq_true (by omega)
    have hd2' : decide (8 < m) = true := decide_eq_true (by omega)
    clear hg h1
    go_enter Try.func3, Try.ntmps3
    go_wp2_with (go_at_call 21; refine HK.out.mono ?_; rintro e w1 ⟨rfl, b1⟩; have HB1 := Bx.mk b1; clear b1)
    go_ret
    exact ⟨rfl, HB1.out⟩
set_option maxRecDepth 100000 in
set_option maxHeartbeats 8000000 in
theorem frameBack_small (Big BI Q R TI : Int) (T : Nat) (hBI : Big.tmod 8 = BI) (hQ : Big.tdiv 8 = Q) (hR : Q.tmod 5 = R) (hR0 : 0 ≤ R ∧ R < 5) (hTI : 16382 + R = TI) (hT : (T : Int) = TI) (hB0 : 0 ≤ Q ∧ Q < 65536) (bV v : Value) (b : List UInt8) (l : List Frm) (w : World) (hv : Bs w bV b) (hr : Rows 4 frvl w v l) (hok : ∀ a ∈ l, frOk a ∧ frBs w a) (hb : b.length ≤ 100) (hl : l.length ≤ 8) :
    Calls Try.prog 3 #[bV, v, .int .u16 Big] w fun e w' => e = .returned (.bool true) ∧ Below w.heap.size w w' := by
  have HK := Bx.mk (known11_any w)
  have hlenb := fun tr W => hv.run_len tr W
  have hlenl := fun tr W => frs_len hr tr W
  obtain ⟨n, hn⟩ : ∃ n, b.length = n := ⟨_, rfl⟩
  obtain ⟨m, hm⟩ : ∃ n, l.length = n := ⟨_, rfl⟩
  rw [hn] at hlenb hb
  rw [hm] at hlenl hl
  have HN := Bx.mk (And.intro hn (And.intro hm (And.intro hb hl)))
  have HV := Bx.mk hv
  have HR := Bx.mk hr
  have HOK := Bx.mk hok
  have hd : decide ((100 : Int) < (n : Int)) = false := decide_eq_false (by omega)
  have hd' : decide (100 < n) = false := decide_eq_false (by omega)
  have hd2 : decide ((8 : Int) < (m : Int)) = false := decide_eq_false (by omega)
  have hd2' : decide (8 < m) = false := decide_eq_false (by omega)
  have hwQ : IntKind.u16.wrap Q = Q := by rw [IntKind.wrap_u16]; omega
  have hwR : IntKind.i64.wrap R = R := by rw [IntKind.wrap_i64]; omega
  have hwT : wrap64 TI = TI := by unfold wrap64; omega
  have hwT2 : IntKind.i64.wrap TI = TI := by rw [IntKind.wrap_i64]; omega
  have HT : Bx (T ≤ 16386) := ⟨by omega⟩
  have hmk : ∀ W : World, (Instr.makeSlice 22 (.int .i64 TI) (.int .i64 TI)).run Try.prog W = .ok (.slice (some ⟨W.heap.size, 0, none⟩) T T) (W.alloc (.cells (madeCells #[.int .u8 0] T) 5)) := fun W => by rw [← hT]; exact make_u8B T (by omega) W
  have HMA := Bx.mk (fun W : World => Bs.madeB W T (by omega))
  clear hv hr hok hb hl hn hm hR0 hB0 hT
  go_enter Try.func3, Try.ntmps3
  go_upto_region 6 with (go_at_call 21; refine HK.out.mono ?_; rintro e w1 ⟨rfl, b1⟩; have HB1 := Bx.mk b1; clear b1)
  have HV1 := Bx.mk (HV.out.keep HB1.out)
  have HR1 := Bx.mk (HR.out.keep HB1.out)
  have HOK1 : Bx (∀ a ∈ l, frOk a ∧ frBs w1 a) := ⟨fun a ha => ⟨(HOK.out a ha).1, Rd.keep (HOK.out a ha).2 HB1.out⟩⟩
  clear HV HR HOK
  go_loopg [7] m (fun g s7 wx => ∃ (k : Nat), k + g = m ∧ s7 = .int .i64 k ∧ Bx (∀ a ∈ l.take k, a.rawb.length ≤ 200) ∧ wx = w1)
  case atStart => exact ⟨0, by omega, rfl, ⟨fun a ha => by simp at ha⟩, rfl⟩
  case round =>
    obtain ⟨k, hkg, rfl, HS, hw⟩ := hrel
    subst hw
    cases gk with
    | succ g =>
      have hkm : k < m := by omega
      have hkl : k < l.length := by have := HN.out.2.1; omega
      have hkd : decide ((k : Int) < (m : Int)) = true := decide_eq_true (by omega)
      have hkd' : decide (k < m) = true := decide_eq_true hkm
      have HWK : Bx (wrap64 ((k : Int) + 1) = ((k + 1 : Nat) : Int)) := ⟨by have := HN.out; unfold wrap64; omega⟩
      have HKG := Bx.mk hkg
      obtain ⟨bk, o, hix0, hcs⟩ := frs_at HR1.out k hkl
      have hix := hix0 .i64
      have hao := HOK1.out l[k] (List.getElem_mem hkl)
      have HTK : Bx (l.take (k + 1) = l.take k ++ [l[k]]) := ⟨List.take_succ_eq_append_getElem hkl⟩
      obtain ⟨c0, c1, c2, c3⟩ := hcs _ HR1.out
      obtain ⟨a, ha⟩ : ∃ a, l[k] = a := ⟨_, rfl⟩
      rw [ha] at hao HTK c0 c1 c2 c3
      have hlena : ∀ (tr : TypeId) (W : World), (Builtin.len_ #[22] tr #[a.raw]).run Try.prog W = .ok (.int .i64 (a.rawb.length : Int)) W := fun tr W => Bs.run_len hao.2 tr W
      obtain ⟨q, hq⟩ : ∃ n, a.rawb.length = n := ⟨_, rfl⟩
      rw [hq] at hlena
      have HQ := Bx.mk hq
      obtain ⟨ra, hra⟩ : ∃ x, a.raw = x := ⟨_, rfl⟩
      rw [hra] at hlena c3
      clear hix0 hcs hao ha hkl hkm hkg hq hra
      by_cases hfit : 200 < q
      · have hdf : decide ((200 : Int) < (q : Int)) = true := decide_eq_true (by omega)
        have hdf' : decide (200 < q) = true := decide_eq_true hfit
        clear hfit
        go_wp2_with fail
        go_ret
        exact ⟨rfl, HB1.out⟩
      · have hdf : decide ((200 : Int) < (q : Int)) = false := decide_eq_false (by omega)
        have hdf' : decide (200 < q) = false := decide_eq_false hfit
        have HFI : Bx (q ≤ 200) := ⟨by omega⟩
        clear hfit
        go_wp2_with fail
        go_roundg g
        case measure => omega
        case rel =>
          refine ⟨k + 1, by have := HKG.out; omega, by rw [HWK.out], ⟨fun x hx => ?_⟩, rfl⟩
          rw [HTK.out] at hx
          rcases List.mem_append.1 hx with h | h
          · exact HS.out x h
          · rw [List.mem_singleton] at h; rw [h, HQ.out]; exact HFI.out
    | zero =>
      obtain rfl : k = m := by omega
      have hkd : decide ((k : Int) < (k : Int)) = false := by simp
      have hkd' : decide (k < k) = false := by simp
      have HS2 : Bx (∀ a ∈ l, a.rawb.length ≤ 200) := ⟨fun a ha => HS.out a (by rw [List.take_of_length_le (by have := HN.out.2.1; omega)]; exact ha)⟩
      clear HS hkg
      obtain ⟨v10, w10, hr10, ho10, hg10⟩ := run_rowsF wr 23 wr.heap.size (.slice none 0 0) v [] l (World.ownsRow_nil wr wr.heap.size 28 4) HR1.out (fun a ha => frBs_one (HOK1.out a ha).2) (by simp) (by have := HN.out; omega) (Nat.le_refl _)
      rw [List.nil_append] at ho10
      have HO10 := Bx.mk ho10
      have HX10 : Bx (Below wr.heap.size wr w10) := ⟨(Below.refl _ _).grown hg10 (Nat.le_refl _) (fun j hj => by simp [Value.ownBlock] at hj)⟩
      have HOK10 : Bx (∀ a ∈ l, frOk a ∧ frBs w10 a) := ⟨fun a ha => ⟨(HOK1.out a ha).1, Rd.keep (HOK1.out a ha).2 HX10.out⟩⟩
      have HB10 := Bx.mk (HB1.out.trans (HX10.out.mono HB1.out.size))
      have HV10 := Bx.mk (HV1.out.keep HX10.out)
      clear ho10 hg10
      go_upto_region 11 with (at_builtin; refine Lib.wpList_append_run _ rfl _ _ _ _ rfl _ _ rfl rfl _ _ hr10 ?_)
      clear hr10
      by_cases hz : BI = 1
      · have hzb : (BI == 1) = true := by rw [beq_iff_eq]; exact hz
        clear hz
        have HM10 := Bx.mk (HMA.out w10)
        have HX12 : Bx (Below w10.heap.size w10 ((w10.alloc (.cells (madeCells #[.int .u8 0] T) 5)).alloc (.cells #[.int .u8 0, .int .u8 0, .int .u32 0, .slice (some ⟨w10.heap.size, 0, none⟩) T T] 28))) := ⟨((Below.refl _ _).alloc (Nat.le_refl _) _).alloc (by simp) _⟩
        have hrow : Rows 4 frvl ((w10.alloc (.cells (madeCells #[.int .u8 0] T) 5)).alloc (.cells #[.int .u8 0, .int .u8 0, .int .u32 0, .slice (some ⟨w10.heap.size, 0, none⟩) T T] 28)) (.slice (some ⟨w10.heap.size + 1, 0, none⟩) 1 1) [(⟨0, 0, 0, .slice (some ⟨w10.heap.size, 0, none⟩) T T, List.replicate T 0⟩ : Frm)] := by
          have h := Rows.lit (k := 4) (f := frvl) (w10.alloc (.cells (madeCells #[.int .u8 0] T) 5)) 28 [(⟨0, 0, 0, .slice (some ⟨w10.heap.size, 0, none⟩) T T, List.replicate T 0⟩ : Frm)] #[.int .u8 0, .int .u8 0, .int .u32 0, .slice (some ⟨w10.heap.size, 0, none⟩) T T] 1 rfl rfl rfl (by unfold maxLen; omega)
          rw [show (w10.alloc (.cells (madeCells #[.int .u8 0] T) 5)).heap.size = w10.heap.size + 1 from by simp] at h
          exact h
        obtain ⟨v12, w12, hr12, ho12, hg12⟩ := run_rowsF _ 23 wr.heap.size v10 _ l _ (ownN_keep HO10.out HX12.out) hrow (fun a ha => by rw [List.mem_singleton] at ha; rw [ha]; rfl) (by have := HN.out; omega) (by simp) (by have := HX10.out.size; have := HX12.out.size; omega)
        have HM12 := Bx.mk (HM10.out.keep ((Below.refl _ _).alloc (Nat.le_refl _) (.cells #[.int .u8 0, .int .u8 0, .int .u32 0, .slice (some ⟨w10.heap.size, 0, none⟩) T T] 28)))
        go_upto_region 13 with (at_builtin; refine Lib.wpList_append_run _ rfl _ _ _ _ rfl _ _ rfl rfl _ _ hr12 ?_)
        have HX13 : Bx (Below wr.heap.size wr w12) := ⟨(HX10.out.trans (HX12.out.mono HX10.out.size)).grown hg12 (HX10.out.trans (HX12.out.mono HX10.out.size)).size (fun j hj => (HO10.out.lt j hj).1)⟩
        have hmade : Bs w12 (.slice (some ⟨w10.heap.size, 0, none⟩) T T) (List.replicate T 0) := by
          have h1 : Sb 5 ((w10.alloc (.cells (madeCells #[.int .u8 0] T) 5)).alloc (.cells #[.int .u8 0, .int .u8 0, .int .u32 0, .slice (some ⟨w10.heap.size, 0, none⟩) T T] 28)) w10.heap.size (madeCells #[.int .u8 0] T) := (Sb.new _ w10 _).alloc _
          have h2 := h1.grown hg12 (fun e => by have := (HO10.out.lt _ e.symm).2; omega)
          exact (h2.own (B := 0) (by simp [madeCells]) (made_u8B T) (by have := HT.out; unfold maxLen; omega) (Nat.zero_le _)).bs
        have HROW : Bx (Rows 4 frvl w12 v12 (l ++ [(⟨0, 0, 0, .slice (some ⟨w10.heap.size, 0, none⟩) T T, List.replicate T 0⟩ : Frm)])) := ⟨Rn.of_own ho12⟩
        have HOKL : Bx (∀ a ∈ l ++ [(⟨0, 0, 0, .slice (some ⟨w10.heap.size, 0, none⟩) T T, List.replicate T 0⟩ : Frm)], frOk a ∧ frBs w12 a) := ⟨fun a ha => by
          rcases List.mem_append.1 ha with h | h
          · exact ⟨(HOK1.out a h).1, Rd.keep (HOK1.out a h).2 HX13.out⟩
          · rw [List.mem_singleton] at h
            rw [h]
            exact ⟨⟨by show (0 : Nat) < 256; omega, by show (0 : Nat) < 256; omega, by show (0 : Nat) < 4294967296; omega⟩, hmade⟩⟩
        have HLL : Bx ((l ++ [(⟨0, 0, 0, .slice (some ⟨w10.heap.size, 0, none⟩) T T, List.replicate T 0⟩ : Frm)]).length ≤ 9) := ⟨by rw [List.length_append, List.length_singleton]; have := HN.out; omega⟩
        have HBL := Bx.mk (HB1.out.trans (HX13.out.mono HB1.out.size))
        have HVL := Bx.mk (HV1.out.keep HX13.out)
        obtain ⟨L, hLe⟩ : ∃ L, l ++ [(⟨0, 0, 0, .slice (some ⟨w10.heap.size, 0, none⟩) T T, List.replicate T 0⟩ : Frm)] = L := ⟨_, rfl⟩
        rw [hLe] at HROW HOKL HLL
        clear hLe hmade ho12 hg12 hr12 HM12 hrow HX12 HM10 hzb HO10 HX10 HOK10 HB10 HV10 hmk HMA HX13 HV1 HR1 HOK1 HS2 hlenl hBI hQ hR hwQ hwR hwT hwT2 hTI hkd hkd' hd hd' hd2 hd2'
        have hz10 := 0
        obtain ⟨M, hM⟩ : ∃ M, L.length = M := ⟨_, rfl⟩
        have HM := Bx.mk hM
        have hlenL : ∀ (tr : TypeId) (W : World), (Builtin.len_ #[23] tr #[v12]).run Try.prog W = .ok (.int .i64 (M : Int)) W := fun tr W => by
          have h := frs_len HROW.out tr W
          rw [hM] at h
          exact h
        have hnb : b.length = n := HN.out.1
        obtain ⟨tb, rtb, btb⟩ := Bs.tight HVL.out
        rw [hnb] at rtb
        have HTB := Bx.mk btb
        have HPW := Bx.mk (pWrite_any bV v12 b L w12 HVL.out HROW.out HOKL.out (by have := HN.out; omega) (by have := HLL.out; omega))
        have HRW : Bx (∀ W, Below w12.heap.size w12 W → Calls Try.prog 23 #[tb, v12] W (WritesPost W b L)) := ⟨fun W h => refWrites_any tb v12 b L W (HTB.out W _ (HVL.out.keep h)) (HROW.out.keep h) (fun a ha => ⟨(HOKL.out a ha).1, Rd.keep (HOKL.out a ha).2 h⟩) (by have := HN.out; omega) (by have := HLL.out; omega)⟩
        clear btb hM hnb hz10
        by_cases hfit : frFits L
        · have HFIT := Bx.mk hfit
          have HPW2 : Bx (Calls Try.prog 22 #[bV, v12] w12 fun e w' => ∃ v', e = .returned (.tuple #[v', .int .i64 0]) ∧ Bs w' v' (b ++ frsB L) ∧ Below w12.heap.size w12 w') := ⟨HPW.out.mono (by
            rintro e w' (⟨_, v', he, ha, hb⟩ | ⟨hno, _, _⟩)
            · exact ⟨v', he, ha.rd, hb⟩
            · exact absurd HFIT.out hno)⟩
          have HRW2 : Bx (∀ W, Below w12.heap.size w12 W → Calls Try.prog 23 #[tb, v12] W fun e w' => ∃ v', e = .returned (.tuple #[v', .int .i64 0]) ∧ Bs w' v' (b ++ frsB L) ∧ Below W.heap.size W w') := ⟨fun W h => (HRW.out W h).mono (by
            rintro e w' (⟨_, v', he, ha, hb⟩ | ⟨hno, _, _⟩)
            · exact ⟨v', he, ha.rd, hb⟩
            · exact absurd HFIT.out hno)⟩
          clear HPW HRW hfit
          go_upto_region 15 with (first
            | (go_at_call 22; refine HPW2.out.mono ?_; rintro e w13 ⟨cv, rfl, hc, hb13⟩; have HC13 := Bx.mk hc; have HX13 := Bx.mk hb13; clear hc hb13)
            | (go_at_call 23; refine (HRW2.out _ HX13.out).mono ?_; rintro e w14 ⟨dv, rfl, hd14, hb14⟩; have HC14 : Bx (Bs w14 cv (b ++ frsB L)) := ⟨HC13.out.keep hb14⟩; have HD14 := Bx.mk hd14; have HX14 := Bx.mk (HX13.out.trans (hb14.mono HX13.out.size)); clear hd14 hb14))
          have hcv1 := conv_str HC14.out
          have hcv2 := conv_str HD14.out
          go_upto_region 20 with fail
          clear hcv1 hcv2 HC13 HX13 HD14 HPW2 HRW2
          obtain ⟨CL, hCL⟩ : ∃ CL, (b ++ frsB L).length = CL := ⟨_, rfl⟩
          have HCL := Bx.mk hCL
          have hlenc : ∀ (tr : TypeId) (W : World), (Builtin.len_ #[22] tr #[cv]).run Try.prog W = .ok (.int .i64 (CL : Int)) W := fun tr W => by
            have h := HC14.out.run_len tr W
            rw [hCL] at h
            exact h
          have HCLB : Bx (CL ≤ 200000) := ⟨by
            have h1 := frsB_len L HFIT.out
            have h2 := HLL.out
            have h3 := HN.out
            rw [← hCL, List.length_append]
            omega⟩
          clear hCL
          go_upto_region 21 with fail
          go_loopg [12, 13] M (fun g s12 s13 wx => ∃ (k AT : Nat), k + g = M ∧ s13 = .int .i64 k ∧ s12 = .int .i64 (AT : Int) ∧ Bx (AT = b.length + (frsB (L.take k)).length) ∧ Bx (Below w14.heap.size w14 wx))
          case atStart => exact ⟨0, n, by omega, rfl, rfl, ⟨by rw [List.take_zero]; unfold frsB; simp; exact HN.out.1.symm⟩, ⟨Below.refl _ _⟩⟩
          case round =>
            obtain ⟨j, AT, hjg, rfl, rfl, HAT, HJ⟩ := hrel
            cases gk with
            | zero =>
              obtain rfl : j = M := by omega
              have hjd : decide ((j : Int) < (j : Int)) = false := by simp
              have hjd' : decide (j < j) = false := by simp
              have hat : AT = CL := by
                have h1 := HAT.out
                rw [List.take_of_length_le (by have := HM.out; omega)] at h1
                have h2 := HCL.out
                rw [List.length_append] at h2
                omega
              subst hat
              clear hjg
              go_wp2_with fail
              go_ret
              exact ⟨rfl, HBL.out.trans ((HX14.out.trans (HJ.out.mono HX14.out.size)).mono HBL.out.size)⟩
            | succ g2 =>
              have hjm : j < M := by omega
              have hjl : j < L.length := by have := HM.out; omega
              have hjd : decide ((j : Int) < (M : Int)) = true := decide_eq_true (by omega)
              have hjd' : decide (j < M) = true := decide_eq_true hjm
              have HWJ : Bx (wrap64 ((j : Int) + 1) = ((j + 1 : Nat) : Int)) := ⟨by have := HLL.out; unfold wrap64; omega⟩
              have HJG := Bx.mk hjg
              obtain ⟨bk, o, hix0, hcs⟩ := frs_at HROW.out j hjl
              have hix := hix0 .i64
              have hao := HOKL.out L[j] (List.getElem_mem hjl)
              have hfa := HFIT.out L[j] (List.getElem_mem hjl)
              have hrest := frsB_rest b L j hjl
              have hsn := frsB_snoc L j hjl
              have HXJ := Bx.mk (HX14.out.trans (HJ.out.mono HX14.out.size))
              have HCS := Bx.mk hcs
              obtain ⟨a, ha⟩ : ∃ a, L[j] = a := ⟨_, rfl⟩
              rw [ha] at hao hfa hrest hsn HCS
              have hrd := rdF_frB a (frsB (L.drop (j + 1))) hao.1 hfa
              rw [← hrest, ← HAT.out] at hrd
              have hatl : AT ≤ (b ++ frsB L).length := by
                have h3 := congrArg List.length hrest
                have h5 : (frB a ++ frsB (L.drop (j + 1))).length = 9 + a.rawb.length + (frsB (L.drop (j + 1))).length := by rw [List.length_append, frB_length]
                rw [← HAT.out, List.length_drop, h5] at h3
                omega
              have hlat : AT + (9 + a.rawb.length) = b.length + (frsB (L.take (j + 1))).length := by rw [hsn, List.length_append, frB_length, HAT.out]; omega
              have HLAT := Bx.mk hlat
              obtain ⟨vr, rr, br⟩ := HC14.out.from_ (AT : Int) (by omega) (by omega)
              rw [Int.toNat_natCast] at br
              have hat2 : AT ≤ 200000 := by have := HCLB.out; have := HCL.out; omega
              obtain ⟨N9, hN9⟩ : ∃ x : Int, ((9 + a.rawb.length : Nat) : Int) = x := ⟨_, rfl⟩
              obtain ⟨AT2, hAT2⟩ : ∃ x : Nat, AT + (9 + a.rawb.length) = x := ⟨_, rfl⟩
              have hsum : (AT : Int) + N9 = (AT2 : Int) := by omega
              have hb2 : AT2 ≤ 300000 := by omega
              have HWS := Bx.mk (wrapsF AT2 hb2)
              have HAT2 := Bx.mk hAT2
              have hm31 := u32_mask31 a.st hao.1.2.2
              obtain ⟨FT, hFT⟩ : ∃ x : Int, (a.ty : Int) = x := ⟨_, rfl⟩
              obtain ⟨FF, hFF⟩ : ∃ x : Int, (a.fl : Int) = x := ⟨_, rfl⟩
              obtain ⟨FS, hFS⟩ : ∃ x : Int, (a.st : Int) = x := ⟨_, rfl⟩
              obtain ⟨F31, hF31⟩ : ∃ x : Int, ((a.st % 2147483648 : Nat) : Int) = x := ⟨_, rfl⟩
              obtain ⟨Ar, nr, cr, hraw, -⟩ := Bs.open_ (show Bs _ a.raw a.rawb from hao.2)
              rw [hFS, hF31] at hm31
              have HRD : Bx (∀ W, Bs W vr ((b ++ frsB L).drop AT) → Calls Try.prog 24 #[vr, .int .i64 0] W (RdQ FT FF F31 N9 0 a.rawb W)) := ⟨fun W h => by
                have hp := pRead_any vr _ 0 W h (by omega) (by omega) (by rw [List.length_drop]; have := HCLB.out; have := HCL.out; omega)
                rw [hrd] at hp
                subst hFT hFF hF31 hN9
                exact hp.mono fun e w' hh => hh.q⟩
              have HBR := Bx.mk br
              have HRAW : Bx (Bs w12 (.slice Ar nr cr) a.rawb) := ⟨by rw [← hraw]; exact hao.2⟩
              have HCJ := Bx.mk (fun W (h : Below w12.heap.size w12 W) => HCS.out W (HROW.out.keep h))
              rw [hFT, hFF, hFS, hraw] at HCJ
              have HHF := Bx.mk (fun W (x y : Value) (h1 : Bs W x a.rawb) (h2 : Bs W y a.rawb) => helpFrame_same FT FF F31 a.ty a.fl (a.st % 2147483648) hFT hFF hF31 x y a.rawb W h1 h2)
              obtain ⟨RB, hRB⟩ : ∃ RB, a.rawb = RB := ⟨_, rfl⟩
              rw [hRB] at HRD HRAW HHF
              clear hb2 hix0 hcs hao hfa hrest hsn ha hrd hatl hlat br hat2 hN9 hAT2 hFT hFF hFS hF31 hraw hRB HCS hjl hjm hjg
              have hws := HWS.out.1
              have hws2 := HWS.out.2
              go_upto_region 24 with (go_at_call 24; refine (HRD.out _ (HBR.out _ (HC14.out.keep HJ.out))).mono ?_; rintro e w15 ⟨A5, n5, c5, rfl, h5, b5⟩; have HX15 := Bx.mk b5; have HV15 := Bx.mk h5; clear h5 b5)
              have HX16 := Bx.mk ((HXJ.out.trans (HX15.out.mono HXJ.out.size)).alloc (HXJ.out.trans (HX15.out.mono HXJ.out.size)).size (.cells (fraA FT FF F31 (.slice A5 n5 c5)) 28))
              have HJ16 := Bx.mk ((HJ.out.trans (HX15.out.mono HJ.out.size)).alloc (HJ.out.trans (HX15.out.mono HJ.out.size)).size (.cells (fraA FT FF F31 (.slice A5 n5 c5)) 28))
              have HS16 : Bx (Sb 28 (w15.alloc (.cells (fraA FT FF F31 (.slice A5 n5 c5)) 28)) w15.heap.size (fraA FT FF F31 (.slice A5 n5 c5))) := ⟨Sb.new _ w15 _⟩
              have HV16 : Bx (Bs (w15.alloc (.cells (fraA FT FF F31 (.slice A5 n5 c5)) 28)) (.slice A5 n5 c5) RB) := ⟨HV15.out.keep ((Below.refl _ _).alloc (Nat.le_refl _) _)⟩
              obtain ⟨w16, hw16⟩ : ∃ W, w15.alloc (.cells (fraA FT FF F31 (.slice A5 n5 c5)) 28) = W := ⟨_, rfl⟩
              obtain ⟨g14, hg14⟩ : ∃ g, w15.heap.size = g := ⟨_, rfl⟩
              rw [hw16] at HX16 HJ16 HS16 HV16 ⊢
              rw [hg14] at HS16 ⊢
              clear hw16 hg14 HX15 HV15 HXJ
              obtain ⟨x0, x1, x2, x3⟩ := HCJ.out w16 HX16.out
              go_upto_region 25 with fail
              clear x0 x1 x2 x3
              have HX17 := Bx.mk (HX16.out.alloc HX16.out.size (.cells (fraA FT FF FS (.slice Ar nr cr)) 28))
              have HJ17 := Bx.mk (HJ16.out.alloc HJ16.out.size (.cells (fraA FT FF FS (.slice Ar nr cr)) 28))
              have HS17 : Bx (Sb 28 (w16.alloc (.cells (fraA FT FF FS (.slice Ar nr cr)) 28)) w16.heap.size (fraA FT FF FS (.slice Ar nr cr))) := ⟨Sb.new _ w16 _⟩
              have HS16b := Bx.mk (HS16.out.alloc (.cells (fraA FT FF FS (.slice Ar nr cr)) 28))
              have HV17 : Bx (Bs (w16.alloc (.cells (fraA FT FF FS (.slice Ar nr cr)) 28)) (.slice A5 n5 c5) RB) := ⟨HV16.out.keep ((Below.refl _ _).alloc (Nat.le_refl _) _)⟩
              have HZ17 : Bx (Below w16.heap.size w16 (w16.alloc (.cells (fraA FT FF FS (.slice Ar nr cr)) 28))) := ⟨(Below.refl _ _).alloc (Nat.le_refl _) _⟩
              have HRAW17 : Bx (Bs (w16.alloc (.cells (fraA FT FF FS (.slice Ar nr cr)) 28)) (.slice Ar nr cr) RB) := ⟨HRAW.out.keep HX17.out⟩
              have HG17 : Bx (w12.heap.size ≤ w16.heap.size ∧ w14.heap.size ≤ w16.heap.size ∧ g14 < w16.heap.size) := ⟨HX16.out.size, HJ16.out.size, HS16.out.lt⟩
              obtain ⟨w17, hw17⟩ : ∃ W, w16.alloc (.cells (fraA FT FF FS (.slice Ar nr cr)) 28) = W := ⟨_, rfl⟩
              obtain ⟨g17, hg17⟩ : ∃ g, w16.heap.size = g := ⟨_, rfl⟩
              rw [hw17] at HX17 HJ17 HS17 HS16b HV17 HRAW17 HZ17 ⊢
              have HGE : Bx (w16.heap.size ≤ g17) := ⟨by omega⟩
              rw [hg17] at HS17 HG17 ⊢
              clear hw17 hg17 HX16 HJ16 HS16
              have y2 : w17.cell? ⟨g17, 2, none⟩ = some (.int .u32 FS) := HS17.out.cell 2
              have y2f := HS17.out.free 2
              go_upto_region 26 with fail
              have HS18 : Bx (Sb 28 (w17.setCell ⟨g17, 2, none⟩ (.int .u32 F31)) g17 (fraA FT FF F31 (.slice Ar nr cr))) := ⟨HS17.out.set 2 (.int .u32 F31) (show 2 < 4 by decide)⟩
              have HS16c := Bx.mk (HS16b.out.grown (grown_set w17 g17 2 (.int .u32 F31)) (fun e => by injection e with e; have := HG17.out; omega))
              have HX18 := Bx.mk (HX17.out.setCell (p := ⟨g17, 2, none⟩) HG17.out.1 (.int .u32 F31))
              have HJ18 := Bx.mk (HJ17.out.setCell (p := ⟨g17, 2, none⟩) HG17.out.2.1 (.int .u32 F31))
              have HV18 : Bx (Bs (w17.setCell ⟨g17, 2, none⟩ (.int .u32 F31)) (.slice A5 n5 c5) RB) := ⟨HV16.out.keep (HZ17.out.setCell (p := ⟨g17, 2, none⟩) HGE.out (.int .u32 F31))⟩
              have HRAW18 : Bx (Bs (w17.setCell ⟨g17, 2, none⟩ (.int .u32 F31)) (.slice Ar nr cr) RB) := ⟨HRAW.out.keep HX18.out⟩
              obtain ⟨w18, hw18⟩ : ∃ W, w17.setCell ⟨g17, 2, none⟩ (.int .u32 F31) = W := ⟨_, rfl⟩
              rw [hw18] at HS18 HS16c HX18 HJ18 HV18 HRAW18 ⊢
              clear hw18 y2 y2f HX17 HJ17 HS17 HS16b HV17 HRAW17 HZ17 HV16 HGE
              have p0 : w18.cell? ⟨g14, 0, none⟩ = some (.int .u8 FT) := HS16c.out.cell 0
              have p1 : w18.cell? ⟨g14, 1, none⟩ = some (.int .u8 FF) := HS16c.out.cell 1
              have p2 : w18.cell? ⟨g14, 2, none⟩ = some (.int .u32 F31) := HS16c.out.cell 2
              have p3 : w18.cell? ⟨g14, 3, none⟩ = some (.slice A5 n5 c5) := HS16c.out.cell 3
              have q0 : w18.cell? ⟨g17, 0, none⟩ = some (.int .u8 FT) := HS18.out.cell 0
              have q1 : w18.cell? ⟨g17, 1, none⟩ = some (.int .u8 FF) := HS18.out.cell 1
              have q2 : w18.cell? ⟨g17, 2, none⟩ = some (.int .u32 F31) := HS18.out.cell 2
              have q3 : w18.cell? ⟨g17, 3, none⟩ = some (.slice Ar nr cr) := HS18.out.cell 3
              go_wp2_with (first
                | (go_at_call 25; refine (HHF.out _ _ _ HV18.out HRAW18.out).mono ?_; rintro e w19 ⟨rfl, b19⟩; have HJ19 := Bx.mk (HJ18.out.trans (b19.mono HJ18.out.size)); clear b19))
              go_roundg g2
              case measure => omega
              case rel => exact ⟨j + 1, AT2, by have := HJG.out; omega, by rw [HWJ.out], rfl, ⟨by have h1 := HLAT.out; have h2 := HAT2.out; omega⟩, HJ19⟩
        · have HNF := Bx.mk hfit
          have HPW2 : Bx (Calls Try.prog 22 #[bV, v12] w12 fun e w' => e = .returned (.tuple #[.slice none 0 0, .int .i64 30]) ∧ Below w12.heap.size w12 w') := ⟨HPW.out.mono (by
            rintro e w' (⟨hy, _⟩ | ⟨_, he, hb⟩)
            · exact absurd hy HNF.out
            · exact ⟨he, hb⟩)⟩
          have HRW2 : Bx (∀ W, Below w12.heap.size w12 W → Calls Try.prog 23 #[tb, v12] W fun e w' => e = .returned (.tuple #[.slice none 0 0, .int .i64 30]) ∧ Below W.heap.size W w') := ⟨fun W h => (HRW.out W h).mono (by
            rintro e w' (⟨hy, _⟩ | ⟨_, he, hb⟩)
            · exact absurd hy HNF.out
            · exact ⟨he, hb⟩)⟩
          clear HPW HRW hfit
          go_upto_region 15 with (first
            | (go_at_call 22; refine HPW2.out.mono ?_; rintro e w13 ⟨rfl, hb13⟩; have HX13 := Bx.mk hb13; clear hb13)
            | (go_at_call 23; refine (HRW2.out _ HX13.out).mono ?_; rintro e w14 ⟨rfl, hb14⟩; have HX14 := Bx.mk (HX13.out.trans (hb14.mono HX13.out.size)); clear hb14))
          have hcv0 : (convert 22 9 (.slice none 0 0)).run Try.prog w14 = .ok (.string (bstr [])) w14 := conv_str (show Bs w14 (.slice none 0 0) [] from Rd.nil w14)
          go_wp2_with fail
          go_ret
          exact ⟨rfl, HBL.out.trans (HX14.out.mono HBL.out.size)⟩
      · have hzb : (BI == 1) = false := by rw [beq_eq_false_iff_ne]; exact hz
        clear hz
        go_upto_region 13 with fail
        have HROW : Bx (Rows 4 frvl w10 v10 l) := ⟨Rn.of_own HO10.out⟩
        have HOKL := HOK10
        have HLL : Bx (l.length ≤ 9) := ⟨by have := HN.out; omega⟩
        have HBL := HB10
        have HVL : Bx (Bs w10 bV b) := ⟨HV10.out⟩
        obtain ⟨L, hLe⟩ : ∃ L, l = L := ⟨_, rfl⟩
        rw [hLe] at HROW HOKL HLL
        clear hLe hzb HO10 HX10 HOK10 HB10 HV10 hmk HMA HV1 HR1 HOK1 HS2 hlenl hBI hQ hR hwQ hwR hwT hwT2 hTI hkd hkd' hd hd' hd2 hd2'
        have hz10 := 0
        obtain ⟨M, hM⟩ : ∃ M, L.length = M := ⟨_, rfl⟩
        have HM := Bx.mk hM
        have hlenL : ∀ (tr : TypeId) (W : World), (Builtin.len_ #[23] tr #[v10]).run Try.prog W = .ok (.int .i64 (M : Int)) W := fun tr W => by
          have h := frs_len HROW.out tr W
          rw [hM] at h
          exact h
        have hnb : b.length = n := HN.out.1
        obtain ⟨tb, rtb, btb⟩ := Bs.tight HVL.out
        rw [hnb] at rtb
        have HTB := Bx.mk btb
        have HPW := Bx.mk (pWrite_any bV v10 b L w10 HVL.out HROW.out HOKL.out (by have := HN.out; omega) (by have := HLL.out; omega))
        have HRW : Bx (∀ W, Below w10.heap.size w10 W → Calls Try.prog 23 #[tb, v10] W (WritesPost W b L)) := ⟨fun W h => refWrites_any tb v10 b L W (HTB.out W _ (HVL.out.keep h)) (HROW.out.keep h) (fun a ha => ⟨(HOKL.out a ha).1, Rd.keep (HOKL.out a ha).2 h⟩) (by have := HN.out; omega) (by have := HLL.out; omega)⟩
        clear btb hM hnb hz10
        by_cases hfit : frFits L
        · have HFIT := Bx.mk hfit
          have HPW2 : Bx (Calls Try.prog 22 #[bV, v10] w10 fun e w' => ∃ v', e = .returned (.tuple #[v', .int .i64 0]) ∧ Bs w' v' (b ++ frsB L) ∧ Below w10.heap.size w10 w') := ⟨HPW.out.mono (by
            rintro e w' (⟨_, v', he, ha, hb⟩ | ⟨hno, _, _⟩)
            · exact ⟨v', he, ha.rd, hb⟩
            · exact absurd HFIT.out hno)⟩
          have HRW2 : Bx (∀ W, Below w10.heap.size w10 W → Calls Try.prog 23 #[tb, v10] W fun e w' => ∃ v', e = .returned (.tuple #[v', .int .i64 0]) ∧ Bs w' v' (b ++ frsB L) ∧ Below W.heap.size W w') := ⟨fun W h => (HRW.out W h).mono (by
            rintro e w' (⟨_, v', he, ha, hb⟩ | ⟨hno, _, _⟩)
            · exact ⟨v', he, ha.rd, hb⟩
            · exact absurd HFIT.out hno)⟩
          clear HPW HRW hfit
          go_upto_region 15 with (first
            | (go_at_call 22; refine HPW2.out.mono ?_; rintro e w13 ⟨cv, rfl, hc, hb13⟩; have HC13 := Bx.mk hc; have HX13 := Bx.mk hb13; clear hc hb13)
            | (go_at_call 23; refine (HRW2.out _ HX13.out).mono ?_; rintro e w14 ⟨dv, rfl, hd14, hb14⟩; have HC14 : Bx (Bs w14 cv (b ++ frsB L)) := ⟨HC13.out.keep hb14⟩; have HD14 := Bx.mk hd14; have HX14 := Bx.mk (HX13.out.trans (hb14.mono HX13.out.size)); clear hd14 hb14))
          have hcv1 := conv_str HC14.out
          have hcv2 := conv_str HD14.out
          go_upto_region 20 with fail
          clear hcv1 hcv2 HC13 HX13 HD14 HPW2 HRW2
          obtain ⟨CL, hCL⟩ : ∃ CL, (b ++ frsB L).length = CL := ⟨_, rfl⟩
          have HCL := Bx.mk hCL
          have hlenc : ∀ (tr : TypeId) (W : World), (Builtin.len_ #[22] tr #[cv]).run Try.prog W = .ok (.int .i64 (CL : Int)) W := fun tr W => by
            have h := HC14.out.run_len tr W
            rw [hCL] at h
            exact h
          have HCLB : Bx (CL ≤ 200000) := ⟨by
            have h1 := frsB_len L HFIT.out
            have h2 := HLL.out
            have h3 := HN.out
            rw [← hCL, List.length_append]
            omega⟩
          clear hCL
          go_upto_region 21 with fail
          go_loopg [12, 13] M (fun g s12 s13 wx => ∃ (k AT : Nat), k + g = M ∧ s13 = .int .i64 k ∧ s12 = .int .i64 (AT : Int) ∧ Bx (AT = b.length + (frsB (L.take k)).length) ∧ Bx (Below w14.heap.size w14 wx))
          case atStart => exact ⟨0, n, by omega, rfl, rfl, ⟨by rw [List.take_zero]; unfold frsB; simp; exact HN.out.1.symm⟩, ⟨Below.refl _ _⟩⟩
          case round =>
            obtain ⟨j, AT, hjg, rfl, rfl, HAT, HJ⟩ := hrel
            cases gk with
            | zero =>
              obtain rfl : j = M := by omega
              have hjd : decide ((j : Int) < (j : Int)) = false := by simp
              have hjd' : decide (j < j) = false := by simp
              have hat : AT = CL := by
                have h1 := HAT.out
                rw [List.take_of_length_le (by have := HM.out; omega)] at h1
                have h2 := HCL.out
                rw [List.length_append] at h2
                omega
              subst hat
              clear hjg
              go_wp2_with fail
              go_ret
              exact ⟨rfl, HBL.out.trans ((HX14.out.trans (HJ.out.mono HX14.out.size)).mono HBL.out.size)⟩
            | succ g2 =>
              have hjm : j < M := by omega
              have hjl : j < L.length := by have := HM.out; omega
              have hjd : decide ((j : Int) < (M : Int)) = true := decide_eq_true (by omega)
              have hjd' : decide (j < M) = true := decide_eq_true hjm
              have HWJ : Bx (wrap64 ((j : Int) + 1) = ((j + 1 : Nat) : Int)) := ⟨by have := HLL.out; unfold wrap64; omega⟩
              have HJG := Bx.mk hjg
              obtain ⟨bk, o, hix0, hcs⟩ := frs_at HROW.out j hjl
              have hix := hix0 .i64
              have hao := HOKL.out L[j] (List.getElem_mem hjl)
              have hfa := HFIT.out L[j] (List.getElem_mem hjl)
              have hrest := frsB_rest b L j hjl
              have hsn := frsB_snoc L j hjl
              have HXJ := Bx.mk (HX14.out.trans (HJ.out.mono HX14.out.size))
              have HCS := Bx.mk hcs
              obtain ⟨a, ha⟩ : ∃ a, L[j] = a := ⟨_, rfl⟩
              rw [ha] at hao hfa hrest hsn HCS
              have hrd := rdF_frB a (frsB (L.drop (j + 1))) hao.1 hfa
              rw [← hrest, ← HAT.out] at hrd
              have hatl : AT ≤ (b ++ frsB L).length := by
                have h3 := congrArg List.length hrest
                have h5 : (frB a ++ frsB (L.drop (j + 1))).length = 9 + a.rawb.length + (frsB (L.drop (j + 1))).length := by rw [List.length_append, frB_length]
                rw [← HAT.out, List.length_drop, h5] at h3
                omega
              have hlat : AT + (9 + a.rawb.length) = b.length + (frsB (L.take (j + 1))).length := by rw [hsn, List.length_append, frB_length, HAT.out]; omega
              have HLAT := Bx.mk hlat
              obtain ⟨vr, rr, br⟩ := HC14.out.from_ (AT : Int) (by omega) (by omega)
              rw [Int.toNat_natCast] at br
              have hat2 : AT ≤ 200000 := by have := HCLB.out; have := HCL.out; omega
              obtain ⟨N9, hN9⟩ : ∃ x : Int, ((9 + a.rawb.length : Nat) : Int) = x := ⟨_, rfl⟩
              obtain ⟨AT2, hAT2⟩ : ∃ x : Nat, AT + (9 + a.rawb.length) = x := ⟨_, rfl⟩
              have hsum : (AT : Int) + N9 = (AT2 : Int) := by omega
              have hb2 : AT2 ≤ 300000 := by omega
              have HWS := Bx.mk (wrapsF AT2 hb2)
              have HAT2 := Bx.mk hAT2
              have hm31 := u32_mask31 a.st hao.1.2.2
              obtain ⟨FT, hFT⟩ : ∃ x : Int, (a.ty : Int) = x := ⟨_, rfl⟩
              obtain ⟨FF, hFF⟩ : ∃ x : Int, (a.fl : Int) = x := ⟨_, rfl⟩
              obtain ⟨FS, hFS⟩ : ∃ x : Int, (a.st : Int) = x := ⟨_, rfl⟩
              obtain ⟨F31, hF31⟩ : ∃ x : Int, ((a.st % 2147483648 : Nat) : Int) = x := ⟨_, rfl⟩
              obtain ⟨Ar, nr, cr, hraw, -⟩ := Bs.open_ (show Bs _ a.raw a.rawb from hao.2)
              rw [hFS, hF31] at hm31
              have HRD : Bx (∀ W, Bs W vr ((b ++ frsB L).drop AT) → Calls Try.prog 24 #[vr, .int .i64 0] W (RdQ FT FF F31 N9 0 a.rawb W)) := ⟨fun W h => by
                have hp := pRead_any vr _ 0 W h (by omega) (by omega) (by rw [List.length_drop]; have := HCLB.out; have := HCL.out; omega)
                rw [hrd] at hp
                subst hFT hFF hF31 hN9
                exact hp.mono fun e w' hh => hh.q⟩
              have HBR := Bx.mk br
              have HRAW : Bx (Bs w10 (.slice Ar nr cr) a.rawb) := ⟨by rw [← hraw]; exact hao.2⟩
              have HCJ := Bx.mk (fun W (h : Below w10.heap.size w10 W) => HCS.out W (HROW.out.keep h))
              rw [hFT, hFF, hFS, hraw] at HCJ
              have HHF := Bx.mk (fun W (x y : Value) (h1 : Bs W x a.rawb) (h2 : Bs W y a.rawb) => helpFrame_same FT FF F31 a.ty a.fl (a.st % 2147483648) hFT hFF hF31 x y a.rawb W h1 h2)
              obtain ⟨RB, hRB⟩ : ∃ RB, a.rawb = RB := ⟨_, rfl⟩
              rw [hRB] at HRD HRAW HHF
              clear hb2 hix0 hcs hao hfa hrest hsn ha hrd hatl hlat br hat2 hN9 hAT2 hFT hFF hFS hF31 hraw hRB HCS hjl hjm hjg
              have hws := HWS.out.1
              have hws2 := HWS.out.2
              go_upto_region 24 with (go_at_call 24; refine (HRD.out _ (HBR.out _ (HC14.out.keep HJ.out))).mono ?_; rintro e w15 ⟨A5, n5, c5, rfl, h5, b5⟩; have HX15 := Bx.mk b5; have HV15 := Bx.mk h5; clear h5 b5)
              have HX16 := Bx.mk ((HXJ.out.trans (HX15.out.mono HXJ.out.size)).alloc (HXJ.out.trans (HX15.out.mono HXJ.out.size)).size (.cells (fraA FT FF F31 (.slice A5 n5 c5)) 28))
              have HJ16 := Bx.mk ((HJ.out.trans (HX15.out.mono HJ.out.size)).alloc (HJ.out.trans (HX15.out.mono HJ.out.size)).size (.cells (fraA FT FF F31 (.slice A5 n5 c5)) 28))
              have HS16 : Bx (Sb 28 (w15.alloc (.cells (fraA FT FF F31 (.slice A5 n5 c5)) 28)) w15.heap.size (fraA FT FF F31 (.slice A5 n5 c5))) := ⟨Sb.new _ w15 _⟩
              have HV16 : Bx (Bs (w15.alloc (.cells (fraA FT FF F31 (.slice A5 n5 c5)) 28)) (.slice A5 n5 c5) RB) := ⟨HV15.out.keep ((Below.refl _ _).alloc (Nat.le_refl _) _)⟩
              obtain ⟨w16, hw16⟩ : ∃ W, w15.alloc (.cells (fraA FT FF F31 (.slice A5 n5 c5)) 28) = W := ⟨_, rfl⟩
              obtain ⟨g14, hg14⟩ : ∃ g, w15.heap.size = g := ⟨_, rfl⟩
              rw [hw16] at HX16 HJ16 HS16 HV16 ⊢
              rw [hg14] at HS16 ⊢
              clear hw16 hg14 HX15 HV15 HXJ
              obtain ⟨x0, x1, x2, x3⟩ := HCJ.out w16 HX16.out
              go_upto_region 25 with fail
              clear x0 x1 x2 x3
              have HX17 := Bx.mk (HX16.out.alloc HX16.out.size (.cells (fraA FT FF FS (.slice Ar nr cr)) 28))
              have HJ17 := Bx.mk (HJ16.out.alloc HJ16.out.size (.cells (fraA FT FF FS (.slice Ar nr cr)) 28))
              have HS17 : Bx (Sb 28 (w16.alloc (.cells (fraA FT FF FS (.slice Ar nr cr)) 28)) w16.heap.size (fraA FT FF FS (.slice Ar nr cr))) := ⟨Sb.new _ w16 _⟩
              have HS16b := Bx.mk (HS16.out.alloc (.cells (fraA FT FF FS (.slice Ar nr cr)) 28))
              have HV17 : Bx (Bs (w16.alloc (.cells (fraA FT FF FS (.slice Ar nr cr)) 28)) (.slice A5 n5 c5) RB) := ⟨HV16.out.keep ((Below.refl _ _).alloc (Nat.le_refl _) _)⟩
              have HZ17 : Bx (Below w16.heap.size w16 (w16.alloc (.cells (fraA FT FF FS (.slice Ar nr cr)) 28))) := ⟨(Below.refl _ _).alloc (Nat.le_refl _) _⟩
              have HRAW17 : Bx (Bs (w16.alloc (.cells (fraA FT FF FS (.slice Ar nr cr)) 28)) (.slice Ar nr cr) RB) := ⟨HRAW.out.keep HX17.out⟩
              have HG17 : Bx (w10.heap.size ≤ w16.heap.size ∧ w14.heap.size ≤ w16.heap.size ∧ g14 < w16.heap.size) := ⟨HX16.out.size, HJ16.out.size, HS16.out.lt⟩
              obtain ⟨w17, hw17⟩ : ∃ W, w16.alloc (.cells (fraA FT FF FS (.slice Ar nr cr)) 28) = W := ⟨_, rfl⟩
              obtain ⟨g17, hg17⟩ : ∃ g, w16.heap.size = g := ⟨_, rfl⟩
              rw [hw17] at HX17 HJ17 HS17 HS16b HV17 HRAW17 HZ17 ⊢
              have HGE : Bx (w16.heap.size ≤ g17) := ⟨by omega⟩
              rw [hg17] at HS17 HG17 ⊢
              clear hw17 hg17 HX16 HJ16 HS16
              have y2 : w17.cell? ⟨g17, 2, none⟩ = some (.int .u32 FS) := HS17.out.cell 2
              have y2f := HS17.out.free 2
              go_upto_region 26 with fail
              have HS18 : Bx (Sb 28 (w17.setCell ⟨g17, 2, none⟩ (.int .u32 F31)) g17 (fraA FT FF F31 (.slice Ar nr cr))) := ⟨HS17.out.set 2 (.int .u32 F31) (show 2 < 4 by decide)⟩
              have HS16c := Bx.mk (HS16b.out.grown (grown_set w17 g17 2 (.int .u32 F31)) (fun e => by injection e with e; have := HG17.out; omega))
              have HX18 := Bx.mk (HX17.out.setCell (p := ⟨g17, 2, none⟩) HG17.out.1 (.int .u32 F31))
              have HJ18 := Bx.mk (HJ17.out.setCell (p := ⟨g17, 2, none⟩) HG17.out.2.1 (.int .u32 F31))
              have HV18 : Bx (Bs (w17.setCell ⟨g17, 2, none⟩ (.int .u32 F31)) (.slice A5 n5 c5) RB) := ⟨HV16.out.keep (HZ17.out.setCell (p := ⟨g17, 2, none⟩) HGE.out (.int .u32 F31))⟩
              have HRAW18 : Bx (Bs (w17.setCell ⟨g17, 2, none⟩ (.int .u32 F31)) (.slice Ar nr cr) RB) := ⟨HRAW.out.keep HX18.out⟩
              obtain ⟨w18, hw18⟩ : ∃ W, w17.setCell ⟨g17, 2, none⟩ (.int .u32 F31) = W := ⟨_, rfl⟩
              rw [hw18] at HS18 HS16c HX18 HJ18 HV18 HRAW18 ⊢
              clear hw18 y2 y2f HX17 HJ17 HS17 HS16b HV17 HRAW17 HZ17 HV16 HGE
              have p0 : w18.cell? ⟨g14, 0, none⟩ = some (.int .u8 FT) := HS16c.out.cell 0
              have p1 : w18.cell? ⟨g14, 1, none⟩ = some (.int .u8 FF) := HS16c.out.cell 1
              have p2 : w18.cell? ⟨g14, 2, none⟩ = some (.int .u32 F31) := HS16c.out.cell 2
              have p3 : w18.cell? ⟨g14, 3, none⟩ = some (.slice A5 n5 c5) := HS16c.out.cell 3
              have q0 : w18.cell? ⟨g17, 0, none⟩ = some (.int .u8 FT) := HS18.out.cell 0
              have q1 : w18.cell? ⟨g17, 1, none⟩ = some (.int .u8 FF) := HS18.out.cell 1
              have q2 : w18.cell? ⟨g17, 2, none⟩ = some (.int .u32 F31) := HS18.out.cell 2
              have q3 : w18.cell? ⟨g17, 3, none⟩ = some (.slice Ar nr cr) := HS18.out.cell 3
              go_wp2_with (first
                | (go_at_call 25; refine (HHF.out _ _ _ HV18.out HRAW18.out).mono ?_; rintro e w19 ⟨rfl, b19⟩; have HJ19 := Bx.mk (HJ18.out.trans (b19.mono HJ18.out.size)); clear b19))
              go_roundg g2
              case measure => omega
              case rel => exact ⟨j + 1, AT2, by have := HJG.out; omega, by rw [HWJ.out], rfl, ⟨by have h1 := HLAT.out; have h2 := HAT2.out; omega⟩, HJ19⟩
        · have HNF := Bx.mk hfit
          have HPW2 : Bx (Calls Try.prog 22 #[bV, v10] w10 fun e w' => e = .returned (.tuple #[.slice none 0 0, .int .i64 30]) ∧ Below w10.heap.size w10 w') := ⟨HPW.out.mono (by
            rintro e w' (⟨hy, _⟩ | ⟨_, he, hb⟩)
            · exact absurd hy HNF.out
            · exact ⟨he, hb⟩)⟩
          have HRW2 : Bx (∀ W, Below w10.heap.size w10 W → Calls Try.prog 23 #[tb, v10] W fun e w' => e = .returned (.tuple #[.slice none 0 0, .int .i64 30]) ∧ Below W.heap.size W w') := ⟨fun W h => (HRW.out W h).mono (by
            rintro e w' (⟨hy, _⟩ | ⟨_, he, hb⟩)
            · exact absurd hy HNF.out
            · exact ⟨he, hb⟩)⟩
          clear HPW HRW hfit
          go_upto_region 15 with (first
            | (go_at_call 22; refine HPW2.out.mono ?_; rintro e w13 ⟨rfl, hb13⟩; have HX13 := Bx.mk hb13; clear hb13)
            | (go_at_call 23; refine (HRW2.out _ HX13.out).mono ?_; rintro e w14 ⟨rfl, hb14⟩; have HX14 := Bx.mk (HX13.out.trans (hb14.mono HX13.out.size)); clear hb14))
          have hcv0 : (convert 22 9 (.slice none 0 0)).run Try.prog w14 = .ok (.string (bstr [])) w14 := conv_str (show Bs w14 (.slice none 0 0) [] from Rd.nil w14)
          go_wp2_with fail
          go_ret
          exact ⟨rfl, HBL.out.trans (HX14.out.mono HBL.out.size)⟩
theorem frameBack_walk (bV : Value) (b : List UInt8) (v : Value) (l : List Frm) (Big : Int) (hBig : (Lit.int .u16 Big).wf = true) (w : World) (hv : Bs w bV b) (hr : Rows 4 frvl w v l) (hok : ∀ a ∈ l, frOk a ∧ frBs w a) :
    Calls Try.prog 3 #[bV, v, .int .u16 Big] w fun e w' => e = .returned (.bool true) ∧ Below w.heap.size w w' := by
  by_cases hg : 100 < b.length ∨ 8 < l.length
  · exact frameBack_great Big bV v b l w hv hr hg
  have hB2 : 0 ≤ Big ∧ Big < 65536 := by
    have h0 : IntKind.u16.min ≤ Big ∧ Big ≤ IntKind.u16.max := by simpa [Lit.wf] using hBig
    have h1 : IntKind.u16.min = 0 := rfl
    have h2 : IntKind.u16.max = 65535 := rfl
    omega
  obtain ⟨q, rfl⟩ := Int.eq_ofNat_of_zero_le hB2.1
  exact frameBack_small (q : Int) _ ((q / 8 : Nat) : Int) ((q / 8 % 5 : Nat) : Int) _ (16382 + q / 8 % 5) rfl rfl (Int.ofNat_tmod (q / 8) 5).symm (by omega) rfl (by omega) (by omega) bV v b l w hv hr hok (by omega) (by omega)
end Go.Proofs.Ytenoaljghbpaaaa
