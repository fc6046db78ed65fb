/-
  Texts put together: HgC.
-/
import Derived.Test.YthnaapjefedalaaM27
import Derived.Test.YthnaapjefedalaaM20
import Derived.Test.YthnaapjefedalaaM14
import Derived.Deep.CutBlock
import Derived.Deep.RegionHeld
import Derived.Handy

/-
  Contract of the document's Encode.
-/
namespace Go.Proofs.Ythnaapjefedalaa
open Go.RowKit Go.Maps
set_option linter.unusedVariables false

section
variable {q t : Nat} {T T' : Tab} {le : Option Nat} {w w' : World} {S : Nat → Prop}
/-- The mark and the bits of a literal. -/
def kdF (sc gt : Bool) : UInt8 := if sc then 16 else if gt then 0 else 64
def kdK (sc gt : Bool) : Nat := if sc || gt then 4 else 6
theorem encF_lit {T : Tab} {f : Fd} (h1 : (findS T2 f).2.2 = false) (h2 : (findT T.l T.first f).2.2 = false) :
    encF T f = (litW (kdF (secN f.1) (decide (T.cap / 2 < fsz f + 32))) (kdK (secN f.1) (decide (T.cap / 2 < fsz f + 32))) (nixT T f) true f.1.data.toList f.2.data.toList, if (!secN f.1 && !decide (T.cap / 2 < fsz f + 32)) = true then T.add f else T) := by
  unfold encF kdF kdK
  rw [h1, h2]
  cases secN f.1 with
  | true => simp
  | false =>
    by_cases hg : T.cap / 2 < fsz f + 32
    · simp [hg]
    · simp [hg]

set_option maxRecDepth 100000 in
set_option maxHeartbeats 8000000 in
theorem refenc_any (h : Ec q t T le w S) (hm : ∀ m, le = some m → m ≤ 65535) (hc : T.cap ≤ 65535) {v : Value} {l : List Fd} (hv : ∀ W, Fp S w W → Fs W v l) (hl : l.length ≤ 1000) (hz : ∀ f ∈ l, f.1.size ≤ 20000 ∧ f.2.size ≤ 20000) (hsum : sumF l ≤ 10000) (ht : T.tot + l.length ≤ 1000000) :
    Calls Try.prog 14 #[.pointer (some ⟨q, 0, none⟩), v] w fun e w' => ∃ v', e = .returned v' ∧ OwB w' w.heap.size v' (encB le T l) ∧ Turn (Ec q t (encL T l).2 none) S w w' := by
  have HV := Bx.mk hv
  have HV0 := Bx.mk (hv w (Fp.refl _ _))
  have hlen := fun ty W => HV0.out.run_len ty W
  have HZ := Bx.mk hz
  obtain ⟨U, hU⟩ : ∃ U, upsW (toldN le T.cap) = U := ⟨_, rfl⟩
  have hul : U.length ≤ 22 := by have h1 := upsW_len2 (toldN le T.cap); have h2 := toldN_len le T.cap; rw [hU] at h1; omega
  have HEB : Bx (encB le T l = U ++ (encL T l).1) := ⟨by unfold encB; rw [hU]⟩
  have HU := Bx.mk hU
  have HBL : Bx (∀ k, (U ++ (encL T (l.take k)).1).length ≤ 44000) := ⟨fun k => by
    have h1 := encL_blen (l.take k) T
    have h2 := sumF_take_le l k
    rw [List.length_append]
    simp only [List.length_take] at h1
    omega⟩
  have HTO : Bx (∀ k, k < l.length → (encL T (l.take k)).2.tot + 1 ≤ 1000000) := ⟨fun k hk => by
    have h1 := encL_tot (l.take k) T
    simp only [List.length_take] at h1
    omega⟩
  have HM := Bx.mk hm
  have HC := Bx.mk hc
  obtain ⟨c0, c1, f1⟩ := h.cells
  obtain ⟨t1, _⟩ := h.tcells
  have HEC := Bx.mk h
  obtain ⟨z, hz0⟩ : ∃ z, leZ le = z := ⟨_, rfl⟩
  rw [hz0] at c1
  have HZ0 := Bx.mk hz0
  obtain ⟨zb, hzb⟩ : ∃ zb, decide (0 ≤ z) = zb := ⟨_, rfl⟩
  have HZB := Bx.mk hzb
  clear h hm hc hv hz hsum ht hU hul hz0
  go_enter Try.func14, Try.ntmps14
  go_upto_if 21 with fail
  go_cut [5] from 17 to 53 (fun s5 wx => Bx (DS q t T S w [] s5 U wx))
  case first =>
    have HPFX := Bx.mk (fun (W : World) (v : Nat) (hv : v ≤ 65535) (bV : Value) (bl : List UInt8) (hb : OwB W w.heap.size bV bl) (hbl : bl.length ≤ 200000) (hB : w.heap.size ≤ W.heap.size) => refPrefix_non w.heap.size bV bl 32 5 v W hb hB hbl (by omega))
    cases le with
    | none =>
      obtain rfl : z = -1 := HZ0.out.symm
      obtain rfl : zb = false := by rw [← hzb]; rfl
      clear hzb
      go_wp2_with fail
      go_meet
      refine ⟨?_⟩
      obtain rfl : [] = U := HU.out
      obtain ⟨E, e1, e2, e3⟩ := Ex.ec _ _ _ _ _ _ HEC.out
      exact ⟨E, e1, fun i hi => .inl (e2 i hi), e3, Fp.refl _ _, OwB.nil _ _, fun x hx => by cases hx⟩
    | some m =>
      obtain rfl : z = (m : Int) := HZ0.out.symm
      obtain rfl : zb = true := by rw [← hzb]; exact decide_eq_true (by omega)
      have hml := HM.out m rfl
      obtain ⟨cap, hcap⟩ : ∃ cap, T.cap = cap := ⟨_, rfl⟩
      have hcl := HC.out
      rw [hcap] at t1 hcl
      have ha1 : IntKind.u64.wrap (m : Int) = (m : Int) := by rw [IntKind.wrap_u64]; omega
      have ha2 : IntKind.u64.wrap (cap : Int) = (cap : Int) := by rw [IntKind.wrap_u64]; omega
      have HTOLD : Bx (U = if m < cap then pre 32 5 m ++ pre 32 5 cap else pre 32 5 cap) := ⟨by
        rw [← HU.out]
        unfold toldN upsW
        rw [hcap]
        simp only
        split <;> simp⟩
      have HML := Bx.mk (show m ≤ 65535 ∧ cap ≤ 65535 from ⟨hml, hcl⟩)
      have HKEEP : Bx (∀ (W : World) (bV : Value) (bl : List UInt8), OwB W w.heap.size bV bl → Below w.heap.size w W → Ec q t T (some m) W S ∧ Fp S w W ∧ OwB W w.heap.size bV bl) := ⟨fun W bV bl ho hb => ⟨(Wd.ec _ _ _ _).keep HEC.out hb, Fp.of_below hb, ho⟩⟩
      have HFIN : Bx (∀ (W : World) (bV : Value), OwB W w.heap.size bV U → Below w.heap.size w W → DS q t T S w [] bV U (W.setCell ⟨q, 1, none⟩ (.int .i64 (-1)))) := ⟨fun W bV ho hb => by
        have hW := (Wd.ec _ _ _ _).keep HEC.out hb
        obtain ⟨hp1, hp2⟩ := hW.put (Wd.rt t T) 1 (.int .i64 (-1)) (gF_1 t (leZ (some m)) (-1))
        obtain ⟨E, e1, e2, e3⟩ := Ex.ec q t T none _ _ hp1
        have hne : ∀ k, bV.ownBlock = some k → ¬ S k := fun k hk hs => by
          have h1 := ho.ge hk
          have h2 := (Wd.ec _ _ _ _).lt HEC.out k hs
          omega
        exact ⟨E, e1, fun i hi => .inl (e2 i hi), e3, (Fp.of_below hb).then hp2, ho.kept fun k hk => hp2.block k (ho.lt hk) (hne k hk), fun x hx => by cases hx⟩⟩
      have HCELL : Bx (∀ W : World, Below w.heap.size w W → W.cell? ⟨q, 0, none⟩ = some (.pointer (some ⟨t, 0, none⟩)) ∧ W.cell? ⟨q, 1, none⟩ = some (.int .i64 (m : Int)) ∧ W.frozen? ⟨q, 1, none⟩ = false ∧ W.cell? ⟨t, 1, none⟩ = some (.int .i64 (cap : Int))) := ⟨fun W hb => by
        have hW := (Wd.ec _ _ _ _).keep HEC.out hb
        obtain ⟨a, b, c⟩ := hW.cells
        exact ⟨a, b, c, by rw [← hcap]; exact hW.tcells.1⟩⟩
      clear hml hcap hcl hzb
      by_cases hlt : m < cap
      · have hd : decide (m < cap) = true := decide_eq_true hlt
        have HT := HTOLD.out
        rw [if_pos hlt] at HT
        have HT2 := Bx.mk HT
        clear HT hlt HTOLD
        go_wp2_with fail
        go_region
        go_wp2_with fail
        refine (HPFX.out w.drew m HML.out.1 _ [] (OwB.nil _ _) (by simp) (Nat.le_refl w.heap.size)).mono ?_
        rintro e w2 ⟨v2, rfl, ho2, b2, n2⟩
        rw [List.nil_append, show bitsOf 5 = 5 from rfl] at ho2
        have HB2 := Bx.mk ((Below.refl w.heap.size w).drew.trans b2)
        have HO2 := Bx.mk ho2
        obtain ⟨d0, d1, g1, d2⟩ := HCELL.out w2 HB2.out
        clear ho2 b2 n2 c0 c1 f1 t1
        go_wp2_with fail
        refine (HPFX.out _ cap HML.out.2 _ _ HO2.out (by have := (pre_len 32 5 m).2; omega) HB2.out.size).mono ?_
        rintro e w3 ⟨v3, rfl, ho3, b3, n3⟩
        rw [show bitsOf 5 = 5 from rfl, ← HT2.out] at ho3
        have HB3 := Bx.mk (HB2.out.trans b3)
        have HO3 := Bx.mk ho3
        clear d0 d1 d2 g1 ho3 b3 n3
        obtain ⟨d0, d1, g1, d2⟩ := HCELL.out w3 HB3.out
        go_wp2_with fail
        go_meet
        exact ⟨HFIN.out _ _ HO3.out HB3.out⟩
      · have hd : decide (m < cap) = false := decide_eq_false hlt
        have HT := HTOLD.out
        rw [if_neg hlt] at HT
        have HT2 := Bx.mk HT
        clear HT hlt HTOLD
        go_wp2_with fail
        go_region
        go_wp2_with fail
        refine (HPFX.out w.drew cap HML.out.2 _ [] (OwB.nil _ _) (by simp) (Nat.le_refl w.heap.size)).mono ?_
        rintro e w3 ⟨v3, rfl, ho3, b3, n3⟩
        rw [List.nil_append, show bitsOf 5 = 5 from rfl, ← HT2.out] at ho3
        have HB3 := Bx.mk ((Below.refl w.heap.size w).drew.trans b3)
        have HO3 := Bx.mk ho3
        clear c0 c1 f1 t1 ho3 b3 n3
        obtain ⟨d0, d1, g1, d2⟩ := HCELL.out w3 HB3.out
        go_wp2_with fail
        go_meet
        exact ⟨HFIN.out _ _ HO3.out HB3.out⟩
  case rest =>
    have HDS := hcut
    clear hcut c0 c1 f1 t1 HZ0 HZB hzb HM HC HEC HU
    go_wp2_with fail
    refine (h2s_row _).mono ?_
    rintro e w2 ⟨rfl, rfl⟩
    obtain ⟨g0, hg0⟩ : ∃ g0, wc.heap.size = g0 := ⟨_, rfl⟩
    have hds2 := HDS.out.new C2
    rw [hg0] at hds2 ⊢
    obtain ⟨w2, hw2⟩ : ∃ w2, wc.alloc (.cells C2 58) = w2 := ⟨_, rfl⟩
    rw [hw2] at hds2 ⊢
    have HR1 : Bx (DS q t (encL T (l.take 0)).2 S w [(g0, C2)] u5 (U ++ (encL T (l.take 0)).1) w2) := ⟨by simpa [encL] using hds2⟩
    clear HDS hg0 hw2 hds2
    go_wp2_with fail
    go_loopg [5, 7] l.length (fun g s5 s7 wx => ∃ k : Nat, k + g = l.length ∧ s7 = .int .i64 k ∧ Bx (DS q t (encL T (l.take k)).2 S w [(g0, C2)] s5 (U ++ (encL T (l.take k)).1) wx))
    case atStart => exact ⟨0, by omega, rfl, HR1⟩
    case round =>
      obtain ⟨k, hkg, rfl, HR⟩ := hrel
      clear HR1
      cases gk with
      | zero =>
        obtain rfl : k = l.length := by omega
        go_wp2_with fail
        go_ret
        rw [HEB.out]
        have hR := HR.out
        rw [List.take_length] at hR
        exact ⟨_, rfl, hR.fin⟩
      | succ g =>
        have hk : k < l.length := by omega
        have hkd : decide ((k : Int) < (l.length : Int)) = true := decide_eq_true (by omega)
        go_upto_block 1 with fail
        go_cut [5] from 55 to 152 (fun s5 wx => Bx (DS q t (encL T (l.take (k + 1))).2 S w [(g0, C2)] s5 (U ++ (encL T (l.take (k + 1))).1) wx))
        case rest =>
          have HR2 := hcut
          clear hcut HR
          go_wp2_with fail
          go_roundg g
          case measure => omega
          case rel => exact ⟨k + 1, by omega, by go_num, HR2⟩
        case first =>
          obtain ⟨b, o, hix, hcs⟩ := HV0.out.at_ k hk
          obtain ⟨hc1, hc2⟩ := hcs wr (HV.out wr HR.out.fp)
          have HFZ := Bx.mk (HZ.out l[k] (List.getElem_mem hk))
          have htk := encL_take T l k hk
          have HTO2 := Bx.mk (HTO.out k hk)
          have HBLK := Bx.mk (HBL.out k)
          have HBK2 := Bx.mk (HBL.out (k + 1))
          obtain ⟨f1, hf1⟩ : ∃ f1, l[k].1 = f1 := ⟨_, rfl⟩
          obtain ⟨f2, hf2⟩ : ∃ f2, l[k].2 = f2 := ⟨_, rfl⟩
          rw [hf1] at hc1
          rw [hf2] at hc2
          rw [show l[k] = (f1, f2) from by rw [← hf1, ← hf2]] at HFZ htk
          obtain ⟨T1, hT1⟩ : ∃ T1, (encL T (l.take k)).2 = T1 := ⟨_, rfl⟩
          obtain ⟨bl, hbl⟩ : ∃ bl, U ++ (encL T (l.take k)).1 = bl := ⟨_, rfl⟩
          have htgt : (encL T (l.take (k + 1))).2 = (encF T1 (f1, f2)).2 ∧ U ++ (encL T (l.take (k + 1))).1 = bl ++ (encF T1 (f1, f2)).1 := by
            rw [htk, hT1]
            exact ⟨rfl, by rw [← hbl, ← List.append_assoc]⟩
          rw [hT1] at HTO2 HR
          rw [hbl] at HBLK HR
          have HTGT := Bx.mk htgt
          have hds3 := HR.out.new #[.string f1, .string f2]
          have HGB : Bx (w.heap.size ≤ wr.heap.size) := ⟨HR.out.size⟩
          obtain ⟨G, hG⟩ : ∃ G, wr.heap.size = G := ⟨_, rfl⟩
          rw [hG] at hds3
          obtain ⟨w3, hw3⟩ : ∃ w3, wr.alloc (.cells #[.string f1, .string f2] 58) = w3 := ⟨_, rfl⟩
          rw [hw3] at hds3
          have H3 := Bx.mk hds3
          have hfi := fun W hW => findIn_any (.slice (some ⟨g0, 0, none⟩) 61 61) T2 (f1, f2) W hW (by rw [t2_len]; omega) t2_nodup
          have hfs := findS_lt T2 (f1, f2)
          rw [t2_len] at hfs
          unfold findV at hfi
          obtain ⟨at_, hat⟩ : ∃ at_, (findS T2 (f1, f2)).1 = at_ := ⟨_, rfl⟩
          obtain ⟨nm, hnm⟩ : ∃ nm, (findS T2 (f1, f2)).2.1 = nm := ⟨_, rfl⟩
          obtain ⟨bo, hbo⟩ : ∃ bo, (findS T2 (f1, f2)).2.2 = bo := ⟨_, rfl⟩
          rw [hat, hnm, hbo] at hfi
          have hat61 : at_ ≤ 60 := by
            rw [← hat]
            rcases hfs with ⟨m, q', hm, e⟩ | e <;> rw [e] <;> simp <;> omega
          have HFI := Bx.mk hfi
          have HFS := Bx.mk (show (findS T2 (f1, f2)).1 = at_ ∧ (findS T2 (f1, f2)).2.1 = nm ∧ (findS T2 (f1, f2)).2.2 = bo from ⟨hat, hnm, hbo⟩)
          have HPFX : Bx (∀ (W : World) (f : UInt8) (n : Int) (v : Nat) (hv : v ≤ 2000000) (bV : Value) (l2 : List UInt8) (hb : OwB W w.heap.size bV l2) (hbl : l2.length ≤ 200000) (hB : w.heap.size ≤ W.heap.size), Calls Try.prog 33 #[bV, .int .u8 f.toNat, .int .i64 n, .int .u64 v] W fun e w' => ∃ v', e = .returned v' ∧ OwB w' w.heap.size v' (l2 ++ pre f (bitsOf n) v) ∧ Below w.heap.size W w' ∧ NonB W w') := ⟨fun W f n v hv bV l2 hb hbl hB => refPrefix_non w.heap.size bV l2 f n v W hb hB hbl (by omega)⟩
          have hx1 : IntKind.u64.wrap ((at_ : Int) + 1) = ((at_ + 1 : Nat) : Int) := by rw [IntKind.wrap_u64]; omega
          clear hf1 hf2 hcs htk hT1 hbl htgt hds3 hfi hfs hat hnm hbo HTO HBL HR HV HV0 HZ hkd
          obtain ⟨hca, hcb⟩ := (H3.out.fb (g := G) (f1 := f1) (f2 := f2) (by simp)).cells
          go_wp2_with fail
          refine (HFI.out w3 (H3.out.fs (by simp))).mono ?_
          rintro e w4 ⟨rfl, b4⟩
          have H4 := Bx.mk (H3.out.keep b4)
          clear H3 HFI b4 hw3 hG hca hcb
          cases bo with
          | true =>
            have HE : Bx (encF T1 (f1, f2) = (pre 128 7 (at_ + 1), T1)) := ⟨by unfold encF; rw [HFS.out.2.2, if_pos rfl, HFS.out.1]⟩
            go_wp2_with fail
            refine (HPFX.out w4 128 7 (at_ + 1) (by omega) _ _ H4.out.own (by have := HBLK.out; omega) H4.out.size).mono ?_
            rintro e w5 ⟨v5, rfl, ho5, b5, n5⟩
            have H5 := Bx.mk (H4.out.byte ho5 b5 n5)
            clear ho5 b5 n5 hx1
            go_wp2_with fail
            go_meet
            rw [HTGT.out.1, HTGT.out.2, HE.out]
            exact ⟨H5.out.sub (by simp)⟩
          | false =>
            have hfd := fun W E (hW : Rt t T1 W E) => refFind_any hW (f1, f2)
            have hft := findT_cases T1.l T1.first (f1, f2)
            unfold find3 at hfd
            obtain ⟨da, hda⟩ : ∃ da, (findT T1.l T1.first (f1, f2)).1 = da := ⟨_, rfl⟩
            obtain ⟨dn, hdn⟩ : ∃ dn, (findT T1.l T1.first (f1, f2)).2.1 = dn := ⟨_, rfl⟩
            obtain ⟨db, hdb⟩ : ∃ db, (findT T1.l T1.first (f1, f2)).2.2 = db := ⟨_, rfl⟩
            rw [hda, hdn, hdb] at hfd
            have HFD : Bx (∀ W, DS q t T1 S w [(G, #[.string f1, .string f2]), (g0, C2)] u5 bl W → Calls Try.prog 36 #[.pointer (some ⟨t, 0, none⟩), .agg #[.string f1, .string f2]] W fun e w' => e = .returned (.tuple #[.int .u64 (da : Int), .bool dn, .bool db]) ∧ Below W.heap.size W w') := ⟨fun W hW => by obtain ⟨E, hE⟩ := hW.rt; exact hfd W E hE⟩
            have HFT := Bx.mk (show (findT T1.l T1.first (f1, f2)).1 = da ∧ (findT T1.l T1.first (f1, f2)).2.1 = dn ∧ (findT T1.l T1.first (f1, f2)).2.2 = db from ⟨hda, hdn, hdb⟩)
            have hlt : dn = true → da < T1.tot := by
              intro hd
              obtain ⟨E, hE⟩ := H4.out.rt
              have hlen := hE.ok.len
              unfold Tab.first at hft
              rw [← hda]
              rw [← hdn] at hd
              unfold Tab.first at hd ⊢
              rcases hft with ⟨a, e, h1, h2⟩ | ⟨a, e, h1, h2⟩ | e
              · rw [e]; simp only; omega
              · rw [e]; simp only; omega
              · rw [e] at hd; simp at hd
            have HLT := Bx.mk hlt
            have HX0 : Bx (∀ W, DS q t T1 S w [(G, #[.string f1, .string f2]), (g0, C2)] u5 bl W → W.cell? ⟨q, 0, none⟩ = some (.pointer (some ⟨t, 0, none⟩)) ∧ W.cell? ⟨G, 0, none⟩ = some (.string f1) ∧ W.cell? ⟨G, 1, none⟩ = some (.string f2)) := ⟨fun W hW => by
              obtain ⟨E, hE⟩ := hW.ec
              exact ⟨hE.cells.1, (hW.fb (g := G) (by simp)).cells⟩⟩
            have hS0 := HX0.out w4.drew (H4.out.keep (Below.refl _ _).drew)
            have H4d := Bx.mk (H4.out.keep (Below.refl w4.heap.size w4).drew)
            clear hfd hft hda hdn hdb hlt hx1
            go_upto_region 15 with fail
            go_cut [12, 13, 14] from 55 to 152 (fun s12 s13 s14 wx => s12 = .int .u64 (da : Int) ∧ s13 = .bool dn ∧ s14 = .bool db ∧ Bx (DS q t T1 S w [(G, #[.string f1, .string f2]), (g0, C2)] u5 bl wx))
            case first =>
              go_region_held (fun W => W.cell? ⟨q, 0, none⟩ = some (.pointer (some ⟨t, 0, none⟩)) ∧ W.cell? ⟨G, 0, none⟩ = some (.string f1) ∧ W.cell? ⟨G, 1, none⟩ = some (.string f2)) (first | assumption) (first
                | (go_at_call 36; refine (HFD.out _ H4d.out).mono ?_; rintro e w5 ⟨rfl, b5⟩; have H5 := Bx.mk (H4d.out.keep b5); have hS5 := HX0.out w5 H5.out))
              all_goals go_wp2_with fail
              all_goals go_meet
              all_goals exact ⟨rfl, rfl, rfl, H5⟩
            case rest =>
              obtain ⟨rfl, rfl, rfl, H5⟩ := hcut
              clear H4 H4d hS0 HFD
              obtain ⟨tot, htot⟩ : ∃ tot, T1.tot = tot := ⟨_, rfl⟩
              obtain ⟨dx, hdx⟩ : ∃ dx, dixT T1 (f1, f2) = dx := ⟨_, rfl⟩
              have hdx2 : dx = if dn = true then 61 + tot - da else 0 := by rw [← hdx, ← htot]; unfold dixT; rw [HFT.out.2.1, HFT.out.1]
              have hdxl : dx ≤ 1000061 := by have h1 := dixT_le (T := T1) (f1, f2); have h2 := HTO2.out; omega
              have HDX := Bx.mk hdx
              have htl : tot ≤ 1000000 := by have h2 := HTO2.out; omega
              have hl2 : dn = true → da < tot := by rw [← htot]; exact HLT.out
              obtain ⟨hq0, ht2⟩ : wc.cell? ⟨q, 0, none⟩ = some (.pointer (some ⟨t, 0, none⟩)) ∧ wc.cell? ⟨t, 2, none⟩ = some (.int .u64 (tot : Int)) := by
                obtain ⟨E, hE⟩ := H5.out.ec
                exact ⟨hE.cells.1, by rw [← htot]; exact hE.tcells.2⟩
              clear htot hdx
              go_upto_if 88 with fail
              go_cut [15] from 55 to 152 (fun s15 wx => s15 = .int .u64 (dx : Int) ∧ wx = wc)
              case first =>
                cases dn with
                | true =>
                  simp only [if_true] at hdx2
                  have hda := hl2 rfl
                  have hx : IntKind.u64.wrap (IntKind.u64.wrap (61 + (tot : Int)) - (da : Int)) = (dx : Int) := by rw [IntKind.wrap_u64, IntKind.wrap_u64]; omega
                  have hx' : IntKind.u64.wrap (61 + (tot : Int) - (da : Int)) = (dx : Int) := by rw [IntKind.wrap_u64]; omega
                  clear hdx2 hda hl2
                  go_wp2_with fail
                  go_meet
                  exact ⟨rfl, rfl⟩
                | false =>
                  simp only [Bool.false_eq_true, if_false] at hdx2
                  subst hdx2
                  go_wp2_with fail
                  go_meet
                  exact ⟨rfl, rfl⟩
              case rest =>
                obtain ⟨rfl, rfl⟩ := hcut
                clear hq0 ht2 hl2 htl hdx2
                cases db with
                | true =>
                  have HE : Bx (encF T1 (f1, f2) = (pre 128 7 dx, T1)) := ⟨by unfold encF; rw [HFS.out.2.2, HFT.out.2.2, HDX.out]; simp⟩
                  go_wp2_with fail
                  refine (HPFX.out _ 128 7 dx (by omega) _ _ H5.out.own (by have := HBLK.out; omega) H5.out.size).mono ?_
                  rintro e w6 ⟨v6, rfl, ho6, b6, n6⟩
                  have H6 := Bx.mk (H5.out.byte ho6 b6 n6)
                  clear ho6 b6 n6
                  go_wp2_with fail
                  go_meet
                  rw [HTGT.out.1, HTGT.out.2, HE.out]
                  exact ⟨H6.out.sub (by simp)⟩
                | false =>
                  have henc := encF_lit (T := T1) (f := (f1, f2)) HFS.out.2.2 HFT.out.2.2
                  obtain ⟨nx, hnx⟩ : ∃ nx, nixT T1 (f1, f2) = nx := ⟨_, rfl⟩
                  have hnx2 : nx = if nm = true then at_ + 1 else dx := by rw [← hnx]; unfold nixT; rw [HFS.out.2.1, HFS.out.1, HDX.out]
                  have hnxl : nx ≤ 1000061 := by rw [hnx2]; split <;> omega
                  obtain ⟨sc, hsc⟩ : ∃ sc, secN f1 = sc := ⟨_, rfl⟩
                  obtain ⟨gt, hgt⟩ : ∃ gt, decide (T1.cap / 2 < fsz (f1, f2) + 32) = gt := ⟨_, rfl⟩
                  obtain ⟨ad, had⟩ : ∃ ad, (!sc && !gt) = ad := ⟨_, rfl⟩
                  rw [hnx] at henc
                  simp only [hsc, hgt, had] at henc
                  have HENC := Bx.mk henc
                  have HGT := Bx.mk hgt
                  have HAD := Bx.mk had
                  have HSEC : Bx (∀ W, Calls Try.prog 26 #[.string f1] W fun e w' => e = .returned (.bool sc) ∧ W = w') := ⟨fun W => hsc ▸ refSecret_any f1 W⟩
                  have hx1 : IntKind.u64.wrap ((at_ : Int) + 1) = ((at_ + 1 : Nat) : Int) := by rw [IntKind.wrap_u64]; omega
                  clear henc hnx hsc hgt had
                  go_upto_if 106 with fail
                  go_cut [15] from 55 to 152 (fun s15 wx => s15 = .int .u64 (nx : Int) ∧ wx = wc)
                  case first =>
                    cases nm with
                    | true =>
                      simp only [if_true] at hnx2
                      subst hnx2
                      go_wp2_with fail
                      go_meet
                      exact ⟨rfl, rfl⟩
                    | false =>
                      simp only [Bool.false_eq_true, if_false] at hnx2
                      subst hnx2
                      go_wp2_with fail
                      go_meet
                      exact ⟨rfl, rfl⟩
                  case rest =>
                    obtain ⟨rfl, rfl⟩ := hcut
                    clear hx1 hnx2 HFT HFS
                    go_upto_block 2 with fail
                    go_cut [5, 16] from 55 to 152 (fun s5 s16 wx => s16 = .bool ad ∧ Bx (DS q t T1 S w [(G, #[.string f1, .string f2]), (g0, C2)] s5 (bl ++ pre (kdF sc gt) (kdK sc gt) nx) wx))
                    case first =>
                      obtain ⟨hca, hcb⟩ := (H5.out.fb (g := G) (f1 := f1) (f2 := f2) (by simp)).cells
                      go_wp2_with fail
                      refine (HSEC.out _).mono ?_
                      rintro e w6' ⟨rfl, rfl⟩
                      cases sc with
                      | true =>
                        obtain rfl : ad = false := by rw [← HAD.out]; rfl
                        clear hca hcb
                        go_wp2_with fail
                        refine (HPFX.out _ 16 4 nx (by omega) _ _ H5.out.own (by have := HBLK.out; omega) H5.out.size).mono ?_
                        rintro e w6 ⟨v6, rfl, ho6, b6, n6⟩
                        have H6 : Bx (DS q t T1 S w [(G, #[.string f1, .string f2]), (g0, C2)] v6 (bl ++ pre (kdF true gt) (kdK true gt) nx) w6) := ⟨H5.out.byte ho6 b6 n6⟩
                        clear ho6 b6 n6
                        go_wp2_with fail
                        go_meet
                        exact ⟨rfl, H6⟩
                      | false =>
                        obtain ⟨cap, hcap⟩ : ∃ cap, T1.cap = cap := ⟨_, rfl⟩
                        obtain ⟨nz, hnz⟩ : ∃ nz, fsz (f1, f2) + 32 = nz := ⟨_, rfl⟩
                        have hgt2 : decide (cap / 2 < nz) = gt := by rw [← hcap, ← hnz]; exact HGT.out
                        have hcl : cap ≤ 1000000 := by obtain ⟨E, hE⟩ := H5.out.rt; rw [← hcap]; exact hE.ok.cap
                        have hgt3 : decide (IntKind.i64.wrap ((cap : Int) / 2) < (nz : Int)) = gt := by rw [← hgt2, show IntKind.i64.wrap ((cap : Int) / 2) = (cap : Int) / 2 by simp only [IntKind.wrap_i64]; omega]; by_cases h0 : cap / 2 < nz <;> simp [h0] <;> omega
                        have HX1 : Bx (∀ W, DS q t T1 S w [(G, #[.string f1, .string f2]), (g0, C2)] u5 bl W → W.cell? ⟨q, 0, none⟩ = some (.pointer (some ⟨t, 0, none⟩)) ∧ W.cell? ⟨G, 0, none⟩ = some (.string f1) ∧ W.cell? ⟨G, 1, none⟩ = some (.string f2) ∧ W.cell? ⟨t, 1, none⟩ = some (.int .i64 (cap : Int))) := ⟨fun W hW => by
                          obtain ⟨E, hE⟩ := hW.ec
                          obtain ⟨a, b⟩ := (hW.fb (g := G) (f1 := f1) (f2 := f2) (by simp)).cells
                          exact ⟨hE.cells.1, a, b, by rw [← hcap]; exact hE.tcells.1⟩⟩
                        have hA0 := (Below.refl wc.heap.size wc).drew.alloc (Nat.le_refl _) (.cells #[.string f1, .string f2] 58)
                        have HA := Bx.mk (H5.out.keep hA0)
                        have HSZ : Bx (Calls Try.prog 37 #[.slice (some ⟨wc.heap.size, 0, none⟩) 1 1] (wc.drew.alloc (.cells #[.string f1, .string f2] 58)) fun e w' => e = .returned (.int .i64 (nz : Int)) ∧ Below (wc.drew.alloc (.cells #[.string f1, .string f2] 58)).heap.size (wc.drew.alloc (.cells #[.string f1, .string f2] 58)) w') := ⟨by
                          have hfs := Fs.lits wc.drew #[.string f1, .string f2] [(f1, f2)] rfl (by simp)
                          have h := refSize_any _ [(f1, f2)] _ hfs (by have := HFZ.out; simp only [sizeF, fsz]; omega)
                          rw [show sizeF [(f1, f2)] = nz by rw [← hnz]; simp [sizeF]] at h
                          exact h⟩
                        have hS0 := HX1.out wc.drew (H5.out.keep (Below.refl _ _).drew)
                        have hS1 := HX1.out _ HA.out
                        clear hcap hnz hgt2 hcl hA0 hca hcb
                        go_wp2_with fail
                        go_region_held (fun W => W.cell? ⟨q, 0, none⟩ = some (.pointer (some ⟨t, 0, none⟩)) ∧ W.cell? ⟨G, 0, none⟩ = some (.string f1) ∧ W.cell? ⟨G, 1, none⟩ = some (.string f2) ∧ W.cell? ⟨t, 1, none⟩ = some (.int .i64 (cap : Int))) (first | assumption) (first
                          | (go_at_call 37; refine (HSZ.out).mono ?_; rintro e w7 ⟨rfl, b7⟩; have H7 := Bx.mk (HA.out.keep b7); have hS7 := HX1.out w7 H7.out))
                        clear hS0 hS1 hS7
                        cases gt with
                        | true =>
                          obtain rfl : ad = false := by rw [← HAD.out]; rfl
                          go_wp2_with fail
                          refine (HPFX.out _ 0 4 nx (by omega) _ _ H7.out.own (by have := HBLK.out; omega) H7.out.size).mono ?_
                          rintro e w6 ⟨v6, rfl, ho6, b6, n6⟩
                          have H6 : Bx (DS q t T1 S w [(G, #[.string f1, .string f2]), (g0, C2)] v6 (bl ++ pre (kdF false true) (kdK false true) nx) w6) := ⟨H7.out.byte ho6 b6 n6⟩
                          clear ho6 b6 n6
                          go_wp2_with fail
                          go_meet
                          exact ⟨rfl, H6⟩
                        | false =>
                          obtain rfl : ad = true := by rw [← HAD.out]; rfl
                          go_wp2_with fail
                          refine (HPFX.out _ 64 6 nx (by omega) _ _ H7.out.own (by have := HBLK.out; omega) H7.out.size).mono ?_
                          rintro e w6 ⟨v6, rfl, ho6, b6, n6⟩
                          have H6 : Bx (DS q t T1 S w [(G, #[.string f1, .string f2]), (g0, C2)] v6 (bl ++ pre (kdF false false) (kdK false false) nx) w6) := ⟨H7.out.byte ho6 b6 n6⟩
                          clear ho6 b6 n6
                          go_wp2_with fail
                          go_meet
                          exact ⟨rfl, H6⟩
                    case rest =>
                      obtain ⟨rfl, H6⟩ := hcut
                      clear H5 HPFX HSEC
                      obtain ⟨zz, hzz⟩ : ∃ zz, ((nx : Int) == 0) = zz := ⟨_, rfl⟩
                      have HZZ : Bx (zz = decide (nx = 0)) := ⟨by rw [← hzz]; by_cases h0 : nx = 0 <;> simp [h0]⟩
                      have HPL := Bx.mk (pre_len (kdF sc gt) (kdK sc gt) nx).2
                      have HPUT : Bx (∀ (W : World) (x : ByteArray) (hx : x.size ≤ 20000) (bV : Value) (l2 : List UInt8) (hb : OwB W w.heap.size bV l2) (hbl : l2.length ≤ 50000) (hB : w.heap.size ≤ W.heap.size), Calls Try.prog 24 #[bV, .int .u8 0, .int .i64 7, .string x] W fun e w' => ∃ v', e = .returned v' ∧ OwB w' w.heap.size v' (l2 ++ putS x.data.toList) ∧ Below w.heap.size W w' ∧ NonB W w') := ⟨fun W x hx bV l2 hb hbl hB => putStr_non w.heap.size bV l2 0 7 (by omega) (by omega) x W hb hB hbl hx⟩
                      obtain ⟨P, hP⟩ : ∃ P, pre (kdF sc gt) (kdK sc gt) nx = P := ⟨_, rfl⟩
                      rw [hP] at H6 HPL
                      obtain ⟨N, hN⟩ : ∃ N, (if nx = 0 then putS f1.data.toList else []) = N := ⟨_, rfl⟩
                      have HNL : Bx (N.length ≤ 20011) := ⟨by
                        have h1 := (strW_len true f1.data.toList).2
                        have e : f1.data.toList.length = f1.size := by simp
                        have h2 := HFZ.out.1
                        unfold strW at h1
                        simp only [if_true] at h1
                        rw [← hN]
                        split
                        · omega
                        · simp⟩
                      have HLW : Bx (bl ++ litW (kdF sc gt) (kdK sc gt) nx true f1.data.toList f2.data.toList = ((bl ++ P) ++ N) ++ putS f2.data.toList) := ⟨by
                        unfold litW strW
                        rw [hP]
                        simp only [if_true]
                        rw [hN]
                        simp only [List.append_assoc]⟩
                      have HN := Bx.mk hN
                      obtain ⟨hca, hcb⟩ := (H6.out.fb (g := G) (f1 := f1) (f2 := f2) (by simp)).cells
                      clear hP hN
                      go_upto_if 137 with fail
                      go_cut [5, 15] from 55 to 152 (fun s5 s15 wx => Bx (DS q t T1 S w [(G, #[.string f1, .string f2]), (g0, C2)] s5 ((bl ++ P) ++ N) wx))
                      case first =>
                        cases zz with
                        | true =>
                          have h0 : nx = 0 := by have := HZZ.out; exact of_decide_eq_true this.symm
                          have HN2 : Bx (N = putS f1.data.toList) := ⟨by rw [← HN.out, if_pos h0]⟩
                          go_wp2_with fail
                          refine (HPUT.out _ f1 HFZ.out.1 _ _ H6.out.own (by have := HBLK.out; have := HPL.out; rw [List.length_append]; omega) H6.out.size).mono ?_
                          rintro e w7 ⟨v7, rfl, ho7, b7, n7⟩
                          rw [← HN2.out] at ho7
                          have H7 := Bx.mk (H6.out.byte ho7 b7 n7)
                          clear ho7 b7 n7
                          go_wp2_with fail
                          go_meet
                          exact H7
                        | false =>
                          have h0 : ¬ nx = 0 := by have := HZZ.out; exact of_decide_eq_false this.symm
                          have HN2 : Bx (N = []) := ⟨by rw [← HN.out, if_neg h0]⟩
                          go_wp2_with fail
                          go_meet
                          rw [HN2.out, List.append_nil]
                          exact H6
                      case rest =>
                        have H7 := hcut
                        clear hcut H6 hzz HZZ hca hcb
                        obtain ⟨hca, hcb⟩ := (H7.out.fb (g := G) (f1 := f1) (f2 := f2) (by simp)).cells
                        go_wp2_with fail
                        refine (HPUT.out _ f2 HFZ.out.2 _ _ H7.out.own (by have h1 := HBK2.out; have h2 := HTGT.out.2; rw [h2, HENC.out] at h1; simp only at h1; rw [HLW.out, List.length_append] at h1; omega) H7.out.size).mono ?_
                        rintro e w8 ⟨v8, rfl, ho8, b8, n8⟩
                        rw [← HLW.out] at ho8
                        have H8 := Bx.mk (H7.out.byte ho8 b8 n8)
                        clear ho8 b8 n8 hca hcb
                        cases ad with
                        | false =>
                          have hE := HENC.out
                          simp only [Bool.false_eq_true, if_false] at hE
                          have HE := Bx.mk hE
                          clear hE
                          go_wp2_with fail
                          go_meet
                          rw [HTGT.out.1, HTGT.out.2, HE.out]
                          exact ⟨H8.out.sub (by simp)⟩
                        | true =>
                          have hE := HENC.out
                          simp only [if_true] at hE
                          have HE := Bx.mk hE
                          have H8d := Bx.mk (H8.out.keep (Below.refl w8.heap.size w8).drew)
                          have HXA : Bx (∀ (TT : Tab) W, DS q t TT S w [(G, #[.string f1, .string f2]), (g0, C2)] v8 (bl ++ litW (kdF sc gt) (kdK sc gt) nx true f1.data.toList f2.data.toList) W → W.cell? ⟨q, 0, none⟩ = some (.pointer (some ⟨t, 0, none⟩)) ∧ W.cell? ⟨G, 0, none⟩ = some (.string f1) ∧ W.cell? ⟨G, 1, none⟩ = some (.string f2)) := ⟨fun TT W hW => by
                            obtain ⟨E, hE⟩ := hW.ec
                            exact ⟨hE.cells.1, (hW.fb (g := G) (by simp)).cells⟩⟩
                          have HADD := Bx.mk (H8d.out.add (f1, f2) (by have := HFZ.out; unfold fsz; simp only; omega) HTO2.out)
                          have hS0 := HXA.out T1 w8.drew H8d.out
                          clear hE
                          go_wp2_with fail
                          go_region_held (fun W => W.cell? ⟨q, 0, none⟩ = some (.pointer (some ⟨t, 0, none⟩)) ∧ W.cell? ⟨G, 0, none⟩ = some (.string f1) ∧ W.cell? ⟨G, 1, none⟩ = some (.string f2)) (first | assumption) (first
                            | (go_at_call 38; refine (HADD.out).mono ?_; rintro e w9 ⟨⟨r9, rfl⟩, h9⟩; have H9 := Bx.mk h9; have hS9 := HXA.out _ w9 h9))
                          all_goals clear hS0 hS9
                          all_goals go_wp2_with fail
                          all_goals go_meet
                          all_goals rw [HTGT.out.1, HTGT.out.2, HE.out]
                          all_goals exact ⟨H9.out.sub (by simp)⟩
end
end Go.Proofs.Ythnaapjefedalaa
