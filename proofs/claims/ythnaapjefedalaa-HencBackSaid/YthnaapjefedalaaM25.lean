/-
  Texts put together: HdF4, HdF5, HdF6, HdF7.
-/
import Derived.Test.YthnaapjefedalaaM24

/-
  The document's Decode: a literal, its name known.
-/
namespace Go.Proofs.Ythnaapjefedalaa
open Go.RowKit Go.Maps
set_option linter.unusedVariables false

section
variable {q t mx : Nat} {mu : Bool} {T0 T1 : Tab} {S : Nat → Prop} {w wx : World} {l : List UInt8} {ss : List Nat} {ad out : List Fd} {c : UInt8} {r : List UInt8} {bw ow : Value}

/-- The slots of a literal, its name known. -/
structure At43 (a : Act) (q : Nat) (bw ow : Value) (ns kb G : Nat) : Prop where
  d : a.defers = []
  s : a.tmps.size = 232
  t0 : a.tmps.getD 0 undef = .pointer (some ⟨q, 0, none⟩)
  t1 : a.tmps.getD 1 undef = bw
  t6 : a.tmps.getD 6 undef = ow
  t7 : a.tmps.getD 7 undef = .int .i64 (ns : Int)
  t17 : a.tmps.getD 17 undef = .int .i64 (kb : Int)
  t21 : a.tmps.getD 21 undef = .pointer (some ⟨G, 0, none⟩)
/-- The name is known. -/
def Named (q t mx : Nat) (mu : Bool) (S : Nat → Prop) (w : World) (T1 : Tab) (ss : List Nat) (out : List Fd) (b : List UInt8) (ow : Value) (kb G : Nat) (a' : Act) (w' : World) : Prop :=
  ∃ nm r2 bw2, At43 a' q bw2 ow ss.length kb G ∧ nameP kb T1.l b = some (nm, r2) ∧ Dg q t mx mu S w T1 out r2 bw2 ow G (nm, ⟨#[]⟩) w' ∧ r2.length ≤ 100000
/-- What a literal comes to. -/
def LitIs (mx : Nat) (mu : Bool) (T1 : Tab) (ss : List Nat) (ad out : List Fd) (b : List UInt8) (cn kb : Nat) : Prop :=
  (if 64 ≤ cn then 6 else 4) = kb ∧ lstep mx mu ⟨T1, ss, ad, out, b⟩ = match litP kb T1.l b with
    | none => none
    | some (f, r') => if 64 ≤ cn then some ⟨T1.add f, ss, ad ++ [f], out ++ [f], r'⟩ else some ⟨T1, ss, ad, out ++ [f], r'⟩

set_option maxRecDepth 100000 in
set_option maxHeartbeats 40000000 in
/-- A literal, its name known. -/
theorem value_any {wo : World} {bo : Value} {cn kb G : Nat} {nm : ByteArray} {r2 : List UInt8} (a : Act) (hA : At43 a q bw ow ss.length kb G) (hR : Rel q t mx mu T0 S w l T1 ss ad out (c :: r) bo ow wo) (h64 : out.length < 64)
    (hlit : LitIs mx mu T1 ss ad out (c :: r) cn kb) (hname : nameP kb T1.l (c :: r) = some (nm, r2)) (hG : Dg q t mx mu S w T1 out r2 bw ow G (nm, ⟨#[]⟩) wx) (hl2 : r2.length ≤ 100000) :
    Code.wp Try.prog (dfrom 43) (Kx (Goes q t mx mu T0 S w l (c :: r).length) (Fails q t mx mu T0 S w l) (fun _ _ _ => False)) a wx := by
  obtain ⟨ns, hns⟩ : ∃ ns, ss.length = ns := ⟨_, rfl⟩
  rw [hns] at hA
  have HNS := Bx.mk hns
  have HR := Bx.mk hR
  have HLIT := Bx.mk hlit
  have HNM := Bx.mk hname
  have HG2 := Bx.mk hG
  have HLO := Bx.mk h64
  have HLR2 := Bx.mk hl2
  have hcall := strBits_any bw r2 7 wx (by omega) (by omega) hG.dr.bytes (by omega)
  obtain ⟨u, hu, ha⟩ := dframe a hA.s hA.d
  have h0 := (hu 0).symm.trans hA.t0
  have h1 := (hu 1).symm.trans hA.t1
  have h6 := (hu 6).symm.trans hA.t6
  have h7 := (hu 7).symm.trans hA.t7
  have h17 := (hu 17).symm.trans hA.t17
  have h21 := (hu 21).symm.trans hA.t21
  rw [ha]
  clear ha hA
  rw [h0, h1, h6, h7, h17, h21]
  clear h0 h1 h6 h7 h17 h21 hu
  conv => arg 2; whnf
  clear hns hR hlit hname hG hl2 h64
  cases ht : txtP r2 with
  | none =>
    obtain ⟨er, he, hsb⟩ := txtP_none ht
    have HBAD := Bx.mk (HR.out.none_ (by simp) (by rw [HLIT.out.2]; unfold litP; rw [HNM.out]; simp only; rw [ht]))
    rw [hsb] at hcall
    unfold AnsS at hcall
    dsimp only at hcall
    have HCALL2 := Bx.mk hcall
    have hne : (er == 0) = false := by simpa using he
    clear hcall hsb ht
    go_wp2_with fail
    refine HCALL2.out.mono ?_
    rintro e w2 ⟨rfl, hb2⟩
    have HR2 := Bx.mk (HG2.out.dr.keep hb2)
    clear hb2
    go_wp2_with fail
    refine (HR2.out.bad HBAD.out).mono ?_
    rintro e w9 ⟨rfl, hp⟩
    go_wp2_with fail
    exact Kx.ret ⟨rfl, rfl, rfl, hp⟩
  | some pq =>
    obtain ⟨vl, r3⟩ := pq
    obtain ⟨sB, m2, hsb, hnm, hr3, hm21, hm2l, _⟩ := txtP_some ht
    have hlit : litP kb T1.l (c :: r) = some ((nm, vl), r3) := by unfold litP; rw [HNM.out]; simp only; rw [ht]
    have HSL2 : Bx (lstep mx mu ⟨T1, ss, ad, out, c :: r⟩ = if 64 ≤ cn then some ⟨T1.add (nm, vl), ss, ad ++ [(nm, vl)], out ++ [(nm, vl)], r3⟩ else some ⟨T1, ss, ad, out ++ [(nm, vl)], r3⟩) := ⟨by rw [HLIT.out.2, hlit]⟩
    have HFS := Bx.mk (litP_some (by have := HR.out.inv.gd; exact Nat.le_trans this.2 this.1) hlit).1
    rw [hsb] at hcall
    unfold AnsS at hcall
    dsimp only at hcall
    rw [← hnm] at hcall
    have HCALL2 := Bx.mk hcall
    obtain ⟨bw3, hsl3, hbs3⟩ := HG2.out.dr.bytes.from_ (m2 : Int) (by omega) (by omega)
    rw [Int.toNat_natCast, ← hr3] at hbs3
    have HBS3 := Bx.mk hbs3
    clear hcall hsb ht hbs3 hr3 hm2l hm21 hnm hlit
    go_wp2_with fail
    refine HCALL2.out.mono ?_
    rintro e w2 ⟨rfl, hb2⟩
    have HG3 := Bx.mk (HG2.out.keep hb2)
    have HG4 := Bx.mk ((HG3.out.put1 vl).rest HBS3.out)
    obtain ⟨g1, g2⟩ := HG3.out.fb.cells
    obtain ⟨gf1, gf2⟩ := HG3.out.fb.free
    obtain ⟨k1, k2⟩ := HG4.out.fb.cells
    obtain ⟨A, nA, cA, w3, hrun3, hg3⟩ := (HG4.out.keep ((Below.refl _ _).alloc (Nat.le_refl _) (.cells #[.string nm, .string vl] 58))).push (Fs.one _ w2.heap.size (by simp [World.setCell]) (nm, vl)) (by have := HLO.out; omega) 31
    have HG5 := Bx.mk hg3
    clear hb2 hg3
    by_cases h64c : 64 ≤ cn
    · obtain rfl : 6 = kb := by have := HLIT.out.1; rw [if_pos h64c] at this; exact this
      have hst := HSL2.out
      rw [if_pos h64c] at hst
      have HST := Bx.mk hst
      have HTT : Bx (T1.tot + 1 ≤ 1000000) := ⟨by
        have h1 := HR.out.tot
        have h2 := HR.out.inv.tot
        have h3 := HR.out.inv.adds
        have h4 := HLO.out
        simp only at h2 h3
        omega⟩
      obtain ⟨d0, _⟩ := (HG5.out.keep (Below.refl _ _).drew).dr.cells
      obtain ⟨l1, l2⟩ := (HG5.out.keep (Below.refl _ _).drew).fb.cells
      clear hst
      go_wp2_with (at_builtin; refine wpList_append_run rfl _ _ 31 rfl _ _ rfl rfl hrun3 ?_)
      go_region_with (go_at_call 38
                      refine ((HG5.out.keep (Below.refl _ _).drew).dr.add nm vl HFS.out HTT.out).mono ?_
                      rintro e w4 ⟨⟨gg, rfl⟩, hr4⟩
                      have HR4 := Bx.mk (HR.out.next (by simp) HST.out hr4)
                      clear hr4)
      all_goals go_wp2_with fail
      all_goals exact Kx.norm ⟨_, _, _, _, _, _, _, ⟨rfl, rfl, rfl, rfl, rfl, by rw [HNS.out]; rfl⟩, HR4.out.1, HR4.out.2⟩
    · obtain rfl : 4 = kb := by have := HLIT.out.1; rw [if_neg h64c] at this; exact this
      have hst := HSL2.out
      rw [if_neg h64c] at hst
      have HR5 := Bx.mk (HR.out.next (by simp) hst HG5.out.dr)
      clear hst
      go_wp2_with (at_builtin; refine wpList_append_run rfl _ _ 31 rfl _ _ rfl rfl hrun3 ?_)
      exact Kx.norm ⟨_, _, _, _, _, _, _, ⟨rfl, rfl, rfl, rfl, rfl, by rw [HNS.out]; rfl⟩, HR5.out.1, HR5.out.2⟩
end

end Go.Proofs.Ythnaapjefedalaa

/-
  The document's Decode: a literal's name.
-/
namespace Go.Proofs.Ythnaapjefedalaa
open Go.RowKit Go.Maps
set_option linter.unusedVariables false

section
variable {q t mx : Nat} {mu : Bool} {T0 T1 : Tab} {S : Nat → Prop} {w wx : World} {l : List UInt8} {ss : List Nat} {ad out : List Fd} {c : UInt8} {r : List UInt8} {bw ow : Value}

set_option maxRecDepth 100000 in
set_option maxHeartbeats 40000000 in
/-- A literal's name. -/
theorem name_any {wo : World} {bo : Value} {cn kb G i : Nat} {r1 : List UInt8} (a : Act) (hA : At43 a q bw ow ss.length kb G) (hI : a.tmps.getD 18 undef = .int .u64 (i : Int)) (hR : Rel q t mx mu T0 S w l T1 ss ad out (c :: r) bo ow wo)
    (hlit : LitIs mx mu T1 ss ad out (c :: r) cn kb) (hn : numP kb (c :: r) = some (i, r1)) (hG : Dg q t mx mu S w T1 out r1 bw ow G emp wx) (hl1 : r1.length ≤ 100000) (hiv : i ≤ maxVar)
    (h154 : a.tmps.getD 154 undef = .bool (decide (0 < i))) :
    Code.wp Try.prog (dcond 154) (Kx (Named q t mx mu S w T1 ss out (c :: r) ow kb G) (Fails q t mx mu T0 S w l) (fun _ _ _ => False)) a wx := by
  have HNAME : Bx (nameP kb T1.l (c :: r) = if i = 0 then txtP r1 else if idxB T1.l i = true then some ((idxF T1.l i).1, r1) else none) := ⟨by unfold nameP; rw [hn]⟩
  obtain ⟨ns, hns⟩ : ∃ ns, ss.length = ns := ⟨_, rfl⟩
  rw [hns] at hA
  have HNS := Bx.mk hns
  have HR := Bx.mk hR
  have HLIT := Bx.mk hlit
  have HG1 := Bx.mk hG
  have HLR1 := Bx.mk hl1
  have HNV := Bx.mk hiv
  obtain ⟨g1, g2⟩ := hG.fb.cells
  obtain ⟨gf1, gf2⟩ := hG.fb.free
  obtain ⟨u, hu, ha⟩ := dframe a hA.s hA.d
  have h0 := (hu 0).symm.trans hA.t0
  have h1 := (hu 1).symm.trans hA.t1
  have h6 := (hu 6).symm.trans hA.t6
  have h7 := (hu 7).symm.trans hA.t7
  have h17 := (hu 17).symm.trans hA.t17
  have h21 := (hu 21).symm.trans hA.t21
  have h18 := (hu 18).symm.trans hI
  have h154 := (hu 154).symm.trans h154
  rw [ha]
  clear ha hA
  rw [h0, h1, h6, h7, h17, h21, h18, h154]
  clear h0 h1 h6 h7 h17 h21 h18 h154 hu
  conv => arg 2; whnf
  clear hns hR hlit hG hl1 hn hiv
  by_cases hi0 : i = 0
  · subst hi0
    have hcall := strBits_any bw r1 7 wx (by omega) (by omega) HG1.out.dr.bytes (by have := HLR1.out; omega)
    cases ht : txtP r1 with
    | none =>
      obtain ⟨er, he, hsb⟩ := txtP_none ht
      have HBAD := Bx.mk (HR.out.none_ (by simp) (by rw [HLIT.out.2]; unfold litP; rw [HNAME.out, if_pos rfl, ht]))
      rw [hsb] at hcall
      unfold AnsS at hcall
      dsimp only at hcall
      have HCALL2 := Bx.mk hcall
      have hne : (er == 0) = false := by simpa using he
      clear hcall hsb ht
      go_wp2_with fail
      refine HCALL2.out.mono ?_
      rintro e w2 ⟨rfl, hb2⟩
      have HR2 := Bx.mk (HG1.out.dr.keep hb2)
      clear hb2
      go_wp2_with fail
      refine (HR2.out.bad HBAD.out).mono ?_
      rintro e w9 ⟨rfl, hp⟩
      go_wp2_with fail
      exact Kx.ret ⟨rfl, rfl, rfl, hp⟩
    | some pq =>
      obtain ⟨nm, r2⟩ := pq
      obtain ⟨sB, m2, hsb, hnm, hr2, hm21, hm2l, _⟩ := txtP_some ht
      rw [hsb] at hcall
      unfold AnsS at hcall
      dsimp only at hcall
      rw [← hnm] at hcall
      have HCALL2 := Bx.mk hcall
      obtain ⟨bw2, hsl2, hbs2⟩ := HG1.out.dr.bytes.from_ (m2 : Int) (by omega) (by omega)
      rw [Int.toNat_natCast, ← hr2] at hbs2
      have HBS2 := Bx.mk hbs2
      have HNM2 : Bx (nameP kb T1.l (c :: r) = some (nm, r2)) := ⟨by rw [HNAME.out, if_pos rfl, ht]⟩
      have HLR2 : Bx (r2.length ≤ 100000) := ⟨by rw [hr2]; have := HLR1.out; simp only [List.length_drop]; omega⟩
      clear hcall hsb ht hbs2 hr2 hm2l hm21 hnm
      go_wp2_with fail
      refine HCALL2.out.mono ?_
      rintro e w2 ⟨rfl, hb2⟩
      have HG2 := Bx.mk (HG1.out.keep hb2)
      have HG3 := Bx.mk ((HG2.out.put0 nm).rest HBS2.out)
      clear hb2 g1 g2 gf1 gf2
      obtain ⟨g1, g2⟩ := HG2.out.fb.cells
      obtain ⟨gf1, gf2⟩ := HG2.out.fb.free
      go_wp2_with fail
      exact Kx.norm ⟨nm, r2, bw2, ⟨rfl, rfl, rfl, rfl, rfl, by rw [HNS.out]; rfl, rfl, rfl⟩, HNM2.out, HG3.out, HLR2.out⟩
  · have hdi : decide (0 < i) = true := decide_eq_true (by omega)
    obtain ⟨f, hf⟩ : ∃ f, idxF T1.l i = f := ⟨_, rfl⟩
    obtain ⟨f1, f2⟩ := f
    have HF := Bx.mk hf
    clear hf
    cases hib : idxB T1.l i with
    | false =>
      have HBAD := Bx.mk (HR.out.none_ (by simp) (by rw [HLIT.out.2]; unfold litP; rw [HNAME.out, if_neg hi0, if_neg (by rw [hib]; simp)]))
      have HIB := Bx.mk hib
      clear hib
      go_wp2_with fail
      refine (HG1.out.dr.entry i HNV.out).mono ?_
      rintro e w2 ⟨rfl, hb2⟩
      rw [HF.out, HIB.out, show aggF (f1, f2) = .agg #[.string f1, .string f2] from rfl]
      have HR2 := Bx.mk ((HG1.out.dr.keep hb2).keep ((Below.refl w2.heap.size w2).alloc (Nat.le_refl _) (.cells #[.string f1, .string f2] 58)))
      clear hb2
      go_wp2_with fail
      refine (HR2.out.bad HBAD.out).mono ?_
      rintro e w9 ⟨rfl, hp⟩
      go_wp2_with fail
      exact Kx.ret ⟨rfl, rfl, rfl, hp⟩
    | true =>
      have HIB := Bx.mk hib
      have HNM2 : Bx (nameP kb T1.l (c :: r) = some (f1, r1)) := ⟨by rw [HNAME.out, if_neg hi0, if_pos hib, HF.out]⟩
      clear hib
      go_wp2_with fail
      refine (HG1.out.dr.entry i HNV.out).mono ?_
      rintro e w2 ⟨rfl, hb2⟩
      rw [HF.out, HIB.out, show aggF (f1, f2) = .agg #[.string f1, .string f2] from rfl]
      have HG2 := Bx.mk ((HG1.out.keep hb2).keep ((Below.refl w2.heap.size w2).alloc (Nat.le_refl _) (.cells #[.string f1, .string f2] 58)))
      have HG3 := Bx.mk (HG2.out.put0 f1)
      clear hb2 g1 g2 gf1 gf2
      obtain ⟨g1, g2⟩ := HG2.out.fb.cells
      obtain ⟨gf1, gf2⟩ := HG2.out.fb.free
      have HF2 := Bx.mk (Fb.new 58 w2 (f1, f2))
      obtain ⟨e1, e2⟩ := HF2.out.cells
      go_wp2_with fail
      exact Kx.norm ⟨f1, r1, bw, ⟨rfl, rfl, rfl, rfl, rfl, by rw [HNS.out]; rfl, rfl, rfl⟩, HNM2.out, HG3.out, HLR1.out⟩
end

end Go.Proofs.Ythnaapjefedalaa

/-
  The document's Decode: a literal.
-/
namespace Go.Proofs.Ythnaapjefedalaa
open Go.RowKit Go.Maps
set_option linter.unusedVariables false

section
variable {q t mx : Nat} {mu : Bool} {T0 T1 : Tab} {S : Nat → Prop} {w wx : World} {l : List UInt8} {ss : List Nat} {ad out : List Fd} {c : UInt8} {r : List UInt8} {bw ow : Value}

set_option maxRecDepth 100000 in
set_option maxHeartbeats 40000000 in
/-- A literal. -/
theorem lit_any {cn kb : Nat} (a : Act) (hA : At15 a q bw ow ss.length) (hK : a.tmps.getD 17 undef = .int .i64 (kb : Int)) (hR : Rel q t mx mu T0 S w l T1 ss ad out (c :: r) bw ow wx) (h64 : out.length < 64) (hlit : LitIs mx mu T1 ss ad out (c :: r) cn kb) :
    Code.wp Try.prog (dfrom 28) (Kx (Goes q t mx mu T0 S w l (c :: r).length) (Fails q t mx mu T0 S w l) (fun _ _ _ => False)) a wx := by
  obtain ⟨ns, hns⟩ : ∃ ns, ss.length = ns := ⟨_, rfl⟩
  rw [hns] at hA
  have HNS := Bx.mk hns
  have HR := Bx.mk hR
  have HLIT := Bx.mk hlit
  have HLO := Bx.mk h64
  have hkb : kb = 6 ∨ kb = 4 := by rw [← hlit.1]; split <;> simp
  have hcall := refReadPrefix_any bw (c :: r) (kb : Int) wx hR.dr.bytes (by have := hR.len; omega)
  rw [show bitsOf (kb : Int) = kb by unfold bitsOf; omega] at hcall
  obtain ⟨u, hu, ha⟩ := dframe a hA.s hA.d
  have h0 := (hu 0).symm.trans hA.t0
  have h1 := (hu 1).symm.trans hA.t1
  have h6 := (hu 6).symm.trans hA.t6
  have h7 := (hu 7).symm.trans hA.t7
  have h17 := (hu 17).symm.trans hK
  rw [ha]
  clear ha hA
  rw [h0, h1, h6, h7, h17]
  clear h0 h1 h6 h7 h17 hu
  conv => arg 2; whnf
  clear hns hR hlit h64 hkb
  cases hn : numP kb (c :: r) with
  | none =>
    obtain ⟨er, he, hrp⟩ := numP_none hn
    have HBAD := Bx.mk (HR.out.none_ (by simp) (by rw [HLIT.out.2]; unfold litP nameP; rw [hn]))
    rw [hrp] at hcall
    unfold Ans3 at hcall
    dsimp only at hcall
    have HCALL := Bx.mk hcall
    have hne : (er == 0) = false := by simpa using he
    clear hcall hrp hn
    go_wp2_with fail
    refine HCALL.out.mono ?_
    rintro e w1 ⟨rfl, rfl⟩
    go_wp2_with fail
    refine (HR.out.dr.bad HBAD.out).mono ?_
    rintro e w9 ⟨rfl, hp⟩
    go_wp2_with fail
    exact Kx.ret ⟨rfl, rfl, rfl, hp⟩
  | some pr =>
    obtain ⟨i, r1⟩ := pr
    obtain ⟨m, hrp, hr1, hm1, hml, hnv⟩ := numP_some hn
    rw [hrp] at hcall
    unfold Ans3 at hcall
    dsimp only at hcall
    have HCALL := Bx.mk hcall
    obtain ⟨bw1, hsl, hbs⟩ := HR.out.dr.bytes.from_ (m : Int) (by omega) (by omega)
    rw [Int.toNat_natCast, ← hr1] at hbs
    have HG1 := Bx.mk (Dg.of (HR.out.dr.rest hbs))
    have HN := Bx.mk hn
    have HNV := Bx.mk hnv
    have HLR1 : Bx (r1.length ≤ 100000) := ⟨by rw [hr1]; have := HR.out.len; simp only [List.length_drop] at *; omega⟩
    clear hcall hrp hn hbs hr1 hml hnv hm1
    go_wp2_with fail
    refine HCALL.out.mono ?_
    rintro e w1 ⟨rfl, rfl⟩
    go_upto_if 154 with fail
    refine Kx.use (name_any (ow := ow) (bw := bw1) (kb := kb) (i := i) (G := wx.heap.size) _ ⟨rfl, rfl, rfl, rfl, rfl, by rw [HNS.out]; rfl, rfl, rfl⟩ rfl HR.out HLIT.out HN.out HG1.out HLR1.out HNV.out ?_) ?_ ?_ ?_
    · rfl
    · rintro a2 w2 ⟨nm, r2, bw2, hA2, hnm, hG2, hl2⟩
      rename_i hKq
      refine hKq _ _ ?_
      refine Kx.use (value_any a2 hA2 HR.out HLO.out HLIT.out hnm hG2 hl2) ?_ ?_ ?_
      · intro a3 w3 h; exact h
      · intro a3 w3 h; exact h
      · intro i a3 w3 h; exact h.elim
    · intro a2 w2 h; exact h
    · intro i a2 w2 h; exact h.elim
end

end Go.Proofs.Ythnaapjefedalaa

/-
  The document's Decode: one round of its loop.
-/
namespace Go.Proofs.Ythnaapjefedalaa
open Go.RowKit Go.Maps
set_option linter.unusedVariables false

section
variable {q t mx : Nat} {mu : Bool} {T0 T1 : Tab} {S : Nat → Prop} {w wx : World} {l : List UInt8} {ss : List Nat} {ad out : List Fd} {c : UInt8} {r : List UInt8} {bw ow : Value}

set_option maxRecDepth 100000 in
set_option maxHeartbeats 40000000 in
/-- The fields' lines. -/
theorem hfields_any {cn : Nat} (a : Act) (hA : At15 a q bw ow ss.length) (h8 : a.tmps.getD 8 undef = .int .u8 (cn : Int)) (hR : Rel q t mx mu T0 S w l T1 ss ad out (c :: r) bw ow wx) (hc : cn < 256) (hhead : headN (c :: r) = cn)
    (hst : lstep mx mu ⟨T1, ss, ad, out, c :: r⟩ = if 64 ≤ out.length then none else fdStep ⟨T1, ss, ad, out, c :: r⟩) :
    Code.wp Try.prog (dstmt 16) (Kx (Goes q t mx mu T0 S w l (c :: r).length) (Fails q t mx mu T0 S w l) (fun i a' w' => i = 1 ∧ Goes q t mx mu T0 S w l (c :: r).length a' w')) a wx := by
  obtain ⟨ns, hns⟩ : ∃ ns, ss.length = ns := ⟨_, rfl⟩
  rw [hns] at hA
  have HNS := Bx.mk hns
  have HR := Bx.mk hR
  have HC := Bx.mk hc
  have HHD := Bx.mk hhead
  have HST := Bx.mk hst
  have hk128 : bits .and .u8 (cn : Int) 128 = ((cn &&& 128 : Nat) : Int) := u8_mask cn 128 hc (by omega)
  have hk64 : bits .and .u8 (cn : Int) 64 = ((cn &&& 64 : Nat) : Int) := u8_mask cn 64 hc (by omega)
  have hleno := fun ty W => hR.dr.st.fs.run_len ty W
  obtain ⟨no, hno⟩ : ∃ no, out.length = no := ⟨_, rfl⟩
  rw [hno] at hleno
  have HNO := Bx.mk hno
  obtain ⟨u, hu, ha⟩ := dframe a hA.s hA.d
  have h0 := (hu 0).symm.trans hA.t0
  have h1 := (hu 1).symm.trans hA.t1
  have h6 := (hu 6).symm.trans hA.t6
  have h7 := (hu 7).symm.trans hA.t7
  have h8 := (hu 8).symm.trans h8
  rw [ha]
  clear ha hA
  rw [h0, h1, h6, h7, h8]
  clear h0 h1 h6 h7 h8 hu
  conv => arg 2; whnf
  clear hno hns hR hhead hst
  by_cases h64 : 64 ≤ no
  · have HBAD := Bx.mk (HR.out.none_ (by simp) (by rw [HST.out, if_pos (by rw [HNO.out]; exact h64)]))
    have hd64 : decide ((64 : Int) ≤ (no : Int)) = true := decide_eq_true (by omega)
    go_wp2_with fail
    refine (HR.out.dr.bad HBAD.out).mono ?_
    rintro e w9 ⟨rfl, hp⟩
    go_wp2_with fail
    exact Kx.ret ⟨rfl, rfl, rfl, hp⟩
  · have hd64 : decide ((64 : Int) ≤ (no : Int)) = false := decide_eq_false (by omega)
    have HLO : Bx (out.length < 64) := ⟨by rw [HNO.out]; omega⟩
    have HST2 : Bx (lstep mx mu ⟨T1, ss, ad, out, c :: r⟩ = fdStep ⟨T1, ss, ad, out, c :: r⟩) := ⟨by rw [HST.out, if_neg (by rw [HNO.out]; exact h64)]⟩
    by_cases h128 : 128 ≤ cn
    · have hk : bits .and .u8 (cn : Int) 128 = 128 := by rw [hk128, and_128 cn hc h128]; rfl
      have HST3 : Bx (lstep mx mu ⟨T1, ss, ad, out, c :: r⟩ = ixStep ⟨T1, ss, ad, out, c :: r⟩) := ⟨by
        rw [HST2.out]; unfold fdStep
        rw [if_pos (by show 128 ≤ headN (c :: r); rw [HHD.out]; exact h128)]⟩
      clear hk128 hk64 h128 hc
      go_upto_if 104 with fail
      refine wp_cond_true rfl ?_
      refine Kx.use (ix_any (ow := ow) (bw := bw) _ ⟨rfl, rfl, rfl, rfl, rfl, by rw [HNS.out]; rfl⟩ HR.out HST3.out HLO.out) ?_ ?_ ?_
      · intro a2 w2 h; exact h.elim
      · intro a2 w2 h; exact h
      · intro i a2 w2 h; exact h
    · have hk : bits .and .u8 (cn : Int) 128 = 0 := by rw [hk128, and_128' cn (by omega)]; rfl
      obtain ⟨kb, hkb⟩ : ∃ kb : Nat, (if 64 ≤ cn then 6 else 4) = kb := ⟨_, rfl⟩
      have HLIT : Bx (LitIs mx mu T1 ss ad out (c :: r) cn kb) := ⟨hkb, by rw [HST2.out]; exact lit_step HHD.out h128 hkb⟩
      clear hk128 hc
      by_cases h64c : 64 ≤ cn
      · have hk6 : bits .and .u8 (cn : Int) 64 = 64 := by rw [hk64, and_64 cn (by omega) h64c]; rfl
        obtain rfl : 6 = kb := by rw [if_pos h64c] at hkb; exact hkb
        clear hk64 h64c h128 hkb
        go_upto_if 136 with fail
        rename_i hKq
        have HK := Bx.mk hKq
        clear hKq
        go_wp2_with fail
        refine HK.out _ _ ?_
        refine Kx.use (lit_any (ow := ow) (bw := bw) (kb := 6) _ ⟨rfl, rfl, rfl, rfl, rfl, by rw [HNS.out]; rfl⟩ rfl HR.out HLO.out HLIT.out) ?_ ?_ ?_
        · intro a2 w2 h; exact h
        · intro a2 w2 h; exact h
        · intro i a2 w2 h; exact h.elim
      · have hk6 : bits .and .u8 (cn : Int) 64 = 0 := by rw [hk64, and_64' cn (by omega)]; rfl
        obtain rfl : 4 = kb := by rw [if_neg h64c] at hkb; exact hkb
        clear hk64 h64c h128 hkb
        go_upto_if 136 with fail
        rename_i hKq
        have HK := Bx.mk hKq
        clear hKq
        go_wp2_with fail
        refine HK.out _ _ ?_
        refine Kx.use (lit_any (ow := ow) (bw := bw) (kb := 4) _ ⟨rfl, rfl, rfl, rfl, rfl, by rw [HNS.out]; rfl⟩ rfl HR.out HLO.out HLIT.out) ?_ ?_ ?_
        · intro a2 w2 h; exact h
        · intro a2 w2 h; exact h
        · intro i a2 w2 h; exact h.elim

set_option maxRecDepth 100000 in
set_option maxHeartbeats 40000000 in
/-- One round of the loop, no line is left. -/
theorem roundN_any (a : Act) (hA : At15 a q bw ow ss.length) (hR : Rel q t mx mu T0 S w l T1 ss ad out [] bw ow wx) :
    Code.wp Try.prog dloop (Kx (fun _ _ => False) (fun _ _ => False) (fun i a' w' => i = 0 ∧ At15 a' q bw ow ss.length ∧ w' = wx)) a wx := by
  obtain ⟨ns, hns⟩ : ∃ ns, ss.length = ns := ⟨_, rfl⟩
  rw [hns] at hA
  have HNS := Bx.mk hns
  have hlenb := fun ty W => hR.dr.bytes.run_len ty W
  obtain ⟨u, hu, ha⟩ := dframe a hA.s hA.d
  have h0 := (hu 0).symm.trans hA.t0
  have h1 := (hu 1).symm.trans hA.t1
  have h6 := (hu 6).symm.trans hA.t6
  have h7 := (hu 7).symm.trans hA.t7
  rw [ha]
  clear ha hA
  rw [h0, h1, h6, h7]
  clear h0 h1 h6 h7 hu
  conv => arg 2; whnf
  clear hns hR
  go_wp2_with fail
  exact Kx.exit ⟨rfl, ⟨rfl, rfl, rfl, rfl, rfl, by rw [HNS.out]; rfl⟩, rfl⟩

set_option maxRecDepth 100000 in
set_option maxHeartbeats 40000000 in
/-- One round of the loop, a line is left. -/
theorem roundC_any (a : Act) (hA : At15 a q bw ow ss.length) (hR : Rel q t mx mu T0 S w l T1 ss ad out (c :: r) bw ow wx) :
    Code.wp Try.prog dloop (Kx (Goes q t mx mu T0 S w l (c :: r).length) (Fails q t mx mu T0 S w l) (fun _ _ _ => False)) a wx := by
  obtain ⟨ns, hns⟩ : ∃ ns, ss.length = ns := ⟨_, rfl⟩
  rw [hns] at hA
  have HNS := Bx.mk hns
  have HR := Bx.mk hR
  obtain ⟨d0, d1, d2, d3⟩ := hR.dr.cells
  have hlenb := fun ty W => hR.dr.bytes.run_len ty W
  have hc := c.toNat_lt
  obtain ⟨p, hix, hcp⟩ := hR.dr.bytes.at_ 0 (by simp)
  have hcell := hcp wx hR.dr.bytes
  simp only [List.getElem_cons_zero] at hcell
  obtain ⟨m1, m2, m3⟩ := mask_facts c.toNat hc
  have hk224 : bits .and .u8 (c.toNat : Int) 224 = ((c.toNat &&& 224 : Nat) : Int) := u8_mask c.toNat 224 hc (by omega)
  have hk128 : bits .and .u8 (c.toNat : Int) 128 = ((c.toNat &&& 128 : Nat) : Int) := u8_mask c.toNat 128 hc (by omega)
  have hk64 : bits .and .u8 (c.toNat : Int) 64 = ((c.toNat &&& 64 : Nat) : Int) := u8_mask c.toNat 64 hc (by omega)
  have hix0 : ∀ W : World, (Instr.indexAt 33 bw (.int .i64 0)).run Try.prog W = .ok (.pointer (some p)) W := hix
  obtain ⟨nl, hnl⟩ : ∃ nl, (c :: r).length = nl := ⟨_, rfl⟩
  have hnl0 : 0 < nl := by rw [← hnl]; simp
  rw [hnl] at hlenb
  have HNL := Bx.mk hnl
  have hdl : decide ((0 : Int) < (nl : Int)) = true := decide_eq_true (by omega)
  have hdl' : decide (0 < nl) = true := decide_eq_true hnl0
  have hleno := fun ty W => hR.dr.st.fs.run_len ty W
  obtain ⟨no, hno⟩ : ∃ no, out.length = no := ⟨_, rfl⟩
  rw [hno] at hleno
  have HNO := Bx.mk hno
  have hhead : headN (c :: r) = c.toNat := rfl
  obtain ⟨u, hu, ha⟩ := dframe a hA.s hA.d
  have h0 := (hu 0).symm.trans hA.t0
  have h1 := (hu 1).symm.trans hA.t1
  have h6 := (hu 6).symm.trans hA.t6
  have h7 := (hu 7).symm.trans hA.t7
  rw [ha]
  clear ha hA
  rw [h0, h1, h6, h7]
  clear h0 h1 h6 h7 hu
  conv => arg 2; whnf
  clear hcp hno hnl hix hns hR
  by_cases hup : c.toNat / 32 = 1
  · have hk : bits .and .u8 (c.toNat : Int) 224 = 32 := by rw [hk224, m1.2 hup]; rfl
    have HUP := Bx.mk hup
    clear hk224 hk128 hk64 m1 m2 m3 hhead hc hup
    obtain ⟨cn, hcn⟩ : ∃ cn, c.toNat = cn := ⟨_, rfl⟩
    rw [hcn] at hcell hk
    clear hcn
    go_upto_if 40 with fail
    refine wp_cond_true rfl ?_
    refine Kx.use (up_any (ow := ow) (bw := bw) _ ⟨rfl, rfl, rfl, rfl, rfl, by rw [HNS.out]; rfl⟩ HR.out HUP.out) ?_ ?_ ?_
    · intro a2 w2 h; exact h.elim
    · intro a2 w2 h; exact h
    · rintro i a2 w2 ⟨rfl, h⟩; exact h
  · have ha : ¬ (c.toNat &&& 224 = 32) := fun h => hup (m1.1 h)
    obtain ⟨a224, ha224⟩ : ∃ a, c.toNat &&& 224 = a := ⟨_, rfl⟩
    rw [ha224] at hk224 ha
    have hka : ((a224 : Int) == 32) = false := by simp; omega
    have HUP := Bx.mk hup
    have HC := Bx.mk hc
    have HHD := Bx.mk hhead
    clear hup hhead hc m1 m2 m3 ha224
    obtain ⟨cn, hcn⟩ : ∃ cn, c.toNat = cn := ⟨_, rfl⟩
    rw [hcn] at hcell hk224 hk128 hk64 HC HHD
    clear hcn
    by_cases hmb : mu = true ∧ ns = 0
    · have HBAD := Bx.mk (HR.out.none_ (by simp) (by
        unfold lstep
        rw [if_neg (show ¬ isUp (c :: r) from HUP.out), if_pos ⟨hmb.1, List.eq_nil_of_length_eq_zero (by have := HNS.out; simp only; omega)⟩]))
      obtain ⟨rfl, rfl⟩ := hmb
      go_wp2_with fail
      refine (HR.out.dr.bad HBAD.out).mono ?_
      rintro e w9 ⟨rfl, hp⟩
      go_wp2_with fail
      exact Kx.ret ⟨rfl, rfl, rfl, hp⟩
    · have hand : (mu && ((ns : Int) == 0)) = false := by
        cases mu with
        | false => rfl
        | true => simp; intro h; exact hmb ⟨rfl, by omega⟩
      have HSTEP1 : Bx (lstep mx mu ⟨T1, ss, ad, out, c :: r⟩ = if 64 ≤ out.length then none else fdStep ⟨T1, ss, ad, out, c :: r⟩) := ⟨by
        unfold lstep
        rw [if_neg (show ¬ isUp (c :: r) from HUP.out), if_neg (fun h => hmb ⟨h.1, by have := HNS.out; rw [show ss = [] from h.2] at this; exact this.symm⟩)]⟩
      clear hmb
      cases mu with
      | false =>
        go_upto_if 90 with fail
        rename_i hKq
        refine wp_cond_false rfl ?_
        refine wp_skip ?_
        refine hKq _ _ ?_
        refine Kx.use (hfields_any (ow := ow) (bw := bw) (cn := cn) _ ⟨rfl, rfl, rfl, rfl, rfl, by rw [HNS.out]; rfl⟩ rfl HR.out HC.out HHD.out HSTEP1.out) ?_ ?_ ?_
        · intro a2 w2 h; exact h
        · intro a2 w2 h; exact h
        · rintro i a2 w2 ⟨rfl, h⟩; exact h
      | true =>
        have hns : ((ns : Int) == 0) = false := by simpa using hand
        clear hand
        go_upto_if 90 with fail
        rename_i hKq
        refine wp_cond_false rfl ?_
        refine wp_skip ?_
        refine hKq _ _ ?_
        refine Kx.use (hfields_any (ow := ow) (bw := bw) (cn := cn) _ ⟨rfl, rfl, rfl, rfl, rfl, by rw [HNS.out]; rfl⟩ rfl HR.out HC.out HHD.out HSTEP1.out) ?_ ?_ ?_
        · intro a2 w2 h; exact h
        · intro a2 w2 h; exact h
        · rintro i a2 w2 ⟨rfl, h⟩; exact h
end

end Go.Proofs.Ythnaapjefedalaa
