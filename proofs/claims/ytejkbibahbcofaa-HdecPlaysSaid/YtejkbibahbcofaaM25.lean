/-
  Texts put together: HdF5, HdF6, HdF7, HdF8, FdQ, HlA, HlB, HlC, OpenB.
-/
import Derived.Test.YtejkbibahbcofaaM24
import Derived.Test.YtejkbibahbcofaaM15
import Derived.BigRegion
import Derived.Test.YtejkbibahbcofaaM23
import Derived.Test.YtejkbibahbcofaaM01
import Derived.ProofKit
import Derived.OpenShut
import Derived.ShutString
import Derived.ChangeOld

/-
  The document's Decode: a literal's name.
-/
namespace Go.Proofs.Ytejkbibahbcofaa
open Go.RowKit Go.Maps
set_option linter.unusedVariables false

section
variable {q t mx : Nat} {mu : Bool} {T0 T1 : Tab} {S : Nat → Prop} {w wx : World} {l : List UInt8} {ss : List Nat} {ad out : List Fd} {c : UInt8} {r : List UInt8} {bw ow : Value}

set_option maxRecDepth 100000 in
set_option maxHeartbeats 40000000 in
/-- A literal's name. -/
theorem name_any {wo : World} {bo : Value} {cn kb G i : Nat} {r1 : List UInt8} (a : Act) (hA : At43 a q bw ow ss.length kb G) (hI : a.tmps.getD 18 undef = .int .u64 (i : Int)) (hR : Rel q t mx mu T0 S w l T1 ss ad out (c :: r) bo ow wo)
    (hlit : LitIs mx mu T1 ss ad out (c :: r) cn kb) (hn : numP kb (c :: r) = some (i, r1)) (hG : Dg q t mx mu S w T1 out r1 bw ow G emp wx) (hl1 : r1.length ≤ 100000) (hiv : i ≤ maxVar)
    (h154 : a.tmps.getD 154 undef = .bool (decide (0 < i))) :
    Code.wp Try.prog (dcond 154) (Kx (Named q t mx mu S w T1 ss out (c :: r) ow kb G) (Fails q t mx mu T0 S w l) (fun _ _ _ => False)) a wx := by
  have HNAME : Bx (nameP kb T1.l (c :: r) = if i = 0 then txtP r1 else if idxB T1.l i = true then some ((idxF T1.l i).1, r1) else none) := ⟨by unfold nameP; rw [hn]⟩
  obtain ⟨ns, hns⟩ : ∃ ns, ss.length = ns := ⟨_, rfl⟩
  rw [hns] at hA
  have HNS := Bx.mk hns
  have HR := Bx.mk hR
  have HLIT := Bx.mk hlit
  have HG1 := Bx.mk hG
  have HLR1 := Bx.mk hl1
  have HNV := Bx.mk hiv
  obtain ⟨g1, g2⟩ := hG.fb.cells
  obtain ⟨gf1, gf2⟩ := hG.fb.free
  obtain ⟨u, hu, ha⟩ := dframe a hA.s hA.d
  have h0 := (hu 0).symm.trans hA.t0
  have h1 := (hu 1).symm.trans hA.t1
  have h6 := (hu 6).symm.trans hA.t6
  have h7 := (hu 7).symm.trans hA.t7
  have h17 := (hu 17).symm.trans hA.t17
  have h21 := (hu 21).symm.trans hA.t21
  have h18 := (hu 18).symm.trans hI
  have h154 := (hu 154).symm.trans h154
  rw [ha]
  clear ha hA
  rw [h0, h1, h6, h7, h17, h21, h18, h154]
  clear h0 h1 h6 h7 h17 h21 h18 h154 hu
  conv => arg 2; whnf
  clear hns hR hlit hG hl1 hn hiv
  by_cases hi0 : i = 0
  · subst hi0
    have hcall := strBits_any bw r1 7 wx (by omega) (by omega) HG1.out.dr.bytes (by have := HLR1.out; omega)
    cases ht : txtP r1 with
    | none =>
      obtain ⟨er, he, hsb⟩ := txtP_none ht
      have HBAD := Bx.mk (HR.out.none_ (by simp) (by rw [HLIT.out.2]; unfold litP; rw [HNAME.out, if_pos rfl, ht]))
      rw [hsb] at hcall
      unfold AnsS at hcall
      dsimp only at hcall
      have HCALL2 := Bx.mk hcall
      have hne : (er == 0) = false := by simpa using he
      clear hcall hsb ht
      go_wp2_with fail
      refine HCALL2.out.mono ?_
      rintro e w2 ⟨rfl, hb2⟩
      have HR2 := Bx.mk (HG1.out.dr.keep hb2)
      clear hb2
      go_wp2_with fail
      refine (HR2.out.bad HBAD.out).mono ?_
      rintro e w9 ⟨rfl, hp⟩
      go_wp2_with fail
      exact Kx.ret ⟨rfl, rfl, rfl, hp⟩
    | some pq =>
      obtain ⟨nm, r2⟩ := pq
      obtain ⟨sB, m2, hsb, hnm, hr2, hm21, hm2l, _⟩ := txtP_some ht
      rw [hsb] at hcall
      unfold AnsS at hcall
      dsimp only at hcall
      rw [← hnm] at hcall
      have HCALL2 := Bx.mk hcall
      obtain ⟨bw2, hsl2, hbs2⟩ := HG1.out.dr.bytes.from_ (m2 : Int) (by omega) (by omega)
      rw [Int.toNat_natCast, ← hr2] at hbs2
      have HBS2 := Bx.mk hbs2
      have HNM2 : Bx (nameP kb T1.l (c :: r) = some (nm, r2)) := ⟨by rw [HNAME.out, if_pos rfl, ht]⟩
      have HLR2 : Bx (r2.length ≤ 100000) := ⟨by rw [hr2]; have := HLR1.out; simp only [List.length_drop]; omega⟩
      clear hcall hsb ht hbs2 hr2 hm2l hm21 hnm
      go_wp2_with fail
      refine HCALL2.out.mono ?_
      rintro e w2 ⟨rfl, hb2⟩
      have HG2 := Bx.mk (HG1.out.keep hb2)
      have HG3 := Bx.mk ((HG2.out.put0 nm).rest HBS2.out)
      clear hb2 g1 g2 gf1 gf2
      obtain ⟨g1, g2⟩ := HG2.out.fb.cells
      obtain ⟨gf1, gf2⟩ := HG2.out.fb.free
      go_wp2_with fail
      exact Kx.norm ⟨nm, r2, bw2, ⟨rfl, rfl, rfl, rfl, rfl, by rw [HNS.out]; rfl, rfl, rfl⟩, HNM2.out, HG3.out, HLR2.out⟩
  · have hdi : decide (0 < i) = true := decide_eq_true (by omega)
    obtain ⟨f, hf⟩ : ∃ f, idxF T1.l i = f := ⟨_, rfl⟩
    obtain ⟨f1, f2⟩ := f
    have HF := Bx.mk hf
    clear hf
    cases hib : idxB T1.l i with
    | false =>
      have HBAD := Bx.mk (HR.out.none_ (by simp) (by rw [HLIT.out.2]; unfold litP; rw [HNAME.out, if_neg hi0, if_neg (by rw [hib]; simp)]))
      have HIB := Bx.mk hib
      clear hib
      go_wp2_with fail
      refine (HG1.out.dr.entry i HNV.out).mono ?_
      rintro e w2 ⟨rfl, hb2⟩
      rw [HF.out, HIB.out, show aggF (f1, f2) = .agg #[.string f1, .string f2] from rfl]
      have HR2 := Bx.mk ((HG1.out.dr.keep hb2).keep ((Below.refl w2.heap.size w2).alloc (Nat.le_refl _) (.cells #[.string f1, .string f2] 61)))
      clear hb2
      go_wp2_with fail
      refine (HR2.out.bad HBAD.out).mono ?_
      rintro e w9 ⟨rfl, hp⟩
      go_wp2_with fail
      exact Kx.ret ⟨rfl, rfl, rfl, hp⟩
    | true =>
      have HIB := Bx.mk hib
      have HNM2 : Bx (nameP kb T1.l (c :: r) = some (f1, r1)) := ⟨by rw [HNAME.out, if_neg hi0, if_pos hib, HF.out]⟩
      clear hib
      go_wp2_with fail
      refine (HG1.out.dr.entry i HNV.out).mono ?_
      rintro e w2 ⟨rfl, hb2⟩
      rw [HF.out, HIB.out, show aggF (f1, f2) = .agg #[.string f1, .string f2] from rfl]
      have HG2 := Bx.mk ((HG1.out.keep hb2).keep ((Below.refl w2.heap.size w2).alloc (Nat.le_refl _) (.cells #[.string f1, .string f2] 61)))
      have HG3 := Bx.mk (HG2.out.put0 f1)
      clear hb2 g1 g2 gf1 gf2
      obtain ⟨g1, g2⟩ := HG2.out.fb.cells
      obtain ⟨gf1, gf2⟩ := HG2.out.fb.free
      have HF2 := Bx.mk (Fb.new 61 w2 (f1, f2))
      obtain ⟨e1, e2⟩ := HF2.out.cells
      go_wp2_with fail
      exact Kx.norm ⟨f1, r1, bw, ⟨rfl, rfl, rfl, rfl, rfl, by rw [HNS.out]; rfl, rfl, rfl⟩, HNM2.out, HG3.out, HLR1.out⟩
end

end Go.Proofs.Ytejkbibahbcofaa

/-
  The document's Decode: a literal.
-/
namespace Go.Proofs.Ytejkbibahbcofaa
open Go.RowKit Go.Maps
set_option linter.unusedVariables false

section
variable {q t mx : Nat} {mu : Bool} {T0 T1 : Tab} {S : Nat → Prop} {w wx : World} {l : List UInt8} {ss : List Nat} {ad out : List Fd} {c : UInt8} {r : List UInt8} {bw ow : Value}

set_option maxRecDepth 100000 in
set_option maxHeartbeats 40000000 in
/-- A literal. -/
theorem lit_any {cn kb : Nat} (a : Act) (hA : At15 a q bw ow ss.length) (hK : a.tmps.getD 17 undef = .int .i64 (kb : Int)) (hR : Rel q t mx mu T0 S w l T1 ss ad out (c :: r) bw ow wx) (h64 : out.length < 64) (hlit : LitIs mx mu T1 ss ad out (c :: r) cn kb) :
    Code.wp Try.prog (dfrom 28) (Kx (Goes q t mx mu T0 S w l (c :: r).length) (Fails q t mx mu T0 S w l) (fun _ _ _ => False)) a wx := by
  obtain ⟨ns, hns⟩ : ∃ ns, ss.length = ns := ⟨_, rfl⟩
  rw [hns] at hA
  have HNS := Bx.mk hns
  have HR := Bx.mk hR
  have HLIT := Bx.mk hlit
  have HLO := Bx.mk h64
  have hkb : kb = 6 ∨ kb = 4 := by rw [← hlit.1]; split <;> simp
  have hcall := refReadPrefix_any bw (c :: r) (kb : Int) wx hR.dr.bytes (by have := hR.len; omega)
  rw [show bitsOf (kb : Int) = kb by unfold bitsOf; omega] at hcall
  obtain ⟨u, hu, ha⟩ := dframe a hA.s hA.d
  have h0 := (hu 0).symm.trans hA.t0
  have h1 := (hu 1).symm.trans hA.t1
  have h6 := (hu 6).symm.trans hA.t6
  have h7 := (hu 7).symm.trans hA.t7
  have h17 := (hu 17).symm.trans hK
  rw [ha]
  clear ha hA
  rw [h0, h1, h6, h7, h17]
  clear h0 h1 h6 h7 h17 hu
  conv => arg 2; whnf
  clear hns hR hlit h64 hkb
  cases hn : numP kb (c :: r) with
  | none =>
    obtain ⟨er, he, hrp⟩ := numP_none hn
    have HBAD := Bx.mk (HR.out.none_ (by simp) (by rw [HLIT.out.2]; unfold litP nameP; rw [hn]))
    rw [hrp] at hcall
    unfold Ans3 at hcall
    dsimp only at hcall
    have HCALL := Bx.mk hcall
    have hne : (er == 0) = false := by simpa using he
    clear hcall hrp hn
    go_wp2_with fail
    refine HCALL.out.mono ?_
    rintro e w1 ⟨rfl, rfl⟩
    go_wp2_with fail
    refine (HR.out.dr.bad HBAD.out).mono ?_
    rintro e w9 ⟨rfl, hp⟩
    go_wp2_with fail
    exact Kx.ret ⟨rfl, rfl, rfl, hp⟩
  | some pr =>
    obtain ⟨i, r1⟩ := pr
    obtain ⟨m, hrp, hr1, hm1, hml, hnv⟩ := numP_some hn
    rw [hrp] at hcall
    unfold Ans3 at hcall
    dsimp only at hcall
    have HCALL := Bx.mk hcall
    obtain ⟨bw1, hsl, hbs⟩ := HR.out.dr.bytes.from_ (m : Int) (by omega) (by omega)
    rw [Int.toNat_natCast, ← hr1] at hbs
    have HG1 := Bx.mk (Dg.of (HR.out.dr.rest hbs))
    have HN := Bx.mk hn
    have HNV := Bx.mk hnv
    have HLR1 : Bx (r1.length ≤ 100000) := ⟨by rw [hr1]; have := HR.out.len; simp only [List.length_drop] at *; omega⟩
    clear hcall hrp hn hbs hr1 hml hnv hm1
    go_wp2_with fail
    refine HCALL.out.mono ?_
    rintro e w1 ⟨rfl, rfl⟩
    go_upto_if 154 with fail
    refine Kx.use (name_any (ow := ow) (bw := bw1) (kb := kb) (i := i) (G := wx.heap.size) _ ⟨rfl, rfl, rfl, rfl, rfl, by rw [HNS.out]; rfl, rfl, rfl⟩ rfl HR.out HLIT.out HN.out HG1.out HLR1.out HNV.out ?_) ?_ ?_ ?_
    · rfl
    · rintro a2 w2 ⟨nm, r2, bw2, hA2, hnm, hG2, hl2⟩
      rename_i hKq
      refine hKq _ _ ?_
      refine Kx.use (value_any a2 hA2 HR.out HLO.out HLIT.out hnm hG2 hl2) ?_ ?_ ?_
      · intro a3 w3 h; exact h
      · intro a3 w3 h; exact h
      · intro i a3 w3 h; exact h.elim
    · intro a2 w2 h; exact h
    · intro i a2 w2 h; exact h.elim
end

end Go.Proofs.Ytejkbibahbcofaa

/-
  The document's Decode: one round of its loop.
-/
namespace Go.Proofs.Ytejkbibahbcofaa
open Go.RowKit Go.Maps
set_option linter.unusedVariables false

section
variable {q t mx : Nat} {mu : Bool} {T0 T1 : Tab} {S : Nat → Prop} {w wx : World} {l : List UInt8} {ss : List Nat} {ad out : List Fd} {c : UInt8} {r : List UInt8} {bw ow : Value}

set_option maxRecDepth 100000 in
set_option maxHeartbeats 40000000 in
/-- The fields' lines. -/
theorem hfields_any {cn : Nat} (a : Act) (hA : At15 a q bw ow ss.length) (h8 : a.tmps.getD 8 undef = .int .u8 (cn : Int)) (hR : Rel q t mx mu T0 S w l T1 ss ad out (c :: r) bw ow wx) (hc : cn < 256) (hhead : headN (c :: r) = cn)
    (hst : lstep mx mu ⟨T1, ss, ad, out, c :: r⟩ = if 64 ≤ out.length then none else fdStep ⟨T1, ss, ad, out, c :: r⟩) :
    Code.wp Try.prog (dstmt 16) (Kx (Goes q t mx mu T0 S w l (c :: r).length) (Fails q t mx mu T0 S w l) (fun i a' w' => i = 1 ∧ Goes q t mx mu T0 S w l (c :: r).length a' w')) a wx := by
  obtain ⟨ns, hns⟩ : ∃ ns, ss.length = ns := ⟨_, rfl⟩
  rw [hns] at hA
  have HNS := Bx.mk hns
  have HR := Bx.mk hR
  have HC := Bx.mk hc
  have HHD := Bx.mk hhead
  have HST := Bx.mk hst
  have hk128 : bits .and .u8 (cn : Int) 128 = ((cn &&& 128 : Nat) : Int) := u8_mask cn 128 hc (by omega)
  have hk64 : bits .and .u8 (cn : Int) 64 = ((cn &&& 64 : Nat) : Int) := u8_mask cn 64 hc (by omega)
  have hleno := fun ty W => hR.dr.st.fs.run_len ty W
  obtain ⟨no, hno⟩ : ∃ no, out.length = no := ⟨_, rfl⟩
  rw [hno] at hleno
  have HNO := Bx.mk hno
  obtain ⟨u, hu, ha⟩ := dframe a hA.s hA.d
  have h0 := (hu 0).symm.trans hA.t0
  have h1 := (hu 1).symm.trans hA.t1
  have h6 := (hu 6).symm.trans hA.t6
  have h7 := (hu 7).symm.trans hA.t7
  have h8 := (hu 8).symm.trans h8
  rw [ha]
  clear ha hA
  rw [h0, h1, h6, h7, h8]
  clear h0 h1 h6 h7 h8 hu
  conv => arg 2; whnf
  clear hno hns hR hhead hst
  by_cases h64 : 64 ≤ no
  · have HBAD := Bx.mk (HR.out.none_ (by simp) (by rw [HST.out, if_pos (by rw [HNO.out]; exact h64)]))
    have hd64 : decide ((64 : Int) ≤ (no : Int)) = true := decide_eq_true (by omega)
    go_wp2_with fail
    refine (HR.out.dr.bad HBAD.out).mono ?_
    rintro e w9 ⟨rfl, hp⟩
    go_wp2_with fail
    exact Kx.ret ⟨rfl, rfl, rfl, hp⟩
  · have hd64 : decide ((64 : Int) ≤ (no : Int)) = false := decide_eq_false (by omega)
    have HLO : Bx (out.length < 64) := ⟨by rw [HNO.out]; omega⟩
    have HST2 : Bx (lstep mx mu ⟨T1, ss, ad, out, c :: r⟩ = fdStep ⟨T1, ss, ad, out, c :: r⟩) := ⟨by rw [HST.out, if_neg (by rw [HNO.out]; exact h64)]⟩
    by_cases h128 : 128 ≤ cn
    · have hk : bits .and .u8 (cn : Int) 128 = 128 := by rw [hk128, and_128 cn hc h128]; rfl
      have HST3 : Bx (lstep mx mu ⟨T1, ss, ad, out, c :: r⟩ = ixStep ⟨T1, ss, ad, out, c :: r⟩) := ⟨by
        rw [HST2.out]; unfold fdStep
        rw [if_pos (by show 128 ≤ headN (c :: r); rw [HHD.out]; exact h128)]⟩
      clear hk128 hk64 h128 hc
      go_upto_if 104 with fail
      refine wp_cond_true rfl ?_
      refine Kx.use (ix_any (ow := ow) (bw := bw) _ ⟨rfl, rfl, rfl, rfl, rfl, by rw [HNS.out]; rfl⟩ HR.out HST3.out HLO.out) ?_ ?_ ?_
      · intro a2 w2 h; exact h.elim
      · intro a2 w2 h; exact h
      · intro i a2 w2 h; exact h
    · have hk : bits .and .u8 (cn : Int) 128 = 0 := by rw [hk128, and_128' cn (by omega)]; rfl
      obtain ⟨kb, hkb⟩ : ∃ kb : Nat, (if 64 ≤ cn then 6 else 4) = kb := ⟨_, rfl⟩
      have HLIT : Bx (LitIs mx mu T1 ss ad out (c :: r) cn kb) := ⟨hkb, by rw [HST2.out]; exact lit_step HHD.out h128 hkb⟩
      clear hk128 hc
      by_cases h64c : 64 ≤ cn
      · have hk6 : bits .and .u8 (cn : Int) 64 = 64 := by rw [hk64, and_64 cn (by omega) h64c]; rfl
        obtain rfl : 6 = kb := by rw [if_pos h64c] at hkb; exact hkb
        clear hk64 h64c h128 hkb
        go_upto_if 136 with fail
        rename_i hKq
        have HK := Bx.mk hKq
        clear hKq
        go_wp2_with fail
        refine HK.out _ _ ?_
        refine Kx.use (lit_any (ow := ow) (bw := bw) (kb := 6) _ ⟨rfl, rfl, rfl, rfl, rfl, by rw [HNS.out]; rfl⟩ rfl HR.out HLO.out HLIT.out) ?_ ?_ ?_
        · intro a2 w2 h; exact h
        · intro a2 w2 h; exact h
        · intro i a2 w2 h; exact h.elim
      · have hk6 : bits .and .u8 (cn : Int) 64 = 0 := by rw [hk64, and_64' cn (by omega)]; rfl
        obtain rfl : 4 = kb := by rw [if_neg h64c] at hkb; exact hkb
        clear hk64 h64c h128 hkb
        go_upto_if 136 with fail
        rename_i hKq
        have HK := Bx.mk hKq
        clear hKq
        go_wp2_with fail
        refine HK.out _ _ ?_
        refine Kx.use (lit_any (ow := ow) (bw := bw) (kb := 4) _ ⟨rfl, rfl, rfl, rfl, rfl, by rw [HNS.out]; rfl⟩ rfl HR.out HLO.out HLIT.out) ?_ ?_ ?_
        · intro a2 w2 h; exact h
        · intro a2 w2 h; exact h
        · intro i a2 w2 h; exact h.elim

set_option maxRecDepth 100000 in
set_option maxHeartbeats 40000000 in
/-- One round of the loop, no line is left. -/
theorem roundN_any (a : Act) (hA : At15 a q bw ow ss.length) (hR : Rel q t mx mu T0 S w l T1 ss ad out [] bw ow wx) :
    Code.wp Try.prog dloop (Kx (fun _ _ => False) (fun _ _ => False) (fun i a' w' => i = 0 ∧ At15 a' q bw ow ss.length ∧ w' = wx)) a wx := by
  obtain ⟨ns, hns⟩ : ∃ ns, ss.length = ns := ⟨_, rfl⟩
  rw [hns] at hA
  have HNS := Bx.mk hns
  have hlenb := fun ty W => hR.dr.bytes.run_len ty W
  obtain ⟨u, hu, ha⟩ := dframe a hA.s hA.d
  have h0 := (hu 0).symm.trans hA.t0
  have h1 := (hu 1).symm.trans hA.t1
  have h6 := (hu 6).symm.trans hA.t6
  have h7 := (hu 7).symm.trans hA.t7
  rw [ha]
  clear ha hA
  rw [h0, h1, h6, h7]
  clear h0 h1 h6 h7 hu
  conv => arg 2; whnf
  clear hns hR
  go_wp2_with fail
  exact Kx.exit ⟨rfl, ⟨rfl, rfl, rfl, rfl, rfl, by rw [HNS.out]; rfl⟩, rfl⟩

set_option maxRecDepth 100000 in
set_option maxHeartbeats 40000000 in
/-- One round of the loop, a line is left. -/
theorem roundC_any (a : Act) (hA : At15 a q bw ow ss.length) (hR : Rel q t mx mu T0 S w l T1 ss ad out (c :: r) bw ow wx) :
    Code.wp Try.prog dloop (Kx (Goes q t mx mu T0 S w l (c :: r).length) (Fails q t mx mu T0 S w l) (fun _ _ _ => False)) a wx := by
  obtain ⟨ns, hns⟩ : ∃ ns, ss.length = ns := ⟨_, rfl⟩
  rw [hns] at hA
  have HNS := Bx.mk hns
  have HR := Bx.mk hR
  obtain ⟨d0, d1, d2, d3⟩ := hR.dr.cells
  have hlenb := fun ty W => hR.dr.bytes.run_len ty W
  have hc := c.toNat_lt
  obtain ⟨p, hix, hcp⟩ := hR.dr.bytes.at_ 0 (by simp)
  have hcell := hcp wx hR.dr.bytes
  simp only [List.getElem_cons_zero] at hcell
  obtain ⟨m1, m2, m3⟩ := mask_facts c.toNat hc
  have hk224 : bits .and .u8 (c.toNat : Int) 224 = ((c.toNat &&& 224 : Nat) : Int) := u8_mask c.toNat 224 hc (by omega)
  have hk128 : bits .and .u8 (c.toNat : Int) 128 = ((c.toNat &&& 128 : Nat) : Int) := u8_mask c.toNat 128 hc (by omega)
  have hk64 : bits .and .u8 (c.toNat : Int) 64 = ((c.toNat &&& 64 : Nat) : Int) := u8_mask c.toNat 64 hc (by omega)
  have hix0 : ∀ W : World, (Instr.indexAt 24 bw (.int .i64 0)).run Try.prog W = .ok (.pointer (some p)) W := hix
  obtain ⟨nl, hnl⟩ : ∃ nl, (c :: r).length = nl := ⟨_, rfl⟩
  have hnl0 : 0 < nl := by rw [← hnl]; simp
  rw [hnl] at hlenb
  have HNL := Bx.mk hnl
  have hdl : decide ((0 : Int) < (nl : Int)) = true := decide_eq_true (by omega)
  have hdl' : decide (0 < nl) = true := decide_eq_true hnl0
  have hleno := fun ty W => hR.dr.st.fs.run_len ty W
  obtain ⟨no, hno⟩ : ∃ no, out.length = no := ⟨_, rfl⟩
  rw [hno] at hleno
  have HNO := Bx.mk hno
  have hhead : headN (c :: r) = c.toNat := rfl
  obtain ⟨u, hu, ha⟩ := dframe a hA.s hA.d
  have h0 := (hu 0).symm.trans hA.t0
  have h1 := (hu 1).symm.trans hA.t1
  have h6 := (hu 6).symm.trans hA.t6
  have h7 := (hu 7).symm.trans hA.t7
  rw [ha]
  clear ha hA
  rw [h0, h1, h6, h7]
  clear h0 h1 h6 h7 hu
  conv => arg 2; whnf
  clear hcp hno hnl hix hns hR
  by_cases hup : c.toNat / 32 = 1
  · have hk : bits .and .u8 (c.toNat : Int) 224 = 32 := by rw [hk224, m1.2 hup]; rfl
    have HUP := Bx.mk hup
    clear hk224 hk128 hk64 m1 m2 m3 hhead hc hup
    obtain ⟨cn, hcn⟩ : ∃ cn, c.toNat = cn := ⟨_, rfl⟩
    rw [hcn] at hcell hk
    clear hcn
    go_upto_if 40 with fail
    refine wp_cond_true rfl ?_
    refine Kx.use (up_any (ow := ow) (bw := bw) _ ⟨rfl, rfl, rfl, rfl, rfl, by rw [HNS.out]; rfl⟩ HR.out HUP.out) ?_ ?_ ?_
    · intro a2 w2 h; exact h.elim
    · intro a2 w2 h; exact h
    · rintro i a2 w2 ⟨rfl, h⟩; exact h
  · have ha : ¬ (c.toNat &&& 224 = 32) := fun h => hup (m1.1 h)
    obtain ⟨a224, ha224⟩ : ∃ a, c.toNat &&& 224 = a := ⟨_, rfl⟩
    rw [ha224] at hk224 ha
    have hka : ((a224 : Int) == 32) = false := by simp; omega
    have HUP := Bx.mk hup
    have HC := Bx.mk hc
    have HHD := Bx.mk hhead
    clear hup hhead hc m1 m2 m3 ha224
    obtain ⟨cn, hcn⟩ : ∃ cn, c.toNat = cn := ⟨_, rfl⟩
    rw [hcn] at hcell hk224 hk128 hk64 HC HHD
    clear hcn
    by_cases hmb : mu = true ∧ ns = 0
    · have HBAD := Bx.mk (HR.out.none_ (by simp) (by
        unfold lstep
        rw [if_neg (show ¬ isUp (c :: r) from HUP.out), if_pos ⟨hmb.1, List.eq_nil_of_length_eq_zero (by have := HNS.out; simp only; omega)⟩]))
      obtain ⟨rfl, rfl⟩ := hmb
      go_wp2_with fail
      refine (HR.out.dr.bad HBAD.out).mono ?_
      rintro e w9 ⟨rfl, hp⟩
      go_wp2_with fail
      exact Kx.ret ⟨rfl, rfl, rfl, hp⟩
    · have hand : (mu && ((ns : Int) == 0)) = false := by
        cases mu with
        | false => rfl
        | true => simp; intro h; exact hmb ⟨rfl, by omega⟩
      have HSTEP1 : Bx (lstep mx mu ⟨T1, ss, ad, out, c :: r⟩ = if 64 ≤ out.length then none else fdStep ⟨T1, ss, ad, out, c :: r⟩) := ⟨by
        unfold lstep
        rw [if_neg (show ¬ isUp (c :: r) from HUP.out), if_neg (fun h => hmb ⟨h.1, by have := HNS.out; rw [show ss = [] from h.2] at this; exact this.symm⟩)]⟩
      clear hmb
      cases mu with
      | false =>
        go_upto_if 90 with fail
        rename_i hKq
        refine wp_cond_false rfl ?_
        refine wp_skip ?_
        refine hKq _ _ ?_
        refine Kx.use (hfields_any (ow := ow) (bw := bw) (cn := cn) _ ⟨rfl, rfl, rfl, rfl, rfl, by rw [HNS.out]; rfl⟩ rfl HR.out HC.out HHD.out HSTEP1.out) ?_ ?_ ?_
        · intro a2 w2 h; exact h
        · intro a2 w2 h; exact h
        · rintro i a2 w2 ⟨rfl, h⟩; exact h
      | true =>
        have hns : ((ns : Int) == 0) = false := by simpa using hand
        clear hand
        go_upto_if 90 with fail
        rename_i hKq
        refine wp_cond_false rfl ?_
        refine wp_skip ?_
        refine hKq _ _ ?_
        refine Kx.use (hfields_any (ow := ow) (bw := bw) (cn := cn) _ ⟨rfl, rfl, rfl, rfl, rfl, by rw [HNS.out]; rfl⟩ rfl HR.out HC.out HHD.out HSTEP1.out) ?_ ?_ ?_
        · intro a2 w2 h; exact h
        · intro a2 w2 h; exact h
        · rintro i a2 w2 ⟨rfl, h⟩; exact h
end

end Go.Proofs.Ytejkbibahbcofaa

/-
  Contract of the document's Decode.
-/
namespace Go.Proofs.Ytejkbibahbcofaa
open Go.RowKit Go.Maps
set_option linter.unusedVariables false

section
variable {q t mx : Nat} {mu : Bool} {T0 T1 : Tab} {S : Nat → Prop} {w wx : World} {l : List UInt8} {ss : List Nat} {ad out : List Fd} {c : UInt8} {r : List UInt8} {bw ow : Value}

/-- A return with what Decode comes to. -/
def Ends (q t mx : Nat) (mu : Bool) (T0 : Tab) (S : Nat → Prop) (w : World) (l : List UInt8) (a : Act) (w' : World) : Prop :=
  a.defers = [] ∧ DPost q t mx mu T0 S w l (.returned (.tuple #[a.tmps.getD 4 undef, a.tmps.getD 5 undef])) w'

set_option maxRecDepth 100000 in
set_option maxHeartbeats 40000000 in
/-- Behind the last line. -/
theorem tail_any (a : Act) (hA : At15 a q bw ow ss.length) (hR : Rel q t mx mu T0 S w l T1 ss ad out [] bw ow wx) :
    Code.wp Try.prog (dstmt 51) (Kx (fun _ _ => False) (Ends q t mx mu T0 S w l) (fun _ _ _ => False)) a wx := by
  obtain ⟨ns, hns⟩ : ∃ ns, ss.length = ns := ⟨_, rfl⟩
  rw [hns] at hA
  have HNS := Bx.mk hns
  have HR := Bx.mk hR
  have HE := Bx.mk (ldec_end hR.run)
  obtain ⟨d0, d1, d2, d3⟩ := hR.dr.cells
  have df2 := hR.dr.free 2
  obtain ⟨u, hu, ha⟩ := dframe a hA.s hA.d
  have h0 := (hu 0).symm.trans hA.t0
  have h6 := (hu 6).symm.trans hA.t6
  have h7 := (hu 7).symm.trans hA.t7
  rw [ha]
  clear ha hA
  rw [h0, h6, h7]
  clear h0 h6 h7 hu
  conv => arg 2; whnf
  clear hns hR
  by_cases hmu : mu = true ∧ ns = 0
  · obtain ⟨rfl, rfl⟩ := hmu
    have HN : Bx (ldec mx true T0 l = none) := ⟨by rw [HE.out, if_pos ⟨rfl, List.eq_nil_of_length_eq_zero HNS.out⟩]⟩
    go_wp2_with fail
    refine (HR.out.dr.bad HN.out).mono ?_
    rintro e w2 ⟨rfl, hp⟩
    go_wp2_with fail
    exact Kx.ret ⟨rfl, hp⟩
  · have hn : ldec mx mu T0 l = some ⟨T1, ss, ad, out, []⟩ := by
      rw [HE.out, if_neg]
      rintro ⟨h1, h2⟩
      exact hmu ⟨h1, by have := HNS.out; rw [h2] at this; exact this.symm⟩
    have hand : (mu && ((ns : Int) == 0)) = false := by
      cases mu with
      | false => rfl
      | true => simp; intro h; exact hmu ⟨rfl, by omega⟩
    have HFIN : Bx (DPost q t mx mu T0 S w l (.returned (.tuple #[ow, .int .i64 0])) (wx.setCell ⟨q, 2, none⟩ (.bool false))) := ⟨by
      obtain ⟨⟨S', h1, h2, h3⟩, h4, h5, h6⟩ := HR.out.dr
      have ht := h1.setMust false
      obtain ⟨S2, x2, s2, f2⟩ := ht
      exact .inr ⟨_, ow, hn, rfl, (h5.kept fun k hk => f2.block k (h5.lt hk) (h3 k hk).2).fs, fun k hk => (h3 k hk).1, Turn.step h2 h4 ⟨S2, x2, s2, f2⟩⟩⟩
    clear hn hmu
    cases mu with
    | false =>
      go_wp2_with fail
      exact Kx.ret ⟨rfl, HFIN.out⟩
    | true =>
      have hns : ((ns : Int) == 0) = false := by simpa using hand
      clear hand
      go_wp2_with fail
      exact Kx.ret ⟨rfl, HFIN.out⟩
end

set_option maxRecDepth 100000 in
set_option maxHeartbeats 40000000 in
theorem ddecode_any {q t mx : Nat} {mu : Bool} {T : Tab} {w : World} {S : Nat → Prop} (h : Dc q t T mx mu false w S) (hgd : T.gd) (htot : T.tot + 64 ≤ 1000000) (hmx : mx ≤ 4096) {bV : Value} {l : List UInt8} (hb : ∀ W, Fp S w W → Bs W bV l) (hl : l.length ≤ 100000) :
    Calls Try.prog 15 #[.pointer (some ⟨q, 0, none⟩), bV] w fun e w' => DPost q t mx mu T S w l e w' := by
  obtain ⟨c0, c1, c2, c3⟩ := h.cells
  have HD : Bx (Rel q t mx mu T S w l T [] [] [] l bV (.slice none 0 0) w) := ⟨⟨⟨S, h, fun k hk => .inl hk, fun k hk => by simp [Value.ownBlock] at hk⟩, Fp.refl _ _, St.nil _, hb⟩, inv_start hgd l, rfl, hl, hmx, htot⟩
  clear h hgd hb hl htot hmx c0 c1 c2
  go_enter Try.func15, Try.ntmps15
  go_wp2_with fail
  rename_i hKq
  refine wp_loop_ghost (fun n a wx => ∃ T1 ss ad out b bw ow, At15 a q bw ow ss.length ∧ Rel q t mx mu T S w l T1 ss ad out b bw ow wx ∧ b.length = n) l.length ?_ ?_
  · exact ⟨T, [], [], [], l, _, _, ⟨rfl, rfl, rfl, rfl, rfl, rfl⟩, HD.out, rfl⟩
  · rintro n a wx ⟨T1, ss, ad, out, b, bw, ow, hA, hR, hn⟩
    cases b with
    | nil =>
      refine Kx.use (roundN_any a hA hR) ?_ ?_ ?_
      · intro a2 w2 h; exact h.elim
      · intro a2 w2 h; exact h.elim
      · rintro i a2 w2 ⟨rfl, hA2, rfl⟩
        refine hKq _ _ ?_
        refine Kx.use (tail_any a2 hA2 hR) ?_ ?_ ?_
        · intro a3 w3 h; exact h.elim
        · intro a3 w3 h; exact ⟨h.1, _, results_tmp2 Try.results15 _ _ _, h.2⟩
        · intro i a3 w3 h; exact h.elim
    | cons c r =>
      refine Kx.use (roundC_any a hA hR) ?_ ?_ ?_
      · rintro a2 w2 ⟨T2, ss2, ad2, out2, b2, bw2, ow2, hA2, hR2, hl2⟩
        exact ⟨_, by omega, T2, ss2, ad2, out2, b2, bw2, ow2, hA2, hR2, rfl⟩
      · rintro a2 w2 ⟨h1, h2, h3, h4⟩
        exact ⟨h1, _, results_tmp2 Try.results15 _ _ _, by rw [h2, h3]; exact h4⟩
      · intro i a2 w2 h; exact h.elim

end Go.Proofs.Ytejkbibahbcofaa

/-
  Contract of bifoldhelp.Fields alone.
-/
namespace Go.Proofs.Ytejkbibahbcofaa
open Go.RowKit
set_option linter.unusedVariables false

theorem ret_bool {a b : Bool} (h : a = b) : Ending.returned (.bool a) = .returned (.bool b) := by rw [h]
theorem at_ne {α : Type} {a b : List α} {k : Nat} (ha : k < a.length) (hb : k < b.length) (h : ¬ a[k] = b[k]) : ¬ a = b := by
  rintro rfl; exact h rfl

set_option maxRecDepth 100000 in
set_option maxHeartbeats 1000000 in
theorem fields_any (va vb : Value) (a b : List Fd) (w : World) (ha : Fs w va a) (hb : Fs w vb b) :
    Calls Try.prog 16 #[va, vb] w fun e w' => e = .returned (.bool (decide (a = b))) ∧ Below w.heap.size w w' := by
  have HA := Bx.mk ha
  have HBb := Bx.mk hb
  have hlena := fun ty W => ha.run_len ty W
  have hlenb := fun ty W => hb.run_len ty W
  have hlm := ha.len
  unfold maxLen at hlm
  clear ha hb
  by_cases hll : a.length = b.length
  · have hd : ((a.length : Int) == (b.length : Int)) = true := by rw [beq_iff_eq]; omega
    have hd2 : ((a.length : Int) != (b.length : Int)) = false := by rw [bne, hd]; rfl
    have HLL := Bx.mk hll
    clear hll
    obtain ⟨R, hR⟩ : ∃ R, decide (a = b) = R := ⟨_, rfl⟩
    rw [hR]
    have HR := Bx.mk hR
    clear hR
    go_enter Try.func16, Try.ntmps16
    go_wp2
    clear hd hd2
    go_loopg [5] a.length (fun g s5 wx => ∃ k : Nat, k + g = a.length ∧ s5 = .int .i64 k ∧ Bx (AgreeTo a b k) ∧ Bx (Below w.heap.size w wx))
    case atStart => exact ⟨0, by omega, rfl, ⟨AgreeTo.zero _ _⟩, ⟨Below.refl _ _⟩⟩
    case round =>
      obtain ⟨k, hkg, rfl, HG, HB⟩ := hrel
      cases gk with
      | zero =>
        obtain rfl : k = a.length := by omega
        go_wp2
        go_ret
        exact ⟨ret_bool (by rw [← HR.out]; exact (decide_eq_true (AgreeTo.eq HLL.out HG.out)).symm), HB.out⟩
      | succ g =>
        have hk : k < a.length := by omega
        have hkb : k < b.length := by have := HLL.out; omega
        have hkz : (k : Int) < (a.length : Int) := by omega
        obtain ⟨b1, o1, hix1, hcs1⟩ := HA.out.at_ k hk
        obtain ⟨b2, o2, hix2, hcs2⟩ := HBb.out.at_ k hkb
        obtain ⟨hc1, hc1'⟩ := hcs1 wr (HA.out.keep HB.out)
        obtain ⟨hc2, hc2'⟩ := hcs2 wr (HBb.out.keep HB.out)
        have HSU := Bx.mk (show a[k] = b[k] → AgreeTo a b (k + 1) from fun h => HG.out.succ (by rw [List.getElem?_eq_getElem hk, List.getElem?_eq_getElem hkb, h]))
        have HNE := Bx.mk (fun h => at_ne hk hkb h)
        clear hcs1 hcs2
        generalize a[k] = x at hc1 hc1' HSU HNE
        obtain ⟨x1, x2⟩ := x
        generalize b[k] = y at hc2 hc2' HSU HNE
        obtain ⟨y1, y2⟩ := y
        simp only at hc1 hc1' hc2 hc2'
        by_cases h1 : x1 = y1
        · subst h1
          by_cases h2 : x2 = y2
          · subst h2
            go_wp2
            go_region
            go_wp2
            go_roundg g
            case measure => omega
            case rel => exact ⟨k + 1, by omega, by go_num, ⟨HSU.out (by simp)⟩, ⟨HB.out.drew⟩⟩
          · have hn : ¬ x2.toList = y2.toList := fun h => h2 (str_eq _ _ h)
            have HX := Bx.mk (show ¬ ((x1, x2) : Fd) = (x1, y2) from fun h => h2 (by injection h))
            clear h2
            go_wp2
            go_region
            go_wp2
            go_ret
            exact ⟨ret_bool (by rw [← HR.out]; exact (decide_eq_false (HNE.out HX.out)).symm), HB.out.drew⟩
        · have hn : ¬ x1.toList = y1.toList := fun h => h1 (str_eq _ _ h)
          have HX := Bx.mk (show ¬ ((x1, x2) : Fd) = (y1, y2) from fun h => h1 (by injection h))
          clear h1
          go_wp2
          go_region
          go_wp2
          go_ret
          exact ⟨ret_bool (by rw [← HR.out]; exact (decide_eq_false (HNE.out HX.out)).symm), HB.out.drew⟩
  · have hd : ((a.length : Int) == (b.length : Int)) = false := by rw [beq_eq_false_iff_ne]; omega
    have hd2 : ((a.length : Int) != (b.length : Int)) = true := by rw [bne, hd]; rfl
    have hr : decide (a = b) = false := by rw [decide_eq_false_iff_not]; rintro rfl; exact hll rfl
    rw [hr]
    clear hll hr
    go_enter Try.func16, Try.ntmps16
    go_wp2
    go_ret
    exact ⟨rfl, Below.refl _ _⟩

end Go.Proofs.Ytejkbibahbcofaa

/-
  A reader alone, two readers side by side, as the laws use them.
-/
namespace Go.Proofs.Ytejkbibahbcofaa
open Go.RowKit Go.Maps
set_option linter.unusedVariables false

/-- The program's reader, all that it holds made since block B. -/
def OneP (B q t : Nat) (T : Tab) (mx : Nat) (mu bd : Bool) (w : World) : Prop := ∃ S, Pc q t T mx mu bd w S ∧ ∀ k, S k → B ≤ k
/-- Both readers, apart from one another. -/
def TwoD (B q t : Nat) (T : Tab) (mx : Nat) (mu bd : Bool) (q' t' : Nat) (U : Tab) (mx' : Nat) (mu' bd' : Bool) (w : World) : Prop :=
  ∃ S S', Pc q t T mx mu bd w S ∧ Dc q' t' U mx' mu' bd' w S' ∧ (∀ k, S k → ¬ S' k) ∧ (∀ k, S k → B ≤ k) ∧ ∀ k, S' k → B ≤ k
section
variable {B q t mx q' t' mx' : Nat} {T T' U U' : Tab} {mu bd mu' bd' : Bool} {w w' : World}
theorem OneP.keep (h : OneP B q t T mx mu bd w) (hb : Below w.heap.size w w') : OneP B q t T mx mu bd w' := by
  obtain ⟨S, h1, h2⟩ := h
  exact ⟨S, h1.keep hb, h2⟩
theorem TwoD.keep (h : TwoD B q t T mx mu bd q' t' U mx' mu' bd' w) (hb : Below w.heap.size w w') : TwoD B q t T mx mu bd q' t' U mx' mu' bd' w' := by
  obtain ⟨S, S', h1, h2, h3, h4, h5⟩ := h
  exact ⟨S, S', h1.keep hb, h2.keep hb, h3, h4, h5⟩
theorem OneP.turn {S : Nat → Prop} {mx1 : Nat} {mu1 bd1 : Bool} (h2 : ∀ k, S k → B ≤ k) (hB : B ≤ w.heap.size) (ht : Turn (Pc q t T' mx1 mu1 bd1) S w w') : OneP B q t T' mx1 mu1 bd1 w' ∧ Below B w w' := by
  obtain ⟨S1, x, s, f⟩ := ht
  exact ⟨⟨S1, x, fun k hk => (s k hk).elim (h2 k) fun h => Nat.le_trans hB h⟩, f.below hB h2⟩
theorem TwoD.left {S S' : Nat → Prop} {mx1 : Nat} {mu1 bd1 : Bool} (h2 : Dc q' t' U mx' mu' bd' w S') (h3 : ∀ k, S k → ¬ S' k) (h4 : ∀ k, S k → B ≤ k) (h5 : ∀ k, S' k → B ≤ k) (hB : B ≤ w.heap.size) (ht : Turn (Pc q t T' mx1 mu1 bd1) S w w') :
    TwoD B q t T' mx1 mu1 bd1 q' t' U mx' mu' bd' w' ∧ Below B w w' := by
  obtain ⟨S1, x, s, f⟩ := ht
  refine ⟨⟨S1, S', x, h2.besides f (fun k hk hs => h3 k hs hk), fun k hk hs => ?_, fun k hk => ?_, h5⟩, f.below hB h4⟩
  · rcases s k hk with h | h
    · exact h3 k h hs
    · have := h2.lt k hs; omega
  · rcases s k hk with h | h
    · exact h4 k h
    · omega
theorem TwoD.right {S S' : Nat → Prop} {mx1 : Nat} {mu1 bd1 : Bool} (h2 : Pc q t T mx mu bd w S) (h3 : ∀ k, S k → ¬ S' k) (h4 : ∀ k, S k → B ≤ k) (h5 : ∀ k, S' k → B ≤ k) (hB : B ≤ w.heap.size) (ht : Turn (Dc q' t' U' mx1 mu1 bd1) S' w w') :
    TwoD B q t T mx mu bd q' t' U' mx1 mu1 bd1 w' ∧ Below B w w' := by
  obtain ⟨S1, x, s, f⟩ := ht
  refine ⟨⟨S, S1, h2.besides f (fun k hk hs => h3 k hk hs), x, fun k hk hs => ?_, h4, fun k hk => ?_⟩, f.below hB h5⟩
  · rcases s k hs with h | h
    · exact h3 k hk h
    · have := h2.lt k hk; omega
  · rcases s k hk with h | h
    · exact h5 k h
    · omega
theorem TwoD.one (h : TwoD B q t T mx mu bd q' t' U mx' mu' bd' w) : OneP B q t T mx mu bd w := by
  obtain ⟨S, S', h1, h2, h3, h4, h5⟩ := h
  exact ⟨S, h1, h4⟩

theorem OneP.new (n : Int) (w : World) : Calls Try.prog 11 #[.int .i64 n] w fun e w' => ∃ q t, e = .returned (.pointer (some ⟨q, 0, none⟩)) ∧ OneP w.heap.size q t (Tab.new (clampN n : Int)) (clampN n) false false w' ∧ Below w.heap.size w w' := by
  refine (pnew_any n w).mono ?_
  rintro e w' ⟨q, t, S, rfl, h1, h2, h3⟩
  exact ⟨q, t, rfl, ⟨S, h1, h2⟩, h3⟩
theorem OneP.newRef (h : OneP B q t T mx mu bd w) (hB : B ≤ w.heap.size) (n : Int) : Calls Try.prog 12 #[.int .i64 n] w fun e w' => ∃ q' t', e = .returned (.pointer (some ⟨q', 0, none⟩)) ∧ TwoD B q t T mx mu bd q' t' (Tab.new (clampN n : Int)) (clampN n) false false w' ∧ Below B w w' := by
  obtain ⟨S, h1, h2⟩ := h
  refine (newDecoder_any n w).mono ?_
  rintro e w' ⟨q', t', S', rfl, k1, k2, k3⟩
  exact ⟨q', t', rfl, ⟨S, S', h1.keep k3, k1, fun k hk hk' => by have := h1.lt k hk; have := k2 k hk'; omega, h2, fun k hk => Nat.le_trans hB (k2 k hk)⟩, k3.mono hB⟩


theorem OneP.decode (h : OneP B q t T mx mu false w) (hB : B ≤ w.heap.size) (hgd : T.gd) (htot : T.tot + 300 ≤ 1000000) (hmx : mx ≤ 4096) {bV : Value} {l : List UInt8} (hb : Bs w bV l) (hl : l.length ≤ 100000) :
    Calls Try.prog 14 #[.pointer (some ⟨q, 0, none⟩), bV] w fun e w' => Below B w w' ∧ match ldec mx mu T l with
      | none => e = .returned (.tuple #[.slice none 0 0, .int .i64 26]) ∧ OneP B q t T mx mu true w'
      | some s => ∃ v, e = .returned (.tuple #[v, .int .i64 0]) ∧ Fs w' v s.out ∧ OneP B q t s.T mx false false w' := by
  obtain ⟨S, h1, h2⟩ := h
  refine (pdecode_any h1 hgd htot hmx hb hl).mono ?_
  rintro e w' (⟨hn, rfl, ht⟩ | ⟨s, v, hn, rfl, hf, S9, hv9, x9, s9, f9⟩)
  · obtain ⟨o, b⟩ := OneP.turn h2 hB ht
    rw [hn]
    exact ⟨b, rfl, o⟩
  · obtain ⟨o, b⟩ := OneP.turn h2 hB ⟨S9, x9, s9, f9⟩
    rw [hn]
    exact ⟨b, v, rfl, hf, o⟩
theorem TwoD.decode (h : TwoD B q t T mx mu false q' t' U mx' mu' bd' w) (hB : B ≤ w.heap.size) (hgd : T.gd) (htot : T.tot + 300 ≤ 1000000) (hmx : mx ≤ 4096) {bV : Value} {l : List UInt8} (hb : Bs w bV l) (hl : l.length ≤ 100000) :
    Calls Try.prog 14 #[.pointer (some ⟨q, 0, none⟩), bV] w fun e w' => Below B w w' ∧ match ldec mx mu T l with
      | none => e = .returned (.tuple #[.slice none 0 0, .int .i64 26]) ∧ TwoD B q t T mx mu true q' t' U mx' mu' bd' w'
      | some s => ∃ v, e = .returned (.tuple #[v, .int .i64 0]) ∧ Fs w' v s.out ∧ (∀ k, v.ownBlock = some k → w.heap.size ≤ k) ∧ TwoD B q t s.T mx false false q' t' U mx' mu' bd' w' := by
  obtain ⟨S, S', h1, h2, h3, h4, h5⟩ := h
  refine (pdecode_any h1 hgd htot hmx hb hl).mono ?_
  rintro e w' (⟨hn, rfl, ht⟩ | ⟨s, v, hn, rfl, hf, S9, hv9, x9, s9, f9⟩)
  · obtain ⟨o, b⟩ := TwoD.left h2 h3 h4 h5 hB ht
    rw [hn]
    exact ⟨b, rfl, o⟩
  · obtain ⟨o, b⟩ := TwoD.left h2 h3 h4 h5 hB ⟨S9, x9, s9, f9⟩
    rw [hn]
    exact ⟨b, v, rfl, hf, fun k hk => (hv9 k hk).1, o⟩
/-- A reader, and answers of it that stand. -/
def OneV (B q t : Nat) (T : Tab) (mx : Nat) (mu bd : Bool) (vs : List (Value × List Fd)) (w : World) : Prop :=
  ∃ S, Pc q t T mx mu bd w S ∧ (∀ k, S k → B ≤ k) ∧ ∀ x ∈ vs, Fs w x.1 x.2 ∧ ∀ k, x.1.ownBlock = some k → ¬ S k ∧ k < w.heap.size
theorem OneV.of (h : OneP B q t T mx mu bd w) : OneV B q t T mx mu bd [] w := by
  obtain ⟨S, h1, h2⟩ := h
  exact ⟨S, h1, h2, fun x hx => by cases hx⟩
theorem OneV.keep {vs : List (Value × List Fd)} (h : OneV B q t T mx mu bd vs w) (hb : Below w.heap.size w w') : OneV B q t T mx mu bd vs w' := by
  obtain ⟨S, h1, h2, h3⟩ := h
  exact ⟨S, h1.keep hb, h2, fun x hx => ⟨(h3 x hx).1.keep hb, fun k hk => ⟨((h3 x hx).2 k hk).1, Nat.lt_of_lt_of_le ((h3 x hx).2 k hk).2 hb.size⟩⟩⟩
theorem Fs.blk {v : Value} {l : List Fd} (h : Fs w v l) (hb : ∀ g, v.ownBlock = some g → w'.heap[g]? = w.heap[g]?) : Fs w' v l := Rn.keepB h hb
theorem OneV.decode {vs : List (Value × List Fd)} (h : OneV B q t T mx mu false vs w) (hB : B ≤ w.heap.size) (hgd : T.gd) (htot : T.tot + 300 ≤ 1000000) (hmx : mx ≤ 4096) {bV : Value} {l : List UInt8} (hb : Bs w bV l) (hl : l.length ≤ 100000) :
    Calls Try.prog 14 #[.pointer (some ⟨q, 0, none⟩), bV] w fun e w' => Below B w w' ∧ match ldec mx mu T l with
      | none => e = .returned (.tuple #[.slice none 0 0, .int .i64 26]) ∧ OneV B q t T mx mu true vs w'
      | some s => ∃ v, e = .returned (.tuple #[v, .int .i64 0]) ∧ OneV B q t s.T mx false false ((v, s.out) :: vs) w' := by
  obtain ⟨S, h1, h2, h3⟩ := h
  refine (pdecode_any h1 hgd htot hmx hb hl).mono ?_
  rintro e w' (⟨hn, rfl, ht⟩ | ⟨s, v, hn, rfl, hf, S9, hv9, x9, s9, f9⟩)
  · obtain ⟨S1, x, s1, f⟩ := ht
    rw [hn]
    exact ⟨f.below hB h2, rfl, S1, x, fun k hk => (s1 k hk).elim (h2 k) fun h => Nat.le_trans hB h, fun y hy => ⟨(h3 y hy).1.blk fun g hg => f.block g ((h3 y hy).2 g hg).2 ((h3 y hy).2 g hg).1, fun k hk => ⟨fun hs => (s1 k hs).elim ((h3 y hy).2 k hk).1 fun h => by have := ((h3 y hy).2 k hk).2; omega, Nat.lt_of_lt_of_le ((h3 y hy).2 k hk).2 f.size⟩⟩⟩
  · rw [hn]
    refine ⟨f9.below hB h2, v, rfl, S9, x9, fun k hk => (s9 k hk).elim (h2 k) fun h => Nat.le_trans hB h, fun y hy => ?_⟩
    rcases List.mem_cons.1 hy with rfl | hy
    · exact ⟨hf, fun k hk => (hv9 k hk).2⟩
    · exact ⟨(h3 y hy).1.blk fun g hg => f9.block g ((h3 y hy).2 g hg).2 ((h3 y hy).2 g hg).1, fun k hk => ⟨fun hs => (s9 k hs).elim ((h3 y hy).2 k hk).1 fun h => by have := ((h3 y hy).2 k hk).2; omega, Nat.lt_of_lt_of_le ((h3 y hy).2 k hk).2 f9.size⟩⟩
end

end Go.Proofs.Ytejkbibahbcofaa

/-
  A broken reader; the contract of the statements' known.
-/
namespace Go.Proofs.Ytejkbibahbcofaa
open Go.RowKit Go.Maps
set_option linter.unusedVariables false

set_option maxRecDepth 100000 in
set_option maxHeartbeats 1000000 in
theorem pbroken_any {q t mx : Nat} {T : Tab} {mu : Bool} {w : World} {S : Nat → Prop} (h : Pc q t T mx mu true w S) (bV : Value) :
    Calls Try.prog 14 #[.pointer (some ⟨q, 0, none⟩), bV] w fun e w' => e = .returned (.tuple #[.slice none 0 0, .int .i64 26]) ∧ w = w' := by
  obtain ⟨c0, c1, c2, c3⟩ := h.cells
  clear h
  go_enter Try.func14, Try.ntmps14
  go_wp2_with fail
  go_ret2
  exact ⟨rfl, rfl⟩
set_option maxRecDepth 100000 in
set_option maxHeartbeats 1000000 in
theorem dbroken_any {q t mx : Nat} {T : Tab} {mu : Bool} {w : World} {S : Nat → Prop} (h : Dc q t T mx mu true w S) (bV : Value) :
    Calls Try.prog 15 #[.pointer (some ⟨q, 0, none⟩), bV] w fun e w' => e = .returned (.tuple #[.slice none 0 0, .int .i64 26]) ∧ w = w' := by
  obtain ⟨c0, c1, c2, c3⟩ := h.cells
  clear h
  go_enter Try.func15, Try.ntmps15
  go_wp2_with fail
  go_ret2
  exact ⟨rfl, rfl⟩

theorem Bs.lits (w : World) (cs : Array Value) (l : List UInt8) (hc : cs.toList = l.map bv) (hn : l.length ≤ 1000) : Bs (w.alloc (.cells cs 5)) (.slice (some ⟨w.heap.size, 0, none⟩) l.length l.length) l := by
  have h := Rd.lit w 5 cs l.length (by rw [← Array.length_toList, hc, List.length_map]) (by unfold maxLen; omega)
  rw [hc] at h
  exact h

/-- One line more, its step known. -/
theorem lrun_one {mx : Nat} {mu : Bool} {s s' : Ls} {R : Option Ls} (hb : s.b ≠ []) (h : lstep mx mu s = some s') (hl : s'.b.length < s.b.length) (hr : lrun mx mu s' = R) : lrun mx mu s = R := by rw [lrun_next hb h hl, hr]

def kM : Fd := (⟨#[58, 109, 101, 116, 104, 111, 100]⟩, ⟨#[71, 69, 84]⟩)
def kAB : Fd := (⟨#[97]⟩, ⟨#[98]⟩)
def kT1 : Tab := ⟨[kAB], 4096, 1⟩
theorem hknown1 : ldec 4096 false (Tab.new 4096) [130, 64, 1, 97, 1, 98] = some ⟨kT1, [], [kAB], [kM, kAB], []⟩ := by
  unfold ldec
  rw [show lrun 4096 false ⟨Tab.new 4096, [], [], [], [130, 64, 1, 97, 1, 98]⟩ = some ⟨kT1, [], [kAB], [kM, kAB], []⟩ from
    lrun_one (s' := ⟨Tab.new 4096, [], [], [kM], [64, 1, 97, 1, 98]⟩) (by simp) (by kernel_rfl) (by simp) (lrun_one (s' := ⟨kT1, [], [kAB], [kM, kAB], []⟩) (by simp) (by kernel_rfl) (by simp) (lrun_nil rfl))]
  rfl
theorem hknown2 : ldec 4096 false kT1 [190] = some ⟨kT1, [], [], [kAB], []⟩ := by
  unfold ldec
  rw [show lrun 4096 false ⟨kT1, [], [], [], [190]⟩ = some ⟨kT1, [], [], [kAB], []⟩ from lrun_one (s' := ⟨kT1, [], [], [kAB], []⟩) (by simp) (by kernel_rfl) (by simp) (lrun_nil rfl)]
  rfl
theorem hknown3 : ldec 4096 false kT1 [128] = none := by
  unfold ldec
  rw [show lrun 4096 false ⟨kT1, [], [], [], [128]⟩ = none from lrun_bad (by simp) (by kernel_rfl)]
theorem hknown4 : sb 7 [1, 120, 121] = ([120], 2, 0) := by kernel_rfl
theorem gd_new (n : Nat) (h : n ≤ 4096) : (Tab.new (n : Int)).gd := ⟨by simp only [Tab.new]; omega, by simp [Tab.new, sizeF]⟩

set_option maxRecDepth 100000 in
set_option maxHeartbeats 4000000 in
theorem hknown_any (w : World) : Calls Try.prog 10 #[] w fun e w' => e = .returned (.bool true) ∧ Below w.heap.size w w' := by
  go_enter Try.func10, Try.ntmps10
  go_wp2_with fail
  refine (OneP.new 4096 w).mono ?_
  rintro e w1 ⟨q, t, rfl, h1, b1⟩
  rw [show clampN 4096 = 4096 from rfl, show Tab.new ((4096 : Nat) : Int) = Tab.new 4096 from rfl] at h1
  have H1 := Bx.mk (OneV.of h1)
  have B1 := Bx.mk b1
  clear h1 b1
  go_wp2_with fail
  have hb1 := (Below.refl w1.heap.size w1).alloc (Nat.le_refl _) (.cells #[.int .u8 130, .int .u8 64, .int .u8 1, .int .u8 97, .int .u8 1, .int .u8 98] 5)
  refine ((H1.out.keep hb1).decode (Nat.le_trans B1.out.size hb1.size) (gd_new 4096 (Nat.le_refl _)) (by simp [Tab.new]) (Nat.le_refl _) (Bs.lits w1 #[.int .u8 130, .int .u8 64, .int .u8 1, .int .u8 97, .int .u8 1, .int .u8 98] [130, 64, 1, 97, 1, 98] rfl (by simp)) (by simp)).mono ?_
  rintro e w2 ⟨b2, hp⟩
  rw [hknown1] at hp
  obtain ⟨v2, rfl, h2⟩ := hp
  have H2 := Bx.mk h2
  have B2 := Bx.mk ((B1.out.trans (hb1.mono B1.out.size)).trans b2)
  clear hb1 h2 b2
  go_wp2_with fail
  have hb2 := (Below.refl w2.heap.size w2).alloc (Nat.le_refl _) (.cells #[.int .u8 190] 5)
  refine ((H2.out.keep hb2).decode (Nat.le_trans B2.out.size hb2.size) (by unfold kT1 Tab.gd; decide +kernel) (by simp [kT1]) (Nat.le_refl _) (Bs.lits w2 #[.int .u8 190] [190] rfl (by simp)) (by simp)).mono ?_
  rintro e w3 ⟨b3, hp⟩
  rw [hknown2] at hp
  obtain ⟨v3, rfl, h3⟩ := hp
  have H3 := Bx.mk h3
  have B3 := Bx.mk ((B2.out.trans (hb2.mono B2.out.size)).trans b3)
  clear hb2 h3 b3
  go_wp2_with fail
  have hb3 := (Below.refl w3.heap.size w3).alloc (Nat.le_refl _) (.cells #[.int .u8 128] 5)
  refine ((H3.out.keep hb3).decode (Nat.le_trans B3.out.size hb3.size) (by unfold kT1 Tab.gd; decide +kernel) (by simp [kT1]) (Nat.le_refl _) (Bs.lits w3 #[.int .u8 128] [128] rfl (by simp)) (by simp)).mono ?_
  rintro e w4 ⟨b4, hp⟩
  rw [hknown3] at hp
  obtain ⟨rfl, h4⟩ := hp
  have H4 := Bx.mk h4
  have B4 := Bx.mk ((B3.out.trans (hb3.mono B3.out.size)).trans b4)
  clear hb3 h4 b4
  go_wp2_with fail
  have hb4 := (Below.refl w4.heap.size w4).alloc (Nat.le_refl _) (.cells #[.int .u8 130] 5)
  have h5 := H4.out.keep hb4
  have hpc : ∃ S, Pc q t kT1 4096 false true (w4.alloc (.cells #[.int .u8 130] 5)) S := by obtain ⟨S, h, _⟩ := h5; exact ⟨S, h⟩
  obtain ⟨S5, hpc⟩ := hpc
  refine (pbroken_any hpc _).mono ?_
  rintro e w5 ⟨rfl, rfl⟩
  have H5 := Bx.mk h5
  have B5 := Bx.mk (B4.out.trans (hb4.mono B4.out.size))
  clear h5 hb4 hpc
  generalize w4.alloc (.cells #[.int .u8 130] 5) = w5 at H5 B5 ⊢
  go_wp2_with fail
  have hb5 := (Below.refl w5.heap.size w5).alloc (Nat.le_refl _) (.cells #[.int .u8 1, .int .u8 120, .int .u8 121] 5)
  refine (str_any _ [1, 120, 121] _ (Bs.lits w5 #[.int .u8 1, .int .u8 120, .int .u8 121] [1, 120, 121] rfl (by simp)) (by simp)).mono ?_
  rintro e w6 ⟨rfl, b6⟩
  rw [hknown4, show AnsS ([120], 2, 0) = .returned (.tuple #[.string ⟨#[120]⟩, .int .i64 2, .int .i64 0]) from rfl]
  have H6 := Bx.mk ((H5.out.keep hb5).keep b6)
  have B6 := Bx.mk ((B5.out.trans (hb5.mono B5.out.size)).trans (b6.mono (Nat.le_trans B5.out.size hb5.size)))
  obtain ⟨S6, _, _, hvs⟩ := H6.out
  have F2 := Bx.mk (hvs (v2, [kM, kAB]) (by simp)).1
  have F3 := Bx.mk (hvs (v3, [kAB]) (by simp)).1
  clear hb5 b6 hvs
  go_wp2_with fail
  have hb7 := (Below.refl w6.heap.size w6).alloc (Nat.le_refl _) (.cells #[.string ⟨#[58, 109, 101, 116, 104, 111, 100]⟩, .string ⟨#[71, 69, 84]⟩, .string ⟨#[97]⟩, .string ⟨#[98]⟩] 61)
  refine (fields_any v2 _ [kM, kAB] [kM, kAB] _ (F2.out.keep hb7) (Fs.lits w6 #[.string ⟨#[58, 109, 101, 116, 104, 111, 100]⟩, .string ⟨#[71, 69, 84]⟩, .string ⟨#[97]⟩, .string ⟨#[98]⟩] [kM, kAB] rfl (by simp))).mono ?_
  rintro e w7 ⟨rfl, b7⟩
  rw [decide_eq_true (rfl : [kM, kAB] = [kM, kAB])]
  have F7 := Bx.mk ((F3.out.keep hb7).keep b7)
  have B7 := Bx.mk ((B6.out.trans (hb7.mono B6.out.size)).trans (b7.mono (Nat.le_trans B6.out.size hb7.size)))
  have hlen3 := fun ty W => F3.out.run_len ty W
  obtain ⟨g3, o3, hix3, hc3⟩ := F3.out.at_ 0 (by simp)
  obtain ⟨q1, q2⟩ := hc3 w7 F7.out
  have hix30 : ∀ W : World, (Instr.indexAt 36 v3 (.int .i64 0)).run Try.prog W = .ok (.pointer (some ⟨g3, o3, none⟩)) W := fun W => hix3 .i64 W
  have q20 : w7.cell? ⟨g3, o3 + 1, none⟩ = some (.string ⟨#[98]⟩) := q2
  have hlen30 : ∀ ty W, (Builtin.len_ #[36] ty #[v3]).run Try.prog W = .ok (.int .i64 1) W := fun ty W => hlen3 ty W
  have hs1 : (⟨#[98]⟩ : ByteArray).toList = [98] := by rw [Lib.toList_data]
  have hs2 : (⟨#[120]⟩ : ByteArray).toList = [120] := by rw [Lib.toList_data]
  clear hb7 b7 hlen3 hc3 hix3 q1 q2
  go_wp2_with fail
  go_ret
  exact ⟨rfl, B7.out⟩

end Go.Proofs.Ytejkbibahbcofaa

/-
  Both readers in step: the same bytes, the same answers.
-/
namespace Go.Proofs.Ytejkbibahbcofaa
open Go.RowKit Go.Maps
set_option linter.unusedVariables false

/-- What both readers are to be: the table, the limit, whether a size must come; none: broken. -/
abbrev Rs := Option (Tab × Nat × Bool)
def Rs.read (st : Rs) (l : List UInt8) : Option Ls := match st with
  | none => none
  | some (T, mx, mu) => ldec mx mu T l
def Rs.next (st : Rs) (x : Option Ls) : Rs := match st, x with
  | some (T, mx, mu), some s => some (s.T, mx, false)
  | _, _ => none
def errN (x : Option Ls) : Nat := match x with
  | none => 26
  | some _ => 0
def outN (x : Option Ls) : List Fd := match x with
  | none => []
  | some s => s.out
/-- One reader is as st says. -/
def Rs.is (st : Rs) (T : Tab) (mx : Nat) (mu bd : Bool) : Prop := match st with
  | none => bd = true
  | some (T0, m0, u0) => bd = false ∧ T = T0 ∧ mx = m0 ∧ mu = u0 ∧ T0.gd ∧ m0 ≤ 4096
/-- Both readers, as st and st' say, apart from one another and from the blocks of P. -/
def Sm (B q t q' t' : Nat) (st st' : Rs) (P : Nat → Prop) (w : World) : Prop :=
  ∃ S S' T mx mu bd U mx' mu' bd', Pc q t T mx mu bd w S ∧ Dc q' t' U mx' mu' bd' w S' ∧ (∀ k, S k → ¬ S' k) ∧ (∀ k, S k → B ≤ k) ∧ (∀ k, S' k → B ≤ k) ∧ (∀ k, P k → ¬ S k ∧ ¬ S' k ∧ k < w.heap.size) ∧
    st.is T mx mu bd ∧ st'.is U mx' mu' bd'
section
variable {B q t q' t' : Nat} {st st' : Rs} {P P' : Nat → Prop} {w w' : World}
theorem Sm.keep (h : Sm B q t q' t' st st' P w) (hb : Below w.heap.size w w') : Sm B q t q' t' st st' P w' := by
  obtain ⟨S, S', T, mx, mu, bd, U, mx', mu', bd', h1, h2, h3, h4, h5, h6, h7⟩ := h
  exact ⟨S, S', T, mx, mu, bd, U, mx', mu', bd', h1.keep hb, h2.keep hb, h3, h4, h5, fun k hk => ⟨(h6 k hk).1, (h6 k hk).2.1, Nat.lt_of_lt_of_le (h6 k hk).2.2 hb.size⟩, h7⟩
/-- Blocks that are new are apart. -/
theorem Sm.apart (h : Sm B q t q' t' st st' P w) (hb : Below w.heap.size w w') (hp : ∀ k, P' k → P k ∨ (w.heap.size ≤ k ∧ k < w'.heap.size)) : Sm B q t q' t' st st' P' w' := by
  obtain ⟨S, S', T, mx, mu, bd, U, mx', mu', bd', h1, h2, h3, h4, h5, h6, h7⟩ := h
  refine ⟨S, S', T, mx, mu, bd, U, mx', mu', bd', h1.keep hb, h2.keep hb, h3, h4, h5, fun k hk => ?_, h7⟩
  rcases hp k hk with h | ⟨h8, h9⟩
  · exact ⟨(h6 k h).1, (h6 k h).2.1, Nat.lt_of_lt_of_le (h6 k h).2.2 hb.size⟩
  · exact ⟨fun hs => by have := h1.lt k hs; omega, fun hs => by have := h2.lt k hs; omega, h9⟩
theorem Sm.of {T : Tab} {mx : Nat} (h : TwoD B q t T mx false false q' t' T mx false false w) (hg : T.gd) (hm : mx ≤ 4096) : Sm B q t q' t' (some (T, mx, false)) (some (T, mx, false)) (fun _ => False) w := by
  obtain ⟨S, S', h1, h2, h3, h4, h5⟩ := h
  exact ⟨S, S', T, mx, false, false, T, mx, false, false, h1, h2, h3, h4, h5, fun k hk => hk.elim, ⟨rfl, rfl, rfl, rfl, hg, hm⟩, ⟨rfl, rfl, rfl, rfl, hg, hm⟩⟩
theorem Bs.blk {v : Value} {l : List UInt8} (h : Bs w v l) (hb : ∀ g, v.ownBlock = some g → w'.heap[g]? = w.heap[g]?) : Bs w' v l := by
  obtain ⟨A, c, rfl, h1, h2, h3⟩ := h
  refine ⟨A, c, rfl, h1, h2, h3.imp id ?_⟩
  rintro ⟨x, rfl, hc⟩
  refine ⟨x, rfl, fun j u hu => ?_⟩
  have hj := hc j u hu
  have hbk : (Addr.add x j).block = x.block := by unfold Addr.add; split <;> rfl
  have := hb x.block rfl
  unfold World.cell? at hj ⊢
  rw [hbk] at hj ⊢
  rw [this]
  exact hj
theorem Bs.none_ {v : Value} (h : Bs w v []) (W : World) : Bs W v [] := by
  obtain ⟨A, c, rfl, h1, h2, h3⟩ := h
  exact ⟨A, c, rfl, h1, h2, h3.imp id (by rintro ⟨x, rfl, hc⟩; exact ⟨x, rfl, fun j u hu => by simp at hu⟩)⟩
theorem Bs.block {v : Value} {l : List UInt8} (h : Bs w v l) : l = [] ∨ ∀ g, v.ownBlock = some g → g < w.heap.size := by
  by_cases hl : l = []
  · exact .inl hl
  · refine .inr fun g hg => ?_
    obtain ⟨b, o, c, rfl, _, _, hb, _⟩ := Rd.at_ h (by simpa using List.length_pos_iff.2 hl)
    simp only [Value.ownBlock, Option.some.injEq] at hg
    omega
theorem rs_inv {st : Rs} {T : Tab} {mx : Nat} {mu bd : Bool} (h : st.is T mx mu bd) {l : List UInt8} {s : Ls} (hx : st.read l = some s) : (st.next (some s)).is s.T mx false false := by
  cases st with
  | none => cases hx
  | some y =>
    obtain ⟨T0, m0, u0⟩ := y
    obtain ⟨rfl, rfl, rfl, rfl, hg, hm⟩ := h
    exact ⟨rfl, rfl, rfl, rfl, (ldec_inv hm hg hx).gd, hm⟩

/-- The program's reader reads. -/
theorem Sm.decP (h : Sm B q t q' t' st st' P w) (hB : B ≤ w.heap.size) (htot : ∀ T mx mu, st = some (T, mx, mu) → T.tot + 300 ≤ 1000000) {bV : Value} {l : List UInt8} (hb : Bs w bV l) (hl : l.length ≤ 100000) :
    Calls Try.prog 14 #[.pointer (some ⟨q, 0, none⟩), bV] w fun e w' => ∃ v, e = .returned (.tuple #[v, .int .i64 (errN (st.read l) : Int)]) ∧ Fs w' v (outN (st.read l)) ∧
      Sm B q t q' t' (st.next (st.read l)) st' (fun k => P k ∨ v.ownBlock = some k) w' ∧ Below B w w' ∧ ∀ g, P g → w'.heap[g]? = w.heap[g]? := by
  obtain ⟨S, S', T, mx, mu, bd, U, mx', mu', bd', h1, h2, h3, h4, h5, h6, h7, h8⟩ := h
  cases st with
  | none =>
    obtain rfl : bd = true := h7
    refine (pbroken_any h1 bV).mono ?_
    rintro e w' ⟨rfl, rfl⟩
    exact ⟨_, rfl, Rn.nil 2 w, ⟨S, S', T, mx, mu, true, U, mx', mu', bd', h1, h2, h3, h4, h5, fun k hk => hk.elim (h6 k) fun h => by simp [Value.ownBlock] at h, rfl, h8⟩, Below.refl _ _, fun _ _ => rfl⟩
  | some y =>
    obtain ⟨T0, m0, u0⟩ := y
    have h7' := h7
    obtain ⟨rfl, rfl, rfl, rfl, hg, hm⟩ := h7
    refine (pdecode_any h1 hg (htot _ _ _ rfl) hm hb hl).mono ?_
    rintro e w' (⟨hn, rfl, ht⟩ | ⟨s, v, hn, rfl, hf, S9, hv9, x9, s9, f9⟩)
    · obtain ⟨S1, x, s1, f⟩ := ht
      have hx : Rs.read (some (T, mx, mu)) l = none := hn
      rw [hx]
      refine ⟨_, rfl, Rn.nil 2 w', ⟨S1, S', T, mx, mu, true, U, mx', mu', bd', x, h2.besides f (fun k hk hs => h3 k hs hk), fun k hk hs => ?_, fun k hk => (s1 k hk).elim (h4 k) fun h => Nat.le_trans hB h, h5, fun k hk => ?_, rfl, h8⟩, f.below hB h4, fun g hg => f.block g (h6 g hg).2.2 (h6 g hg).1⟩
      · rcases s1 k hk with h | h
        · exact h3 k h hs
        · have := h2.lt k hs; omega
      · rcases hk with hk | hk
        · exact ⟨fun hs => (s1 k hs).elim (h6 k hk).1 fun h => by have := (h6 k hk).2.2; omega, (h6 k hk).2.1, Nat.lt_of_lt_of_le (h6 k hk).2.2 f.size⟩
        · simp [Value.ownBlock] at hk
    · have hx : Rs.read (some (T, mx, mu)) l = some s := hn
      rw [hx]
      refine ⟨v, rfl, hf, ⟨S9, S', s.T, mx, false, false, U, mx', mu', bd', x9, h2.besides f9 (fun k hk hs => h3 k hs hk), fun k hk hs => ?_, fun k hk => (s9 k hk).elim (h4 k) fun h => Nat.le_trans hB h, h5, fun k hk => ?_, rs_inv h7' hx, h8⟩, f9.below hB h4, fun g hg => f9.block g (h6 g hg).2.2 (h6 g hg).1⟩
      · rcases s9 k hk with h | h
        · exact h3 k h hs
        · have := h2.lt k hs; omega
      · rcases hk with hk | hk
        · exact ⟨fun hs => (s9 k hs).elim (h6 k hk).1 fun h => by have := (h6 k hk).2.2; omega, (h6 k hk).2.1, Nat.lt_of_lt_of_le (h6 k hk).2.2 f9.size⟩
        · exact ⟨(hv9 k hk).2.1, fun hs => by have := h2.lt k hs; have := (hv9 k hk).1; omega, (hv9 k hk).2.2⟩
/-- The document's reader reads. -/
theorem Sm.decD (h : Sm B q t q' t' st st' P w) (hB : B ≤ w.heap.size) (htot : ∀ T mx mu, st' = some (T, mx, mu) → T.tot + 300 ≤ 1000000) {bV : Value} {l : List UInt8} (hb : Bs w bV l) (hp : l = [] ∨ ∀ g, bV.ownBlock = some g → P g ∨ g < B) (hl : l.length ≤ 100000) :
    Calls Try.prog 15 #[.pointer (some ⟨q', 0, none⟩), bV] w fun e w' => ∃ v, e = .returned (.tuple #[v, .int .i64 (errN (st'.read l) : Int)]) ∧ Fs w' v (outN (st'.read l)) ∧
      Sm B q t q' t' st (st'.next (st'.read l)) P w' ∧ Below B w w' ∧ ∀ g, P g → w'.heap[g]? = w.heap[g]? := by
  obtain ⟨S, S', T, mx, mu, bd, U, mx', mu', bd', h1, h2, h3, h4, h5, h6, h7, h8⟩ := h
  cases st' with
  | none =>
    obtain rfl : bd' = true := h8
    refine (dbroken_any h2 bV).mono ?_
    rintro e w' ⟨rfl, rfl⟩
    exact ⟨_, rfl, Rn.nil 2 w, ⟨S, S', T, mx, mu, bd, U, mx', mu', true, h1, h2, h3, h4, h5, h6, h7, rfl⟩, Below.refl _ _, fun _ _ => rfl⟩
  | some y =>
    obtain ⟨T0, m0, u0⟩ := y
    have h8' := h8
    obtain ⟨rfl, rfl, rfl, rfl, hg, hm⟩ := h8
    have hbs : ∀ W, Fp S' w W → Bs W bV l := fun W hW => by
      rcases hp with rfl | hp
      · exact hb.none_ W
      by_cases hlt : ∃ g, bV.ownBlock = some g ∧ ¬ g < w.heap.size
      · obtain ⟨g, hg1, hg2⟩ := hlt
        rcases hp g hg1 with h | h
        · exact absurd (h6 g h).2.2 hg2
        · omega
      · refine hb.blk fun g hg => hW.block g (Decidable.byContradiction fun h => hlt ⟨g, hg, h⟩) fun hs => ?_
        rcases hp g hg with h | h
        · exact (h6 g h).2.1 hs
        · have := h5 g hs; omega
    refine (ddecode_any h2 hg (by have := htot _ _ _ rfl; omega) hm hbs hl).mono ?_
    rintro e w' (⟨hn, rfl, U', ht⟩ | ⟨s, v, hn, rfl, hf, hv, ht⟩)
    · obtain ⟨S1, x, s1, f⟩ := ht
      have hx : Rs.read (some (U, mx', mu')) l = none := hn
      rw [hx]
      refine ⟨_, rfl, Rn.nil 2 w', ⟨S, S1, T, mx, mu, bd, U', mx', mu', true, h1.besides f (fun k hk hs => h3 k hk hs), x, fun k hk hs => ?_, h4, fun k hk => (s1 k hk).elim (h5 k) fun h => Nat.le_trans hB h, fun k hk => ?_, h7, rfl⟩, f.below hB h5, fun g hg => f.block g (h6 g hg).2.2 (h6 g hg).2.1⟩
      · rcases s1 k hs with h | h
        · exact h3 k hk h
        · have := h1.lt k hk; omega
      · exact ⟨(h6 k hk).1, fun hs => (s1 k hs).elim (h6 k hk).2.1 fun h => by have := (h6 k hk).2.2; omega, Nat.lt_of_lt_of_le (h6 k hk).2.2 f.size⟩
    · obtain ⟨S1, x, s1, f⟩ := ht
      have hx : Rs.read (some (U, mx', mu')) l = some s := hn
      rw [hx]
      refine ⟨v, rfl, hf, ⟨S, S1, T, mx, mu, bd, s.T, mx', false, false, h1.besides f (fun k hk hs => h3 k hk hs), x, fun k hk hs => ?_, h4, fun k hk => (s1 k hk).elim (h5 k) fun h => Nat.le_trans hB h, fun k hk => ?_, h7, rs_inv h8' hx⟩, f.below hB h5, fun g hg => f.block g (h6 g hg).2.2 (h6 g hg).2.1⟩
      · rcases s1 k hs with h | h
        · exact h3 k hk h
        · have := h1.lt k hk; omega
      · exact ⟨(h6 k hk).1, fun hs => (s1 k hs).elim (h6 k hk).2.1 fun h => by have := (h6 k hk).2.2; omega, Nat.lt_of_lt_of_le (h6 k hk).2.2 f.size⟩
/-- No more than n entries ever stood; all within bounds. -/
def Rs.le (st : Rs) (n : Nat) : Prop := ∀ T mx mu, st = some (T, mx, mu) → T.tot ≤ n ∧ T.gd ∧ mx ≤ 4096
theorem Rs.le_next {st : Rs} {n : Nat} (h : st.le n) (l : List UInt8) : (st.next (st.read l)).le (n + 64) := by
  intro T mx mu he
  cases st with
  | none => cases he
  | some y =>
    obtain ⟨T0, m0, u0⟩ := y
    obtain ⟨h1, h2, h3⟩ := h T0 m0 u0 rfl
    cases hx : Rs.read (some (T0, m0, u0)) l with
    | none => rw [hx] at he; cases he
    | some s =>
      rw [hx] at he
      have hi := ldec_inv h3 h2 hx
      injection he with he
      injection he with e1 e2
      injection e2 with e2 e3
      subst e1; subst e2
      exact ⟨by have := hi.tot; have := hi.adds; have := hi.outs; omega, hi.gd, h3⟩
theorem Rs.le_tot {st : Rs} {n : Nat} (h : st.le n) (hn : n + 300 ≤ 1000000) : ∀ T mx mu, st = some (T, mx, mu) → T.tot + 300 ≤ 1000000 := fun T mx mu he => by have := (h T mx mu he).1; omega
theorem Rs.le_new {n : Nat} (h : n ≤ 4096) (mu : Bool) : Rs.le (some (Tab.new (n : Int), n, mu)) 0 := by
  intro T mx mu' he
  injection he with he
  injection he with e1 e2
  injection e2 with e2 e3
  subst e1; subst e2
  exact ⟨Nat.le_refl _, gd_new n h, h⟩
end

end Go.Proofs.Ytejkbibahbcofaa

/-
  What the arguments of a law are, as lists: from the row's reading to Bs and to lists of numbers.
-/
namespace Go.Proofs.Ytejkbibahbcofaa
open Go.ChangeShapes Go.WideShapes Go.ChangeAt Go.RowKit
set_option linter.unusedVariables false

/-- A slice of integers that came in: nil, or a row of cap cells that hold the numbers zs, each of its kind. -/
def IsRow (k : IntKind) (w : World) (a : Option Addr) (len cap : Nat) (zs : List Int) : Prop :=
  (a = none ∧ len = 0 ∧ cap = 0 ∧ zs = []) ∨
  ∃ x, a = some x ∧ len ≤ cap ∧ cap ≤ maxLen ∧ zs.length = cap ∧ (∀ i, i < zs.length → w.cell? (x.add i) = some (.int k (zs.getD i 0))) ∧ ∀ n ∈ zs, (Lit.int k n).wf = true

theorem wf_range {k : IntKind} {n : Int} (h : (Lit.int k n).wf = true) : k.min ≤ n ∧ n ≤ k.max := by
  simpa [Lit.wf] using h

theorem IsRow.rd {k : IntKind} {w : World} {a : Option Addr} {len cap : Nat} {zs : List Int} (h : IsRow k w a len cap zs) : Rd w (.slice a len cap) ((zs.take len).map (Value.int k)) := by
  rcases h with ⟨rfl, rfl, rfl, rfl⟩ | ⟨x, rfl, h1, h2, h3, h4, h5⟩
  · exact Rd.nil w
  · refine ⟨some x, cap, ?_, ?_, h2, .inr ⟨x, rfl, fun j u hu => ?_⟩⟩
    · simp; omega
    · simp; omega
    · rw [List.getElem?_map] at hu
      have hj : j < (zs.take len).length := by
        rcases Nat.lt_or_ge j (zs.take len).length with h | h
        · exact h
        · rw [List.getElem?_eq_none h] at hu; simp at hu
      have hj2 : j < zs.length := by simp at hj; omega
      rw [List.getElem?_eq_getElem hj] at hu
      simp at hu
      rw [h4 j hj2, ← hu]
      simp [List.getD, hj2]

theorem IsRow.all {k : IntKind} {w : World} {a : Option Addr} {len cap : Nat} {zs : List Int} (h : IsRow k w a len cap zs) : ∀ n ∈ zs.take len, k.min ≤ n ∧ n ≤ k.max := by
  rcases h with ⟨rfl, rfl, rfl, rfl⟩ | ⟨x, rfl, h1, h2, h3, h4, h5⟩
  · simp
  · intro n hn; exact wf_range (h5 n (List.mem_of_mem_take hn))

theorem IsRow.len {k : IntKind} {w : World} {a : Option Addr} {len cap : Nat} {zs : List Int} (h : IsRow k w a len cap zs) : (zs.take len).length = len := by
  rcases h with ⟨rfl, rfl, rfl, rfl⟩ | ⟨x, rfl, h1, h2, h3, h4, h5⟩
  · simp
  · simp; omega

/-- Bytes that came in. -/
theorem IsRow.bytes {w : World} {a : Option Addr} {len cap : Nat} {zs : List Int} (h : IsRow .u8 w a len cap zs) : ∃ l : List UInt8, Bs w (.slice a len cap) l ∧ l.length = len := by
  refine ⟨(zs.take len).map fun n => UInt8.ofNat n.toNat, ?_, by rw [List.length_map]; exact h.len⟩
  have hr := h.rd
  have e : ((zs.take len).map fun n => UInt8.ofNat n.toNat).map bv = (zs.take len).map (Value.int .u8) := by
    rw [List.map_map]
    apply List.map_congr_left
    intro n hn
    have := h.all n hn
    simp [IntKind.min, IntKind.max, IntKind.signed, IntKind.bits] at this
    simp only [Function.comp, bv]
    congr 1
    rw [UInt8.toNat_ofNat', Nat.mod_eq_of_lt (by have : (2:Nat) ^ 8 = 256 := rfl; omega)]
    omega
  unfold Bs
  rw [e]
  exact hr

end Go.Proofs.Ytejkbibahbcofaa
