/-
  Texts put together: HdF2, HdF3, HdF4.
-/
import Derived.Test.YtejkbibahbcofaaM23

/-
  The document's Decode: a size update.
-/
namespace Go.Proofs.Ytejkbibahbcofaa
open Go.RowKit Go.Maps
set_option linter.unusedVariables false

section
variable {q t mx : Nat} {mu : Bool} {T0 T1 : Tab} {S : Nat → Prop} {w wx : World} {l : List UInt8} {ss : List Nat} {ad out : List Fd} {c : UInt8} {r : List UInt8} {bw ow : Value}

set_option maxRecDepth 100000 in
set_option maxHeartbeats 40000000 in
/-- A size update. -/
theorem up_any (a : Act) (hA : At15 a q bw ow ss.length) (hR : Rel q t mx mu T0 S w l T1 ss ad out (c :: r) bw ow wx) (hup : c.toNat / 32 = 1) :
    Code.wp Try.prog (dfrom 8) (Kx (fun _ _ => False) (Fails q t mx mu T0 S w l) (fun i a' w' => i = 1 ∧ Goes q t mx mu T0 S w l (c :: r).length a' w')) a wx := by
  obtain ⟨d0, d1, d2, d3⟩ := hR.dr.cells
  have hleno := fun ty W => hR.dr.st.fs.run_len ty W
  obtain ⟨no, hno⟩ : ∃ no, out.length = no := ⟨_, rfl⟩
  rw [hno] at hleno
  have HNO := Bx.mk hno
  obtain ⟨ns, hns⟩ : ∃ ns, ss.length = ns := ⟨_, rfl⟩
  rw [hns] at hA
  have HNS := Bx.mk hns
  have hno64 : no ≤ 64 := by have := hR.inv.outs; simp only at this; omega
  have hns2 : ns ≤ 2 := by have := hR.inv.two; simp only at this; omega
  have HR := Bx.mk hR
  have hcall := refReadPrefix_any bw (c :: r) 5 wx hR.dr.bytes (by have := hR.len; omega)
  rw [show bitsOf 5 = 5 from rfl] at hcall
  have hmx := hR.mx4
  have hwm : IntKind.u64.wrap (mx : Int) = (mx : Int) := by simp [IntKind.wrap, IntKind.signed, IntKind.bits]; omega
  have HSTEP : Bx (lstep mx mu ⟨T1, ss, ad, out, c :: r⟩ = upStep mx ⟨T1, ss, ad, out, c :: r⟩) := ⟨by unfold lstep; rw [if_pos (show isUp (c :: r) from hup)]⟩
  obtain ⟨u, hu, ha⟩ := dframe a hA.s hA.d
  have h0 := (hu 0).symm.trans hA.t0
  have h1 := (hu 1).symm.trans hA.t1
  have h6 := (hu 6).symm.trans hA.t6
  have h7 := (hu 7).symm.trans hA.t7
  rw [ha]
  clear ha hA
  rw [h0, h1, h6, h7]
  clear h0 h1 h6 h7 hu
  conv => arg 2; whnf
  clear hno hns hR hup
  cases hn : numP 5 (c :: r) with
  | none =>
    obtain ⟨er, he, hrp⟩ := numP_none hn
    have HBAD := Bx.mk (HR.out.none_ (by simp) (by rw [HSTEP.out]; unfold upStep; rw [hn]))
    rw [hrp] at hcall
    unfold Ans3 at hcall
    dsimp only at hcall
    have HCALL := Bx.mk hcall
    have hne : (er == 0) = false := by simpa using he
    clear hcall hrp hn
    go_wp2_with fail
    refine HCALL.out.mono ?_
    rintro e w1 ⟨rfl, rfl⟩
    go_wp2_with fail
    refine (HR.out.dr.bad HBAD.out).mono ?_
    rintro e w9 ⟨rfl, hp⟩
    go_wp2_with fail
    exact Kx.ret ⟨rfl, rfl, rfl, hp⟩
  | some pr =>
    obtain ⟨n, r'⟩ := pr
    obtain ⟨m, hrp, hr', hm1, hml, hnv⟩ := numP_some hn
    rw [hrp] at hcall
    unfold Ans3 at hcall
    dsimp only at hcall
    have HCALL := Bx.mk hcall
    have HN := Bx.mk hn
    clear hcall hrp hn hm1 hnv
    by_cases h1 : mx < n
    · have HBAD := Bx.mk (HR.out.none_ (by simp) (by rw [HSTEP.out]; unfold upStep; rw [HN.out]; simp only; rw [if_pos (.inl h1)]))
      have hd1 : decide ((mx : Int) < (n : Int)) = true := decide_eq_true (by omega)
      clear hmx
      go_wp2_with fail
      refine HCALL.out.mono ?_
      rintro e w1 ⟨rfl, rfl⟩
      go_wp2_with fail
      refine (HR.out.dr.bad HBAD.out).mono ?_
      rintro e w9 ⟨rfl, hp⟩
      go_wp2_with fail
      exact Kx.ret ⟨rfl, rfl, rfl, hp⟩
    · have hd1 : decide ((mx : Int) < (n : Int)) = false := decide_eq_false (by omega)
      by_cases h2 : 0 < no
      · have HBAD := Bx.mk (HR.out.none_ (by simp) (by rw [HSTEP.out]; unfold upStep; rw [HN.out]; simp only; rw [if_pos (.inr (.inl (fun h => by have := HNO.out; rw [h] at this; simp at this; omega)))]))
        have hd2 : decide ((0 : Int) < (no : Int)) = true := decide_eq_true (by omega)
        go_wp2_with fail
        refine HCALL.out.mono ?_
        rintro e w1 ⟨rfl, rfl⟩
        go_wp2_with fail
        refine (HR.out.dr.bad HBAD.out).mono ?_
        rintro e w9 ⟨rfl, hp⟩
        go_wp2_with fail
        exact Kx.ret ⟨rfl, rfl, rfl, hp⟩
      · have hd2 : decide ((0 : Int) < (no : Int)) = false := decide_eq_false (by omega)
        by_cases h3 : 2 ≤ ns
        · have HBAD := Bx.mk (HR.out.none_ (by simp) (by rw [HSTEP.out]; unfold upStep; rw [HN.out]; simp only; rw [if_pos (.inr (.inr (by have := HNS.out; omega)))]))
          have hd3 : decide ((2 : Int) ≤ (ns : Int)) = true := decide_eq_true (by omega)
          go_wp2_with fail
          refine HCALL.out.mono ?_
          rintro e w1 ⟨rfl, rfl⟩
          go_wp2_with fail
          refine (HR.out.dr.bad HBAD.out).mono ?_
          rintro e w9 ⟨rfl, hp⟩
          go_wp2_with fail
          exact Kx.ret ⟨rfl, rfl, rfl, hp⟩
        · have hd3 : decide ((2 : Int) ≤ (ns : Int)) = false := decide_eq_false (by omega)
          have hst : lstep mx mu ⟨T1, ss, ad, out, c :: r⟩ = some ⟨T1.resize (n : Int), ss ++ [n], ad, out, r'⟩ := by
            rw [HSTEP.out]; unfold upStep; rw [HN.out]; simp only
            rw [if_neg]
            rintro (h | h | h)
            · exact h1 h
            · exact h2 (by rw [← HNO.out]; exact List.length_pos_iff.2 h)
            · exact h3 (by rw [← HNS.out]; exact h)
          have HST := Bx.mk hst
          obtain ⟨bw', hsl, hbs⟩ := HR.out.dr.bytes.from_ (m : Int) (by omega) (by omega)
          rw [Int.toNat_natCast, ← hr'] at hbs
          have HBS := Bx.mk hbs
          have hn4 : n ≤ 4096 := by omega
          have hwn : IntKind.i64.wrap (n : Int) = (n : Int) := by simp only [IntKind.wrap_i64]; omega
          clear hst hbs hr' hml hmx
          go_wp2_with fail
          refine HCALL.out.mono ?_
          rintro e w1 ⟨rfl, rfl⟩
          go_wp2_with fail
          refine (HR.out.dr.resize n hn4).mono ?_
          rintro e w2 ⟨⟨gg, rfl⟩, hr2⟩
          have HR2 := Bx.mk (HR.out.next (by simp) HST.out (hr2.rest HBS.out))
          clear hr2
          go_wp2_with fail
          exact Kx.exit ⟨rfl, _, _, _, _, _, _, _, ⟨rfl, rfl, rfl, rfl, rfl, by rw [List.length_append, HNS.out]; exact (by go_num : Value.int .i64 ((ns : Int) + 1) = .int .i64 ((ns + 1 : Nat) : Int))⟩, HR2.out.1, HR2.out.2⟩
end

end Go.Proofs.Ytejkbibahbcofaa

/-
  The document's Decode: an indexed field.
-/
namespace Go.Proofs.Ytejkbibahbcofaa
open Go.RowKit Go.Maps
set_option linter.unusedVariables false

section
variable {q t mx : Nat} {mu : Bool} {T0 T1 : Tab} {S : Nat → Prop} {w wx : World} {l : List UInt8} {ss : List Nat} {ad out : List Fd} {c : UInt8} {r : List UInt8} {bw ow : Value}

set_option maxRecDepth 100000 in
set_option maxHeartbeats 40000000 in
/-- An indexed field. -/
theorem ix_any (a : Act) (hA : At15 a q bw ow ss.length) (hR : Rel q t mx mu T0 S w l T1 ss ad out (c :: r) bw ow wx) (hst : lstep mx mu ⟨T1, ss, ad, out, c :: r⟩ = ixStep ⟨T1, ss, ad, out, c :: r⟩) (h64 : out.length < 64) :
    Code.wp Try.prog (dfrom 19) (Kx (fun _ _ => False) (Fails q t mx mu T0 S w l) (fun i a' w' => i = 1 ∧ Goes q t mx mu T0 S w l (c :: r).length a' w')) a wx := by
  obtain ⟨ns, hns⟩ : ∃ ns, ss.length = ns := ⟨_, rfl⟩
  rw [hns] at hA
  have HNS := Bx.mk hns
  have HR := Bx.mk hR
  have HST1 := Bx.mk hst
  have HLO := Bx.mk h64
  have hcall := refReadPrefix_any bw (c :: r) 7 wx hR.dr.bytes (by have := hR.len; omega)
  rw [show bitsOf 7 = 7 from rfl] at hcall
  obtain ⟨u, hu, ha⟩ := dframe a hA.s hA.d
  have h0 := (hu 0).symm.trans hA.t0
  have h1 := (hu 1).symm.trans hA.t1
  have h6 := (hu 6).symm.trans hA.t6
  have h7 := (hu 7).symm.trans hA.t7
  rw [ha]
  clear ha hA
  rw [h0, h1, h6, h7]
  clear h0 h1 h6 h7 hu
  conv => arg 2; whnf
  clear hns hR hst h64
  cases hn : numP 7 (c :: r) with
  | none =>
    obtain ⟨er, he, hrp⟩ := numP_none hn
    have HBAD := Bx.mk (HR.out.none_ (by simp) (by rw [HST1.out]; unfold ixStep; rw [hn]))
    rw [hrp] at hcall
    unfold Ans3 at hcall
    dsimp only at hcall
    have HCALL := Bx.mk hcall
    have hne : (er == 0) = false := by simpa using he
    clear hcall hrp hn
    go_wp2_with fail
    refine HCALL.out.mono ?_
    rintro e w1 ⟨rfl, rfl⟩
    go_wp2_with fail
    refine (HR.out.dr.entry 0 (by unfold maxVar; omega)).mono ?_
    rintro e w2 ⟨rfl, hb2⟩
    rw [idx_zero, idxB_zero, show aggF emp = .agg #[.string ⟨#[]⟩, .string ⟨#[]⟩] from rfl]
    have HR2 := Bx.mk ((HR.out.dr.keep hb2).keep ((Below.refl w2.heap.size w2).alloc (Nat.le_refl _) (.cells #[.string ⟨#[]⟩, .string ⟨#[]⟩] 61)))
    clear hb2
    go_wp2_with fail
    refine (HR2.out.bad HBAD.out).mono ?_
    rintro e w9 ⟨rfl, hp⟩
    go_wp2_with fail
    exact Kx.ret ⟨rfl, rfl, rfl, hp⟩
  | some pr =>
    obtain ⟨i, r'⟩ := pr
    obtain ⟨m, hrp, hr', hm1, hml, hnv⟩ := numP_some hn
    rw [hrp] at hcall
    unfold Ans3 at hcall
    dsimp only at hcall
    have HCALL := Bx.mk hcall
    have HN := Bx.mk hn
    have HNV := Bx.mk hnv
    obtain ⟨f, hf⟩ : ∃ f, idxF T1.l i = f := ⟨_, rfl⟩
    obtain ⟨f1, f2⟩ := f
    have HF := Bx.mk hf
    clear hcall hrp hn hnv hf
    cases hib : idxB T1.l i with
    | false =>
      have HBAD := Bx.mk (HR.out.none_ (by simp) (by rw [HST1.out]; unfold ixStep; rw [HN.out]; simp only; rw [if_neg (by rw [hib]; simp)]))
      have HIB := Bx.mk hib
      clear hib
      go_wp2_with fail
      refine HCALL.out.mono ?_
      rintro e w1 ⟨rfl, rfl⟩
      go_wp2_with fail
      refine (HR.out.dr.entry i HNV.out).mono ?_
      rintro e w2 ⟨rfl, hb2⟩
      rw [HF.out, HIB.out, show aggF (f1, f2) = .agg #[.string f1, .string f2] from rfl]
      have HR2 := Bx.mk ((HR.out.dr.keep hb2).keep ((Below.refl w2.heap.size w2).alloc (Nat.le_refl _) (.cells #[.string f1, .string f2] 61)))
      clear hb2
      go_wp2_with fail
      refine (HR2.out.bad HBAD.out).mono ?_
      rintro e w9 ⟨rfl, hp⟩
      go_wp2_with fail
      exact Kx.ret ⟨rfl, rfl, rfl, hp⟩
    | true =>
      have hst : lstep mx mu ⟨T1, ss, ad, out, c :: r⟩ = some ⟨T1, ss, ad, out ++ [(f1, f2)], r'⟩ := by
        rw [HST1.out]; unfold ixStep; rw [HN.out]; simp only; rw [if_pos hib, HF.out]
      have HST := Bx.mk hst
      obtain ⟨bw', hsl, hbs⟩ := HR.out.dr.bytes.from_ (m : Int) (by omega) (by omega)
      rw [Int.toNat_natCast, ← hr'] at hbs
      have HBS := Bx.mk hbs
      have HIB := Bx.mk hib
      clear hst hbs hr' hml hib
      go_wp2_with fail
      refine HCALL.out.mono ?_
      rintro e w1 ⟨rfl, rfl⟩
      go_wp2_with fail
      refine (HR.out.dr.entry i HNV.out).mono ?_
      rintro e w2 ⟨rfl, hb2⟩
      rw [HF.out, HIB.out, show aggF (f1, f2) = .agg #[.string f1, .string f2] from rfl]
      have HR2 := Bx.mk (((HR.out.dr.keep hb2).keep ((Below.refl w2.heap.size w2).alloc (Nat.le_refl _) (.cells #[.string f1, .string f2] 61))).keep ((Below.refl _ _).alloc (Nat.le_refl _) (.cells #[.string f1, .string f2] 61)))
      obtain ⟨A, nA, cA, w3, hrun3, hr3, _⟩ := HR2.out.push (Fs.one _ (w2.heap.size + 1) (by simp) (f1, f2)) (by have := HLO.out; omega) 36
      have HR3 := Bx.mk (HR.out.next (by simp) HST.out (hr3.rest HBS.out))
      have HF2 := Bx.mk (Fb.new 61 w2 (f1, f2))
      obtain ⟨e1, e2⟩ := HF2.out.cells
      clear hb2 hr3
      go_wp2_with (at_builtin; refine wpList_append_run rfl _ _ 36 rfl _ _ rfl rfl hrun3 ?_)
      exact Kx.exit ⟨rfl, _, _, _, _, _, _, _, ⟨rfl, rfl, rfl, rfl, rfl, by rw [HNS.out]; rfl⟩, HR3.out.1, HR3.out.2⟩
end

end Go.Proofs.Ytejkbibahbcofaa

/-
  The document's Decode: a literal, its name known.
-/
namespace Go.Proofs.Ytejkbibahbcofaa
open Go.RowKit Go.Maps
set_option linter.unusedVariables false

section
variable {q t mx : Nat} {mu : Bool} {T0 T1 : Tab} {S : Nat → Prop} {w wx : World} {l : List UInt8} {ss : List Nat} {ad out : List Fd} {c : UInt8} {r : List UInt8} {bw ow : Value}

/-- The slots of a literal, its name known. -/
structure At43 (a : Act) (q : Nat) (bw ow : Value) (ns kb G : Nat) : Prop where
  d : a.defers = []
  s : a.tmps.size = 232
  t0 : a.tmps.getD 0 undef = .pointer (some ⟨q, 0, none⟩)
  t1 : a.tmps.getD 1 undef = bw
  t6 : a.tmps.getD 6 undef = ow
  t7 : a.tmps.getD 7 undef = .int .i64 (ns : Int)
  t17 : a.tmps.getD 17 undef = .int .i64 (kb : Int)
  t21 : a.tmps.getD 21 undef = .pointer (some ⟨G, 0, none⟩)
/-- The name is known. -/
def Named (q t mx : Nat) (mu : Bool) (S : Nat → Prop) (w : World) (T1 : Tab) (ss : List Nat) (out : List Fd) (b : List UInt8) (ow : Value) (kb G : Nat) (a' : Act) (w' : World) : Prop :=
  ∃ nm r2 bw2, At43 a' q bw2 ow ss.length kb G ∧ nameP kb T1.l b = some (nm, r2) ∧ Dg q t mx mu S w T1 out r2 bw2 ow G (nm, ⟨#[]⟩) w' ∧ r2.length ≤ 100000
/-- What a literal comes to. -/
def LitIs (mx : Nat) (mu : Bool) (T1 : Tab) (ss : List Nat) (ad out : List Fd) (b : List UInt8) (cn kb : Nat) : Prop :=
  (if 64 ≤ cn then 6 else 4) = kb ∧ lstep mx mu ⟨T1, ss, ad, out, b⟩ = match litP kb T1.l b with
    | none => none
    | some (f, r') => if 64 ≤ cn then some ⟨T1.add f, ss, ad ++ [f], out ++ [f], r'⟩ else some ⟨T1, ss, ad, out ++ [f], r'⟩

set_option maxRecDepth 100000 in
set_option maxHeartbeats 40000000 in
/-- A literal, its name known. -/
theorem value_any {wo : World} {bo : Value} {cn kb G : Nat} {nm : ByteArray} {r2 : List UInt8} (a : Act) (hA : At43 a q bw ow ss.length kb G) (hR : Rel q t mx mu T0 S w l T1 ss ad out (c :: r) bo ow wo) (h64 : out.length < 64)
    (hlit : LitIs mx mu T1 ss ad out (c :: r) cn kb) (hname : nameP kb T1.l (c :: r) = some (nm, r2)) (hG : Dg q t mx mu S w T1 out r2 bw ow G (nm, ⟨#[]⟩) wx) (hl2 : r2.length ≤ 100000) :
    Code.wp Try.prog (dfrom 43) (Kx (Goes q t mx mu T0 S w l (c :: r).length) (Fails q t mx mu T0 S w l) (fun _ _ _ => False)) a wx := by
  obtain ⟨ns, hns⟩ : ∃ ns, ss.length = ns := ⟨_, rfl⟩
  rw [hns] at hA
  have HNS := Bx.mk hns
  have HR := Bx.mk hR
  have HLIT := Bx.mk hlit
  have HNM := Bx.mk hname
  have HG2 := Bx.mk hG
  have HLO := Bx.mk h64
  have HLR2 := Bx.mk hl2
  have hcall := strBits_any bw r2 7 wx (by omega) (by omega) hG.dr.bytes (by omega)
  obtain ⟨u, hu, ha⟩ := dframe a hA.s hA.d
  have h0 := (hu 0).symm.trans hA.t0
  have h1 := (hu 1).symm.trans hA.t1
  have h6 := (hu 6).symm.trans hA.t6
  have h7 := (hu 7).symm.trans hA.t7
  have h17 := (hu 17).symm.trans hA.t17
  have h21 := (hu 21).symm.trans hA.t21
  rw [ha]
  clear ha hA
  rw [h0, h1, h6, h7, h17, h21]
  clear h0 h1 h6 h7 h17 h21 hu
  conv => arg 2; whnf
  clear hns hR hlit hname hG hl2 h64
  cases ht : txtP r2 with
  | none =>
    obtain ⟨er, he, hsb⟩ := txtP_none ht
    have HBAD := Bx.mk (HR.out.none_ (by simp) (by rw [HLIT.out.2]; unfold litP; rw [HNM.out]; simp only; rw [ht]))
    rw [hsb] at hcall
    unfold AnsS at hcall
    dsimp only at hcall
    have HCALL2 := Bx.mk hcall
    have hne : (er == 0) = false := by simpa using he
    clear hcall hsb ht
    go_wp2_with fail
    refine HCALL2.out.mono ?_
    rintro e w2 ⟨rfl, hb2⟩
    have HR2 := Bx.mk (HG2.out.dr.keep hb2)
    clear hb2
    go_wp2_with fail
    refine (HR2.out.bad HBAD.out).mono ?_
    rintro e w9 ⟨rfl, hp⟩
    go_wp2_with fail
    exact Kx.ret ⟨rfl, rfl, rfl, hp⟩
  | some pq =>
    obtain ⟨vl, r3⟩ := pq
    obtain ⟨sB, m2, hsb, hnm, hr3, hm21, hm2l, _⟩ := txtP_some ht
    have hlit : litP kb T1.l (c :: r) = some ((nm, vl), r3) := by unfold litP; rw [HNM.out]; simp only; rw [ht]
    have HSL2 : Bx (lstep mx mu ⟨T1, ss, ad, out, c :: r⟩ = if 64 ≤ cn then some ⟨T1.add (nm, vl), ss, ad ++ [(nm, vl)], out ++ [(nm, vl)], r3⟩ else some ⟨T1, ss, ad, out ++ [(nm, vl)], r3⟩) := ⟨by rw [HLIT.out.2, hlit]⟩
    have HFS := Bx.mk (litP_some (by have := HR.out.inv.gd; exact Nat.le_trans this.2 this.1) hlit).1
    rw [hsb] at hcall
    unfold AnsS at hcall
    dsimp only at hcall
    rw [← hnm] at hcall
    have HCALL2 := Bx.mk hcall
    obtain ⟨bw3, hsl3, hbs3⟩ := HG2.out.dr.bytes.from_ (m2 : Int) (by omega) (by omega)
    rw [Int.toNat_natCast, ← hr3] at hbs3
    have HBS3 := Bx.mk hbs3
    clear hcall hsb ht hbs3 hr3 hm2l hm21 hnm hlit
    go_wp2_with fail
    refine HCALL2.out.mono ?_
    rintro e w2 ⟨rfl, hb2⟩
    have HG3 := Bx.mk (HG2.out.keep hb2)
    have HG4 := Bx.mk ((HG3.out.put1 vl).rest HBS3.out)
    obtain ⟨g1, g2⟩ := HG3.out.fb.cells
    obtain ⟨gf1, gf2⟩ := HG3.out.fb.free
    obtain ⟨k1, k2⟩ := HG4.out.fb.cells
    obtain ⟨A, nA, cA, w3, hrun3, hg3⟩ := (HG4.out.keep ((Below.refl _ _).alloc (Nat.le_refl _) (.cells #[.string nm, .string vl] 61))).push (Fs.one _ w2.heap.size (by simp [World.setCell]) (nm, vl)) (by have := HLO.out; omega) 36
    have HG5 := Bx.mk hg3
    clear hb2 hg3
    by_cases h64c : 64 ≤ cn
    · obtain rfl : 6 = kb := by have := HLIT.out.1; rw [if_pos h64c] at this; exact this
      have hst := HSL2.out
      rw [if_pos h64c] at hst
      have HST := Bx.mk hst
      have HTT : Bx (T1.tot + 1 ≤ 1000000) := ⟨by
        have h1 := HR.out.tot
        have h2 := HR.out.inv.tot
        have h3 := HR.out.inv.adds
        have h4 := HLO.out
        simp only at h2 h3
        omega⟩
      obtain ⟨d0, _⟩ := (HG5.out.keep (Below.refl _ _).drew).dr.cells
      obtain ⟨l1, l2⟩ := (HG5.out.keep (Below.refl _ _).drew).fb.cells
      clear hst
      go_wp2_with (at_builtin; refine wpList_append_run rfl _ _ 36 rfl _ _ rfl rfl hrun3 ?_)
      go_region_with (go_at_call 39
                      refine ((HG5.out.keep (Below.refl _ _).drew).dr.add nm vl HFS.out HTT.out).mono ?_
                      rintro e w4 ⟨⟨gg, rfl⟩, hr4⟩
                      have HR4 := Bx.mk (HR.out.next (by simp) HST.out hr4)
                      clear hr4)
      all_goals go_wp2_with fail
      all_goals exact Kx.norm ⟨_, _, _, _, _, _, _, ⟨rfl, rfl, rfl, rfl, rfl, by rw [HNS.out]; rfl⟩, HR4.out.1, HR4.out.2⟩
    · obtain rfl : 4 = kb := by have := HLIT.out.1; rw [if_neg h64c] at this; exact this
      have hst := HSL2.out
      rw [if_neg h64c] at hst
      have HR5 := Bx.mk (HR.out.next (by simp) hst HG5.out.dr)
      clear hst
      go_wp2_with (at_builtin; refine wpList_append_run rfl _ _ 36 rfl _ _ rfl rfl hrun3 ?_)
      exact Kx.norm ⟨_, _, _, _, _, _, _, ⟨rfl, rfl, rfl, rfl, rfl, by rw [HNS.out]; rfl⟩, HR5.out.1, HR5.out.2⟩
end

end Go.Proofs.Ytejkbibahbcofaa
