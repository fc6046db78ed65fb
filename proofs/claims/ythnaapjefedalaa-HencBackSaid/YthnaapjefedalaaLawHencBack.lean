/-
  bifoldlaw7.HencBack answers true, whatever its arguments: the walk.
-/
import Derived.Test.YthnaapjefedalaaM29
import Derived.Test.YthnaapjefedalaaM22
import Derived.Deep.CutRange
import Derived.Deep.CutBlock
import Derived.Deep.RegionHeld
import Derived.Handy
namespace Go.Proofs.Ythnaapjefedalaa
open Go.RowKit Go.Maps
set_option linter.unusedVariables false

theorem wpAnyH_sub {P : Program} {ops : Array Oper} {Q : Exit → Act → World → Prop} {md : Region.Mode} {S S1 : World → Prop} (hs : ∀ w, S w → S1 w) :
    ∀ (fuel : Nat) (listed : Array Bool) (a : Act) (w : World), wpAnyH P md ops Q S fuel listed a w → wpAnyH P md ops Q S1 fuel listed a w
  | 0, _, _, _, h => h
  | fuel + 1, _, _, _, h => ⟨h.1, fun i hi => wpOp_mono (fun a' w' h' => ⟨hs _ h'.1, wpAnyH_sub hs fuel _ a' w' h'.2⟩) (h.2 i hi)⟩

/-- The objects behind k lists. -/
structure BkOk (T U : Tab) (le : Option Nat) (mx n : Nat) : Prop where
  enc : Enc U T le
  cap : T.cap ≤ 4096
  les : ∀ m, le = some m → m ≤ 4096
  len : T.l.length ≤ T.tot
  tot : T.tot ≤ n
  gdT : T.gd
  gdU : U.gd
  lim : mx ≤ 4096
  cov : le = none ∨ T.cap ≤ mx
theorem light_ofB {l : List Fd} (h : lightB l = true) : l.length ≤ 70 ∧ sumF l ≤ 3000 := by
  unfold lightB at h
  simpa using h
theorem light_eachB {l : List Fd} (h : sumF l ≤ 3000) : ∀ f ∈ l, f.1.size ≤ 3000 ∧ f.2.size ≤ 3000 := by
  intro f hf
  obtain ⟨i, hi, rfl⟩ := List.getElem_of_mem hf
  have := fsz_le l i hi
  unfold fsz at this
  omega
theorem BkOk.next {T U : Tab} {le : Option Nat} {mx n : Nat} (h : BkOk T U le mx n) {l : List Fd} (hl : l.length ≤ 20) : BkOk (encL T l).2 (encL T l).2 none mx (n + 20) :=
  ⟨Enc.start _, by rw [encL_cap]; exact h.cap, (fun m hm => by cases hm), encL_ok l h.len, by have h1 := encL_tot l T; have h2 := h.tot; omega, encL_gd l h.gdT, encL_gd l h.gdT, h.lim, .inl rfl⟩
theorem BkOk.resize {T U : Tab} {le : Option Nat} {mx n : Nat} (h : BkOk T U le mx n) (c : Nat) (hc : c ≤ 4096) : BkOk (T.resize (c : Int)) U (some (lessN le c)) 4096 n := by
  refine ⟨h.enc.resize c, by rw [resize_cap]; exact hc, fun m hm => ?_, ?_, h.tot, Tab.gd.resize hc, h.gdU, Nat.le_refl _, .inr (by rw [resize_cap]; exact hc)⟩
  · injection hm with hm
    subst hm
    cases le with
    | none => exact hc
    | some k => simp only [lessN]; omega
  · have := fits_len (c : Int) T.l
    have h2 := h.len
    simp only [Tab.resize]
    have e : fits ((((c : Int).toNat : Nat)) : Int) T.l = fits (c : Int) T.l := by simp
    rw [e]
    omega

set_option maxRecDepth 100000 in
set_option maxHeartbeats 8000000 in
theorem hencBack_walk (n0 : Int) (v1 : Value) (vs : List Value) (ll : List (List Fd)) (v2 : Value) (zs : List Int) (w : World) (hv1 : Fss w v1 vs ll) (hsm : ∀ l ∈ ll, Small l) (hv2 : Zs w v2 zs) :
    Calls Try.prog 3 #[.int .i64 n0, v1, v2] w fun e w' => e = .returned (.bool true) ∧ Below w.heap.size w w' := by
  have HV1 := Bx.mk hv1
  have HV2 := Bx.mk hv2
  have HSM := Bx.mk hsm
  have hlen1 := fun ty W => hv1.run_len ty W
  have hlen2 := fun ty W => hv2.run_len ty W
  have hm1 := Rd.len hv1.1
  have hm2 := Rd.len hv2
  have hvl := hv1.2.1
  simp only [List.length_map, maxLen] at hm1 hm2
  obtain ⟨n1, hn1⟩ : ∃ n1, ll.length = n1 := ⟨_, rfl⟩
  obtain ⟨n2, hn2⟩ : ∃ n2, zs.length = n2 := ⟨_, rfl⟩
  rw [hn1] at hlen1 hvl
  rw [hn2] at hlen2 hm2
  rw [hvl] at hm1
  have HN := Bx.mk (show ll.length = n1 ∧ zs.length = n2 from ⟨hn1, hn2⟩)
  clear hv1 hv2 hsm hn1 hn2 hvl
  by_cases hbig : 6 < n1
  · have hbb : decide (6 < (n1 : Int)) = true := decide_eq_true (by omega)
    clear hbig hm1 hm2
    go_enter Try.func3, Try.ntmps3
    go_wp2_with fail
    refine (eknown_any _).mono ?_
    rintro e w1 ⟨rfl, b1⟩
    go_wp2_with fail
    go_ret
    exact ⟨rfl, b1⟩
  have hbb : decide (6 < (n1 : Int)) = false := decide_eq_false (by omega)
  have hn6 : n1 ≤ 6 := by omega
  clear hbig hm1
  by_cases hbig : 12 < n2
  · have hbb2 : decide (12 < (n2 : Int)) = true := decide_eq_true (by omega)
    clear hbig hm2
    go_enter Try.func3, Try.ntmps3
    go_wp2_with fail
    refine (eknown_any _).mono ?_
    rintro e w1 ⟨rfl, b1⟩
    go_wp2_with fail
    go_ret
    exact ⟨rfl, b1⟩
  have hbb2 : decide (12 < (n2 : Int)) = false := decide_eq_false (by omega)
  have hn12 : n2 ≤ 12 := by omega
  clear hbig hm2
  have hcl := clampN_le n0
  go_enter Try.func3, Try.ntmps3
  go_wp2_with fail
  refine (eknown_any _).mono ?_
  rintro e w1 ⟨rfl, b1⟩
  have HB1 := Bx.mk b1
  clear b1
  go_wp2_with fail
  refine (enc_new n0 w1).mono ?_
  rintro e w2 ⟨q, p, rfl, hu, b2⟩
  have HU2 := Bx.mk hu
  have HB2 := Bx.mk b2
  clear hu b2 hbb hbb2
  go_wp2_with fail
  refine (newEncoder_any n0 w2).mono ?_
  rintro e w3 ⟨q2, t2, S3, rfl, hd3, hs3, b3⟩
  have HU3 := Bx.mk (Up.add (Wd.ep _ _ _ _) HU2.out HB2.out.size b3 ⟨S3, hd3, hs3⟩)
  have HB3 := Bx.mk (HB2.out.trans (b3.mono HB2.out.size))
  clear hd3 hs3 b3 HU2
  go_wp2_with fail
  refine (newDecoder_any n0 w3).mono ?_
  rintro e w4 ⟨q3, t3, S4, rfl, hd4, hs4, b4⟩
  have HU4 : Bx (Up w1.heap.size (BkW q p (Tab.new (clampN n0 : Int)) none q2 t2 (Tab.new (clampN n0 : Int)) none q3 t3 (Tab.new (clampN n0 : Int)) (clampN n0)) w4) := ⟨Up.add ((Wd.ep _ _ _ _).both (Wd.ec _ _ _ _)) HU3.out HB3.out.size b4 ⟨S4, hd4, hs4⟩⟩
  have HB4 := Bx.mk (HB3.out.trans (b4.mono HB3.out.size))
  have HOK4 : Bx (BkOk (Tab.new (clampN n0 : Int)) (Tab.new (clampN n0 : Int)) none (clampN n0) 0) := ⟨⟨Enc.start _, by simp [Tab.new]; exact hcl, (fun m hm => by cases hm), by simp [Tab.new], by simp [Tab.new], ⟨by simp [Tab.new]; exact hcl, by simp [Tab.new, sizeF]⟩, ⟨by simp [Tab.new]; exact hcl, by simp [Tab.new, sizeF]⟩, hcl, .inl rfl⟩⟩
  clear hd4 hs4 b4 HU3
  obtain ⟨c0, hc0⟩ : ∃ c0, clampN n0 = c0 := ⟨_, rfl⟩
  rw [hc0] at HU4 HOK4 hcl
  clear hc0
  go_wp2_with fail
  go_loopg [10, 11] n1 (fun g s10 s11 wx => ∃ (k z : Nat) (T U : Tab) (le : Option Nat) (mx : Nat), k + g = n1 ∧ s11 = .int .i64 k ∧ s10 = .int .i64 z ∧ z ≤ n2 ∧ Bx (Up w1.heap.size (BkW q p T le q2 t2 T le q3 t3 U mx) wx) ∧ Bx (BkOk T U le mx (20 * k)) ∧ Bx (Below w1.heap.size w1 wx))
  case atStart => exact ⟨0, 0, _, _, _, _, by omega, rfl, rfl, by omega, HU4, HOK4, HB4⟩
  case round =>
    obtain ⟨k, z, T, U, le, mx, hkg, rfl, rfl, hz, HU, HOK, HB⟩ := hrel
    clear HU4 HOK4
    cases gk with
    | zero =>
      obtain rfl : k = n1 := by omega
      go_wp2_with fail
      go_ret
      exact ⟨rfl, HB1.out.trans (HB.out.mono HB1.out.size)⟩
    | succ g =>
      have hk : k < ll.length := by have := HN.out; omega
      have hkd : decide ((k : Int) < (n1 : Int)) = true := decide_eq_true (by omega)
      have hk6 : k ≤ 6 := by omega
      obtain ⟨b, o, u, hix, ⟨ua, un, uc, rfl⟩, hfu, hcs⟩ := HV1.out.at_ k hk
      have HCS := Bx.mk hcs
      have hcell := (hcs wr (HV1.out.keep (HB1.out.trans (HB.out.mono HB1.out.size)))).1
      obtain ⟨l, hl⟩ : ∃ l, ll[k] = l := ⟨_, rfl⟩
      have hsm := HSM.out ll[k] (List.getElem_mem hk)
      rw [hl] at hfu hsm HCS
      have HFU := Bx.mk hfu
      have HSL := Bx.mk hsm
      have hun : un = l.length := by
        obtain ⟨A, c, e, _⟩ := hfu
        injection e
      clear hcs hfu hsm hl hk
      by_cases hgt : 20 < un
      · have hd : decide (20 < un) = true := decide_eq_true hgt
        have hd2 : decide ((20 : Int) < (un : Int)) = true := decide_eq_true (by omega)
        clear hgt hun
        go_wp2_with fail
        go_ret
        exact ⟨rfl, HB1.out.trans (HB.out.mono HB1.out.size)⟩
      have hd : decide (20 < un) = false := decide_eq_false hgt
      have hd2 : decide ((20 : Int) < (un : Int)) = false := decide_eq_false (by omega)
      have HL20 : Bx (l.length ≤ 20) := ⟨by omega⟩
      obtain ⟨uv, huv⟩ : ∃ uv, Value.slice ua un uc = uv := ⟨_, rfl⟩
      obtain ⟨lb, hlb⟩ : ∃ lb, lightB l = lb := ⟨_, rfl⟩
      have HLB := Bx.mk hlb
      clear hgt hun hlb
      have HFSW : Bx (∀ W, Below w1.heap.size w1 W → Fs W (.slice ua un uc) l) := ⟨fun W hW => HFU.out.keep (HB1.out.trans (hW.mono HB1.out.size))⟩
      have HCELL : Bx (∀ W, Below w1.heap.size w1 W → W.cell? ⟨b, o, none⟩ = some (.slice ua un uc)) := ⟨fun W hW => (HCS.out W (HV1.out.keep (HB1.out.trans (hW.mono HB1.out.size)))).1⟩
      have HLG := Bx.mk (light_any (.slice ua un uc) l wr (HFSW.out wr HB.out) HSL.out)
      rw [HLB.out] at HLG
      clear huv HCS
      cases lb with
      | false =>
        go_wp2_with fail
        refine HLG.out.mono ?_
        rintro e w5 ⟨rfl, b5⟩
        go_wp2_with fail
        go_ret
        exact ⟨rfl, HB1.out.trans ((HB.out.trans (b5.mono HB.out.size)).mono HB1.out.size)⟩
      | true =>
        have HLI := Bx.mk (light_ofB HLB.out)
        have HEA := Bx.mk (light_eachB HLI.out.2)
        go_wp2_with fail
        refine HLG.out.mono ?_
        rintro e w5 ⟨rfl, b5⟩
        have HB5 := Bx.mk (HB.out.trans (b5.mono HB.out.size))
        have HU5 := Bx.mk (HU.out.keep Wd.bk b5)
        have hcell5 := HCELL.out w5 HB5.out
        have HM : Bx ((∀ m, le = some m → m ≤ 65535) ∧ T.cap ≤ 65535 ∧ T.tot + l.length ≤ 1000000) := ⟨fun m hm => by have := HOK.out.les m hm; omega, by have := HOK.out.cap; omega, by have := HOK.out.tot; have := HL20.out; omega⟩
        have HEN := Bx.mk (Up.call Ex.bk Wd.bk HU5.out HB5.out.size (Below.refl _ _) (lift1 (Wd.dc _ _ _ _ _ _) (lift1 (Wd.ec _ _ _ _) (pe_enc HM.out.1 HM.out.2.1 (fun S W hC hf => HFSW.out W (HB5.out.trans (hf.below HB5.out.size (Cn.ge hC)))) (by have := HL20.out; omega) (fun f hf => by have := HEA.out f hf; omega) (by have := HLI.out; omega) HM.out.2.2))))
        clear b5 hcell HLG HU HB
        go_wp2_with fail
        refine HEN.out.mono ?_
        rintro e w6 ⟨v6, ⟨rfl, ho6⟩, hu6, b6, r6⟩
        obtain ⟨X, hX⟩ : ∃ X, encB le T l = X := ⟨_, rfl⟩
        obtain ⟨T9, hT9⟩ : ∃ T9, (encL T l).2 = T9 := ⟨_, rfl⟩
        rw [hX] at ho6
        rw [hT9] at hu6
        have HX := Bx.mk (show encB le T l = X ∧ (encL T l).2 = T9 from ⟨hX, hT9⟩)
        have HO6 := Bx.mk ho6
        have HU6 := Bx.mk hu6
        have HB6 := Bx.mk (HB5.out.trans b6)
        have hcap9 : T9.cap = T.cap := by rw [← hT9, encL_cap]
        clear hX hT9 ho6 hu6 b6 r6 HEN hcell5 HU5
        -- the document's Encode, and what stands behind it
        have HEW := Bx.mk (Up.call Ex.bk Wd.bk HU6.out HB6.out.size (wA := w6.drew) (Below.refl _ _).drew (lift1 (Wd.dc _ _ _ _ _ _) (lift2 (Wd.ep _ _ _ _) (ec_enc HM.out.1 HM.out.2.1 (fun S W hC hf => HFSW.out W ((HB6.out.trans ((Below.refl w6.heap.size w6).drew.mono HB6.out.size)).trans (hf.below HB6.out.size (Cn.ge hC)))) (by have := HL20.out; omega) (fun f hf => by have := HEA.out f hf; omega) (by have := HLI.out; omega) HM.out.2.2))))
        rw [HX.out.1, HX.out.2] at HEW
        obtain ⟨cp, hcp⟩ : ∃ cp, T.cap = cp := ⟨_, rfl⟩
        have HCP := Bx.mk (show T.cap = cp ∧ T9.cap = cp from ⟨hcp, by rw [hcap9]; exact hcp⟩)
        have HS6 : Bx (∀ W, Below w1.heap.size w1 W → RowB w6 W → (∃ T8 le8, Up w1.heap.size (BkW q p T9 none q2 t2 T8 le8 q3 t3 U mx) W ∧ T8.cap = cp) → (W.cell? ⟨b, o, none⟩ = some (.slice ua un uc) ∧ W.cell? ⟨q2, 0, none⟩ = some (.pointer (some ⟨t2, 0, none⟩)) ∧ W.cell? ⟨t2, 1, none⟩ = some (.int .i64 (cp : Int)) ∧ (convert 33 9 v6).run Try.prog W = .ok (.string (bstr X)) W)) := ⟨fun W h1 h2 h3 => by
          obtain ⟨T8, le8, h4, h5⟩ := h3
          obtain ⟨E, hE⟩ := Bk.ec h4
          exact ⟨HCELL.out W h1, hE.cells.1, by rw [← h5]; exact hE.tcells.1, conv_str (HO6.out.rows h2).bs⟩⟩
        clear hcap9 hcp
        obtain ⟨nl, hnl⟩ : ∃ nl, T9.l.length = nl := ⟨_, rfl⟩
        obtain ⟨tt, htt⟩ : ∃ tt, T9.tot = tt := ⟨_, rfl⟩
        have AFT : Bx (∀ w7, Up w1.heap.size (BkW q p T9 none q2 t2 T9 none q3 t3 U mx) w7 → Below w1.heap.size w6 w7 → RowB w6 w7 → ∃ A c, (∀ W, Below w7.heap.size w7 W → W.cell? ⟨b, o, none⟩ = some (.slice ua un uc) ∧ W.cell? ⟨q2, 0, none⟩ = some (.pointer (some ⟨t2, 0, none⟩)) ∧ W.cell? ⟨t2, 1, none⟩ = some (.int .i64 (cp : Int)) ∧ (convert 33 9 v6).run Try.prog W = .ok (.string (bstr X)) W) ∧
            (∀ W, Below w7.heap.size w7 W → W.cell? ⟨t2, 0, none⟩ = some (.slice A nl c)) ∧ (∀ W, Below w7.heap.size w7 W → W.cell? ⟨t2, 2, none⟩ = some (.int .u64 (tt : Int))) ∧
            (∀ W, Below w7.heap.size w7 W → Calls Try.prog 15 #[.pointer (some ⟨q, 0, none⟩)] W fun e w' => e = .returned (.pointer (some ⟨p, 0, none⟩)) ∧ W = w') ∧
            (∀ W, Below w7.heap.size w7 W → Calls Try.prog 16 #[.pointer (some ⟨p, 0, none⟩)] W fun e w' => e = .returned (.int .i64 (nl : Int)) ∧ Below W.heap.size W w') ∧
            (∀ W, Below w7.heap.size w7 W → Calls Try.prog 17 #[.pointer (some ⟨p, 0, none⟩)] W fun e w' => e = .returned (.int .u64 (tt : Int)) ∧ Below W.heap.size W w') ∧
            (∀ W, Below w7.heap.size w7 W → Calls Try.prog 18 #[.pointer (some ⟨p, 0, none⟩)] W fun e w' => e = .returned (.int .i64 (cp : Int)) ∧ Below W.heap.size W w')) := ⟨fun w7 h1 h2 h3 => by
          obtain ⟨E, hE⟩ := Bk.ec h1
          obtain ⟨A, n, c, e1, e2⟩ := hE.lcell
          rw [hnl] at e1
          subst e1
          have e3 := hE.tcells.2
          rw [htt] at e3
          obtain ⟨E', hE'⟩ := Bk.ep h1
          obtain ⟨S', hT, _⟩ := hE'.opens
          refine ⟨A, c, fun W hW => HS6.out W (HB6.out.trans (h2.trans (hW.mono (Nat.le_trans HB6.out.size h2.size)))) (h3.trans (RowB.of_below hW)) ⟨T9, none, h1.keep Wd.bk hW, HCP.out.2⟩, fun W hW => (hW.cell (World.block_lt_of_cell? w7 _ e2)).trans e2, fun W hW => (hW.cell (World.block_lt_of_cell? w7 _ e3)).trans e3, fun W hW => ptable_any ((Wd.ep _ _ _ _).keep hE' hW), fun W hW => ?_, fun W hW => ?_, fun W hW => ?_⟩
          · rw [← hnl]; exact dlen_any (hT.keep hW)
          · rw [← htt]; exact count_any (hT.keep hW)
          · rw [← HCP.out.2]; exact cap_any (hT.keep hW)⟩
        have hS0 := HS6.out w6.drew (HB6.out.trans ((Below.refl w6.heap.size w6).drew.mono HB6.out.size)) (RowB.of_below (Below.refl _ _).drew) ⟨T, le, HU6.out.keep Wd.bk (Below.refl _ _).drew, HCP.out.1⟩
        have hee : ((bstr X).toList == (bstr X).toList) = true := by simp
        have hne : ((bstr X).toList != (bstr X).toList) = false := by simp
        clear hnl htt HS6
        go_upto_region 14 with fail
        go_cut [107] from 58 to 107 (fun s107 wx => s107 = .bool false ∧ Bx (Up w1.heap.size (BkW q p T9 none q2 t2 T9 none q3 t3 U mx) wx) ∧ Bx (Below w1.heap.size w6 wx) ∧ Bx (RowB w6 wx))
        case first =>
          -- REGION
          refine wp_region_held_drew (S := fun W => W.cell? ⟨b, o, none⟩ = some (.slice ua un uc) ∧ W.cell? ⟨q2, 0, none⟩ = some (.pointer (some ⟨t2, 0, none⟩)) ∧ W.cell? ⟨t2, 1, none⟩ = some (.int .i64 (cp : Int)) ∧ (convert 33 9 v6).run Try.prog W = .ok (.string (bstr X)) W) (by kernel_rfl) hS0 (fun hHeld => ?_)
          refine wpAnyH_take (i := 0) (oi := ⟨some 58, Op.move (Operand.tmp 12), 33, _, _, none⟩) (v := ?v0) rfl (by kernel_rfl) (by kernel_rfl) (by kernel_rfl) (fun _ _ _ h => h) (Or.inl ⟨by rfl, ?y0⟩) (by assumption) ?r0
          case y0 =>
            intro W hSw
            try dsimp only at hSw
            go_simp
            try with_reducible rfl
          case r0 =>
          try simp only [Act.put, List.setIfInBounds_toArray, List.set_cons_zero, List.set_cons_succ]
          refine wpAnyH_take (i := 1) (oi := ⟨some 59, Op.convert 33 9 (Operand.tmp 58), 9, _, _, none⟩) (v := ?v1) rfl (by kernel_rfl) (by kernel_rfl) (by kernel_rfl) (fun _ _ _ h => h) (Or.inl ⟨by rfl, ?y1⟩) (by assumption) ?r1
          case y1 =>
            intro W hSw
            try dsimp only at hSw
            go_simp
            try with_reducible rfl
          case r1 =>
          try simp only [Act.put, List.setIfInBounds_toArray, List.set_cons_zero, List.set_cons_succ]
          refine wpAnyH_take (i := 2) (oi := ⟨some 60, Op.move (Operand.tmp 8), 27, _, _, none⟩) (v := ?v2) rfl (by kernel_rfl) (by kernel_rfl) (by kernel_rfl) (fun _ _ _ h => h) (Or.inl ⟨by rfl, ?y2⟩) (by assumption) ?r2
          case y2 =>
            intro W hSw
            try dsimp only at hSw
            go_simp
            try with_reducible rfl
          case r2 =>
          try simp only [Act.put, List.setIfInBounds_toArray, List.set_cons_zero, List.set_cons_succ]
          refine wpAnyH_take (i := 3) (oi := ⟨some 61, Op.move (Operand.tmp 1), 22, _, _, none⟩) (v := ?v3) rfl (by kernel_rfl) (by kernel_rfl) (by kernel_rfl) (fun _ _ _ h => h) (Or.inl ⟨by rfl, ?y3⟩) (by assumption) ?r3
          case y3 =>
            intro W hSw
            try dsimp only at hSw
            go_simp
            try with_reducible rfl
          case r3 =>
          try simp only [Act.put, List.setIfInBounds_toArray, List.set_cons_zero, List.set_cons_succ]
          refine wpAnyH_take (i := 4) (oi := ⟨some 62, Op.move (Operand.tmp 11), 3, _, _, none⟩) (v := ?v4) rfl (by kernel_rfl) (by kernel_rfl) (by kernel_rfl) (fun _ _ _ h => h) (Or.inl ⟨by rfl, ?y4⟩) (by assumption) ?r4
          case y4 =>
            intro W hSw
            try dsimp only at hSw
            go_simp
            try with_reducible rfl
          case r4 =>
          try simp only [Act.put, List.setIfInBounds_toArray, List.set_cons_zero, List.set_cons_succ]
          refine wpAnyH_take (i := 5) (oi := ⟨some 63, Op.indexAddr 22 (Operand.tmp 61) (Operand.tmp 62), 0, _, _, none⟩) (v := ?v5) rfl (by kernel_rfl) (by kernel_rfl) (by kernel_rfl) (fun _ _ _ h => h) (Or.inl ⟨by rfl, ?y5⟩) (by assumption) ?r5
          case y5 =>
            intro W hSw
            try dsimp only at hSw
            go_simp
            try with_reducible rfl
          case r5 =>
          try simp only [Act.put, List.setIfInBounds_toArray, List.set_cons_zero, List.set_cons_succ]
          refine wpAnyH_take (i := 6) (oi := ⟨some 64, Op.load 31 (Operand.tmp 63), 31, _, _, none⟩) (v := ?v6) rfl (by kernel_rfl) (by kernel_rfl) (by kernel_rfl) (fun _ _ _ h => h) (Or.inl ⟨by rfl, ?y6⟩) (by assumption) ?r6
          case y6 =>
            intro W hSw
            try dsimp only at hSw
            go_simp
            try with_reducible rfl
          case r6 =>
          try simp only [Act.put, List.setIfInBounds_toArray, List.set_cons_zero, List.set_cons_succ]
          refine wpAnyH_ready (rs := [7]) (by kernel_rfl) (by simp) ?_
          refine AllReadyH.cons rfl (fun K hK => ?_) AllReadyH.nil
          go_simp
          refine (HEW.out).mono ?_
          rintro e w7 ⟨v7, ⟨rfl, ho7⟩, hu7, b7, r7⟩
          obtain ⟨A7, c7, hSN, hX0, hX2, HTAB, HLEN, HCNT, HCAP⟩ := AFT.out w7 hu7 b7 r7
          have HU7 := Bx.mk hu7
          have HB7 := Bx.mk b7
          have HR7 := Bx.mk r7
          have hcv7 := conv_str ho7.bs
          have HS2 : Bx (∀ W, Below w7.heap.size w7 W → W.cell? ⟨b, o, none⟩ = some (.slice ua un uc) ∧ W.cell? ⟨q2, 0, none⟩ = some (.pointer (some ⟨t2, 0, none⟩)) ∧ W.cell? ⟨t2, 1, none⟩ = some (.int .i64 (cp : Int)) ∧ (convert 33 9 v6).run Try.prog W = .ok (.string (bstr X)) W ∧ W.cell? ⟨t2, 0, none⟩ = some (.slice A7 nl c7) ∧ W.cell? ⟨t2, 2, none⟩ = some (.int .u64 (tt : Int))) := ⟨fun W hW => ⟨(hSN W hW).1, (hSN W hW).2.1, (hSN W hW).2.2.1, (hSN W hW).2.2.2, hX0 W hW, hX2 W hW⟩⟩
          have HTAB := Bx.mk HTAB
          have HLEN := Bx.mk HLEN
          have HCNT := Bx.mk HCNT
          have HCAP := Bx.mk HCAP
          have hT := HS2.out w7 (Below.refl _ _)
          have hb7 : Below w7.heap.size w7 w7 := Below.refl _ _
          refine hK.out _ _ ⟨hT.1, hT.2.1, hT.2.2.1, hT.2.2.2.1⟩ (fun _ => ?_)
          refine wpAnyH_sub (S := fun W => W.cell? ⟨b, o, none⟩ = some (.slice ua un uc) ∧ W.cell? ⟨q2, 0, none⟩ = some (.pointer (some ⟨t2, 0, none⟩)) ∧ W.cell? ⟨t2, 1, none⟩ = some (.int .i64 (cp : Int)) ∧ (convert 33 9 v6).run Try.prog W = .ok (.string (bstr X)) W ∧ W.cell? ⟨t2, 0, none⟩ = some (.slice A7 nl c7) ∧ W.cell? ⟨t2, 2, none⟩ = some (.int .u64 (tt : Int))) (fun W h => ⟨h.1, h.2.1, h.2.2.1, h.2.2.2.1⟩) _ _ _ _ ?_
          clear ho7 hu7 b7 r7 hSN hX0 hX2 hHeld hS0
          clear hK K
          try simp only [Act.put, List.setIfInBounds_toArray, List.set_cons_zero, List.set_cons_succ]
          refine wpAnyH_ready (rs := [8]) (by kernel_rfl) (by simp) ?_
          refine AllReadyH.cons rfl (fun K hK => ?_) AllReadyH.nil
          go_simp
          refine hK.out _ _ hT (fun _ => ?_)
          clear hK K
          try simp only [Act.put, List.setIfInBounds_toArray, List.set_cons_zero, List.set_cons_succ]
          clear hcv7
          refine wpAnyH_take (i := 9) (oi := ⟨some 67, Op.binOp BinOp.neq 9 (Operand.tmp 59) (Operand.tmp 66) 9, 4, _, _, none⟩) (v := ?v9) rfl (by kernel_rfl) (by kernel_rfl) (by kernel_rfl) (fun _ _ _ h => h) (Or.inl ⟨by rfl, ?y9⟩) (by assumption) ?r9
          case y9 =>
            intro W hSw
            try dsimp only at hSw
            go_simp
            try with_reducible rfl
          case r9 =>
          try simp only [Act.put, List.setIfInBounds_toArray, List.set_cons_zero, List.set_cons_succ]
          refine wpAnyH_take (i := 10) (oi := ⟨some 68, Op.move (Operand.tmp 67), 4, _, _, none⟩) (v := ?v10) rfl (by kernel_rfl) (by kernel_rfl) (by kernel_rfl) (fun _ _ _ h => h) (Or.inl ⟨by rfl, ?y10⟩) (by assumption) ?r10
          case y10 =>
            intro W hSw
            try dsimp only at hSw
            go_simp
            try with_reducible rfl
          case r10 =>
          try simp only [Act.put, List.setIfInBounds_toArray, List.set_cons_zero, List.set_cons_succ]
          refine wpAnyH_take (i := 11) (oi := ⟨some 69, Op.move (Operand.tmp 7), 25, _, _, some (10, false)⟩) (v := ?v11) rfl (by kernel_rfl) (by kernel_rfl) (by kernel_rfl) (fun _ _ _ h => h) (Or.inl ⟨by rfl, ?y11⟩) (by assumption) ?r11
          case y11 =>
            intro W hSw
            try dsimp only at hSw
            go_simp
            try with_reducible rfl
          case r11 =>
          try simp only [Act.put, List.setIfInBounds_toArray, List.set_cons_zero, List.set_cons_succ]
          refine wpAnyH_take (i := 14) (oi := ⟨some 72, Op.move (Operand.tmp 8), 27, _, _, some (10, false)⟩) (v := ?v14) rfl (by kernel_rfl) (by kernel_rfl) (by kernel_rfl) (fun _ _ _ h => h) (Or.inl ⟨by rfl, ?y14⟩) (by assumption) ?r14
          case y14 =>
            intro W hSw
            try dsimp only at hSw
            go_simp
            try with_reducible rfl
          case r14 =>
          try simp only [Act.put, List.setIfInBounds_toArray, List.set_cons_zero, List.set_cons_succ]
          refine wpAnyH_take (i := 15) (oi := ⟨some 73, Op.nilCheck (Operand.tmp 72), 0, _, _, some (10, false)⟩) (v := ?v15) rfl (by kernel_rfl) (by kernel_rfl) (by kernel_rfl) (fun _ _ _ h => h) (Or.inl ⟨by rfl, ?y15⟩) (by assumption) ?r15
          case y15 =>
            intro W hSw
            try dsimp only at hSw
            go_simp
            try with_reducible rfl
          case r15 =>
          try simp only [Act.put, List.setIfInBounds_toArray, List.set_cons_zero, List.set_cons_succ]
          refine wpAnyH_take (i := 16) (oi := ⟨some 74, Op.fieldAddr 44 (Operand.tmp 73) 0, 0, _, _, some (10, false)⟩) (v := ?v16) rfl (by kernel_rfl) (by kernel_rfl) (by kernel_rfl) (fun _ _ _ h => h) (Or.inl ⟨by rfl, ?y16⟩) (by assumption) ?r16
          case y16 =>
            intro W hSw
            try dsimp only at hSw
            go_simp
            try with_reducible rfl
          case r16 =>
          try simp only [Act.put, List.setIfInBounds_toArray, List.set_cons_zero, List.set_cons_succ]
          refine wpAnyH_take (i := 17) (oi := ⟨some 75, Op.load 42 (Operand.tmp 74), 42, _, _, some (10, false)⟩) (v := ?v17) rfl (by kernel_rfl) (by kernel_rfl) (by kernel_rfl) (fun _ _ _ h => h) (Or.inl ⟨by rfl, ?y17⟩) (by assumption) ?r17
          case y17 =>
            intro W hSw
            try dsimp only at hSw
            go_simp
            try with_reducible rfl
          case r17 =>
          try simp only [Act.put, List.setIfInBounds_toArray, List.set_cons_zero, List.set_cons_succ]
          refine wpAnyH_take (i := 18) (oi := ⟨some 76, Op.nilCheck (Operand.tmp 75), 0, _, _, some (10, false)⟩) (v := ?v18) rfl (by kernel_rfl) (by kernel_rfl) (by kernel_rfl) (fun _ _ _ h => h) (Or.inl ⟨by rfl, ?y18⟩) (by assumption) ?r18
          case y18 =>
            intro W hSw
            try dsimp only at hSw
            go_simp
            try with_reducible rfl
          case r18 =>
          try simp only [Act.put, List.setIfInBounds_toArray, List.set_cons_zero, List.set_cons_succ]
          refine wpAnyH_take (i := 19) (oi := ⟨some 77, Op.fieldAddr 41 (Operand.tmp 76) 0, 0, _, _, some (10, false)⟩) (v := ?v19) rfl (by kernel_rfl) (by kernel_rfl) (by kernel_rfl) (fun _ _ _ h => h) (Or.inl ⟨by rfl, ?y19⟩) (by assumption) ?r19
          case y19 =>
            intro W hSw
            try dsimp only at hSw
            go_simp
            try with_reducible rfl
          case r19 =>
          try simp only [Act.put, List.setIfInBounds_toArray, List.set_cons_zero, List.set_cons_succ]
          refine wpAnyH_take (i := 20) (oi := ⟨some 78, Op.load 31 (Operand.tmp 77), 31, _, _, some (10, false)⟩) (v := ?v20) rfl (by kernel_rfl) (by kernel_rfl) (by kernel_rfl) (fun _ _ _ h => h) (Or.inl ⟨by rfl, ?y20⟩) (by assumption) ?r20
          case y20 =>
            intro W hSw
            try dsimp only at hSw
            go_simp
            try with_reducible rfl
          case r20 =>
          try simp only [Act.put, List.setIfInBounds_toArray, List.set_cons_zero, List.set_cons_succ]
          refine wpAnyH_take (i := 21) (oi := ⟨some 79, Op.call { callee := Callee.builtin Builtin.len, args := #[Operand.tmp 78], argTypes := #[31] }, 3, _, _, some (10, false)⟩) (v := ?v21) rfl (by kernel_rfl) (by kernel_rfl) (by kernel_rfl) (fun _ _ _ h => h) (Or.inl ⟨by rfl, ?y21⟩) (by assumption) ?r21
          case y21 =>
            intro W hSw
            try dsimp only at hSw
            go_simp
            try with_reducible rfl
          case r21 =>
          try simp only [Act.put, List.setIfInBounds_toArray, List.set_cons_zero, List.set_cons_succ]
          refine wpAnyH_ready (rs := [12]) (by kernel_rfl) (by simp) ?_
          refine AllReadyH.cons rfl (fun K hK => ?_) AllReadyH.nil
          go_simp
          refine (HTAB.out _ ?_).mono ?_
          · assumption
          rintro e w8 ⟨rfl, rfl⟩
          refine hK.out _ _ hT (fun _ => ?_)
          clear hK K
          try simp only [Act.put, List.setIfInBounds_toArray, List.set_cons_zero, List.set_cons_succ]
          refine wpAnyH_ready (rs := [13]) (by kernel_rfl) (by simp) ?_
          refine AllReadyH.cons rfl (fun K hK => ?_) AllReadyH.nil
          go_simp
          refine (HLEN.out _ ?_).mono ?_
          · assumption
          rintro e w8 ⟨rfl, b8⟩
          have hb8 := below_next (by assumption) b8
          have hT8 := HS2.out _ hb8
          refine hK.out _ _ hT8 (fun _ => ?_)
          clear hT hb7 b8
          have hT := hT8
          have hb7 := hb8
          clear hT8 hb8
          clear hK K
          try simp only [Act.put, List.setIfInBounds_toArray, List.set_cons_zero, List.set_cons_succ]
          refine wpAnyH_take (i := 22) (oi := ⟨some 80, Op.binOp BinOp.neq 3 (Operand.tmp 71) (Operand.tmp 79) 3, 4, _, _, some (10, false)⟩) (v := ?v22) rfl (by kernel_rfl) (by kernel_rfl) (by kernel_rfl) (fun _ _ _ h => h) (Or.inl ⟨by rfl, ?y22⟩) (by assumption) ?r22
          case y22 =>
            intro W hSw
            try dsimp only at hSw
            go_simp
            try with_reducible rfl
          case r22 =>
          try simp only [Act.put, List.setIfInBounds_toArray, List.set_cons_zero, List.set_cons_succ]
          refine wpAnyH_take (i := 23) (oi := ⟨some 81, Op.pick (Operand.tmp 68) (Operand.const (Value.bool true)) (Operand.tmp 80), 4, _, _, none⟩) (v := ?v23) rfl (by kernel_rfl) (by kernel_rfl) (by kernel_rfl) (fun _ _ _ h => h) (Or.inl ⟨by rfl, ?y23⟩) (by assumption) ?r23
          case y23 =>
            intro W hSw
            try dsimp only at hSw
            go_simp
            try with_reducible rfl
          case r23 =>
          try simp only [Act.put, List.setIfInBounds_toArray, List.set_cons_zero, List.set_cons_succ]
          refine wpAnyH_take (i := 24) (oi := ⟨some 82, Op.move (Operand.tmp 81), 4, _, _, none⟩) (v := ?v24) rfl (by kernel_rfl) (by kernel_rfl) (by kernel_rfl) (fun _ _ _ h => h) (Or.inl ⟨by rfl, ?y24⟩) (by assumption) ?r24
          case y24 =>
            intro W hSw
            try dsimp only at hSw
            go_simp
            try with_reducible rfl
          case r24 =>
          try simp only [Act.put, List.setIfInBounds_toArray, List.set_cons_zero, List.set_cons_succ]
          refine wpAnyH_take (i := 25) (oi := ⟨some 83, Op.move (Operand.tmp 7), 25, _, _, some (24, false)⟩) (v := ?v25) rfl (by kernel_rfl) (by kernel_rfl) (by kernel_rfl) (fun _ _ _ h => h) (Or.inl ⟨by rfl, ?y25⟩) (by assumption) ?r25
          case y25 =>
            intro W hSw
            try dsimp only at hSw
            go_simp
            try with_reducible rfl
          case r25 =>
          try simp only [Act.put, List.setIfInBounds_toArray, List.set_cons_zero, List.set_cons_succ]
          refine wpAnyH_take (i := 28) (oi := ⟨some 86, Op.move (Operand.tmp 8), 27, _, _, some (24, false)⟩) (v := ?v28) rfl (by kernel_rfl) (by kernel_rfl) (by kernel_rfl) (fun _ _ _ h => h) (Or.inl ⟨by rfl, ?y28⟩) (by assumption) ?r28
          case y28 =>
            intro W hSw
            try dsimp only at hSw
            go_simp
            try with_reducible rfl
          case r28 =>
          try simp only [Act.put, List.setIfInBounds_toArray, List.set_cons_zero, List.set_cons_succ]
          refine wpAnyH_take (i := 29) (oi := ⟨some 87, Op.nilCheck (Operand.tmp 86), 0, _, _, some (24, false)⟩) (v := ?v29) rfl (by kernel_rfl) (by kernel_rfl) (by kernel_rfl) (fun _ _ _ h => h) (Or.inl ⟨by rfl, ?y29⟩) (by assumption) ?r29
          case y29 =>
            intro W hSw
            try dsimp only at hSw
            go_simp
            try with_reducible rfl
          case r29 =>
          try simp only [Act.put, List.setIfInBounds_toArray, List.set_cons_zero, List.set_cons_succ]
          refine wpAnyH_take (i := 30) (oi := ⟨some 88, Op.fieldAddr 44 (Operand.tmp 87) 0, 0, _, _, some (24, false)⟩) (v := ?v30) rfl (by kernel_rfl) (by kernel_rfl) (by kernel_rfl) (fun _ _ _ h => h) (Or.inl ⟨by rfl, ?y30⟩) (by assumption) ?r30
          case y30 =>
            intro W hSw
            try dsimp only at hSw
            go_simp
            try with_reducible rfl
          case r30 =>
          try simp only [Act.put, List.setIfInBounds_toArray, List.set_cons_zero, List.set_cons_succ]
          refine wpAnyH_take (i := 31) (oi := ⟨some 89, Op.load 42 (Operand.tmp 88), 42, _, _, some (24, false)⟩) (v := ?v31) rfl (by kernel_rfl) (by kernel_rfl) (by kernel_rfl) (fun _ _ _ h => h) (Or.inl ⟨by rfl, ?y31⟩) (by assumption) ?r31
          case y31 =>
            intro W hSw
            try dsimp only at hSw
            go_simp
            try with_reducible rfl
          case r31 =>
          try simp only [Act.put, List.setIfInBounds_toArray, List.set_cons_zero, List.set_cons_succ]
          refine wpAnyH_take (i := 32) (oi := ⟨some 90, Op.nilCheck (Operand.tmp 89), 0, _, _, some (24, false)⟩) (v := ?v32) rfl (by kernel_rfl) (by kernel_rfl) (by kernel_rfl) (fun _ _ _ h => h) (Or.inl ⟨by rfl, ?y32⟩) (by assumption) ?r32
          case y32 =>
            intro W hSw
            try dsimp only at hSw
            go_simp
            try with_reducible rfl
          case r32 =>
          try simp only [Act.put, List.setIfInBounds_toArray, List.set_cons_zero, List.set_cons_succ]
          refine wpAnyH_take (i := 33) (oi := ⟨some 91, Op.fieldAddr 41 (Operand.tmp 90) 2, 0, _, _, some (24, false)⟩) (v := ?v33) rfl (by kernel_rfl) (by kernel_rfl) (by kernel_rfl) (fun _ _ _ h => h) (Or.inl ⟨by rfl, ?y33⟩) (by assumption) ?r33
          case y33 =>
            intro W hSw
            try dsimp only at hSw
            go_simp
            try with_reducible rfl
          case r33 =>
          try simp only [Act.put, List.setIfInBounds_toArray, List.set_cons_zero, List.set_cons_succ]
          refine wpAnyH_take (i := 34) (oi := ⟨some 92, Op.load 39 (Operand.tmp 91), 39, _, _, some (24, false)⟩) (v := ?v34) rfl (by kernel_rfl) (by kernel_rfl) (by kernel_rfl) (fun _ _ _ h => h) (Or.inl ⟨by rfl, ?y34⟩) (by assumption) ?r34
          case y34 =>
            intro W hSw
            try dsimp only at hSw
            go_simp
            try with_reducible rfl
          case r34 =>
          try simp only [Act.put, List.setIfInBounds_toArray, List.set_cons_zero, List.set_cons_succ]
          refine wpAnyH_ready (rs := [26]) (by kernel_rfl) (by simp) ?_
          refine AllReadyH.cons rfl (fun K hK => ?_) AllReadyH.nil
          go_simp
          refine (HTAB.out _ ?_).mono ?_
          · assumption
          rintro e w8 ⟨rfl, rfl⟩
          refine hK.out _ _ hT (fun _ => ?_)
          clear hK K
          try simp only [Act.put, List.setIfInBounds_toArray, List.set_cons_zero, List.set_cons_succ]
          refine wpAnyH_ready (rs := [27]) (by kernel_rfl) (by simp) ?_
          refine AllReadyH.cons rfl (fun K hK => ?_) AllReadyH.nil
          go_simp
          refine (HCNT.out _ ?_).mono ?_
          · assumption
          rintro e w8 ⟨rfl, b8⟩
          have hb8 := below_next (by assumption) b8
          have hT8 := HS2.out _ hb8
          refine hK.out _ _ hT8 (fun _ => ?_)
          clear hT hb7 b8
          have hT := hT8
          have hb7 := hb8
          clear hT8 hb8
          clear hK K
          try simp only [Act.put, List.setIfInBounds_toArray, List.set_cons_zero, List.set_cons_succ]
          refine wpAnyH_take (i := 35) (oi := ⟨some 93, Op.binOp BinOp.neq 39 (Operand.tmp 85) (Operand.tmp 92) 39, 4, _, _, some (24, false)⟩) (v := ?v35) rfl (by kernel_rfl) (by kernel_rfl) (by kernel_rfl) (fun _ _ _ h => h) (Or.inl ⟨by rfl, ?y35⟩) (by assumption) ?r35
          case y35 =>
            intro W hSw
            try dsimp only at hSw
            go_simp
            try with_reducible rfl
          case r35 =>
          try simp only [Act.put, List.setIfInBounds_toArray, List.set_cons_zero, List.set_cons_succ]
          refine wpAnyH_take (i := 36) (oi := ⟨some 94, Op.pick (Operand.tmp 82) (Operand.const (Value.bool true)) (Operand.tmp 93), 4, _, _, none⟩) (v := ?v36) rfl (by kernel_rfl) (by kernel_rfl) (by kernel_rfl) (fun _ _ _ h => h) (Or.inl ⟨by rfl, ?y36⟩) (by assumption) ?r36
          case y36 =>
            intro W hSw
            try dsimp only at hSw
            go_simp
            try with_reducible rfl
          case r36 =>
          try simp only [Act.put, List.setIfInBounds_toArray, List.set_cons_zero, List.set_cons_succ]
          refine wpAnyH_take (i := 37) (oi := ⟨some 95, Op.move (Operand.tmp 94), 4, _, _, none⟩) (v := ?v37) rfl (by kernel_rfl) (by kernel_rfl) (by kernel_rfl) (fun _ _ _ h => h) (Or.inl ⟨by rfl, ?y37⟩) (by assumption) ?r37
          case y37 =>
            intro W hSw
            try dsimp only at hSw
            go_simp
            try with_reducible rfl
          case r37 =>
          try simp only [Act.put, List.setIfInBounds_toArray, List.set_cons_zero, List.set_cons_succ]
          refine wpAnyH_take (i := 38) (oi := ⟨some 96, Op.move (Operand.tmp 7), 25, _, _, some (37, false)⟩) (v := ?v38) rfl (by kernel_rfl) (by kernel_rfl) (by kernel_rfl) (fun _ _ _ h => h) (Or.inl ⟨by rfl, ?y38⟩) (by assumption) ?r38
          case y38 =>
            intro W hSw
            try dsimp only at hSw
            go_simp
            try with_reducible rfl
          case r38 =>
          try simp only [Act.put, List.setIfInBounds_toArray, List.set_cons_zero, List.set_cons_succ]
          refine wpAnyH_take (i := 41) (oi := ⟨some 99, Op.move (Operand.tmp 8), 27, _, _, some (37, false)⟩) (v := ?v41) rfl (by kernel_rfl) (by kernel_rfl) (by kernel_rfl) (fun _ _ _ h => h) (Or.inl ⟨by rfl, ?y41⟩) (by assumption) ?r41
          case y41 =>
            intro W hSw
            try dsimp only at hSw
            go_simp
            try with_reducible rfl
          case r41 =>
          try simp only [Act.put, List.setIfInBounds_toArray, List.set_cons_zero, List.set_cons_succ]
          refine wpAnyH_take (i := 42) (oi := ⟨some 100, Op.nilCheck (Operand.tmp 99), 0, _, _, some (37, false)⟩) (v := ?v42) rfl (by kernel_rfl) (by kernel_rfl) (by kernel_rfl) (fun _ _ _ h => h) (Or.inl ⟨by rfl, ?y42⟩) (by assumption) ?r42
          case y42 =>
            intro W hSw
            try dsimp only at hSw
            go_simp
            try with_reducible rfl
          case r42 =>
          try simp only [Act.put, List.setIfInBounds_toArray, List.set_cons_zero, List.set_cons_succ]
          refine wpAnyH_take (i := 43) (oi := ⟨some 101, Op.fieldAddr 44 (Operand.tmp 100) 0, 0, _, _, some (37, false)⟩) (v := ?v43) rfl (by kernel_rfl) (by kernel_rfl) (by kernel_rfl) (fun _ _ _ h => h) (Or.inl ⟨by rfl, ?y43⟩) (by assumption) ?r43
          case y43 =>
            intro W hSw
            try dsimp only at hSw
            go_simp
            try with_reducible rfl
          case r43 =>
          try simp only [Act.put, List.setIfInBounds_toArray, List.set_cons_zero, List.set_cons_succ]
          refine wpAnyH_take (i := 44) (oi := ⟨some 102, Op.load 42 (Operand.tmp 101), 42, _, _, some (37, false)⟩) (v := ?v44) rfl (by kernel_rfl) (by kernel_rfl) (by kernel_rfl) (fun _ _ _ h => h) (Or.inl ⟨by rfl, ?y44⟩) (by assumption) ?r44
          case y44 =>
            intro W hSw
            try dsimp only at hSw
            go_simp
            try with_reducible rfl
          case r44 =>
          try simp only [Act.put, List.setIfInBounds_toArray, List.set_cons_zero, List.set_cons_succ]
          refine wpAnyH_take (i := 45) (oi := ⟨some 103, Op.nilCheck (Operand.tmp 102), 0, _, _, some (37, false)⟩) (v := ?v45) rfl (by kernel_rfl) (by kernel_rfl) (by kernel_rfl) (fun _ _ _ h => h) (Or.inl ⟨by rfl, ?y45⟩) (by assumption) ?r45
          case y45 =>
            intro W hSw
            try dsimp only at hSw
            go_simp
            try with_reducible rfl
          case r45 =>
          try simp only [Act.put, List.setIfInBounds_toArray, List.set_cons_zero, List.set_cons_succ]
          refine wpAnyH_take (i := 46) (oi := ⟨some 104, Op.fieldAddr 41 (Operand.tmp 103) 1, 0, _, _, some (37, false)⟩) (v := ?v46) rfl (by kernel_rfl) (by kernel_rfl) (by kernel_rfl) (fun _ _ _ h => h) (Or.inl ⟨by rfl, ?y46⟩) (by assumption) ?r46
          case y46 =>
            intro W hSw
            try dsimp only at hSw
            go_simp
            try with_reducible rfl
          case r46 =>
          try simp only [Act.put, List.setIfInBounds_toArray, List.set_cons_zero, List.set_cons_succ]
          refine wpAnyH_take (i := 47) (oi := ⟨some 105, Op.load 3 (Operand.tmp 104), 3, _, _, some (37, false)⟩) (v := ?v47) rfl (by kernel_rfl) (by kernel_rfl) (by kernel_rfl) (fun _ _ _ h => h) (Or.inl ⟨by rfl, ?y47⟩) (by assumption) ?r47
          case y47 =>
            intro W hSw
            try dsimp only at hSw
            go_simp
            try with_reducible rfl
          case r47 =>
          try simp only [Act.put, List.setIfInBounds_toArray, List.set_cons_zero, List.set_cons_succ]
          refine wpAnyH_ready (rs := [39]) (by kernel_rfl) (by simp) ?_
          refine AllReadyH.cons rfl (fun K hK => ?_) AllReadyH.nil
          go_simp
          refine (HTAB.out _ ?_).mono ?_
          · assumption
          rintro e w8 ⟨rfl, rfl⟩
          refine hK.out _ _ hT (fun _ => ?_)
          clear hK K
          try simp only [Act.put, List.setIfInBounds_toArray, List.set_cons_zero, List.set_cons_succ]
          refine wpAnyH_ready (rs := [40]) (by kernel_rfl) (by simp) ?_
          refine AllReadyH.cons rfl (fun K hK => ?_) AllReadyH.nil
          go_simp
          refine (HCAP.out _ ?_).mono ?_
          · assumption
          rintro e w8 ⟨rfl, b8⟩
          have hb8 := below_next (by assumption) b8
          have hT8 := HS2.out _ hb8
          refine hK.out _ _ hT8 (fun _ => ?_)
          clear hT hb7 b8
          have hT := hT8
          have hb7 := hb8
          clear hT8 hb8
          clear hK K
          try simp only [Act.put, List.setIfInBounds_toArray, List.set_cons_zero, List.set_cons_succ]
          refine wpAnyH_take (i := 48) (oi := ⟨some 106, Op.binOp BinOp.neq 3 (Operand.tmp 98) (Operand.tmp 105) 3, 4, _, _, some (37, false)⟩) (v := ?v48) rfl (by kernel_rfl) (by kernel_rfl) (by kernel_rfl) (fun _ _ _ h => h) (Or.inl ⟨by rfl, ?y48⟩) (by assumption) ?r48
          case y48 =>
            intro W hSw
            try dsimp only at hSw
            go_simp
            try with_reducible rfl
          case r48 =>
          try simp only [Act.put, List.setIfInBounds_toArray, List.set_cons_zero, List.set_cons_succ]
          refine wpAnyH_take (i := 49) (oi := ⟨some 107, Op.pick (Operand.tmp 95) (Operand.const (Value.bool true)) (Operand.tmp 106), 4, _, _, none⟩) (v := ?v49) rfl (by kernel_rfl) (by kernel_rfl) (by kernel_rfl) (fun _ _ _ h => h) (Or.inl ⟨by rfl, ?y49⟩) (by assumption) ?r49
          case y49 =>
            intro W hSw
            try dsimp only at hSw
            go_simp
            try with_reducible rfl
          case r49 =>
          try simp only [Act.put, List.setIfInBounds_toArray, List.set_cons_zero, List.set_cons_succ]
          refine wpAnyH_done (by kernel_rfl) ?_ _
          -- BEHIND
          go_wp2_with fail
          go_meet
          exact ⟨rfl, ⟨HU7.out.keep Wd.bk hb7⟩, ⟨HB7.out.trans (hb7.mono (Nat.le_trans HB6.out.size HB7.out.size))⟩, ⟨HR7.out.trans (RowB.of_below hb7)⟩⟩
        case rest =>
          obtain ⟨rfl, HU8, HB8', HR8⟩ := hcut
          have HB8 := Bx.mk (HB6.out.trans HB8'.out)
          have HO8 := Bx.mk (HO6.out.rows HR8.out)
          obtain ⟨ad, hld⟩ := encB_dec HOK.out.enc mx HOK.out.cov (by have := HOK.out.cap; omega) l HOK.out.len HM.out.2.2 (fun f hf => by have := HEA.out f hf; omega) (by have := HL20.out; omega)
          rw [HX.out.1, HX.out.2] at hld
          have hXl : X.length ≤ 100000 := by
            rw [← HX.out.1]
            unfold encB
            have h1 := upsW_len2 (toldN le T.cap)
            have h2 := toldN_len le T.cap
            have h3 := encL_blen l T
            have h4 := HLI.out
            rw [List.length_append]
            omega
          have HDEC := Bx.mk (Up.call Ex.bk Wd.bk HU8.out HB8.out.size (Below.refl _ _) (lift2 ((Wd.ep _ _ _ _).both (Wd.ec _ _ _ _)) (dd_dec HOK.out.gdU (by have h1 := HOK.out.enc.tot; have h2 := HOK.out.tot; omega) HOK.out.lim hld HO8.out hXl)))
          clear hld hXl AFT HEW HU6 hS0 hee hne HR8 HB8'
          go_wp2_with fail
          refine HDEC.out.mono ?_
          rintro e w9 ⟨v9, ⟨rfl, hf9⟩, hu9, b9, r9⟩
          try simp only at hf9
          try simp only at hu9
          have HF9 := Bx.mk hf9
          have HU9 := Bx.mk hu9
          have HB9 := Bx.mk (HB8.out.trans b9)
          have hcell := HCELL.out w9 HB9.out
          have HFLD := Bx.mk (fields_any v9 (.slice ua un uc) l l w9 HF9.out (HFSW.out w9 HB9.out))
          clear hf9 hu9 b9 r9 HDEC HU8
          go_wp2_with fail
          refine HFLD.out.mono ?_
          rintro e w10 ⟨rfl, b10⟩
          simp only [decide_true]
          have HU10 := Bx.mk (HU9.out.keep Wd.bk b10)
          have HB10 := Bx.mk (HB9.out.trans (b10.mono HB9.out.size))
          have HOK10 : Bx (BkOk T9 T9 none mx (20 * (k + 1))) := ⟨by have h := HOK.out.next HL20.out; rw [HX.out.2] at h; exact h⟩
          clear b10 hcell HU9 HF9 hix HOK HFLD
          go_wp2_with fail
          go_loopg [10, 15] 2 (fun g s10 s15 wx => ∃ (j z' : Nat) (Ta : Tab) (lea : Option Nat) (mxa : Nat), j + g = 2 ∧ s15 = .int .i64 j ∧ s10 = .int .i64 z' ∧ z' ≤ n2 ∧ Bx (Up w1.heap.size (BkW q p Ta lea q2 t2 Ta lea q3 t3 T9 mxa) wx) ∧ Bx (BkOk Ta T9 lea mxa (20 * (k + 1))) ∧ Bx (Below w1.heap.size w1 wx))
          case atStart => exact ⟨0, z, T9, none, mx, by omega, rfl, rfl, hz, HU10, HOK10, HB10⟩
          case round =>
            obtain ⟨j, z', Ta, lea, mxa, hjg, rfl, rfl, hz', HUa, HOKa, HBa⟩ := hrel
            clear HU10 HOK10
            cases gk with
            | zero =>
              obtain rfl : j = 2 := by omega
              go_wp2_with fail
              go_roundg g
              case measure => omega
              case rel => exact ⟨k + 1, z', Ta, T9, lea, mxa, by omega, by go_num, rfl, hz', HUa, HOKa, HBa⟩
            | succ gj =>
              have hj2 : decide ((j : Int) < 2) = true := decide_eq_true (by omega)
              by_cases hzn : z' < n2
              · have hzd : decide ((z' : Int) < (n2 : Int)) = true := decide_eq_true (by omega)
                have hzl : z' < zs.length := by have := HN.out.2; omega
                obtain ⟨b2, o2, hix2, hcs2⟩ := HV2.out.at_ z' hzl
                obtain ⟨x, hx⟩ : ∃ x, zs[z'] = x := ⟨_, rfl⟩
                have HC2 : Bx (∀ W, Below w1.heap.size w1 W → W.cell? ⟨b2, o2, none⟩ = some (.int .i64 x)) := ⟨fun W hW => by rw [← hx]; exact hcs2 W (HV2.out.keep (HB1.out.trans (hW.mono HB1.out.size)))⟩
                have hcx := HC2.out wr HBa.out
                have hcl2 := clampN_le x
                have HR1 := Bx.mk (Up.call Ex.bk Wd.bk HUa.out HBa.out.size (Below.refl _ _) (lift1 (Wd.dc _ _ _ _ _ _) (lift1 (Wd.ec _ _ _ _) (pe_resize x))))
                clear hcs2 hx hzl
                go_wp2_with fail
                refine HR1.out.mono ?_
                rintro e wa ⟨_, rfl, hua, ba, ra⟩
                have HUb := Bx.mk hua
                have HBb := Bx.mk (HBa.out.trans ba)
                have hcx := HC2.out wa HBb.out
                have HR2 := Bx.mk (Up.call Ex.bk Wd.bk HUb.out HBb.out.size (Below.refl _ _) (lift1 (Wd.dc _ _ _ _ _ _) (lift2 (Wd.ep _ _ _ _) (ec_resize x))))
                clear hua ba ra HR1 HUa
                go_wp2_with fail
                refine HR2.out.mono ?_
                rintro e wb ⟨_, rfl, hub, bb, rb⟩
                have HUc := Bx.mk hub
                have HBc := Bx.mk (HBb.out.trans bb)
                obtain ⟨Ed, hEd⟩ := Bk.dc hub
                have hc1 := hEd.cells.2.1
                have hf1 := hEd.free 1
                obtain ⟨hu5, hb5⟩ := Bk.setMax HUc.out HBc.out.size 4096
                have HUd := Bx.mk hu5
                have HBd := Bx.mk (HBc.out.trans hb5)
                have HOKd := Bx.mk (HOKa.out.resize (clampN x) hcl2)
                clear hub bb rb HR2 HUb hEd hu5 hb5 hcx
                go_wp2_with fail
                go_roundg gj
                case measure => omega
                case rel => exact ⟨j + 1, z' + 1, _, _, _, by omega, by go_num, by go_num, by omega, HUd, HOKd, HBd⟩
              · have hzd : decide ((z' : Int) < (n2 : Int)) = false := decide_eq_false (by omega)
                have hzd' : decide (z' < n2) = false := decide_eq_false hzn
                clear hzn
                go_wp2_with fail
                go_roundg g
                case measure => omega
                case rel => exact ⟨k + 1, z', Ta, T9, lea, mxa, by omega, by go_num, rfl, hz', HUa, HOKa, HBa⟩
end Go.Proofs.Ythnaapjefedalaa
