/-
  Texts put together: QdMath, QdA, QdB.
-/
import Derived.Test.YtebakjdeighdnaaGreatM24
import Derived.Test.YtebakjdeighdnaaGreatM17
import Derived.Test.YtebakjdeighdnaaGreatM01
import Derived.Test.YtebakjdeighdnaaGreatM19
import Derived.Test.YtebakjdeighdnaaGreatM09
import Derived.Test.YtebakjdeighdnaaGreatM07
import Derived.Test.YtebakjdeighdnaaGreatM21
import Derived.Test.YtebakjdeighdnaaGreatM22
import Derived.Deep.RegionHeld
import Derived.Handy

/-
  QPACK, read, as plain mathematics: one instruction of the encoder stream; masks.
-/
namespace Go.Proofs.YtebakjdeighdnaaGreat
open Go.RowKit
set_option linter.unusedVariables false

theorem sb_casesK (k : Nat) (l : List UInt8) : (∃ e : Int, e ≠ 0 ∧ sb k l = ([], 0, e)) ∨ ∃ (s : List UInt8) (m : Nat), sb k l = (s, (m : Int), 0) ∧ 1 ≤ m ∧ m ≤ l.length ∧ s.length ≤ 4096 := by
  rcases rp_cases k l with hr | hr | ⟨n, m, hr, h1, h2, h3⟩
  · exact .inl ⟨20, by decide, sb_err hr (by decide)⟩
  · exact .inl ⟨21, by decide, sb_err hr (by decide)⟩
  · by_cases hn : 4096 < n
    · exact .inl ⟨23, by decide, sb_long hr (by omega)⟩
    · by_cases hm : l.length < m + n
      · exact .inl ⟨20, by decide, sb_more hr (by omega) (by omega)⟩
      · by_cases hc : (l.headD 0).toNat / 2 ^ k % 2 = 0
        · refine .inr ⟨_, m + n, by rw [sb_plain hr (by omega) (by omega) hc]; rfl, by omega, by omega, ?_⟩
          simp; omega
        · by_cases he : (dec (allBits ((l.take ((m : Int) + (n : Int)).toNat).drop (m : Int).toNat)) [] 0 0).2 = 0
          · refine .inr ⟨_, m + n, by rw [sb_coded hr (by omega) (by omega) hc rfl he]; rfl, by omega, by omega, ?_⟩
            exact dec_short _ _ _ _ (by simp)
          · exact .inl ⟨_, by exact_mod_cast he, sb_bad hr (by omega) (by omega) hc rfl he⟩
/-- A value behind its name: how many bytes, the error, the table. -/
def tailP (T : Tab) (name : ByteArray) (k : Nat) (b : List UInt8) : Nat × Int × Tab :=
  if (sb 7 (b.drop k)).2.2 ≠ 0 then (0, (sb 7 (b.drop k)).2.2, T)
  else if T.cap < fsz (name, bstr (sb 7 (b.drop k)).1) + 32 then (0, 26, T)
  else (k + (sb 7 (b.drop k)).2.1.toNat, 0, T.add (name, bstr (sb 7 (b.drop k)).1))
/-- One instruction: how many bytes, the error, the table. -/
def insP (mx : Nat) (T : Tab) (b : List UInt8) : Nat × Int × Tab :=
  if 128 ≤ headN b then
    if (rp 6 b).2.2 ≠ 0 then (0, (rp 6 b).2.2, T)
    else if headN b < 192 then (if isN T.l (rp 6 b).1.toNat then tailP T (entN T.l (rp 6 b).1.toNat).1 (rp 6 b).2.1.toNat b else (0, 26, T))
    else (if isF T3 0 (rp 6 b).1.toNat then tailP T (entF T3 0 (rp 6 b).1.toNat).1 (rp 6 b).2.1.toNat b else (0, 26, T))
  else if 64 ≤ headN b then
    if (sb 5 b).2.2 ≠ 0 then (0, (sb 5 b).2.2, T) else tailP T (bstr (sb 5 b).1) (sb 5 b).2.1.toNat b
  else if 32 ≤ headN b then
    if (rp 5 b).2.2 ≠ 0 then (0, (rp 5 b).2.2, T) else if mx < (rp 5 b).1.toNat then (0, 26, T) else ((rp 5 b).2.1.toNat, 0, T.resize (rp 5 b).1)
  else
    if (rp 5 b).2.2 ≠ 0 then (0, (rp 5 b).2.2, T)
    else if isN T.l (rp 5 b).1.toNat then (if T.cap < fsz (entN T.l (rp 5 b).1.toNat) + 32 then (0, 26, T) else ((rp 5 b).2.1.toNat, 0, T.add (entN T.l (rp 5 b).1.toNat)))
    else (0, 26, T)
theorem qmask : ∀ c, c < 256 → (128 ≤ c → c &&& 128 ≠ 0) ∧ (c < 128 → c &&& 128 = 0) ∧ ((128 ≤ c ∧ c < 192 ∨ c < 64) → c &&& 64 = 0) ∧ ((192 ≤ c ∨ 64 ≤ c ∧ c < 128) → c &&& 64 ≠ 0) ∧ (c < 32 → c &&& 32 = 0) ∧ (32 ≤ c ∧ c < 64 → c &&& 32 ≠ 0) := by decide +kernel
end Go.Proofs.YtebakjdeighdnaaGreat

/-
  The document's one instruction of the encoder stream, in pieces: its code, its frame; a value behind its name.
-/
namespace Go.Proofs.YtebakjdeighdnaaGreat
open Go.RowKit Go.Maps
set_option linter.unusedVariables false

/-- The cells of the document's decoder. -/
def d8F (t : Nat) (mx B : Nat) (vR : Value) (bad : Bool) (vW vO : Value) (told : Nat) (i : Nat) : Value :=
  if i = 0 then .pointer (some ⟨t, 0, none⟩) else if i = 1 then .int .i64 (mx : Int) else if i = 2 then .int .i64 (B : Int) else if i = 3 then vR else if i = 4 then .bool bad else if i = 5 then vW else if i = 6 then vO else .int .u64 (told : Int)

noncomputable def ocode : Code := (Tryz.f28).body.getD .skip
noncomputable def ofrom (n : Nat) : Code := (fromR n ocode).getD .skip
noncomputable def ostmt (n : Nat) : Code := (fromS n ocode).getD .skip
set_option maxRecDepth 1000000 in
theorem oframe (a : Act) (hs : a.tmps.size = 185) (hd : a.defers = []) : ∃ u : Nat → Value, (∀ i, a.tmps.getD i undef = u i) ∧ a = ⟨#[u 0, u 1, u 2, u 3, u 4, u 5, u 6, u 7, u 8, u 9, u 10, u 11, u 12, u 13, u 14, u 15, u 16, u 17, u 18, u 19, u 20, u 21, u 22, u 23, u 24, u 25, u 26, u 27, u 28, u 29, u 30, u 31, u 32, u 33, u 34, u 35, u 36, u 37, u 38, u 39, u 40, u 41, u 42, u 43, u 44, u 45, u 46, u 47, u 48, u 49, u 50, u 51, u 52, u 53, u 54, u 55, u 56, u 57, u 58, u 59, u 60, u 61, u 62, u 63, u 64, u 65, u 66, u 67, u 68, u 69, u 70, u 71, u 72, u 73, u 74, u 75, u 76, u 77, u 78, u 79, u 80, u 81, u 82, u 83, u 84, u 85, u 86, u 87, u 88, u 89, u 90, u 91, u 92, u 93, u 94, u 95, u 96, u 97, u 98, u 99, u 100, u 101, u 102, u 103, u 104, u 105, u 106, u 107, u 108, u 109, u 110, u 111, u 112, u 113, u 114, u 115, u 116, u 117, u 118, u 119, u 120, u 121, u 122, u 123, u 124, u 125, u 126, u 127, u 128, u 129, u 130, u 131, u 132, u 133, u 134, u 135, u 136, u 137, u 138, u 139, u 140, u 141, u 142, u 143, u 144, u 145, u 146, u 147, u 148, u 149, u 150, u 151, u 152, u 153, u 154, u 155, u 156, u 157, u 158, u 159, u 160, u 161, u 162, u 163, u 164, u 165, u 166, u 167, u 168, u 169, u 170, u 171, u 172, u 173, u 174, u 175, u 176, u 177, u 178, u 179, u 180, u 181, u 182, u 183, u 184], []⟩ :=
  ⟨fun i => a.tmps.getD i undef, fun _ => rfl, frame_eta 185 a hs hd⟩

theorem fb_put0 {ty : TypeId} {w : World} {g : Nat} {f : Fd} (h : Fb ty w g f) (a : ByteArray) : Fb ty (w.setCell ⟨g, 0, none⟩ (.string a)) g (a, f.2) := by
  unfold Fb at *
  simp [World.setCell, Array.getElem?_modify, h]
theorem fb_put1 {ty : TypeId} {w : World} {g : Nat} {f : Fd} (h : Fb ty w g f) (a : ByteArray) : Fb ty (w.setCell ⟨g, 1, none⟩ (.string a)) g (f.1, a) := by
  unfold Fb at *
  simp [World.setCell, Array.getElem?_modify, h]
/-- Behind the name. -/
structure Ao (ac : Act) (q G k : Nat) (bV : Value) : Prop where
  d : ac.defers = []
  z : ac.tmps.size = 185
  t0 : ac.tmps.getD 0 undef = .pointer (some ⟨q, 0, none⟩)
  t1 : ac.tmps.getD 1 undef = bV
  t7 : ac.tmps.getD 7 undef = .pointer (some ⟨G, 0, none⟩)
  t8 : ac.tmps.getD 8 undef = .int .i64 (k : Int)
/-- A return. -/
def OneR (t : Nat) (S1 : Nat → Prop) (w : World) (x : Nat × Int × Tab) (ac : Act) (w' : World) : Prop :=
  ac.defers = [] ∧ ac.tmps.getD 4 undef = .int .i64 (x.1 : Int) ∧ ac.tmps.getD 5 undef = .int .i64 x.2.1 ∧ Turn (Rt t x.2.2) S1 w w'
/-- What one reads. -/
structure Oi (q t mx : Nat) (T : Tab) (S1 : Nat → Prop) (w : World) (bV : Value) (b : List UInt8) : Prop where
  rt : Rt t T w S1
  hd : ∀ W, Fp S1 w W → W.cell? ⟨q, 0, none⟩ = some (.pointer (some ⟨t, 0, none⟩)) ∧ W.cell? ⟨q, 1, none⟩ = some (.int .i64 (mx : Int))
  bs : ∀ W, Fp S1 w W → Bs W bV b
  len : b.length ≤ 100000
  mx : mx ≤ 4096
  tot : T.tot + 1 ≤ 1000000
  size : sizeF T.l ≤ 100000
section
variable {q t mx : Nat} {T : Tab} {S1 : Nat → Prop} {w wx : World} {bV : Value} {b : List UInt8} {G k : Nat} {f1 : ByteArray}
set_option maxRecDepth 100000 in
set_option maxHeartbeats 40000000 in
/-- A value behind its name. -/
theorem tailO_any (ac : Act) (hA : Ao ac q G k bV) (hO : Oi q t mx T S1 w bV b) (hb : Below w.heap.size w wx) (hG : w.heap.size ≤ G) (hF : Fb 53 wx G (f1, ⟨#[]⟩)) (hk : k ≤ b.length) (hs1 : f1.size ≤ 200000) :
    Code.wp Tryz.prog (ofrom 35) (Kx (fun _ _ => False) (OneR t S1 w (tailP T f1 k b)) (fun _ _ _ => False)) ac wx := by
  have HO := Bx.mk hO
  have HB := Bx.mk hb
  have HHD : Bx (∀ W, Below w.heap.size w W → W.cell? ⟨q, 0, none⟩ = some (.pointer (some ⟨t, 0, none⟩)) ∧ W.cell? ⟨t, 1, none⟩ = some (.int .i64 (T.cap : Int))) := ⟨fun W hW => by
    obtain ⟨v, _, cc, _, _, _⟩ := ((Wd.rt t T).keep hO.rt hW).cells
    exact ⟨(hO.hd W (Fp.of_below hW)).1, cc⟩⟩
  obtain ⟨c0, c1⟩ := HHD.out wx hb
  have hbx := hO.bs wx (Fp.of_below hb)
  obtain ⟨bV', hsl, hbs⟩ := hbx.from_ (k : Int) (by omega) (by omega)
  rw [Int.toNat_natCast] at hbs
  have hlen := hO.len
  have hcall := strBits_any bV' (b.drop k) 7 wx (by omega) (by omega) (hbs wx hbx) (by simp; omega)
  have HG := Bx.mk hG
  have HF := Bx.mk hF
  obtain ⟨hca, hcb⟩ := hF.cells
  obtain ⟨u, hu, hac⟩ := oframe ac hA.z hA.d
  have h0 := (hu 0).symm.trans hA.t0
  have h1 := (hu 1).symm.trans hA.t1
  have h7 := (hu 7).symm.trans hA.t7
  have h8 := (hu 8).symm.trans hA.t8
  rw [hac]
  clear hac hA
  rw [h0, h1, h7, h8]
  clear h0 h1 h7 h8 hu
  conv => arg 2; whnf
  rcases sb_casesK 7 (b.drop k) with ⟨e, he, hsb⟩ | ⟨sv, m, hsb, hm1, hml, hsl4⟩
  · have HX : Bx (tailP T f1 k b = (0, e, T)) := ⟨by unfold tailP; rw [hsb]; simp [he]⟩
    rw [hsb] at hcall
    unfold AnsS at hcall
    simp only at hcall
    have HCALL := Bx.mk hcall
    have hne : (e != 0) = true := by simpa using he
    have hne' : (e == 0) = false := by simpa using he
    rw [HX.out]
    clear hcall hO hbs hlen hk hF hG hs1 hsb he hb hbx
    go_wp2_with (go_at_call 64; refine HCALL.out.mono ?_; rintro r w2 ⟨rfl, b2⟩; have HB2 := Bx.mk (below_next HB.out b2); clear b2)
    exact Kx.ret ⟨rfl, rfl, rfl, (Wd.rt t T).turned HO.out.rt HB2.out⟩
  · have HX : Bx (tailP T f1 k b = if T.cap < fsz (f1, bstr sv) + 32 then (0, 26, T) else (k + m, 0, T.add (f1, bstr sv))) := ⟨by unfold tailP; rw [hsb]; simp⟩
    rw [hsb] at hcall
    unfold AnsS at hcall
    simp only at hcall
    obtain ⟨f2, hf2⟩ : ∃ f2, bstr sv = f2 := ⟨_, rfl⟩
    have hs2 : f2.size ≤ 4096 := by rw [← hf2]; simpa [bstr, ByteArray.size] using hsl4
    rw [hf2] at hcall HX
    have HCALL := Bx.mk hcall
    have hkm : k + m ≤ 100000 := by have : m ≤ b.length - k := by simpa using hml
                                    omega
    have HSZ := Bx.mk (And.intro hs1 (And.intro hs2 hkm))
    obtain ⟨cap, hcap⟩ : ∃ cap, T.cap = cap := ⟨_, rfl⟩
    obtain ⟨nz, hnz⟩ : ∃ nz, fsz (f1, f2) + 32 = nz := ⟨_, rfl⟩
    rw [hcap] at HHD c1
    have HCN := Bx.mk (And.intro hcap hnz)
    have hwkm : wrap64 ((k : Int) + (m : Int)) = ((k + m : Nat) : Int) := by unfold wrap64; omega
    clear hcall hO hbs hlen hk hF hG hs1 hsb hsl4 hs2 hkm hm1 hml hf2 hb hbx hcap hnz
    go_wp2_with (go_at_call 64; refine HCALL.out.mono ?_; rintro r w2 ⟨rfl, b2⟩; have HB2 := Bx.mk (below_next HB.out b2); obtain ⟨d0, d1⟩ := HHD.out w2 HB2.out; have HF2 := Bx.mk (HF.out.keep b2); obtain ⟨ga, gb⟩ := HF2.out.cells; have hfz : w2.frozen? ⟨G, 1, none⟩ = false := HF2.out.free.2; clear b2)
    obtain ⟨w3, hw3⟩ : ∃ w3, w2.setCell ⟨G, 1, none⟩ (.string f2) = w3 := ⟨_, rfl⟩
    have HB3 : Bx (Below w.heap.size w w3) := ⟨by
      rw [← hw3]
      exact HB2.out.trans ((Fp.set (fun k => k = G) w2 ⟨G, 1, none⟩ (.string f2) rfl).below HB2.out.size (fun k hk => hk ▸ HG.out))⟩
    have HF3 : Bx (Fb 53 w3 G (f1, f2)) := ⟨by rw [← hw3]; exact fb_put1 HF2.out f2⟩
    rw [hw3]
    clear hw3 d0 d1 ga gb hfz c0 c1 hca hcb HF2 HF HCALL hsl
    have HRD : Bx (∀ W, Below w3.heap.size w3 W → W.cell? ⟨q, 0, none⟩ = some (.pointer (some ⟨t, 0, none⟩)) ∧ W.cell? ⟨t, 1, none⟩ = some (.int .i64 (cap : Int)) ∧ W.cell? ⟨G, 0, none⟩ = some (.string f1) ∧ W.cell? ⟨G, 1, none⟩ = some (.string f2)) := ⟨fun W hW => by
      obtain ⟨a1, a2⟩ := HHD.out W (below_next HB3.out hW)
      obtain ⟨a3, a4⟩ := (HF3.out.keep hW).cells
      exact ⟨a1, a2, a3, a4⟩⟩
    have hb4 : Below w3.heap.size w3 (w3.drew.alloc (.cells #[.string f1, .string f2] 53)) := (Below.refl _ _).drew.alloc (Nat.le_refl _) _
    have HB4 := Bx.mk hb4
    have HSIZE : Bx (Calls Tryz.prog 66 #[.slice (some ⟨w3.heap.size, 0, none⟩) 1 1] (w3.drew.alloc (.cells #[.string f1, .string f2] 53)) fun e w' => e = .returned (.int .i64 (nz : Int)) ∧ Below (w3.drew.alloc (.cells #[.string f1, .string f2] 53)).heap.size (w3.drew.alloc (.cells #[.string f1, .string f2] 53)) w') := ⟨by
      have h := refSize_any _ [(f1, f2)] _ (Fs.one w3.drew _ rfl (f1, f2)) (by have := HSZ.out; simp only [sizeF, fsz]; omega)
      rw [show sizeF [(f1, f2)] = nz by rw [← HCN.out.2]; simp [sizeF]] at h
      exact h⟩
    have hS0 := HRD.out w3.drew (Below.refl _ _).drew
    have hS1 := HRD.out _ hb4
    obtain ⟨CP, hCP⟩ := letter cap
    obtain ⟨NZ, hNZ⟩ := letter nz
    have hcn := Bx.mk (And.intro hCP hNZ)
    simp only [hCP] at HRD hS0 hS1
    simp only [hNZ] at HSIZE
    obtain ⟨zz, hzz⟩ : ∃ zz, decide (CP < NZ) = zz := ⟨_, rfl⟩
    have HZZ : Bx (zz = decide (cap < nz)) := ⟨by rw [← hzz, decide_eq_decide]; omega⟩
    clear hb4 hCP hNZ
    go_wp2_with fail
    go_region_held (fun W => W.cell? ⟨q, 0, none⟩ = some (.pointer (some ⟨t, 0, none⟩)) ∧ W.cell? ⟨t, 1, none⟩ = some (.int .i64 CP) ∧ W.cell? ⟨G, 0, none⟩ = some (.string f1) ∧ W.cell? ⟨G, 1, none⟩ = some (.string f2)) (first | assumption) (first
      | (go_at_call 66; refine (HSIZE.out).mono ?_; rintro r w5 ⟨rfl, b5⟩; have HB5 := Bx.mk (below_next HB4.out b5); have hS5 := HRD.out w5 HB5.out))
    clear hS0 hS1
    obtain ⟨e0, e1, e2, e3⟩ := hS5
    have HBW := Bx.mk (below_next HB3.out HB5.out)
    cases zz with
    | true =>
      have hlt : cap < nz := of_decide_eq_true HZZ.out.symm
      have HTR := Bx.mk ((Wd.rt t T).turned HO.out.rt HBW.out)
      have HXX : Bx (tailP T f1 k b = (0, 26, T)) := ⟨by rw [HX.out, HCN.out.1, HCN.out.2, if_pos hlt]⟩
      clear hlt HSIZE HRD
      go_wp2_with fail
      refine Kx.ret ?_
      rw [HXX.out]
      exact ⟨rfl, rfl, rfl, HTR.out⟩
    | false =>
      have hlt : ¬ cap < nz := of_decide_eq_false HZZ.out.symm
      have HXX : Bx (tailP T f1 k b = (k + m, 0, T.add (f1, f2))) := ⟨by rw [HX.out, HCN.out.1, HCN.out.2, if_neg hlt]⟩
      have HADD : Bx (Calls Tryz.prog 44 #[.pointer (some ⟨t, 0, none⟩), .agg #[.string f1, .string f2]] w5.drew fun r w' => (∃ x, r = .returned x) ∧ Turn (Rt t (T.add (f1, f2))) S1 w w') := ⟨by
        have hrt := (Wd.rt t T).keep HO.out.rt (HBW.out.trans (((Below.refl w5.heap.size w5).drew).mono HBW.out.size))
        refine (refAdd_any hrt (f1, f2) (by have := HCN.out; have := HO.out.rt.ok.cap; omega) HO.out.tot).mono ?_
        rintro r w' ⟨rfl, ht⟩
        exact ⟨⟨_, rfl⟩, Turn.before (HBW.out.trans (((Below.refl w5.heap.size w5).drew).mono HBW.out.size)) ht⟩⟩
      clear hlt HSIZE HRD
      clear e1
      go_wp2_with fail
      go_region_with (first
        | (go_at_call 44; refine (HADD.out).mono ?_; rintro r w9 ⟨⟨r9, rfl⟩, h9⟩; have HT9 := Bx.mk h9))
      all_goals go_wp2_with fail
      all_goals refine Kx.ret ?_
      all_goals rw [HXX.out]
      all_goals exact ⟨rfl, (by show Value.int .i64 _ = Value.int .i64 ((k + m : Nat) : Int); congr 1), rfl, HT9.out⟩
end
end Go.Proofs.YtebakjdeighdnaaGreat

/-
  The document's one instruction of the encoder stream, in pieces: a name's place; a name; the capacity; an entry again.
-/
namespace Go.Proofs.YtebakjdeighdnaaGreat
open Go.RowKit Go.Maps
set_option linter.unusedVariables false

/-- The switch. -/
structure Aw (ac : Act) (q G c : Nat) (bV : Value) : Prop where
  d : ac.defers = []
  z : ac.tmps.size = 185
  t0 : ac.tmps.getD 0 undef = .pointer (some ⟨q, 0, none⟩)
  t1 : ac.tmps.getD 1 undef = bV
  t6 : ac.tmps.getD 6 undef = .int .u8 (c : Int)
  t7 : ac.tmps.getD 7 undef = .pointer (some ⟨G, 0, none⟩)
/-- Behind the switch. -/
def Tn (q G : Nat) (T : Tab) (w : World) (bV : Value) (b : List UInt8) (x : Nat × Int × Tab) (ac : Act) (w' : World) : Prop :=
  ∃ k name, Ao ac q G k bV ∧ Fb 53 w' G (name, ⟨#[]⟩) ∧ Below w.heap.size w w' ∧ k ≤ b.length ∧ name.size ≤ 200000 ∧ x = tailP T name k b
theorem t3_small : ∀ f ∈ T3, f.1.size ≤ 100 ∧ f.2.size ≤ 200 := by decide +kernel
theorem entT3_size (i : Nat) : (entF T3 0 i).1.size ≤ 100 := by
  unfold entF
  split
  · exact (t3_small _ (List.getElem_mem _)).1
  · exact (by decide : 0 ≤ 100)
theorem entN_name {T : Tab} {i : Nat} (h : sizeF T.l ≤ 100000) : (entN T.l i).1.size ≤ 100000 ∧ (entN T.l i).2.size ≤ 100000 := by
  have : ∀ (l : List Fd) (f : Fd), f ∈ l → fsz f ≤ sizeF l := fun l => by
    induction l with
    | nil => intro f hf; cases hf
    | cons x l ih =>
      intro f hf
      simp only [sizeF]
      rcases List.mem_cons.1 hf with rfl | hf
      · omega
      · have := ih f hf; omega
  unfold entN
  split
  · rename_i hi
    have := this _ _ (List.getElem_mem (show T.l.length - 1 - i < T.l.length by omega))
    unfold fsz at this
    omega
  · exact ⟨(by decide : 0 ≤ 100000), (by decide : 0 ≤ 100000)⟩
/-- What a name's place comes to. -/
def placeP (T : Tab) (b : List UInt8) : Nat × Int × Tab :=
  if (rp 6 b).2.2 ≠ 0 then (0, (rp 6 b).2.2, T)
  else if headN b < 192 then (if isN T.l (rp 6 b).1.toNat then tailP T (entN T.l (rp 6 b).1.toNat).1 (rp 6 b).2.1.toNat b else (0, 26, T))
  else (if isF T3 0 (rp 6 b).1.toNat then tailP T (entF T3 0 (rp 6 b).1.toNat).1 (rp 6 b).2.1.toNat b else (0, 26, T))

section
variable {q t mx : Nat} {T : Tab} {S1 : Nat → Prop} {w wx : World} {bV : Value} {b : List UInt8} {G : Nat}
set_option maxRecDepth 100000 in
set_option maxHeartbeats 40000000 in
/-- A name's place. -/
theorem place_any (ac : Act) (hA : Aw ac q G (headN b) bV) (hO : Oi q t mx T S1 w bV b) (hb : Below w.heap.size w wx) (hG : w.heap.size ≤ G) (hF : Fb 53 wx G (⟨#[]⟩, ⟨#[]⟩)) (hc : 128 ≤ headN b) (hc2 : headN b < 256) :
    Code.wp Tryz.prog (ostmt 13) (Kx (Tn q G T w bV b (placeP T b)) (OneR t S1 w (placeP T b)) (fun _ _ _ => False)) ac wx := by
  have HO := Bx.mk hO
  have HB := Bx.mk hb
  have HF := Bx.mk hF
  have HG := Bx.mk hG
  have hcall := refReadPrefix_any bV b 6 wx (hO.bs wx (Fp.of_below hb)) (by have := hO.len; omega)
  rw [show bitsOf 6 = 6 from rfl] at hcall
  have HHD : Bx (∀ W, Below w.heap.size w W → W.cell? ⟨q, 0, none⟩ = some (.pointer (some ⟨t, 0, none⟩))) := ⟨fun W hW => (hO.hd W (Fp.of_below hW)).1⟩
  obtain ⟨u, hu, hac⟩ := oframe ac hA.z hA.d
  have h0 := (hu 0).symm.trans hA.t0
  have h1 := (hu 1).symm.trans hA.t1
  have h6 := (hu 6).symm.trans hA.t6
  have h7 := (hu 7).symm.trans hA.t7
  rw [hac]
  clear hac hA
  rw [h0, h1, h6, h7]
  clear h0 h1 h6 h7 hu
  conv => arg 2; whnf
  rcases rp_cases 6 b with hr | hr | ⟨n, m, hr, hm1, hm2, hn⟩
  · have HX : Bx (placeP T b = (0, 20, T)) := ⟨by unfold placeP; rw [hr]; simp⟩
    rw [hr] at hcall
    unfold Ans3 at hcall
    simp only at hcall
    have HCALL := Bx.mk hcall
    clear hcall hO hb hG hF hr hc hc2
    go_wp2_with (go_at_call 47; refine HCALL.out.mono ?_; rintro r w2 ⟨rfl, rfl⟩)
    refine Kx.ret ?_
    rw [HX.out]
    exact ⟨rfl, rfl, rfl, (Wd.rt t T).turned HO.out.rt HB.out⟩
  · have HX : Bx (placeP T b = (0, 21, T)) := ⟨by unfold placeP; rw [hr]; simp⟩
    rw [hr] at hcall
    unfold Ans3 at hcall
    simp only at hcall
    have HCALL := Bx.mk hcall
    clear hcall hO hb hG hF hr hc hc2
    go_wp2_with (go_at_call 47; refine HCALL.out.mono ?_; rintro r w2 ⟨rfl, rfl⟩)
    refine Kx.ret ?_
    rw [HX.out]
    exact ⟨rfl, rfl, rfl, (Wd.rt t T).turned HO.out.rt HB.out⟩
  · have hn64 : n < 18446744073709551616 := by unfold maxVar at hn; omega
    have HX : Bx (placeP T b = if headN b < 192 then (if isN T.l n then tailP T (entN T.l n).1 m b else (0, 26, T)) else (if isF T3 0 n then tailP T (entF T3 0 n).1 m b else (0, 26, T))) := ⟨by unfold placeP; rw [hr]; simp⟩
    rw [hr] at hcall
    unfold Ans3 at hcall
    simp only at hcall
    have HCALL := Bx.mk hcall
    obtain ⟨w2, hw2⟩ : ∃ w2, wx.alloc (.cells C3 53) = w2 := ⟨_, rfl⟩
    obtain ⟨g0, hg0⟩ : ∃ g0, wx.heap.size = g0 := ⟨_, rfl⟩
    have HH := Bx.mk (h3s_row wx)
    rw [hw2, hg0] at HH
    have hb2 : Below wx.heap.size wx w2 := by rw [← hw2]; exact (Below.refl _ _).alloc (Nat.le_refl _) _
    have hfs3 : Fs w2 (.slice (some ⟨g0, 0, none⟩) 99 99) T3 := by
      have hblk : w2.heap[g0]? = some (.cells C3 53 (0, 0)) := by rw [← hw2, ← hg0]; exact heap_alloc_last wx _
      refine ⟨some ⟨g0, 0, none⟩, 99, by rw [t3_len], by rw [t3_len]; omega, by unfold maxLen; omega, by rw [fvl_length], .inr ⟨_, rfl, fun j u hu => ?_⟩⟩
      rw [← c3_list] at hu
      rw [Addr.add_lit]
      simp only [Nat.zero_add, World.cell?, hblk]
      simpa using hu
    have HAT := Bx.mk (refAt_any (.slice (some ⟨g0, 0, none⟩) 99 99) T3 n w2 hfs3 (by rw [t3_len]; omega) hn64)
    have HB2 := Bx.mk (below_next hb hb2)
    have HF2 := Bx.mk (hF.keep hb2)
    have HNEW : Bx (∀ W, Below w.heap.size w W → Calls Tryz.prog 63 #[.pointer (some ⟨t, 0, none⟩), .int .u64 (n : Int)] W fun e w' => e = .returned (.tuple #[aggF (entN T.l n), .bool (isN T.l n)]) ∧ Below W.heap.size W w') := ⟨fun W hW => refNewest_any ((Wd.rt t T).keep hO.rt hW) n hn64⟩
    have HNM := Bx.mk (And.intro (entN_name (T := T) (i := n) hO.size) (entT3_size n))
    obtain ⟨ea, hea⟩ : ∃ ea, entF T3 0 n = ea := ⟨_, rfl⟩
    obtain ⟨eb, heb⟩ : ∃ eb, entN T.l n = eb := ⟨_, rfl⟩
    obtain ⟨ia, hia⟩ : ∃ ia, isF T3 0 n = ia := ⟨_, rfl⟩
    obtain ⟨ib, hib⟩ : ∃ ib, isN T.l n = ib := ⟨_, rfl⟩
    rw [hea, hia] at HAT
    rw [heb, hib] at HNEW
    rw [hea, heb, hia, hib] at HX
    rw [hea, heb] at HNM
    obtain ⟨a1, a2⟩ := ea
    obtain ⟨b1, b2⟩ := eb
    unfold aggF at HAT HNEW
    simp only at HAT HNEW
    obtain ⟨C, hC⟩ := letter (headN b)
    obtain ⟨mk, hmk⟩ : ∃ mk, headN b &&& 64 = mk := ⟨_, rfl⟩
    obtain ⟨MK, hMK⟩ := letter mk
    have hband : bits .and .u8 C 64 = MK := by
      rw [← hC, ← hMK, ← hmk]
      exact u8_and_nat _ 64 (by omega) (by decide)
    rw [hC]
    have HM := Bx.mk (And.intro hm1 hm2)
    obtain ⟨_, _, q3, q4, _⟩ := qmask (headN b) hc2
    have HCB := Bx.mk (show (headN b < 192 → mk = 0) ∧ (192 ≤ headN b → mk ≠ 0) ∧ (mk : Int) = MK from ⟨fun h => by rw [← hmk]; exact q3 (.inl ⟨hc, h⟩), fun h => by rw [← hmk]; exact q4 (.inl h), hMK⟩)
    obtain ⟨zz, hzz⟩ : ∃ zz, (MK == 0) = zz := ⟨_, rfl⟩
    have HZZ : Bx (zz = decide (headN b < 192)) := ⟨by
      rw [← hzz]
      by_cases h : headN b < 192
      · have := HCB.out.1 h; have h2 := HCB.out.2.2; rw [decide_eq_true h, beq_iff_eq]; omega
      · have := HCB.out.2.1 (by omega); have h2 := HCB.out.2.2; rw [decide_eq_false h, beq_eq_false_iff_ne]; omega⟩
    clear hcall hO hb hG hF hr hc hc2 hn64 hn hb2 hfs3 hea heb hia hib hC hmk hMK q3 q4 hm1 hm2 hw2 hg0
    go_upto_if 92 with (first
      | (go_at_call 47; refine HCALL.out.mono ?_; rintro r w2 ⟨rfl, rfl⟩)
      | (go_at_call 39; refine HH.out.mono ?_; rintro r w3 ⟨rfl, rfl⟩)
      | (go_at_call 62; refine HAT.out.mono ?_; rintro r w4 ⟨rfl, b4⟩; have HB4 := Bx.mk (below_next HB2.out b4); have HF4 := Bx.mk (HF2.out.keep b4); clear b4))
    obtain ⟨x1, x2, xb, hx⟩ : ∃ x1 x2 xb, (if headN b < 192 then (b1, b2, ib) else (a1, a2, ia)) = (x1, x2, xb) := ⟨_, _, _, rfl⟩
    have HXX := Bx.mk hx
    obtain ⟨G2, hG2⟩ : ∃ G2, w4.heap.size = G2 := ⟨_, rfl⟩
    obtain ⟨w5, hw5⟩ : ∃ w5, w4.alloc (.cells #[.string a1, .string a2] 53) = w5 := ⟨_, rfl⟩
    have hb5 : Below w4.heap.size w4 w5 := by rw [← hw5]; exact (Below.refl _ _).alloc (Nat.le_refl _) _
    have HB5 := Bx.mk (below_next HB4.out hb5)
    have HF5 := Bx.mk (HF4.out.keep hb5)
    have HF6 : Bx (Fb 53 w5 G2 (a1, a2)) := ⟨by rw [← hw5, ← hG2]; exact Fb.new _ w4 (a1, a2)⟩
    have HNE : Bx (G ≠ G2 ∧ w.heap.size ≤ G2) := ⟨by
      have h1 := HF4.out.lt
      have h2 := HB4.out.size
      exact ⟨by omega, by omega⟩⟩
    rw [hw5, hG2]
    clear hx hw5 hG2 hb5
    go_cut [13] from 93 to 101 (fun s13 wy => s13 = .bool xb ∧ Bx (Fb 53 wy G2 (x1, x2)) ∧ Bx (Fb 53 wy G (⟨#[]⟩, ⟨#[]⟩)) ∧ Bx (Below w.heap.size w wy))
    case first =>
      cases zz with
      | true =>
        have hlt : headN b < 192 := of_decide_eq_true HZZ.out.symm
        have hx := HXX.out
        rw [if_pos hlt] at hx
        injection hx with e1 e2
        injection e2 with e2 e3
        subst e1 e2 e3
        have c0 := HHD.out w5 HB5.out
        clear hlt
        go_wp2_with (first
          | (go_at_call 63; refine (HNEW.out w5 HB5.out).mono ?_; rintro r w6 ⟨rfl, b6⟩; have HB6 := Bx.mk (below_next HB5.out b6); have HF7 := Bx.mk (HF5.out.keep b6); have HF8 := Bx.mk (HF6.out.keep b6); clear b6)
          | ((with_reducible refine wpList_storeF 53 G2 (a1, a2) (b1, b2) rfl rfl HF8.out ?_); intro w7 hf7 hg7; have HF9 := Bx.mk hf7; have HF10 := Bx.mk (HF7.out.grown hg7 (fun h => by injection h with h; have := HNE.out.1; omega)); have HB7 := Bx.mk (HB6.out.grown hg7 HB6.out.size (fun k hk => by injection hk with hk; have := HNE.out.2; omega))))
        go_meet
        exact ⟨rfl, HF9, HF10, HB7⟩
      | false =>
        have hlt : ¬ headN b < 192 := of_decide_eq_false HZZ.out.symm
        have hx := HXX.out
        rw [if_neg hlt] at hx
        injection hx with e1 e2
        injection e2 with e2 e3
        subst e1 e2 e3
        clear hlt
        go_wp2_with fail
        go_meet
        exact ⟨rfl, HF6, HF5, HB5⟩
    case rest =>
      obtain ⟨rfl, HY2, HY1, HYB⟩ := hcut
      have HPX : Bx (placeP T b = if xb = true then tailP T x1 m b else (0, 26, T)) := ⟨by
        rw [HX.out]
        have hx := HXX.out
        by_cases h : headN b < 192
        · rw [if_pos h] at hx ⊢
          injection hx with e1 e2
          injection e2 with e2 e3
          rw [e1, e3]
        · rw [if_neg h] at hx ⊢
          injection hx with e1 e2
          injection e2 with e2 e3
          rw [e1, e3]⟩
      have HXS : Bx (x1.size ≤ 200000) := ⟨by
        have hx := HXX.out
        have := HNM.out
        by_cases h : headN b < 192
        · rw [if_pos h] at hx
          injection hx with e1 e2
          rw [← e1]; omega
        · rw [if_neg h] at hx
          injection hx with e1 e2
          rw [← e1]; omega⟩
      clear HX HXX HNM HCB HZZ hzz HNEW HAT HH HCALL HF2 HF4 HF5 HF6
      cases xb with
      | false =>
        go_wp2_with fail
        refine Kx.ret ?_
        have hpx : placeP T b = (0, 26, T) := by rw [HPX.out]; simp
        rw [hpx]
        exact ⟨rfl, rfl, rfl, (Wd.rt t T).turned HO.out.rt HYB.out⟩
      | true =>
        obtain ⟨y0, y1⟩ := HY2.out.cells
        obtain ⟨z0, z1⟩ := HY1.out.cells
        have hfz : wc.frozen? ⟨G, 0, none⟩ = false := HY1.out.free.1
        go_wp2_with fail
        refine Kx.norm ⟨m, x1, ⟨rfl, rfl, rfl, rfl, rfl, rfl⟩, fb_put0 HY1.out x1, HYB.out.trans ((Fp.set (fun k => k = G) wc ⟨G, 0, none⟩ (.string x1) rfl).below HYB.out.size (fun k hk => hk ▸ HG.out)), HM.out.2, HXS.out, ?_⟩
        rw [HPX.out]
        simp

set_option maxRecDepth 100000 in
set_option maxHeartbeats 40000000 in
/-- A name. -/
theorem namedq_any (ac : Act) (hA : Aw ac q G (headN b) bV) (hO : Oi q t mx T S1 w bV b) (hb : Below w.heap.size w wx) (hG : w.heap.size ≤ G) (hF : Fb 53 wx G (⟨#[]⟩, ⟨#[]⟩)) :
    Code.wp Tryz.prog (ostmt 23) (Kx (Tn q G T w bV b (if (sb 5 b).2.2 ≠ 0 then (0, (sb 5 b).2.2, T) else tailP T (bstr (sb 5 b).1) (sb 5 b).2.1.toNat b)) (OneR t S1 w (if (sb 5 b).2.2 ≠ 0 then (0, (sb 5 b).2.2, T) else tailP T (bstr (sb 5 b).1) (sb 5 b).2.1.toNat b)) (fun _ _ _ => False)) ac wx := by
  have HO := Bx.mk hO
  have HB := Bx.mk hb
  have HF := Bx.mk hF
  have HG := Bx.mk hG
  have hcall := strBits_any bV b 5 wx (by omega) (by omega) (hO.bs wx (Fp.of_below hb)) (by have := hO.len; omega)
  obtain ⟨x, hx⟩ : ∃ x, (if (sb 5 b).2.2 ≠ 0 then (0, (sb 5 b).2.2, T) else tailP T (bstr (sb 5 b).1) (sb 5 b).2.1.toNat b) = x := ⟨_, rfl⟩
  rw [hx]
  obtain ⟨u, hu, hac⟩ := oframe ac hA.z hA.d
  have h0 := (hu 0).symm.trans hA.t0
  have h1 := (hu 1).symm.trans hA.t1
  have h6 := (hu 6).symm.trans hA.t6
  have h7 := (hu 7).symm.trans hA.t7
  rw [hac]
  clear hac hA
  rw [h0, h1, h6, h7]
  clear h0 h1 h6 h7 hu
  conv => arg 2; whnf
  rcases sb_casesK 5 b with ⟨e, he, hsb⟩ | ⟨sv, m, hsb, hm1, hml, hsl4⟩
  · have HX : Bx (x = (0, e, T)) := ⟨by rw [← hx, hsb]; simp [he]⟩
    rw [hsb] at hcall
    unfold AnsS at hcall
    simp only at hcall
    have HCALL := Bx.mk hcall
    have hne : (e != 0) = true := by simpa using he
    have hne' : (e == 0) = false := by simpa using he
    clear hcall hO hb hG hF hsb he hx
    go_wp2_with (go_at_call 64; refine HCALL.out.mono ?_; rintro r w2 ⟨rfl, b2⟩; have HB2 := Bx.mk (below_next HB.out b2); clear b2)
    refine Kx.ret ?_
    rw [HX.out]
    exact ⟨rfl, rfl, rfl, (Wd.rt t T).turned HO.out.rt HB2.out⟩
  · have HX : Bx (x = tailP T (bstr sv) m b) := ⟨by rw [← hx, hsb]; simp⟩
    rw [hsb] at hcall
    unfold AnsS at hcall
    simp only at hcall
    obtain ⟨f2, hf2⟩ : ∃ f2, bstr sv = f2 := ⟨_, rfl⟩
    have hs2 : f2.size ≤ 4096 := by rw [← hf2]; simpa [bstr, ByteArray.size] using hsl4
    rw [hf2] at hcall HX
    have HCALL := Bx.mk hcall
    have HM := Bx.mk (And.intro hml hs2)
    clear hcall hO hb hG hF hsb hx hm1 hml hsl4 hf2 hs2
    go_wp2_with (go_at_call 64; refine HCALL.out.mono ?_; rintro r w2 ⟨rfl, b2⟩; have HB2 := Bx.mk (below_next HB.out b2); have HF2 := Bx.mk (HF.out.keep b2); obtain ⟨ga, gb⟩ := HF2.out.cells; have hfz : w2.frozen? ⟨G, 0, none⟩ = false := HF2.out.free.1; clear b2)
    exact Kx.norm ⟨m, f2, ⟨rfl, rfl, rfl, rfl, rfl, rfl⟩, fb_put0 HF2.out f2, HB2.out.trans ((Fp.set (fun k => k = G) w2 ⟨G, 0, none⟩ (.string f2) rfl).below HB2.out.size (fun k hk => hk ▸ HG.out)), HM.out.1, by have := HM.out.2; omega, HX.out⟩

set_option maxRecDepth 100000 in
set_option maxHeartbeats 40000000 in
/-- The capacity. -/
theorem capq_any (ac : Act) (hA : Aw ac q G (headN b) bV) (hO : Oi q t mx T S1 w bV b) (hb : Below w.heap.size w wx) :
    Code.wp Tryz.prog (ostmt 28) (Kx (fun _ _ => False) (OneR t S1 w (if (rp 5 b).2.2 ≠ 0 then (0, (rp 5 b).2.2, T) else if mx < (rp 5 b).1.toNat then (0, 26, T) else ((rp 5 b).2.1.toNat, 0, T.resize (rp 5 b).1))) (fun _ _ _ => False)) ac wx := by
  have HO := Bx.mk hO
  have HB := Bx.mk hb
  have hcall := refReadPrefix_any bV b 5 wx (hO.bs wx (Fp.of_below hb)) (by have := hO.len; omega)
  rw [show bitsOf 5 = 5 from rfl] at hcall
  obtain ⟨c0, c1⟩ := hO.hd wx (Fp.of_below hb)
  have hmx := hO.mx
  obtain ⟨x, hx⟩ : ∃ x, (if (rp 5 b).2.2 ≠ 0 then (0, (rp 5 b).2.2, T) else if mx < (rp 5 b).1.toNat then (0, 26, T) else ((rp 5 b).2.1.toNat, 0, T.resize (rp 5 b).1)) = x := ⟨_, rfl⟩
  rw [hx]
  obtain ⟨u, hu, hac⟩ := oframe ac hA.z hA.d
  have h0 := (hu 0).symm.trans hA.t0
  have h1 := (hu 1).symm.trans hA.t1
  have h6 := (hu 6).symm.trans hA.t6
  have h7 := (hu 7).symm.trans hA.t7
  rw [hac]
  clear hac hA
  rw [h0, h1, h6, h7]
  clear h0 h1 h6 h7 hu
  conv => arg 2; whnf
  rcases rp_cases 5 b with hr | hr | ⟨n, m, hr, hm1, hm2, hn⟩
  · have HX : Bx (x = (0, 20, T)) := ⟨by rw [← hx, hr]; simp⟩
    rw [hr] at hcall
    unfold Ans3 at hcall
    simp only at hcall
    have HCALL := Bx.mk hcall
    clear hcall hO hb hr hx hmx
    go_wp2_with (go_at_call 47; refine HCALL.out.mono ?_; rintro r w2 ⟨rfl, rfl⟩)
    refine Kx.ret ?_
    rw [HX.out]
    exact ⟨rfl, rfl, rfl, (Wd.rt t T).turned HO.out.rt HB.out⟩
  · have HX : Bx (x = (0, 21, T)) := ⟨by rw [← hx, hr]; simp⟩
    rw [hr] at hcall
    unfold Ans3 at hcall
    simp only at hcall
    have HCALL := Bx.mk hcall
    clear hcall hO hb hr hx hmx
    go_wp2_with (go_at_call 47; refine HCALL.out.mono ?_; rintro r w2 ⟨rfl, rfl⟩)
    refine Kx.ret ?_
    rw [HX.out]
    exact ⟨rfl, rfl, rfl, (Wd.rt t T).turned HO.out.rt HB.out⟩
  · have HX : Bx (x = if mx < n then (0, 26, T) else (m, 0, T.resize (n : Int))) := ⟨by rw [← hx, hr]; simp⟩
    rw [hr] at hcall
    unfold Ans3 at hcall
    simp only at hcall
    have HCALL := Bx.mk hcall
    obtain ⟨N, hN⟩ := letter n
    obtain ⟨MX, hMX⟩ := letter mx
    have hwm : IntKind.u64.wrap MX = MX := u64_keep (by omega) (by omega)
    rw [hMX] at c1
    rw [hN] at HCALL
    by_cases hlt : mx < n
    · have hd : decide (MX < N) = true := by rw [decide_eq_true_iff]; omega
      have HXX : Bx (x = (0, 26, T)) := ⟨by rw [HX.out, if_pos hlt]⟩
      clear hcall hO hb hr hx hmx hm1 hm2 hn hlt hN hMX HX
      go_wp2_with (go_at_call 47; refine HCALL.out.mono ?_; rintro r w2 ⟨rfl, rfl⟩)
      refine Kx.ret ?_
      rw [HXX.out]
      exact ⟨rfl, rfl, rfl, (Wd.rt t T).turned HO.out.rt HB.out⟩
    · have hd : decide (MX < N) = false := by rw [decide_eq_false_iff_not]; omega
      have HXX : Bx (x = (m, 0, T.resize N)) := ⟨by rw [HX.out, if_neg hlt, hN]⟩
      have hwn : IntKind.i64.wrap N = N := by rw [IntKind.wrap_i64]; omega
      have HRES : Bx (Calls Tryz.prog 65 #[.pointer (some ⟨t, 0, none⟩), .int .i64 N] wx fun r w' => (∃ x, r = .returned x) ∧ Turn (Rt t (T.resize N)) S1 w w') := ⟨by
        refine (refResize_any ((Wd.rt t T).keep hO.rt hb) N (by omega)).mono ?_
        rintro r w' ⟨rfl, ht⟩
        exact ⟨⟨_, rfl⟩, Turn.before hb ht⟩⟩
      clear hcall hO hb hr hx hmx hm1 hm2 hn hlt hN hMX HX
      go_wp2_with (first
        | (go_at_call 47; refine HCALL.out.mono ?_; rintro r w2 ⟨rfl, rfl⟩)
        | (go_at_call 65; refine HRES.out.mono ?_; rintro r w3 ⟨⟨r3, rfl⟩, ht3⟩; have HT3 := Bx.mk ht3; clear ht3))
      refine Kx.ret ?_
      rw [HXX.out]
      exact ⟨rfl, rfl, rfl, HT3.out⟩
end
end Go.Proofs.YtebakjdeighdnaaGreat
