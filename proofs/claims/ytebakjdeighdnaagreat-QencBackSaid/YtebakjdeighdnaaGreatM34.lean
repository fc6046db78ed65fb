/-
  Texts put together: QdH, QdI.
-/
import Derived.Test.YtebakjdeighdnaaGreatM31
import Derived.Test.YtebakjdeighdnaaGreatM18
import Derived.Test.YtebakjdeighdnaaGreatM06

/-
  The document's ReadPrefix of a section, where its base is its count; entry.
-/
namespace Go.Proofs.YtebakjdeighdnaaGreat
open Go.RowKit Go.Maps
set_option linter.unusedVariables false

theorem res_tmp4 {fn : Func} {t u v x : Tmp} (h : fn.results = #[.tmp t, .tmp u, .tmp v, .tmp x]) (tmps : Array Value) (P : Program) (w : World) :
    (results fn tmps).run P w = .ok (.tuple #[tmps.getD t undef, tmps.getD u undef, tmps.getD v undef, tmps.getD x undef]) w := by
  simp [results, h]
theorem refrp_at (bV : Value) (l : List UInt8) (n : Int) (k : Nat) (hk : bitsOf n = k) (r : Int × Int × Int) (hr : rp k l = r) (w : World) (hb : Bs w bV l) (hm : l.length ≤ 1000000) :
    Calls Tryz.prog 47 #[bV, .int .i64 n] w fun e w' => e = .returned (.tuple #[.int .u64 r.1, .int .i64 r.2.1, .int .i64 r.2.2]) ∧ w = w' := by
  subst hk hr
  exact refReadPrefix_any bV l n w hb hm
set_option maxRecDepth 100000 in
set_option maxHeartbeats 4000000 in
theorem refQRead_ok (bV : Value) (l : List UInt8) (t : Nat) (cap : Int) (w : World) (hb : Bs w bV l) (hm : l.length ≤ 1000000) (ht : t < 4611686018427387904) (hcap : cap < 9223372036854775808) {n1 m1 m2 c : Nat} (h1 : rp 8 l = ((n1 : Int), (m1 : Int), 0)) (h2 : rp 7 (l.drop m1) = (0, (m2 : Int), 0)) (hm1 : m1 < l.length) (hm2 : m1 + m2 ≤ l.length) (hx : l[m1].toNat < 128) (hn1 : n1 < 18446744073709551616) (hd : dcN n1 t (mostN cap) = some c) (hc : c ≤ 4611686018427387903) :
    Calls Tryz.prog 29 #[bV, .int .u64 t, .int .i64 cap] w fun e w' => e = .returned (.tuple #[.int .u64 (c : Int), .int .u64 (c : Int), .int .i64 ((m1 + m2 : Nat) : Int), .int .i64 0]) ∧ w = w' := by
  have HR1 := Bx.mk (refrp_at bV l 8 8 rfl _ h1 w hb hm)
  obtain ⟨cV, hfrom, hcV⟩ := hb.from_ (m1 : Int) (by omega) (by omega)
  have hcb := hcV w hb
  rw [Int.toNat_natCast] at hcb
  have HR2 := Bx.mk (refrp_at cV (l.drop m1) 7 7 rfl _ h2 w hcb (by simp; omega))
  have hdc := refDecodeCount_any n1 t cap hn1 ht hcap w
  rw [hd] at hdc
  unfold Dec at hdc
  have HDC := Bx.mk hdc
  obtain ⟨p, hix, hcp⟩ := hb.at_ m1 hm1
  have hcell := hcp w hb
  obtain ⟨xn, hxn⟩ : ∃ xn, l[m1].toNat = xn := ⟨_, rfl⟩
  rw [hxn] at hcell hx
  obtain ⟨X, hX⟩ := letter xn
  rw [hX] at hcell
  have hand : bits .and .u8 X 128 = 0 := by
    rw [← hX, show bits .and .u8 (xn : Int) 128 = ((xn &&& 128 : Nat) : Int) from u8_and_nat _ 128 (by omega) (by decide), (qmask xn (by omega)).2.1 hx]
    rfl
  obtain ⟨C, hC⟩ := letter c
  obtain ⟨M1, hM1⟩ := letter m1
  obtain ⟨M2, hM2⟩ := letter m2
  obtain ⟨M3, hM3⟩ := letter (m1 + m2)
  obtain ⟨N1, hN1⟩ := letter n1
  obtain ⟨TT, hTT⟩ := letter t
  simp only [hN1, hM1] at HR1
  simp only [hM2] at HR2
  rw [hM1] at hfrom hix
  simp only [hN1, hTT, hC] at HDC
  simp only [hC, hM3, hTT]
  have g1 : decide ((4611686018427387903 : Int) < C) = false := by rw [decide_eq_false_iff_not]; omega
  obtain ⟨D, hD⟩ : ∃ D, (4611686018427387903 : Int) - C = D := ⟨_, rfl⟩
  have hwD : IntKind.u64.wrap (4611686018427387903 - C) = D := by rw [hD]; exact u64_keep (by omega) (by omega)
  have g2 : decide (D < 0) = false := by rw [decide_eq_false_iff_not]; omega
  have hwC : IntKind.u64.wrap (C + 0) = C := by rw [Int.add_zero]; exact u64_keep (by omega) (by omega)
  have hwC2 : IntKind.u64.wrap C = C := u64_keep (by omega) (by omega)
  have hwM : wrap64 (M1 + M2) = M3 := by unfold wrap64; omega
  clear hcb hcV hcp hb hm ht hcap h1 h2 hm1 hm2 hx hn1 hd hc hdc hxn hX hC hM1 hM2 hM3 hN1 hTT hD
  go_enter Tryz.func29, Tryz.ntmps29
  go_wp2_with fail
  refine HR1.out.mono ?_
  rintro e w' ⟨rfl, rfl⟩
  go_wp2_with fail
  refine HR2.out.mono ?_
  rintro e w' ⟨rfl, rfl⟩
  go_wp2_with fail
  refine HDC.out.mono ?_
  rintro e w' ⟨rfl, rfl⟩
  go_wp2_with fail
  ((try simp only [Exit.inBlock, Exit.then]); refine bodyPost_ret (res_tmp4 rfl _ _ _) rfl ?_)
  exact ⟨congrArg (fun x => Ending.returned (.tuple #[.int .u64 C, .int .u64 C, .int .i64 x, .int .i64 0])) hwM, rfl⟩
end Go.Proofs.YtebakjdeighdnaaGreat

/-
  The document's entry, waits, forget (no stream waits), of the decoder.
-/
namespace Go.Proofs.YtebakjdeighdnaaGreat
open Go.RowKit Go.Maps
set_option linter.unusedVariables false

theorem ent_has {T : Tab} {a : Nat} {f : Fd} (h : T.has a f) : entF T.l T.first a = f ∧ isF T.l T.first a = true := by
  obtain ⟨h1, h2⟩ := h
  obtain ⟨h3, h4⟩ := List.getElem?_eq_some_iff.1 h2
  unfold entF isF
  rw [dif_pos ⟨h1, h3⟩]
  exact ⟨h4, decide_eq_true ⟨h1, h3⟩⟩
set_option maxRecDepth 100000 in
set_option maxHeartbeats 2000000 in
theorem entry_ok {q t abs c : Nat} {T : Tab} {f : Fd} {w : World} {S1 : Nat → Prop} (hrt : Rt t T w S1) (hh : T.has abs f) (hc : abs < c) (hc2 : c ≤ 1000000) (c0 : w.cell? ⟨q, 0, none⟩ = some (.pointer (some ⟨t, 0, none⟩))) :
    Calls Tryz.prog 69 #[.pointer (some ⟨q, 0, none⟩), .int .u64 (abs : Int), .bool true, .int .u64 (c : Int)] w fun e w' => e = .returned (.tuple #[.agg #[.string f.1, .string f.2], .bool true]) ∧ Below w.heap.size w w' := by
  obtain ⟨g0, hg0⟩ : ∃ g0, w.heap.size = g0 := ⟨_, rfl⟩
  obtain ⟨w1, hw1⟩ : ∃ w1, w.alloc (.cells #[.string ⟨#[]⟩, .string ⟨#[]⟩] 53) = w1 := ⟨_, rfl⟩
  have hb1 : Below w.heap.size w w1 := by rw [← hw1]; exact (Below.refl _ _).alloc (Nat.le_refl _) _
  have HF1 : Bx (Fb 53 w1 g0 (⟨#[]⟩, ⟨#[]⟩)) := ⟨by rw [← hw1, ← hg0]; exact Fb.new _ w (⟨#[]⟩, ⟨#[]⟩)⟩
  have HABS := Bx.mk (refAbs_any ((Wd.rt t T).keep hrt hb1) abs (by omega))
  obtain ⟨e1, e2⟩ := ent_has hh
  rw [e1, e2] at HABS
  obtain ⟨f1, f2⟩ := f
  unfold aggF at HABS
  simp only at HABS
  have c1 : w1.cell? ⟨q, 0, none⟩ = some (.pointer (some ⟨t, 0, none⟩)) := (hb1.cell (World.block_lt_of_cell? _ _ c0)).trans c0
  obtain ⟨AB, hAB⟩ := letter abs
  obtain ⟨C, hC⟩ := letter c
  have hd : decide (C ≤ AB) = false := by rw [decide_eq_false_iff_not]; omega
  simp only [hAB] at HABS
  simp only [hAB, hC]
  have HB1 := Bx.mk hb1
  have HGG : Bx (w.heap.size ≤ g0) := ⟨by omega⟩
  clear hrt hh hc hc2 e1 e2 hAB hC hb1 c0
  go_enter Tryz.func69, Tryz.ntmps69
  go_wp2_with (first
    | (go_at_call 99; refine HABS.out.mono ?_; rintro r w2 ⟨rfl, b2⟩; have HB2 := Bx.mk (below_next HB1.out b2); have HF2 := Bx.mk (HF1.out.keep b2); clear b2)
    | ((with_reducible refine wpList_storeF 53 g0 (⟨#[]⟩, ⟨#[]⟩) (f1, f2) rfl rfl HF2.out ?_); intro w3 hf3 hg3; have HF3 := Bx.mk hf3; have HB3 := Bx.mk (HB2.out.grown hg3 HB2.out.size (fun k hk => by injection hk with hk; have := HGG.out; omega))))
  exact bodyPost_ret (ret_field Tryz.results69 _ _ g0 (f1, f2) true rfl rfl HF3.out) rfl ⟨rfl, HB3.out⟩

set_option maxRecDepth 100000 in
set_option maxHeartbeats 2000000 in
theorem waits_none {q : Nat} {w : World} (s : Nat) (c5 : w.cell? ⟨q, 5, none⟩ = some (.slice none 0 0)) :
    Calls Tryz.prog 30 #[.pointer (some ⟨q, 0, none⟩), .int .u64 (s : Int)] w fun e w' => e = .returned (.int .i64 (-1)) ∧ w = w' := by
  have hlen := fun ty W => (Un.run_len (w := w) (v := .slice none 0 0) (ns := []) (Rd.of_rn (Rn.nil 1 w)) ty W)
  rw [show (([] : List Nat).length : Int) = 0 from rfl] at hlen
  go_enter Tryz.func30, Tryz.ntmps30
  go_wp2
  go_loopg [5] 0 (fun g s5 wx => s5 = .int .i64 0 ∧ wx = w)
  case atStart => exact ⟨rfl, rfl⟩
  case round =>
    obtain ⟨rfl, rfl⟩ := hrel
    go_wp2
    go_ret
    exact ⟨rfl, rfl⟩
set_option maxRecDepth 100000 in
set_option maxHeartbeats 2000000 in
theorem dforget_none {q : Nat} {w : World} (s : Nat) (c5 : w.cell? ⟨q, 5, none⟩ = some (.slice none 0 0)) :
    Calls Tryz.prog 31 #[.pointer (some ⟨q, 0, none⟩), .int .u64 (s : Int)] w fun e w' => (∃ r, e = .returned r) ∧ w = w' := by
  have HW := Bx.mk (waits_none s c5)
  clear c5
  go_enter Tryz.func31, Tryz.ntmps31
  go_wp2_with (go_at_call 30; refine HW.out.mono ?_; rintro r w2 ⟨rfl, rfl⟩)
  go_end0
  exact ⟨⟨_, rfl⟩, rfl⟩
end Go.Proofs.YtebakjdeighdnaaGreat
