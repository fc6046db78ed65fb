/-
  Payloads: a frame of one setting; bifoldlaw12's known answers.
-/
import Derived.Test.YtenoaljghbpaaaaPyI
import Derived.Lib.SlBytesConst
namespace Go.Proofs.Ytenoaljghbpaaaa
open Go.RowKit
set_option linter.unusedVariables false
set_option linter.unusedSimpArgs false

theorem bes_len (v : Int) (n : Nat) : (bes v n).length = n := by
  induction n with
  | zero => rfl
  | succ n ih => unfold bes; simp [ih]
set_option maxRecDepth 100000 in
set_option maxHeartbeats 4000000 in
theorem pySettings_one (v : Value) (w : World) (hv : Rows 2 sgvl w v [⟨4, 5⟩]) :
    Calls Try.prog 79 #[v] w fun e w' => ∃ A n c l, e = .returned (.agg (fraA 4 0 0 (.slice A n c))) ∧ OwB w' w.heap.size (.slice A n c) l ∧ l.length = 6 ∧ Below w.heap.size w w' := by
  have hlen : ∀ (tr : TypeId) (W : World), (Builtin.len_ #[48] tr #[v]).run Try.prog W = .ok (.int .i64 1) W := fun tr W => sgs_len hv tr W
  obtain ⟨b, o, hix0, hcs⟩ := sgs_at hv 0 (by simp)
  have hix : ∀ W : World, (Instr.indexAt 48 v (.int .i64 0)).run Try.prog W = .ok (.pointer (some ⟨b, o, none⟩)) W := fun W => hix0 .i64 W
  have HB1 := Bx.mk ((Below.refl w.heap.size w).alloc (Nat.le_refl _) (.cells (fraA 0 0 0 nilV) 28))
  have HZ1 : Bx (Sb 28 (w.alloc (.cells (fraA 0 0 0 nilV) 28)) w.heap.size (fraA 0 0 0 nilV)) := ⟨Sb.new _ w _⟩
  have c0 : (w.alloc (.cells (fraA 0 0 0 nilV) 28)).cell? ⟨b, o, none⟩ = some (.int .u64 4) := (hcs _ (hv.keep HB1.out)).1
  have c1 : (w.alloc (.cells (fraA 0 0 0 nilV) 28)).cell? ⟨b, o + 1, none⟩ = some (.int .u64 5) := (hcs _ (hv.keep HB1.out)).2
  have hor : bits .or .u64 17179869184 5 = 17179869189 := by decide
  have hw1 : IntKind.u64.wrap 17179869184 = 17179869184 := by decide
  clear hix0 hcs hv
  go_enter Try.func79, Try.ntmps79
  go_upto_region 3 with fail
  obtain ⟨w1, hw1⟩ : ∃ W, w.alloc (.cells (fraA 0 0 0 nilV) 28) = W := ⟨_, rfl⟩
  obtain ⟨g1, hg1⟩ : ∃ g, w.heap.size = g := ⟨_, rfl⟩
  rw [hw1] at HB1 HZ1 c0 c1 ⊢
  have HBW := HB1
  rw [hg1] at HZ1 ⊢
  have HG : Bx (g1 < w1.heap.size ∧ w.heap.size ≤ g1) := ⟨HZ1.out.lt, by omega⟩
  clear hw1 hg1 HB1
  go_loopg [8, 3] 1 (fun g s8 s3 wx => ∃ (k : Nat) (A : Option Addr) (n c : Nat) (l : List UInt8), k + g = 1 ∧ s8 = .int .i64 k ∧ s3 = .slice A n c ∧ l.length = 6 * k ∧ Bx (OwB wx w1.heap.size (.slice A n c) l) ∧ Bx (Below w1.heap.size w1 wx) ∧ (k = 0 → w1 = wx))
  case atStart => exact ⟨0, none, 0, 0, [], rfl, rfl, rfl, rfl, ⟨OwB.nil _ _⟩, ⟨Below.refl _ _⟩, fun _ => rfl⟩
  case round =>
    obtain ⟨k, A0, n0, cc0, l, hkg, rfl, rfl, hll, HU, HC, hk0⟩ := hrel
    cases gk with
    | zero =>
      obtain rfl : k = 1 := by omega
      have hd : decide (((1 : Nat) : Int) < 1) = false := by decide
      have HLL := Bx.mk hll
      clear hkg hk0 hll c0 c1
      go_wp2_with (with_reducible refine wpList_storeFra g1 _ 4 0 0 A0 n0 cc0 rfl rfl (HZ1.out.below HC.out HG.out.1) rfl ?_; intro w8 hs8 hg8; have HS8 := Bx.mk hs8; have HU8 := Bx.mk (HU.out.grownO hg8 HG.out.1); have HB8 := Bx.mk ((HBW.out.trans (HC.out.mono HBW.out.size)).grown hg8 (HBW.out.trans (HC.out.mono HBW.out.size)).size (fun k hk => by injection hk with hk; have := HG.out.2; omega)); clear hs8 hg8)
      exact bodyPost_ret (ret_S1 Try.results79 _ _ g1 28 (fraA 4 0 0 (.slice A0 n0 cc0)) _ rfl HS8.out Try.underlying28 rfl fra_size) rfl ⟨A0, n0, cc0, l, rfl, HU8.out.mono HBW.out.size, HLL.out, HB8.out⟩
    | succ g =>
      obtain rfl : k = 0 := by omega
      obtain rfl := hk0 rfl
      obtain rfl : l = [] := List.length_eq_zero_iff.1 (by omega)
      have hd : decide (((0 : Nat) : Int) < 1) = true := by decide
      have HKG := Bx.mk hkg
      have HB2 := Bx.mk ((Below.refl w1.heap.size w1).alloc (Nat.le_refl _) (.cells #[.int .u64 4, .int .u64 5] 63))
      have HBIG := fun W => big_any nilV [] 17179869189 6 W (Rd.nil W) (by simp) (by omega) (by omega)
      rw [show (min (max (6 : Int) 0) 8).toNat = 6 from by decide] at HBIG
      replace HBIG := Bx.mk HBIG
      have HU2 := Bx.mk (HU.out.keep HB2.out)
      clear hk0 hll hkg
      go_wp2_with (first
        | (go_at_call 106; refine (HBIG.out _).mono ?_; rintro e w3 ⟨v3, rfl, h3, b3⟩; have HB3 := Bx.mk (HB2.out.trans (b3.mono HB2.out.size)); have HU3 := Bx.mk (HU2.out.keep b3); have HV3 := Bx.mk h3.rd; clear h3 b3)
        | (at_builtin; refine wpList_append_ob rfl _ _ rfl w1.heap.size (.slice A0 n0 cc0) v3 [] _ rfl rfl HU3.out HV3.out (by simp [bes_len]) HB3.out.size ?_; intro v4 w4 h4 b4; obtain ⟨A4, n4, cc4, rfl⟩ := h4.shape; have HU4 := Bx.mk h4; have HB4 := Bx.mk (HB3.out.trans b4); clear h4 b4))
      go_roundg g
      case measure => omega
      case rel => exact ⟨1, A4, n4, cc4, _, by have := HKG.out; omega, rfl, rfl, by simp [bes_len], HU4, HB4, fun h => absurd h (by decide)⟩
theorem Rd.mark (w : World) (e : TypeId) (m : Nat × Nat) (cs : Array Value) (n : Nat) (hn : cs.size = n) (hm : n ≤ maxLen) : Rd (w.alloc (.cells cs e m)) (.slice (some ⟨w.heap.size, 0, none⟩) n n) cs.toList := by
  have hl : cs.toList.length = n := by simpa using hn
  rw [← hl]
  refine ⟨_, _, rfl, Nat.le_refl _, by omega, .inr ⟨_, rfl, fun j u hu => ?_⟩⟩
  rw [Addr.add_lit, Nat.zero_add]
  obtain ⟨m1, m2⟩ := m
  rw [World.cell?_alloc_mark w cs e (m1, m2) j]
  simpa using hu
theorem abS : bstr [97, 98] = ⟨#[97, 98]⟩ := rfl
set_option maxRecDepth 100000 in
set_option maxHeartbeats 8000000 in
theorem known12_any (w : World) : Calls Try.prog 28 #[] w fun e w' => e = .returned (.bool true) ∧ Below w.heap.size w w' := by
  have hm3 : madeCells #[.int .u8 0] 3 = #[.int .u8 0, .int .u8 0, .int .u8 0] := by kernel_rfl
  have hmk : ∀ W : World, (Instr.makeSlice 22 (.int .i64 3) (.int .i64 3)).run Try.prog W = .ok (.slice (some ⟨W.heap.size, 0, none⟩) 3 3) (W.alloc (.cells #[.int .u8 0, .int .u8 0, .int .u8 0] 5)) := fun W => by
    have h := run_make_row' (P := Try.prog) 22 5 (.int .u8 0) 1 Try.underlying22 infoU8i rfl .i64 .i64 3 (by omega) (by omega) W
    rw [hm3] at h
    exact h
  have HR3 := Bx.mk (fun W : World => (show Bs (W.alloc (.cells #[.int .u8 0, .int .u8 0, .int .u8 0] 5)) (.slice (some ⟨W.heap.size, 0, none⟩) 3 3) [0, 0, 0] from Rd.lit W 5 _ 3 rfl (by unfold maxLen; omega)))
  have HR2 := Bx.mk (fun W : World => (show Bs (W.alloc (.cells #[.int .u8 97, .int .u8 98] 5 (2, 3))) (.slice (some ⟨W.heap.size, 0, none⟩) 2 2) [97, 98] from Rd.mark W 5 (2, 3) _ 2 rfl (by unfold maxLen; omega)))
  have kc2 : ∀ W : World, (convert 22 22 (.slice (some ⟨W.heap.size, 0, none⟩) 2 2)).run Try.prog (W.alloc (.cells #[.int .u8 97, .int .u8 98] 5)) = .ok (.slice (some ⟨W.heap.size, 0, none⟩) 2 2) (W.alloc (.cells #[.int .u8 97, .int .u8 98] 5 (2, 3))) := fun W => Lib.run_convert_bytes_const W 22 5 #[.int .u8 97, .int .u8 98] 2 2 Try.underlying22 Try.underlying5
  have HRS := Bx.mk (fun W : World => Rows.lit (k := 2) (f := sgvl) W 63 [(⟨4, 5⟩ : Stg)] #[.int .u64 4, .int .u64 5] 1 rfl rfl rfl (by unfold maxLen; omega))
  have C1 := Bx.mk (fun (v : Value) (W : World) (h : Bs W v [0, 0, 0]) => pyRead_any 3 0 1 v [0, 0, 0] (by omega) (by omega) (by omega) W 3 0 1 rfl rfl rfl h (by simp))
  have C2 := Bx.mk (fun (v : Value) (W : World) (h : Bs W v [2, 97, 98, 0, 0]) => pyRead_any 0 9 3 v [2, 97, 98, 0, 0] (by omega) (by omega) (by omega) W 0 9 3 rfl rfl rfl h (by simp))
  have C3 := Bx.mk (fun (W : World) => pyRead_any 6 0 1 nilV [] (by omega) (by omega) (by omega) W 6 0 1 rfl rfl rfl (Rd.nil W) (by simp))
  have CC1 := Bx.mk (fun W => pyCode_any 3 2 W)
  have CC2 := Bx.mk (fun W => pyCode_any 8 3 W)
  rw [show codeN 3 2 = 3 from rfl] at CC1
  rw [show codeN 8 3 = 270 from rfl] at CC2
  have e1 : payR 3 0 1 [0, 0, 0] = 1 := by decide
  have e2 : payR 0 9 3 [2, 97, 98, 0, 0] = 0 := by decide
  have e3 : payR 6 0 1 [] = 2 := by decide
  have hd2 : dataN 0 9 [2, 97, 98, 0, 0] = [97, 98] := by decide
  have E1 := Bx.mk e1
  have E2 := Bx.mk e2
  have E3 := Bx.mk e3
  have HD2 := Bx.mk hd2
  clear e1 e2 e3 hd2 hm3
  go_enter Try.func28, Try.ntmps28
  have HB0 := Bx.mk (Below.refl w.heap.size w)
  go_upto_region 2 with (go_at_call 31; refine (C1.out _ _ (HR3.out w)).mono ?_; rintro e w1 ⟨⟨A1, n1, c1, A2, n2, c2, cc, ss, ii, he, _⟩, b1⟩; rw [E1.out] at he; subst he; have HB1 := Bx.mk (((Below.refl w.heap.size w).alloc (Nat.le_refl _) (.cells #[.int .u8 0, .int .u8 0, .int .u8 0] 5)).trans (b1.mono (by simp))); clear b1)
  have HBa := Bx.mk (HB1.out.alloc HB1.out.size (.cells (payA (.slice A1 n1 c1) (.slice A2 n2 c2) cc ss ii) 50))
  obtain ⟨wa, hwa⟩ : ∃ W, w1.alloc (.cells (payA (.slice A1 n1 c1) (.slice A2 n2 c2) cc ss ii) 50) = W := ⟨_, rfl⟩
  rw [hwa] at HBa ⊢
  clear hwa HB1 HB0 C1 HR3 E1 hmk
  have HR2a := Bx.mk (HR2.out wa)
  have HBb := Bx.mk (HBa.out.alloc HBa.out.size (.cells #[.int .u8 97, .int .u8 98] 5 (2, 3)))
  go_upto_region 3 with (first
    | (go_at_call 78; refine (pyData_two 3 _ _ HR2a.out).mono ?_; rintro e wd ⟨Ad, nd, cd, rfl, hd, bd⟩; have HBd := Bx.mk (HBb.out.trans (bd.mono HBb.out.size)); have HDd := Bx.mk hd.bs; clear hd bd)
    | (go_at_call 31; refine (C2.out _ _ HDd.out).mono ?_; rintro e we ⟨⟨A3, n3, c3, A4, n4, c4, cc2, ss2, ii2, he, hp⟩, be⟩; rw [E2.out] at he; subst he; have HBe := Bx.mk (HBd.out.trans (be.mono HBd.out.size)); obtain ⟨hu, -⟩ := (hp E2.out).1 (.inl rfl); rw [HD2.out] at hu; have HUe := Bx.mk hu.bs; clear be hp hu))
  have HBf := Bx.mk (HBe.out.alloc HBe.out.size (.cells (payA (.slice A3 n3 c3) (.slice A4 n4 c4) cc2 ss2 ii2) 50))
  have HSf : Bx (Sb 50 (we.alloc (.cells (payA (.slice A3 n3 c3) (.slice A4 n4 c4) cc2 ss2 ii2) 50)) we.heap.size (payA (.slice A3 n3 c3) (.slice A4 n4 c4) cc2 ss2 ii2)) := ⟨Sb.new _ we _⟩
  have HUf := Bx.mk (HUe.out.keep ((Below.refl we.heap.size we).alloc (Nat.le_refl _) (.cells (payA (.slice A3 n3 c3) (.slice A4 n4 c4) cc2 ss2 ii2) 50)))
  obtain ⟨g3, hg3⟩ : ∃ g, we.heap.size = g := ⟨_, rfl⟩
  obtain ⟨wf, hwf⟩ : ∃ W, we.alloc (.cells (payA (.slice A3 n3 c3) (.slice A4 n4 c4) cc2 ss2 ii2) 50) = W := ⟨_, rfl⟩
  rw [hwf] at HBf HSf HUf ⊢
  rw [hg3] at HSf ⊢
  clear hwf hg3 HBe HUe HBb HR2a HR2 C2 HBa HDd HBd HD2
  go_upto_region 4 with (go_at_call 31; refine (C3.out _).mono ?_; rintro e wg ⟨⟨A5, n5, c5, A6, n6, c6, cc3, ss3, ii3, he, _⟩, bg⟩; rw [E3.out] at he; subst he; have HXg := Bx.mk bg; clear bg)
  have HX6 := Bx.mk (HXg.out.alloc HXg.out.size (.cells (payA (.slice A5 n5 c5) (.slice A6 n6 c6) cc3 ss3 ii3) 50))
  obtain ⟨wh, hwh⟩ : ∃ W, wg.alloc (.cells (payA (.slice A5 n5 c5) (.slice A6 n6 c6) cc3 ss3 ii3) 50) = W := ⟨_, rfl⟩
  rw [hwh] at HX6 ⊢
  clear hwh HXg C3 E3
  have HRh := Bx.mk (HRS.out wh)
  have HXi := Bx.mk (HX6.out.alloc HX6.out.size (.cells #[.int .u64 4, .int .u64 5] 63))
  go_upto_region 5 with (go_at_call 79; refine (pySettings_one _ _ HRh.out).mono ?_; rintro e wj ⟨A7, n7, c7, l7, rfl, h7, hl7, b7⟩; have HXj := Bx.mk (HXi.out.trans (b7.mono HXi.out.size)); have H7 := Bx.mk h7.bs; have HL7 := Bx.mk hl7; clear b7 h7 hl7)
  have HXk := Bx.mk (HXj.out.alloc HXj.out.size (.cells (fraA 4 0 0 (.slice A7 n7 c7)) 28))
  have HS7 : Bx (Sb 28 (wj.alloc (.cells (fraA 4 0 0 (.slice A7 n7 c7)) 28)) wj.heap.size (fraA 4 0 0 (.slice A7 n7 c7))) := ⟨Sb.new _ wj _⟩
  obtain ⟨g7, hg7⟩ : ∃ g, wj.heap.size = g := ⟨_, rfl⟩
  obtain ⟨wk, hwk⟩ : ∃ W, wj.alloc (.cells (fraA 4 0 0 (.slice A7 n7 c7)) 28) = W := ⟨_, rfl⟩
  rw [hwk] at HXk HS7 ⊢
  rw [hg7] at HS7 ⊢
  clear hwk hg7 HXj HXi HX6 HRh HRS
  have x3 : wk.cell? ⟨g3, 0, none⟩ = some (.slice A3 n3 c3) := (HSf.out.below HXk.out HSf.out.lt).cell 0
  have x7 : wk.cell? ⟨g7, 3, none⟩ = some (.slice A7 n7 c7) := HS7.out.cell 3
  have hcv : (convert 22 9 (.slice A3 n3 c3)).run Try.prog wk = .ok (.string ⟨#[97, 98]⟩) wk := by rw [← abS]; exact conv_str (HUf.out.keep HXk.out)
  have hl7 : ∀ (tr : TypeId) (W : World), (Builtin.len_ #[22] tr #[.slice A7 n7 c7]).run Try.prog W = .ok (.int .i64 6) W := fun tr W => by
    have h := H7.out.run_len tr W
    rw [HL7.out] at h
    exact h
  go_wp2_with (first
    | (go_at_call 29; have hz := M1; clear hz; refine (CC2.out _).mono ?_; rintro e wl ⟨rfl, hwl⟩; subst hwl)
    | (go_at_call 29; refine (CC1.out _).mono ?_; rintro e wl ⟨rfl, hwl⟩; subst hwl; have M1 := HS7))
  go_ret
  exact ⟨rfl, HBf.out.trans (HXk.out.mono HBf.out.size)⟩
end Go.Proofs.Ytenoaljghbpaaaa
