/-
  Texts put together: QrD.
-/
import Derived.Test.YteopmaaghhendaaM22
import Derived.Test.YteopmaaghhendaaM12

/-
  Contracts of the program's QPACK decoder: Send, New; of the table's Count and Cap, that they change nothing.
-/
namespace Go.Proofs.Yteopmaaghhendaa
open Go.RowKit Go.Maps
set_option linter.unusedVariables false
set_option linter.unusedSimpArgs false

theorem count_same {p : Nat} {T : Tab} {w : World} {S : Nat → Prop} (h : Tb p T w S) : Calls Try.prog 12 #[.pointer (some ⟨p, 0, none⟩)] w fun e w' => e = .returned (.int .u64 (T.tot : Int)) ∧ w' = w := by
  obtain ⟨v, bw, bn, Dw, Dn, h1, _⟩ := h.tr
  obtain ⟨_, _, _, _, _, c5⟩ := h1.cells
  clear h h1
  go_enter Try.func12, Try.ntmps12
  go_wp2_with fail
  go_ret
  exact ⟨rfl, rfl⟩
theorem cap_same {p : Nat} {T : Tab} {w : World} {S : Nat → Prop} (h : Tb p T w S) : Calls Try.prog 69 #[.pointer (some ⟨p, 0, none⟩)] w fun e w' => e = .returned (.int .i64 (T.cap : Int)) ∧ w' = w := by
  obtain ⟨v, bw, bn, Dw, Dn, h1, _⟩ := h.tr
  obtain ⟨_, _, _, _, c4, _⟩ := h1.cells
  clear h h1
  go_enter Try.func69, Try.ntmps69
  go_wp2_with fail
  go_ret
  exact ⟨rfl, rfl⟩

section
variable {q p : Nat} {w w' : World} {S : Nat → Prop} {X Y : Qr}
/-- The decoder's table. -/
theorem Dq.tab (h : Dq q p X w S) : w.cell? ⟨q, 0, none⟩ = some (.pointer (some ⟨p, 0, none⟩)) ∧ ∃ S1, Tb p X.T w S1 ∧ (∀ k, S1 k → S k) ∧ ∀ w' T', Turn (Tb p T') S1 w w' → Turn (Dq q p { X with T := T' }) S w w' := by
  obtain ⟨bm, vR, vS, h⟩ := h
  obtain ⟨S1, h1, h2, h3⟩ := h.opT
  exact ⟨h.cells.1, S1, h1, h2, fun w' T' ht => Dq.shut (h3 w' T' ht) rfl rfl rfl rfl rfl rfl rfl rfl⟩
theorem Dq.ends (h : Dq q p X w S) : ∃ A n c, w.cell? ⟨q, 8, none⟩ = some (.slice A n c) ∧ w.frozen? ⟨q, 8, none⟩ = false ∧ Turn (Both (Dq q p { X with says := [] }) (Owb (.slice A n c) X.says)) S w (w.setCell ⟨q, 8, none⟩ (.slice none 0 0)) := by
  obtain ⟨bm, vR, vS, h⟩ := h
  obtain ⟨_, _, _, _, _, _, _, _, c8, _, cf⟩ := h.cells
  obtain ⟨S6, ⟨o1, _⟩, _⟩ := h.opS
  obtain ⟨A, n, c, rfl⟩ := o1.shape2
  refine ⟨A, n, c, c8, cf 8, h.takeSays.trans fun S' hh => ?_⟩
  obtain ⟨S1, S2, k1, k2, k3, k4⟩ := hh
  exact ⟨S', ⟨S1, S2, ⟨_, _, _, k1⟩, k2, k3, k4⟩, fun k hk => .inl hk, Fp.of_below (Below.refl _ _)⟩
theorem Dq.endsAt (h : Dq q p X w S) {v : Value} (hv : w.cell? ⟨q, 8, none⟩ = some v) : Turn (Both (Dq q p { X with says := [] }) (Owb v X.says)) S w (w.setCell ⟨q, 8, none⟩ (.slice none 0 0)) := by
  obtain ⟨A, n, c, e, _, ht⟩ := h.ends
  rw [hv] at e
  injection e with e
  subst e
  exact ht
theorem Dq.tell (h : Dq q p X w S) (n : Nat) : w.cell? ⟨q, 9, none⟩ = some (.int .u64 (X.told : Int)) ∧ w.frozen? ⟨q, 9, none⟩ = false ∧ Turn (Dq q p { X with told := n }) S w (w.setCell ⟨q, 9, none⟩ (.int .u64 (n : Int))) := by
  obtain ⟨bm, vR, vS, h⟩ := h
  obtain ⟨_, _, _, _, _, _, _, _, _, c9, cf⟩ := h.cells
  exact ⟨c9, cf 9, Dq.shut (h.put 9 (.int .u64 (n : Int)) (dF_told _ _ _ _ _ _ _ _ _ _ _)) rfl rfl rfl rfl rfl rfl rfl rfl⟩
set_option maxRecDepth 100000 in
set_option maxHeartbeats 2000000 in
theorem dsend_any (h : Dq q p X w S) (hl : X.says.length ≤ 1000000) (htd : X.told ≤ X.T.tot) (htt : X.T.tot ≤ 1000000) :
    Calls Try.prog 14 #[.pointer (some ⟨q, 0, none⟩)] w fun e w' => ∃ v, e = .returned v ∧ Turn (Both (Dq q p X.sent) (Owb v X.send)) S w w' := by
  have hN : ∀ n, Dq q p X (w.drewN n) S := fun n => (Wd.dq q p X).keep h (below_drewN (Below.refl _ _) n)
  have HB := Bx.mk (fun n => below_drewN (Below.refl w.heap.size w) n)
  have HCT := Bx.mk (fun n => by obtain ⟨_, S1, h1, _⟩ := (hN n).tab; exact count_same h1)
  obtain ⟨c0, _⟩ := h.tab
  obtain ⟨c9, _, _⟩ := h.tell 0
  obtain ⟨KK, hKK⟩ := letter X.told
  obtain ⟨TT, hTT⟩ := letter X.T.tot
  obtain ⟨DD, hDD⟩ := letter (X.T.tot - X.told)
  rw [hKK] at c9
  rw [hTT] at HCT
  have hsub : IntKind.u64.wrap (TT - KK) = DD := by rw [u64_keep (by omega) (by omega)]; omega
  by_cases h0 : X.told < X.T.tot
  · have hsend : X.send = X.says ++ pre 0 6 (X.T.tot - X.told) := by unfold Qr.send; rw [if_pos h0]
    have hsent : X.sent = { X with says := [], told := X.T.tot } := by unfold Qr.sent; rw [Nat.max_eq_right htd]
    rw [hsend, hsent]
    have hd : decide (0 < DD) = true := decide_eq_true (by omega)
    have hadd : IntKind.u64.wrap (KK + DD) = TT := by rw [u64_keep (by omega) (by omega)]; omega
    have HSAY := Bx.mk (fun n => say_any (hN n) 0 0 6 (by omega) (by omega) (by decide) (X.T.tot - X.told) (by omega) hl 0 6 DD rfl rfl hDD)
    have HT1 := Bx.mk (fun W S' (hh : Dq q p { X with says := X.says ++ pre 0 6 (X.T.tot - X.told) } W S') => hh.tell X.T.tot)
    have HT2 := Bx.mk (fun W S' (hh : Dq q p { X with says := X.says ++ pre 0 6 (X.T.tot - X.told), told := X.T.tot } W S') => hh.ends)
    simp only [hTT, hKK] at HT1
    obtain ⟨SY, hSY⟩ : ∃ SY, X.says ++ pre 0 6 (X.T.tot - X.told) = SY := ⟨_, rfl⟩
    simp only [hSY] at HSAY HT1 HT2 ⊢
    clear h hN hKK hTT hDD h0 hl htd htt hSY hsend hsent
    go_enter Try.func14, Try.ntmps14
    go_wp2_with fail
    go_quiet ((go_at_call 12; exact Calls.quiet_of_same (HCT.out _)))
    go_wp2_with (go_at_call 31; refine (HSAY.out _).mono ?_; rintro e w1 ⟨rfl, ht1⟩; obtain ⟨S1, k1, s1, f1⟩ := ht1; obtain ⟨c9', f9, ht2⟩ := HT1.out w1 S1 k1; obtain ⟨S2, k2, s2, f2⟩ := ht2; obtain ⟨sA, sn, sc, c8, f8, ht3⟩ := HT2.out _ S2 k2; have HFIN := Bx.mk (Turn.step s1 f1 (Turn.step s2 f2 ht3)); clear k1 k2 ht3 s1 f1 s2 f2)
    go_ret
    exact ⟨_, rfl, Turn.before (HB.out _) HFIN.out⟩
  · have hsend : X.send = X.says := by unfold Qr.send; rw [if_neg h0]
    have hsent : X.sent = { X with says := [] } := by
      unfold Qr.sent
      have : max X.told X.T.tot = X.told := by omega
      rw [this]
    rw [hsend, hsent]
    have hd : decide (0 < DD) = false := decide_eq_false (by omega)
    obtain ⟨sA, sn, sc, c8, f8, _⟩ := h.ends
    have HT2 := Bx.mk (fun n => (hN n).endsAt (v := .slice sA sn sc) c8)
    clear h hN hKK hTT hDD h0 hl htd htt hsend hsent
    go_enter Try.func14, Try.ntmps14
    go_wp2_with fail
    go_quiet ((go_at_call 12; exact Calls.quiet_of_same (HCT.out _)))
    go_wp2_with fail
    go_ret
    exact ⟨_, rfl, Turn.before (HB.out _) (HT2.out _)⟩
theorem Dq.made {w1 : World} {t : Nat} {S1 : Nat → Prop} (h : Tb t ⟨[], 0, 0⟩ w1 S1) (c b : Nat) :
    Dq (w1.heap.size + 1) t (Qr.new c b) ((w1.alloc (.map #[] 0)).alloc (.cells #[.pointer (some ⟨t, 0, none⟩), .int .i64 (c : Int), .int .i64 (b : Int), .map (some w1.heap.size), .slice none 0 0, .bool false, .string ⟨#[]⟩, .bool false, .slice none 0 0, .int .u64 0] 60))
      (fun k => (S1 k ∨ k = w1.heap.size) ∨ k = w1.heap.size + 1) := by
  have ba := (Below.refl w1.heap.size w1).alloc (Nat.le_refl _) (.map #[] 0)
  have hm := Wl.made w1
  have hlt := h.lt
  obtain ⟨wa, ha⟩ : ∃ wa, w1.alloc (.map #[] 0) = wa := ⟨_, rfl⟩
  have sa : wa.heap.size = w1.heap.size + 1 := by rw [← ha]; simp
  rw [ha] at ba hm
  rw [ha]
  have hin : Din t w1.heap.size (.slice none 0 0) (.slice none 0 0) ⟨[], 0, 0⟩ [] [] [] wa (fun k => S1 k ∨ k = w1.heap.size) :=
    ⟨S1, fun k => k = w1.heap.size, (Wd.tb _ _).keep h ba, ⟨fun k => k = w1.heap.size, fun _ => False, hm, ⟨_, _, Owb.none_ wa, Owb.none_ wa, fun k hk => hk.elim, fun k => by simp⟩, fun k _ hk => hk, fun k => by simp⟩, fun k a b => by have := hlt k a; omega, fun k => Iff.rfl⟩
  have hh := Hd.new (F := dF t c b w1.heap.size (.slice none 0 0) false ⟨#[]⟩ false (.slice none 0 0) 0) (ty := 60) (Wd.din ..) hin #[.pointer (some ⟨t, 0, none⟩), .int .i64 (c : Int), .int .i64 (b : Int), .map (some w1.heap.size), .slice none 0 0, .bool false, .string ⟨#[]⟩, .bool false, .slice none 0 0, .int .u64 0] (fun i hi => by
    have hi : i < 10 := hi
    unfold dF
    match i, hi with
    | 0, _ => rfl
    | 1, _ => rfl
    | 2, _ => rfl
    | 3, _ => rfl
    | 4, _ => rfl
    | 5, _ => rfl
    | 6, _ => rfl
    | 7, _ => rfl
    | 8, _ => rfl
    | 9, _ => rfl)
  rw [sa] at hh
  exact ⟨w1.heap.size, .slice none 0 0, .slice none 0 0, hh⟩
set_option maxRecDepth 100000 in
set_option maxHeartbeats 4000000 in
theorem dnew_any (n b : Int) (hb : -9223372036854775808 ≤ b ∧ b < 9223372036854775808) (w : World) :
    Calls Try.prog 8 #[.int .i64 n, .int .i64 b] w fun r w' => ∃ q p S, r = .returned (.pointer (some ⟨q, 0, none⟩)) ∧ Dq q p (Qr.new (clampN n) b.toNat) w' S ∧ (∀ k, S k → w.heap.size ≤ k) ∧ Below w.heap.size w w' := by
  have h58 : ∀ (W : World), (Instr.makeMap 58 none).run Try.prog W = .ok (.map (some W.heap.size)) (W.alloc (.map #[] 0)) := fun W => by
    simp [Instr.makeMap, Result.andThen]
  have hle := clampN_le n
  have hcl := clampN_eq n
  have HN := Bx.mk (fun W => new_any 0 W (by omega))
  have HMX : Bx (max b 0 = ((b.toNat : Nat) : Int)) := ⟨by omega⟩
  generalize clampN n = c at hle hcl ⊢
  have HT : Bx (Tab.new 0 = ⟨[], 0, 0⟩) := ⟨by unfold Tab.new; simp⟩
  simp only [HT.out] at HN
  clear hb hle
  go_enter Try.func8, Try.ntmps8
  go_wp2_with (go_at_call 25; refine (HN.out _).mono ?_; rintro e w1 ⟨t, S, rfl, hrt, hS, hb⟩; have HRT := Bx.mk hrt; have HS := Bx.mk hS; have HB := Bx.mk hb; clear hrt hS hb)
  go_ret
  rw [HMX.out]
  have hsz := HB.out.size
  have hlt := HRT.out.lt
  refine ⟨w1.heap.size + 1, t, _, rfl, Dq.made HRT.out c b.toNat, ?_, HB.out.trans ((((Below.refl w1.heap.size w1).alloc (Nat.le_refl _) _).alloc (by simp) _).mono hsz)⟩
  rintro k ((hk | hk) | hk)
  · exact HS.out k hk
  · omega
  · omega
end
end Go.Proofs.Yteopmaaghhendaa
