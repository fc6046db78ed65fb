/-
  Texts put together: QpT.
-/
import Derived.Test.YtebakjdeighdnaaGreatM32

/-
  Contract of the encoder's mayInsert.
-/
namespace Go.Proofs.YtebakjdeighdnaaGreat
open Go.RowKit Go.Maps
set_option linter.unusedVariables false

/-- May a field be inserted? -/
def roomC (K : Nat) (c : Nat → Nat) (T : Tab) (f : Fd) : Bool := !secN f.1 && (decide (fsz f + 32 ≤ T.cap / 4) && roomGo T.cap (fsz f + 32) (pinC K c) T.l T.first)
section
variable {q p : Nat} {X : Qc} {Z : World → Prop} {w w' : World} {S : Nat → Prop} {c : Nat → Nat}
set_option maxRecDepth 100000 in
set_option maxHeartbeats 4000000 in
theorem mayInsert_any (h : Raw q p X Z w S) (hc : X.gU = useF c) (hgq : X.T.gq) (hcb : ∀ a, c a ≤ 1000000000) (f : Fd) (hf : fsz f ≤ 100000) :
    Calls Tryz.prog 53 #[.pointer (some ⟨q, 0, none⟩), .agg #[.string f.1, .string f.2]] w fun e w' => e = .returned (.bool (roomC X.K c X.T f)) ∧ Below w.heap.size w w' := by
  have hcap : X.T.cap ≤ 1000000 := h.ok.cap
  have HROOM := Bx.mk (fun (W : World) (hW : Below w.heap.size w W) (n : Nat) (hn : n ≤ X.T.cap) => hasRoom_any ((Wd.raw _ _ _ _).keep h hW) hc n hn hgq hcb)
  obtain ⟨bs, bq, bu, bb, vR, S1, S2, h, _⟩ := h
  have hX0 : ∀ W, Below w.heap.size w W → W.cell? ⟨q, 0, none⟩ = some (.pointer (some ⟨p, 0, none⟩)) := fun W hW => (h.keep hW).cells.1
  have HCAP := Bx.mk (fun (W : World) (hW : Below w.heap.size w W) => cap_any ((Wd.tb _ _).keep h.tb hW))
  have hroom : roomC X.K c X.T f = (!secN f.1 && (decide (fsz f + 32 ≤ X.T.cap / 4) && roomGo X.T.cap (fsz f + 32) (pinC X.K c) X.T.l X.T.first)) := rfl
  obtain ⟨R, hR⟩ : ∃ R, roomC X.K c X.T f = R := ⟨_, rfl⟩
  obtain ⟨cap, hcp⟩ : ∃ cap, X.T.cap = cap := ⟨_, rfl⟩
  obtain ⟨n, hn⟩ : ∃ n, fsz f + 32 = n := ⟨_, rfl⟩
  rw [hR, hcp, hn] at hroom
  rw [hR]
  simp only [hcp] at HROOM HCAP
  rw [hcp] at hcap
  obtain ⟨RG, hRG⟩ : ∃ RG, roomGo cap n (pinC X.K c) X.T.l X.T.first = RG := ⟨_, rfl⟩
  rw [hRG] at hroom
  have HRM : Bx (n ≤ cap → ∀ W : World, Below w.heap.size w W → Calls Tryz.prog 88 #[.pointer (some ⟨q, 0, none⟩), .int .i64 (n : Int)] W fun e w' => e = .returned (.bool RG) ∧ Below W.heap.size W w') := ⟨fun hle W hW => by rw [← hRG]; exact HROOM.out W hW n hle⟩
  clear HROOM
  have HB0 := Bx.mk ((Below.refl w.heap.size w).alloc (Nat.le_refl _) (.cells #[.string f.1, .string f.2] 53))
  have HF0 := Bx.mk (Fb.new 53 w f)
  obtain ⟨f1, f2⟩ := f
  simp only at HB0 HF0 hroom ⊢
  have hs1 : sizeF [(f1, f2)] = n := by rw [← hn]; simp [sizeF]
  have HSZ : Bx (∀ (W : World) (u : Value), Fs W u [(f1, f2)] → Calls Tryz.prog 86 #[u] W fun e w' => e = .returned (.int .i64 (n : Int)) ∧ Below W.heap.size W w') := ⟨fun W u hu => by rw [← hs1]; exact size_any u [(f1, f2)] W hu (by omega)⟩
  have HSEC := Bx.mk (fun W => qsecret_any f1 W)
  obtain ⟨sc, hsc⟩ : ∃ sc, secN f1 = sc := ⟨_, rfl⟩
  rw [hsc] at HSEC hroom
  have hnb : n ≤ 200000 := by omega
  obtain ⟨w1, hw1⟩ : ∃ w1, w.alloc (.cells #[.string f1, .string f2] 53) = w1 := ⟨_, rfl⟩
  rw [hw1] at HB0 HF0
  obtain ⟨g, hg⟩ : ∃ g, w.heap.size = g := ⟨_, rfl⟩
  rw [hg] at HF0
  obtain ⟨e1, e2⟩ := HF0.out.cells
  simp only at e1 e2
  have HB1 := Bx.mk ((Below.refl w1.heap.size w1).alloc (Nat.le_refl _) (.cells #[.string f1, .string f2] 53))
  have HFS := Bx.mk (Fs.one w1 _ rfl (f1, f2))
  clear h hc hgq hcb hf hR hcp hn hRG hs1 hsc
  obtain ⟨CAP, hCAP⟩ := letter cap
  obtain ⟨NN, hNN⟩ := letter n
  simp only [hCAP] at HCAP
  simp only [hNN] at HSZ HRM
  cases sc with
  | true =>
    simp only [Bool.not_true, Bool.false_and] at hroom
    subst hroom
    clear hCAP hNN hcap hnb
    go_enter Tryz.func53, Tryz.ntmps53
    go_wp2_with (go_at_call 86; refine (HSZ.out _ _ HFS.out).mono ?_; rintro e w3 ⟨rfl, hb3⟩; have HB3 := Bx.mk (HB0.out.trans ((HB1.out.trans (hb3.mono HB1.out.size)).mono HB0.out.size)); have HF3 := Bx.mk ((HF0.out.keep HB1.out).keep hb3); obtain ⟨k1, k2⟩ := HF3.out.cells; have k0 := hX0 w3 HB3.out; clear hb3)
    go_wp2_with (go_at_call 87; refine (HSEC.out _).mono ?_; rintro e w9 ⟨rfl, rfl⟩)
    go_ret
    exact ⟨rfl, HB3.out⟩
  | false =>
    simp only [Bool.not_false, Bool.true_and] at hroom
    by_cases hle : n ≤ cap / 4
    · rw [decide_eq_true hle, Bool.true_and] at hroom
      subst hroom
      have hd : decide (NN ≤ CAP / 4) = true := decide_eq_true (by omega)
      have HRM2 := Bx.mk (HRM.out (by omega))
      clear hCAP hNN hcap hnb hle HRM
      go_enter Tryz.func53, Tryz.ntmps53
      go_wp2_with (go_at_call 86; refine (HSZ.out _ _ HFS.out).mono ?_; rintro e w3 ⟨rfl, hb3⟩; have HB3 := Bx.mk (HB0.out.trans ((HB1.out.trans (hb3.mono HB1.out.size)).mono HB0.out.size)); have HF3 := Bx.mk ((HF0.out.keep HB1.out).keep hb3); obtain ⟨k1, k2⟩ := HF3.out.cells; have k0 := hX0 w3 HB3.out; clear hb3)
      go_wp2_with (first
        | (go_at_call 87; refine (HSEC.out _).mono ?_; rintro e w9 ⟨rfl, rfl⟩)
        | (go_at_call 48; refine (HCAP.out _ HB3.out).mono ?_; rintro e w4 ⟨rfl, hb4⟩; have HB4 := Bx.mk (HB3.out.trans (hb4.mono HB3.out.size)); clear hb4)
        | (go_at_call 88; refine (HRM2.out _ HB4.out).mono ?_; rintro e w5 ⟨rfl, hb5⟩; have HB5 := Bx.mk (HB4.out.trans (hb5.mono HB4.out.size)); clear hb5))
      go_ret
      exact ⟨rfl, HB5.out⟩
    · rw [decide_eq_false hle, Bool.false_and] at hroom
      subst hroom
      have hd : decide (NN ≤ CAP / 4) = false := decide_eq_false (by omega)
      clear hCAP hNN hcap hnb hle HRM
      go_enter Tryz.func53, Tryz.ntmps53
      go_wp2_with (go_at_call 86; refine (HSZ.out _ _ HFS.out).mono ?_; rintro e w3 ⟨rfl, hb3⟩; have HB3 := Bx.mk (HB0.out.trans ((HB1.out.trans (hb3.mono HB1.out.size)).mono HB0.out.size)); have HF3 := Bx.mk ((HF0.out.keep HB1.out).keep hb3); obtain ⟨k1, k2⟩ := HF3.out.cells; have k0 := hX0 w3 HB3.out; clear hb3)
      go_wp2_with (first
        | (go_at_call 87; refine (HSEC.out _).mono ?_; rintro e w9 ⟨rfl, rfl⟩)
        | (go_at_call 48; refine (HCAP.out _ HB3.out).mono ?_; rintro e w4 ⟨rfl, hb4⟩; have HB4 := Bx.mk (HB3.out.trans (hb4.mono HB3.out.size)); clear hb4))
      go_ret
      exact ⟨rfl, HB4.out⟩
end
end Go.Proofs.YtebakjdeighdnaaGreat
