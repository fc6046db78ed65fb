/-
  Contracts of the document's table: NewTable, fit, Resize, Add.
-/
import Derived.Test.YtjebemcghikgpaaDnF
namespace Go.Proofs.Ytjebemcghikgpaa
open Go.RowKit Go.Maps
set_option linter.unusedVariables false

section
variable {q : Nat} {T : Tab} {w : World} {S : Nat → Prop}
theorem Rt.cells (h : Rt q T w S) : ∃ v, w.cell? ⟨q, 0, none⟩ = some v ∧ w.cell? ⟨q, 1, none⟩ = some (.int .i64 (T.cap : Int)) ∧ w.cell? ⟨q, 2, none⟩ = some (.int .u64 (T.tot : Int)) ∧ (∀ i, w.frozen? ⟨q, i, none⟩ = false) ∧ St w v T.l := by
  obtain ⟨v, h1, h2, _⟩ := h
  exact ⟨v, h1.cell (by omega), h1.cell (by omega), h1.cell (by omega), fun i => h1.frozen i, h2⟩
theorem Rt.setCap (h : Rt q T w S) (n : Nat) (hn : n ≤ 1000000) : Turn (Rt q ⟨T.l, n, T.tot⟩) S w (w.setCell ⟨q, 1, none⟩ (.int .i64 (n : Int))) := by
  obtain ⟨v, h1, h2, h3, h4, h5, h6⟩ := h
  exact ⟨S, ⟨v, (h1.set 1 _).congr (fun j hj => by unfold rF; match j, hj with | 0, _ => rfl | 1, _ => rfl | 2, _ => rfl), h2.grown (grown_set w q 1 _) (fun k hk e => h3 k hk (Option.some.inj e)), h3, h4, fun k hk => by simp [World.setCell]; exact h5 k hk, ⟨h6.len, h6.size, hn, h6.tot⟩⟩, fun k hk => .inl hk, Fp.set _ _ _ _ h4.1⟩
theorem Rt.setTot (h : Rt q T w S) (n : Nat) (hn : T.l.length ≤ n) (hm : n ≤ 1000000) : Turn (Rt q ⟨T.l, T.cap, n⟩) S w (w.setCell ⟨q, 2, none⟩ (.int .u64 (n : Int))) := by
  obtain ⟨v, h1, h2, h3, h4, h5, h6⟩ := h
  exact ⟨S, ⟨v, (h1.set 2 _).congr (fun j hj => by unfold rF; match j, hj with | 0, _ => rfl | 1, _ => rfl | 2, _ => rfl), h2.grown (grown_set w q 2 _) (fun k hk e => h3 k hk (Option.some.inj e)), h3, h4, fun k hk => by simp [World.setCell]; exact h5 k hk, ⟨hn, h6.size, h6.cap, hm⟩⟩, fun k hk => .inl hk, Fp.set _ _ _ _ h4.1⟩
/-- The oldest one gone. -/
theorem Rt.cut {f : Fd} {l : List Fd} (h : Rt q T w S) (hl : T.l = f :: l) : ∃ v v', w.cell? ⟨q, 0, none⟩ = some v ∧ (∃ A n c, v' = .slice A n c) ∧ (∀ (k : IntKind) (W : World), (Instr.slice 40 v (some (.int k 1)) none none).run Try.prog W = .ok v' W) ∧ Turn (Rt q ⟨l, T.cap, T.tot⟩) S w (w.setCell ⟨q, 0, none⟩ v') := by
  obtain ⟨v, h1, h2, h3, h4, h5, h6⟩ := h
  obtain ⟨L, cap, tot⟩ := T
  simp only at hl
  subst hl
  obtain ⟨g, o, hvo, _, _, _, v', hsl, htl, hvo'⟩ := h2.head
  have hlen := h6.len
  have hsz := h6.size
  simp only [List.length_cons, sizeF] at hlen hsz
  have hsv : ∀ k, v'.ownBlock = some k → v.ownBlock = some k := fun k hk => by rw [hvo, ← hvo', hk]
  obtain ⟨av, nv, cv, rfl⟩ := slice_of_own hvo'
  refine ⟨v, _, h1.cell (by omega), ⟨_, _, _, rfl⟩, hsl, S, ⟨_, (h1.set 0 _).congr (fun j hj => by unfold rF; match j, hj with | 0, _ => rfl | 1, _ => rfl | 2, _ => rfl), (htl w f h2).grown (grown_set w q 0 _) (fun k hk e => h3 k (hsv k hk) (Option.some.inj e)), fun k hk => h3 k (hsv k hk), ⟨h4.1, fun k hk => h4.2 k (hsv k hk)⟩, fun k hk => by simp [World.setCell]; exact h5 k hk, ⟨by show l.length ≤ tot; omega, by show sizeF l ≤ _; omega, h6.cap, h6.tot⟩⟩, fun k hk => .inl hk, Fp.set _ _ _ _ h4.1⟩
end

set_option maxRecDepth 100000 in
set_option maxHeartbeats 1000000 in
theorem newTable_any (n : Int) (w : World) (hn : n ≤ 1000000) :
    Calls Try.prog 10 #[.int .i64 n] w fun e w' => ∃ q S, e = .returned (.pointer (some ⟨q, 0, none⟩)) ∧ Rt q (Tab.new n) w' S ∧ (∀ k, S k → w.heap.size ≤ k) ∧ Below w.heap.size w w' := by
  have HN := Bx.mk hn
  clear hn
  go_enter Try.func10, Try.ntmps10
  go_wp2
  go_ret
  have hmx : max n 0 = ((n.toNat : Nat) : Int) := by omega
  rw [hmx]
  have hrow := World.rowIs_alloc w #[.slice none 0 0, .int .i64 (n.toNat : Int), .int .u64 0] 58 (rF (.slice none 0 0) n.toNat 0) (fun j hj => by
    have : j < 3 := hj
    unfold rF
    match j, this with
    | 0, _ => rfl
    | 1, _ => rfl
    | 2, _ => rfl)
  have HN := HN.out
  exact ⟨w.heap.size, fun k => k = w.heap.size, rfl, ⟨.slice none 0 0, hrow, St.nil _, fun k hk => by simp [Value.ownBlock] at hk, ⟨rfl, fun k hk => by simp [Value.ownBlock] at hk⟩, fun k hk => by subst hk; simp, Tab.new_ok HN⟩, fun k hk => by subst hk; exact Nat.le_refl _, (Below.refl _ _).alloc (Nat.le_refl _) _⟩

set_option maxRecDepth 100000 in
set_option maxHeartbeats 1000000 in
theorem fit_any {q : Nat} {T : Tab} {w : World} {S : Nat → Prop} (h : Rt q T w S) (room : Int) :
    Calls Try.prog 25 #[.pointer (some ⟨q, 0, none⟩), .int .i64 room] w fun e w' => e = .returned (.int .i64 (T.went room : Int)) ∧ Turn (Rt q ⟨fits room T.l, T.cap, T.tot⟩) S w w' := by
  have HT := Bx.mk h
  obtain ⟨L0, cap, tot⟩ := T
  have HLEN : Bx (L0.length ≤ 31250) := ⟨h.ok.short⟩
  obtain ⟨R, hR⟩ : ∃ R, Tab.went ⟨L0, cap, tot⟩ room = R := ⟨_, rfl⟩
  rw [hR]
  have HR : Bx (L0.length - (fits room L0).length = R) := ⟨hR⟩
  clear h hR
  go_enter Try.func25, Try.ntmps25
  go_wp2
  go_loopg [5] L0.length (fun g s5 wx => ∃ (k : Nat) (L : List Fd), k + L.length = L0.length ∧ L.length = g ∧ s5 = .int .i64 k ∧ Bx (fits room L = fits room L0) ∧ Bx (Turn (Rt q ⟨L, cap, tot⟩) S w wx))
  case atStart => exact ⟨0, L0, by omega, rfl, rfl, ⟨rfl⟩, ⟨Turn.refl HT.out (Below.refl _ _)⟩⟩
  case round =>
    obtain ⟨k, L, hk, hg, rfl, HFI, HTU⟩ := hrel
    obtain ⟨S1, hX, hs1, hf1⟩ := HTU.out
    have HX := Bx.mk hX
    have HS1 := Bx.mk hs1
    have HF1 := Bx.mk hf1
    obtain ⟨v, d0, _, _, df, hst⟩ := hX.cells
    have hlen := fun ty W => hst.fs.run_len ty W
    have HFS := Bx.mk hst.fs
    have hsz := hX.ok.size
    clear hs1 hf1 hst df hX
    simp only at hlen hsz
    obtain ⟨m, hm⟩ : ∃ m, L.length = m := ⟨_, rfl⟩
    rw [hm] at hlen
    have HM := Bx.mk hm
    clear hm
    cases L with
    | nil =>
      obtain rfl : 0 = m := HM.out
      have HFI2 : Bx (([] : List Fd) = fits room L0) := ⟨HFI.out⟩
      have HKR : Bx (k = R) := ⟨by have := HR.out; rw [← HFI2.out] at this; simp only [List.length_nil] at *; omega⟩
      rw [HFI2.out] at HTU
      go_wp2_with fail
      go_ret
      exact ⟨by have := HKR.out; subst this; rfl, HTU.out⟩
    | cons f l =>
      have hm0 : 0 < m := by have := HM.out; simp only [List.length_cons] at this; omega
      have hd2 : decide ((0 : Int) < (m : Int)) = true := decide_eq_true (by omega)
      have hd3 : decide (0 < m) = true := decide_eq_true hm0
      obtain ⟨z, hz⟩ : ∃ z, sizeF (f :: l) = z := ⟨_, rfl⟩
      have HZ := Bx.mk hz
      have HSZ := Bx.mk hsz
      clear hsz hz
      go_wp2_with fail
      refine (refSize_any v (f :: l) _ HFS.out (by have := HSZ.out; omega)).mono ?_
      rintro e w2 ⟨rfl, hb2⟩
      rw [HZ.out]
      have HX2 := Bx.mk (HX.out.keep hb2)
      have HB2 := Bx.mk hb2
      clear hb2 d0
      by_cases hgt : room < (z : Int)
      · have hd4 : decide (room < (z : Int)) = true := decide_eq_true hgt
        have HGO := Bx.mk (fits_cons_go (show room < (sizeF (f :: l) : Int) by rw [HZ.out]; exact hgt))
        obtain ⟨v0, v', c0, ⟨A, n, c, rfl⟩, hsl, ht⟩ := HX2.out.cut rfl
        have hsl0 := hsl .i64
        obtain ⟨_, _, _, _, df, _⟩ := HX2.out.cells
        have df0 := df 0
        have HT3 : Bx (Turn (Rt q ⟨l, cap, tot⟩) S w (w2.setCell ⟨q, 0, none⟩ (.slice A n c))) := ⟨Turn.step HS1.out (HF1.out.then (Fp.of_below HB2.out)) ht⟩
        obtain ⟨g', rfl⟩ : ∃ g', gk = g' + 1 := ⟨l.length, by rw [← hg]; rfl⟩
        have hkk : k ≤ 31250 := by have := HLEN.out; omega
        clear ht hsl df hgt hm0
        go_wp2_with fail
        go_roundg g'
        case measure => omega
        case rel => exact ⟨k + 1, l, by simp only [List.length_cons] at hk; omega, by simp only [List.length_cons] at hg; omega, by go_num, ⟨by rw [← HGO.out]; exact HFI.out⟩, HT3⟩
      · have hd4 : decide (room < (z : Int)) = false := decide_eq_false hgt
        have hfin : fits room (f :: l) = f :: l := fits_all (by rw [HZ.out]; omega)
        have HFI2 : Bx (f :: l = fits room L0) := ⟨by rw [← hfin]; exact HFI.out⟩
        have HKR : Bx (k = R) := ⟨by have := HR.out; rw [← HFI2.out] at this; simp only [List.length_cons] at *; omega⟩
        have HT3 : Bx (Turn (Rt q ⟨fits room L0, cap, tot⟩) S w w2) := ⟨by rw [← HFI2.out]; exact Turn.step HS1.out HF1.out (Turn.refl HX2.out HB2.out)⟩
        clear hgt hfin
        go_wp2_with fail
        go_ret
        exact ⟨by have := HKR.out; subst this; rfl, HT3.out⟩

set_option maxRecDepth 100000 in
set_option maxHeartbeats 1000000 in
theorem refResize_any {q : Nat} {T : Tab} {w : World} {S : Nat → Prop} (h : Rt q T w S) (n : Int) (hn : n ≤ 1000000) :
    Calls Try.prog 12 #[.pointer (some ⟨q, 0, none⟩), .int .i64 n] w fun e w' => e = .returned (.int .i64 (T.went (n.toNat : Int) : Int)) ∧ Turn (Rt q (T.resize n)) S w w' := by
  have HT := Bx.mk h
  obtain ⟨_, _, c4, _, df, _⟩ := h.cells
  have f4 := df 1
  have HN := Bx.mk hn
  clear h hn df
  have hmx : max n 0 = ((n.toNat : Nat) : Int) := by omega
  have HMX := Bx.mk hmx
  obtain ⟨R, hR⟩ : ∃ R, T.went (n.toNat : Int) = R := ⟨_, rfl⟩
  rw [hR]
  have HRR := Bx.mk hR
  clear hmx hR
  go_enter Try.func12, Try.ntmps12
  go_wp2_with fail
  rw [HMX.out]
  have HT1 := HT.out.setCap n.toNat (by have := HN.out; omega)
  obtain ⟨S1, x1, s1, g1⟩ := HT1
  refine (fit_any x1 (n.toNat : Int)).mono ?_
  rintro e w2 ⟨rfl, ht⟩
  rw [show Tab.went ⟨T.l, n.toNat, T.tot⟩ (n.toNat : Int) = R from HRR.out]
  have HT2 := Bx.mk (Turn.step s1 g1 ht)
  clear ht x1 s1 g1 c4 f4
  go_wp2
  go_ret
  exact ⟨rfl, HT2.out⟩

end Go.Proofs.Ytjebemcghikgpaa
