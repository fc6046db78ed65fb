/-
  Texts put together: DnI, DnJ, FdQ.
-/
import Derived.Test.YtebakjdeighdnaaGreatM17
import Derived.BigRegion

/-
  Contracts of the document's Abs, Newest.
-/
namespace Go.Proofs.YtebakjdeighdnaaGreat
open Go.RowKit Go.Maps
set_option linter.unusedVariables false

theorem Rt.first {q : Nat} {T : Tab} {w : World} {S : Nat → Prop} (h : Rt q T w S) : Calls Tryz.prog 76 #[.pointer (some ⟨q, 0, none⟩)] w fun e w' => e = .returned (.int .u64 (T.first : Int)) ∧ Below w.heap.size w w' := by
  obtain ⟨v, h1, h2, h3, h4, h5, h6⟩ := h
  exact first_any h1 h2 h6.len h6.tot

set_option maxRecDepth 100000 in
set_option maxHeartbeats 1000000 in
theorem refAbs_any {q : Nat} {T : Tab} {w : World} {S : Nat → Prop} (h : Rt q T w S) (i : Nat) (hi : i < 18446744073709551616) :
    Calls Tryz.prog 99 #[.pointer (some ⟨q, 0, none⟩), .int .u64 (i : Int)] w fun e w' => e = .returned (.tuple #[aggF (entF T.l T.first i), .bool (isF T.l T.first i)]) ∧ Below w.heap.size w w' := by
  have hok := h.ok
  have HT := Bx.mk h
  have hA : Rt q T (w.alloc (.cells #[.string ⟨#[]⟩, .string ⟨#[]⟩] 53)) S := h.keep ((Below.refl w.heap.size w).alloc (Nat.le_refl _) (.cells #[.string ⟨#[]⟩, .string ⟨#[]⟩] 53))
  have HTA := Bx.mk hA
  obtain ⟨v, c0, c1, c2, df, hst⟩ := hA.cells
  have HOLD : Bx (∀ W, Rt q T W S → Calls Tryz.prog 76 #[.pointer (some ⟨q, 0, none⟩)] W fun e w' => e = .returned (.int .u64 (T.first : Int)) ∧ Below W.heap.size W w') := ⟨fun W hW => hW.first⟩
  have HFR : Bx (T.first + T.l.length = T.tot) := ⟨by have := hok.len; unfold Tab.first; omega⟩
  obtain ⟨fr, hfr⟩ : ∃ fr, T.first = fr := ⟨_, rfl⟩
  obtain ⟨tot, htot⟩ : ∃ tot, T.tot = tot := ⟨_, rfl⟩
  obtain ⟨L, hL⟩ : ∃ L, T.l = L := ⟨_, rfl⟩
  rw [hfr] at HOLD
  rw [hfr, hL, htot] at HFR
  rw [hfr, hL]
  rw [htot] at c2
  rw [hL] at hst
  have HI := Bx.mk hi
  have HTT : Bx (tot ≤ 1000000) := ⟨by have := hok.tot; omega⟩
  obtain ⟨e0, he0⟩ : ∃ e0, entF L fr i = e0 := ⟨_, rfl⟩
  obtain ⟨b0, hb0⟩ : ∃ b0, isF L fr i = b0 := ⟨_, rfl⟩
  rw [he0, hb0]
  have HE0 := Bx.mk he0
  have HB0 := Bx.mk hb0
  have HLL := Bx.mk hL
  have HF1 := Bx.mk (Fb.new 53 w emp)
  obtain ⟨e1, e2⟩ := HF1.out.cells
  obtain ⟨ef1, ef2⟩ := HF1.out.free
  have HB1 := Bx.mk ((Below.refl w.heap.size w).alloc (Nat.le_refl _) (.cells #[.string ⟨#[]⟩, .string ⟨#[]⟩] 53))
  clear h hA hok hi hfr htot hL he0 hb0 df
  by_cases h2 : tot ≤ i
  · have hd3 : decide ((tot : Int) ≤ (i : Int)) = true := decide_eq_true (by omega)
    have hd4 : decide (tot ≤ i) = true := decide_eq_true h2
    obtain rfl : emp = e0 := by rw [← HE0.out]; unfold entF; rw [dif_neg (by have := HFR.out; omega)]
    obtain rfl : false = b0 := by rw [← HB0.out]; unfold isF; simp; have := HFR.out; omega
    clear h2
    go_enter Tryz.func99, Tryz.ntmps99
    go_wp2_with fail
    exact bodyPost_ret (ret_field Tryz.results99 _ _ w.heap.size emp false rfl rfl (Fb.new _ w emp)) rfl ⟨rfl, (Below.refl _ _).alloc (Nat.le_refl _) _⟩
  · have hd3 : decide ((tot : Int) ≤ (i : Int)) = false := decide_eq_false (by omega)
    have hd4 : decide (tot ≤ i) = false := decide_eq_false h2
    go_enter Tryz.func99, Tryz.ntmps99
    go_wp2_with fail
    refine (HOLD.out _ HTA.out).mono ?_
    rintro e w2 ⟨rfl, hb2⟩
    have HT2 := Bx.mk (HTA.out.keep hb2)
    have HF2 := Bx.mk (HF1.out.keep hb2)
    have HB2 := Bx.mk (HB1.out.trans (hb2.mono HB1.out.size))
    clear hb2 e1 e2 ef1 ef2 c0 c1 c2 hst
    obtain ⟨v, d0, d1, d2, df, hst⟩ := HT2.out.cells
    rw [HLL.out] at hst
    obtain ⟨e1, e2⟩ := HF2.out.cells
    obtain ⟨ef1, ef2⟩ := HF2.out.free
    clear d1 d2 df
    by_cases h1 : i < fr
    · have hd1 : decide ((i : Int) < (fr : Int)) = true := decide_eq_true (by omega)
      have hd2 : decide (i < fr) = true := decide_eq_true h1
      obtain rfl : emp = e0 := by rw [← HE0.out]; unfold entF; rw [dif_neg (by omega)]
      obtain rfl : false = b0 := by rw [← HB0.out]; unfold isF; simp; omega
      have HF3 := Bx.mk (HF2.out.set2 ⟨#[]⟩ ⟨#[]⟩)
      clear h1 h2
      go_wp2_with fail
      exact bodyPost_ret (ret_field Tryz.results99 _ _ w.heap.size emp false rfl rfl HF3.out) rfl ⟨rfl, below_set2 HB2.out _ (Nat.le_refl _) _ _⟩
    · have hd1 : decide ((i : Int) < (fr : Int)) = false := decide_eq_false (by omega)
      have hd2 : decide (i < fr) = false := decide_eq_false h1
      have hlt : i - fr < L.length := by have := HFR.out; omega
      obtain ⟨f1, hf1⟩ : ∃ f1, L[i - fr].1 = f1 := ⟨_, rfl⟩
      obtain ⟨f2, hf2⟩ : ∃ f2, L[i - fr].2 = f2 := ⟨_, rfl⟩
      obtain rfl : (f1, f2) = e0 := by rw [← HE0.out]; unfold entF; rw [dif_pos ⟨by omega, hlt⟩, ← hf1, ← hf2]
      obtain rfl : true = b0 := by rw [← HB0.out]; unfold isF; simp; omega
      obtain ⟨v, k0, _, _, _, kst⟩ := HT.out.cells
      rw [HLL.out] at kst
      obtain ⟨b, o, hix, hcs⟩ := kst.fs.at_ (i - fr) hlt
      have hws : IntKind.u64.wrap ((i : Int) - (fr : Int)) = ((i - fr : Nat) : Int) := by have := HI.out; simp [IntKind.wrap, IntKind.signed, IntKind.bits]; omega
      rw [hf1, hf2] at hcs
      have HST := Bx.mk kst
      have HCS := Bx.mk hcs
      have HK0 := Bx.mk k0
      have hX0 : ∀ W, Below w.heap.size w W → W.cell? ⟨q, 0, none⟩ = some v := fun W hW => (hW.cell (World.block_lt_of_cell? w _ HK0.out)).trans HK0.out
      have hX1 : ∀ W, Below w.heap.size w W → W.cell? ⟨b, o, none⟩ = some (.string f1) := fun W hW => (HCS.out W (HST.out.keep hW).fs).1
      have hX2 : ∀ W, Below w.heap.size w W → W.cell? ⟨b, o + 1, none⟩ = some (.string f2) := fun W hW => (HCS.out W (HST.out.keep hW).fs).2
      have hS0 : Below w.heap.size w w2.drew := HB2.out.drew
      clear h1 h2 hlt hf1 hf2 hcs hst d0 kst k0
      go_wp2_with fail
      go_region_held (fun W => Below w.heap.size w W) (first | assumption) (first
        | (go_at_call 76; refine (HOLD.out _ (HT2.out.keep (Below.refl _ _).drew)).mono ?_; rintro e w3 ⟨rfl, hb3⟩; have HF3 := Bx.mk ((HF2.out.keep (Below.refl _ _).drew).keep hb3); obtain ⟨r1, r2⟩ := HF3.out.cells; obtain ⟨r3, r4⟩ := HF3.out.free; have hT3 : Below w.heap.size w w3 := HB2.out.trans (((Below.refl w2.heap.size w2).drew.trans hb3).mono HB2.out.size); have hT4 := below_set2 hT3 w.heap.size (Nat.le_refl _) (.string f1) (.string f2)))
      all_goals go_wp2_with fail
      exact bodyPost_ret (ret_field Tryz.results99 _ _ w.heap.size (f1, f2) true rfl rfl (HF3.out.set2 f1 f2)) rfl ⟨rfl, hT4⟩

set_option maxRecDepth 100000 in
set_option maxHeartbeats 1000000 in
theorem refNewest_any {q : Nat} {T : Tab} {w : World} {S : Nat → Prop} (h : Rt q T w S) (i : Nat) (hi : i < 18446744073709551616) :
    Calls Tryz.prog 63 #[.pointer (some ⟨q, 0, none⟩), .int .u64 (i : Int)] w fun e w' => e = .returned (.tuple #[aggF (entN T.l i), .bool (isN T.l i)]) ∧ Below w.heap.size w w' := by
  obtain ⟨e0, he0⟩ : ∃ e0, entN T.l i = e0 := ⟨_, rfl⟩
  obtain ⟨b0, hb0⟩ : ∃ b0, isN T.l i = b0 := ⟨_, rfl⟩
  rw [he0, hb0]
  have HE0 := Bx.mk he0
  have HB0 := Bx.mk hb0
  have HSH := Bx.mk h.ok.short
  obtain ⟨v, c0, _, _, _, hst⟩ := (h.keep ((Below.refl w.heap.size w).alloc (Nat.le_refl _) (.cells #[.string ⟨#[]⟩, .string ⟨#[]⟩] 53))).cells
  have hlen := fun ty W => hst.fs.run_len ty W
  obtain ⟨n, hn⟩ : ∃ n, T.l.length = n := ⟨_, rfl⟩
  rw [hn] at hlen
  have HN := Bx.mk hn
  have HI := Bx.mk hi
  have hnb : n ≤ 31250 := by have := HSH.out; omega
  have hwn : IntKind.u64.wrap (n : Int) = (n : Int) := by simp [IntKind.wrap, IntKind.signed, IntKind.bits]; omega
  have HNB := Bx.mk hnb
  clear h hi he0 hb0 hn hnb
  by_cases h1 : n ≤ i
  · have hd1 : decide ((n : Int) ≤ (i : Int)) = true := decide_eq_true (by omega)
    have hd2 : decide (n ≤ i) = true := decide_eq_true h1
    obtain rfl : emp = e0 := by rw [← HE0.out]; unfold entN; rw [dif_neg (by have := HN.out; omega)]
    obtain rfl : false = b0 := by rw [← HB0.out]; unfold isN; simp; have := HN.out; omega
    clear h1 hst
    go_enter Tryz.func63, Tryz.ntmps63
    go_wp2_with fail
    exact bodyPost_ret (ret_field Tryz.results63 _ _ w.heap.size emp false rfl rfl (Fb.new _ w emp)) rfl ⟨rfl, (Below.refl _ _).alloc (Nat.le_refl _) _⟩
  · have hd1 : decide ((n : Int) ≤ (i : Int)) = false := decide_eq_false (by omega)
    have hd2 : decide (n ≤ i) = false := decide_eq_false h1
    have hw1 : IntKind.u64.wrap ((n : Int) - 1) = ((n - 1 : Nat) : Int) := by have := HNB.out; simp [IntKind.wrap, IntKind.signed, IntKind.bits]; omega
    obtain ⟨c1, hc1⟩ : ∃ c1, n - 1 = c1 := ⟨_, rfl⟩
    rw [hc1] at hw1
    have hw2 : IntKind.u64.wrap ((c1 : Int) - (i : Int)) = ((c1 - i : Nat) : Int) := by have := HNB.out; simp [IntKind.wrap, IntKind.signed, IntKind.bits]; omega
    obtain ⟨c2, hc2⟩ : ∃ c2, c1 - i = c2 := ⟨_, rfl⟩
    rw [hc2] at hw2
    have hlt : c2 < T.l.length := by have := HN.out; omega
    obtain ⟨f1, hf1⟩ : ∃ f1, T.l[c2].1 = f1 := ⟨_, rfl⟩
    obtain ⟨f2, hf2⟩ : ∃ f2, T.l[c2].2 = f2 := ⟨_, rfl⟩
    obtain rfl : (f1, f2) = e0 := by
      have b := HN.out
      rw [← HE0.out]
      unfold entN
      rw [dif_pos (by omega), ← hf1, ← hf2]
      simp only [show T.l.length - 1 - i = c2 by omega]
    obtain rfl : true = b0 := by rw [← HB0.out]; unfold isN; simp; have := HN.out; omega
    obtain ⟨b, o, hix, hcs⟩ := hst.fs.at_ c2 hlt
    obtain ⟨q1, q2⟩ := hcs _ hst.fs
    rw [hf1] at q1
    rw [hf2] at q2
    clear h1 hc1 hc2 hst hcs hlt hf1 hf2
    go_enter Tryz.func63, Tryz.ntmps63
    go_wp2_with fail
    go_region
    go_wp2_with fail
    exact bodyPost_ret (ret_field Tryz.results63 _ _ w.heap.size (f1, f2) true rfl rfl ((Fb.new _ w (f1, f2)).keep (Below.refl _ _).drew)) rfl ⟨rfl, ((Below.refl w.heap.size w).alloc (Nat.le_refl _) _).drew⟩

end Go.Proofs.YtebakjdeighdnaaGreat

/-
  Contract of the document's Find.
-/
namespace Go.Proofs.YtebakjdeighdnaaGreat
open Go.RowKit Go.Maps
set_option linter.unusedVariables false

theorem str_eq (a b : ByteArray) (h : a.toList = b.toList) : a = b := by
  rw [Lib.toList_data, Lib.toList_data] at h
  have := Array.toList_inj.1 h
  cases a; cases b; simp_all
theorem str_beq_true {a b : ByteArray} (h : a = b) : (a.toList == b.toList) = true := by rw [h]; exact beq_self_eq_true _
theorem str_beq_false {a b : ByteArray} (h : ¬ a = b) : (a.toList == b.toList) = false := by
  rw [beq_eq_false_iff_ne]
  exact fun h2 => h (str_eq a b h2)

set_option maxRecDepth 100000 in
set_option maxHeartbeats 4000000 in
theorem refFind_any {q : Nat} {T : Tab} {w : World} {S : Nat → Prop} (h : Rt q T w S) (f : Fd) :
    Calls Tryz.prog 41 #[.pointer (some ⟨q, 0, none⟩), .agg #[.string f.1, .string f.2]] w fun e w' => e = .returned (find3 (findT T.l T.first f)) ∧ Below w.heap.size w w' := by
  obtain ⟨f1, f2⟩ := f
  have hok := h.ok
  have HT1 := Bx.mk (h.keep ((Below.refl w.heap.size w).alloc (Nat.le_refl _) (.cells #[.string f1, .string f2] 53)))
  have HB1 := Bx.mk ((Below.refl w.heap.size w).alloc (Nat.le_refl _) (.cells #[.string f1, .string f2] 53))
  have HF1 := Bx.mk (Fb.new 53 w (f1, f2))
  obtain ⟨v, c0, _, _, _, hst⟩ := HT1.out.cells
  have HST := Bx.mk hst
  have HC0 := Bx.mk c0
  have HOLD : Bx (∀ W, Below (w.heap.size + 1) (w.alloc (.cells #[.string f1, .string f2] 53)) W → Calls Tryz.prog 76 #[.pointer (some ⟨q, 0, none⟩)] W fun e w' => e = .returned (.int .u64 (T.first : Int)) ∧ Below W.heap.size W w') := ⟨fun W hW => (HT1.out.keep (hW.mono (by simp))).first⟩
  have hlen := fun ty W => hst.fs.run_len ty W
  obtain ⟨fr, hfr⟩ : ∃ fr, T.first = fr := ⟨_, rfl⟩
  rw [hfr] at HOLD ⊢
  have HFR : Bx (fr + T.l.length ≤ 1000000) := ⟨by have := hok.len; have := hok.tot; rw [← hfr]; unfold Tab.first; omega⟩
  obtain ⟨L, hL⟩ : ∃ L, T.l = L := ⟨_, rfl⟩
  rw [hL] at hlen HST HFR ⊢
  obtain ⟨n, hn⟩ : ∃ n, L.length = n := ⟨_, rfl⟩
  rw [hn] at hlen
  have HN := Bx.mk hn
  rw [hn] at HFR
  have hw0 : IntKind.i64.wrap ((n : Int) - 1) = (n : Int) - 1 := by have := HFR.out; simp only [IntKind.wrap_i64]; omega
  clear h hok hst hfr hL hn
  go_enter Tryz.func41, Tryz.ntmps41
  go_wp2
  clear c0 hw0
  go_loopg [7] n (fun g s7 wx => ∃ z : Int, s7 = .int .i64 z ∧ z + 1 = (g : Int) ∧ Bx (g ≤ n) ∧ Bx (nw (hasF (f1, f2)) fr L = nw (hasF (f1, f2)) fr (L.take g)) ∧ Bx (Below (w.heap.size + 1) (w.alloc (.cells #[.string f1, .string f2] 53)) wx))
  case atStart => exact ⟨_, rfl, by omega, ⟨Nat.le_refl _⟩, ⟨by rw [← HN.out, List.take_length]⟩, ⟨Below.refl _ _⟩⟩
  case round =>
    obtain ⟨z, rfl, hz, HGN, HP, HB⟩ := hrel
    have hc0 : wr.cell? ⟨q, 0, none⟩ = some v := (HB.out.cell (by have := World.block_lt_of_cell? _ _ HC0.out; simpa using this)).trans HC0.out
    have HFW := Bx.mk (HF1.out.below HB.out (by omega))
    have HVW := Bx.mk (HST.out.keep (HB.out.mono (by simp)))
    cases gk with
    | zero =>
      obtain rfl : z = -1 := by omega
      have HNO : Bx (nw (hasF (f1, f2)) fr L = none) := ⟨by rw [HP.out]; rfl⟩
      clear HP
      have hw0 : IntKind.i64.wrap ((n : Int) - 1) = (n : Int) - 1 := by have := HFR.out; simp only [IntKind.wrap_i64]; omega
      go_wp2
      clear hc0 hw0
      go_loopg [8] n (fun g s8 wx => ∃ z : Int, s8 = .int .i64 z ∧ z + 1 = (g : Int) ∧ Bx (g ≤ n) ∧ Bx (nw (hasN f1) fr L = nw (hasN f1) fr (L.take g)) ∧ Bx (Below (w.heap.size + 1) (w.alloc (.cells #[.string f1, .string f2] 53)) wx))
      case atStart => exact ⟨_, rfl, by omega, ⟨Nat.le_refl _⟩, ⟨by rw [← HN.out, List.take_length]⟩, HB⟩
      case round =>
        clear HFW HVW HB hz HGN
        obtain ⟨z, rfl, hz, HGN, HP, HB⟩ := hrel
        have hc0 : wr.cell? ⟨q, 0, none⟩ = some v := (HB.out.cell (by have := World.block_lt_of_cell? _ _ HC0.out; simpa using this)).trans HC0.out
        have HFW := Bx.mk (HF1.out.below HB.out (by omega))
        have HVW := Bx.mk (HST.out.keep (HB.out.mono (by simp)))
        cases gk with
        | zero =>
          obtain rfl : z = -1 := by omega
          have HFT : Bx (findT L fr (f1, f2) = (0, false, false)) := ⟨by unfold findT; rw [HNO.out]; simp only; rw [HP.out]; rfl⟩
          go_wp2
          go_ret3
          exact ⟨by rw [HFT.out]; rfl, HB1.out.trans (HB.out.mono (by omega))⟩
        | succ g =>
          obtain rfl : z = (g : Int) := by omega
          have hk : g < L.length := by have := HGN.out; have := HN.out; omega
          obtain ⟨b, o, hix, hcs⟩ := HVW.out.fs.at_ g hk
          obtain ⟨hc1, hc2⟩ := hcs _ HVW.out.fs
          obtain ⟨hca, hcb⟩ := HFW.out.cells
          have hts := nw_take_succ (hasN f1) fr L g hk
          obtain ⟨g1, hf1⟩ : ∃ g1, L[g].1 = g1 := ⟨_, rfl⟩
          rw [hf1] at hc1
          have HG := Bx.mk hf1
          have HTS := Bx.mk hts
          have hgn : g < n := by have := HGN.out; omega
          have hgz : (g : Int) < (n : Int) := by omega
          have HK := Bx.mk hk
          clear hcs hc2 hf1 hts
          by_cases he : g1 = f1
          · have hd := str_beq_true he
            have HFT : Bx (findT L fr (f1, f2) = (fr + g, true, false)) := ⟨by
              unfold findT
              rw [HNO.out]
              simp only
              rw [HP.out, HTS.out, if_pos (by simp [hasN, HG.out, he])]⟩
            clear he
            have hw1 : IntKind.u64.wrap (g : Int) = (g : Int) := by have := HFR.out; simp [IntKind.wrap, IntKind.signed, IntKind.bits]; omega
            have hw2 : IntKind.u64.wrap ((fr : Int) + (g : Int)) = ((fr + g : Nat) : Int) := by have := HFR.out; simp [IntKind.wrap, IntKind.signed, IntKind.bits]; omega
            go_wp2_with fail
            go_region
            all_goals go_wp2_with fail
            all_goals
              refine (HOLD.out _ HB.out.drew).mono ?_
              rintro e w2 ⟨rfl, hb2⟩
              have HB2 := Bx.mk (HB.out.drew.trans (hb2.mono (by have := HB.out.size; simp at this; simp; omega)))
              clear hb2
              go_wp2_with fail
              go_ret3
              exact ⟨by rw [HFT.out]; rfl, HB1.out.trans (HB2.out.mono (by omega))⟩
          · have hd := str_beq_false he
            have HE := Bx.mk he
            clear he
            have hw1 : IntKind.i64.wrap ((g : Int) - 1) = (g : Int) - 1 := by have := HFR.out; simp only [IntKind.wrap_i64]; omega
            go_wp2_with fail
            go_region
            all_goals go_wp2_with fail
            all_goals go_roundg g
            all_goals first
              | omega
              | exact ⟨_, rfl, by omega, ⟨by have := HGN.out; omega⟩, ⟨by rw [HP.out, HTS.out, if_neg (by simp only [hasN, HG.out]; simpa using HE.out)]⟩, ⟨HB.out.drew⟩⟩
    | succ g =>
      obtain rfl : z = (g : Int) := by omega
      have hk : g < L.length := by have := HGN.out; have := HN.out; omega
      obtain ⟨b, o, hix, hcs⟩ := HVW.out.fs.at_ g hk
      obtain ⟨hc1, hc2⟩ := hcs wr HVW.out.fs
      obtain ⟨hca, hcb⟩ := HFW.out.cells
      have hts := nw_take_succ (hasF (f1, f2)) fr L g hk
      obtain ⟨g1, hf1⟩ : ∃ g1, L[g].1 = g1 := ⟨_, rfl⟩
      obtain ⟨g2, hf2⟩ : ∃ g2, L[g].2 = g2 := ⟨_, rfl⟩
      rw [hf1] at hc1
      rw [hf2] at hc2
      have HG := Bx.mk (show L[g] = (g1, g2) by rw [← hf1, ← hf2])
      have HTS := Bx.mk hts
      have hgn : g < n := by have := HGN.out; omega
      have hgz : (g : Int) < (n : Int) := by omega
      have HK := Bx.mk hk
      clear hcs hf1 hf2 hts
      by_cases he1 : g1 = f1
      · subst he1
        by_cases he2 : g2 = f2
        · subst he2
          have HFT : Bx (findT L fr (g1, g2) = (fr + g, true, true)) := ⟨by
            unfold findT
            rw [HP.out, HTS.out, if_pos (by simp [hasF, HG.out])]⟩
          have hw1 : IntKind.u64.wrap (g : Int) = (g : Int) := by have := HFR.out; simp [IntKind.wrap, IntKind.signed, IntKind.bits]; omega
          have hw2 : IntKind.u64.wrap ((fr : Int) + (g : Int)) = ((fr + g : Nat) : Int) := by have := HFR.out; simp [IntKind.wrap, IntKind.signed, IntKind.bits]; omega
          go_wp2_with fail
          go_region
          all_goals go_wp2_with fail
          all_goals
            refine (HOLD.out _ HB.out.drew).mono ?_
            rintro e w2 ⟨rfl, hb2⟩
            have HB2 := Bx.mk (HB.out.drew.trans (hb2.mono (by have := HB.out.size; simp at this; simp; omega)))
            clear hb2
            go_wp2_with fail
            go_ret3
            exact ⟨by rw [HFT.out]; rfl, HB1.out.trans (HB2.out.mono (by omega))⟩
        · have hd : ¬ g2.toList = f2.toList := fun e => he2 (str_eq _ _ e)
          have HE : Bx (¬ (hasF (g1, f2) L[g] = true)) := ⟨by simp [hasF, HG.out]; exact he2⟩
          clear he2
          have hw1 : IntKind.i64.wrap ((g : Int) - 1) = (g : Int) - 1 := by have := HFR.out; simp only [IntKind.wrap_i64]; omega
          go_wp2_with fail
          go_region
          all_goals go_wp2_with fail
          all_goals go_roundg g
          all_goals first
            | omega
            | exact ⟨_, rfl, by omega, ⟨by have := HGN.out; omega⟩, ⟨by rw [HP.out, HTS.out, if_neg HE.out]⟩, ⟨HB.out.drew⟩⟩
      · have hd : ¬ g1.toList = f1.toList := fun e => he1 (str_eq _ _ e)
        have HE : Bx (¬ (hasF (f1, f2) L[g] = true)) := ⟨by simp [hasF, HG.out]; exact fun e => absurd e he1⟩
        clear he1
        have hw1 : IntKind.i64.wrap ((g : Int) - 1) = (g : Int) - 1 := by have := HFR.out; simp only [IntKind.wrap_i64]; omega
        go_wp2_with fail
        go_region
        all_goals go_wp2_with fail
        all_goals go_roundg g
        all_goals first
          | omega
          | exact ⟨_, rfl, by omega, ⟨by have := HGN.out; omega⟩, ⟨by rw [HP.out, HTS.out, if_neg HE.out]⟩, ⟨HB.out.drew⟩⟩

end Go.Proofs.YtebakjdeighdnaaGreat

/-
  Contract of bifoldhelp.Fields alone.
-/
namespace Go.Proofs.YtebakjdeighdnaaGreat
open Go.RowKit
set_option linter.unusedVariables false

theorem ret_bool {a b : Bool} (h : a = b) : Ending.returned (.bool a) = .returned (.bool b) := by rw [h]
theorem at_ne {α : Type} {a b : List α} {k : Nat} (ha : k < a.length) (hb : k < b.length) (h : ¬ a[k] = b[k]) : ¬ a = b := by
  rintro rfl; exact h rfl

set_option maxRecDepth 100000 in
set_option maxHeartbeats 1000000 in
theorem fields_any (va vb : Value) (a b : List Fd) (w : World) (ha : Fs w va a) (hb : Fs w vb b) :
    Calls Tryz.prog 12 #[va, vb] w fun e w' => e = .returned (.bool (decide (a = b))) ∧ Below w.heap.size w w' := by
  have HA := Bx.mk ha
  have HBb := Bx.mk hb
  have hlena := fun ty W => ha.run_len ty W
  have hlenb := fun ty W => hb.run_len ty W
  have hlm := ha.len
  unfold maxLen at hlm
  clear ha hb
  by_cases hll : a.length = b.length
  · have hd : ((a.length : Int) == (b.length : Int)) = true := by rw [beq_iff_eq]; omega
    have hd2 : ((a.length : Int) != (b.length : Int)) = false := by rw [bne, hd]; rfl
    have HLL := Bx.mk hll
    clear hll
    obtain ⟨R, hR⟩ : ∃ R, decide (a = b) = R := ⟨_, rfl⟩
    rw [hR]
    have HR := Bx.mk hR
    clear hR
    go_enter Tryz.func12, Tryz.ntmps12
    go_wp2
    clear hd hd2
    go_loopg [5] a.length (fun g s5 wx => ∃ k : Nat, k + g = a.length ∧ s5 = .int .i64 k ∧ Bx (AgreeTo a b k) ∧ Bx (Below w.heap.size w wx))
    case atStart => exact ⟨0, by omega, rfl, ⟨AgreeTo.zero _ _⟩, ⟨Below.refl _ _⟩⟩
    case round =>
      obtain ⟨k, hkg, rfl, HG, HB⟩ := hrel
      cases gk with
      | zero =>
        obtain rfl : k = a.length := by omega
        go_wp2
        go_ret
        exact ⟨ret_bool (by rw [← HR.out]; exact (decide_eq_true (AgreeTo.eq HLL.out HG.out)).symm), HB.out⟩
      | succ g =>
        have hk : k < a.length := by omega
        have hkb : k < b.length := by have := HLL.out; omega
        have hkz : (k : Int) < (a.length : Int) := by omega
        obtain ⟨b1, o1, hix1, hcs1⟩ := HA.out.at_ k hk
        obtain ⟨b2, o2, hix2, hcs2⟩ := HBb.out.at_ k hkb
        obtain ⟨hc1, hc1'⟩ := hcs1 wr (HA.out.keep HB.out)
        obtain ⟨hc2, hc2'⟩ := hcs2 wr (HBb.out.keep HB.out)
        have HSU := Bx.mk (show a[k] = b[k] → AgreeTo a b (k + 1) from fun h => HG.out.succ (by rw [List.getElem?_eq_getElem hk, List.getElem?_eq_getElem hkb, h]))
        have HNE := Bx.mk (fun h => at_ne hk hkb h)
        clear hcs1 hcs2
        generalize a[k] = x at hc1 hc1' HSU HNE
        obtain ⟨x1, x2⟩ := x
        generalize b[k] = y at hc2 hc2' HSU HNE
        obtain ⟨y1, y2⟩ := y
        simp only at hc1 hc1' hc2 hc2'
        by_cases h1 : x1 = y1
        · subst h1
          by_cases h2 : x2 = y2
          · subst h2
            go_wp2
            go_region
            go_wp2
            go_roundg g
            case measure => omega
            case rel => exact ⟨k + 1, by omega, by go_num, ⟨HSU.out (by simp)⟩, ⟨HB.out.drew⟩⟩
          · have hn : ¬ x2.toList = y2.toList := fun h => h2 (str_eq _ _ h)
            have HX := Bx.mk (show ¬ ((x1, x2) : Fd) = (x1, y2) from fun h => h2 (by injection h))
            clear h2
            go_wp2
            go_region
            go_wp2
            go_ret
            exact ⟨ret_bool (by rw [← HR.out]; exact (decide_eq_false (HNE.out HX.out)).symm), HB.out.drew⟩
        · have hn : ¬ x1.toList = y1.toList := fun h => h1 (str_eq _ _ h)
          have HX := Bx.mk (show ¬ ((x1, x2) : Fd) = (y1, y2) from fun h => h1 (by injection h))
          clear h1
          go_wp2
          go_region
          go_wp2
          go_ret
          exact ⟨ret_bool (by rw [← HR.out]; exact (decide_eq_false (HNE.out HX.out)).symm), HB.out.drew⟩
  · have hd : ((a.length : Int) == (b.length : Int)) = false := by rw [beq_eq_false_iff_ne]; omega
    have hd2 : ((a.length : Int) != (b.length : Int)) = true := by rw [bne, hd]; rfl
    have hr : decide (a = b) = false := by rw [decide_eq_false_iff_not]; rintro rfl; exact hll rfl
    rw [hr]
    clear hll hr
    go_enter Tryz.func12, Tryz.ntmps12
    go_wp2
    go_ret
    exact ⟨rfl, Below.refl _ _⟩

end Go.Proofs.YtebakjdeighdnaaGreat
