/-
  Contract of the document's Find.
-/
import Derived.Test.YtjebemcghikgpaaDnI
namespace Go.Proofs.Ytjebemcghikgpaa
open Go.RowKit Go.Maps
set_option linter.unusedVariables false

theorem str_eq (a b : ByteArray) (h : a.toList = b.toList) : a = b := by
  rw [Lib.toList_data, Lib.toList_data] at h
  have := Array.toList_inj.1 h
  cases a; cases b; simp_all
theorem str_beq_true {a b : ByteArray} (h : a = b) : (a.toList == b.toList) = true := by rw [h]; exact beq_self_eq_true _
theorem str_beq_false {a b : ByteArray} (h : ¬ a = b) : (a.toList == b.toList) = false := by
  rw [beq_eq_false_iff_ne]
  exact fun h2 => h (str_eq a b h2)

set_option maxRecDepth 100000 in
set_option maxHeartbeats 4000000 in
theorem refFind_any {q : Nat} {T : Tab} {w : World} {S : Nat → Prop} (h : Rt q T w S) (f : Fd) :
    Calls Try.prog 32 #[.pointer (some ⟨q, 0, none⟩), .agg #[.string f.1, .string f.2]] w fun e w' => e = .returned (find3 (findT T.l T.first f)) ∧ Below w.heap.size w w' := by
  obtain ⟨f1, f2⟩ := f
  have hok := h.ok
  have HT1 := Bx.mk (h.keep ((Below.refl w.heap.size w).alloc (Nat.le_refl _) (.cells #[.string f1, .string f2] 24)))
  have HB1 := Bx.mk ((Below.refl w.heap.size w).alloc (Nat.le_refl _) (.cells #[.string f1, .string f2] 24))
  have HF1 := Bx.mk (Fb.new 24 w (f1, f2))
  obtain ⟨v, c0, _, _, _, hst⟩ := HT1.out.cells
  have HST := Bx.mk hst
  have HC0 := Bx.mk c0
  have HOLD : Bx (∀ W, Below (w.heap.size + 1) (w.alloc (.cells #[.string f1, .string f2] 24)) W → Calls Try.prog 30 #[.pointer (some ⟨q, 0, none⟩)] W fun e w' => e = .returned (.int .u64 (T.first : Int)) ∧ Below W.heap.size W w') := ⟨fun W hW => (HT1.out.keep (hW.mono (by simp))).first⟩
  have hlen := fun ty W => hst.fs.run_len ty W
  obtain ⟨fr, hfr⟩ : ∃ fr, T.first = fr := ⟨_, rfl⟩
  rw [hfr] at HOLD ⊢
  have HFR : Bx (fr + T.l.length ≤ 1000000) := ⟨by have := hok.len; have := hok.tot; rw [← hfr]; unfold Tab.first; omega⟩
  obtain ⟨L, hL⟩ : ∃ L, T.l = L := ⟨_, rfl⟩
  rw [hL] at hlen HST HFR ⊢
  obtain ⟨n, hn⟩ : ∃ n, L.length = n := ⟨_, rfl⟩
  rw [hn] at hlen
  have HN := Bx.mk hn
  rw [hn] at HFR
  have hw0 : IntKind.i64.wrap ((n : Int) - 1) = (n : Int) - 1 := by have := HFR.out; simp only [IntKind.wrap_i64]; omega
  clear h hok hst hfr hL hn
  go_enter Try.func32, Try.ntmps32
  go_wp2
  clear c0 hw0
  go_loopg [7] n (fun g s7 wx => ∃ z : Int, s7 = .int .i64 z ∧ z + 1 = (g : Int) ∧ Bx (g ≤ n) ∧ Bx (nw (hasF (f1, f2)) fr L = nw (hasF (f1, f2)) fr (L.take g)) ∧ Bx (Below (w.heap.size + 1) (w.alloc (.cells #[.string f1, .string f2] 24)) wx))
  case atStart => exact ⟨_, rfl, by omega, ⟨Nat.le_refl _⟩, ⟨by rw [← HN.out, List.take_length]⟩, ⟨Below.refl _ _⟩⟩
  case round =>
    obtain ⟨z, rfl, hz, HGN, HP, HB⟩ := hrel
    have hc0 : wr.cell? ⟨q, 0, none⟩ = some v := (HB.out.cell (by have := World.block_lt_of_cell? _ _ HC0.out; simpa using this)).trans HC0.out
    have HFW := Bx.mk (HF1.out.below HB.out (by omega))
    have HVW := Bx.mk (HST.out.keep (HB.out.mono (by simp)))
    cases gk with
    | zero =>
      obtain rfl : z = -1 := by omega
      have HNO : Bx (nw (hasF (f1, f2)) fr L = none) := ⟨by rw [HP.out]; rfl⟩
      clear HP
      have hw0 : IntKind.i64.wrap ((n : Int) - 1) = (n : Int) - 1 := by have := HFR.out; simp only [IntKind.wrap_i64]; omega
      go_wp2
      clear hc0 hw0
      go_loopg [8] n (fun g s8 wx => ∃ z : Int, s8 = .int .i64 z ∧ z + 1 = (g : Int) ∧ Bx (g ≤ n) ∧ Bx (nw (hasN f1) fr L = nw (hasN f1) fr (L.take g)) ∧ Bx (Below (w.heap.size + 1) (w.alloc (.cells #[.string f1, .string f2] 24)) wx))
      case atStart => exact ⟨_, rfl, by omega, ⟨Nat.le_refl _⟩, ⟨by rw [← HN.out, List.take_length]⟩, HB⟩
      case round =>
        clear HFW HVW HB hz HGN
        obtain ⟨z, rfl, hz, HGN, HP, HB⟩ := hrel
        have hc0 : wr.cell? ⟨q, 0, none⟩ = some v := (HB.out.cell (by have := World.block_lt_of_cell? _ _ HC0.out; simpa using this)).trans HC0.out
        have HFW := Bx.mk (HF1.out.below HB.out (by omega))
        have HVW := Bx.mk (HST.out.keep (HB.out.mono (by simp)))
        cases gk with
        | zero =>
          obtain rfl : z = -1 := by omega
          have HFT : Bx (findT L fr (f1, f2) = (0, false, false)) := ⟨by unfold findT; rw [HNO.out]; simp only; rw [HP.out]; rfl⟩
          go_wp2
          go_ret3
          exact ⟨by rw [HFT.out]; rfl, HB1.out.trans (HB.out.mono (by omega))⟩
        | succ g =>
          obtain rfl : z = (g : Int) := by omega
          have hk : g < L.length := by have := HGN.out; have := HN.out; omega
          obtain ⟨b, o, hix, hcs⟩ := HVW.out.fs.at_ g hk
          obtain ⟨hc1, hc2⟩ := hcs _ HVW.out.fs
          obtain ⟨hca, hcb⟩ := HFW.out.cells
          have hts := nw_take_succ (hasN f1) fr L g hk
          obtain ⟨g1, hf1⟩ : ∃ g1, L[g].1 = g1 := ⟨_, rfl⟩
          rw [hf1] at hc1
          have HG := Bx.mk hf1
          have HTS := Bx.mk hts
          have hgn : g < n := by have := HGN.out; omega
          have hgz : (g : Int) < (n : Int) := by omega
          have HK := Bx.mk hk
          clear hcs hc2 hf1 hts
          by_cases he : g1 = f1
          · have hd := str_beq_true he
            have HFT : Bx (findT L fr (f1, f2) = (fr + g, true, false)) := ⟨by
              unfold findT
              rw [HNO.out]
              simp only
              rw [HP.out, HTS.out, if_pos (by simp [hasN, HG.out, he])]⟩
            clear he
            have hw1 : IntKind.u64.wrap (g : Int) = (g : Int) := by have := HFR.out; simp [IntKind.wrap, IntKind.signed, IntKind.bits]; omega
            have hw2 : IntKind.u64.wrap ((fr : Int) + (g : Int)) = ((fr + g : Nat) : Int) := by have := HFR.out; simp [IntKind.wrap, IntKind.signed, IntKind.bits]; omega
            go_wp2_with fail
            go_region
            all_goals go_wp2_with fail
            all_goals
              refine (HOLD.out _ HB.out.drew).mono ?_
              rintro e w2 ⟨rfl, hb2⟩
              have HB2 := Bx.mk (HB.out.drew.trans (hb2.mono (by have := HB.out.size; simp at this; simp; omega)))
              clear hb2
              go_wp2_with fail
              go_ret3
              exact ⟨by rw [HFT.out]; rfl, HB1.out.trans (HB2.out.mono (by omega))⟩
          · have hd := str_beq_false he
            have HE := Bx.mk he
            clear he
            have hw1 : IntKind.i64.wrap ((g : Int) - 1) = (g : Int) - 1 := by have := HFR.out; simp only [IntKind.wrap_i64]; omega
            go_wp2_with fail
            go_region
            all_goals go_wp2_with fail
            all_goals go_roundg g
            all_goals first
              | omega
              | exact ⟨_, rfl, by omega, ⟨by have := HGN.out; omega⟩, ⟨by rw [HP.out, HTS.out, if_neg (by simp only [hasN, HG.out]; simpa using HE.out)]⟩, ⟨HB.out.drew⟩⟩
    | succ g =>
      obtain rfl : z = (g : Int) := by omega
      have hk : g < L.length := by have := HGN.out; have := HN.out; omega
      obtain ⟨b, o, hix, hcs⟩ := HVW.out.fs.at_ g hk
      obtain ⟨hc1, hc2⟩ := hcs wr HVW.out.fs
      obtain ⟨hca, hcb⟩ := HFW.out.cells
      have hts := nw_take_succ (hasF (f1, f2)) fr L g hk
      obtain ⟨g1, hf1⟩ : ∃ g1, L[g].1 = g1 := ⟨_, rfl⟩
      obtain ⟨g2, hf2⟩ : ∃ g2, L[g].2 = g2 := ⟨_, rfl⟩
      rw [hf1] at hc1
      rw [hf2] at hc2
      have HG := Bx.mk (show L[g] = (g1, g2) by rw [← hf1, ← hf2])
      have HTS := Bx.mk hts
      have hgn : g < n := by have := HGN.out; omega
      have hgz : (g : Int) < (n : Int) := by omega
      have HK := Bx.mk hk
      clear hcs hf1 hf2 hts
      by_cases he1 : g1 = f1
      · subst he1
        by_cases he2 : g2 = f2
        · subst he2
          have HFT : Bx (findT L fr (g1, g2) = (fr + g, true, true)) := ⟨by
            unfold findT
            rw [HP.out, HTS.out, if_pos (by simp [hasF, HG.out])]⟩
          have hw1 : IntKind.u64.wrap (g : Int) = (g : Int) := by have := HFR.out; simp [IntKind.wrap, IntKind.signed, IntKind.bits]; omega
          have hw2 : IntKind.u64.wrap ((fr : Int) + (g : Int)) = ((fr + g : Nat) : Int) := by have := HFR.out; simp [IntKind.wrap, IntKind.signed, IntKind.bits]; omega
          go_wp2_with fail
          go_region
          all_goals go_wp2_with fail
          all_goals
            refine (HOLD.out _ HB.out.drew).mono ?_
            rintro e w2 ⟨rfl, hb2⟩
            have HB2 := Bx.mk (HB.out.drew.trans (hb2.mono (by have := HB.out.size; simp at this; simp; omega)))
            clear hb2
            go_wp2_with fail
            go_ret3
            exact ⟨by rw [HFT.out]; rfl, HB1.out.trans (HB2.out.mono (by omega))⟩
        · have hd : ¬ g2.toList = f2.toList := fun e => he2 (str_eq _ _ e)
          have HE : Bx (¬ (hasF (g1, f2) L[g] = true)) := ⟨by simp [hasF, HG.out]; exact he2⟩
          clear he2
          have hw1 : IntKind.i64.wrap ((g : Int) - 1) = (g : Int) - 1 := by have := HFR.out; simp only [IntKind.wrap_i64]; omega
          go_wp2_with fail
          go_region
          all_goals go_wp2_with fail
          all_goals go_roundg g
          all_goals first
            | omega
            | exact ⟨_, rfl, by omega, ⟨by have := HGN.out; omega⟩, ⟨by rw [HP.out, HTS.out, if_neg HE.out]⟩, ⟨HB.out.drew⟩⟩
      · have hd : ¬ g1.toList = f1.toList := fun e => he1 (str_eq _ _ e)
        have HE : Bx (¬ (hasF (f1, f2) L[g] = true)) := ⟨by simp [hasF, HG.out]; exact fun e => absurd e he1⟩
        clear he1
        have hw1 : IntKind.i64.wrap ((g : Int) - 1) = (g : Int) - 1 := by have := HFR.out; simp only [IntKind.wrap_i64]; omega
        go_wp2_with fail
        go_region
        all_goals go_wp2_with fail
        all_goals go_roundg g
        all_goals first
          | omega
          | exact ⟨_, rfl, by omega, ⟨by have := HGN.out; omega⟩, ⟨by rw [HP.out, HTS.out, if_neg HE.out]⟩, ⟨HB.out.drew⟩⟩

end Go.Proofs.Ytjebemcghikgpaa
