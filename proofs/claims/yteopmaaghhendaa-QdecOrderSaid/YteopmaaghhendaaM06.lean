/-
  Texts put together: DnI, DnJ, StMath, QtA, OwB, QtB, QtC, QtD, OwN, Wd, StFds, StC0, StG, HgS, StK, StE, StH, Up, StI, StA.
-/
import Derived.Test.YteopmaaghhendaaM01
import Derived.KernelRfl
import Derived.Test.YteopmaaghhendaaM04
import Derived.Test.YteopmaaghhendaaRows
import Derived.WalkKit
import Derived.WalkSpells
import Derived.WalkLawsBesides
import Derived.Lib.MinMax
import Derived.Lib.Hide
import Derived.Handy
import Derived.Lib.AppendStr
import Derived.Deep.OwnRows
import Derived.Deep.WholeRow
import Derived.IntWalk
import Derived.BigRegion
import Derived.RegionTactic
import Derived.Deep.LoopGhost
import Derived.Lib.Strings
import Derived.Deep.QuietTactic
import Derived.BigQuiet
import Derived.WalkArith
import Derived.Maps.Own
import Derived.Maps.OwnOps
import Derived.Maps.OwnSet
import Derived.Maps.Views
import Derived.DeepKeys4
import Derived.ProofKit
import Derived.Deep.RegionWith

/-
  Contracts of the document's Abs, Newest.
-/
namespace Go.Proofs.Yteopmaaghhendaa
open Go.RowKit Go.Maps
set_option linter.unusedVariables false

theorem Rt.first {q : Nat} {T : Tab} {w : World} {S : Nat → Prop} (h : Rt q T w S) : Calls Try.prog 61 #[.pointer (some ⟨q, 0, none⟩)] w fun e w' => e = .returned (.int .u64 (T.first : Int)) ∧ Below w.heap.size w w' := by
  obtain ⟨v, h1, h2, h3, h4, h5, h6⟩ := h
  exact first_any h1 h2 h6.len h6.tot

end Go.Proofs.Yteopmaaghhendaa

/-
  Contract of the document's Find.
-/
namespace Go.Proofs.Yteopmaaghhendaa
open Go.RowKit Go.Maps
set_option linter.unusedVariables false

theorem str_eq (a b : ByteArray) (h : a.toList = b.toList) : a = b := by
  rw [Lib.toList_data, Lib.toList_data] at h
  have := Array.toList_inj.1 h
  cases a; cases b; simp_all
theorem str_beq_true {a b : ByteArray} (h : a = b) : (a.toList == b.toList) = true := by rw [h]; exact beq_self_eq_true _
theorem str_beq_false {a b : ByteArray} (h : ¬ a = b) : (a.toList == b.toList) = false := by
  rw [beq_eq_false_iff_ne]
  exact fun h2 => h (str_eq a b h2)

set_option maxRecDepth 100000 in
set_option maxHeartbeats 4000000 in
theorem refFind_any {q : Nat} {T : Tab} {w : World} {S : Nat → Prop} (h : Rt q T w S) (f : Fd) :
    Calls Try.prog 42 #[.pointer (some ⟨q, 0, none⟩), .agg #[.string f.1, .string f.2]] w fun e w' => e = .returned (find3 (findT T.l T.first f)) ∧ Below w.heap.size w w' := by
  obtain ⟨f1, f2⟩ := f
  have hok := h.ok
  have HT1 := Bx.mk (h.keep ((Below.refl w.heap.size w).alloc (Nat.le_refl _) (.cells #[.string f1, .string f2] 56)))
  have HB1 := Bx.mk ((Below.refl w.heap.size w).alloc (Nat.le_refl _) (.cells #[.string f1, .string f2] 56))
  have HF1 := Bx.mk (Fb.new 56 w (f1, f2))
  obtain ⟨v, c0, _, _, _, hst⟩ := HT1.out.cells
  have HST := Bx.mk hst
  have HC0 := Bx.mk c0
  have HOLD : Bx (∀ W, Below (w.heap.size + 1) (w.alloc (.cells #[.string f1, .string f2] 56)) W → Calls Try.prog 61 #[.pointer (some ⟨q, 0, none⟩)] W fun e w' => e = .returned (.int .u64 (T.first : Int)) ∧ Below W.heap.size W w') := ⟨fun W hW => (HT1.out.keep (hW.mono (by simp))).first⟩
  have hlen := fun ty W => hst.fs.run_len ty W
  obtain ⟨fr, hfr⟩ : ∃ fr, T.first = fr := ⟨_, rfl⟩
  rw [hfr] at HOLD ⊢
  have HFR : Bx (fr + T.l.length ≤ 1000000) := ⟨by have := hok.len; have := hok.tot; rw [← hfr]; unfold Tab.first; omega⟩
  obtain ⟨L, hL⟩ : ∃ L, T.l = L := ⟨_, rfl⟩
  rw [hL] at hlen HST HFR ⊢
  obtain ⟨n, hn⟩ : ∃ n, L.length = n := ⟨_, rfl⟩
  rw [hn] at hlen
  have HN := Bx.mk hn
  rw [hn] at HFR
  have hw0 : IntKind.i64.wrap ((n : Int) - 1) = (n : Int) - 1 := by have := HFR.out; simp only [IntKind.wrap_i64]; omega
  clear h hok hst hfr hL hn
  go_enter Try.func42, Try.ntmps42
  go_wp2
  clear c0 hw0
  go_loopg [7] n (fun g s7 wx => ∃ z : Int, s7 = .int .i64 z ∧ z + 1 = (g : Int) ∧ Bx (g ≤ n) ∧ Bx (nw (hasF (f1, f2)) fr L = nw (hasF (f1, f2)) fr (L.take g)) ∧ Bx (Below (w.heap.size + 1) (w.alloc (.cells #[.string f1, .string f2] 56)) wx))
  case atStart => exact ⟨_, rfl, by omega, ⟨Nat.le_refl _⟩, ⟨by rw [← HN.out, List.take_length]⟩, ⟨Below.refl _ _⟩⟩
  case round =>
    obtain ⟨z, rfl, hz, HGN, HP, HB⟩ := hrel
    have hc0 : wr.cell? ⟨q, 0, none⟩ = some v := (HB.out.cell (by have := World.block_lt_of_cell? _ _ HC0.out; simpa using this)).trans HC0.out
    have HFW := Bx.mk (HF1.out.below HB.out (by omega))
    have HVW := Bx.mk (HST.out.keep (HB.out.mono (by simp)))
    cases gk with
    | zero =>
      obtain rfl : z = -1 := by omega
      have HNO : Bx (nw (hasF (f1, f2)) fr L = none) := ⟨by rw [HP.out]; rfl⟩
      clear HP
      have hw0 : IntKind.i64.wrap ((n : Int) - 1) = (n : Int) - 1 := by have := HFR.out; simp only [IntKind.wrap_i64]; omega
      go_wp2
      clear hc0 hw0
      go_loopg [8] n (fun g s8 wx => ∃ z : Int, s8 = .int .i64 z ∧ z + 1 = (g : Int) ∧ Bx (g ≤ n) ∧ Bx (nw (hasN f1) fr L = nw (hasN f1) fr (L.take g)) ∧ Bx (Below (w.heap.size + 1) (w.alloc (.cells #[.string f1, .string f2] 56)) wx))
      case atStart => exact ⟨_, rfl, by omega, ⟨Nat.le_refl _⟩, ⟨by rw [← HN.out, List.take_length]⟩, HB⟩
      case round =>
        clear HFW HVW HB hz HGN
        obtain ⟨z, rfl, hz, HGN, HP, HB⟩ := hrel
        have hc0 : wr.cell? ⟨q, 0, none⟩ = some v := (HB.out.cell (by have := World.block_lt_of_cell? _ _ HC0.out; simpa using this)).trans HC0.out
        have HFW := Bx.mk (HF1.out.below HB.out (by omega))
        have HVW := Bx.mk (HST.out.keep (HB.out.mono (by simp)))
        cases gk with
        | zero =>
          obtain rfl : z = -1 := by omega
          have HFT : Bx (findT L fr (f1, f2) = (0, false, false)) := ⟨by unfold findT; rw [HNO.out]; simp only; rw [HP.out]; rfl⟩
          go_wp2
          go_ret3
          exact ⟨by rw [HFT.out]; rfl, HB1.out.trans (HB.out.mono (by omega))⟩
        | succ g =>
          obtain rfl : z = (g : Int) := by omega
          have hk : g < L.length := by have := HGN.out; have := HN.out; omega
          obtain ⟨b, o, hix, hcs⟩ := HVW.out.fs.at_ g hk
          obtain ⟨hc1, hc2⟩ := hcs _ HVW.out.fs
          obtain ⟨hca, hcb⟩ := HFW.out.cells
          have hts := nw_take_succ (hasN f1) fr L g hk
          obtain ⟨g1, hf1⟩ : ∃ g1, L[g].1 = g1 := ⟨_, rfl⟩
          rw [hf1] at hc1
          have HG := Bx.mk hf1
          have HTS := Bx.mk hts
          have hgn : g < n := by have := HGN.out; omega
          have hgz : (g : Int) < (n : Int) := by omega
          have HK := Bx.mk hk
          clear hcs hc2 hf1 hts
          by_cases he : g1 = f1
          · have hd := str_beq_true he
            have HFT : Bx (findT L fr (f1, f2) = (fr + g, true, false)) := ⟨by
              unfold findT
              rw [HNO.out]
              simp only
              rw [HP.out, HTS.out, if_pos (by simp [hasN, HG.out, he])]⟩
            clear he
            have hw1 : IntKind.u64.wrap (g : Int) = (g : Int) := by have := HFR.out; simp [IntKind.wrap, IntKind.signed, IntKind.bits]; omega
            have hw2 : IntKind.u64.wrap ((fr : Int) + (g : Int)) = ((fr + g : Nat) : Int) := by have := HFR.out; simp [IntKind.wrap, IntKind.signed, IntKind.bits]; omega
            go_wp2_with fail
            go_region
            all_goals go_wp2_with fail
            all_goals
              refine (HOLD.out _ HB.out.drew).mono ?_
              rintro e w2 ⟨rfl, hb2⟩
              have HB2 := Bx.mk (HB.out.drew.trans (hb2.mono (by have := HB.out.size; simp at this; simp; omega)))
              clear hb2
              go_wp2_with fail
              go_ret3
              exact ⟨by rw [HFT.out]; rfl, HB1.out.trans (HB2.out.mono (by omega))⟩
          · have hd := str_beq_false he
            have HE := Bx.mk he
            clear he
            have hw1 : IntKind.i64.wrap ((g : Int) - 1) = (g : Int) - 1 := by have := HFR.out; simp only [IntKind.wrap_i64]; omega
            go_wp2_with fail
            go_region
            all_goals go_wp2_with fail
            all_goals go_roundg g
            all_goals first
              | omega
              | exact ⟨_, rfl, by omega, ⟨by have := HGN.out; omega⟩, ⟨by rw [HP.out, HTS.out, if_neg (by simp only [hasN, HG.out]; simpa using HE.out)]⟩, ⟨HB.out.drew⟩⟩
    | succ g =>
      obtain rfl : z = (g : Int) := by omega
      have hk : g < L.length := by have := HGN.out; have := HN.out; omega
      obtain ⟨b, o, hix, hcs⟩ := HVW.out.fs.at_ g hk
      obtain ⟨hc1, hc2⟩ := hcs wr HVW.out.fs
      obtain ⟨hca, hcb⟩ := HFW.out.cells
      have hts := nw_take_succ (hasF (f1, f2)) fr L g hk
      obtain ⟨g1, hf1⟩ : ∃ g1, L[g].1 = g1 := ⟨_, rfl⟩
      obtain ⟨g2, hf2⟩ : ∃ g2, L[g].2 = g2 := ⟨_, rfl⟩
      rw [hf1] at hc1
      rw [hf2] at hc2
      have HG := Bx.mk (show L[g] = (g1, g2) by rw [← hf1, ← hf2])
      have HTS := Bx.mk hts
      have hgn : g < n := by have := HGN.out; omega
      have hgz : (g : Int) < (n : Int) := by omega
      have HK := Bx.mk hk
      clear hcs hf1 hf2 hts
      by_cases he1 : g1 = f1
      · subst he1
        by_cases he2 : g2 = f2
        · subst he2
          have HFT : Bx (findT L fr (g1, g2) = (fr + g, true, true)) := ⟨by
            unfold findT
            rw [HP.out, HTS.out, if_pos (by simp [hasF, HG.out])]⟩
          have hw1 : IntKind.u64.wrap (g : Int) = (g : Int) := by have := HFR.out; simp [IntKind.wrap, IntKind.signed, IntKind.bits]; omega
          have hw2 : IntKind.u64.wrap ((fr : Int) + (g : Int)) = ((fr + g : Nat) : Int) := by have := HFR.out; simp [IntKind.wrap, IntKind.signed, IntKind.bits]; omega
          go_wp2_with fail
          go_region
          all_goals go_wp2_with fail
          all_goals
            refine (HOLD.out _ HB.out.drew).mono ?_
            rintro e w2 ⟨rfl, hb2⟩
            have HB2 := Bx.mk (HB.out.drew.trans (hb2.mono (by have := HB.out.size; simp at this; simp; omega)))
            clear hb2
            go_wp2_with fail
            go_ret3
            exact ⟨by rw [HFT.out]; rfl, HB1.out.trans (HB2.out.mono (by omega))⟩
        · have hd : ¬ g2.toList = f2.toList := fun e => he2 (str_eq _ _ e)
          have HE : Bx (¬ (hasF (g1, f2) L[g] = true)) := ⟨by simp [hasF, HG.out]; exact he2⟩
          clear he2
          have hw1 : IntKind.i64.wrap ((g : Int) - 1) = (g : Int) - 1 := by have := HFR.out; simp only [IntKind.wrap_i64]; omega
          go_wp2_with fail
          go_region
          all_goals go_wp2_with fail
          all_goals go_roundg g
          all_goals first
            | omega
            | exact ⟨_, rfl, by omega, ⟨by have := HGN.out; omega⟩, ⟨by rw [HP.out, HTS.out, if_neg HE.out]⟩, ⟨HB.out.drew⟩⟩
      · have hd : ¬ g1.toList = f1.toList := fun e => he1 (str_eq _ _ e)
        have HE : Bx (¬ (hasF (f1, f2) L[g] = true)) := ⟨by simp [hasF, HG.out]; exact fun e => absurd e he1⟩
        clear he1
        have hw1 : IntKind.i64.wrap ((g : Int) - 1) = (g : Int) - 1 := by have := HFR.out; simp only [IntKind.wrap_i64]; omega
        go_wp2_with fail
        go_region
        all_goals go_wp2_with fail
        all_goals go_roundg g
        all_goals first
          | omega
          | exact ⟨_, rfl, by omega, ⟨by have := HGN.out; omega⟩, ⟨by rw [HP.out, HTS.out, if_neg HE.out]⟩, ⟨HB.out.drew⟩⟩

end Go.Proofs.Yteopmaaghhendaa

/-
  The two tables that never change, as plain mathematics: what stands where. No program is named here.
-/
namespace Go.Proofs.Yteopmaaghhendaa
set_option linter.unusedVariables false

/-- The entries of HPACK's table. -/
def T2 : List Fd := [
  (⟨#[58, 97, 117, 116, 104, 111, 114, 105, 116, 121]⟩, ⟨#[]⟩),
  (⟨#[58, 109, 101, 116, 104, 111, 100]⟩, ⟨#[71, 69, 84]⟩),
  (⟨#[58, 109, 101, 116, 104, 111, 100]⟩, ⟨#[80, 79, 83, 84]⟩),
  (⟨#[58, 112, 97, 116, 104]⟩, ⟨#[47]⟩),
  (⟨#[58, 112, 97, 116, 104]⟩, ⟨#[47, 105, 110, 100, 101, 120, 46, 104, 116, 109, 108]⟩),
  (⟨#[58, 115, 99, 104, 101, 109, 101]⟩, ⟨#[104, 116, 116, 112]⟩),
  (⟨#[58, 115, 99, 104, 101, 109, 101]⟩, ⟨#[104, 116, 116, 112, 115]⟩),
  (⟨#[58, 115, 116, 97, 116, 117, 115]⟩, ⟨#[50, 48, 48]⟩),
  (⟨#[58, 115, 116, 97, 116, 117, 115]⟩, ⟨#[50, 48, 52]⟩),
  (⟨#[58, 115, 116, 97, 116, 117, 115]⟩, ⟨#[50, 48, 54]⟩),
  (⟨#[58, 115, 116, 97, 116, 117, 115]⟩, ⟨#[51, 48, 52]⟩),
  (⟨#[58, 115, 116, 97, 116, 117, 115]⟩, ⟨#[52, 48, 48]⟩),
  (⟨#[58, 115, 116, 97, 116, 117, 115]⟩, ⟨#[52, 48, 52]⟩),
  (⟨#[58, 115, 116, 97, 116, 117, 115]⟩, ⟨#[53, 48, 48]⟩),
  (⟨#[97, 99, 99, 101, 112, 116, 45, 99, 104, 97, 114, 115, 101, 116]⟩, ⟨#[]⟩),
  (⟨#[97, 99, 99, 101, 112, 116, 45, 101, 110, 99, 111, 100, 105, 110, 103]⟩, ⟨#[103, 122, 105, 112, 44, 32, 100, 101, 102, 108, 97, 116, 101]⟩),
  (⟨#[97, 99, 99, 101, 112, 116, 45, 108, 97, 110, 103, 117, 97, 103, 101]⟩, ⟨#[]⟩),
  (⟨#[97, 99, 99, 101, 112, 116, 45, 114, 97, 110, 103, 101, 115]⟩, ⟨#[]⟩),
  (⟨#[97, 99, 99, 101, 112, 116]⟩, ⟨#[]⟩),
  (⟨#[97, 99, 99, 101, 115, 115, 45, 99, 111, 110, 116, 114, 111, 108, 45, 97, 108, 108, 111, 119, 45, 111, 114, 105, 103, 105, 110]⟩, ⟨#[]⟩),
  (⟨#[97, 103, 101]⟩, ⟨#[]⟩),
  (⟨#[97, 108, 108, 111, 119]⟩, ⟨#[]⟩),
  (⟨#[97, 117, 116, 104, 111, 114, 105, 122, 97, 116, 105, 111, 110]⟩, ⟨#[]⟩),
  (⟨#[99, 97, 99, 104, 101, 45, 99, 111, 110, 116, 114, 111, 108]⟩, ⟨#[]⟩),
  (⟨#[99, 111, 110, 116, 101, 110, 116, 45, 100, 105, 115, 112, 111, 115, 105, 116, 105, 111, 110]⟩, ⟨#[]⟩),
  (⟨#[99, 111, 110, 116, 101, 110, 116, 45, 101, 110, 99, 111, 100, 105, 110, 103]⟩, ⟨#[]⟩),
  (⟨#[99, 111, 110, 116, 101, 110, 116, 45, 108, 97, 110, 103, 117, 97, 103, 101]⟩, ⟨#[]⟩),
  (⟨#[99, 111, 110, 116, 101, 110, 116, 45, 108, 101, 110, 103, 116, 104]⟩, ⟨#[]⟩),
  (⟨#[99, 111, 110, 116, 101, 110, 116, 45, 108, 111, 99, 97, 116, 105, 111, 110]⟩, ⟨#[]⟩),
  (⟨#[99, 111, 110, 116, 101, 110, 116, 45, 114, 97, 110, 103, 101]⟩, ⟨#[]⟩),
  (⟨#[99, 111, 110, 116, 101, 110, 116, 45, 116, 121, 112, 101]⟩, ⟨#[]⟩),
  (⟨#[99, 111, 111, 107, 105, 101]⟩, ⟨#[]⟩),
  (⟨#[100, 97, 116, 101]⟩, ⟨#[]⟩),
  (⟨#[101, 116, 97, 103]⟩, ⟨#[]⟩),
  (⟨#[101, 120, 112, 101, 99, 116]⟩, ⟨#[]⟩),
  (⟨#[101, 120, 112, 105, 114, 101, 115]⟩, ⟨#[]⟩),
  (⟨#[102, 114, 111, 109]⟩, ⟨#[]⟩),
  (⟨#[104, 111, 115, 116]⟩, ⟨#[]⟩),
  (⟨#[105, 102, 45, 109, 97, 116, 99, 104]⟩, ⟨#[]⟩),
  (⟨#[105, 102, 45, 109, 111, 100, 105, 102, 105, 101, 100, 45, 115, 105, 110, 99, 101]⟩, ⟨#[]⟩),
  (⟨#[105, 102, 45, 110, 111, 110, 101, 45, 109, 97, 116, 99, 104]⟩, ⟨#[]⟩),
  (⟨#[105, 102, 45, 114, 97, 110, 103, 101]⟩, ⟨#[]⟩),
  (⟨#[105, 102, 45, 117, 110, 109, 111, 100, 105, 102, 105, 101, 100, 45, 115, 105, 110, 99, 101]⟩, ⟨#[]⟩),
  (⟨#[108, 97, 115, 116, 45, 109, 111, 100, 105, 102, 105, 101, 100]⟩, ⟨#[]⟩),
  (⟨#[108, 105, 110, 107]⟩, ⟨#[]⟩),
  (⟨#[108, 111, 99, 97, 116, 105, 111, 110]⟩, ⟨#[]⟩),
  (⟨#[109, 97, 120, 45, 102, 111, 114, 119, 97, 114, 100, 115]⟩, ⟨#[]⟩),
  (⟨#[112, 114, 111, 120, 121, 45, 97, 117, 116, 104, 101, 110, 116, 105, 99, 97, 116, 101]⟩, ⟨#[]⟩),
  (⟨#[112, 114, 111, 120, 121, 45, 97, 117, 116, 104, 111, 114, 105, 122, 97, 116, 105, 111, 110]⟩, ⟨#[]⟩),
  (⟨#[114, 97, 110, 103, 101]⟩, ⟨#[]⟩),
  (⟨#[114, 101, 102, 101, 114, 101, 114]⟩, ⟨#[]⟩),
  (⟨#[114, 101, 102, 114, 101, 115, 104]⟩, ⟨#[]⟩),
  (⟨#[114, 101, 116, 114, 121, 45, 97, 102, 116, 101, 114]⟩, ⟨#[]⟩),
  (⟨#[115, 101, 114, 118, 101, 114]⟩, ⟨#[]⟩),
  (⟨#[115, 101, 116, 45, 99, 111, 111, 107, 105, 101]⟩, ⟨#[]⟩),
  (⟨#[115, 116, 114, 105, 99, 116, 45, 116, 114, 97, 110, 115, 112, 111, 114, 116, 45, 115, 101, 99, 117, 114, 105, 116, 121]⟩, ⟨#[]⟩),
  (⟨#[116, 114, 97, 110, 115, 102, 101, 114, 45, 101, 110, 99, 111, 100, 105, 110, 103]⟩, ⟨#[]⟩),
  (⟨#[117, 115, 101, 114, 45, 97, 103, 101, 110, 116]⟩, ⟨#[]⟩),
  (⟨#[118, 97, 114, 121]⟩, ⟨#[]⟩),
  (⟨#[118, 105, 97]⟩, ⟨#[]⟩),
  (⟨#[119, 119, 119, 45, 97, 117, 116, 104, 101, 110, 116, 105, 99, 97, 116, 101]⟩, ⟨#[]⟩)]

/-- The entries of QPACK's table. -/
def T3 : List Fd := [
  (⟨#[58, 97, 117, 116, 104, 111, 114, 105, 116, 121]⟩, ⟨#[]⟩),
  (⟨#[58, 112, 97, 116, 104]⟩, ⟨#[47]⟩),
  (⟨#[97, 103, 101]⟩, ⟨#[48]⟩),
  (⟨#[99, 111, 110, 116, 101, 110, 116, 45, 100, 105, 115, 112, 111, 115, 105, 116, 105, 111, 110]⟩, ⟨#[]⟩),
  (⟨#[99, 111, 110, 116, 101, 110, 116, 45, 108, 101, 110, 103, 116, 104]⟩, ⟨#[48]⟩),
  (⟨#[99, 111, 111, 107, 105, 101]⟩, ⟨#[]⟩),
  (⟨#[100, 97, 116, 101]⟩, ⟨#[]⟩),
  (⟨#[101, 116, 97, 103]⟩, ⟨#[]⟩),
  (⟨#[105, 102, 45, 109, 111, 100, 105, 102, 105, 101, 100, 45, 115, 105, 110, 99, 101]⟩, ⟨#[]⟩),
  (⟨#[105, 102, 45, 110, 111, 110, 101, 45, 109, 97, 116, 99, 104]⟩, ⟨#[]⟩),
  (⟨#[108, 97, 115, 116, 45, 109, 111, 100, 105, 102, 105, 101, 100]⟩, ⟨#[]⟩),
  (⟨#[108, 105, 110, 107]⟩, ⟨#[]⟩),
  (⟨#[108, 111, 99, 97, 116, 105, 111, 110]⟩, ⟨#[]⟩),
  (⟨#[114, 101, 102, 101, 114, 101, 114]⟩, ⟨#[]⟩),
  (⟨#[115, 101, 116, 45, 99, 111, 111, 107, 105, 101]⟩, ⟨#[]⟩),
  (⟨#[58, 109, 101, 116, 104, 111, 100]⟩, ⟨#[67, 79, 78, 78, 69, 67, 84]⟩),
  (⟨#[58, 109, 101, 116, 104, 111, 100]⟩, ⟨#[68, 69, 76, 69, 84, 69]⟩),
  (⟨#[58, 109, 101, 116, 104, 111, 100]⟩, ⟨#[71, 69, 84]⟩),
  (⟨#[58, 109, 101, 116, 104, 111, 100]⟩, ⟨#[72, 69, 65, 68]⟩),
  (⟨#[58, 109, 101, 116, 104, 111, 100]⟩, ⟨#[79, 80, 84, 73, 79, 78, 83]⟩),
  (⟨#[58, 109, 101, 116, 104, 111, 100]⟩, ⟨#[80, 79, 83, 84]⟩),
  (⟨#[58, 109, 101, 116, 104, 111, 100]⟩, ⟨#[80, 85, 84]⟩),
  (⟨#[58, 115, 99, 104, 101, 109, 101]⟩, ⟨#[104, 116, 116, 112]⟩),
  (⟨#[58, 115, 99, 104, 101, 109, 101]⟩, ⟨#[104, 116, 116, 112, 115]⟩),
  (⟨#[58, 115, 116, 97, 116, 117, 115]⟩, ⟨#[49, 48, 51]⟩),
  (⟨#[58, 115, 116, 97, 116, 117, 115]⟩, ⟨#[50, 48, 48]⟩),
  (⟨#[58, 115, 116, 97, 116, 117, 115]⟩, ⟨#[51, 48, 52]⟩),
  (⟨#[58, 115, 116, 97, 116, 117, 115]⟩, ⟨#[52, 48, 52]⟩),
  (⟨#[58, 115, 116, 97, 116, 117, 115]⟩, ⟨#[53, 48, 51]⟩),
  (⟨#[97, 99, 99, 101, 112, 116]⟩, ⟨#[42, 47, 42]⟩),
  (⟨#[97, 99, 99, 101, 112, 116]⟩, ⟨#[97, 112, 112, 108, 105, 99, 97, 116, 105, 111, 110, 47, 100, 110, 115, 45, 109, 101, 115, 115, 97, 103, 101]⟩),
  (⟨#[97, 99, 99, 101, 112, 116, 45, 101, 110, 99, 111, 100, 105, 110, 103]⟩, ⟨#[103, 122, 105, 112, 44, 32, 100, 101, 102, 108, 97, 116, 101, 44, 32, 98, 114]⟩),
  (⟨#[97, 99, 99, 101, 112, 116, 45, 114, 97, 110, 103, 101, 115]⟩, ⟨#[98, 121, 116, 101, 115]⟩),
  (⟨#[97, 99, 99, 101, 115, 115, 45, 99, 111, 110, 116, 114, 111, 108, 45, 97, 108, 108, 111, 119, 45, 104, 101, 97, 100, 101, 114, 115]⟩, ⟨#[99, 97, 99, 104, 101, 45, 99, 111, 110, 116, 114, 111, 108]⟩),
  (⟨#[97, 99, 99, 101, 115, 115, 45, 99, 111, 110, 116, 114, 111, 108, 45, 97, 108, 108, 111, 119, 45, 104, 101, 97, 100, 101, 114, 115]⟩, ⟨#[99, 111, 110, 116, 101, 110, 116, 45, 116, 121, 112, 101]⟩),
  (⟨#[97, 99, 99, 101, 115, 115, 45, 99, 111, 110, 116, 114, 111, 108, 45, 97, 108, 108, 111, 119, 45, 111, 114, 105, 103, 105, 110]⟩, ⟨#[42]⟩),
  (⟨#[99, 97, 99, 104, 101, 45, 99, 111, 110, 116, 114, 111, 108]⟩, ⟨#[109, 97, 120, 45, 97, 103, 101, 61, 48]⟩),
  (⟨#[99, 97, 99, 104, 101, 45, 99, 111, 110, 116, 114, 111, 108]⟩, ⟨#[109, 97, 120, 45, 97, 103, 101, 61, 50, 53, 57, 50, 48, 48, 48]⟩),
  (⟨#[99, 97, 99, 104, 101, 45, 99, 111, 110, 116, 114, 111, 108]⟩, ⟨#[109, 97, 120, 45, 97, 103, 101, 61, 54, 48, 52, 56, 48, 48]⟩),
  (⟨#[99, 97, 99, 104, 101, 45, 99, 111, 110, 116, 114, 111, 108]⟩, ⟨#[110, 111, 45, 99, 97, 99, 104, 101]⟩),
  (⟨#[99, 97, 99, 104, 101, 45, 99, 111, 110, 116, 114, 111, 108]⟩, ⟨#[110, 111, 45, 115, 116, 111, 114, 101]⟩),
  (⟨#[99, 97, 99, 104, 101, 45, 99, 111, 110, 116, 114, 111, 108]⟩, ⟨#[112, 117, 98, 108, 105, 99, 44, 32, 109, 97, 120, 45, 97, 103, 101, 61, 51, 49, 53, 51, 54, 48, 48, 48]⟩),
  (⟨#[99, 111, 110, 116, 101, 110, 116, 45, 101, 110, 99, 111, 100, 105, 110, 103]⟩, ⟨#[98, 114]⟩),
  (⟨#[99, 111, 110, 116, 101, 110, 116, 45, 101, 110, 99, 111, 100, 105, 110, 103]⟩, ⟨#[103, 122, 105, 112]⟩),
  (⟨#[99, 111, 110, 116, 101, 110, 116, 45, 116, 121, 112, 101]⟩, ⟨#[97, 112, 112, 108, 105, 99, 97, 116, 105, 111, 110, 47, 100, 110, 115, 45, 109, 101, 115, 115, 97, 103, 101]⟩),
  (⟨#[99, 111, 110, 116, 101, 110, 116, 45, 116, 121, 112, 101]⟩, ⟨#[97, 112, 112, 108, 105, 99, 97, 116, 105, 111, 110, 47, 106, 97, 118, 97, 115, 99, 114, 105, 112, 116]⟩),
  (⟨#[99, 111, 110, 116, 101, 110, 116, 45, 116, 121, 112, 101]⟩, ⟨#[97, 112, 112, 108, 105, 99, 97, 116, 105, 111, 110, 47, 106, 115, 111, 110]⟩),
  (⟨#[99, 111, 110, 116, 101, 110, 116, 45, 116, 121, 112, 101]⟩, ⟨#[97, 112, 112, 108, 105, 99, 97, 116, 105, 111, 110, 47, 120, 45, 119, 119, 119, 45, 102, 111, 114, 109, 45, 117, 114, 108, 101, 110, 99, 111, 100, 101, 100]⟩),
  (⟨#[99, 111, 110, 116, 101, 110, 116, 45, 116, 121, 112, 101]⟩, ⟨#[105, 109, 97, 103, 101, 47, 103, 105, 102]⟩),
  (⟨#[99, 111, 110, 116, 101, 110, 116, 45, 116, 121, 112, 101]⟩, ⟨#[105, 109, 97, 103, 101, 47, 106, 112, 101, 103]⟩),
  (⟨#[99, 111, 110, 116, 101, 110, 116, 45, 116, 121, 112, 101]⟩, ⟨#[105, 109, 97, 103, 101, 47, 112, 110, 103]⟩),
  (⟨#[99, 111, 110, 116, 101, 110, 116, 45, 116, 121, 112, 101]⟩, ⟨#[116, 101, 120, 116, 47, 99, 115, 115]⟩),
  (⟨#[99, 111, 110, 116, 101, 110, 116, 45, 116, 121, 112, 101]⟩, ⟨#[116, 101, 120, 116, 47, 104, 116, 109, 108, 59, 32, 99, 104, 97, 114, 115, 101, 116, 61, 117, 116, 102, 45, 56]⟩),
  (⟨#[99, 111, 110, 116, 101, 110, 116, 45, 116, 121, 112, 101]⟩, ⟨#[116, 101, 120, 116, 47, 112, 108, 97, 105, 110]⟩),
  (⟨#[99, 111, 110, 116, 101, 110, 116, 45, 116, 121, 112, 101]⟩, ⟨#[116, 101, 120, 116, 47, 112, 108, 97, 105, 110, 59, 99, 104, 97, 114, 115, 101, 116, 61, 117, 116, 102, 45, 56]⟩),
  (⟨#[114, 97, 110, 103, 101]⟩, ⟨#[98, 121, 116, 101, 115, 61, 48, 45]⟩),
  (⟨#[115, 116, 114, 105, 99, 116, 45, 116, 114, 97, 110, 115, 112, 111, 114, 116, 45, 115, 101, 99, 117, 114, 105, 116, 121]⟩, ⟨#[109, 97, 120, 45, 97, 103, 101, 61, 51, 49, 53, 51, 54, 48, 48, 48]⟩),
  (⟨#[115, 116, 114, 105, 99, 116, 45, 116, 114, 97, 110, 115, 112, 111, 114, 116, 45, 115, 101, 99, 117, 114, 105, 116, 121]⟩, ⟨#[109, 97, 120, 45, 97, 103, 101, 61, 51, 49, 53, 51, 54, 48, 48, 48, 59, 32, 105, 110, 99, 108, 117, 100, 101, 115, 117, 98, 100, 111, 109, 97, 105, 110, 115]⟩),
  (⟨#[115, 116, 114, 105, 99, 116, 45, 116, 114, 97, 110, 115, 112, 111, 114, 116, 45, 115, 101, 99, 117, 114, 105, 116, 121]⟩, ⟨#[109, 97, 120, 45, 97, 103, 101, 61, 51, 49, 53, 51, 54, 48, 48, 48, 59, 32, 105, 110, 99, 108, 117, 100, 101, 115, 117, 98, 100, 111, 109, 97, 105, 110, 115, 59, 32, 112, 114, 101, 108, 111, 97, 100]⟩),
  (⟨#[118, 97, 114, 121]⟩, ⟨#[97, 99, 99, 101, 112, 116, 45, 101, 110, 99, 111, 100, 105, 110, 103]⟩),
  (⟨#[118, 97, 114, 121]⟩, ⟨#[111, 114, 105, 103, 105, 110]⟩),
  (⟨#[120, 45, 99, 111, 110, 116, 101, 110, 116, 45, 116, 121, 112, 101, 45, 111, 112, 116, 105, 111, 110, 115]⟩, ⟨#[110, 111, 115, 110, 105, 102, 102]⟩),
  (⟨#[120, 45, 120, 115, 115, 45, 112, 114, 111, 116, 101, 99, 116, 105, 111, 110]⟩, ⟨#[49, 59, 32, 109, 111, 100, 101, 61, 98, 108, 111, 99, 107]⟩),
  (⟨#[58, 115, 116, 97, 116, 117, 115]⟩, ⟨#[49, 48, 48]⟩),
  (⟨#[58, 115, 116, 97, 116, 117, 115]⟩, ⟨#[50, 48, 52]⟩),
  (⟨#[58, 115, 116, 97, 116, 117, 115]⟩, ⟨#[50, 48, 54]⟩),
  (⟨#[58, 115, 116, 97, 116, 117, 115]⟩, ⟨#[51, 48, 50]⟩),
  (⟨#[58, 115, 116, 97, 116, 117, 115]⟩, ⟨#[52, 48, 48]⟩),
  (⟨#[58, 115, 116, 97, 116, 117, 115]⟩, ⟨#[52, 48, 51]⟩),
  (⟨#[58, 115, 116, 97, 116, 117, 115]⟩, ⟨#[52, 50, 49]⟩),
  (⟨#[58, 115, 116, 97, 116, 117, 115]⟩, ⟨#[52, 50, 53]⟩),
  (⟨#[58, 115, 116, 97, 116, 117, 115]⟩, ⟨#[53, 48, 48]⟩),
  (⟨#[97, 99, 99, 101, 112, 116, 45, 108, 97, 110, 103, 117, 97, 103, 101]⟩, ⟨#[]⟩),
  (⟨#[97, 99, 99, 101, 115, 115, 45, 99, 111, 110, 116, 114, 111, 108, 45, 97, 108, 108, 111, 119, 45, 99, 114, 101, 100, 101, 110, 116, 105, 97, 108, 115]⟩, ⟨#[70, 65, 76, 83, 69]⟩),
  (⟨#[97, 99, 99, 101, 115, 115, 45, 99, 111, 110, 116, 114, 111, 108, 45, 97, 108, 108, 111, 119, 45, 99, 114, 101, 100, 101, 110, 116, 105, 97, 108, 115]⟩, ⟨#[84, 82, 85, 69]⟩),
  (⟨#[97, 99, 99, 101, 115, 115, 45, 99, 111, 110, 116, 114, 111, 108, 45, 97, 108, 108, 111, 119, 45, 104, 101, 97, 100, 101, 114, 115]⟩, ⟨#[42]⟩),
  (⟨#[97, 99, 99, 101, 115, 115, 45, 99, 111, 110, 116, 114, 111, 108, 45, 97, 108, 108, 111, 119, 45, 109, 101, 116, 104, 111, 100, 115]⟩, ⟨#[103, 101, 116]⟩),
  (⟨#[97, 99, 99, 101, 115, 115, 45, 99, 111, 110, 116, 114, 111, 108, 45, 97, 108, 108, 111, 119, 45, 109, 101, 116, 104, 111, 100, 115]⟩, ⟨#[103, 101, 116, 44, 32, 112, 111, 115, 116, 44, 32, 111, 112, 116, 105, 111, 110, 115]⟩),
  (⟨#[97, 99, 99, 101, 115, 115, 45, 99, 111, 110, 116, 114, 111, 108, 45, 97, 108, 108, 111, 119, 45, 109, 101, 116, 104, 111, 100, 115]⟩, ⟨#[111, 112, 116, 105, 111, 110, 115]⟩),
  (⟨#[97, 99, 99, 101, 115, 115, 45, 99, 111, 110, 116, 114, 111, 108, 45, 101, 120, 112, 111, 115, 101, 45, 104, 101, 97, 100, 101, 114, 115]⟩, ⟨#[99, 111, 110, 116, 101, 110, 116, 45, 108, 101, 110, 103, 116, 104]⟩),
  (⟨#[97, 99, 99, 101, 115, 115, 45, 99, 111, 110, 116, 114, 111, 108, 45, 114, 101, 113, 117, 101, 115, 116, 45, 104, 101, 97, 100, 101, 114, 115]⟩, ⟨#[99, 111, 110, 116, 101, 110, 116, 45, 116, 121, 112, 101]⟩),
  (⟨#[97, 99, 99, 101, 115, 115, 45, 99, 111, 110, 116, 114, 111, 108, 45, 114, 101, 113, 117, 101, 115, 116, 45, 109, 101, 116, 104, 111, 100]⟩, ⟨#[103, 101, 116]⟩),
  (⟨#[97, 99, 99, 101, 115, 115, 45, 99, 111, 110, 116, 114, 111, 108, 45, 114, 101, 113, 117, 101, 115, 116, 45, 109, 101, 116, 104, 111, 100]⟩, ⟨#[112, 111, 115, 116]⟩),
  (⟨#[97, 108, 116, 45, 115, 118, 99]⟩, ⟨#[99, 108, 101, 97, 114]⟩),
  (⟨#[97, 117, 116, 104, 111, 114, 105, 122, 97, 116, 105, 111, 110]⟩, ⟨#[]⟩),
  (⟨#[99, 111, 110, 116, 101, 110, 116, 45, 115, 101, 99, 117, 114, 105, 116, 121, 45, 112, 111, 108, 105, 99, 121]⟩, ⟨#[115, 99, 114, 105, 112, 116, 45, 115, 114, 99, 32, 39, 110, 111, 110, 101, 39, 59, 32, 111, 98, 106, 101, 99, 116, 45, 115, 114, 99, 32, 39, 110, 111, 110, 101, 39, 59, 32, 98, 97, 115, 101, 45, 117, 114, 105, 32, 39, 110, 111, 110, 101, 39]⟩),
  (⟨#[101, 97, 114, 108, 121, 45, 100, 97, 116, 97]⟩, ⟨#[49]⟩),
  (⟨#[101, 120, 112, 101, 99, 116, 45, 99, 116]⟩, ⟨#[]⟩),
  (⟨#[102, 111, 114, 119, 97, 114, 100, 101, 100]⟩, ⟨#[]⟩),
  (⟨#[105, 102, 45, 114, 97, 110, 103, 101]⟩, ⟨#[]⟩),
  (⟨#[111, 114, 105, 103, 105, 110]⟩, ⟨#[]⟩),
  (⟨#[112, 117, 114, 112, 111, 115, 101]⟩, ⟨#[112, 114, 101, 102, 101, 116, 99, 104]⟩),
  (⟨#[115, 101, 114, 118, 101, 114]⟩, ⟨#[]⟩),
  (⟨#[116, 105, 109, 105, 110, 103, 45, 97, 108, 108, 111, 119, 45, 111, 114, 105, 103, 105, 110]⟩, ⟨#[42]⟩),
  (⟨#[117, 112, 103, 114, 97, 100, 101, 45, 105, 110, 115, 101, 99, 117, 114, 101, 45, 114, 101, 113, 117, 101, 115, 116, 115]⟩, ⟨#[49]⟩),
  (⟨#[117, 115, 101, 114, 45, 97, 103, 101, 110, 116]⟩, ⟨#[]⟩),
  (⟨#[120, 45, 102, 111, 114, 119, 97, 114, 100, 101, 100, 45, 102, 111, 114]⟩, ⟨#[]⟩),
  (⟨#[120, 45, 102, 114, 97, 109, 101, 45, 111, 112, 116, 105, 111, 110, 115]⟩, ⟨#[100, 101, 110, 121]⟩),
  (⟨#[120, 45, 102, 114, 97, 109, 101, 45, 111, 112, 116, 105, 111, 110, 115]⟩, ⟨#[115, 97, 109, 101, 111, 114, 105, 103, 105, 110]⟩)]

theorem t3_len : T3.length = 99 := by decide +kernel
theorem t3_nodup : T3.Nodup := by decide +kernel
/-- The least place where f stands; else the least that has its name. -/
def findS (l : List Fd) (f : Fd) : Nat × Bool × Bool :=
  match l.findIdx? (fun g => decide (g = f)) with
  | some i => (i, true, true)
  | none => match l.findIdx? (fun g => decide (g.1 = f.1)) with
    | some i => (i, true, false)
    | none => (0, false, false)

theorem findIdx_some {l : List Fd} {p : Fd → Bool} {i : Nat} (hi : i < l.length) (h : p l[i] = true) (hb : ∀ j (hj : j < i), p (l[j]'(by omega)) = false) : l.findIdx? p = some i := by
  rw [List.findIdx?_eq_some_iff_getElem]
  exact ⟨hi, h, fun j hj => by simpa using hb j hj⟩
theorem findIdx_none {l : List Fd} {p : Fd → Bool} (h : ∀ j (hj : j < l.length), p l[j] = false) : l.findIdx? p = none := by
  rw [List.findIdx?_eq_none_iff]
  intro x hx
  obtain ⟨j, hj, rfl⟩ := List.getElem_of_mem hx
  exact h j hj

theorem nodup_idx {l : List Fd} (hl : l.Nodup) {i j : Nat} (hi : i < l.length) (hj : j < l.length) (h : l[i] = l[j]) : i = j := by
  have hp := List.pairwise_iff_getElem.1 hl
  rcases Nat.lt_trichotomy i j with h1 | h1 | h1
  · exact absurd h (hp i j hi hj h1)
  · exact h1
  · exact absurd h.symm (hp j i hj hi h1)

theorem findS_at {l : List Fd} (hl : l.Nodup) {f : Fd} {i : Nat} (hi : i < l.length) (h : l[i] = f) : findS l f = (i, true, true) := by
  unfold findS
  rw [findIdx_some hi (by simpa using h) (fun j hj => by
    simp only [decide_eq_false_iff_not]
    intro e
    have := nodup_idx hl (i := j) (j := i) (by omega) hi (e.trans h.symm)
    omega)]
theorem findS_named {l : List Fd} {f : Fd} (hn : ∀ j (hj : j < l.length), l[j] ≠ f) {i : Nat} (hi : i < l.length) (h : l[i].1 = f.1) (hb : ∀ j (hj : j < i), (l[j]'(by omega)).1 ≠ f.1) : findS l f = (i, true, false) := by
  unfold findS
  rw [findIdx_none (fun j hj => by simpa using hn j hj)]
  simp only
  rw [findIdx_some hi (by simpa using h) (fun j hj => by simpa using hb j hj)]
theorem findS_none {l : List Fd} {f : Fd} (hb : ∀ j (hj : j < l.length), l[j].1 ≠ f.1) : findS l f = (0, false, false) := by
  unfold findS
  rw [findIdx_none (fun j hj => by simp only [decide_eq_false_iff_not]; intro e; exact hb j hj (by rw [e]))]
  simp only
  rw [findIdx_none (fun j hj => by simpa using hb j hj)]

end Go.Proofs.Yteopmaaghhendaa

/-
  Contracts of the small functions of package qtab (most, sum, less, Relative, Post, EncodeCount, baseAt), and of the document's most, Relative, Post, EncodeCount.
-/
namespace Go.Proofs.Yteopmaaghhendaa
open Go.RowKit
set_option linter.unusedVariables false

/-- How many entries a table of a capacity has at most. -/
def mostN (cap : Int) : Nat := (max cap 0).toNat / 32

theorem mostN_lt {cap : Int} (h : cap < 9223372036854775808) : mostN cap < 288230376151711744 := by unfold mostN; omega
theorem retI {k : IntKind} {a b : Int} (h : a = b) : Ending.returned (.int k a) = .returned (.int k b) := by rw [h]
theorem u64_keep {a : Int} (h0 : 0 ≤ a) (h1 : a < 18446744073709551616) : IntKind.u64.wrap a = a := by rw [IntKind.wrap_u64]; omega

theorem most_any (cap : Int) (h : cap < 9223372036854775808) (w : World) :
    Calls Try.prog 77 #[.int .i64 cap] w fun e w' => e = .returned (.int .u64 (mostN cap)) ∧ w = w' := by
  obtain ⟨x, hx⟩ : ∃ x : Nat, max cap 0 = (x : Int) := ⟨(max cap 0).toNat, by omega⟩
  have hm : mostN cap = x / 32 := by unfold mostN; rw [hx]; rfl
  rw [hm]
  have hxl : x < 9223372036854775808 := by omega
  have H := Bx.mk hxl
  clear h hxl hm
  go_enter Try.func77, Try.ntmps77
  go_wp2
  go_ret
  have h := H.out
  exact ⟨retI (by rw [u64_keep (a := (x:Int)) (by omega) (by omega), Int.tdiv_eq_ediv_of_nonneg (by omega), u64_keep (by omega) (by omega)]; omega), rfl⟩

theorem refMost_any (cap : Int) (h : cap < 9223372036854775808) (w : World) :
    Calls Try.prog 66 #[.int .i64 cap] w fun e w' => e = .returned (.int .u64 (mostN cap)) ∧ w = w' := by
  obtain ⟨x, hx⟩ : ∃ x : Nat, max cap 0 = (x : Int) := ⟨(max cap 0).toNat, by omega⟩
  have hm : mostN cap = x / 32 := by unfold mostN; rw [hx]; rfl
  rw [hm]
  have hxl : x < 9223372036854775808 := by omega
  have H := Bx.mk hxl
  clear h hxl hm
  go_enter Try.func66, Try.ntmps66
  go_wp2
  go_ret
  have h := H.out
  exact ⟨retI (by rw [u64_keep (a := (x:Int)) (by omega) (by omega), Int.tdiv_eq_ediv_of_nonneg (by omega), u64_keep (by omega) (by omega)]; omega), rfl⟩

/-- A number, or none. -/
def Opt : Option Nat → Ending
  | some n => .returned (.tuple #[.int .u64 (n : Int), .bool true])
  | none => .returned (.tuple #[.int .u64 0, .bool false])
theorem Opt_some (n : Nat) : Opt (some n) = .returned (.tuple #[.int .u64 (n : Int), .bool true]) := rfl
theorem Opt_none : Opt none = .returned (.tuple #[.int .u64 0, .bool false]) := rfl
def sumN (a b m : Nat) : Option Nat := if a + b ≤ m then some (a + b) else none
def subN (a b : Nat) : Option Nat := if b ≤ a then some (a - b) else none
def relN (base i : Nat) : Option Nat := if i < base then some (base - 1 - i) else none

/-- A number under a letter. -/
theorem letter (a : Nat) : ∃ A : Int, (a : Int) = A := ⟨_, rfl⟩

theorem sum_any (a b m : Nat) (ha : a < 18446744073709551616) (hb : b < 18446744073709551616) (hm : m < 18446744073709551616) (w : World) :
    Calls Try.prog 78 #[.int .u64 a, .int .u64 b, .int .u64 m] w fun e w' => e = Opt (sumN a b m) ∧ w = w' := by
  have HA := Bx.mk ha
  have HB := Bx.mk hb
  have HM := Bx.mk hm
  clear ha hb hm
  rcases Nat.lt_or_ge m a with h | h
  · have hs : sumN a b m = none := by unfold sumN; rw [if_neg (by omega)]
    rw [hs]
    rw [Opt_none]
    obtain ⟨A, hA⟩ := letter a
    obtain ⟨B, hB⟩ := letter b
    obtain ⟨M, hM⟩ := letter m
    rw [hA, hB, hM]
    have h1 : decide (M < A) = true := by rw [decide_eq_true_iff]; omega
    clear h hs hA hB hM HA HB HM
    go_enter Try.func78, Try.ntmps78
    go_wp2
    go_ret2
    exact ⟨rfl, rfl⟩
  · rcases Nat.lt_or_ge (m - a) b with h' | h'
    · have hs : sumN a b m = none := by unfold sumN; rw [if_neg (by omega)]
      rw [hs]
      rw [Opt_none]
      obtain ⟨A, hA⟩ := letter a
      obtain ⟨B, hB⟩ := letter b
      obtain ⟨M, hM⟩ := letter m
      obtain ⟨D, hD⟩ := letter (m - a)
      rw [hA, hB, hM]
      have h1 : decide (M < A) = false := by rw [decide_eq_false_iff_not]; omega
      have hsub : IntKind.u64.wrap (M - A) = D := by rw [show M - A = D from by omega]; exact u64_keep (by omega) (by have := HM.out; omega)
      have h2 : decide (D < B) = true := by rw [decide_eq_true_iff]; omega
      clear h h' hs hA hB hM hD HA HB HM
      go_enter Try.func78, Try.ntmps78
      go_wp2
      go_ret2
      exact ⟨rfl, rfl⟩
    · have hs : sumN a b m = some (a + b) := by unfold sumN; rw [if_pos (by omega)]
      rw [hs]
      rw [Opt_some]
      obtain ⟨A, hA⟩ := letter a
      obtain ⟨B, hB⟩ := letter b
      obtain ⟨M, hM⟩ := letter m
      obtain ⟨D, hD⟩ := letter (m - a)
      obtain ⟨S, hS⟩ := letter (a + b)
      rw [hA, hB, hM, hS]
      have h1 : decide (M < A) = false := by rw [decide_eq_false_iff_not]; omega
      have hsub : IntKind.u64.wrap (M - A) = D := by rw [show M - A = D from by omega]; exact u64_keep (by omega) (by have := HM.out; omega)
      have h2 : decide (D < B) = false := by rw [decide_eq_false_iff_not]; omega
      have hadd : IntKind.u64.wrap (A + B) = S := by rw [show A + B = S from by omega]; exact u64_keep (by omega) (by have := HM.out; omega)
      clear h h' hs hA hB hM hD hS HA HB HM
      go_enter Try.func78, Try.ntmps78
      go_wp2
      go_ret2
      exact ⟨rfl, rfl⟩

theorem less_any (a b : Nat) (ha : a < 18446744073709551616) (w : World) :
    Calls Try.prog 79 #[.int .u64 a, .int .u64 b] w fun e w' => e = Opt (subN a b) ∧ w = w' := by
  have HA := Bx.mk ha
  clear ha
  rcases Nat.lt_or_ge a b with h | h
  · have hs : subN a b = none := by unfold subN; rw [if_neg (by omega)]
    rw [hs]
    rw [Opt_none]
    obtain ⟨A, hA⟩ := letter a
    obtain ⟨B, hB⟩ := letter b
    rw [hA, hB]
    have h1 : decide (A < B) = true := by rw [decide_eq_true_iff]; omega
    clear h hs hA hB HA
    go_enter Try.func79, Try.ntmps79
    go_wp2
    go_ret2
    exact ⟨rfl, rfl⟩
  · have hs : subN a b = some (a - b) := by unfold subN; rw [if_pos (by omega)]
    rw [hs]
    rw [Opt_some]
    obtain ⟨A, hA⟩ := letter a
    obtain ⟨B, hB⟩ := letter b
    obtain ⟨D, hD⟩ := letter (a - b)
    rw [hA, hB, hD]
    have h1 : decide (A < B) = false := by rw [decide_eq_false_iff_not]; omega
    have hsub : IntKind.u64.wrap (A - B) = D := by rw [show A - B = D from by omega]; exact u64_keep (by omega) (by have := HA.out; omega)
    clear h hs hA hB hD HA
    go_enter Try.func79, Try.ntmps79
    go_wp2
    go_ret2
    exact ⟨rfl, rfl⟩

theorem relative_any (a b : Nat) (ha : a < 18446744073709551616) (w : World) :
    Calls Try.prog 95 #[.int .u64 a, .int .u64 b] w fun e w' => e = Opt (relN a b) ∧ w = w' := by
  have HA := Bx.mk ha
  clear ha
  rcases Nat.lt_or_ge b a with h | h
  · have hs : relN a b = some (a - 1 - b) := by unfold relN; rw [if_pos (by omega)]
    rw [hs]
    rw [Opt_some]
    obtain ⟨A, hA⟩ := letter a
    obtain ⟨B, hB⟩ := letter b
    obtain ⟨C, hC⟩ := letter (a - 1)
    obtain ⟨D, hD⟩ := letter (a - 1 - b)
    rw [hA, hB, hD]
    have h1 : decide (A ≤ B) = false := by rw [decide_eq_false_iff_not]; omega
    have hpre : IntKind.u64.wrap (A - 1) = C := by rw [show A - 1 = C from by omega]; exact u64_keep (by omega) (by have := HA.out; omega)
    have hsub : IntKind.u64.wrap (C - B) = D := by rw [show C - B = D from by omega]; exact u64_keep (by omega) (by have := HA.out; omega)
    clear h hs hA hB hC hD HA
    go_enter Try.func95, Try.ntmps95
    go_wp2
    go_ret2
    exact ⟨rfl, rfl⟩
  · have hs : relN a b = none := by unfold relN; rw [if_neg (by omega)]
    rw [hs]
    rw [Opt_none]
    obtain ⟨A, hA⟩ := letter a
    obtain ⟨B, hB⟩ := letter b
    rw [hA, hB]
    have h1 : decide (A ≤ B) = true := by rw [decide_eq_true_iff]; omega
    clear h hs hA hB HA
    go_enter Try.func95, Try.ntmps95
    go_wp2
    go_ret2
    exact ⟨rfl, rfl⟩

theorem sum_62 (a b : Nat) (ha : a < 18446744073709551616) (hb : b < 18446744073709551616) (w : World) :
    Calls Try.prog 78 #[.int .u64 a, .int .u64 b, .int .u64 4611686018427387903] w fun e w' => e = Opt (sumN a b 4611686018427387903) ∧ w = w' := by
  have hc := sum_any a b 4611686018427387903 ha hb (by omega) w
  obtain ⟨M, hM⟩ := letter 4611686018427387903
  rw [hM] at hc
  obtain rfl : M = 4611686018427387903 := by omega
  exact hc

theorem post_any (a b : Nat) (ha : a < 18446744073709551616) (hb : b < 18446744073709551616) (w : World) :
    Calls Try.prog 96 #[.int .u64 a, .int .u64 b] w fun e w' => e = Opt (sumN a b 4611686018427387903) ∧ w = w' := by
  have hc := sum_62 a b ha hb
  generalize sumN a b 4611686018427387903 = o at hc ⊢
  obtain ⟨A, hA⟩ := letter a
  obtain ⟨B, hB⟩ := letter b
  simp only [hA, hB] at hc ⊢
  have HC := Bx.mk hc
  clear hc hA hB ha hb
  cases o with
  | none =>
    rw [Opt_none] at HC ⊢
    go_enter Try.func96, Try.ntmps96
    go_wp2_with (go_at_call 78; refine (HC.out _).mono ?_; rintro e w' ⟨rfl, rfl⟩)
    go_ret2
    exact ⟨rfl, rfl⟩
  | some n =>
    obtain ⟨N, hN⟩ := letter n
    rw [Opt_some] at HC ⊢
    rw [hN] at HC ⊢
    clear hN
    go_enter Try.func96, Try.ntmps96
    go_wp2_with (go_at_call 78; refine (HC.out _).mono ?_; rintro e w' ⟨rfl, rfl⟩)
    go_ret2
    exact ⟨rfl, rfl⟩

end Go.Proofs.Yteopmaaghhendaa

/-
  Byte rows of their own: appended to, by bytes and by strings; read, stored into.
-/
namespace Go.Proofs.Yteopmaaghhendaa
open Go.RowKit
set_option linter.unusedVariables false

/-- The bytes l in a row of its own, from block B on (or nil). -/
def OwB (w : World) (B : Nat) (v : Value) (l : List UInt8) : Prop := w.ownsRow B 5 1 v (l.map bv).length (l.map bv)
section
variable {w w' : World} {B : Nat} {v : Value} {l : List UInt8}
theorem OwB.nil (w : World) (B : Nat) : OwB w B (.slice none 0 0) [] := World.ownsRow_nil w B 5 1
theorem OwB.bs (h : OwB w B v l) : Bs w v l := Rd.of_own h
theorem OwB.lt (h : OwB w B v l) {k : Nat} (hk : v.ownBlock = some k) : k < w.heap.size := by
  rcases h.2 with ⟨rfl, _⟩ | ⟨g, cap, cur, rfl, hg, hh, rest⟩
  · simp [Value.ownBlock] at hk
  · simp only [Value.ownBlock, Option.some.injEq] at hk
    subst hk
    exact (Array.getElem?_eq_some_iff.1 hh).1
theorem OwB.ge (h : OwB w B v l) {k : Nat} (hk : v.ownBlock = some k) : B ≤ k := by
  rcases h.2 with ⟨rfl, _⟩ | ⟨g, cap, cur, rfl, hg, hh, rest⟩
  · simp [Value.ownBlock] at hk
  · simp only [Value.ownBlock, Option.some.injEq] at hk
    subst hk
    exact hg
theorem OwB.kept (h : OwB w B v l) (hb : ∀ k, v.ownBlock = some k → w'.heap[k]? = w.heap[k]?) : OwB w' B v l := by
  refine ⟨h.1, ?_⟩
  rcases h.2 with h0 | ⟨g, cap, cur, rfl, hg, hh, rest⟩
  · exact .inl h0
  · exact .inr ⟨g, cap, cur, rfl, hg, by rw [hb g rfl]; exact hh, rest⟩
theorem OwB.keep (h : OwB w B v l) (hb : Below w.heap.size w w') : OwB w' B v l := h.kept fun k hk => hb.block k (h.lt hk)
theorem OwB.alloc (h : OwB w B v l) (o : Obj) : OwB (w.alloc o) B v l := h.keep ((Below.refl _ _).alloc (Nat.le_refl _) o)
theorem OwB.drew (h : OwB w B v l) : OwB w.drew B v l := h.keep (Below.refl _ _).drew
theorem OwB.mono {B' : Nat} (h : OwB w B v l) (hB : B' ≤ B) : OwB w B' v l := by
  refine ⟨h.1, h.2.imp id ?_⟩
  rintro ⟨g, cap, cur, a, b, c⟩
  exact ⟨g, cap, cur, a, by omega, c⟩
/-- A block of another type is another block. -/
theorem OwB.ne (h : OwB w B v l) {g : Nat} {t : TypeId} {n : Nat} {F : Nat → Value} (hr : w.rowIs g t n F) (ht : t ≠ 5) : v.ownBlock ≠ some g := by
  intro e
  obtain ⟨c, hc, _⟩ := hr
  rcases h.2 with ⟨rfl, _⟩ | ⟨g', cap, cur, rfl, hg, hh, rest⟩
  · simp [Value.ownBlock] at e
  · simp only [Value.ownBlock, Option.some.injEq] at e
    subst e
    rw [hc] at hh
    injection hh with hh
    injection hh with _ h2 _
    exact ht h2
theorem OwB.snoc {n : Int} {x : Value} (h : w.ownsRow B 5 1 x (l.map bv ++ #[Value.int .u8 n].toList).length (l.map bv ++ #[Value.int .u8 n].toList)) (b : UInt8) (hb : n = (b.toNat : Int)) : OwB w B x (l ++ [b]) := by
  unfold OwB
  rw [List.map_append, List.map_cons, List.map_nil]
  subst hb
  exact h
theorem OwB.str {n : Nat} {x : Value} {s : ByteArray} (h : w.ownsRow B 5 1 x n (l.map bv ++ Lib.strCells s)) : OwB w B x (l ++ s.data.toList) := by
  have e : l.map bv ++ Lib.strCells s = (l ++ s.data.toList).map bv := by rw [List.map_append]; rfl
  rw [e] at h
  have hn : n = ((l ++ s.data.toList).map bv).length := by have := h.1; omega
  subst hn
  exact h
end
section
variable {P : Program} (w : World)
/-- An append to a row of its own: a row of its own; what else stood stands. -/
theorem run_append_og (B : Nat) (t ty e : TypeId) (i : TypeInfo) (z : Value) (bytes : Nat) (ht : P.underlying t = some (.slice e)) (hi : P.info? e = some i) (hz : i.zero = some z)
    (hsize : i.size = 1) (hby : i.bytes = bytes) (hzs : z.cells.size = 1)
    (v u : Value) (xs news : List Value) (hv : w.ownsRow B e 1 v xs.length xs) (hu : Rd w u news) (h1 : ∀ x ∈ news, x.oneCell' = true)
    (hbytes : (xs.length + news.length) * bytes ≤ 140737488355328) (hmax : xs.length + news.length ≤ maxLen) (hB : B ≤ w.heap.size) :
    ∃ v' w', (Builtin.append_ #[t, t] ty #[v, u]).run P w = .ok v' w' ∧ w'.ownsRow B e 1 v' (xs ++ news).length (xs ++ news) ∧ Below B w w' ∧ w.grownBy w' v.ownBlock := by
  obtain ⟨Au, c, rfl, c1, c2, c3⟩ := hu
  rcases c3 with ⟨rfl, rfl⟩ | ⟨x, rfl, hc⟩
  · obtain rfl : news = [] := List.eq_nil_of_length_eq_zero (by omega)
    exact ⟨v, w, run_append_owned_none w B t ty e i 1 ht hi v _ xs hv, by rw [List.append_nil]; exact hv, Below.refl _ _, ⟨rfl, rfl, rfl, Nat.le_refl _, fun _ _ _ => rfl⟩⟩
  · obtain ⟨v', w', hrun, r1, r2, _⟩ := run_append_own (P := P) w B t ty e i z 1 bytes ht hi hz hsize hby hzs (by omega) v _ xs hv x _ c news (by omega) hc h1 hmax hbytes hB
    refine ⟨v', w', hrun, by rw [List.length_append]; exact r1, (Below.refl _ _).grown r2 hB ?_, r2⟩
    intro k hk
    exact (hv.lt k hk).1
theorem wp_append_og {o : Oper} {a : Act} {K : Act → World → Prop} {Q : Exit → Act → World → Prop} (s x : Operand) (t : TypeId)
    (ho : o.op = .call { callee := .builtin .append, args := #[s, x], argTypes := #[t, t] })
    (B : Nat) (e : TypeId) (i : TypeInfo) (z : Value) (bytes : Nat) (ht : P.underlying t = some (.slice e)) (hi : P.info? e = some i) (hz : i.zero = some z)
    (hsize : i.size = 1) (hby : i.bytes = bytes) (hzs : z.cells.size = 1)
    (v u : Value) (xs news : List Value) (hs : a.eval s = v) (hx : a.eval x = u) (hv : w.ownsRow B e 1 v xs.length xs) (hu : Rd w u news) (h1 : ∀ x ∈ news, x.oneCell' = true)
    (hbytes : (xs.length + news.length) * bytes ≤ 140737488355328) (hmax : xs.length + news.length ≤ maxLen) (hB : B ≤ w.heap.size)
    (h : ∀ v' w', w'.ownsRow B e 1 v' (xs ++ news).length (xs ++ news) → Below B w w' → w.grownBy w' v.ownBlock → K (a.put o.dst v') w') : o.wp P a w K Q := by
  obtain ⟨v', w', hr, h2, h3, h4⟩ := run_append_og (P := P) w B t o.type e i z bytes ht hi hz hsize hby hzs v u xs news hv hu h1 hbytes hmax hB
  unfold Oper.wp execOp
  simp only [ho, resolve, invoke, builtin, Sem.run_bind, Sem.run_pure, Result.andThen_ok, List.map_toArray, List.map_cons, List.map_nil, hs, hx, hr]
  exact h v' w' h2 h3 h4
theorem wpList_append_og {ops : Array Oper} {rest : List Oper} {o : Oper} {a : Act} {Q : Exit → Act → World → Prop} (hgd : o.guard = none) (s x : Operand) (t : TypeId)
    (ho : o.op = .call { callee := .builtin .append, args := #[s, x], argTypes := #[t, t] })
    (B : Nat) (e : TypeId) (i : TypeInfo) (z : Value) (bytes : Nat) (ht : P.underlying t = some (.slice e)) (hi : P.info? e = some i) (hz : i.zero = some z)
    (hsize : i.size = 1) (hby : i.bytes = bytes) (hzs : z.cells.size = 1)
    (v u : Value) (xs news : List Value) (hs : a.eval s = v) (hx : a.eval x = u) (hv : w.ownsRow B e 1 v xs.length xs) (hu : Rd w u news) (h1 : ∀ x ∈ news, x.oneCell' = true)
    (hbytes : (xs.length + news.length) * bytes ≤ 140737488355328) (hmax : xs.length + news.length ≤ maxLen) (hB : B ≤ w.heap.size)
    (h : ∀ v' w', w'.ownsRow B e 1 v' (xs ++ news).length (xs ++ news) → Below B w w' → w.grownBy w' v.ownBlock → wpList P ops Q rest (a.put o.dst v') w') : wpList P ops Q (o :: rest) a w :=
  wpList_plain hgd fun _ hK => wp_append_og w s x t ho B e i z bytes ht hi hz hsize hby hzs v u xs news hs hx hv hu h1 hbytes hmax hB fun v' w' h2 h3 h4 => hK _ _ (h v' w' h2 h3 h4)
end
theorem step_append_og {P : Program} {ops : Array Oper} {o : Oper} {a : Act} {w : World} {K : Act → World → Prop} {Q : Exit → Act → World → Prop} {E : Prop}
    (hgd : o.guard = none) (s x : Operand) (t : TypeId)
    (ho : o.op = .call { callee := .builtin .append, args := #[s, x], argTypes := #[t, t] })
    (B : Nat) (e : TypeId) (i : TypeInfo) (z : Value) (bytes : Nat) (ht : P.underlying t = some (.slice e)) (hi : P.info? e = some i) (hz : i.zero = some z)
    (hsize : i.size = 1) (hby : i.bytes = bytes) (hzs : z.cells.size = 1)
    (v u : Value) (xs news : List Value) (hs : a.eval s = v) (hx : a.eval x = u) (hv : w.ownsRow B e 1 v xs.length xs) (hu : Rd w u news) (h1 : ∀ x ∈ news, x.oneCell' = true)
    (hbytes : (xs.length + news.length) * bytes ≤ 140737488355328) (hmax : xs.length + news.length ≤ maxLen) (hB : B ≤ w.heap.size)
    (h : ∀ v' w', w'.ownsRow B e 1 v' (xs ++ news).length (xs ++ news) → Below B w w' → w.grownBy w' v.ownBlock → K (a.put o.dst v') w') : if Region.wanted o (yielded ops a.tmps) = true then Oper.wp P o a w K Q else E := by
  rw [if_pos (by simp [Region.wanted, hgd])]
  exact wp_append_og w s x t ho B e i z bytes ht hi hz hsize hby hzs v u xs news hs hx hv hu h1 hbytes hmax hB h

end Go.Proofs.Yteopmaaghhendaa

/-
  Contracts of qtab.EncodeCount, and of the document's EncodeCount, Relative, Post.
-/
namespace Go.Proofs.Yteopmaaghhendaa
open Go.RowKit
set_option linter.unusedVariables false

theorem refEncodeCount_any (a : Nat) (cap : Int) (ha : a < 18446744073709551616) (hc : cap < 9223372036854775808) (w : World) :
    Calls Try.prog 47 #[.int .u64 a, .int .i64 cap] w fun e w' => e = .returned (.int .u64 (ecN a (mostN cap))) ∧ w = w' := by
  have HC := Bx.mk (refMost_any cap hc)
  have hm := mostN_lt hc
  generalize mostN cap = m at *
  rcases Nat.eq_zero_or_pos a with rfl | h
  · have hs : ecN 0 m = 0 := by unfold ecN; rw [if_pos (.inl rfl)]
    rw [hs]
    obtain ⟨M, hM⟩ := letter m
    obtain ⟨W, hW⟩ := letter (2 * m)
    simp only [hM] at HC
    have hmul : IntKind.u64.wrap (2 * M) = W := by rw [show 2 * M = W from by omega]; exact u64_keep (by omega) (by omega)
    clear hs hM hW hm ha hc
    go_enter Try.func47, Try.ntmps47
    go_wp2_with (go_at_call 66; refine (HC.out _).mono ?_; rintro e w' ⟨rfl, rfl⟩)
    go_ret
    exact ⟨rfl, rfl⟩
  rcases Nat.eq_zero_or_pos m with rfl | h'
  · have hs : ecN a 0 = 0 := by unfold ecN; rw [if_pos (.inr rfl)]
    rw [hs]
    obtain ⟨A, hA⟩ := letter a
    simp only [hA]
    have h1 : (A == 0) = false := by rw [beq_eq_false_iff_ne]; omega
    clear hs hA hm ha hc h
    go_enter Try.func47, Try.ntmps47
    go_wp2_with (go_at_call 66; refine (HC.out _).mono ?_; rintro e w' ⟨rfl, rfl⟩)
    go_ret
    exact ⟨rfl, rfl⟩
  · have hs : ecN a m = a % (2 * m) + 1 := by unfold ecN; rw [if_neg (by omega)]
    rw [hs]
    obtain ⟨A, hA⟩ := letter a
    obtain ⟨M, hM⟩ := letter m
    obtain ⟨W, hW⟩ := letter (2 * m)
    obtain ⟨R, hR⟩ := letter (a % (2 * m))
    obtain ⟨E, hE⟩ := letter (a % (2 * m) + 1)
    simp only [hA, hE, hM] at HC ⊢
    have hlt := Nat.mod_lt a (show 0 < 2 * m by omega)
    have hW2 : ((2:Nat):Int) * M = W := by rw [← hM, ← hW]; exact (Int.natCast_mul 2 m).symm
    have hmul : IntKind.u64.wrap (2 * M) = W := by rw [show 2 * M = W from by omega]; exact u64_keep (by omega) (by omega)
    have h1 : (A == 0) = false := by rw [beq_eq_false_iff_ne]; omega
    have h2 : (W == 0) = false := by rw [beq_eq_false_iff_ne]; omega
    have h3 : (M == 0) = false := by rw [beq_eq_false_iff_ne]; omega
    have h4 : ¬ W = 0 := by omega
    have hrem : A.tmod W = R := by rw [← hA, ← hW, ← hR]; exact Int.ofNat_tmod a (2 * m)
    have hwr : IntKind.u64.wrap R = R := u64_keep (by omega) (by omega)
    have hadd : IntKind.u64.wrap (R + 1) = E := by rw [show R + 1 = E from by omega]; exact u64_keep (by omega) (by omega)
    clear hs hA hM hW hR hE hlt hW2 hm ha hc h h'
    go_enter Try.func47, Try.ntmps47
    go_wp2_with (go_at_call 66; refine (HC.out _).mono ?_; rintro e w' ⟨rfl, rfl⟩)
    go_ret
    exact ⟨rfl, rfl⟩

end Go.Proofs.Yteopmaaghhendaa

/-
  Contracts of qtab.DecodeCount and of the document's DecodeCount.
-/
namespace Go.Proofs.Yteopmaaghhendaa
open Go.RowKit
set_option linter.unusedVariables false

/-- How far a rest's number is ahead of a total. -/
def ahN (e t m : Nat) : Nat := (2 * m + e - 1 - t % (2 * m)) % (2 * m)

theorem dc_zero (t m : Nat) : dcN 0 t m = some 0 := by unfold dcN; rw [if_pos rfl]
theorem dc_out {e m : Nat} (t : Nat) (h : 2 * m < e) : dcN e t m = none := dcN_far h
theorem dc_in {e t m : Nat} (h0 : 0 < e) (h1 : e ≤ 2 * m) :
    ahN e t m < 2 * m ∧ dcN e t m = if m < ahN e t m then (if t + ahN e t m ≤ 2 * m then none else some (t + ahN e t m - 2 * m)) else (if t + ahN e t m = 0 then none else some (t + ahN e t m)) := by
  have hp : 0 < 2 * m := by omega
  have e1 := Nat.div_add_mod t (2 * m)
  have m1 := Nat.mod_lt t hp
  have e2 := Nat.div_add_mod (t + m) (2 * m)
  have m2 := Nat.mod_lt (t + m) hp
  have l1 : t / (2 * m) ≤ (t + m) / (2 * m) := Nat.div_le_div_right (by omega)
  have l2 : (t + m) / (2 * m) ≤ t / (2 * m) + 1 := by
    have := Nat.div_le_div_right (c := 2 * m) (show t + m ≤ t + 2 * m by omega)
    rwa [Nat.add_div_right _ hp] at this
  refine ⟨Nat.mod_lt _ hp, ?_⟩
  have hah : ahN e t m = if t % (2 * m) ≤ e - 1 then e - 1 - t % (2 * m) else 2 * m + e - 1 - t % (2 * m) := by
    unfold ahN
    generalize t % (2 * m) = u at *
    by_cases h : u ≤ e - 1
    · rw [if_pos h, show 2 * m + e - 1 - u = (e - 1 - u) + 2 * m by omega, Nat.add_mod_right, Nat.mod_eq_of_lt (by omega)]
    · rw [if_neg h, Nat.mod_eq_of_lt (by omega)]
  rw [hah]
  unfold dcN
  rw [if_neg (by omega), if_neg (by omega)]
  clear hah
  generalize t % (2 * m) = u at *
  generalize (t + m) % (2 * m) = u2 at *
  generalize t / (2 * m) = q at *
  generalize (t + m) / (2 * m) = q2 at *
  rcases (by omega : q2 = q ∨ q2 = q + 1) with rfl | rfl
  · rw [Nat.mul_comm q2 (2 * m)] at *
    generalize 2 * m * q2 = p at *
    (repeat' split) <;> first | rfl | (exact congrArg some (by omega)) | (exfalso; omega)
  · rw [Nat.mul_comm (q + 1) (2 * m)] at *
    rw [Nat.mul_succ] at *
    generalize 2 * m * q = p at *
    (repeat' split) <;> first | rfl | (exact congrArg some (by omega)) | (exfalso; omega)

/-- A count, or the error of a place. -/
def Dec : Option Nat → Ending
  | some n => .returned (.tuple #[.int .u64 (n : Int), .int .i64 0])
  | none => .returned (.tuple #[.int .u64 0, .int .i64 24])
theorem Dec_some (n : Nat) : Dec (some n) = .returned (.tuple #[.int .u64 (n : Int), .int .i64 0]) := rfl
theorem Dec_none : Dec none = .returned (.tuple #[.int .u64 0, .int .i64 24]) := rfl

theorem decodeCount_any (e t : Nat) (cap : Int) (he : e < 18446744073709551616) (ht : t < 4611686018427387904) (hc : cap < 9223372036854775808) (w : World) :
    Calls Try.prog 58 #[.int .u64 e, .int .u64 t, .int .i64 cap] w fun e' w' => e' = Dec (dcN e t (mostN cap)) ∧ w = w' := by
  have HC := Bx.mk (most_any cap hc)
  have hm := mostN_lt hc
  generalize mostN cap = m at *
  rcases Nat.eq_zero_or_pos e with rfl | h
  · rw [dc_zero, Dec_some]
    obtain ⟨T, hT⟩ := letter t
    rw [hT]
    clear hT hm ht hc HC
    go_enter Try.func58, Try.ntmps58
    go_wp2
    go_ret2
    exact ⟨rfl, rfl⟩
  rcases Nat.lt_or_ge (2 * m) e with h' | h'
  · rw [dc_out t h', Dec_none]
    obtain ⟨E, hE⟩ := letter e
    obtain ⟨T, hT⟩ := letter t
    obtain ⟨M, hM⟩ := letter m
    obtain ⟨W, hW⟩ := letter (2 * m)
    simp only [hM] at HC
    simp only [hE, hT]
    have h1 : (E == 0) = false := by rw [beq_eq_false_iff_ne]; omega
    have h2 : decide (W < E) = true := by rw [decide_eq_true_iff]; omega
    have hmul : IntKind.u64.wrap (2 * M) = W := by rw [show 2 * M = W from by omega]; exact u64_keep (by omega) (by omega)
    clear hE hT hM hW hm ht he hc h h'
    go_enter Try.func58, Try.ntmps58
    go_wp2_with (go_at_call 77; refine (HC.out _).mono ?_; rintro e w' ⟨rfl, rfl⟩)
    go_ret2
    exact ⟨rfl, rfl⟩
  rw [(dc_in (t := t) h h').2]
  rcases Nat.lt_or_ge m (ahN e t m) with h3 | h3
  · rw [if_pos h3]
    have hah := (dc_in (t := t) h h').1
    obtain ⟨E, hE⟩ := letter e
    obtain ⟨T, hT⟩ := letter t
    obtain ⟨M, hM⟩ := letter m
    obtain ⟨W, hW⟩ := letter (2 * m)
    obtain ⟨U, hU⟩ := letter (t % (2 * m))
    obtain ⟨X1, hX1⟩ := letter (2 * m + e)
    obtain ⟨X2, hX2⟩ := letter (2 * m + e - 1)
    obtain ⟨X3, hX3⟩ := letter (2 * m + e - 1 - t % (2 * m))
    obtain ⟨AH, hAH⟩ := letter (ahN e t m)
    have hlt := Nat.mod_lt t (show 0 < 2 * m by omega)
    have h1 : (E == 0) = false := by rw [beq_eq_false_iff_ne]; omega
    have h2 : decide (W < E) = false := by rw [decide_eq_false_iff_not]; omega
    have h4 : ¬ W = 0 := by omega
    have hmul : IntKind.u64.wrap (2 * M) = W := by rw [show 2 * M = W from by omega]; exact u64_keep (by omega) (by omega)
    have hx1 : IntKind.u64.wrap (W + E) = X1 := by rw [show W + E = X1 from by omega]; exact u64_keep (by omega) (by omega)
    have hx2 : IntKind.u64.wrap (X1 - 1) = X2 := by rw [show X1 - 1 = X2 from by omega]; exact u64_keep (by omega) (by omega)
    have hrem : T.tmod W = U := by rw [← hT, ← hW, ← hU]; exact Int.ofNat_tmod t (2 * m)
    have hwu : IntKind.u64.wrap U = U := u64_keep (by omega) (by omega)
    have hx3 : IntKind.u64.wrap (X2 - U) = X3 := by rw [show X2 - U = X3 from by omega]; exact u64_keep (by omega) (by omega)
    have hrem2 : X3.tmod W = AH := by rw [← hX3, ← hW, ← hAH]; exact Int.ofNat_tmod _ (2 * m)
    have hwa : IntKind.u64.wrap AH = AH := u64_keep (by omega) (by omega)
    have hs := sum_any t (ahN e t m) 18446744073709551615 (by omega) (by omega) (by omega)
    obtain ⟨Q, hQ⟩ := letter 18446744073709551615
    rw [show sumN t (ahN e t m) 18446744073709551615 = some (t + ahN e t m) from by unfold sumN; rw [if_pos (by omega)], Opt_some] at hs
    obtain ⟨S, hS⟩ := letter (t + ahN e t m)
    simp only [hM] at HC
    simp only [hT, hAH, hQ, hS] at hs
    obtain rfl : Q = 18446744073709551615 := by omega
    have HS := Bx.mk hs
    simp only [hE, hT]
    have h5 : decide (M < AH) = true := by rw [decide_eq_true_iff]; omega
    obtain ⟨Y, hY⟩ := letter (2 * m - ahN e t m)
    have hy : IntKind.u64.wrap (W - AH) = Y := by rw [show W - AH = Y from by omega]; exact u64_keep (by omega) (by omega)
    have hl := less_any t (2 * m - ahN e t m) (by omega)
    by_cases h6 : t < 2 * m - ahN e t m
    · rw [if_pos (by omega), Dec_none]
      rw [show subN t (2 * m - ahN e t m) = none from by unfold subN; rw [if_neg (by omega)], Opt_none] at hl
      simp only [hT, hY] at hl
      have HL := Bx.mk hl
      clear hs hE hT hM hW hU hX1 hX2 hX3 hAH hlt hah ht he hc hm h h' hS hQ h3 h6 hl hY
      go_enter Try.func58, Try.ntmps58
      go_wp2_with (first | (go_at_call 77; refine (HC.out _).mono ?_; rintro e w' ⟨rfl, rfl⟩) | (go_at_call 78; refine (HS.out _).mono ?_; rintro e w' ⟨rfl, rfl⟩) | (go_at_call 79; refine (HL.out _).mono ?_; rintro e w' ⟨rfl, rfl⟩))
      go_ret2
      exact ⟨rfl, rfl⟩
    · obtain ⟨D, hD⟩ := letter (t + ahN e t m - 2 * m)
      rw [show subN t (2 * m - ahN e t m) = some (t + ahN e t m - 2 * m) from by unfold subN; rw [if_pos (by omega)]; exact congrArg some (by omega), Opt_some] at hl
      simp only [hT, hY, hD] at hl
      have HL := Bx.mk hl
      by_cases h7 : t + ahN e t m ≤ 2 * m
      · rw [if_pos h7, Dec_none]
        obtain rfl : D = 0 := by omega
        clear hs hE hT hM hW hU hX1 hX2 hX3 hAH hlt hah ht he hc hm h h' hS hQ h3 h6 h7 hl hY hD
        go_enter Try.func58, Try.ntmps58
        go_wp2_with (first | (go_at_call 77; refine (HC.out _).mono ?_; rintro e w' ⟨rfl, rfl⟩) | (go_at_call 78; refine (HS.out _).mono ?_; rintro e w' ⟨rfl, rfl⟩) | (go_at_call 79; refine (HL.out _).mono ?_; rintro e w' ⟨rfl, rfl⟩))
        go_ret2
        exact ⟨rfl, rfl⟩
      · rw [if_neg h7, Dec_some, hD]
        have h8 : (D == 0) = false := by rw [beq_eq_false_iff_ne]; omega
        clear hs hE hT hM hW hU hX1 hX2 hX3 hAH hlt hah ht he hc hm h h' hS hQ h3 h6 h7 hl hY hD
        go_enter Try.func58, Try.ntmps58
        go_wp2_with (first | (go_at_call 77; refine (HC.out _).mono ?_; rintro e w' ⟨rfl, rfl⟩) | (go_at_call 78; refine (HS.out _).mono ?_; rintro e w' ⟨rfl, rfl⟩) | (go_at_call 79; refine (HL.out _).mono ?_; rintro e w' ⟨rfl, rfl⟩))
        go_ret2
        exact ⟨rfl, rfl⟩
  · rw [if_neg (by omega)]
    have hah := (dc_in (t := t) h h').1
    obtain ⟨E, hE⟩ := letter e
    obtain ⟨T, hT⟩ := letter t
    obtain ⟨M, hM⟩ := letter m
    obtain ⟨W, hW⟩ := letter (2 * m)
    obtain ⟨U, hU⟩ := letter (t % (2 * m))
    obtain ⟨X1, hX1⟩ := letter (2 * m + e)
    obtain ⟨X2, hX2⟩ := letter (2 * m + e - 1)
    obtain ⟨X3, hX3⟩ := letter (2 * m + e - 1 - t % (2 * m))
    obtain ⟨AH, hAH⟩ := letter (ahN e t m)
    have hlt := Nat.mod_lt t (show 0 < 2 * m by omega)
    have h1 : (E == 0) = false := by rw [beq_eq_false_iff_ne]; omega
    have h2 : decide (W < E) = false := by rw [decide_eq_false_iff_not]; omega
    have h4 : ¬ W = 0 := by omega
    have hmul : IntKind.u64.wrap (2 * M) = W := by rw [show 2 * M = W from by omega]; exact u64_keep (by omega) (by omega)
    have hx1 : IntKind.u64.wrap (W + E) = X1 := by rw [show W + E = X1 from by omega]; exact u64_keep (by omega) (by omega)
    have hx2 : IntKind.u64.wrap (X1 - 1) = X2 := by rw [show X1 - 1 = X2 from by omega]; exact u64_keep (by omega) (by omega)
    have hrem : T.tmod W = U := by rw [← hT, ← hW, ← hU]; exact Int.ofNat_tmod t (2 * m)
    have hwu : IntKind.u64.wrap U = U := u64_keep (by omega) (by omega)
    have hx3 : IntKind.u64.wrap (X2 - U) = X3 := by rw [show X2 - U = X3 from by omega]; exact u64_keep (by omega) (by omega)
    have hrem2 : X3.tmod W = AH := by rw [← hX3, ← hW, ← hAH]; exact Int.ofNat_tmod _ (2 * m)
    have hwa : IntKind.u64.wrap AH = AH := u64_keep (by omega) (by omega)
    have hs := sum_any t (ahN e t m) 18446744073709551615 (by omega) (by omega) (by omega)
    obtain ⟨Q, hQ⟩ := letter 18446744073709551615
    rw [show sumN t (ahN e t m) 18446744073709551615 = some (t + ahN e t m) from by unfold sumN; rw [if_pos (by omega)], Opt_some] at hs
    obtain ⟨S, hS⟩ := letter (t + ahN e t m)
    simp only [hM] at HC
    simp only [hT, hAH, hQ, hS] at hs
    obtain rfl : Q = 18446744073709551615 := by omega
    have HS := Bx.mk hs
    simp only [hE, hT]
    have h5 : decide (M < AH) = false := by rw [decide_eq_false_iff_not]; omega
    by_cases h7 : t + ahN e t m = 0
    · rw [if_pos h7, Dec_none]
      obtain rfl : S = 0 := by omega
      clear hs hE hT hM hW hU hX1 hX2 hX3 hAH hlt hah ht he hc hm h h' hS hQ h3 h7
      go_enter Try.func58, Try.ntmps58
      go_wp2_with (first | (go_at_call 77; refine (HC.out _).mono ?_; rintro e w' ⟨rfl, rfl⟩) | (go_at_call 78; refine (HS.out _).mono ?_; rintro e w' ⟨rfl, rfl⟩) | (go_at_call 79; refine (HL.out _).mono ?_; rintro e w' ⟨rfl, rfl⟩))
      go_ret2
      exact ⟨rfl, rfl⟩
    · rw [if_neg h7, Dec_some, hS]
      have h8 : (S == 0) = false := by rw [beq_eq_false_iff_ne]; omega
      clear hs hE hT hM hW hU hX1 hX2 hX3 hAH hlt hah ht he hc hm h h' hS hQ h3 h7
      go_enter Try.func58, Try.ntmps58
      go_wp2_with (first | (go_at_call 77; refine (HC.out _).mono ?_; rintro e w' ⟨rfl, rfl⟩) | (go_at_call 78; refine (HS.out _).mono ?_; rintro e w' ⟨rfl, rfl⟩) | (go_at_call 79; refine (HL.out _).mono ?_; rintro e w' ⟨rfl, rfl⟩))
      go_ret2
      exact ⟨rfl, rfl⟩


end Go.Proofs.Yteopmaaghhendaa

/-
  Contract of the document's DecodeCount.
-/
namespace Go.Proofs.Yteopmaaghhendaa
open Go.RowKit
set_option linter.unusedVariables false

end Go.Proofs.Yteopmaaghhendaa

/-
  What is no row of bytes stands, whatever is appended to a row of bytes.
-/
namespace Go.Proofs.Yteopmaaghhendaa
open Go.RowKit
set_option linter.unusedVariables false

/-- Blocks that are no rows of bytes stand. -/
def NonB (w w' : World) : Prop := ∀ (k : Nat) (o : Obj), w.heap[k]? = some o → (∀ (c : Array Value) (z : Nat × Nat), o ≠ Obj.cells c 5 z) → w'.heap[k]? = some o
theorem NonB.refl (w : World) : NonB w w := fun _ _ h _ => h
theorem NonB.trans {a b c : World} (h : NonB a b) (k : NonB b c) : NonB a c := fun i o hi ho => k i o (h i o hi ho) ho
theorem NonB.of_below {w w' : World} (h : Below w.heap.size w w') : NonB w w' := fun k o hk _ => by rw [h.block k (Array.getElem?_eq_some_iff.1 hk).1]; exact hk
theorem NonB.alloc (w : World) (o : Obj) : NonB w (w.alloc o) := NonB.of_below ((Below.refl _ _).alloc (Nat.le_refl _) o)
theorem NonB.drew (w : World) : NonB w w.drew := NonB.of_below (Below.refl _ _).drew
theorem OwB.nonB {w w' : World} {B : Nat} {v : Value} {l : List UInt8} (h : OwB w B v l) (hg : w.grownBy w' v.ownBlock) : NonB w w' := fun k o hk ho => by
  rw [hg.block k (Array.getElem?_eq_some_iff.1 hk).1 (fun e => ?_)]
  · exact hk
  · rcases h.2 with ⟨rfl, _⟩ | ⟨g, cap, cur, rfl, _, hh, _⟩
    · simp [Value.ownBlock] at e
    · simp only [Value.ownBlock, Option.some.injEq] at e
      subst e
      rw [hk] at hh
      injection hh with hh
      exact ho _ _ hh
end Go.Proofs.Yteopmaaghhendaa

/-
  Words of what stands in memory, by the blocks that they hold: side by side, behind a head block; what a call does to one of several. No type of the program is named here.
-/
namespace Go.Proofs.Yteopmaaghhendaa
open Go.RowKit
set_option linter.unusedVariables false

theorem below_next {wA W w' : World} (h : Below wA.heap.size wA W) (hb : Below W.heap.size W w') : Below wA.heap.size wA w' := h.trans (hb.mono h.size)
theorem Fp.up {B : Nat} {w w' : World} (h : Below B w w') : Fp (fun k => B ≤ k) w w' := ⟨h.os, h.tape, h.output, h.size, fun k _ hn => h.block k (Nat.lt_of_not_le hn)⟩
theorem OwB.cat {w : World} {B : Nat} {x : Value} {l m : List UInt8} (h : w.ownsRow B 5 1 x (l.map bv ++ m.map bv).length (l.map bv ++ m.map bv)) : OwB w B x (l ++ m) := by
  unfold OwB
  rw [List.map_append]
  exact h
/-- A word: what stands, and a set of blocks that holds all of it. -/
abbrev Wx := World → (Nat → Prop) → Prop
/-- The word tells of its blocks alone. -/
structure Wd (X : Wx) : Prop where
  lt : ∀ {w : World} {S : Nat → Prop}, X w S → ∀ k, S k → k < w.heap.size
  kept : ∀ {w w' : World} {S : Nat → Prop}, X w S → w.heap.size ≤ w'.heap.size → (∀ k, S k → w'.heap[k]? = w.heap[k]?) → X w' S
section
variable {X X' Y Y' : Wx} {w w' : World} {S S' : Nat → Prop} {B : Nat}
theorem Wd.keep (hX : Wd X) (h : X w S) (hb : Below w.heap.size w w') : X w' S := hX.kept h hb.size fun k hk => hb.block k (hX.lt h k hk)
theorem Wd.besides (hX : Wd X) (h : X w S) (hf : Fp S' w w') (hd : ∀ k, S k → ¬ S' k) : X w' S := hX.kept h hf.size fun k hk => hf.block k (hX.lt h k hk) (hd k hk)
theorem Wd.turned (hX : Wd X) (h : X w S) (hb : Below w.heap.size w w') : Turn X S w w' := ⟨S, hX.keep h hb, fun k hk => .inl hk, Fp.of_below hb⟩

theorem Wd.after (hX : Wd X) {a b c : World} (ht : Turn X S a b) (hb : Below b.heap.size b c) : Turn X S a c := by
  obtain ⟨S', x, s, f⟩ := ht
  exact ⟨S', hX.keep x hb, s, f.then (Fp.of_below hb)⟩
theorem Turn.before {a b c : World} (hb : Below a.heap.size a b) (ht : Turn X S b c) : Turn X S a c := Turn.step (fun k hk => .inl hk) (Fp.of_below hb) ht
/-- Both, apart from one another. -/
def Both (X Y : Wx) : Wx := fun w S => ∃ S1 S2, X w S1 ∧ Y w S2 ∧ (∀ k, S1 k → ¬ S2 k) ∧ ∀ k, S k ↔ S1 k ∨ S2 k
theorem Wd.both (hX : Wd X) (hY : Wd Y) : Wd (Both X Y) := by
  constructor
  · rintro w S ⟨S1, S2, h1, h2, h3, h4⟩ k hk
    rcases (h4 k).1 hk with h | h
    · exact hX.lt h1 k h
    · exact hY.lt h2 k h
  · rintro w w' S ⟨S1, S2, h1, h2, h3, h4⟩ hs hb
    exact ⟨S1, S2, hX.kept h1 hs fun k hk => hb k ((h4 k).2 (.inl hk)), hY.kept h2 hs fun k hk => hb k ((h4 k).2 (.inr hk)), h3, h4⟩
theorem Both.swap (h : Both X Y w S) : Both Y X w S := by
  obtain ⟨S1, S2, h1, h2, h3, h4⟩ := h
  exact ⟨S2, S1, h2, h1, fun k a b => h3 k b a, fun k => (h4 k).trans Or.comm⟩
/-- The first one turns. -/
theorem Both.left (hY : Wd Y) {S1 S2 : Nat → Prop} (h2 : Y w S2) (h3 : ∀ k, S1 k → ¬ S2 k) (h4 : ∀ k, S k ↔ S1 k ∨ S2 k) (ht : Turn X' S1 w w') : Turn (Both X' Y) S w w' := by
  obtain ⟨S', x, s, f⟩ := ht
  refine ⟨fun k => S' k ∨ S2 k, ⟨S', S2, x, hY.besides h2 f (fun k hk hs => h3 k hs hk), fun k hk hs => ?_, fun k => Iff.rfl⟩, fun k hk => ?_, f.mono fun k hk => (h4 k).2 (.inl hk)⟩
  · rcases s k hk with h | h
    · exact h3 k h hs
    · have := hY.lt h2 k hs; omega
  · rcases hk with hk | hk
    · rcases s k hk with h | h
      · exact .inl ((h4 k).2 (.inl h))
      · exact .inr h
    · exact .inl ((h4 k).2 (.inr hk))
theorem Both.right (hX : Wd X) {S1 S2 : Nat → Prop} (h1 : X w S1) (h3 : ∀ k, S1 k → ¬ S2 k) (h4 : ∀ k, S k ↔ S1 k ∨ S2 k) (ht : Turn Y' S2 w w') : Turn (Both X Y') S w w' := by
  obtain ⟨S', x, s, f⟩ := Both.left hX h1 (fun k a b => h3 k b a) (fun k => (h4 k).trans Or.comm) ht
  exact ⟨S', x.swap, s, f⟩
theorem Both.fst (h : Both X Y w S) : ∃ S1, X w S1 ∧ ∀ k, S1 k → S k := by
  obtain ⟨S1, S2, h1, h2, h3, h4⟩ := h
  exact ⟨S1, h1, fun k hk => (h4 k).2 (.inl hk)⟩
theorem Both.snd (h : Both X Y w S) : ∃ S2, Y w S2 ∧ ∀ k, S2 k → S k := by
  obtain ⟨S1, S2, h1, h2, h3, h4⟩ := h
  exact ⟨S2, h2, fun k hk => (h4 k).2 (.inr hk)⟩

/-- A head block q of n cells, and what it holds. -/
def Hd (q : Nat) (ty : TypeId) (n : Nat) (F : Nat → Value) (X : Wx) : Wx := fun w S => ∃ S', w.rowIs q ty n F ∧ X w S' ∧ ¬ S' q ∧ ∀ k, S k ↔ S' k ∨ k = q
section
variable {q n : Nat} {ty : TypeId} {F F' : Nat → Value}
theorem Wd.hd (hX : Wd X) : Wd (Hd q ty n F X) := by
  constructor
  · rintro w S ⟨S', h1, h2, h3, h4⟩ k hk
    rcases (h4 k).1 hk with h | rfl
    · exact hX.lt h2 k h
    · exact h1.lt
  · rintro w w' S ⟨S', h1, h2, h3, h4⟩ hs hb
    exact ⟨S', h1.of_block (hb q ((h4 q).2 (.inr rfl))), hX.kept h2 hs (fun k hk => hb k ((h4 k).2 (.inl hk))), h3, h4⟩
theorem Hd.row (h : Hd q ty n F X w S) : w.rowIs q ty n F := by obtain ⟨_, h1, _⟩ := h; exact h1
theorem Hd.has (h : Hd q ty n F X w S) : S q := by obtain ⟨S', _, _, _, h4⟩ := h; exact (h4 q).2 (.inr rfl)
theorem Hd.sub (h : Hd q ty n F X w S) : ∃ S', X w S' ∧ ¬ S' q ∧ ∀ k, S' k → S k := by obtain ⟨S', _, h2, h3, h4⟩ := h; exact ⟨S', h2, h3, fun k hk => (h4 k).2 (.inl hk)⟩
/-- A store into one of the head's cells. -/
theorem Hd.put (hX : Wd X) (h : Hd q ty n F X w S) (i : Nat) (v : Value) (hF : ∀ j, j < n → (if j = i then v else F j) = F' j) : Hd q ty n F' X (w.setCell ⟨q, i, none⟩ v) S ∧ Fp S w (w.setCell ⟨q, i, none⟩ v) := by
  obtain ⟨S', h1, h2, h3, h4⟩ := h
  have hf : Fp (fun k => k = q) w (w.setCell ⟨q, i, none⟩ v) := Fp.set _ _ _ _ rfl
  exact ⟨⟨S', (h1.set i v).congr hF, hX.besides h2 hf (fun k hk e => h3 (e ▸ hk)), h3, h4⟩, hf.mono fun k hk => (h4 k).2 (.inr hk)⟩
theorem Hd.set (hX : Wd X) (h : Hd q ty n F X w S) (i : Nat) (v : Value) (hF : ∀ j, j < n → (if j = i then v else F j) = F' j) : Turn (Hd q ty n F' X) S w (w.setCell ⟨q, i, none⟩ v) :=
  ⟨S, (h.put hX i v hF).1, fun k hk => .inl hk, (h.put hX i v hF).2⟩
/-- What the head holds, for a call that turns it. -/
theorem Hd.opens (h : Hd q ty n F X w S) : ∃ S', X w S' ∧ ¬ S' q ∧ (∀ k, S' k → S k) ∧ ∀ (w' : World) (X' : Wx), Turn X' S' w w' → Turn (Hd q ty n F X') S w w' := by
  obtain ⟨S', h1, h2, h3, h4⟩ := h
  refine ⟨S', h2, h3, fun k hk => (h4 k).2 (.inl hk), fun w' X' ht => ?_⟩
  obtain ⟨S2, r2, s2, f2⟩ := ht
  have hsz := f2.size
  have hq := h1.lt
  refine ⟨fun k => S2 k ∨ k = q, ⟨S2, h1.of_block (f2.block q hq h3), r2, fun hs => ?_, fun k => Iff.rfl⟩, fun k hk => ?_, f2.mono fun k hk => (h4 k).2 (.inl hk)⟩
  · rcases s2 q hs with h | h
    · exact h3 h
    · omega
  · rcases hk with hk | rfl
    · rcases s2 k hk with h | h
      · exact .inl ((h4 k).2 (.inl h))
      · exact .inr h
    · exact .inl ((h4 k).2 (.inr rfl))
/-- A head that is made. -/
theorem Hd.new (hX : Wd X) (h : X w S) (c : Array Value) (hc : ∀ i, i < c.size → c[i]? = some (F i)) : Hd w.heap.size ty c.size F X (w.alloc (.cells c ty)) (fun k => S k ∨ k = w.heap.size) :=
  ⟨S, World.rowIs_alloc w c ty F hc, hX.keep h ((Below.refl _ _).alloc (Nat.le_refl _) _), fun hs => by have := hX.lt h _ hs; omega, fun k => Iff.rfl⟩
end

/-- All that the word tells of, made since block B. -/
def Up (B : Nat) (X : Wx) (w : World) : Prop := ∃ S, X w S ∧ ∀ k, S k → B ≤ k
theorem Up.keep (hX : Wd X) (h : Up B X w) (hb : Below w.heap.size w w') : Up B X w' := by
  obtain ⟨S, h1, h2⟩ := h
  exact ⟨S, hX.keep h1 hb, h2⟩
theorem Up.turn (hs : ∀ k, S k → B ≤ k) (hB : B ≤ w.heap.size) (ht : Turn X' S w w') : Up B X' w' ∧ Below B w w' := by
  obtain ⟨S1, x, s, f⟩ := ht
  exact ⟨⟨S1, x, fun k hk => (s k hk).elim (hs k) fun h => Nat.le_trans hB h⟩, f.below hB hs⟩
theorem Up.swap (h : Up B (Both X Y) w) : Up B (Both Y X) w := by
  obtain ⟨S, h1, h2⟩ := h
  exact ⟨S, h1.swap, h2⟩
theorem Up.fst (h : Up B (Both X Y) w) : Up B X w := by
  obtain ⟨S, h1, h2⟩ := h
  obtain ⟨S1, a, b⟩ := h1.fst
  exact ⟨S1, a, fun k hk => h2 k (b k hk)⟩
theorem Up.snd (h : Up B (Both X Y) w) : Up B Y w := h.swap.fst
/-- One more, made behind. -/
theorem Up.add (hX : Wd X) (h : Up B X w) (hB : B ≤ w.heap.size) (hb : Below w.heap.size w w') (hn : Up w.heap.size Y w') : Up B (Both X Y) w' := by
  obtain ⟨S, h1, h2⟩ := h
  obtain ⟨S', k1, k2⟩ := hn
  exact ⟨fun k => S k ∨ S' k, ⟨S, S', hX.keep h1 hb, k1, fun k a b => by have := hX.lt h1 k a; have := k2 k b; omega, fun k => Iff.rfl⟩, fun k hk => hk.elim (h2 k) fun h => Nat.le_trans hB (k2 k h)⟩
theorem Up.assoc {Z : Wx} (h : Up B (Both X (Both Y Z)) w) : Up B (Both (Both X Y) Z) w := by
  obtain ⟨S, ⟨S1, S2, h1, ⟨S3, S4, k1, k2, k3, k4⟩, h3, h4⟩, h5⟩ := h
  refine ⟨S, ⟨fun k => S1 k ∨ S3 k, S4, ⟨S1, S3, h1, k1, fun k a b => h3 k a ((k4 k).2 (.inl b)), fun k => Iff.rfl⟩, k2, fun k a b => ?_, fun k => ?_⟩, h5⟩
  · rcases a with a | a
    · exact h3 k a ((k4 k).2 (.inr b))
    · exact k3 k a b
  · rw [h4 k, k4 k, or_assoc]

/-! ### what is no row of bytes -/
end
end Go.Proofs.Yteopmaaghhendaa

/-
  Slices of the static tables' rows: what they read as.
-/
namespace Go.Proofs.Yteopmaaghhendaa
open Go.RowKit
set_option linter.unusedVariables false

theorem Fs.row_len {w : World} {v : Value} {l : List Fd} (h : Fs w v l) (ty : TypeId) (W : World) : (Builtin.len_ #[143] ty #[v]).run Try.prog W = .ok (.int .i64 (l.length : Int)) W := by
  obtain ⟨A, c, rfl, h1, h2, h3⟩ := h
  simp [Builtin.len_, run_underlying Try.underlying143, goInt]
/-- The place of v[i], and what lies there. -/
theorem Fs.row_at {w : World} {v : Value} {l : List Fd} (h : Fs w v l) (i : Nat) (hi : i < l.length) :
    ∃ b o : Nat, (∀ (q : IntKind) (W : World), (Instr.indexAt 143 v (.int q (i : Int))).run Try.prog W = .ok (.pointer (some ⟨b, o, none⟩)) W) ∧
      ∀ W : World, Fs W v l → W.cell? ⟨b, o, none⟩ = some (.string l[i].1) ∧ W.cell? ⟨b, o + 1, none⟩ = some (.string l[i].2) := by
  obtain ⟨b, o, c, rfl, h1, h2, h3, hc⟩ := Rn.at_ h (by omega) (by omega)
  have hsz : ∀ W : World, (sizeOf (Try.prog.elem 143)).run Try.prog W = .ok 2 W := fun W => by kernel_rfl
  refine ⟨b, o + i * 2, fun q W => ?_, fun W hW => ?_⟩
  · simp [Instr.indexAt, asIntOf, run_underlying Try.underlying143, Sem.run_bind, hi, Result.andThen]
    simp [Addr.add]
  · obtain ⟨b', o', c', e, _, _, _, hc'⟩ := Rn.at_ hW (by omega) (by omega)
    injection e with e1 e2 e3
    injection e1 with e1
    injection e1 with e1 e4
    subst e1; subst e4
    have := fvl_at l i hi
    exact ⟨hc' _ _ this.1, hc' _ _ this.2⟩


end Go.Proofs.Yteopmaaghhendaa

/-
  The tables as cells.
-/
namespace Go.Proofs.Yteopmaaghhendaa
open Go.RowKit
set_option linter.unusedVariables false

def C3 : Array Value := (T3.flatMap fvl).toArray
theorem Fs.lit (w : World) (e : TypeId) (l : List Fd) (n : Nat) (hn : l.length = n) (hm : n ≤ maxLen) (cs : Array Value) (hc : cs.toList = l.flatMap fvl) :
    Fs (w.alloc (.cells cs e)) (.slice (some ⟨w.heap.size, 0, none⟩) n n) l := by
  subst hn
  have h := An.lit (k := 2) w e cs l.length (by rw [← Array.length_toList, hc, fvl_length]) hm
  have := An.rd h
  rw [hc] at this
  exact this

end Go.Proofs.Yteopmaaghhendaa

/-
  Contracts of find's closure, of slices.IndexFunc with it.
-/
namespace Go.Proofs.Yteopmaaghhendaa
open Go.RowKit
set_option linter.unusedVariables false

theorem str_eqS (a b : ByteArray) (h : a.toList = b.toList) : a = b := by
  rw [Lib.toList_data, Lib.toList_data] at h
  have := Array.toList_inj.1 h
  cases a; cases b; simp_all
theorem str_beq_trueS {a b : ByteArray} (h : a = b) : (a.toList == b.toList) = true := by rw [h]; exact beq_self_eq_true _
theorem str_beq_falseS {a b : ByteArray} (h : ¬ a = b) : (a.toList == b.toList) = false := by
  rw [beq_eq_false_iff_ne]
  exact fun h2 => h (str_eqS a b h2)
end Go.Proofs.Yteopmaaghhendaa

/-
  Contract of the document's H3s: where its fields lie.
-/
namespace Go.Proofs.Yteopmaaghhendaa
open Go.RowKit
set_option linter.unusedVariables false

set_option maxRecDepth 100000 in
set_option maxHeartbeats 4000000 in
theorem h3s_row (w : World) :
    Calls Try.prog 40 #[] w fun e w' => e = .returned (.slice (some ⟨w.heap.size, 0, none⟩) 99 99) ∧ w' = w.alloc (.cells C3 56) := by
  go_enter Try.func40, Try.ntmps40
  go_wp2_with (first | (with_reducible refine wpList_buildSlice (v := .slice (some ⟨w.heap.size, 0, none⟩) 99 99) (w' := w.alloc (.cells C3 56)) (by kernel_rfl) ?_))
  go_ret
  exact ⟨rfl, rfl⟩

theorem c3_list : C3.toList = T3.flatMap fvl := by simp [C3]

end Go.Proofs.Yteopmaaghhendaa

/-
  Contract of the document's FindIn.
-/
namespace Go.Proofs.Yteopmaaghhendaa
open Go.RowKit
set_option linter.unusedVariables false

def findV (l : List Fd) (f : Fd) : Value := .tuple #[.int .i64 ((findS l f).1 : Int), .bool (findS l f).2.1, .bool (findS l f).2.2]

theorem findS_lt (l : List Fd) (f : Fd) : (∃ m q, m < l.length ∧ findS l f = (m, true, q)) ∨ findS l f = (0, false, false) := by
  unfold findS
  split
  · rename_i m h
    exact .inl ⟨m, true, (List.findIdx?_eq_some_iff_getElem.1 h).1, rfl⟩
  · split
    · rename_i m h
      exact .inl ⟨m, false, (List.findIdx?_eq_some_iff_getElem.1 h).1, rfl⟩
    · exact .inr rfl

set_option maxRecDepth 100000 in
set_option maxHeartbeats 2000000 in
theorem findIn_any (v : Value) (l : List Fd) (f : Fd) (w : World) (hv : Fs w v l) (hl : l.length ≤ 1000) (hn : l.Nodup) :
    Calls Try.prog 41 #[v, .agg #[.string f.1, .string f.2]] w fun e w' => e = .returned (findV l f) ∧ Below w.heap.size w w' := by
  have HN := Bx.mk hn
  obtain ⟨f1, f2⟩ := f
  have HB1 := Bx.mk ((Below.refl w.heap.size w).alloc (Nat.le_refl _) (.cells #[.string f1, .string f2] 56))
  have HF1 := Bx.mk (Fb.new 56 w (f1, f2))
  have HV1 := Bx.mk (hv.keep HB1.out)
  have hlen := fun ty W => hv.run_len ty W
  clear hv hn
  go_enter Try.func41, Try.ntmps41
  go_wp2
  go_loopg [7] l.length (fun n s7 wx => ∃ k : Nat, k + n = l.length ∧ s7 = .int .i64 k ∧ Bx (∀ j (hj : j < k) (hjl : j < l.length), l[j] ≠ (f1, f2)) ∧ Bx (Below (w.heap.size + 1) (w.alloc (.cells #[.string f1, .string f2] 56)) wx))
  case atStart => exact ⟨0, by omega, rfl, ⟨fun j hj => absurd hj (Nat.not_lt_zero _)⟩, ⟨Below.refl _ _⟩⟩
  case round =>
    obtain ⟨k, hkg, rfl, HP, HB⟩ := hrel
    have HFW := Bx.mk (HF1.out.below HB.out (by omega))
    have HVW := Bx.mk (HV1.out.keep (HB.out.mono (by simp)))
    cases gk with
    | zero =>
      obtain rfl : k = l.length := by omega
      have HNO := Bx.mk (fun j (hj : j < l.length) => HP.out j hj hj)
      clear HP
      go_wp2
      go_loopg [8] l.length (fun n s8 wx => ∃ k : Nat, k + n = l.length ∧ s8 = .int .i64 k ∧ Bx (∀ j (hj : j < k) (hjl : j < l.length), l[j].1 ≠ f1) ∧ Bx (Below (w.heap.size + 1) (w.alloc (.cells #[.string f1, .string f2] 56)) wx))
      case atStart => exact ⟨0, by omega, rfl, ⟨fun j hj => absurd hj (Nat.not_lt_zero _)⟩, HB⟩
      case round =>
        clear HFW HVW HB hkg
        obtain ⟨k, hkg, rfl, HP, HB⟩ := hrel
        have HFW := Bx.mk (HF1.out.below HB.out (by omega))
        have HVW := Bx.mk (HV1.out.keep (HB.out.mono (by simp)))
        cases gk with
        | zero =>
          obtain rfl : k = l.length := by omega
          go_wp2
          go_ret3
          exact ⟨by unfold findV; rw [findS_none (fun j hj => HP.out j hj hj)]; rfl, HB1.out.trans (HB.out.mono (by omega))⟩
        | succ n =>
          have hk : k < l.length := by omega
          obtain ⟨b, o, hix, hcs⟩ := HVW.out.at_ k hk
          obtain ⟨hc1, hc2⟩ := hcs _ HVW.out
          obtain ⟨hca, hcb⟩ := HFW.out.cells
          have HK := Bx.mk hk
          obtain ⟨g1, hf1⟩ : ∃ g1, l[k].1 = g1 := ⟨_, rfl⟩
          rw [hf1] at hc1
          have HG := Bx.mk hf1
          clear hcs hc2 hf1
          by_cases he : g1 = f1
          · have hd := str_beq_trueS he
            have HE := Bx.mk he
            clear he
            go_wp2
            go_region
            all_goals go_wp2
            all_goals go_ret3
            all_goals exact ⟨by unfold findV; rw [findS_named HNO.out HK.out (by rw [HG.out, HE.out]) (fun j hj => HP.out j hj (by have := HK.out; omega))]; rfl, HB1.out.trans ((HB.out.trans (Below.refl _ _).drew).mono (by omega))⟩
          · have hd := str_beq_falseS he
            have HE := Bx.mk he
            clear he
            go_wp2
            go_region
            all_goals go_wp2
            all_goals go_roundg n
            all_goals first
              | omega
              | exact ⟨k + 1, by omega, by go_num, ⟨fun j hj hjl => by
                  rcases Nat.lt_or_ge j k with h1 | h1
                  · exact HP.out j h1 hjl
                  · obtain rfl : j = k := by omega
                    rw [HG.out]; exact HE.out⟩, ⟨HB.out.drew⟩⟩
    | succ n =>
      have hk : k < l.length := by omega
      obtain ⟨b, o, hix, hcs⟩ := HVW.out.at_ k hk
      obtain ⟨hc1, hc2⟩ := hcs wr HVW.out
      obtain ⟨hca, hcb⟩ := HFW.out.cells
      have HK := Bx.mk hk
      obtain ⟨g1, hf1⟩ : ∃ g1, l[k].1 = g1 := ⟨_, rfl⟩
      obtain ⟨g2, hf2⟩ : ∃ g2, l[k].2 = g2 := ⟨_, rfl⟩
      rw [hf1] at hc1
      rw [hf2] at hc2
      have HG := Bx.mk (show l[k] = (g1, g2) by rw [← hf1, ← hf2])
      clear hcs hf1 hf2
      have HIN := Bx.mk (fun (e : l[k] = (f1, f2)) => findS_at HN.out hk e)
      by_cases he1 : g1 = f1
      · subst he1
        by_cases he2 : g2 = f2
        · subst he2
          go_wp2
          go_region
          all_goals go_wp2
          all_goals go_ret3
          all_goals exact ⟨by unfold findV; rw [HIN.out HG.out]; rfl, HB1.out.trans ((HB.out.trans (Below.refl _ _).drew).mono (by omega))⟩
        · have hd : ¬ g2.toList = f2.toList := fun e => he2 (str_eqS _ _ e)
          have HE := Bx.mk he2
          clear he2
          go_wp2
          go_region
          all_goals go_wp2
          all_goals go_roundg n
          all_goals first
            | omega
            | exact ⟨k + 1, by omega, by go_num, ⟨fun j hj hjl => by
                rcases Nat.lt_or_ge j k with h1 | h1
                · exact HP.out j h1 hjl
                · obtain rfl : j = k := by omega
                  rw [HG.out]; exact fun e => HE.out (Prod.mk.inj e).2⟩, ⟨HB.out.drew⟩⟩
      · have hd : ¬ g1.toList = f1.toList := fun e => he1 (str_eqS _ _ e)
        have HE := Bx.mk he1
        clear he1
        go_wp2
        go_region
        all_goals go_wp2
        all_goals go_roundg n
        all_goals first
          | omega
          | exact ⟨k + 1, by omega, by go_num, ⟨fun j hj hjl => by
              rcases Nat.lt_or_ge j k with h1 | h1
              · exact HP.out j h1 hjl
              · obtain rfl : j = k := by omega
                rw [HG.out]; exact fun e => HE.out (Prod.mk.inj e).1⟩, ⟨HB.out.drew⟩⟩

end Go.Proofs.Yteopmaaghhendaa

/-
  Contracts of static.entry, the document's At.
-/
namespace Go.Proofs.Yteopmaaghhendaa
open Go.RowKit
set_option linter.unusedVariables false


set_option maxRecDepth 100000 in
set_option maxHeartbeats 1000000 in
theorem entry_any (v : Value) (l : List Fd) (fr i : Nat) (w : World) (hv : Fs w v l) (hl : l.length ≤ 1000) (hfr : fr ≤ 1) (hi : i < 18446744073709551616) :
    Calls Try.prog 90 #[v, .int .u64 (fr : Int), .int .u64 (i : Int)] w fun e w' => e = .returned (.tuple #[aggF (entF l fr i), .bool (isF l fr i)]) ∧ Below w.heap.size w w' := by
  have HV := Bx.mk hv
  have HL := Bx.mk hl
  have HI := Bx.mk hi
  have hlen := fun ty W => hv.row_len ty W
  obtain ⟨e0, he0⟩ : ∃ e0, entF l fr i = e0 := ⟨_, rfl⟩
  obtain ⟨b0, hb0⟩ : ∃ b0, isF l fr i = b0 := ⟨_, rfl⟩
  rw [he0, hb0]
  have HE0 := Bx.mk he0
  have HB0 := Bx.mk hb0
  have hwl : IntKind.u64.wrap (l.length : Int) = (l.length : Int) := by have := HL.out; simp [IntKind.wrap, IntKind.signed, IntKind.bits]; omega
  clear hv he0 hb0
  by_cases h1 : i < fr
  · obtain rfl : fr = 1 := by omega
    obtain rfl : i = 0 := by omega
    obtain rfl : emp = e0 := by rw [← HE0.out]; unfold entF; rw [dif_neg (by omega)]
    obtain rfl : false = b0 := by rw [← HB0.out]; unfold isF; simp
    clear h1 hi hl hfr
    go_enter Try.func90, Try.ntmps90
    go_wp2
    exact bodyPost_ret (ret_field Try.results90 _ _ w.heap.size emp false rfl rfl (Fb.new _ w emp)) rfl ⟨rfl, (Below.refl _ _).alloc (Nat.le_refl _) _⟩
  · have hd : decide (i < fr) = false := by simp; omega
    have hw : IntKind.u64.wrap ((i : Int) - (fr : Int)) = ((i - fr : Nat) : Int) := by
      have := HI.out
      simp [IntKind.wrap, IntKind.signed, IntKind.bits]; omega
    by_cases h2 : l.length ≤ i - fr
    · have hd2 : decide (l.length ≤ i - fr) = true := by simp; omega
      obtain rfl : emp = e0 := by rw [← HE0.out]; unfold entF; rw [dif_neg (by omega)]
      obtain rfl : false = b0 := by rw [← HB0.out]; unfold isF; simp; omega
      clear h1 h2 hi hl hfr
      go_enter Try.func90, Try.ntmps90
      go_wp2
      exact bodyPost_ret (ret_field Try.results90 _ _ w.heap.size emp false rfl rfl (Fb.new _ w emp)) rfl ⟨rfl, (Below.refl _ _).alloc (Nat.le_refl _) _⟩
    · have hd2 : decide (l.length ≤ i - fr) = false := by simp; omega
      have hlt : i - fr < l.length := by omega
      obtain ⟨f1, hf1⟩ : ∃ f1, l[i - fr].1 = f1 := ⟨_, rfl⟩
      obtain ⟨f2, hf2⟩ : ∃ f2, l[i - fr].2 = f2 := ⟨_, rfl⟩
      obtain rfl : (f1, f2) = e0 := by rw [← HE0.out]; unfold entF; rw [dif_pos ⟨by omega, hlt⟩, ← hf1, ← hf2]
      obtain rfl : true = b0 := by rw [← HB0.out]; unfold isF; simp; omega
      obtain ⟨b, o, hix, hcs⟩ := HV.out.row_at (i - fr) hlt
      have hB := (Below.refl w.heap.size w).alloc (Nat.le_refl _) (.cells #[.string ⟨#[]⟩, .string ⟨#[]⟩] 56)
      obtain ⟨hc1, hc2⟩ := hcs _ (HV.out.keep hB)
      rw [hf1] at hc1
      rw [hf2] at hc2
      clear h1 h2 hi hl hfr hcs hf1 hf2 hB hlt
      go_enter Try.func90, Try.ntmps90
      go_wp2
      exact bodyPost_ret (ret_field Try.results90 _ _ w.heap.size (f1, f2) true rfl rfl (Fb.new _ w (f1, f2))) rfl ⟨rfl, (Below.refl _ _).alloc (Nat.le_refl _) _⟩

end Go.Proofs.Yteopmaaghhendaa

/-
  Contract of static.places: the map from rows to their places.
-/
namespace Go.Proofs.Yteopmaaghhendaa
open Go.RowKit Go.Maps
set_option linter.unusedVariables false

end Go.Proofs.Yteopmaaghhendaa

/-
  Calls that turn one of several words; rows of bytes stand beside them.
-/
namespace Go.Proofs.Yteopmaaghhendaa
open Go.RowKit
set_option linter.unusedVariables false

section
variable {α : Type} {X Y : Wx} {X' Y' : α → Wx} {R : α → Ending → World → Prop} {P : Program} {f : FuncId} {args : Array Value} {w wA : World} {B : Nat} {C : Nat → Prop}
end
end Go.Proofs.Yteopmaaghhendaa

/-
  Contract of static.find.
-/
namespace Go.Proofs.Yteopmaaghhendaa
open Go.RowKit Go.Maps
set_option linter.unusedVariables false

end Go.Proofs.Yteopmaaghhendaa

/-
  Contract of static.rows2.
-/
namespace Go.Proofs.Yteopmaaghhendaa
open Go.RowKit
set_option linter.unusedVariables false

end Go.Proofs.Yteopmaaghhendaa
