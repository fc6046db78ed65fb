/-
  Contract of the document's FindIn.
-/
import Derived.Test.YtnmjnolfoaengaaStG
import Derived.Deep.QuietTactic
import Derived.BigQuiet
namespace Go.Proofs.Ytnmjnolfoaengaa
open Go.RowKit
set_option linter.unusedVariables false

def findV (l : List Fd) (f : Fd) : Value := .tuple #[.int .i64 ((findS l f).1 : Int), .bool (findS l f).2.1, .bool (findS l f).2.2]

theorem findS_lt (l : List Fd) (f : Fd) : (∃ m q, m < l.length ∧ findS l f = (m, true, q)) ∨ findS l f = (0, false, false) := by
  unfold findS
  split
  · rename_i m h
    exact .inl ⟨m, true, (List.findIdx?_eq_some_iff_getElem.1 h).1, rfl⟩
  · split
    · rename_i m h
      exact .inl ⟨m, false, (List.findIdx?_eq_some_iff_getElem.1 h).1, rfl⟩
    · exact .inr rfl

set_option maxRecDepth 100000 in
set_option maxHeartbeats 2000000 in
theorem findIn_any (v : Value) (l : List Fd) (f : Fd) (w : World) (hv : Fs w v l) (hl : l.length ≤ 1000) (hn : l.Nodup) :
    Calls Try.prog 13 #[v, .agg #[.string f.1, .string f.2]] w fun e w' => e = .returned (findV l f) ∧ Below w.heap.size w w' := by
  have HN := Bx.mk hn
  obtain ⟨f1, f2⟩ := f
  have HB1 := Bx.mk ((Below.refl w.heap.size w).alloc (Nat.le_refl _) (.cells #[.string f1, .string f2] 26))
  have HF1 := Bx.mk (Fb.new 26 w (f1, f2))
  have HV1 := Bx.mk (hv.keep HB1.out)
  have hlen := fun ty W => hv.run_len ty W
  clear hv hn
  go_enter Try.func13, Try.ntmps13
  go_wp2
  go_loopg [7] l.length (fun n s7 wx => ∃ k : Nat, k + n = l.length ∧ s7 = .int .i64 k ∧ Bx (∀ j (hj : j < k) (hjl : j < l.length), l[j] ≠ (f1, f2)) ∧ Bx (Below (w.heap.size + 1) (w.alloc (.cells #[.string f1, .string f2] 26)) wx))
  case atStart => exact ⟨0, by omega, rfl, ⟨fun j hj => absurd hj (Nat.not_lt_zero _)⟩, ⟨Below.refl _ _⟩⟩
  case round =>
    obtain ⟨k, hkg, rfl, HP, HB⟩ := hrel
    have HFW := Bx.mk (HF1.out.below HB.out (by omega))
    have HVW := Bx.mk (HV1.out.keep (HB.out.mono (by simp)))
    cases gk with
    | zero =>
      obtain rfl : k = l.length := by omega
      have HNO := Bx.mk (fun j (hj : j < l.length) => HP.out j hj hj)
      clear HP
      go_wp2
      go_loopg [8] l.length (fun n s8 wx => ∃ k : Nat, k + n = l.length ∧ s8 = .int .i64 k ∧ Bx (∀ j (hj : j < k) (hjl : j < l.length), l[j].1 ≠ f1) ∧ Bx (Below (w.heap.size + 1) (w.alloc (.cells #[.string f1, .string f2] 26)) wx))
      case atStart => exact ⟨0, by omega, rfl, ⟨fun j hj => absurd hj (Nat.not_lt_zero _)⟩, HB⟩
      case round =>
        clear HFW HVW HB hkg
        obtain ⟨k, hkg, rfl, HP, HB⟩ := hrel
        have HFW := Bx.mk (HF1.out.below HB.out (by omega))
        have HVW := Bx.mk (HV1.out.keep (HB.out.mono (by simp)))
        cases gk with
        | zero =>
          obtain rfl : k = l.length := by omega
          go_wp2
          go_ret3
          exact ⟨by unfold findV; rw [findS_none (fun j hj => HP.out j hj hj)]; rfl, HB1.out.trans (HB.out.mono (by omega))⟩
        | succ n =>
          have hk : k < l.length := by omega
          obtain ⟨b, o, hix, hcs⟩ := HVW.out.at_ k hk
          obtain ⟨hc1, hc2⟩ := hcs _ HVW.out
          obtain ⟨hca, hcb⟩ := HFW.out.cells
          have HK := Bx.mk hk
          obtain ⟨g1, hf1⟩ : ∃ g1, l[k].1 = g1 := ⟨_, rfl⟩
          rw [hf1] at hc1
          have HG := Bx.mk hf1
          clear hcs hc2 hf1
          by_cases he : g1 = f1
          · have hd := str_beq_true he
            have HE := Bx.mk he
            clear he
            go_wp2
            go_region
            all_goals go_wp2
            all_goals go_ret3
            all_goals exact ⟨by unfold findV; rw [findS_named HNO.out HK.out (by rw [HG.out, HE.out]) (fun j hj => HP.out j hj (by have := HK.out; omega))]; rfl, HB1.out.trans ((HB.out.trans (Below.refl _ _).drew).mono (by omega))⟩
          · have hd := str_beq_false he
            have HE := Bx.mk he
            clear he
            go_wp2
            go_region
            all_goals go_wp2
            all_goals go_roundg n
            all_goals first
              | omega
              | exact ⟨k + 1, by omega, by go_num, ⟨fun j hj hjl => by
                  rcases Nat.lt_or_ge j k with h1 | h1
                  · exact HP.out j h1 hjl
                  · obtain rfl : j = k := by omega
                    rw [HG.out]; exact HE.out⟩, ⟨HB.out.drew⟩⟩
    | succ n =>
      have hk : k < l.length := by omega
      obtain ⟨b, o, hix, hcs⟩ := HVW.out.at_ k hk
      obtain ⟨hc1, hc2⟩ := hcs wr HVW.out
      obtain ⟨hca, hcb⟩ := HFW.out.cells
      have HK := Bx.mk hk
      obtain ⟨g1, hf1⟩ : ∃ g1, l[k].1 = g1 := ⟨_, rfl⟩
      obtain ⟨g2, hf2⟩ : ∃ g2, l[k].2 = g2 := ⟨_, rfl⟩
      rw [hf1] at hc1
      rw [hf2] at hc2
      have HG := Bx.mk (show l[k] = (g1, g2) by rw [← hf1, ← hf2])
      clear hcs hf1 hf2
      have HIN := Bx.mk (fun (e : l[k] = (f1, f2)) => findS_at HN.out hk e)
      by_cases he1 : g1 = f1
      · subst he1
        by_cases he2 : g2 = f2
        · subst he2
          go_wp2
          go_region
          all_goals go_wp2
          all_goals go_ret3
          all_goals exact ⟨by unfold findV; rw [HIN.out HG.out]; rfl, HB1.out.trans ((HB.out.trans (Below.refl _ _).drew).mono (by omega))⟩
        · have hd : ¬ g2.toList = f2.toList := fun e => he2 (str_eq _ _ e)
          have HE := Bx.mk he2
          clear he2
          go_wp2
          go_region
          all_goals go_wp2
          all_goals go_roundg n
          all_goals first
            | omega
            | exact ⟨k + 1, by omega, by go_num, ⟨fun j hj hjl => by
                rcases Nat.lt_or_ge j k with h1 | h1
                · exact HP.out j h1 hjl
                · obtain rfl : j = k := by omega
                  rw [HG.out]; exact fun e => HE.out (Prod.mk.inj e).2⟩, ⟨HB.out.drew⟩⟩
      · have hd : ¬ g1.toList = f1.toList := fun e => he1 (str_eq _ _ e)
        have HE := Bx.mk he1
        clear he1
        go_wp2
        go_region
        all_goals go_wp2
        all_goals go_roundg n
        all_goals first
          | omega
          | exact ⟨k + 1, by omega, by go_num, ⟨fun j hj hjl => by
              rcases Nat.lt_or_ge j k with h1 | h1
              · exact HP.out j h1 hjl
              · obtain rfl : j = k := by omega
                rw [HG.out]; exact fun e => HE.out (Prod.mk.inj e).1⟩, ⟨HB.out.drew⟩⟩

end Go.Proofs.Ytnmjnolfoaengaa
