/-
  Contracts of find's closure, of slices.IndexFunc with it.
-/
import Derived.Test.YtnmjnolfoaengaaStMath
import Derived.Test.YtnmjnolfoaengaaFb
import Derived.WalkKit
import Derived.WalkSpells
import Derived.WalkLawsBesides
import Derived.Handy
import Derived.Lib.MinMax
import Derived.Lib.Hide
import Derived.IntWalk
import Derived.BigRegion
import Derived.RegionTactic
import Derived.Deep.LoopGhost
import Derived.Lib.Strings
namespace Go.Proofs.Ytnmjnolfoaengaa
open Go.RowKit
set_option linter.unusedVariables false

theorem str_eq (a b : ByteArray) (h : a.toList = b.toList) : a = b := by
  rw [Lib.toList_data, Lib.toList_data] at h
  have := Array.toList_inj.1 h
  cases a; cases b; simp_all
theorem str_beq_true {a b : ByteArray} (h : a = b) : (a.toList == b.toList) = true := by rw [h]; exact beq_self_eq_true _
theorem str_beq_false {a b : ByteArray} (h : ¬ a = b) : (a.toList == b.toList) = false := by
  rw [beq_eq_false_iff_ne]
  exact fun h2 => h (str_eq a b h2)
theorem str_beq (a b : ByteArray) : (a.toList == b.toList) = decide (a = b) := by
  by_cases h : a = b
  · rw [str_beq_true h, decide_eq_true h]
  · rw [str_beq_false h, decide_eq_false h]

set_option maxRecDepth 100000 in
set_option maxHeartbeats 1000000 in
theorem named_any (r f : Fd) (g : Nat) (w : World) (hf : Fb 43 w g f) :
    Calls Try.prog 20 #[.agg #[.string r.1, .string r.2], .pointer (some ⟨g, 0, none⟩)] w fun e w' => e = .returned (.bool (decide (r.1 = f.1))) ∧ Below w.heap.size w w' := by
  obtain ⟨r1, r2⟩ := r
  obtain ⟨f1, f2⟩ := f
  have HF := Bx.mk (hf.alloc (.cells #[.string r1, .string r2] 43))
  obtain ⟨hc, _⟩ := HF.out.cells
  have HN := Fb.new 43 w (r1, r2)
  obtain ⟨hd, _⟩ := HN.cells
  have HE := Bx.mk (str_beq r1 f1)
  clear hf HN
  simp only at hc hd
  go_enter Try.func20, Try.ntmps20
  go_wp2
  go_ret
  exact ⟨by rw [← HE.out]; rfl, (Below.refl _ _).alloc (Nat.le_refl _) _⟩

/-- The number of the first that has f's name, or -1. -/
def namedI (l : List Fd) (f : Fd) : Int := match l.findIdx? (fun g => decide (g.1 = f.1)) with | some i => (i : Int) | none => -1

set_option maxRecDepth 100000 in
set_option maxHeartbeats 1000000 in
theorem index_any (v : Value) (l : List Fd) (f : Fd) (g : Nat) (w : World) (hv : Fs w v l) (hl : l.length ≤ 1000) (hf : Fb 43 w g f) :
    Calls Try.prog 19 #[v, .func (.func 20) #[] #[.pointer (some ⟨g, 0, none⟩)]] w fun e w' => e = .returned (.int .i64 (namedI l f)) ∧ Below w.heap.size w w' := by
  have HV := Bx.mk hv
  have HL := Bx.mk hl
  have HF := Bx.mk hf
  have hlen := fun ty W => hv.row_len ty W
  clear hv hf
  go_enter Try.func19, Try.ntmps19
  go_wp2
  go_loopg [8] l.length (fun n s8 wx => ∃ k : Nat, k + n = l.length ∧ s8 = .int .i64 k ∧ Bx (∀ j (hj : j < k) (hjl : j < l.length), l[j].1 ≠ f.1) ∧ Bx (Below w.heap.size w wx))
  case atStart => exact ⟨0, by omega, rfl, ⟨fun j hj => absurd hj (Nat.not_lt_zero _)⟩, ⟨Below.refl _ _⟩⟩
  case round =>
    obtain ⟨k, hkg, rfl, HP, HB⟩ := hrel
    cases gk with
    | zero =>
      obtain rfl : k = l.length := by omega
      go_wp2
      go_ret
      refine ⟨?_, HB.out⟩
      unfold namedI
      rw [findIdx_none (fun j hj => by simpa using HP.out j hj hj)]
      rfl
    | succ n =>
      have hk : k < l.length := by omega
      obtain ⟨b, o, hix, hcs⟩ := HV.out.row_at k hk
      obtain ⟨hc1, hc2⟩ := hcs wr (HV.out.keep HB.out)
      have HFW := Bx.mk (HF.out.keep HB.out)
      have HK := Bx.mk hk
      obtain ⟨f1, hf1⟩ : ∃ f1, l[k].1 = f1 := ⟨_, rfl⟩
      obtain ⟨f2, hf2⟩ : ∃ f2, l[k].2 = f2 := ⟨_, rfl⟩
      rw [hf1] at hc1
      rw [hf2] at hc2
      have HF1 := Bx.mk hf1
      clear hcs hf1 hf2
      by_cases hn : f1 = f.1
      · have HN := Bx.mk hn
        clear hn
        go_wp2_with fail
        refine (named_any (f1, f2) f g _ HFW.out).mono ?_
        rintro e w2 ⟨rfl, hb⟩
        have HB2 := Bx.mk (HB.out.trans (hb.mono HB.out.size))
        have ht : decide ((f1, f2).1 = f.1) = true := decide_eq_true HN.out
        rw [ht]
        clear hb ht
        go_wp2
        go_ret
        refine ⟨?_, HB2.out⟩
        unfold namedI
        rw [findIdx_some HK.out (by rw [HF1.out]; exact decide_eq_true HN.out) (fun j hj => decide_eq_false (HP.out j hj (by have := HK.out; omega)))]
        rfl
      · have HN := Bx.mk hn
        clear hn
        go_wp2_with fail
        refine (named_any (f1, f2) f g _ HFW.out).mono ?_
        rintro e w2 ⟨rfl, hb⟩
        have HB2 := Bx.mk (HB.out.trans (hb.mono HB.out.size))
        have ht : decide ((f1, f2).1 = f.1) = false := decide_eq_false HN.out
        rw [ht]
        clear hb ht
        go_wp2
        go_roundg n
        case measure => omega
        case rel => exact ⟨k + 1, by omega, by go_num, ⟨fun j hj hjl => by
          rcases Nat.lt_or_ge j k with h1 | h1
          · exact HP.out j h1 hjl
          · obtain rfl : j = k := by omega
            rw [HF1.out]; exact HN.out⟩, HB2⟩

end Go.Proofs.Ytnmjnolfoaengaa
