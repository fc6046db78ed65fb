/-
  bifoldlaw3.FieldFinds answers true, whatever its arguments: the walk.
-/
import Derived.Test.YtnkbnanjbandeaaDoorFdL
import Derived.Test.YtnkbnanjbandeaaDoorFdH
import Derived.Test.YtnkbnanjbandeaaDoorFdI
import Derived.Test.YtnkbnanjbandeaaDoorFdJ
import Derived.Test.YtnkbnanjbandeaaDoorFdK
namespace Go.Proofs.YtnkbnanjbandeaaDoor
open Go.RowKit
set_option linter.unusedVariables false

theorem infoFd : (Tryd.prog.info? 31).map (fun i => (i.zero, i.size, i.bytes)) = some (some (.agg #[.string ⟨#[]⟩, .string ⟨#[]⟩]), 2, 32) := by kernel_rfl
theorem infoFd' : ∃ i0, Tryd.prog.info? 31 = some i0 ∧ i0.zero = some (.agg #[.string ⟨#[]⟩, .string ⟨#[]⟩]) ∧ i0.size = 2 ∧ i0.bytes = 32 := by
  have h := infoFd
  cases hh : Tryd.prog.info? 31 with
  | none => rw [hh] at h; cases h
  | some i => rw [hh] at h; simp at h; exact ⟨i, rfl, h.1, h.2.1, h.2.2⟩
theorem lightB_facts {l : List Fd} (h : lightB l = true) : l.length ≤ 70 ∧ sumF l ≤ 3000 ∧ sizeF l ≤ 6000 := by
  unfold lightB at h
  rw [decide_eq_true_iff] at h
  have := sizeF_sum l
  exact ⟨h.1, h.2, by omega⟩
/-- Fields that may be appended to. -/
def ApF (w : World) (B : Nat) (v : Value) (l : List Fd) : Prop := An 2 w B 31 v l.length (l.flatMap fvl)
theorem ApF.fs {w : World} {B : Nat} {v : Value} {l : List Fd} (h : ApF w B v l) : Fs w v l := An.rd h

set_option maxRecDepth 100000 in
set_option maxHeartbeats 4000000 in
theorem fieldFinds_walk (v0 v1 : Value) (l m : List Fd) (name : ByteArray) (b : Bool) (w : World) (h0 : Fs w v0 l) (h1 : Fs w v1 m) (s0 : Small l) (s1 : Small m) :
    Calls Tryd.prog 4 #[v0, v1, .string name, .bool b] w fun e w' => e = .returned (.bool true) ∧ Below w.heap.size w w' := by
  have H0 := Bx.mk h0
  have H1 := Bx.mk h1
  have S0 := Bx.mk s0
  have S1 := Bx.mk s1
  have hlen := fun ty W => h0.run_len ty W
  clear h0 h1 s0 s1
  cases hl : lightB l
  · have HL := Bx.mk hl
    clear hl
    go_enter Tryd.func4, Tryd.ntmps4
    go_wp2_with fail
    refine (known_any w).mono ?_
    rintro e w1 ⟨rfl, b1⟩
    go_wp2_with fail
    refine (light_any v0 l w1 (H0.out.keep b1) S0.out).mono ?_
    rintro e w2 ⟨rfl, b2⟩
    rw [HL.out]
    go_wp2
    go_ret
    exact ⟨rfl, b1.trans (b2.mono b1.size)⟩
  cases hm : lightB m
  · have HL := Bx.mk hl
    have HM := Bx.mk hm
    clear hl hm
    go_enter Tryd.func4, Tryd.ntmps4
    go_wp2_with fail
    refine (known_any w).mono ?_
    rintro e w1 ⟨rfl, b1⟩
    go_wp2_with fail
    refine (light_any v0 l w1 (H0.out.keep b1) S0.out).mono ?_
    rintro e w2 ⟨rfl, b2⟩
    rw [HL.out]
    have h2 : Below w.heap.size w w2 := b1.trans (b2.mono b1.size)
    go_wp2_with fail
    refine (light_any v1 m w2 (H1.out.keep h2) S1.out).mono ?_
    rintro e w3 ⟨rfl, b3⟩
    rw [HM.out]
    go_wp2
    go_ret
    exact ⟨rfl, h2.trans (b3.mono h2.size)⟩
  have HL := Bx.mk hl
  have HM := Bx.mk hm
  have HLF := Bx.mk (lightB_facts hl)
  clear hl hm
  obtain ⟨i0, hi, hz, hz1, hz2⟩ := infoFd'
  have Hi := Bx.mk hi; have Hz := Bx.mk hz; have Hz1 := Bx.mk hz1; have Hz2 := Bx.mk hz2
  clear hi hz hz1 hz2
  go_enter Tryd.func4, Tryd.ntmps4
  go_wp2_with fail
  refine (known_any w).mono ?_
  rintro e w1 ⟨rfl, b1⟩
  go_wp2_with fail
  refine (light_any v0 l w1 (H0.out.keep b1) S0.out).mono ?_
  rintro e w2 ⟨rfl, b2⟩
  rw [HL.out]
  have h2 : Below w.heap.size w w2 := b1.trans (b2.mono b1.size)
  clear b1 b2
  go_wp2_with fail
  refine (light_any v1 m w2 (H1.out.keep h2) S1.out).mono ?_
  rintro e w3 ⟨rfl, b3⟩
  rw [HM.out]
  have H3 := Bx.mk (h2.trans (b3.mono h2.size))
  clear h2 b3
  cases b
  case' false =>
    go_wp2
    have HB := H3
    have HF : Bx (∃ m2, Fs w3 v1 m2) := ⟨m, H1.out.keep H3.out⟩
    generalize w3 = W at HB HF ⊢
    generalize v1 = mv at HF ⊢
    clear H3 H1
  case' true =>
    go_wp2_with (at_builtin; refine wpList_append_an _ 2 (by omega) rfl _ _ 27 rfl w.heap.size 31 i0 _ 32 Tryd.underlying27 Hi.out Hz.out Hz1.out Hz2.out rfl _ _ 0 _ [] _ rfl rfl (An.nil 2 w3 _ _) (H0.out.keep H3.out) one_fvl (by have := HLF.out; omega) (by have := HLF.out; simp [maxLen]; omega) H3.out.size ?_; intro v2 w4 hap hb4)
    have HB : Bx (Below w.heap.size w w4) := ⟨H3.out.trans hb4⟩
    have HF : Bx (∃ m2, Fs w4 v2 m2) := ⟨l, by have h := hap.rd; rw [Nat.zero_add, List.nil_append] at h; exact h⟩
    clear hap hb4 H3 H1
    generalize w4 = W at HB HF ⊢
    generalize v2 = mv at HF ⊢
  all_goals
    go_loopg [9, 10] l.length (fun g s9 s10 wx => ∃ k : Nat, k + g = l.length ∧ s10 = .int .i64 k ∧ s9 = .int .i64 (sizeF (l.take k) : Int) ∧ Bx (Below W.heap.size W wx))
    case atStart => exact ⟨0, by omega, rfl, rfl, ⟨Below.refl _ _⟩⟩
    case round =>
      obtain ⟨k, hkg, rfl, rfl, HK⟩ := hrel
      cases gk with
      | zero =>
        obtain rfl : k = l.length := by omega
        have HW := Bx.mk (HB.out.trans (HK.out.mono HB.out.size))
        have HLS := Bx.mk (show sizeF l ≤ 9223372036854775807 by have := HLF.out; omega)
        have HLL := Bx.mk (show l.length ≤ 100000 by have := HLF.out; omega)
        rw [List.take_length]
        have HVm : Bx (∃ m2, Fs wr mv m2) := ⟨by obtain ⟨m2, h⟩ := HF.out; exact ⟨m2, h.keep HK.out⟩⟩
        have HV0 := Bx.mk (H0.out.keep HW.out)
        clear HB HF HK
        go_wp2_with fail
        refine (size_any v0 l wr HV0.out HLS.out).mono ?_
        rintro e w5 ⟨rfl, b5⟩
        go_wp2_with fail
        refine (refSize_any v0 l w5 (HV0.out.keep b5) HLS.out).mono ?_
        rintro e w6 ⟨rfl, b6⟩
        have B6 : Below wr.heap.size wr w6 := b5.trans (b6.mono b5.size)
        clear b5 b6
        go_wp2_with fail
        refine (find_any v0 l name w6 (HV0.out.keep B6) HLL.out).mono ?_
        rintro e w7 ⟨x7, rfl, p7, b7⟩
        have B7 : Below wr.heap.size wr w7 := B6.trans (b7.mono B6.size)
        have P7 := Bx.mk p7
        clear p7 B6 b7
        go_wp2_with fail
        refine (refFind_any v0 l name w7 (HV0.out.keep B7) HLL.out).mono ?_
        rintro e w8 ⟨x8, rfl, p8, b8⟩
        have B8 : Below wr.heap.size wr w8 := B7.trans (b8.mono B7.size)
        have P8 := Bx.mk p8
        have P7' := Bx.mk (P7.out.ss.keep b8)
        clear p8 B7 b8
        go_wp2_with fail
        refine (strings_any x7 x8 (findF l name) (findF l name) w8 P7'.out P8.out.ss).mono ?_
        rintro e w9 ⟨rfl, b9⟩
        rw [show decide (findF l name = findF l name) = true from decide_eq_true rfl]
        have B9 : Below wr.heap.size wr w9 := B8.trans (b9.mono B8.size)
        clear B8 b9 P7 P8 P7'
        obtain ⟨m2, hVm⟩ := HVm.out
        have HVM := Bx.mk hVm
        clear hVm
        go_wp2_with fail
        refine (same_any v0 mv l m2 w9 (HV0.out.keep B9) (HVM.out.keep B9)).mono ?_
        rintro e wa ⟨rfl, ba⟩
        have Ba : Below wr.heap.size wr wa := B9.trans (ba.mono B9.size)
        clear B9 ba
        go_wp2_with fail
        refine (fields_any v0 mv l m2 wa (HV0.out.keep Ba) (HVM.out.keep Ba)).mono ?_
        rintro e wb ⟨rfl, bb⟩
        have Bb : Below wr.heap.size wr wb := Ba.trans (bb.mono Ba.size)
        clear Ba bb
        generalize decide (l = m2) = q
        have hq : (q == q) = true := by cases q <;> rfl
        go_wp2_with fail
        refine (same_any v0 v0 l l wb (HV0.out.keep Bb) (HV0.out.keep Bb)).mono ?_
        rintro e wc ⟨rfl, bc⟩
        rw [show decide (l = l) = true from decide_eq_true rfl]
        go_wp2
        go_ret
        exact ⟨rfl, HW.out.trans ((Bb.trans (bc.mono Bb.size)).mono HW.out.size)⟩
      | succ g =>
        have hk : k < l.length := by omega
        have hkz : (k : Int) < (l.length : Int) := by omega
        have HW := Bx.mk (HB.out.trans (HK.out.mono HB.out.size))
        obtain ⟨b, o, hix, hcs⟩ := H0.out.at_ k hk
        obtain ⟨hc1, hc2⟩ := hcs wr (H0.out.keep HW.out)
        have HST := Bx.mk (sizeF_take_succ l k hk)
        have HLE := Bx.mk (show sizeF (l.take (k + 1)) ≤ 6000 by
          have h1 := sizeF_append (l.take (k + 1)) (l.drop (k + 1))
          rw [List.take_append_drop] at h1
          have := HLF.out
          omega)
        have HEQ := Bx.mk (show l[k] = (l[k].1, l[k].2) from rfl)
        obtain ⟨f, hf⟩ : ∃ f, l[k] = f := ⟨_, rfl⟩
        rw [hf] at hc1 hc2 HST
        clear hcs hf HEQ
        go_wp2_with fail
        refine (size_any _ [f] _ (litF wr f) (by have := HLE.out; have := HST.out; simp only [sizeF]; omega)).mono ?_
        rintro e w5 ⟨rfl, b5⟩
        have HK5 := Bx.mk ((HK.out.alloc HK.out.size (.cells #[.string f.1, .string f.2] 31)).trans (b5.mono (by have := HK.out.size; simp; omega)))
        clear b5
        have hs1 : sizeF [f] = fsz f + 32 := rfl
        rw [hs1]
        have hkb : (k : Int) ≤ 70 := by have := HLF.out; omega
        have hle := HLE.out
        rw [HST.out] at hle
        generalize hq : sizeF (l.take k) = T at hle HST ⊢
        go_wp2
        go_roundg g
        case measure => omega
        case rel => exact ⟨k + 1, by omega, by go_num, by rw [HST.out]; go_num, HK5⟩

end Go.Proofs.YtnkbnanjbandeaaDoor
