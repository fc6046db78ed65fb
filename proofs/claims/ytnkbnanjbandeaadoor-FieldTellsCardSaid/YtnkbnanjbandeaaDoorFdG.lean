/-
  Contracts of field.Size, the document's Size, Light.
-/
import Derived.Test.YtnkbnanjbandeaaDoorFds
import Derived.Test.YtnkbnanjbandeaaDoorFdA
import Derived.IntWalk
import Derived.BigRegion
import Derived.RegionTactic
namespace Go.Proofs.YtnkbnanjbandeaaDoor
open Go.RowKit
set_option linter.unusedVariables false

set_option maxRecDepth 100000 in
set_option maxHeartbeats 1000000 in
theorem size_any (v : Value) (l : List Fd) (w : World) (hv : Fs w v l) (hm : sizeF l ≤ 9223372036854775807) :
    Calls Tryd.prog 15 #[v] w fun e w' => e = .returned (.int .i64 (sizeF l : Int)) ∧ Below w.heap.size w w' := by
  have HV := Bx.mk hv
  have hlen := fun ty W => hv.run_len ty W
  have hlm := hv.len
  unfold maxLen at hlm
  clear hv
  go_enter Tryd.func15, Tryd.ntmps15
  go_wp2
  go_loopg [3, 8] l.length (fun g s3 s8 wx => ∃ k : Nat, k + g = l.length ∧ s8 = .int .i64 k ∧ s3 = .int .i64 (sizeF (l.take k) : Int) ∧ Bx (Below w.heap.size w wx))
  case atStart => exact ⟨0, by omega, rfl, rfl, ⟨Below.refl _ _⟩⟩
  case round =>
    obtain ⟨k, hkg, rfl, rfl, HB⟩ := hrel
    cases gk with
    | zero =>
      obtain rfl : k = l.length := by omega
      go_wp2
      go_ret
      rw [List.take_length]
      exact ⟨rfl, HB.out⟩
    | succ g =>
      have hk : k < l.length := by omega
      have hkz : (k : Int) < (l.length : Int) := by omega
      obtain ⟨b, o, hix, hcs⟩ := HV.out.at_ k hk
      obtain ⟨hc1, hc2⟩ := hcs wr (HV.out.keep HB.out)
      have hst := sizeF_take_succ l k hk
      have hle : sizeF (l.take (k + 1)) ≤ 9223372036854775807 := by
        have := sizeF_append (l.take (k + 1)) (l.drop (k + 1))
        rw [List.take_append_drop] at this
        omega
      have HST := Bx.mk hst
      unfold fsz at hst
      obtain ⟨f1, hf1⟩ : ∃ f1, l[k].1 = f1 := ⟨_, rfl⟩
      obtain ⟨f2, hf2⟩ : ∃ f2, l[k].2 = f2 := ⟨_, rfl⟩
      rw [hf1] at hc1 hst
      rw [hf2] at hc2 hst
      clear hcs
      have hb1 : sizeF (l.take k) + (f1.size + f2.size + 32) ≤ 9223372036854775807 := by omega
      clear hst hle
      go_wp2
      go_roundg g
      case measure => omega
      case rel => exact ⟨k + 1, by omega, by go_num, by rw [HST.out]; unfold fsz; rw [hf1, hf2]; go_num, ⟨HB.out.alloc HB.out.size _⟩⟩

set_option maxRecDepth 100000 in
set_option maxHeartbeats 1000000 in
theorem refSize_any (v : Value) (l : List Fd) (w : World) (hv : Fs w v l) (hm : sizeF l ≤ 9223372036854775807) :
    Calls Tryd.prog 16 #[v] w fun e w' => e = .returned (.int .i64 (sizeF l : Int)) ∧ Below w.heap.size w w' := by
  have HV := Bx.mk hv
  have hlen := fun ty W => hv.run_len ty W
  have hlm := hv.len
  unfold maxLen at hlm
  clear hv
  go_enter Tryd.func16, Tryd.ntmps16
  go_wp2
  go_loopg [3, 4] l.length (fun g s3 s4 wx => ∃ k : Nat, k + g = l.length ∧ s4 = .int .i64 k ∧ s3 = .int .i64 (sizeF (l.take k) : Int) ∧ Bx (Below w.heap.size w wx))
  case atStart => exact ⟨0, by omega, rfl, rfl, ⟨Below.refl _ _⟩⟩
  case round =>
    obtain ⟨k, hkg, rfl, rfl, HB⟩ := hrel
    cases gk with
    | zero =>
      obtain rfl : k = l.length := by omega
      go_wp2
      go_ret
      rw [List.take_length]
      exact ⟨rfl, HB.out⟩
    | succ g =>
      have hk : k < l.length := by omega
      have hkz : (k : Int) < (l.length : Int) := by omega
      obtain ⟨b, o, hix, hcs⟩ := HV.out.at_ k hk
      obtain ⟨hc1, hc2⟩ := hcs wr (HV.out.keep HB.out)
      have hst := sizeF_take_succ l k hk
      have hle : sizeF (l.take (k + 1)) ≤ 9223372036854775807 := by
        have := sizeF_append (l.take (k + 1)) (l.drop (k + 1))
        rw [List.take_append_drop] at this
        omega
      have HST := Bx.mk hst
      unfold fsz at hst
      obtain ⟨f1, hf1⟩ : ∃ f1, l[k].1 = f1 := ⟨_, rfl⟩
      obtain ⟨f2, hf2⟩ : ∃ f2, l[k].2 = f2 := ⟨_, rfl⟩
      rw [hf1] at hc1 hst
      rw [hf2] at hc2 hst
      clear hcs
      have hb1 : sizeF (l.take k) + (f1.size + f2.size + 32) ≤ 9223372036854775807 := by omega
      have HF1 := Bx.mk hf1
      have HF2 := Bx.mk hf2
      clear hst hle hf1 hf2
      go_wp2
      have w1 : IntKind.i64.wrap ((f1.size : Int) + (f2.size : Int)) = (f1.size : Int) + (f2.size : Int) := IntWalk.i64_in _ (by omega)
      have w2 : IntKind.i64.wrap ((f1.size : Int) + (f2.size : Int) + 32) = (f1.size : Int) + (f2.size : Int) + 32 := IntWalk.i64_in _ (by omega)
      have w3 : IntKind.i64.wrap ((sizeF (l.take k) : Int) + ((f1.size : Int) + (f2.size : Int) + 32)) = (sizeF (l.take k) : Int) + ((f1.size : Int) + (f2.size : Int) + 32) := IntWalk.i64_in _ (by omega)
      go_region
      clear w1 w2 w3
      go_wp2
      go_roundg g
      case measure => omega
      case rel => exact ⟨k + 1, by omega, by go_num, by rw [HST.out]; unfold fsz; rw [HF1.out, HF2.out]; go_num, ⟨HB.out.drew⟩⟩

end Go.Proofs.YtnkbnanjbandeaaDoor
