/-
  Small contracts: field.Size, the document's Size and size, strings.Clone, the tables' numbers.
-/
import Derived.Test.YtjebemcghikgpaaDnTb
import Derived.Test.YtjebemcghikgpaaShelf
import Derived.IntWalk
import Derived.Handy
import Derived.Deep.LoopGhost
import Derived.BigRegion
import Derived.RegionTactic
namespace Go.Proofs.Ytjebemcghikgpaa
open Go.RowKit Go.Maps
set_option linter.unusedVariables false

set_option maxRecDepth 100000 in
set_option maxHeartbeats 1000000 in
theorem size_any (v : Value) (l : List Fd) (w : World) (hv : Fs w v l) (hm : sizeF l ≤ 9223372036854775807) :
    Calls Try.prog 26 #[v] w fun e w' => e = .returned (.int .i64 (sizeF l : Int)) ∧ Below w.heap.size w w' := by
  have HV := Bx.mk hv
  have hlen := fun ty W => hv.run_len ty W
  have hlm := hv.len
  unfold maxLen at hlm
  clear hv
  go_enter Try.func26, Try.ntmps26
  go_wp2
  go_loopg [3, 8] l.length (fun g s3 s8 wx => ∃ k : Nat, k + g = l.length ∧ s8 = .int .i64 k ∧ s3 = .int .i64 (sizeF (l.take k) : Int) ∧ Bx (Below w.heap.size w wx))
  case atStart => exact ⟨0, by omega, rfl, rfl, ⟨Below.refl _ _⟩⟩
  case round =>
    obtain ⟨k, hkg, rfl, rfl, HB⟩ := hrel
    cases gk with
    | zero =>
      obtain rfl : k = l.length := by omega
      go_wp2
      go_ret
      rw [List.take_length]
      exact ⟨rfl, HB.out⟩
    | succ g =>
      have hk : k < l.length := by omega
      have hkz : (k : Int) < (l.length : Int) := by omega
      obtain ⟨b, o, hix, hcs⟩ := HV.out.at_ k hk
      obtain ⟨hc1, hc2⟩ := hcs wr (HV.out.keep HB.out)
      have hst := sizeF_take_succ l k hk
      have hle : sizeF (l.take (k + 1)) ≤ 9223372036854775807 := by
        have := sizeF_append (l.take (k + 1)) (l.drop (k + 1))
        rw [List.take_append_drop] at this
        omega
      have HST := Bx.mk hst
      unfold fsz at hst
      obtain ⟨f1, hf1⟩ : ∃ f1, l[k].1 = f1 := ⟨_, rfl⟩
      obtain ⟨f2, hf2⟩ : ∃ f2, l[k].2 = f2 := ⟨_, rfl⟩
      rw [hf1] at hc1 hst
      rw [hf2] at hc2 hst
      clear hcs
      have hb1 : sizeF (l.take k) + (f1.size + f2.size + 32) ≤ 9223372036854775807 := by omega
      clear hst hle
      go_wp2
      go_roundg g
      case measure => omega
      case rel => exact ⟨k + 1, by omega, by go_num, by rw [HST.out]; unfold fsz; rw [hf1, hf2]; go_num, ⟨HB.out.alloc HB.out.size _⟩⟩

set_option maxRecDepth 100000 in
set_option maxHeartbeats 1000000 in
theorem refSize_any (v : Value) (l : List Fd) (w : World) (hv : Fs w v l) (hm : sizeF l ≤ 9223372036854775807) :
    Calls Try.prog 20 #[v] w fun e w' => e = .returned (.int .i64 (sizeF l : Int)) ∧ Below w.heap.size w w' := by
  have HV := Bx.mk hv
  have hlen := fun ty W => hv.run_len ty W
  have hlm := hv.len
  unfold maxLen at hlm
  clear hv
  go_enter Try.func20, Try.ntmps20
  go_wp2
  go_loopg [3, 4] l.length (fun g s3 s4 wx => ∃ k : Nat, k + g = l.length ∧ s4 = .int .i64 k ∧ s3 = .int .i64 (sizeF (l.take k) : Int) ∧ Bx (Below w.heap.size w wx))
  case atStart => exact ⟨0, by omega, rfl, rfl, ⟨Below.refl _ _⟩⟩
  case round =>
    obtain ⟨k, hkg, rfl, rfl, HB⟩ := hrel
    cases gk with
    | zero =>
      obtain rfl : k = l.length := by omega
      go_wp2
      go_ret
      rw [List.take_length]
      exact ⟨rfl, HB.out⟩
    | succ g =>
      have hk : k < l.length := by omega
      have hkz : (k : Int) < (l.length : Int) := by omega
      obtain ⟨b, o, hix, hcs⟩ := HV.out.at_ k hk
      obtain ⟨hc1, hc2⟩ := hcs wr (HV.out.keep HB.out)
      have hst := sizeF_take_succ l k hk
      have hle : sizeF (l.take (k + 1)) ≤ 9223372036854775807 := by
        have := sizeF_append (l.take (k + 1)) (l.drop (k + 1))
        rw [List.take_append_drop] at this
        omega
      have HST := Bx.mk hst
      unfold fsz at hst
      obtain ⟨f1, hf1⟩ : ∃ f1, l[k].1 = f1 := ⟨_, rfl⟩
      obtain ⟨f2, hf2⟩ : ∃ f2, l[k].2 = f2 := ⟨_, rfl⟩
      rw [hf1] at hc1 hst
      rw [hf2] at hc2 hst
      clear hcs
      have hb1 : sizeF (l.take k) + (f1.size + f2.size + 32) ≤ 9223372036854775807 := by omega
      have HF1 := Bx.mk hf1
      have HF2 := Bx.mk hf2
      clear hst hle hf1 hf2
      go_wp2
      have w1 : IntKind.i64.wrap ((f1.size : Int) + (f2.size : Int)) = (f1.size : Int) + (f2.size : Int) := IntWalk.i64_in _ (by omega)
      have w2 : IntKind.i64.wrap ((f1.size : Int) + (f2.size : Int) + 32) = (f1.size : Int) + (f2.size : Int) + 32 := IntWalk.i64_in _ (by omega)
      have w3 : IntKind.i64.wrap ((sizeF (l.take k) : Int) + ((f1.size : Int) + (f2.size : Int) + 32)) = (sizeF (l.take k) : Int) + ((f1.size : Int) + (f2.size : Int) + 32) := IntWalk.i64_in _ (by omega)
      go_region
      clear w1 w2 w3
      go_wp2
      go_roundg g
      case measure => omega
      case rel => exact ⟨k + 1, by omega, by go_num, by rw [HST.out]; unfold fsz; rw [HF1.out, HF2.out]; go_num, ⟨HB.out.drew⟩⟩


set_option maxRecDepth 100000 in
set_option maxHeartbeats 1000000 in
theorem refsize_any (f : Fd) (w : World) (hf : fsz f ≤ 1000000) :
    Calls Try.prog 28 #[.agg #[.string f.1, .string f.2]] w fun e w' => e = .returned (.int .i64 ((fsz f + 32 : Nat) : Int)) ∧ Below w.heap.size w w' := by
  obtain ⟨f1, f2⟩ := f
  unfold fsz at *
  simp only at *
  have hb1 : f1.size ≤ 1000000 := by omega
  have hb2 : f2.size ≤ 1000000 := by omega
  obtain ⟨hc1, hc2⟩ := (Fb.new 24 w (f1, f2)).cells
  go_enter Try.func28, Try.ntmps28
  go_wp2
  go_ret
  exact ⟨by go_num, (Below.refl _ _).alloc (Nat.le_refl _) _⟩

theorem clone_any (s : ByteArray) (w : World) (hs : s.size ≤ 1000000) :
    Calls Try.prog 35 #[.string s] w fun e w' => e = .returned (.string s) ∧ Below w.heap.size w w' := by
  go_enter Try.func35, Try.ntmps35
  go_wp2_with fail
  refine (stringslite_Clone s _ (by omega)).mono ?_
  rintro e w2 ⟨rfl, hb⟩
  go_wp2
  go_ret
  exact ⟨rfl, hb⟩

set_option maxRecDepth 100000 in
set_option maxHeartbeats 1000000 in
theorem oldest_any {w : World} {p : Nat} {v : Value} {bw bn sz cp ct na nb : Nat} {L : List Fd} {Dw Dn : DataW Unit} (h : Tr w p v bw bn sz cp ct na nb L Dw Dn) (hl : L.length ≤ ct) (ht : ct ≤ 1000000) :
    Calls Try.prog 33 #[.pointer (some ⟨p, 0, none⟩)] w fun e w' => e = .returned (.int .u64 ((ct - L.length : Nat) : Int)) ∧ Below w.heap.size w w' := by
  have hlen := fun ty W => h.st.fs.run_len ty W
  obtain ⟨c0, c1, c2, c3, c4, c5⟩ := h.cells
  have hw1 : IntKind.u64.wrap (L.length : Int) = (L.length : Int) := by simp [IntKind.wrap, IntKind.signed, IntKind.bits]; omega
  have hw2 : IntKind.u64.wrap ((ct : Int) - (L.length : Int)) = ((ct - L.length : Nat) : Int) := by simp [IntKind.wrap, IntKind.signed, IntKind.bits]; omega
  clear h c1 c2 c3 c4
  go_enter Try.func33, Try.ntmps33
  go_wp2
  go_region
  go_wp2
  go_ret
  exact ⟨rfl, (Below.refl _ _).drew⟩

set_option maxRecDepth 100000 in
set_option maxHeartbeats 1000000 in
theorem first_any {w : World} {q : Nat} {v : Value} {cp ct : Nat} {L : List Fd} (h : w.rowIs q 58 3 (rF v cp ct)) (hst : St w v L) (hl : L.length ≤ ct) (ht : ct ≤ 1000000) :
    Calls Try.prog 30 #[.pointer (some ⟨q, 0, none⟩)] w fun e w' => e = .returned (.int .u64 ((ct - L.length : Nat) : Int)) ∧ Below w.heap.size w w' := by
  have hlen := fun ty W => hst.fs.run_len ty W
  have c0 : w.cell? ⟨q, 0, none⟩ = some v := h.cell (by omega)
  have c2 : w.cell? ⟨q, 2, none⟩ = some (.int .u64 (ct : Int)) := h.cell (by omega)
  have hw1 : IntKind.u64.wrap (L.length : Int) = (L.length : Int) := by simp [IntKind.wrap, IntKind.signed, IntKind.bits]; omega
  have hw2 : IntKind.u64.wrap ((ct : Int) - (L.length : Int)) = ((ct - L.length : Nat) : Int) := by simp [IntKind.wrap, IntKind.signed, IntKind.bits]; omega
  clear h hst
  go_enter Try.func30, Try.ntmps30
  go_wp2
  go_region
  go_wp2
  go_ret
  exact ⟨rfl, (Below.refl _ _).drew⟩

set_option maxRecDepth 100000 in
theorem size0_any {w : World} {p : Nat} {v : Value} {bw bn sz cp ct na nb : Nat} {L : List Fd} {Dw Dn : DataW Unit} (h : Tr w p v bw bn sz cp ct na nb L Dw Dn) :
    Calls Try.prog 16 #[.pointer (some ⟨p, 0, none⟩)] w fun e w' => e = .returned (.int .i64 (sz : Int)) ∧ Below w.heap.size w w' := by
  obtain ⟨c0, c1, c2, c3, c4, c5⟩ := h.cells
  clear h
  go_enter Try.func16, Try.ntmps16
  go_wp2
  go_ret
  exact ⟨rfl, Below.refl _ _⟩
set_option maxRecDepth 100000 in
theorem cap0_any {w : World} {p : Nat} {v : Value} {bw bn sz cp ct na nb : Nat} {L : List Fd} {Dw Dn : DataW Unit} (h : Tr w p v bw bn sz cp ct na nb L Dw Dn) :
    Calls Try.prog 17 #[.pointer (some ⟨p, 0, none⟩)] w fun e w' => e = .returned (.int .i64 (cp : Int)) ∧ Below w.heap.size w w' := by
  obtain ⟨c0, c1, c2, c3, c4, c5⟩ := h.cells
  clear h
  go_enter Try.func17, Try.ntmps17
  go_wp2
  go_ret
  exact ⟨rfl, Below.refl _ _⟩
set_option maxRecDepth 100000 in
theorem count0_any {w : World} {p : Nat} {v : Value} {bw bn sz cp ct na nb : Nat} {L : List Fd} {Dw Dn : DataW Unit} (h : Tr w p v bw bn sz cp ct na nb L Dw Dn) :
    Calls Try.prog 19 #[.pointer (some ⟨p, 0, none⟩)] w fun e w' => e = .returned (.int .u64 (ct : Int)) ∧ Below w.heap.size w w' := by
  obtain ⟨c0, c1, c2, c3, c4, c5⟩ := h.cells
  clear h
  go_enter Try.func19, Try.ntmps19
  go_wp2
  go_ret
  exact ⟨rfl, Below.refl _ _⟩
set_option maxRecDepth 100000 in
theorem len0_any {w : World} {p : Nat} {v : Value} {bw bn sz cp ct na nb : Nat} {L : List Fd} {Dw Dn : DataW Unit} (h : Tr w p v bw bn sz cp ct na nb L Dw Dn) :
    Calls Try.prog 18 #[.pointer (some ⟨p, 0, none⟩)] w fun e w' => e = .returned (.int .i64 (L.length : Int)) ∧ Below w.heap.size w w' := by
  have hlen := fun ty W => h.st.fs.run_len ty W
  obtain ⟨c0, c1, c2, c3, c4, c5⟩ := h.cells
  clear h
  go_enter Try.func18, Try.ntmps18
  go_wp2
  go_ret
  exact ⟨rfl, Below.refl _ _⟩

end Go.Proofs.Ytjebemcghikgpaa
