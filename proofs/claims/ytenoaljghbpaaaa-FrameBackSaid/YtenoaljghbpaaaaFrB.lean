/-
  The document's Writes: frames one behind another.
-/
import Derived.Test.YtenoaljghbpaaaaFrA
namespace Go.Proofs.Ytenoaljghbpaaaa
open Go.RowKit
set_option linter.unusedVariables false
set_option linter.unusedSimpArgs false

def frsB (l : List Frm) : List UInt8 := l.flatMap frB
def frFits (l : List Frm) : Prop := ∀ a ∈ l, a.rawb.length ≤ 16384
theorem frB_len (a : Frm) (h : a.rawb.length ≤ 16384) : (frB a).length ≤ 16393 := by unfold frB; simp [bes]; omega
theorem frsB_snoc (l : List Frm) (k : Nat) (h : k < l.length) : frsB (l.take (k + 1)) = frsB (l.take k) ++ frB l[k] := by
  unfold frsB
  rw [List.take_succ_eq_append_getElem h, List.flatMap_append]
  simp
theorem frsB_len (l : List Frm) (h : frFits l) : (frsB l).length ≤ 16393 * l.length := by
  induction l with
  | nil => simp [frsB]
  | cons a l ih =>
    have h1 := frB_len a (h a (by simp))
    have h2 := ih fun x hx => h x (by simp [hx])
    simp only [frsB, List.flatMap_cons, List.length_append, List.length_cons] at *
    omega
/-- What Writes answers. -/
def WritesPost (w : World) (b0 : List UInt8) (l : List Frm) (e : Ending) (w' : World) : Prop :=
  (frFits l ∧ ∃ v', e = .returned (.tuple #[v', .int .i64 0]) ∧ ApB w' w.heap.size v' (b0 ++ frsB l) ∧ Below w.heap.size w w') ∨
  (¬ frFits l ∧ e = .returned (.tuple #[.slice none 0 0, .int .i64 30]) ∧ Below w.heap.size w w')
set_option maxRecDepth 100000 in
set_option maxHeartbeats 8000000 in
theorem refWrites_any (bV v : Value) (b0 : List UInt8) (l : List Frm) (w : World) (hb : ApB w w.heap.size bV b0) (hv : Rows 4 frvl w v l) (hok : ∀ a ∈ l, frOk a ∧ frBs w a) (hbl : b0.length ≤ 100000) (hll : l.length ≤ 20) :
    Calls Try.prog 23 #[bV, v] w (WritesPost w b0 l) := by
  have HV := Bx.mk hv
  have HOK := Bx.mk hok
  have hlen := fun tr W => frs_len hv tr W
  obtain ⟨m, hm⟩ : ∃ n, l.length = n := ⟨_, rfl⟩
  rw [hm] at hlen hll
  have HM := Bx.mk (And.intro hm hbl)
  have HBV := Bx.mk hb
  clear hv hok hm hb hbl
  go_enter Try.func23, Try.ntmps23
  go_wp2_with fail
  go_loopg [0, 6] m (fun g s0 s6 wx => ∃ (k : Nat), k + g = m ∧ s6 = .int .i64 k ∧ Bx (ApB wx w.heap.size s0 (b0 ++ frsB (l.take k))) ∧ Bx (Below w.heap.size w wx) ∧ Bx (frFits (l.take k)))
  case atStart => exact ⟨0, by omega, rfl, ⟨by rw [List.take_zero]; unfold frsB; rw [List.flatMap_nil, List.append_nil]; exact HBV.out⟩, ⟨Below.refl _ _⟩, ⟨fun a ha => by simp at ha⟩⟩
  case round =>
    obtain ⟨k, hkg, rfl, HB, HK, HF⟩ := hrel
    cases gk with
    | zero =>
      obtain rfl : k = m := by omega
      have hkd : decide ((k : Int) < (k : Int)) = false := by simp
      have hkd' : decide (k < k) = false := by simp
      have HT : Bx (l.take k = l) := ⟨List.take_of_length_le (by have := HM.out.1; omega)⟩
      go_wp2_with fail
      go_ret2
      refine .inl ⟨by have := HF.out; rw [HT.out] at this; exact this, _, rfl, ?_, HK.out⟩
      have := HB.out
      rw [HT.out] at this
      exact this
    | succ g =>
      have hkm : k < m := by omega
      have hkl : k < l.length := by have := HM.out.1; omega
      have hkd : decide ((k : Int) < (m : Int)) = true := decide_eq_true (by omega)
      have hkd' : decide (k < m) = true := decide_eq_true hkm
      have HWK : Bx (wrap64 ((k : Int) + 1) = ((k + 1 : Nat) : Int)) := ⟨by unfold wrap64; omega⟩
      have HKG := Bx.mk hkg
      obtain ⟨b, o, hix0, hcs⟩ := frs_at HV.out k hkl
      have hix := hix0 .i64
      have hao := HOK.out l[k] (List.getElem_mem hkl)
      have HSN := Bx.mk (frsB_snoc l k hkl)
      have HTK : Bx (l.take (k + 1) = l.take k ++ [l[k]]) := ⟨List.take_succ_eq_append_getElem hkl⟩
      have HIN : Bx (l[k] ∈ l) := ⟨List.getElem_mem hkl⟩
      have hbl1 : (b0 ++ frsB (l.take k)).length ≤ 500000 := by
        have h1 := frsB_len _ HF.out
        have h2 := HM.out.2
        rw [List.length_take] at h1
        rw [List.length_append]
        have : 16393 * min k l.length ≤ 16393 * 20 := Nat.mul_le_mul_left _ (by omega)
        omega
      obtain ⟨c0, c1, c2, c3⟩ := hcs wr (HV.out.keep HK.out)
      obtain ⟨a, ha⟩ : ∃ a, l[k] = a := ⟨_, rfl⟩
      rw [ha] at hao HSN HTK HIN c0 c1 c2 c3
      clear ha hcs hix0 hkm hkl hkg
      by_cases hfit : a.rawb.length ≤ 16384
      · go_wp2_with (go_at_call 74; refine (refWrite_any w _ (b0 ++ frsB (l.take k)) a wr HK.out HB.out hbl1 hao.1 hao.2 hfit).mono ?_; rintro e w2 ⟨v2, rfl, h2, b2, n2⟩; have H2 := Bx.mk h2; have HB2 := Bx.mk b2; clear h2 b2 n2)
        go_roundg g
        case measure => omega
        case rel =>
          refine ⟨k + 1, by have := HKG.out; omega, by rw [HWK.out], ⟨?_⟩, HB2, ⟨?_⟩⟩
          · rw [HSN.out, ← List.append_assoc]; exact H2.out
          · rw [HTK.out]
            intro x hx
            rcases List.mem_append.1 hx with h | h
            · exact HF.out x h
            · rw [List.mem_singleton] at h; rw [h]; exact hfit
      · go_wp2_with (go_at_call 74; refine (refWrite_great _ a wr (Rd.keep hao.2 HK.out) (by omega)).mono ?_; rintro e w2 ⟨rfl, b2⟩; have HB2 := Bx.mk (HK.out.trans (b2.mono HK.out.size)); clear b2)
        go_ret2
        exact .inr ⟨fun h => hfit (h a HIN.out), rfl, HB2.out⟩
end Go.Proofs.Ytenoaljghbpaaaa
