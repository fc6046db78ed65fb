/-
  QUIC's frames, the document's writing: numbers that fit, numbers written.
-/
import Derived.Test.YtcakppdabolfiaaNumF
import Derived.Test.YtcakppdabolfiaaQfMath
import Derived.Test.YtcakppdabolfiaaStep
import Derived.Deep.LoopGhost
import Derived.Deep.RegionWith
import Derived.Deep.CutBlock
import Derived.Handy
namespace Go.Proofs.Ytcakppdabolfiaa
open Go.RowKit
set_option linter.unusedVariables false
set_option linter.unusedSimpArgs false

/-- A number as it lies in a row. -/
def nv (x : Nat) : Value := .int .u64 (x : Int)
def allN (l : List Nat) : Prop := ∀ x ∈ l, x < 18446744073709551616
def fitsN (l : List Nat) : Prop := ∀ x ∈ l, x ≤ mv
instance (l : List Nat) : Decidable (fitsN l) := inferInstanceAs (Decidable (∀ x ∈ l, x ≤ mv))
theorem nv_uv (l : List Nat) (h : allN l) : l.map nv = (l.map UInt64.ofNat).map uv := by
  rw [List.map_map]
  refine List.map_congr_left fun x hx => ?_
  have := h x hx
  show nv x = uv (UInt64.ofNat x)
  unfold nv uv
  rw [UInt64.toNat_ofNat', Nat.mod_eq_of_lt this]
theorem varsB_ofNat (l : List Nat) (h : allN l) : varsB (l.map UInt64.ofNat) = wVars l := by
  induction l with
  | nil => rfl
  | cons x l ih =>
    have h1 := h x (by simp)
    have h2 := ih fun y hy => h y (by simp [hy])
    rw [wVars_cons, ← h2]
    unfold varsB
    rw [List.map_cons, List.flatMap_cons, UInt64.toNat_ofNat', Nat.mod_eq_of_lt h1]
theorem small_ofNat (l : List Nat) (h : allN l) (hf : fitsN l) : ∀ x ∈ l.map UInt64.ofNat, small x := by
  intro x hx
  obtain ⟨y, hy, rfl⟩ := List.mem_map.1 hx
  have h1 := hf y hy
  unfold mv at h1
  unfold small
  rw [UInt64.toNat_ofNat']
  omega
set_option maxHeartbeats 4000000 in
theorem refFit_any (v : Value) (l : List Nat) (w : World) (hv : Rd w v (l.map nv)) (hl : allN l) (hll : l.length ≤ 100) :
    Calls Try.prog 96 #[v] w fun e w' => e = .returned (.bool (decide (fitsN l))) ∧ w' = w := by
  have HL := Bx.mk hl
  have HV := Bx.mk hv
  rw [nv_uv l hl] at hv
  obtain ⟨A, L, c, rfl, hL, h1, h2, h3, h4⟩ := Us.open_ hv
  have HU := Bx.mk hv
  rw [List.length_map] at h3 h4
  have HL2 : Bx (l.length = L) := ⟨by omega⟩
  clear hL h3 h4 hl hv
  unfold maxLen at h2
  go_enter Try.func96, Try.ntmps96
  go_wp2_with fail
  go_loopg [3] L (fun g s3 wx => wx = w ∧ ∃ (k : Nat), k + g = L ∧ s3 = .int .i64 k ∧ Bx (fitsN (l.take k)))
  case atStart => exact ⟨rfl, 0, by omega, rfl, ⟨fun x hx => by simp at hx⟩⟩
  case round =>
    obtain ⟨rfl, k, hkg, rfl, HF⟩ := hrel
    cases gk with
    | zero =>
      obtain rfl : k = L := by omega
      have hkd : decide ((k : Int) < (k : Int)) = false := by simp
      have hkd' : decide (k < k) = false := by simp
      have HE : Bx (decide (fitsN l) = true) := ⟨by have := HF.out; rw [List.take_of_length_le (by have := HL2.out; omega)] at this; exact decide_eq_true this⟩
      go_wp2_with fail
      go_ret
      exact ⟨by rw [HE.out]; rfl, rfl⟩
    | succ g =>
      have hkl : k < l.length := by have := HL2.out; omega
      have hkd : decide ((k : Int) < (L : Int)) = true := decide_eq_true (by omega)
      have hkd' : decide (k < L) = true := decide_eq_true (by omega)
      have HWK : Bx (wrap64 ((k : Int) + 1) = ((k + 1 : Nat) : Int)) := ⟨by unfold wrap64; omega⟩
      obtain ⟨b, o, rfl⟩ := Rd.place HU.out (by simp; omega)
      have hc := Us.cell HU.out k (by simp; exact hkl)
      have hxl := HL.out l[k] (List.getElem_mem hkl)
      obtain ⟨x, hx⟩ : ∃ x, l[k] = x := ⟨_, rfl⟩
      have HX := Bx.mk hx
      rw [List.getElem_map, UInt64.toNat_ofNat', Nat.mod_eq_of_lt hxl, hx] at hc
      rw [hx] at hxl
      clear hx
      have HKG := Bx.mk hkg
      by_cases hs : x ≤ 4611686018427387903
      · have hd : decide ((4611686018427387903 : Int) < (x : Int)) = false := decide_eq_false (by omega)
        have hd' : decide (4611686018427387903 < x) = false := decide_eq_false (by omega)
        go_wp2_with fail
        go_roundg g
        case measure => exact Nat.lt_succ_self _
        case rel =>
          refine ⟨rfl, k + 1, by have := HKG.out; omega, by first | rfl | (rw [HWK.out]) | (congr 1), ⟨?_⟩⟩
          rw [List.take_succ_eq_append_getElem hkl]
          intro y hy
          rcases List.mem_append.1 hy with hy | hy
          · exact HF.out y hy
          · simp at hy; subst hy; rw [HX.out]; exact hs
      · have hd : decide ((4611686018427387903 : Int) < (x : Int)) = true := decide_eq_true (by omega)
        have hd' : decide (4611686018427387903 < x) = true := decide_eq_true (by omega)
        have HE : Bx (decide (fitsN l) = false) := ⟨decide_eq_false fun h => hs (by have := h l[k] (List.getElem_mem hkl); rw [HX.out] at this; exact this)⟩
        go_wp2_with fail
        go_ret
        exact ⟨by rw [HE.out]; rfl, rfl⟩
set_option maxHeartbeats 4000000 in
theorem refPut_ok (B : Nat) (bV lV : Value) (bl : List UInt8) (l : List Nat) (w : World) (hb : ApB w B bV bl) (hB : B ≤ w.heap.size) (hlB : ∀ (w' : World), Below B w w' → Rd w' lV (l.map nv)) (hbl : bl.length ≤ 100000) (hll : l.length ≤ 100) (hl : fitsN l) :
    Calls Try.prog 77 #[bV, lV] w fun e w' => ∃ v', e = .returned v' ∧ ApB w' B v' (bl ++ wVars l) ∧ Below B w w' := by
  have hal : allN l := fun x hx => by have := hl x hx; unfold mv at this; omega
  have HC := refVars_any B bV lV bl (l.map UInt64.ofNat) w hb hB (fun w' h => by rw [← nv_uv l hal]; exact hlB w' h) hbl (by simp; omega)
  have HS := Bx.mk (small_ofNat l hal hl)
  have HV := Bx.mk (varsB_ofNat l hal)
  clear hb hlB hl hal
  go_enter Try.func77, Try.ntmps77
  go_wp2_with (go_at_call 41; refine HC.mono ?_; rintro e w' (⟨_, v', rfl, h1, h2⟩ | ⟨h0, -, -⟩); have H1 := Bx.mk h1; have H2 := Bx.mk h2; clear h1 h2; rotate_left; exact absurd HS.out h0)
  go_ret
  exact ⟨_, rfl, by have := H1.out; rw [HV.out] at this; exact this, H2.out⟩
theorem refOne01 (b : Bool) (w : World) : Calls Try.prog 95 #[.bool b] w fun e w' => e = .returned (.int .u64 (b2n b : Int)) ∧ w' = w := by
  go_enter Try.func95, Try.ntmps95
  cases b
  all_goals go_wp2
  all_goals go_ret
  all_goals exact ⟨rfl, rfl⟩
end Go.Proofs.Ytcakppdabolfiaa
