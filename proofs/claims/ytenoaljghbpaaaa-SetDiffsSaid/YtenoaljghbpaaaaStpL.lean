/-
  bifoldlaw13's known answers true.
-/
import Derived.Test.YtenoaljghbpaaaaStpK
namespace Go.Proofs.Ytenoaljghbpaaaa
open Go.RowKit
set_option linter.unusedVariables false
set_option linter.unusedSimpArgs false

/-- A block of settings, its cells. -/
theorem Sb.cells6 {w w' : World} {g B : Nat} {S : Nat → Nat} (h : Sb 57 w g (arrH S)) (hb : Below B w w') (hg : g < B) :
    w'.cell? ⟨g, 0, none⟩ = some (.int .u64 (S 1 : Int)) ∧ w'.cell? ⟨g, 1, none⟩ = some (.int .u64 (S 2 : Int)) ∧ w'.cell? ⟨g, 2, none⟩ = some (.int .u64 (S 3 : Int)) ∧
    w'.cell? ⟨g, 3, none⟩ = some (.int .u64 (S 4 : Int)) ∧ w'.cell? ⟨g, 4, none⟩ = some (.int .u64 (S 5 : Int)) ∧ w'.cell? ⟨g, 5, none⟩ = some (.int .u64 (S 6 : Int)) := by
  have h2 := h.below hb hg
  exact ⟨h2.cell 0, h2.cell 1, h2.cell 2, h2.cell 3, h2.cell 4, h2.cell 5⟩
def knS : Nat → Nat := setP (setP defS 4 7) 99 1
theorem knS_ap : apS defS [⟨4, 7⟩, ⟨99, 1⟩] = (knS, 0) := rfl
theorem knS_ap2 : apS knS [⟨4, 2147483648⟩] = (noS, 31) := rfl
theorem knS_d : dTo defS knS 6 = [⟨4, 7⟩] := rfl
set_option maxRecDepth 100000 in
set_option maxHeartbeats 4000000 in
theorem known13_any (w : World) : Calls Try.prog 34 #[] w fun e w' => e = .returned (.bool true) ∧ Below w.heap.size w w' := by
  have HD := Bx.mk (fun W => pDefault_any W)
  have HA1 := Bx.mk (fun (v : Value) (W : World) (hv : Rows 2 sgvl W v [⟨4, 7⟩, ⟨99, 1⟩]) => pApply_any defS v [⟨4, 7⟩, ⟨99, 1⟩] W hv (by intro a ha; simp at ha; rcases ha with rfl | rfl <;> exact ⟨by decide, by decide⟩))
  rw [knS_ap] at HA1
  have HA2 := Bx.mk (fun (v : Value) (W : World) (hv : Rows 2 sgvl W v [⟨4, 2147483648⟩]) => pApply_any knS v [⟨4, 2147483648⟩] W hv (by intro a ha; simp at ha; subst ha; exact ⟨by decide, by decide⟩))
  rw [knS_ap2] at HA2
  have HDF := Bx.mk (fun W => pDiff_any defS knS W)
  rw [knS_d] at HDF
  have HR1 := Bx.mk (fun W : World => Rows.lit (k := 2) (f := sgvl) W 63 [(⟨4, 7⟩ : Stg), ⟨99, 1⟩] #[.int .u64 4, .int .u64 7, .int .u64 99, .int .u64 1] 2 rfl rfl rfl (by unfold maxLen; omega))
  have HR2 := Bx.mk (fun W : World => Rows.lit (k := 2) (f := sgvl) W 63 [(⟨4, 2147483648⟩ : Stg)] #[.int .u64 4, .int .u64 2147483648] 1 rfl rfl rfl (by unfold maxLen; omega))
  go_enter Try.func34, Try.ntmps34
  go_upto_region 2 with (first
    | (go_at_call 40; refine (HD.out _).mono ?_; rintro e w1 ⟨rfl, b1⟩; have HB1 := Bx.mk b1; have HL1 := Bx.mk (HR1.out w1); have HB2 := Bx.mk (HB1.out.alloc HB1.out.size (.cells #[.int .u64 4, .int .u64 7, .int .u64 99, .int .u64 1] 63)); clear b1)
    | (go_at_call 38; refine (HA1.out _ _ HL1.out).mono ?_; rintro e w3 ⟨rfl, b3⟩; have HB3 := Bx.mk (HB2.out.trans (b3.mono HB2.out.size)); clear b3))
  have HS1 : Bx (Sb 57 (w3.alloc (.cells (arrH knS) 57)) w3.heap.size (arrH knS)) := ⟨Sb.new _ w3 _⟩
  have HBA := Bx.mk (HB3.out.alloc HB3.out.size (.cells (arrH knS) 57))
  obtain ⟨g1, hg1⟩ : ∃ g, w3.heap.size = g := ⟨_, rfl⟩
  obtain ⟨wA, hwA⟩ : ∃ W, w3.alloc (.cells (arrH knS) 57) = W := ⟨_, rfl⟩
  rw [hwA] at HS1 HBA ⊢
  rw [hg1] at HS1 ⊢
  have HG1 : Bx (g1 < wA.heap.size) := ⟨HS1.out.lt⟩
  have hx0 := fun (W : World) (h : Below wA.heap.size wA W) => (HS1.out.cells6 h HG1.out).1
  have hx1 := fun (W : World) (h : Below wA.heap.size wA W) => (HS1.out.cells6 h HG1.out).2.1
  have hx2 := fun (W : World) (h : Below wA.heap.size wA W) => (HS1.out.cells6 h HG1.out).2.2.1
  have hx3 := fun (W : World) (h : Below wA.heap.size wA W) => (HS1.out.cells6 h HG1.out).2.2.2.1
  have hx4 := fun (W : World) (h : Below wA.heap.size wA W) => (HS1.out.cells6 h HG1.out).2.2.2.2.1
  have hx5 := fun (W : World) (h : Below wA.heap.size wA W) => (HS1.out.cells6 h HG1.out).2.2.2.2.2
  have HX := Bx.mk (And.intro hx0 (And.intro hx1 (And.intro hx2 (And.intro hx3 (And.intro hx4 hx5)))))
  clear hx0 hx1 hx2 hx3 hx4 hx5 hwA hg1 HB1 HL1 HB2 HB3 HA1 HR1
  have HL2 := Bx.mk (HR2.out wA)
  have HC2 := Bx.mk ((Below.refl wA.heap.size wA).alloc (Nat.le_refl _) (.cells #[.int .u64 4, .int .u64 2147483648] 63))
  go_upto_region 3 with (first
    | (with_reducible refine wpList_loadH g1 knS rfl HS1.out ?_)
    | (go_at_call 38; refine (HA2.out _ _ HL2.out).mono ?_; rintro e w4 ⟨rfl, b4⟩; have HC4 := Bx.mk (HC2.out.trans (b4.mono HC2.out.size)); clear b4))
  have HC5 := Bx.mk (HC4.out.alloc HC4.out.size (.cells (arrH noS) 57))
  obtain ⟨wB, hwB⟩ : ∃ W, w4.alloc (.cells (arrH noS) 57) = W := ⟨_, rfl⟩
  rw [hwB] at HC5 ⊢
  clear hwB HC4 HC2 HL2 HA2 HR2
  obtain ⟨hx0, hx1, hx2, hx3, hx4, hx5⟩ := HX.out
  have hS0 : Below wA.heap.size wA wB.drew := HC5.out.trans ((Below.refl wB.heap.size wB).drew.mono HC5.out.size)
  go_region_held (fun W => Below wA.heap.size wA W) (first | assumption | exact hS0)
    (first
      | (go_at_call 40; refine (HD.out _).mono ?_; rintro e w5 ⟨rfl, b5⟩; have hS5 : Below wA.heap.size wA w5 := hS0.trans (b5.mono hS0.size); clear b5)
      | (go_at_call 35; refine (HDF.out _).mono ?_; rintro e w6 ⟨v6, rfl, hr6, b6⟩; have hS6 : Below wA.heap.size wA w6 := hS5.trans (b6.mono hS5.size); have HR6 := Bx.mk hr6; clear hr6 b6))
  have hl6 : ∀ (tr : TypeId) (W : World), (Builtin.len_ #[48] tr #[v6]).run Try.prog W = .ok (.int .i64 1) W := fun tr W => sgs_len HR6.out tr W
  obtain ⟨b, o, hix0, hcs⟩ := sgs_at HR6.out 0 (by simp)
  have hix : ∀ W : World, (Instr.indexAt 48 v6 (.int .i64 0)).run Try.prog W = .ok (.pointer (some ⟨b, o, none⟩)) W := fun W => hix0 .i64 W
  have c0 : w6.cell? ⟨b, o, none⟩ = some (.int .u64 4) := (hcs w6 HR6.out).1
  have c1 : w6.cell? ⟨b, o + 1, none⟩ = some (.int .u64 7) := (hcs w6 HR6.out).2
  have y0 : w6.cell? ⟨g1, 0, none⟩ = some (.int .u64 4096) := hx0 w6 hS6
  have y3 : w6.cell? ⟨g1, 3, none⟩ = some (.int .u64 7) := hx3 w6 hS6
  clear hx0 hx1 hx2 hx3 hx4 hx5 HX hix0 hcs
  go_wp2_with fail
  go_ret
  exact ⟨rfl, HBA.out.trans (hS6.mono HBA.out.size)⟩
end Go.Proofs.Ytenoaljghbpaaaa
