/-
  bifoldlaw15.StreamSides answers true, whatever its arguments: the walk.
-/
import Derived.Test.YtenoaljghbpaaaaSsK
import Derived.Test.YtenoaljghbpaaaaRcW
import Derived.Test.YtenoaljghbpaaaaUpC
import Derived.Test.YtenoaljghbpaaaaOpenB
import Derived.Test.YtenoaljghbpaaaaSlice
import Derived.Test.YtenoaljghbpaaaaStep
import Derived.Deep.RegionHeld
import Derived.Deep.CutRange
import Derived.Deep.CutBlock
import Derived.BigRegion
import Derived.RegionTactic
import Derived.Handy
namespace Go.Proofs.Ytenoaljghbpaaaa
open Go.RowKit
set_option linter.unusedVariables false
set_option linter.unusedSimpArgs false

theorem ssInv_wf {a b : Int} (h : ssInv a b = true) : (Lit.int .i64 a).wf = true ∧ (Lit.int .i64 b).wf = true := by
  rcases ssInv_cases h with ⟨rfl, rfl⟩ | ⟨rfl, rfl⟩ | ⟨rfl, rfl⟩ | ⟨rfl, rfl⟩ | ⟨rfl, rfl⟩ <;> exact ⟨rfl, rfl⟩
/-- The frame's cells, wherever it lies. -/
def FrC (g : Nat) (T F : Int) (W : World) : Prop := W.cell? ⟨g, 0, none⟩ = some (.int .u8 T) ∧ W.cell? ⟨g, 1, none⟩ = some (.int .u8 F) ∧ W.cell? ⟨g, 2, none⟩ = some (.int .u32 0) ∧ W.cell? ⟨g, 3, none⟩ = some (.slice none 0 0)
theorem one_allS {v : Value} : ∀ i, i < #[v].size → #[v][i]? = some v := fun i hi => by
  obtain rfl : i = 0 := by simpa using hi
  rfl
theorem ssTy_lt (q : Nat) (h : q < 8) : ssTy[q]'h < 256 := by
  have key : ∀ q : Fin 8, ssTy[q.val]'(q.isLt) < 256 := by decide
  exact key ⟨q, h⟩
abbrev Cl (g : Nat) (n : Int) : Wx := Rec g 3 1 (fun _ => .int .i64 n)
theorem Cl.cell {g : Nat} {n : Int} {w : World} {S : Nat → Prop} (h : Cl g n w S) : w.cell? ⟨g, 0, none⟩ = some (.int .i64 n) := Rec.cell h 0 (by omega)
/-- Both are stored into. -/
theorem cl_store {B ga gb : Nat} {a b : Int} (x y : Int) {w : World} (h : Up B (Both (Cl ga a) (Cl gb b)) w) (hB : B ≤ w.heap.size) :
    (Up B (Both (Cl ga x) (Cl gb y)) ((w.setCell ⟨ga, 0, none⟩ (.int .i64 x)).setCell ⟨gb, 0, none⟩ (.int .i64 y)) ∧ Below B w ((w.setCell ⟨ga, 0, none⟩ (.int .i64 x)).setCell ⟨gb, 0, none⟩ (.int .i64 y))) ∧
    (Up B (Both (Cl ga x) (Cl gb y)) ((w.setCell ⟨gb, 0, none⟩ (.int .i64 y)).setCell ⟨ga, 0, none⟩ (.int .i64 x)) ∧ Below B w ((w.setCell ⟨gb, 0, none⟩ (.int .i64 y)).setCell ⟨ga, 0, none⟩ (.int .i64 x))) ∧
    w.frozen? ⟨ga, 0, none⟩ = false ∧ w.frozen? ⟨gb, 0, none⟩ = false ∧ (w.setCell ⟨ga, 0, none⟩ (.int .i64 x)).cell? ⟨gb, 0, none⟩ = some (.int .i64 b) ∧ (w.setCell ⟨ga, 0, none⟩ (.int .i64 x)).frozen? ⟨gb, 0, none⟩ = false ∧
    (w.setCell ⟨gb, 0, none⟩ (.int .i64 y)).cell? ⟨ga, 0, none⟩ = some (.int .i64 a) ∧ (w.setCell ⟨gb, 0, none⟩ (.int .i64 y)).frozen? ⟨ga, 0, none⟩ = false := by
  have hf : w.frozen? ⟨ga, 0, none⟩ = false ∧ w.frozen? ⟨gb, 0, none⟩ = false := by
    obtain ⟨S, ⟨S1, S2, q1, q2, _⟩, _⟩ := h
    exact ⟨q1.frozen 0, q2.frozen 0⟩
  obtain ⟨u1, b1⟩ : Up B (Both (Cl ga x) (Cl gb b)) (w.setCell ⟨ga, 0, none⟩ (.int .i64 x)) ∧ Below B w (w.setCell ⟨ga, 0, none⟩ (.int .i64 x)) := by
    obtain ⟨S, ⟨S1, S2, q1, q2, q3, q4⟩, q5⟩ := h
    exact Up.turn q5 hB (Both.left (Wd.rc _ _ _ _) q2 q3 q4 (Rec.put q1 0 (.int .i64 x) (fun _ => .int .i64 x) fun j hj => by rw [if_pos (by omega)]))
  obtain ⟨u2, b2⟩ : Up B (Both (Cl ga a) (Cl gb y)) (w.setCell ⟨gb, 0, none⟩ (.int .i64 y)) ∧ Below B w (w.setCell ⟨gb, 0, none⟩ (.int .i64 y)) := by
    obtain ⟨S, ⟨S1, S2, q1, q2, q3, q4⟩, q5⟩ := h
    exact Up.turn q5 hB (Both.right (Wd.rc _ _ _ _) q1 q3 q4 (Rec.put q2 0 (.int .i64 y) (fun _ => .int .i64 y) fun j hj => by rw [if_pos (by omega)]))
  obtain ⟨u3, b3⟩ : Up B (Both (Cl ga x) (Cl gb y)) ((w.setCell ⟨ga, 0, none⟩ (.int .i64 x)).setCell ⟨gb, 0, none⟩ (.int .i64 y)) ∧ Below B (w.setCell ⟨ga, 0, none⟩ (.int .i64 x)) ((w.setCell ⟨ga, 0, none⟩ (.int .i64 x)).setCell ⟨gb, 0, none⟩ (.int .i64 y)) := by
    obtain ⟨S, ⟨S1, S2, q1, q2, q3, q4⟩, q5⟩ := u1
    exact Up.turn q5 (Nat.le_trans hB b1.size) (Both.right (Wd.rc _ _ _ _) q1 q3 q4 (Rec.put q2 0 (.int .i64 y) (fun _ => .int .i64 y) fun j hj => by rw [if_pos (by omega)]))
  obtain ⟨u4, b4⟩ : Up B (Both (Cl ga x) (Cl gb y)) ((w.setCell ⟨gb, 0, none⟩ (.int .i64 y)).setCell ⟨ga, 0, none⟩ (.int .i64 x)) ∧ Below B (w.setCell ⟨gb, 0, none⟩ (.int .i64 y)) ((w.setCell ⟨gb, 0, none⟩ (.int .i64 y)).setCell ⟨ga, 0, none⟩ (.int .i64 x)) := by
    obtain ⟨S, ⟨S1, S2, q1, q2, q3, q4⟩, q5⟩ := u2
    exact Up.turn q5 (Nat.le_trans hB b2.size) (Both.left (Wd.rc _ _ _ _) q2 q3 q4 (Rec.put q1 0 (.int .i64 x) (fun _ => .int .i64 x) fun j hj => by rw [if_pos (by omega)]))
  refine ⟨⟨u3, b1.trans b3⟩, ⟨u4, b2.trans b4⟩, hf.1, hf.2, ?_, ?_, ?_, ?_⟩
  · obtain ⟨S, ⟨S1, S2, q1, q2, _⟩, _⟩ := u1; exact Cl.cell q2
  · obtain ⟨S, ⟨S1, S2, q1, q2, _⟩, _⟩ := u1; exact q2.frozen 0
  · obtain ⟨S, ⟨S1, S2, q1, q2, _⟩, _⟩ := u2; exact Cl.cell q1
  · obtain ⟨S, ⟨S1, S2, q1, q2, _⟩, _⟩ := u2; exact q1.frozen 0
theorem sl_cell (W : World) (q : Nat) (hq : q < 8) : (W.alloc (.cells #[.int .u8 1, .int .u8 0, .int .u8 1, .int .u8 0, .int .u8 3, .int .u8 8, .int .u8 2, .int .u8 9] 5)).cell? ⟨W.heap.size, q, none⟩ = some (.int .u8 ((ssTy[q]'hq : Nat) : Int)) := by
  match q, hq with
  | 0, _ => simp [ssTy]
  | 1, _ => simp [ssTy]
  | 2, _ => simp [ssTy]
  | 3, _ => simp [ssTy]
  | 4, _ => simp [ssTy]
  | 5, _ => simp [ssTy]
  | 6, _ => simp [ssTy]
  | 7, _ => simp [ssTy]
theorem sl_index (g q : Nat) (hq : q < 8) (W : World) : (Instr.indexAt 22 (.slice (some ⟨g, 0, none⟩) 8 8) (.int .u8 (q : Int))).run Try.prog W = .ok (.pointer (some ⟨g, q, none⟩)) W := by
  simp [Instr.indexAt, asIntOf, run_underlying Try.underlying22, Sem.run_bind, hq, Result.andThen]
  simp [Addr.add]
  try (intro h; exact h.symm)
set_option maxRecDepth 100000 in
set_option maxHeartbeats 16000000 in
theorem streamSides_walk (v0 : Value) (l : List UInt8) (w : World) (hv : Bs w v0 l) :
    Calls Try.prog 16 #[v0] w fun e w' => e = .returned (.bool true) ∧ Below w.heap.size w w' := by
  have HV := Bx.mk hv
  have hlen := fun tr W => hv.run_len tr W
  have hmx := Rd.len hv
  simp only [List.length_map, maxLen] at hmx
  obtain ⟨m, hm⟩ : ∃ n, l.length = n := ⟨_, rfl⟩
  rw [hm] at hlen hmx
  have HM := Bx.mk hm
  have HK := Bx.mk (known15_any w)
  clear hv hm
  by_cases hbig : 40 < m
  · have hbb : decide (40 < (m : Int)) = true := decide_eq_true (by omega)
    have hbb' : decide (40 < m) = true := decide_eq_true hbig
    clear hbig hmx
    go_enter Try.func16, Try.ntmps16
    go_wp2_with (go_at_call 61; refine HK.out.mono ?_; rintro e w1 ⟨rfl, b1⟩; have HB1 := Bx.mk b1; clear b1)
    go_ret
    exact ⟨rfl, HB1.out⟩
  have hbb : decide (40 < (m : Int)) = false := decide_eq_false (by omega)
  have hbb' : decide (40 < m) = false := decide_eq_false hbig
  have HM60 : Bx (m ≤ 40) := ⟨by omega⟩
  clear hbig hmx
  go_enter Try.func16, Try.ntmps16
  go_upto_region 6 with (go_at_call 61; refine HK.out.mono ?_; rintro e w1 ⟨rfl, b1⟩; have HB1 := Bx.mk b1; clear b1)
  obtain ⟨ga, hga⟩ : ∃ g, w1.heap.size = g := ⟨_, rfl⟩
  obtain ⟨gb, hgb⟩ : ∃ g, w1.heap.size + 1 = g := ⟨_, rfl⟩
  have HU3 : Bx (Up w1.heap.size (Both (Cl ga 0) (Cl gb 0)) ((w1.alloc (.cells #[.int .i64 0] 3)).alloc (.cells #[.int .i64 0] 3))) := ⟨by
    have h1 := Rec.made w1 #[.int .i64 0] 3 (fun _ => .int .i64 0) one_allS
    have h2 := Rec.made (w1.alloc (.cells #[.int .i64 0] 3)) #[.int .i64 0] 3 (fun _ => .int .i64 0) one_allS
    have h3 := Up.add (Wd.rc _ _ _ _) h1 (by simp) ((Below.refl _ _).alloc (Nat.le_refl _) _) h2
    rw [← hga, ← hgb]
    rw [show (w1.alloc (.cells #[.int .i64 0] 3)).heap.size = w1.heap.size + 1 from by simp] at h3
    exact h3⟩
  have HB3 : Bx (Below w1.heap.size w1 ((w1.alloc (.cells #[.int .i64 0] 3)).alloc (.cells #[.int .i64 0] 3))) := ⟨((Below.refl _ _).alloc (Nat.le_refl _) _).alloc (by simp) _⟩
  obtain ⟨w3, hw3⟩ : ∃ W, (w1.alloc (.cells #[.int .i64 0] 3)).alloc (.cells #[.int .i64 0] 3) = W := ⟨_, rfl⟩
  rw [hw3] at HU3 HB3 ⊢
  rw [hgb, hga]
  clear hw3 hgb
  go_wp2_with fail
  go_loopg [5] m (fun g s5 wx => ∃ (i : Nat) (a b : Int), i + g = m ∧ s5 = .int .i64 i ∧ Bx (ssInv a b = true) ∧ Bx (Up w1.heap.size (Both (Cl ga a) (Cl gb b)) wx) ∧ Bx (Below w1.heap.size w1 wx))
  case atStart => exact ⟨0, 0, 0, by omega, rfl, ⟨rfl⟩, HU3, HB3⟩
  case round =>
    clear HU3 HB3 hga
    obtain ⟨i, a, b, hig, rfl, HI, HU, HB⟩ := hrel
    cases gk with
    | zero =>
      obtain rfl : i = m := by omega
      have hkd : decide ((i : Int) < (i : Int)) = false := by simp
      have hkd' : decide (i < i) = false := by simp
      go_wp2_with fail
      go_ret
      exact ⟨rfl, HB1.out.trans (HB.out.mono HB1.out.size)⟩
    | succ g =>
      have hkm : i < m := by omega
      have hkl : i < l.length := by have := HM.out; omega
      have hkd : decide ((i : Int) < (m : Int)) = true := decide_eq_true (by omega)
      have hkd' : decide (i < m) = true := decide_eq_true hkm
      have hk60 := HM60.out
      have HWK : Bx (wrap64 ((i : Int) + 1) = ((i + 1 : Nat) : Int)) := ⟨by unfold wrap64; omega⟩
      have HKG := Bx.mk hig
      obtain ⟨pa, hix, hcs⟩ := HV.out.at_ i hkl
      obtain ⟨U, hU⟩ : ∃ U, l[i].toNat = U := ⟨_, rfl⟩
      have hU256 : U < 256 := by rw [← hU]; exact l[i].toNat_lt
      simp only [hU] at hcs
      obtain ⟨q, hq⟩ : ∃ q, U / 4 % 8 = q := ⟨_, rfl⟩
      obtain ⟨fl, hfl⟩ : ∃ q, U / 2 % 2 = q := ⟨_, rfl⟩
      obtain ⟨sd, hsd⟩ : ∃ q, U % 2 = q := ⟨_, rfl⟩
      have hq8 : q < 8 := by omega
      obtain ⟨UI, hUI⟩ : ∃ X : Int, (U : Int) = X := ⟨_, rfl⟩
      obtain ⟨D4, hD4⟩ : ∃ X : Int, ((U / 4 : Nat) : Int) = X := ⟨_, rfl⟩
      obtain ⟨D2, hD2⟩ : ∃ X : Int, ((U / 2 : Nat) : Int) = X := ⟨_, rfl⟩
      obtain ⟨FI, hFI⟩ : ∃ X : Int, (fl : Int) = X := ⟨_, rfl⟩
      obtain ⟨SI, hSI⟩ : ∃ X : Int, (sd : Int) = X := ⟨_, rfl⟩
      simp only [hUI] at hcs
      have f1 : UI.tdiv 4 = D4 := by rw [← hUI, ← hD4, Int.tdiv_eq_ediv_of_nonneg (by omega)]; omega
      have f2 : D4.tmod 8 = (q : Int) := by rw [← hD4, Int.tmod_eq_emod_of_nonneg (by omega)]; omega
      have f3 : UI.tdiv 2 = D2 := by rw [← hUI, ← hD2, Int.tdiv_eq_ediv_of_nonneg (by omega)]; omega
      have f4 : D2.tmod 2 = FI := by rw [← hD2, ← hFI, Int.tmod_eq_emod_of_nonneg (by omega)]; omega
      have f5 : UI.tmod 2 = SI := by rw [← hUI, ← hSI, Int.tmod_eq_emod_of_nonneg (by omega)]; omega
      have g1 : IntKind.u8.wrap D4 = D4 := by rw [IntKind.wrap_u8]; omega
      have g2 : IntKind.u8.wrap D2 = D2 := by rw [IntKind.wrap_u8]; omega
      have g3 : IntKind.u8.wrap FI = FI := by rw [IntKind.wrap_u8]; omega
      have g4 : IntKind.u8.wrap SI = SI := by rw [IntKind.wrap_u8]; omega
      have HCS : Bx (∀ W, Below w1.heap.size w1 W → W.cell? pa = some (.int .u8 UI)) := ⟨fun W hW => hcs W (Rd.keep HV.out (HB1.out.trans (hW.mono HB1.out.size)))⟩
      have c0 := HCS.out wr HB.out
      have HSTEP := Bx.mk (ss_step a b HI.out ⟨q, hq8⟩ ⟨fl, by omega⟩)
      have HTY := Bx.mk (ssTy_lt q hq8)
      have HFL : Bx (fl < 256 ∧ (fl : Int) = FI) := ⟨by omega, hFI⟩
      have hsd2 : SI = 0 ∨ SI = 1 := by omega
      obtain ⟨ty, hty⟩ : ∃ t, ssTy[q]'hq8 = t := ⟨_, rfl⟩
      obtain ⟨TI, hTI⟩ : ∃ X : Int, (ty : Int) = X := ⟨_, rfl⟩
      simp only [hty] at HSTEP HTY
      have HTI : Bx ((ty : Int) = TI) := ⟨hTI⟩
      clear hcs hU hU256 hq hfl hsd hUI hD4 hD2 hFI hSI hkm hkl hk60 hig
      go_upto_region 9 with fail
      go_cut [6] from 24 to 39 (fun s6 wx => ∃ gF : Nat, s6 = .pointer (some ⟨gF, 0, none⟩) ∧ Bx (∀ W, Below wx.heap.size wx W → FrC gF TI FI W) ∧ Bx (Below wr.heap.size wr wx))
      case first =>
        obtain ⟨fr0, hfr0⟩ : ∃ o, Obj.cells #[.int .u8 0, .int .u8 0, .int .u32 0, .slice none 0 0] 28 = o := ⟨_, rfl⟩
        obtain ⟨sl0, hsl0⟩ : ∃ o, Obj.cells #[.int .u8 1, .int .u8 0, .int .u8 1, .int .u8 0, .int .u8 3, .int .u8 8, .int .u8 2, .int .u8 9] 5 = o := ⟨_, rfl⟩
        have dA := HCS.out (wr.alloc fr0).drew (HB.out.alloc HB.out.size _).drew
        have dB := HCS.out (wr.alloc sl0).drew (HB.out.alloc HB.out.size _).drew
        have dC := HCS.out ((wr.alloc fr0).alloc sl0).drew ((HB.out.alloc HB.out.size _).alloc (by have := HB.out.size; simp; omega) _).drew
        have dD := HCS.out ((wr.alloc sl0).alloc fr0).drew ((HB.out.alloc HB.out.size _).alloc (by have := HB.out.size; simp; omega) _).drew
        have dE := HCS.out wr.drew HB.out.drew
        have dF := HCS.out (wr.alloc fr0) (HB.out.alloc HB.out.size _)
        have dG := HCS.out (wr.alloc sl0) (HB.out.alloc HB.out.size _)
        have s1 := sl_cell wr q hq8
        have s2 := sl_cell (wr.alloc fr0) q hq8
        rw [hty, hTI, hsl0] at s1 s2
        have s3 : (wr.alloc sl0).drew.cell? ⟨wr.heap.size, q, none⟩ = some (.int .u8 TI) := s1
        have s4 : ((wr.alloc sl0).alloc fr0).drew.cell? ⟨wr.heap.size, q, none⟩ = some (.int .u8 TI) := by
          rw [← s1]
          exact ((Below.refl _ _).alloc (Nat.le_refl _) fr0).cell (by simp)
        have hss : (wr.alloc fr0).heap.size = wr.heap.size + 1 := by simp
        rw [hss] at s2
        have s5 : ((wr.alloc fr0).alloc sl0).drew.cell? ⟨wr.heap.size + 1, q, none⟩ = some (.int .u8 TI) := s2
        have s6 := sl_index wr.heap.size q hq8
        have s7 := sl_index (wr.heap.size + 1) q hq8
        obtain ⟨QI, hQI⟩ : ∃ X : Int, (q : Int) = X := ⟨_, rfl⟩
        rw [hQI] at f2 s6 s7
        have hwq : IntKind.u8.wrap QI = QI := by rw [IntKind.wrap_u8]; omega
        clear hss hQI
        subst hfr0
        subst hsl0
        clear hTI hty
        go_region
        all_goals go_wp2_with fail
        all_goals go_meet
        all_goals exact ⟨_, rfl, ⟨fun W hW => ⟨by rw [hW.cell (by first | (simp; done) | (simp; omega))]; simp, by rw [hW.cell (by first | (simp; done) | (simp; omega))]; simp, by rw [hW.cell (by first | (simp; done) | (simp; omega))]; simp, by rw [hW.cell (by first | (simp; done) | (simp; omega))]; simp⟩⟩, ⟨by go_grown⟩⟩
      case rest =>
        obtain ⟨gF, rfl, HF, HBF⟩ := hcut
        have HB4 := Bx.mk (HB.out.trans (HBF.out.mono HB.out.size))
        have HU4 := Bx.mk (HU.out.keep ((Wd.rc _ _ _ _).both (Wd.rc _ _ _ _)) HBF.out)
        have d0 := HCS.out wc HB4.out
        clear c0 HU HB HBF hTI hty f1 f2 f3 f4 g1 g2 g3
        obtain ⟨w4, hw4⟩ : ∃ W, W = wc := ⟨_, rfl⟩
        subst hw4
        rcases hsd2 with rfl | rfl
        · have HSN := Bx.mk (fun (st : Int) (v : Value) (W : World) => ss_send a ty fl st v HTY.out HFL.out.1 (ssInv_wf HI.out).1 W TI FI HTI.out HFL.out.2)
          have HRC := Bx.mk (fun (st : Int) (v : Value) (W : World) => ss_recv b ty fl st v HTY.out HFL.out.1 (ssInv_wf HI.out).2 W TI FI HTI.out HFL.out.2)
          obtain ⟨s1, e1, hse⟩ : ∃ s e, hSend a ty fl = (s, e) := ⟨_, _, rfl⟩
          obtain ⟨t1, r1, hre⟩ : ∃ s e, hRecv b ty fl = (s, e) := ⟨_, _, rfl⟩
          have HOLD := HSTEP.out.1
          unfold ssL at HOLD
          rw [hse, hre] at HOLD
          rw [hse] at HSN
          rw [hre] at HRC
          have HOLDB := Bx.mk HOLD
          clear hse hre HOLD HSTEP
          have HCX : Bx (∀ W, Up w1.heap.size (Both (Cl ga a) (Cl gb b)) W → W.cell? ⟨ga, 0, none⟩ = some (.int .i64 a) ∧ W.cell? ⟨gb, 0, none⟩ = some (.int .i64 b)) := ⟨fun W h => by
            obtain ⟨S, ⟨S1, S2, q1, q2, _⟩, _⟩ := h
            exact ⟨Cl.cell q1, Cl.cell q2⟩⟩
          go_upto_region 13 with fail
          go_cut [9, 10] from 47 to 53 (fun s9 s10 wx => s9 = .int .i64 s1 ∧ s10 = .int .i64 e1 ∧ Bx (Up w1.heap.size (Both (Cl ga a) (Cl gb b)) wx) ∧ Bx (Below w4.heap.size w4 wx))
          case first =>
            obtain ⟨x0, x1⟩ := HCX.out w4 HU4.out
            obtain ⟨x2, x3⟩ := HCX.out w4.drew (HU4.out.keep ((Wd.rc _ _ _ _).both (Wd.rc _ _ _ _)) (Below.refl _ _).drew)
            obtain ⟨y0, y1, y2, y3⟩ := HF.out w4 (Below.refl _ _)
            obtain ⟨z0, z1, z2, z3⟩ := HF.out w4.drew (Below.refl _ _).drew
            go_region_with (go_at_call 62; refine (HSN.out _ _ _).mono ?_; rintro e w5 ⟨rfl, b5⟩; have HB5 := Bx.mk b5; clear b5)
            all_goals go_wp2_with fail
            all_goals go_meet
            all_goals exact ⟨rfl, rfl, ⟨(HU4.out.keep ((Wd.rc _ _ _ _).both (Wd.rc _ _ _ _)) (Below.refl _ _).drew).keep ((Wd.rc _ _ _ _).both (Wd.rc _ _ _ _)) HB5.out⟩, ⟨(Below.refl w4.heap.size w4).drew.trans (HB5.out.mono (Below.refl w4.heap.size w4).drew.size)⟩⟩
          case rest =>
            obtain ⟨rfl, rfl, HU5, HBC⟩ := hcut
            obtain ⟨w5, hw5⟩ : ∃ W, W = wc := ⟨_, rfl⟩
            subst hw5
            have HB5 := Bx.mk (HB4.out.trans (HBC.out.mono HB4.out.size))
            have HF5 := Bx.mk (fun W (hW : Below w5.heap.size w5 W) => HF.out W (HBC.out.trans (hW.mono HBC.out.size)))
            clear HU4 HBC HF HB4 HSN d0
            have d5 := HCS.out w5 HB5.out
            obtain ⟨x0, x1⟩ := HCX.out w5 HU5.out
            obtain ⟨y0, y1, y2, y3⟩ := HF5.out w5 (Below.refl _ _)
            by_cases he : e1 = 0
            · subst he
              obtain ⟨b1, hb1⟩ : ∃ z, (TI == 1) = z := ⟨_, rfl⟩
              obtain ⟨b2, hb2⟩ : ∃ z, (a == 0) = z := ⟨_, rfl⟩
              have HBB := Bx.mk (And.intro hb1 hb2)
              have hne : ((0 : Int) != 0) = false := by simp
              go_upto_region 15 with fail
              go_cut [72] from 56 to 72 (fun s72 wx => s72 = .bool (false) ∧ wx = w5)
              case first =>
                cases b1
                case' true => cases b2
                all_goals go_wp2_with fail
                all_goals go_meet
                all_goals exact ⟨rfl, rfl⟩
              case rest =>
                obtain ⟨rfl, rfl⟩ := hcut
                clear hb1 hb2
                obtain ⟨w6, hw6⟩ : ∃ W, W = wc := ⟨_, rfl⟩
                subst hw6
                have HX : Bx ((r1 = 0 ∨ b = 4) ∧ ssInv s1 t1 = true) := ⟨by have := HOLDB.out; simpa using this⟩
                clear HOLDB
                go_upto_region 16 with fail
                go_cut [11, 12] from 74 to 80 (fun s11 s12 wx => s11 = .int .i64 t1 ∧ s12 = .int .i64 r1 ∧ Bx (Up w1.heap.size (Both (Cl ga a) (Cl gb b)) wx) ∧ Bx (Below w6.heap.size w6 wx))
                case first =>
                  obtain ⟨x2, x3⟩ := HCX.out w6.drew (HU5.out.keep ((Wd.rc _ _ _ _).both (Wd.rc _ _ _ _)) (Below.refl _ _).drew)
                  obtain ⟨z0, z1, z2, z3⟩ := HF5.out w6.drew (Below.refl _ _).drew
                  go_region_with (go_at_call 63; refine (HRC.out _ _ _).mono ?_; rintro e w7 ⟨rfl, b7⟩; have HB7 := Bx.mk b7; clear b7)
                  all_goals go_wp2_with fail
                  all_goals go_meet
                  all_goals exact ⟨rfl, rfl, ⟨(HU5.out.keep ((Wd.rc _ _ _ _).both (Wd.rc _ _ _ _)) (Below.refl _ _).drew).keep ((Wd.rc _ _ _ _).both (Wd.rc _ _ _ _)) HB7.out⟩, ⟨(Below.refl w6.heap.size w6).drew.trans (HB7.out.mono (Below.refl w6.heap.size w6).drew.size)⟩⟩
                case rest =>
                  obtain ⟨rfl, rfl, HU7, HBC⟩ := hcut
                  obtain ⟨w7, hw7⟩ : ∃ W, W = wc := ⟨_, rfl⟩
                  subst hw7
                  have HB7 := Bx.mk (HB5.out.trans (HBC.out.mono HB5.out.size))
                  clear HU5 HBC HF5 HB5 HRC x0 x1 y0 y1 y2 y3 d5
                  obtain ⟨x0, x1⟩ := HCX.out w7 HU7.out
                  obtain ⟨st, _, q3, q4, q5, q6, q7, q8⟩ := cl_store s1 t1 HU7.out HB7.out.size
                  have HU8 := Bx.mk st.1
                  have HB8 := Bx.mk (HB7.out.trans (st.2.mono (Nat.le_refl _)))
                  have HINV := Bx.mk HX.out.2
                  clear st
                  by_cases hr : r1 = 0
                  · subst hr
                    have hn2 : ((0 : Int) != 0) = false := by simp
                    clear HX
                    go_wp2_with fail
                    go_roundg g
                    case measure => omega
                    case rel => exact ⟨i + 1, s1, t1, by have := HKG.out; omega, by rw [HWK.out], HINV, HU8, HB8⟩
                  · have hn2 : (r1 != 0) = true := bne_iff_ne.2 hr
                    have hy4 : b = 4 := HX.out.1.resolve_left hr
                    have hn3 : (b != 4) = false := by rw [hy4]; rfl
                    clear HX hy4
                    go_wp2_with fail
                    go_roundg g
                    case measure => omega
                    case rel => exact ⟨i + 1, s1, t1, by have := HKG.out; omega, by rw [HWK.out], HINV, HU8, HB8⟩
            · have hne : (e1 != 0) = true := bne_iff_ne.2 he
              clear x0 x1 y0 y1 y2 y3 d5
              go_wp2_with fail
              go_roundg g
              case measure => omega
              case rel => exact ⟨i + 1, a, b, by have := HKG.out; omega, by rw [HWK.out], HI, HU5, HB5⟩
        · have HSN := Bx.mk (fun (st : Int) (v : Value) (W : World) => ss_send b ty fl st v HTY.out HFL.out.1 (ssInv_wf HI.out).2 W TI FI HTI.out HFL.out.2)
          have HRC := Bx.mk (fun (st : Int) (v : Value) (W : World) => ss_recv a ty fl st v HTY.out HFL.out.1 (ssInv_wf HI.out).1 W TI FI HTI.out HFL.out.2)
          obtain ⟨s1, e1, hse⟩ : ∃ s e, hSend b ty fl = (s, e) := ⟨_, _, rfl⟩
          obtain ⟨t1, r1, hre⟩ : ∃ s e, hRecv a ty fl = (s, e) := ⟨_, _, rfl⟩
          have HOLD := HSTEP.out.2
          unfold ssR at HOLD
          rw [hse, hre] at HOLD
          rw [hse] at HSN
          rw [hre] at HRC
          have HOLDB := Bx.mk HOLD
          clear hse hre HOLD HSTEP
          have HCX : Bx (∀ W, Up w1.heap.size (Both (Cl ga a) (Cl gb b)) W → W.cell? ⟨ga, 0, none⟩ = some (.int .i64 a) ∧ W.cell? ⟨gb, 0, none⟩ = some (.int .i64 b)) := ⟨fun W h => by
            obtain ⟨S, ⟨S1, S2, q1, q2, _⟩, _⟩ := h
            exact ⟨Cl.cell q1, Cl.cell q2⟩⟩
          go_upto_region 13 with fail
          go_cut [9, 10] from 47 to 53 (fun s9 s10 wx => s9 = .int .i64 s1 ∧ s10 = .int .i64 e1 ∧ Bx (Up w1.heap.size (Both (Cl ga a) (Cl gb b)) wx) ∧ Bx (Below w4.heap.size w4 wx))
          case first =>
            obtain ⟨x0, x1⟩ := HCX.out w4 HU4.out
            obtain ⟨x2, x3⟩ := HCX.out w4.drew (HU4.out.keep ((Wd.rc _ _ _ _).both (Wd.rc _ _ _ _)) (Below.refl _ _).drew)
            obtain ⟨y0, y1, y2, y3⟩ := HF.out w4 (Below.refl _ _)
            obtain ⟨z0, z1, z2, z3⟩ := HF.out w4.drew (Below.refl _ _).drew
            go_region_with (go_at_call 62; refine (HSN.out _ _ _).mono ?_; rintro e w5 ⟨rfl, b5⟩; have HB5 := Bx.mk b5; clear b5)
            all_goals go_wp2_with fail
            all_goals go_meet
            all_goals exact ⟨rfl, rfl, ⟨(HU4.out.keep ((Wd.rc _ _ _ _).both (Wd.rc _ _ _ _)) (Below.refl _ _).drew).keep ((Wd.rc _ _ _ _).both (Wd.rc _ _ _ _)) HB5.out⟩, ⟨(Below.refl w4.heap.size w4).drew.trans (HB5.out.mono (Below.refl w4.heap.size w4).drew.size)⟩⟩
          case rest =>
            obtain ⟨rfl, rfl, HU5, HBC⟩ := hcut
            obtain ⟨w5, hw5⟩ : ∃ W, W = wc := ⟨_, rfl⟩
            subst hw5
            have HB5 := Bx.mk (HB4.out.trans (HBC.out.mono HB4.out.size))
            have HF5 := Bx.mk (fun W (hW : Below w5.heap.size w5 W) => HF.out W (HBC.out.trans (hW.mono HBC.out.size)))
            clear HU4 HBC HF HB4 HSN d0
            have d5 := HCS.out w5 HB5.out
            obtain ⟨x0, x1⟩ := HCX.out w5 HU5.out
            obtain ⟨y0, y1, y2, y3⟩ := HF5.out w5 (Below.refl _ _)
            by_cases he : e1 = 0
            · subst he
              obtain ⟨b1, hb1⟩ : ∃ z, (TI == 1) = z := ⟨_, rfl⟩
              obtain ⟨b2, hb2⟩ : ∃ z, (b == 0) = z := ⟨_, rfl⟩
              have HBB := Bx.mk (And.intro hb1 hb2)
              have hne : ((0 : Int) != 0) = false := by simp
              go_upto_region 15 with fail
              go_cut [72] from 56 to 72 (fun s72 wx => s72 = .bool (b1 && b2) ∧ wx = w5)
              case first =>
                cases b1
                case' true => cases b2
                all_goals go_wp2_with fail
                all_goals go_meet
                all_goals exact ⟨rfl, rfl⟩
              case rest =>
                obtain ⟨rfl, rfl⟩ := hcut
                clear hb1 hb2
                obtain ⟨w6, hw6⟩ : ∃ W, W = wc := ⟨_, rfl⟩
                subst hw6
                cases hb12 : (b1 && b2) with
                | true =>
                  clear x0 x1 y0 y1 y2 y3 d5 HOLDB
                  go_wp2_with fail
                  go_roundg g
                  case measure => omega
                  case rel => exact ⟨i + 1, a, b, by have := HKG.out; omega, by rw [HWK.out], HI, HU5, HB5⟩
                | false =>
                have HX : Bx ((r1 = 0 ∨ a = 4) ∧ ssInv t1 s1 = true) := ⟨by
                  have h := HOLDB.out
                  have h1 : (ty == 1 && b == 0) = false := by
                    rw [← hb12, ← HBB.out.1, ← HBB.out.2, ← HTI.out]
                    cases ht : (ty == 1) with
                    | true => rw [show ((ty : Int) == 1) = true from by rw [beq_iff_eq] at ht ⊢; omega]
                    | false => rw [show ((ty : Int) == 1) = false from by rw [beq_eq_false_iff_ne] at ht ⊢; omega]
                  rw [h1] at h
                  simpa using h⟩
                clear HOLDB HBB
                go_upto_region 16 with fail
                go_cut [11, 12] from 74 to 80 (fun s11 s12 wx => s11 = .int .i64 t1 ∧ s12 = .int .i64 r1 ∧ Bx (Up w1.heap.size (Both (Cl ga a) (Cl gb b)) wx) ∧ Bx (Below w6.heap.size w6 wx))
                case first =>
                  obtain ⟨x2, x3⟩ := HCX.out w6.drew (HU5.out.keep ((Wd.rc _ _ _ _).both (Wd.rc _ _ _ _)) (Below.refl _ _).drew)
                  obtain ⟨z0, z1, z2, z3⟩ := HF5.out w6.drew (Below.refl _ _).drew
                  go_region_with (go_at_call 63; refine (HRC.out _ _ _).mono ?_; rintro e w7 ⟨rfl, b7⟩; have HB7 := Bx.mk b7; clear b7)
                  all_goals go_wp2_with fail
                  all_goals go_meet
                  all_goals exact ⟨rfl, rfl, ⟨(HU5.out.keep ((Wd.rc _ _ _ _).both (Wd.rc _ _ _ _)) (Below.refl _ _).drew).keep ((Wd.rc _ _ _ _).both (Wd.rc _ _ _ _)) HB7.out⟩, ⟨(Below.refl w6.heap.size w6).drew.trans (HB7.out.mono (Below.refl w6.heap.size w6).drew.size)⟩⟩
                case rest =>
                  obtain ⟨rfl, rfl, HU7, HBC⟩ := hcut
                  obtain ⟨w7, hw7⟩ : ∃ W, W = wc := ⟨_, rfl⟩
                  subst hw7
                  have HB7 := Bx.mk (HB5.out.trans (HBC.out.mono HB5.out.size))
                  clear HU5 HBC HF5 HB5 HRC x0 x1 y0 y1 y2 y3 d5
                  obtain ⟨x0, x1⟩ := HCX.out w7 HU7.out
                  obtain ⟨_, st, q3, q4, q5, q6, q7, q8⟩ := cl_store t1 s1 HU7.out HB7.out.size
                  have HU8 := Bx.mk st.1
                  have HB8 := Bx.mk (HB7.out.trans (st.2.mono (Nat.le_refl _)))
                  have HINV := Bx.mk HX.out.2
                  clear st
                  by_cases hr : r1 = 0
                  · subst hr
                    have hn2 : ((0 : Int) != 0) = false := by simp
                    clear HX
                    go_wp2_with fail
                    go_roundg g
                    case measure => omega
                    case rel => exact ⟨i + 1, t1, s1, by have := HKG.out; omega, by rw [HWK.out], HINV, HU8, HB8⟩
                  · have hn2 : (r1 != 0) = true := bne_iff_ne.2 hr
                    have hy4 : a = 4 := HX.out.1.resolve_left hr
                    have hn3 : (a != 4) = false := by rw [hy4]; rfl
                    clear HX hy4
                    go_wp2_with fail
                    go_roundg g
                    case measure => omega
                    case rel => exact ⟨i + 1, t1, s1, by have := HKG.out; omega, by rw [HWK.out], HINV, HU8, HB8⟩
            · have hne : (e1 != 0) = true := bne_iff_ne.2 he
              clear x0 x1 y0 y1 y2 y3 d5
              go_wp2_with fail
              go_roundg g
              case measure => omega
              case rel => exact ⟨i + 1, a, b, by have := HKG.out; omega, by rw [HWK.out], HI, HU5, HB5⟩
end Go.Proofs.Ytenoaljghbpaaaa
