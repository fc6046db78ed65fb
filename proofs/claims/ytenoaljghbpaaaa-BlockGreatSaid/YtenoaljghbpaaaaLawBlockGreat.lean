/-
  bifoldlaw16.BlockGreat answers true, whatever its arguments: the walk.
-/
import Derived.Test.YtenoaljghbpaaaaBkK
namespace Go.Proofs.Ytenoaljghbpaaaa
open Go.RowKit
set_option linter.unusedVariables false
set_option linter.unusedSimpArgs false

set_option maxRecDepth 100000 in
set_option maxHeartbeats 8000000 in
theorem blockGreat_small (n q p : Nat) (N P Q PI QI TI P1 : Int) (hN : (n : Int) = N) (hn : n < 256) (hq : (q : Int) = QI) (hq3 : q < 3) (hQ : Q.tmod 3 = QI) (hP : P.tmod 40 = PI) (hp : PI + 1 = P1) (hpp : (p : Int) = P1) (hp1 : 1 ≤ p) (hp40 : p ≤ 40) (hT : N + QI = TI) (w : World) :
    Calls Try.prog 19 #[.int .u8 N, .int .u8 P, .int .u8 Q] w fun e w' => e = .returned (.bool true) ∧ Below w.heap.size w w' := by
  have HK := Bx.mk (known16_any w)
  have hTn : ((n + q : Nat) : Int) = TI := by omega
  obtain ⟨b, hb⟩ : ∃ b, List.replicate (n + q) (0 : UInt8) = b := ⟨_, rfl⟩
  have HBL : Bx (b.length = n + q) := ⟨by rw [← hb, List.length_replicate]⟩
  have hwN : IntKind.i64.wrap N = N := by rw [IntKind.wrap_i64]; omega
  have hwQ : IntKind.i64.wrap QI = QI := by rw [IntKind.wrap_i64]; omega
  have hwT : wrap64 TI = TI := by unfold wrap64; omega
  have hwT2 : IntKind.i64.wrap TI = TI := by rw [IntKind.wrap_i64]; omega
  have hwP : IntKind.i64.wrap PI = PI := by rw [IntKind.wrap_i64]; omega
  have hwP1 : wrap64 P1 = P1 := by unfold wrap64; omega
  have hwP2 : IntKind.i64.wrap P1 = P1 := by rw [IntKind.wrap_i64]; omega
  have hmk : ∀ W : World, (Instr.makeSlice 22 (.int .i64 TI) (.int .i64 TI)).run Try.prog W = .ok (.slice (some ⟨W.heap.size, 0, none⟩) (n + q) (n + q)) (W.alloc (.cells (madeCells #[.int .u8 0] (n + q)) 5)) := fun W => by rw [← hTn]; exact make_u8B (n + q) (by omega) W
  have HMA := Bx.mk (fun W : World => Bs.madeB W (n + q) (by omega))
  rw [hb] at HMA
  have HNEW : Bx (∀ W : World, Calls Try.prog 65 #[.int .i64 N] W fun e w' => e = .returned (.pointer (some ⟨W.heap.size, 0, none⟩)) ∧ (∀ B, Bk w' W.heap.size B n false false 0 false nilV []) ∧ Below W.heap.size W w' ∧ w'.heap.size = W.heap.size + 1) := ⟨fun W => by rw [← hN]; exact bkNew_any n (by omega) W⟩
  have HSPL : Bx (∀ (v : Value) (W : World), Bs W v b → Calls Try.prog 71 #[.int .u32 1, .bool false, v, .int .i64 P1] W (SplitPost W 1 false p b)) := ⟨fun v W h => pSplit_any 1 1 rfl false p hp1 (by omega) P1 hpp.symm v b W h (by rw [HBL.out]; omega)⟩
  have HQ := Bx.mk hq
  have HNUM := Bx.mk (And.intro hn (And.intro hq3 hp1))
  clear hb hN hn hq hq3 hpp hp1 hp40 hTn
  go_enter Try.func19, Try.ntmps19
  go_upto_region 3 with (go_at_call 64; refine HK.out.mono ?_; rintro e w1 ⟨rfl, b1⟩; have HB1 := Bx.mk b1; clear b1)
  have HM1 := Bx.mk (HMA.out w1)
  have HBm := Bx.mk (HB1.out.alloc HB1.out.size (.cells (madeCells #[.int .u8 0] (n + q)) 5))
  go_upto_region 4 with (go_at_call 71; refine (HSPL.out _ _ HM1.out).mono ?_; rintro e w3 ⟨v, l, rfl, ho, hsp, hl0, hl1, hl2, b3⟩; have HO := Bx.mk ho; have HSP := Bx.mk hsp; have HL0 := Bx.mk hl0; have HL1 := Bx.mk hl1; have HL2 := Bx.mk hl2; have HB3 := Bx.mk (HBm.out.trans (b3.mono HBm.out.size)); clear ho hsp hl0 hl1 hl2 b3)
  obtain ⟨B0, hB0⟩ : ∃ B0, (w1.alloc (.cells (madeCells #[.int .u8 0] (n + q)) 5)).heap.size = B0 := ⟨_, rfl⟩
  rw [hB0] at HO
  clear hB0 HMA HM1 HBm HSPL hmk
  go_upto_region 6 with (go_at_call 65; refine (HNEW.out _).mono ?_; rintro e w4 ⟨rfl, hbk, hb4, hs4⟩; have HBK4 := Bx.mk hbk; have HS4 := Bx.mk hs4; have HX4 := Bx.mk hb4; clear hbk hs4 hb4)
  obtain ⟨g, hg⟩ : ∃ g, w3.heap.size = g := ⟨_, rfl⟩
  obtain ⟨B, hB⟩ : ∃ B, w4.heap.size = B := ⟨_, rfl⟩
  have HG := Bx.mk hg
  have HBE := Bx.mk hB
  have HF4 : Bx (Fp (Sg g B) w3 w4) := ⟨Fp.of_below HX4.out⟩
  rw [hg] at HBK4 HS4 ⊢
  have HBA4 : Bx (BkAt w4 g B n ((1 : Nat) : Int) false b p 0 nilV) := ⟨by
    unfold BkAt
    rw [if_pos rfl]
    exact ⟨_, _, _, _, HBK4.out B, by simp⟩⟩
  have HSTAY : Bx (∀ W, Fp (Sg g B) w3 W → OwF W B0 v l) := ⟨fun W hW => HO.out.stay hW (.inr (by omega)) (by have := HS4.out; omega)⟩
  clear HNEW hg hB HBK4 HX4
  obtain ⟨m, hm⟩ : ∃ m, l.length = m := ⟨_, rfl⟩
  have HM := Bx.mk hm
  have hlenl : ∀ (tr : TypeId) (W : World), (Builtin.len_ #[23] tr #[v]).run Try.prog W = .ok (.int .i64 (m : Int)) W := fun tr W => by
    have h := frs_len HO.out.rows tr W
    rw [hm] at h
    exact h
  have HMM : Bx (m ≤ 100000) := ⟨by
    have h1 := HL2.out (m - 1)
    have h2 := HBL.out
    have h3 := HM.out
    have h4 := HNUM.out
    have h6 := Nat.mul_le_mul_left (m - 1) h4.2.2
    by_cases h : m ≤ 1
    · omega
    · have h5 := h1 (by omega) (by omega)
      omega⟩
  clear hm
  go_upto_region 7 with fail
  go_loopg [9, 10] m (fun gg s9 s10 wx => ∃ (i : Nat) (r : Int), i + gg = m ∧ s10 = .int .i64 i ∧ s9 = .int .i64 r ∧ Bx (B ≤ wx.heap.size) ∧ Bx (Fp (Sg g B) w3 wx) ∧ Bx ((r = 0 ∧ ∃ u, BkAt wx g B n ((1 : Nat) : Int) false b p i u) ∨ (r = 3 ∧ n < b.length)))
  case atStart => exact ⟨0, 0, by omega, rfl, rfl, ⟨by have := HBE.out; omega⟩, HF4, ⟨.inl ⟨rfl, _, HBA4.out⟩⟩⟩
  case round =>
    obtain ⟨i, r, hig, rfl, rfl, HBW, HF, HR⟩ := hrel
    have HBELOW : Bx (∀ W, Fp (Sg g B) w3 W → Below w.heap.size w W) := ⟨fun W hW => HB3.out.trans (hW.below HB3.out.size fun k hk => by
      have h1 := HG.out
      have h2 := HB3.out.size
      have h3 := HF4.out.size
      have h4 := HBE.out
      rcases hk with h | h <;> omega)⟩
    rcases HR.out with ⟨hr, hk⟩ | ⟨hr, hlt⟩
    · subst hr
      cases gk with
      | zero =>
        obtain rfl : i = m := by omega
        have hkd : decide ((i : Int) < (i : Int)) = false := by simp
        have hkd' : decide (i < i) = false := by simp
        obtain ⟨u, hk⟩ := hk
        have hq0 : q = 0 := by
          unfold BkAt at hk
          have h1 := HL0.out
          have h2 := HL1.out
          have h3 := HM.out
          rw [if_neg (by omega)] at hk
          have h4 := hk.2
          rw [List.length_take, HBL.out] at h4
          rw [HBL.out, h3] at h2
          omega
        have hqz : QI = 0 := by have := HQ.out; omega
        subst hqz
        clear hk hig
        go_wp2_with fail
        go_ret
        exact ⟨rfl, HBELOW.out _ HF.out⟩
      | succ gg =>
        have hkd : decide ((i : Int) < (m : Int)) = true := decide_eq_true (by omega)
        have hkd' : decide (i < m) = true := decide_eq_true (by omega)
        have HWI : Bx (wrap64 ((i : Int) + 1) = ((i + 1 : Nat) : Int)) := ⟨by have := HMM.out; unfold wrap64; omega⟩
        have HIG := Bx.mk hig
        obtain ⟨T, F, S, raw, bk, o, hix0, hcs, hadd⟩ := split_at HO.out i (by rw [HM.out]; omega)
        have hix := hix0 .i64
        have HO5 := Bx.mk (HSTAY.out wr HF.out)
        obtain ⟨x0, x1, x2, x3⟩ := hcs wr HO5.out
        obtain ⟨u, hk⟩ := hk
        have HAD := Bx.mk (hadd wr g B n 1 false b p u HO5.out hk HBW.out (by have := HNUM.out; omega) (by have := HBL.out; have := HNUM.out; omega) HSP.out HL2.out (by omega) (by omega))
        clear hcs hix0 hadd hk hig
        go_upto_region 8 with (go_at_call 66; refine HAD.out.mono ?_; rintro e w6 (⟨rfl, hl6, hk6, hf6⟩ | ⟨rfl, hl6, hb6⟩))
        · have HK6 := Bx.mk hk6
          have HF6 := Bx.mk (HF.out.then hf6)
          have HBW6 : Bx (B ≤ w6.heap.size) := ⟨Nat.le_trans HBW.out hf6.size⟩
          clear hk6 hf6 hl6
          go_wp2_with fail
          go_roundg gg
          case measure => omega
          case rel => exact ⟨i + 1, 0, by have := HIG.out; omega, by rw [HWI.out], rfl, HBW6, HF6, ⟨.inl ⟨rfl, HK6.out⟩⟩⟩
        · have HF6 := Bx.mk (HF.out.then (Fp.of_below hb6))
          have HBW6 : Bx (B ≤ w6.heap.size) := ⟨Nat.le_trans HBW.out hb6.size⟩
          have HLT : Bx (n < b.length) := ⟨by rw [List.length_take] at hl6; omega⟩
          clear hl6 hb6
          go_wp2_with fail
          go_roundg gg
          case measure => omega
          case rel => exact ⟨i + 1, 3, by have := HIG.out; omega, by rw [HWI.out], rfl, HBW6, HF6, ⟨.inr ⟨rfl, HLT.out⟩⟩⟩
    · subst hr
      have hqz : (QI == 0) = false := by rw [beq_eq_false_iff_ne]; have h1 := HQ.out; have h2 := HBL.out; omega
      cases hkd : decide ((i : Int) < (m : Int))
      case' false => have hkd' : decide (i < m) = false := decide_eq_false (by have := of_decide_eq_false hkd; omega)
      case' true => have hkd' : decide (i < m) = true := decide_eq_true (by have := of_decide_eq_true hkd; omega)
      all_goals clear hig hlt
      all_goals go_wp2_with fail
      all_goals go_ret
      all_goals exact ⟨rfl, HBELOW.out _ HF.out⟩
theorem blockGreat_walk (N P Q : Int) (hN : (Lit.int .u8 N).wf = true) (hP : (Lit.int .u8 P).wf = true) (hQ : (Lit.int .u8 Q).wf = true) (w : World) :
    Calls Try.prog 19 #[.int .u8 N, .int .u8 P, .int .u8 Q] w fun e w' => e = .returned (.bool true) ∧ Below w.heap.size w w' := by
  have hr : ∀ {t : Int}, (Lit.int .u8 t).wf = true → 0 ≤ t ∧ t < 256 := by
    intro t h
    have h0 : IntKind.u8.min ≤ t ∧ t ≤ IntKind.u8.max := by simpa [Lit.wf] using h
    have h1 : IntKind.u8.min = 0 := rfl
    have h2 : IntKind.u8.max = 255 := rfl
    omega
  obtain ⟨n, rfl⟩ := Int.eq_ofNat_of_zero_le (hr hN).1
  obtain ⟨p, rfl⟩ := Int.eq_ofNat_of_zero_le (hr hP).1
  obtain ⟨q, rfl⟩ := Int.eq_ofNat_of_zero_le (hr hQ).1
  have h1 := (hr hN).2
  exact blockGreat_small n (q % 3) (p % 40 + 1) _ _ _ _ _ _ _ rfl (by omega) rfl (by omega) (Int.ofNat_tmod q 3).symm (Int.ofNat_tmod p 40).symm rfl rfl (by omega) (by omega) rfl w
end Go.Proofs.Ytenoaljghbpaaaa
