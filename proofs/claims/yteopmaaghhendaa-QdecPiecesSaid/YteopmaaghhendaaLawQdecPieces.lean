/-
  bifoldlaw10.QdecPieces answers true, whatever its arguments: the walk.
-/
import Derived.Test.YteopmaaghhendaaP28
import Derived.Test.YteopmaaghhendaaP32
import Derived.Deep.CutRange
import Derived.Deep.CutBlock
import Derived.Deep.RegionHeld
namespace Go.Proofs.Yteopmaaghhendaa
open Go.RowKit Go.Maps
set_option linter.unusedVariables false
set_option linter.unusedSimpArgs false

section
variable {B : Nat} {X Y : Wx} {w : World} {v : Value} {l : List UInt8}
theorem Up.obs (h : Up B (Both X (Both Y (Owb v l))) w) : Up B (Both X (Both Y (Ob fun W => Bs W v l))) w := by
  obtain ⟨S, ⟨S1, S2, h1, ⟨S3, S4, k1, ⟨k2, k5⟩, k3, k4⟩, h3, h4⟩, h5⟩ := h
  exact ⟨S, ⟨S1, S2, h1, ⟨S3, S4, k1, ⟨fun k hk => k2.lt ((k5 k).1 hk), fun W _ hk => k2.bs.blkR fun g hg => hk g ((k5 g).2 hg)⟩, k3, k4⟩, h3, h4⟩, h5⟩
theorem Up.obmap {P Q : World → Prop} (h : Up B (Both X (Both Y (Ob P))) w) (hpq : ∀ W, P W → Q W) : Up B (Both X (Both Y (Ob Q))) w := by
  obtain ⟨S, ⟨S1, S2, h1, ⟨S3, S4, k1, k2, k3, k4⟩, h3, h4⟩, h5⟩ := h
  exact ⟨S, ⟨S1, S2, h1, ⟨S3, S4, k1, k2.map hpq, k3, k4⟩, h3, h4⟩, h5⟩
end
theorem ob_get {P : World → Prop} {Y : Wx} : ∀ W S2, Both Y (Ob P) W S2 → P W := fun W S2 h => by
  obtain ⟨S, h, _⟩ := h.snd
  exact h.get
theorem tmod5000 (n : Int) : -5000 < n.tmod 5000 ∧ n.tmod 5000 < 5000 := by
  rcases Int.le_total 0 n with h | h
  · rw [Int.tmod_eq_emod_of_nonneg h]
    omega
  · have e : n.tmod 5000 = -((-n) % 5000) := by rw [← Int.tmod_eq_emod_of_nonneg (by omega), Int.neg_tmod, Int.neg_neg]
    omega
section
variable {P : Program} {ops : Array Oper} {Q : Exit → Act → World → Prop} {md : Region.Mode} {S : World → Prop} {last : Nat}
/-- Two operations are ready: either may come first. -/
theorem wpAnyX_two {i j : Nat} {o o2 : Oper} {fuel : Nat} {listed : Array Bool} {a : Act} {w : World} (hr : Region.ready md ops listed = [i, j]) (ho : ops[i]? = some o) (ho2 : ops[j]? = some o2)
    (h : ∀ K' : Act → World → Prop, Shut (∀ a w, ((listed.setIfInBounds i true).getD last true = false → S w) → wpAnyX P md ops Q S last fuel (listed.setIfInBounds i true) a w → K' a w) → if Region.wanted o (yielded ops a.tmps) = true then Oper.wp P o a w K' Q else K' (a.put o.dst undef) w)
    (h2 : ∀ K' : Act → World → Prop, Shut (∀ a w, ((listed.setIfInBounds j true).getD last true = false → S w) → wpAnyX P md ops Q S last fuel (listed.setIfInBounds j true) a w → K' a w) → if Region.wanted o2 (yielded ops a.tmps) = true then Oper.wp P o2 a w K' Q else K' (a.put o2.dst undef) w) :
    wpAnyX P md ops Q S last (fuel + 1) listed a w :=
  ⟨fun h0 => absurd (hr ▸ h0) (by simp), hr ▸ fun k hk => by
    rcases List.mem_cons.1 hk with rfl | hk
    · exact wpOp_step ho (fun K' hK => h K' (fun a w hS hW => hK a w ⟨hS, hW⟩))
    · rcases List.mem_cons.1 hk with rfl | hk
      · exact wpOp_step ho2 (fun K' hK => h2 K' (fun a w hS hW => hK a w ⟨hS, hW⟩))
      · cases hk⟩
end

set_option maxRecDepth 100000 in
set_option maxHeartbeats 40000000 in
theorem qdecPieces_walk (n0 : Int) (hn0 : (Lit.int .i64 n0).wf = true) (v1 : Value) (l : List Qj) (v2 : Value) (cu : List UInt8) (w : World) (hq : Qas w v1 l) (hsm : SmallQ l) (hc : Bs w v2 cu) :
    Calls Try.prog 3 #[.int .i64 n0, v1, v2] w fun e w' => e = .returned (.bool true) ∧ Below w.heap.size w w' := by
  obtain ⟨M, hM⟩ : ∃ M, n0.tmod 5000 = M := ⟨_, rfl⟩
  have hMr := tmod5000 n0
  rw [hM] at hMr
  have hwM : IntKind.i64.wrap M = M := (i64_keep (by omega) (by omega)).2
  have HNEW := Bx.mk (fun W => dnew_any M 2 (by omega) W)
  obtain ⟨X0, hX0⟩ : ∃ X0, Qr.new (clampN M) (Int.toNat 2) = X0 := ⟨_, rfl⟩
  simp only [hX0] at HNEW
  have HX : Bx (X0.br = false ∧ PI X0 0 ∧ ∀ all, P2 X0 all all X0) := ⟨by subst hX0; exact ⟨rfl, PI.new _ _ (clampN_le M), fun all => P2.zero _ _ (clampN_le M) all⟩⟩
  have HK := Bx.mk (known10_any w)
  have HQ := Bx.mk hq
  have HSM := Bx.mk hsm
  have HC := Bx.mk hc
  have hl1 := fun (ty : TypeId) (W : World) => hq.run_len ty W
  have hl2 := fun (ty : TypeId) (W : World) => hc.run_len ty W
  obtain ⟨LI, hLI⟩ := letter l.length
  obtain ⟨CI, hCI⟩ := letter cu.length
  simp only [hLI] at hl1
  simp only [hCI] at hl2
  have HLC : Bx ((l.length : Int) = LI ∧ (cu.length : Int) = CI) := ⟨hLI, hCI⟩
  clear hn0 hq hsm hc hX0 hMr
  by_cases h12 : 12 < l.length
  · have hd1 : decide (12 < LI) = true := decide_eq_true (by omega)
    clear hLI hCI h12
    go_enter Try.func3, Try.ntmps3
    go_wp2_with (first
      | (go_at_call 7; refine HK.out.mono ?_; rintro e w1 ⟨rfl, b1⟩; have HB1 := Bx.mk b1; clear b1))
    go_ret
    exact ⟨rfl, HB1.out⟩
  have hd1 : decide (12 < LI) = false := decide_eq_false (by omega)
  by_cases h40 : 40 < cu.length
  · have hd2 : decide (40 < CI) = true := decide_eq_true (by omega)
    clear hLI hCI h12 h40
    go_enter Try.func3, Try.ntmps3
    go_wp2_with (first
      | (go_at_call 7; refine HK.out.mono ?_; rintro e w1 ⟨rfl, b1⟩; have HB1 := Bx.mk b1; clear b1))
    go_ret
    exact ⟨rfl, HB1.out⟩
  have hd2 : decide (40 < CI) = false := decide_eq_false (by omega)
  have HN : Bx (l.length ≤ 12 ∧ cu.length ≤ 40) := ⟨by omega, by omega⟩
  obtain ⟨i0, hi, hzz, hz1, hz2⟩ := info_parts infoU8
  have HI : Bx (Try.prog.info? 5 = some i0 ∧ i0.zero = some (.int .u8 0) ∧ i0.size = 1 ∧ i0.bytes = 1) := ⟨hi, hzz, hz1, hz2⟩
  clear hi hzz hz1 hz2 hLI hCI h12 h40
  go_enter Try.func3, Try.ntmps3
  go_wp2_with (first
    | (go_at_call 7; refine HK.out.mono ?_; rintro e w1 ⟨rfl, b1⟩; have HB1 := Bx.mk b1; clear b1)
    | (go_at_call 8; have HU2' := HU2; refine (HNEW.out _).mono ?_; rintro e w3 ⟨q2, p2, S3, rfl, h3, hs3, b3⟩; have HU3 : Bx (Up w1.heap.size (Both (Dq q p X0) (Dq q2 p2 X0)) w3) := ⟨Up.add (Wd.dq q p X0) HU2.out HB2.out.size b3 ⟨S3, h3, hs3⟩⟩; have HB3 := Bx.mk (HB2.out.trans (b3.mono HB2.out.size)); clear h3 hs3 b3 HU2')
    | (go_at_call 8; refine (HNEW.out _).mono ?_; rintro e w2 ⟨q, p, S2, rfl, h2, hs2, b2⟩; have HU2 : Bx (Up w1.heap.size (Dq q p X0) w2) := ⟨⟨S2, h2, hs2⟩⟩; have HB2 := Bx.mk b2; clear h2 hs2 b2))
  clear HU2 HB2 HNEW HK hwM hd1 hd2
  go_loopg [9, 10] l.length (fun g s9 s10 wx => ∃ (k : Nat) (bl : List UInt8), k + g = l.length ∧ s10 = .int .i64 k ∧ Bx (OwB wx w3.heap.size s9 bl ∧ bl.length ≤ 400 * k) ∧ Bx (Below w3.heap.size w3 wx))
  case atStart => exact ⟨0, [], by omega, rfl, ⟨OwB.nil _ _, by simp⟩, ⟨Below.refl _ _⟩⟩
  case round =>
    obtain ⟨k, bl, hkg, rfl, HO, HBX⟩ := hrel
    obtain ⟨hLI, hCI⟩ := HLC.out
    have HBW : Bx (Below w.heap.size w wr) := ⟨HB1.out.trans ((HB3.out.trans (HBX.out.mono HB3.out.size)).mono HB1.out.size)⟩
    cases gk with
    | succ g =>
      have hkl : k < l.length := by omega
      have hlt : decide ((k : Int) < LI) = true := decide_eq_true (by omega)
      obtain ⟨b, o, hix, hcs⟩ := HQ.out.at_ k hkl
      have HSP := Bx.mk (HSM.out l[k] (List.getElem_mem hkl))
      have HRW := Bx.mk (HQ.out.2 l[k] (List.getElem_mem hkl))
      obtain ⟨a, ha⟩ : ∃ a, l[k] = a := ⟨_, rfl⟩
      rw [ha] at HSP HRW
      simp only [ha] at hcs
      obtain ⟨r0, rn, rc, hr0, hrl, hmx⟩ := HRW.out.open_
      clear hmx
      have hrl := hrl.out
      have HCS := Bx.mk hcs
      obtain ⟨q0, q1, q2c, q3, q4, q5, q6, q7⟩ := hcs wr (HQ.out.keep HBW.out)
      obtain ⟨h16, hnz, hvz⟩ := HSP.out
      rw [hr0] at q7
      obtain ⟨pn, hpn⟩ : ∃ pn, a.n = pn := ⟨_, rfl⟩
      obtain ⟨pv, hpv⟩ : ∃ pv, a.v = pv := ⟨_, rfl⟩
      rw [hpn] at q5 hnz
      rw [hpv] at q6 hvz
      obtain ⟨s, hs⟩ : ∃ s, pn.size + pv.size = s := ⟨_, rfl⟩
      have hs1 : IntKind.i64.wrap ((pn.size : Int) + (pv.size : Int)) = (s : Int) := by simp only [IntKind.wrap_i64]; omega
      have hs2 : wrap64 ((pn.size : Int) + (pv.size : Int)) = (s : Int) := by unfold wrap64; omega
      have HKG := Bx.mk hkg
      have HAE : Bx (a.n = pn ∧ a.v = pv ∧ a.raw = .slice r0 rn rc ∧ pn.size + pv.size = s ∧ rn = a.b.length) := ⟨hpn, hpv, hr0, hs, hrl⟩
      clear hcs ha hr0 hpn hpv hs hrl h16 hnz hvz hLI hCI hkg
      by_cases hc : 100 < s
      · have hcc : decide (100 < (s : Int)) = true := decide_eq_true (by clear hs1 hs2; omega)
        clear hc
        go_wp2_with fail
        go_quiet (fail)
        go_wp2_with fail
        go_ret
        exact ⟨rfl, below_drewN HBW.out _⟩
      have hcc : decide (100 < (s : Int)) = false := decide_eq_false (by clear hs1 hs2; omega)
      by_cases hr : 40 < rn
      · have hrr : decide (40 < (rn : Int)) = true := decide_eq_true (by clear hs1 hs2; omega)
        clear hc hr
        go_wp2_with fail
        go_quiet (fail)
        go_wp2_with fail
        go_ret
        exact ⟨rfl, below_drewN HBW.out _⟩
      have hrr : decide (40 < (rn : Int)) = false := decide_eq_false (by clear hs1 hs2; omega)
      have HIN := Bx.mk (fun (W : World) (hW : Below w.heap.size w W) => instruction_any a W (Rd.keep HRW.out hW) HSP.out.1.1 HSP.out.1.2 (by have := HAE.out; rw [this.1, this.2.1]; omega) (by have := HAE.out; omega))
      have hcsA : a.cs = #[.int .u8 (a.k : Int), .int .u8 (a.s : Int), .int .u64 (a.i : Int), .int .u64 (a.j : Int), .int .u64 (a.m : Int), .string pn, .string pv, .slice r0 rn rc] := by unfold Qj.cs; rw [HAE.out.1, HAE.out.2.1, HAE.out.2.2.1]
      rw [hcsA] at HIN
      clear hcsA hc hr
      go_wp2_with fail
      go_quiet (fail)
      clear q0 q1 q2c q3 q4 q5 q6 q7
      have HBD : Bx (Below w.heap.size w (wr.drewN nq)) := ⟨below_drewN HBW.out _⟩
      have HOD : Bx (OwB (wr.drewN nq) w3.heap.size u9 bl) := ⟨HO.out.1.keep (below_drewN (Below.refl _ _) _)⟩
      have HBN : Bx (Below w3.heap.size w3 (wr.drewN nq)) := ⟨below_drewN HBX.out _⟩
      obtain ⟨q0, q1, q2c, q3, q4, q5, q6, q7⟩ := HCS.out (wr.drewN nq) (HQ.out.keep HBD.out)
      rw [HAE.out.1] at q5
      rw [HAE.out.2.1] at q6
      rw [HAE.out.2.2.1] at q7
      obtain ⟨wq, hwq⟩ : ∃ wq, wr.drewN nq = wq := ⟨_, rfl⟩
      rw [hwq] at HBD HOD HBN q0 q1 q2c q3 q4 q5 q6 q7 ⊢
      clear hwq
      go_wp2_with (first
        | (go_at_call 9; refine (HIN.out _ HBD.out).mono ?_; rintro e w5 ⟨v5, b5, rfl, ho5, hl5, hb5⟩; have HO5 := Bx.mk ho5; have HL5 := Bx.mk hl5; have HB5 := Bx.mk hb5; clear ho5 hl5 hb5)
        | (at_builtin; refine wpList_append_og _ rfl (.tmp 60) (.tmp 65) 23 rfl w3.heap.size 5 i0 (.int .u8 0) 1 Try.underlying23 HI.out.1 HI.out.2.1 HI.out.2.2.1 HI.out.2.2.2 rfl _ _ _ _ rfl rfl (HOD.out.keep HB5.out) HO5.out (fun x hx => one_bv x hx) (by have h1 := HL5.out; have h2 := HO.out.2; have h3 := HN.out.1; simp only [List.length_map] at *; omega) (by have h1 := HL5.out; have h2 := HO.out.2; have h3 := HN.out.1; simp only [List.length_map, maxLen] at *; omega) (Nat.le_trans HBN.out.size HB5.out.size) ?_; intro v6 w6 ho6 hb6 _; have HO6 : Bx (OwB w6 w3.heap.size v6 (bl ++ b5) ∧ (bl ++ b5).length ≤ 400 * (k + 1)) := ⟨OwB.cat ho6, by have h1 := HL5.out; have h2 := HO.out.2; rw [List.length_append]; omega⟩; have HB6 := Bx.mk ((HBN.out.trans (HB5.out.mono HBN.out.size)).trans hb6); clear ho6 hb6))
      have hw1 : wrap64 ((k : Int) + 1) = ((k + 1 : Nat) : Int) := by have := HN.out.1; unfold wrap64; omega
      try go_wp2_with fail
      go_roundg g
      case measure => omega
      case rel => exact ⟨k + 1, bl ++ b5, by have := HKG.out; omega, by first | rfl | (rw [hw1]), HO6, HB6⟩
    | zero =>
      obtain rfl : k = l.length := by omega
      have hlt : decide ((l.length : Int) < LI) = false := decide_eq_false (by omega)
      have hbl : bl.length ≤ 4800 := by have := HO.out.2; have := HN.out.1; omega
      obtain ⟨h0, h1, h2⟩ := HX.out
      have hU : Up w1.heap.size (Both (Dq q p X0) (Both (Dq q2 p2 X0) (Ob fun W => Bs W u9 bl))) wr := (Up.add ((Wd.dq q p X0).both (Wd.dq q2 p2 X0)) HU3.out HB3.out.size HBX.out (Up.ofOwb HO.out.1 (Nat.le_refl _))).assoc2.obs
      have hB : Below w1.heap.size w1 wr := HB3.out.trans (HBX.out.mono HB3.out.size)
      have hfd := uq_feed ((Wd.dq q2 p2 X0).both (Wd.ob _)) hU hB.size h1.mx h1.gd h1.nm (by have := h1.tot; omega) (fun W S2 h => ob_get (P := fun W => Bs W u9 bl) W S2 h) (by omega) (by have := h1.tot; omega)
      have hae := Qr.feed_err X0 bl
      have hp2 := h2 bl
      have hpa : PI (X0.feed bl).1 (0 + bl.length) := h1.feed bl
      obtain ⟨A, E, hAE⟩ : ∃ A E, X0.feed bl = (A, E) := ⟨_, _, rfl⟩
      rw [hAE] at hfd hae hpa
      have HFD := Bx.mk hfd
      have HAE : Bx (X0.feed bl = (A, E) ∧ E = (if A.br then 26 else 0) ∧ PI A 4800) := ⟨hAE, hae, ⟨hpa.mx, hpa.gd, hpa.nm, by have h : A.T.tot + A.rest.length ≤ 0 + bl.length := hpa.tot; omega, hpa.says, hpa.told⟩⟩
      have HP2 := Bx.mk hp2
      have HBL := Bx.mk hbl
      have HBY := Bx.mk hB
      clear hU hB hfd hae hp2 hpa hAE h0 h1 h2 hbl hLI hCI hkg
      go_wp2_with (go_at_call 10; refine HFD.out.mono ?_; rintro e w5 ⟨rfl, hu5, hb5⟩; have HU5 := Bx.mk hu5.exch; have HB5 := Bx.mk (HBY.out.trans hb5); clear hu5 hb5)
      clear HU3 HO HBX HBW HFD HBY
      go_loopg [9, 12, 13, 14] (cu.length + 1) (fun g s9 s12 s13 s14 wx => ∃ (i : Nat) (l' : List UInt8) (Z : Qr), i + g = cu.length + 1 ∧ s13 = .int .i64 i ∧ (cu.length < i → l' = []) ∧ s12 = .bool Z.br ∧ Bx (P2 X0 bl l' Z) ∧ Bx (Up w1.heap.size (Both (Dq q2 p2 Z) (Both (Dq q p A) (Ob fun W => Bs W s9 l'))) wx) ∧ Bx (Below w1.heap.size w1 wx))
      case atStart => exact ⟨0, bl, X0, by omega, rfl, fun h => by omega, by rw [HX.out.1], HP2, HU5, HB5⟩
      case round =>
        clear HU5 HB5 HP2
        obtain ⟨i, l', Z, hig, rfl, hdone, rfl, HP, HU, HBX⟩ := hrel
        obtain ⟨hLI, hCI⟩ := HLC.out
        have HBs : Bx (Bs wr u9 l') := ⟨by obtain ⟨S, ⟨S1, S2, _, hh, _, _⟩, _⟩ := HU.out; exact ob_get _ _ hh⟩
        have hln := fun (ty : TypeId) (W : World) => HBs.out.run_len ty W
        obtain ⟨KI, hKI⟩ := letter l'.length
        simp only [hKI] at hln
        by_cases hl0 : l' = []
        · subst hl0
          have hgt : decide (0 < KI) = false := decide_eq_false (by rw [← hKI]; simp)
          obtain ⟨hf1, hf2⟩ := HP.out.done
          obtain ⟨ha1, ha2, ha3⟩ := HAE.out
          rw [ha1] at hf1 hf2
          dsimp only at hf1 hf2
          have HBW : Bx (∀ W, Below w1.heap.size w1 W → Below w.heap.size w W) := ⟨fun W hW => HB1.out.trans (hW.mono HB1.out.size)⟩
          cases hz : Z.br with
          | true =>
            rw [hf2 hz, if_pos rfl] at ha2
            subst ha2
            clear hf1 hf2 ha1 ha3 hKI hdone hig hLI hCI
            go_wp2_with fail
            go_quiet (fail)
            go_wp2_with fail
            go_ret
            exact ⟨rfl, HBW.out _ (below_drewN HBX.out _)⟩
          | false =>
            obtain rfl := hf1 hz
            rw [hz, if_neg (by simp)] at ha2
            subst ha2
            have HPA := Bx.mk ha3
            have hUD : Up w1.heap.size (Both (Dq q2 p2 Z) (Both (Dq q p Z) (Ob fun W => Bs W u9 []))) wr.drew := HU.out.keep ((Wd.dq q2 p2 Z).both ((Wd.dq q p Z).both (Wd.ob _))) (Below.refl _ _).drew
            have HTB := Bx.mk (uq_table hUD)
            have HTA := Bx.mk (uq_table hUD.exch)
            have HCB := Bx.mk (uq_count hUD)
            have HCA := Bx.mk (uq_count hUD.exch)
            have HSB := Bx.mk (uq_size hUD)
            have HSA := Bx.mk (uq_size hUD.exch)
            have HSNA := Bx.mk (uq_send ((Wd.dq q2 p2 Z).both (Wd.ob _)) hUD.exch (HBX.out.drew).size (by rw [ha3.says]; simp) (by rw [ha3.told]; exact Nat.zero_le _) (by have := ha3.tot; omega))
            obtain ⟨SL, hSL⟩ : ∃ SL, Z.send = SL := ⟨_, rfl⟩
            rw [hSL] at HSNA
            have HSNB := Bx.mk (fun (W : World) (v8 : Value) (h : Up w1.heap.size (Both (Dq q2 p2 Z) (Both (Owb v8 SL) (Ob fun W => Bs W u9 []))) W) (hb : Below w1.heap.size w1 W) => uq_send ((Wd.owb v8 SL).both (Wd.ob _)) h hb.size (by rw [HPA.out.says]; simp) (by rw [HPA.out.told]; exact Nat.zero_le _) (by have := HPA.out.tot; omega))
            rw [hSL] at HSNB
            obtain ⟨ST, hST⟩ : ∃ ST, bstr SL = ST := ⟨_, rfl⟩
            obtain ⟨TT, hTT⟩ := letter Z.T.tot
            rw [hTT] at HCA HCB
            obtain ⟨SZ, hSZ⟩ := letter (sizeF Z.T.l)
            rw [hSZ] at HSA HSB
            have hS0 : Below w1.heap.size w1 wr.drew := HBX.out.drew
            have hST2 := Bx.mk hST
            have heq2 : (ST.toList == ST.toList) = true := by simp
            clear hf2 ha1 ha3 hKI hdone hig hLI hCI hUD hSL hTT hSZ hf1 hST
            go_wp2_with fail
            refine wp_region_x 34 (fun W => True) (by kernel_rfl) trivial (fun hHeld => ?_)
            refine wpAnyX_take0 (i := 0) (oi := ⟨some 101, Op.move (Operand.tmp 11), 31, _, _, none⟩) (v := ?v0) rfl (by omega) (by kernel_rfl) (by kernel_rfl) (by kernel_rfl) (fun _ _ _ h => h) (Or.inl ⟨by rfl, ?y0⟩) trivial ?r0
            case y0 =>
              intro W hSw
              go_simp
              try with_reducible rfl
            case r0 =>
            try simp only [Act.put, List.setIfInBounds_toArray, List.set_cons_zero, List.set_cons_succ]
            refine wpAnyX_take0 (i := 1) (oi := ⟨some 102, Op.binOp BinOp.neq 3 (Operand.tmp 101) (Operand.const (Value.int IntKind.i64 0)) 3, 4, _, _, none⟩) (v := ?v1) rfl (by omega) (by kernel_rfl) (by kernel_rfl) (by kernel_rfl) (fun _ _ _ h => h) (Or.inl ⟨by rfl, ?y1⟩) trivial ?r1
            case y1 =>
              intro W hSw
              go_simp
              try with_reducible rfl
            case r1 =>
            try simp only [Act.put, List.setIfInBounds_toArray, List.set_cons_zero, List.set_cons_succ]
            refine wpAnyX_take0 (i := 2) (oi := ⟨some 103, Op.move (Operand.tmp 12), 4, _, _, none⟩) (v := ?v2) rfl (by omega) (by kernel_rfl) (by kernel_rfl) (by kernel_rfl) (fun _ _ _ h => h) (Or.inl ⟨by rfl, ?y2⟩) trivial ?r2
            case y2 =>
              intro W hSw
              go_simp
              try with_reducible rfl
            case r2 =>
            try simp only [Act.put, List.setIfInBounds_toArray, List.set_cons_zero, List.set_cons_succ]
            refine wpAnyX_take0 (i := 3) (oi := ⟨some 104, Op.binOp BinOp.eql 4 (Operand.tmp 102) (Operand.tmp 103) 4, 4, _, _, none⟩) (v := ?v3) rfl (by omega) (by kernel_rfl) (by kernel_rfl) (by kernel_rfl) (fun _ _ _ h => h) (Or.inl ⟨by rfl, ?y3⟩) trivial ?r3
            case y3 =>
              intro W hSw
              go_simp
              try with_reducible rfl
            case r3 =>
            try simp only [Act.put, List.setIfInBounds_toArray, List.set_cons_zero, List.set_cons_succ]
            refine wpAnyX_take0 (i := 4) (oi := ⟨some 105, Op.move (Operand.tmp 104), 4, _, _, none⟩) (v := ?v4) rfl (by omega) (by kernel_rfl) (by kernel_rfl) (by kernel_rfl) (fun _ _ _ h => h) (Or.inl ⟨by rfl, ?y4⟩) trivial ?r4
            case y4 =>
              intro W hSw
              go_simp
              try with_reducible rfl
            case r4 =>
            try simp only [Act.put, List.setIfInBounds_toArray, List.set_cons_zero, List.set_cons_succ]
            refine wpAnyX_take0 (i := 5) (oi := ⟨some 106, Op.move (Operand.tmp 12), 4, _, _, some (4, true)⟩) (v := ?v5) rfl (by omega) (by kernel_rfl) (by kernel_rfl) (by kernel_rfl) (fun _ _ _ h => h) (Or.inl ⟨by rfl, ?y5⟩) trivial ?r5
            case y5 =>
              intro W hSw
              go_simp
              try with_reducible rfl
            case r5 =>
            try simp only [Act.put, List.setIfInBounds_toArray, List.set_cons_zero, List.set_cons_succ]
            refine wpAnyX_take0 (i := 6) (oi := ⟨some 107, Op.move (Operand.tmp 106), 4, _, _, some (4, true)⟩) (v := ?v6) rfl (by omega) (by kernel_rfl) (by kernel_rfl) (by kernel_rfl) (fun _ _ _ h => h) (Or.inl ⟨by rfl, ?y6⟩) trivial ?r6
            case y6 =>
              intro W hSw
              go_simp
              try with_reducible rfl
            case r6 =>
            try simp only [Act.put, List.setIfInBounds_toArray, List.set_cons_zero, List.set_cons_succ]
            refine wpAnyX_take0 (i := 7) (oi := ⟨some 108, Op.move (Operand.tmp 7), 25, _, _, some (6, false)⟩) (v := ?v7) rfl (by omega) (by kernel_rfl) (by kernel_rfl) (by kernel_rfl) (fun _ _ _ h => h) (Or.inl ⟨by rfl, ?y7⟩) trivial ?r7
            case y7 =>
              intro W hSw
              go_simp
              try with_reducible rfl
            case r7 =>
            try simp only [Act.put, List.setIfInBounds_toArray, List.set_cons_zero, List.set_cons_succ]
            refine wpAnyX_take0 (i := 10) (oi := ⟨some 111, Op.move (Operand.tmp 8), 25, _, _, some (6, false)⟩) (v := ?v10) rfl (by omega) (by kernel_rfl) (by kernel_rfl) (by kernel_rfl) (fun _ _ _ h => h) (Or.inl ⟨by rfl, ?y10⟩) trivial ?r10
            case y10 =>
              intro W hSw
              go_simp
              try with_reducible rfl
            case r10 =>
            try simp only [Act.put, List.setIfInBounds_toArray, List.set_cons_zero, List.set_cons_succ]
            refine wpAnyX_one (i := 8) (by kernel_rfl) rfl (fun K hK => ?_)
            rw [if_pos (by rfl)]
            go_simp
            go_at_call 11
            refine HTA.out.mono ?_
            rintro e w6 ⟨rfl, rfl⟩
            refine hK.out _ _ (fun _ => trivial) ?_
            clear hK K
            try simp only [Act.put, List.setIfInBounds_toArray, List.set_cons_zero, List.set_cons_succ]
            refine wpAnyX_one (i := 9) (by kernel_rfl) rfl (fun K hK => ?_)
            rw [if_pos (by rfl)]
            go_simp
            go_at_call 12
            refine HCA.out.mono ?_
            rintro e w6 ⟨rfl, rfl⟩
            refine hK.out _ _ (fun _ => trivial) ?_
            clear hK K
            try simp only [Act.put, List.setIfInBounds_toArray, List.set_cons_zero, List.set_cons_succ]
            refine wpAnyX_one (i := 11) (by kernel_rfl) rfl (fun K hK => ?_)
            rw [if_pos (by rfl)]
            go_simp
            go_at_call 11
            refine HTB.out.mono ?_
            rintro e w6 ⟨rfl, rfl⟩
            refine hK.out _ _ (fun _ => trivial) ?_
            clear hK K
            try simp only [Act.put, List.setIfInBounds_toArray, List.set_cons_zero, List.set_cons_succ]
            refine wpAnyX_one (i := 12) (by kernel_rfl) rfl (fun K hK => ?_)
            rw [if_pos (by rfl)]
            go_simp
            go_at_call 12
            refine HCB.out.mono ?_
            rintro e w6 ⟨rfl, rfl⟩
            refine hK.out _ _ (fun _ => trivial) ?_
            clear hK K
            try simp only [Act.put, List.setIfInBounds_toArray, List.set_cons_zero, List.set_cons_succ]
            refine wpAnyX_take0 (i := 13) (oi := ⟨some 114, Op.binOp BinOp.eql 27 (Operand.tmp 110) (Operand.tmp 113) 27, 4, _, _, some (6, false)⟩) (v := ?v13) rfl (by omega) (by kernel_rfl) (by kernel_rfl) (by kernel_rfl) (fun _ _ _ h => h) (Or.inl ⟨by rfl, ?y13⟩) trivial ?r13
            case y13 =>
              intro W hSw
              go_simp
              try with_reducible rfl
            case r13 =>
            try simp only [Act.put, List.setIfInBounds_toArray, List.set_cons_zero, List.set_cons_succ]
            refine wpAnyX_take0 (i := 14) (oi := ⟨some 115, Op.move (Operand.tmp 114), 4, _, _, some (6, false)⟩) (v := ?v14) rfl (by omega) (by kernel_rfl) (by kernel_rfl) (by kernel_rfl) (fun _ _ _ h => h) (Or.inl ⟨by rfl, ?y14⟩) trivial ?r14
            case y14 =>
              intro W hSw
              go_simp
              try with_reducible rfl
            case r14 =>
            try simp only [Act.put, List.setIfInBounds_toArray, List.set_cons_zero, List.set_cons_succ]
            refine wpAnyX_take0 (i := 15) (oi := ⟨some 116, Op.move (Operand.tmp 7), 25, _, _, some (14, true)⟩) (v := ?v15) rfl (by omega) (by kernel_rfl) (by kernel_rfl) (by kernel_rfl) (fun _ _ _ h => h) (Or.inl ⟨by rfl, ?y15⟩) trivial ?r15
            case y15 =>
              intro W hSw
              go_simp
              try with_reducible rfl
            case r15 =>
            try simp only [Act.put, List.setIfInBounds_toArray, List.set_cons_zero, List.set_cons_succ]
            refine wpAnyX_take0 (i := 18) (oi := ⟨some 119, Op.move (Operand.tmp 8), 25, _, _, some (14, true)⟩) (v := ?v18) rfl (by omega) (by kernel_rfl) (by kernel_rfl) (by kernel_rfl) (fun _ _ _ h => h) (Or.inl ⟨by rfl, ?y18⟩) trivial ?r18
            case y18 =>
              intro W hSw
              go_simp
              try with_reducible rfl
            case r18 =>
            try simp only [Act.put, List.setIfInBounds_toArray, List.set_cons_zero, List.set_cons_succ]
            refine wpAnyX_one (i := 16) (by kernel_rfl) rfl (fun K hK => ?_)
            rw [if_pos (by rfl)]
            go_simp
            go_at_call 11
            refine HTA.out.mono ?_
            rintro e w6 ⟨rfl, rfl⟩
            refine hK.out _ _ (fun _ => trivial) ?_
            clear hK K
            try simp only [Act.put, List.setIfInBounds_toArray, List.set_cons_zero, List.set_cons_succ]
            refine wpAnyX_one (i := 17) (by kernel_rfl) rfl (fun K hK => ?_)
            rw [if_pos (by rfl)]
            go_simp
            go_at_call 13
            refine HSA.out.mono ?_
            rintro e w6 ⟨rfl, rfl⟩
            refine hK.out _ _ (fun _ => trivial) ?_
            clear hK K
            try simp only [Act.put, List.setIfInBounds_toArray, List.set_cons_zero, List.set_cons_succ]
            refine wpAnyX_one (i := 19) (by kernel_rfl) rfl (fun K hK => ?_)
            rw [if_pos (by rfl)]
            go_simp
            go_at_call 11
            refine HTB.out.mono ?_
            rintro e w6 ⟨rfl, rfl⟩
            refine hK.out _ _ (fun _ => trivial) ?_
            clear hK K
            try simp only [Act.put, List.setIfInBounds_toArray, List.set_cons_zero, List.set_cons_succ]
            refine wpAnyX_one (i := 20) (by kernel_rfl) rfl (fun K hK => ?_)
            rw [if_pos (by rfl)]
            go_simp
            go_at_call 13
            refine HSB.out.mono ?_
            rintro e w6 ⟨rfl, rfl⟩
            refine hK.out _ _ (fun _ => trivial) ?_
            clear hK K
            try simp only [Act.put, List.setIfInBounds_toArray, List.set_cons_zero, List.set_cons_succ]
            refine wpAnyX_take0 (i := 21) (oi := ⟨some 122, Op.binOp BinOp.eql 3 (Operand.tmp 118) (Operand.tmp 121) 3, 4, _, _, some (14, true)⟩) (v := ?v21) rfl (by omega) (by kernel_rfl) (by kernel_rfl) (by kernel_rfl) (fun _ _ _ h => h) (Or.inl ⟨by rfl, ?y21⟩) trivial ?r21
            case y21 =>
              intro W hSw
              go_simp
              try with_reducible rfl
            case r21 =>
            try simp only [Act.put, List.setIfInBounds_toArray, List.set_cons_zero, List.set_cons_succ]
            refine wpAnyX_take0 (i := 22) (oi := ⟨some 123, Op.pick (Operand.tmp 115) (Operand.tmp 122) (Operand.const (Value.bool false)), 4, _, _, some (6, false)⟩) (v := ?v22) rfl (by omega) (by kernel_rfl) (by kernel_rfl) (by kernel_rfl) (fun _ _ _ h => h) (Or.inl ⟨by rfl, ?y22⟩) trivial ?r22
            case y22 =>
              intro W hSw
              go_simp
              try with_reducible rfl
            case r22 =>
            try simp only [Act.put, List.setIfInBounds_toArray, List.set_cons_zero, List.set_cons_succ]
            refine wpAnyX_take0 (i := 23) (oi := ⟨some 124, Op.move (Operand.tmp 123), 4, _, _, some (6, false)⟩) (v := ?v23) rfl (by omega) (by kernel_rfl) (by kernel_rfl) (by kernel_rfl) (fun _ _ _ h => h) (Or.inl ⟨by rfl, ?y23⟩) trivial ?r23
            case y23 =>
              intro W hSw
              go_simp
              try with_reducible rfl
            case r23 =>
            try simp only [Act.put, List.setIfInBounds_toArray, List.set_cons_zero, List.set_cons_succ]
            refine wpAnyX_take0 (i := 24) (oi := ⟨some 125, Op.move (Operand.tmp 7), 25, _, _, some (23, true)⟩) (v := ?v24) rfl (by omega) (by kernel_rfl) (by kernel_rfl) (by kernel_rfl) (fun _ _ _ h => h) (Or.inl ⟨by rfl, ?y24⟩) trivial ?r24
            case y24 =>
              intro W hSw
              go_simp
              try with_reducible rfl
            case r24 =>
            try simp only [Act.put, List.setIfInBounds_toArray, List.set_cons_zero, List.set_cons_succ]
            refine wpAnyX_take0 (i := 27) (oi := ⟨some 128, Op.move (Operand.tmp 8), 25, _, _, some (23, true)⟩) (v := ?v27) rfl (by omega) (by kernel_rfl) (by kernel_rfl) (by kernel_rfl) (fun _ _ _ h => h) (Or.inl ⟨by rfl, ?y27⟩) trivial ?r27
            case y27 =>
              intro W hSw
              go_simp
              try with_reducible rfl
            case r27 =>
            try simp only [Act.put, List.setIfInBounds_toArray, List.set_cons_zero, List.set_cons_succ]
            refine wpAnyX_one (i := 25) (by kernel_rfl) rfl (fun K hK => ?_)
            rw [if_pos (by rfl)]
            go_simp
            go_at_call 14
            refine HSNA.out.mono ?_
            rintro e w8 ⟨v8, rfl, hu8, hb8⟩
            have HU8 := Bx.mk hu8.snd.exch
            have HS8 := Bx.mk (HBX.out.drew.trans hb8)
            have hc8 := conv_str hu8.snd.fst.owbs
            rw [hST2.out] at hc8
            clear hu8 hb8
            refine hK.out _ _ (fun _ => trivial) ?_
            clear hK K
            try simp only [Act.put, List.setIfInBounds_toArray, List.set_cons_zero, List.set_cons_succ]
            refine wpAnyX_two (i := 26) (j := 28) (by kernel_rfl) rfl rfl (fun K hK => ?_) (fun K hK => ?_)
            · rw [if_pos (by rfl)]
              go_simp
              refine hK.out _ _ (fun _ => trivial) ?_
              clear hK K
              try simp only [Act.put, List.setIfInBounds_toArray, List.set_cons_zero, List.set_cons_succ]
              refine wpAnyX_one (i := 28) (by kernel_rfl) rfl (fun K hK => ?_)
              rw [if_pos (by rfl)]
              go_simp
              go_at_call 14
              refine (HSNB.out w8 v8 HU8.out HS8.out).mono ?_
              rintro e w9 ⟨v9, rfl, hu9, hb9⟩
              have HS9 := Bx.mk (HS8.out.trans hb9)
              have hc9 := conv_str hu9.snd.fst.owbs
              rw [hST2.out] at hc9
              have hc89 := conv_str hu9.snd.snd.fst.owbs
              rw [hST2.out] at hc89
              clear hu9 hb9
              refine hK.out _ _ (fun _ => trivial) ?_
              clear hK K
              try simp only [Act.put, List.setIfInBounds_toArray, List.set_cons_zero, List.set_cons_succ]
              refine wpAnyX_one (i := 29) (by kernel_rfl) rfl (fun K hK => ?_)
              rw [if_pos (by rfl)]
              go_simp
              refine hK.out _ _ (fun _ => trivial) ?_
              clear hK K
              try simp only [Act.put, List.setIfInBounds_toArray, List.set_cons_zero, List.set_cons_succ]
              refine wpAnyX_take0 (i := 30) (oi := ⟨some 131, Op.binOp BinOp.eql 9 (Operand.tmp 127) (Operand.tmp 130) 9, 4, _, _, some (23, true)⟩) (v := ?v30) rfl (by omega) (by kernel_rfl) (by kernel_rfl) (by kernel_rfl) (fun _ _ _ h => h) (Or.inl ⟨by rfl, ?y30⟩) trivial ?r30
              case y30 =>
                intro W hSw
                go_simp
                try with_reducible rfl
              case r30 =>
              try simp only [Act.put, List.setIfInBounds_toArray, List.set_cons_zero, List.set_cons_succ]
              refine wpAnyX_take0 (i := 31) (oi := ⟨some 132, Op.pick (Operand.tmp 124) (Operand.tmp 131) (Operand.const (Value.bool false)), 4, _, _, some (6, false)⟩) (v := ?v31) rfl (by omega) (by kernel_rfl) (by kernel_rfl) (by kernel_rfl) (fun _ _ _ h => h) (Or.inl ⟨by rfl, ?y31⟩) trivial ?r31
              case y31 =>
                intro W hSw
                go_simp
                try with_reducible rfl
              case r31 =>
              try simp only [Act.put, List.setIfInBounds_toArray, List.set_cons_zero, List.set_cons_succ]
              refine wpAnyX_take0 (i := 32) (oi := ⟨some 133, Op.pick (Operand.tmp 107) (Operand.const (Value.bool true)) (Operand.tmp 132), 4, _, _, some (4, true)⟩) (v := ?v32) rfl (by omega) (by kernel_rfl) (by kernel_rfl) (by kernel_rfl) (fun _ _ _ h => h) (Or.inl ⟨by rfl, ?y32⟩) trivial ?r32
              case y32 =>
                intro W hSw
                go_simp
                try with_reducible rfl
              case r32 =>
              try simp only [Act.put, List.setIfInBounds_toArray, List.set_cons_zero, List.set_cons_succ]
              refine wpAnyX_take0 (i := 33) (oi := ⟨some 134, Op.pick (Operand.tmp 105) (Operand.tmp 133) (Operand.const (Value.bool false)), 4, _, _, none⟩) (v := ?v33) rfl (by omega) (by kernel_rfl) (by kernel_rfl) (by kernel_rfl) (fun _ _ _ h => h) (Or.inl ⟨by rfl, ?y33⟩) trivial ?r33
              case y33 =>
                intro W hSw
                go_simp
                try with_reducible rfl
              case r33 =>
              try simp only [Act.put, List.setIfInBounds_toArray, List.set_cons_zero, List.set_cons_succ]
              refine wpAnyX_one (i := 34) (by kernel_rfl) rfl (fun K hK => ?_)
              rw [if_pos (by rfl)]
              go_simp
              refine hK.out _ _ (fun _ => trivial) ?_
              clear hK K
              try simp only [Act.put, List.setIfInBounds_toArray, List.set_cons_zero, List.set_cons_succ]
              refine wpAnyX_done (by kernel_rfl) ?_ _
              go_wp2_with fail
              go_ret
              exact ⟨rfl, HBW.out _ HS9.out⟩
            · rw [if_pos (by rfl)]
              go_simp
              go_at_call 14
              refine (HSNB.out w8 v8 HU8.out HS8.out).mono ?_
              rintro e w9 ⟨v9, rfl, hu9, hb9⟩
              have HS9 := Bx.mk (HS8.out.trans hb9)
              have hc9 := conv_str hu9.snd.fst.owbs
              rw [hST2.out] at hc9
              have hc89 := conv_str hu9.snd.snd.fst.owbs
              rw [hST2.out] at hc89
              clear hu9 hb9
              refine hK.out _ _ (fun _ => trivial) ?_
              clear hK K
              try simp only [Act.put, List.setIfInBounds_toArray, List.set_cons_zero, List.set_cons_succ]
              refine wpAnyX_two (i := 26) (j := 29) (by kernel_rfl) rfl rfl (fun K hK => ?_) (fun K hK => ?_)
              · rw [if_pos (by rfl)]
                go_simp
                refine hK.out _ _ (fun _ => trivial) ?_
                clear hK K
                try simp only [Act.put, List.setIfInBounds_toArray, List.set_cons_zero, List.set_cons_succ]
                refine wpAnyX_one (i := 29) (by kernel_rfl) rfl (fun K hK => ?_)
                rw [if_pos (by rfl)]
                go_simp
                refine hK.out _ _ (fun _ => trivial) ?_
                clear hK K
                try simp only [Act.put, List.setIfInBounds_toArray, List.set_cons_zero, List.set_cons_succ]
                refine wpAnyX_take0 (i := 30) (oi := ⟨some 131, Op.binOp BinOp.eql 9 (Operand.tmp 127) (Operand.tmp 130) 9, 4, _, _, some (23, true)⟩) (v := ?v30) rfl (by omega) (by kernel_rfl) (by kernel_rfl) (by kernel_rfl) (fun _ _ _ h => h) (Or.inl ⟨by rfl, ?y30⟩) trivial ?r30
                case y30 =>
                  intro W hSw
                  go_simp
                  try with_reducible rfl
                case r30 =>
                try simp only [Act.put, List.setIfInBounds_toArray, List.set_cons_zero, List.set_cons_succ]
                refine wpAnyX_take0 (i := 31) (oi := ⟨some 132, Op.pick (Operand.tmp 124) (Operand.tmp 131) (Operand.const (Value.bool false)), 4, _, _, some (6, false)⟩) (v := ?v31) rfl (by omega) (by kernel_rfl) (by kernel_rfl) (by kernel_rfl) (fun _ _ _ h => h) (Or.inl ⟨by rfl, ?y31⟩) trivial ?r31
                case y31 =>
                  intro W hSw
                  go_simp
                  try with_reducible rfl
                case r31 =>
                try simp only [Act.put, List.setIfInBounds_toArray, List.set_cons_zero, List.set_cons_succ]
                refine wpAnyX_take0 (i := 32) (oi := ⟨some 133, Op.pick (Operand.tmp 107) (Operand.const (Value.bool true)) (Operand.tmp 132), 4, _, _, some (4, true)⟩) (v := ?v32) rfl (by omega) (by kernel_rfl) (by kernel_rfl) (by kernel_rfl) (fun _ _ _ h => h) (Or.inl ⟨by rfl, ?y32⟩) trivial ?r32
                case y32 =>
                  intro W hSw
                  go_simp
                  try with_reducible rfl
                case r32 =>
                try simp only [Act.put, List.setIfInBounds_toArray, List.set_cons_zero, List.set_cons_succ]
                refine wpAnyX_take0 (i := 33) (oi := ⟨some 134, Op.pick (Operand.tmp 105) (Operand.tmp 133) (Operand.const (Value.bool false)), 4, _, _, none⟩) (v := ?v33) rfl (by omega) (by kernel_rfl) (by kernel_rfl) (by kernel_rfl) (fun _ _ _ h => h) (Or.inl ⟨by rfl, ?y33⟩) trivial ?r33
                case y33 =>
                  intro W hSw
                  go_simp
                  try with_reducible rfl
                case r33 =>
                try simp only [Act.put, List.setIfInBounds_toArray, List.set_cons_zero, List.set_cons_succ]
                refine wpAnyX_one (i := 34) (by kernel_rfl) rfl (fun K hK => ?_)
                rw [if_pos (by rfl)]
                go_simp
                refine hK.out _ _ (fun _ => trivial) ?_
                clear hK K
                try simp only [Act.put, List.setIfInBounds_toArray, List.set_cons_zero, List.set_cons_succ]
                refine wpAnyX_done (by kernel_rfl) ?_ _
                go_wp2_with fail
                go_ret
                exact ⟨rfl, HBW.out _ HS9.out⟩
              · rw [if_pos (by rfl)]
                go_simp
                refine hK.out _ _ (fun _ => trivial) ?_
                clear hK K
                try simp only [Act.put, List.setIfInBounds_toArray, List.set_cons_zero, List.set_cons_succ]
                refine wpAnyX_one (i := 26) (by kernel_rfl) rfl (fun K hK => ?_)
                rw [if_pos (by rfl)]
                go_simp
                refine hK.out _ _ (fun _ => trivial) ?_
                clear hK K
                try simp only [Act.put, List.setIfInBounds_toArray, List.set_cons_zero, List.set_cons_succ]
                refine wpAnyX_take0 (i := 30) (oi := ⟨some 131, Op.binOp BinOp.eql 9 (Operand.tmp 127) (Operand.tmp 130) 9, 4, _, _, some (23, true)⟩) (v := ?v30) rfl (by omega) (by kernel_rfl) (by kernel_rfl) (by kernel_rfl) (fun _ _ _ h => h) (Or.inl ⟨by rfl, ?y30⟩) trivial ?r30
                case y30 =>
                  intro W hSw
                  go_simp
                  try with_reducible rfl
                case r30 =>
                try simp only [Act.put, List.setIfInBounds_toArray, List.set_cons_zero, List.set_cons_succ]
                refine wpAnyX_take0 (i := 31) (oi := ⟨some 132, Op.pick (Operand.tmp 124) (Operand.tmp 131) (Operand.const (Value.bool false)), 4, _, _, some (6, false)⟩) (v := ?v31) rfl (by omega) (by kernel_rfl) (by kernel_rfl) (by kernel_rfl) (fun _ _ _ h => h) (Or.inl ⟨by rfl, ?y31⟩) trivial ?r31
                case y31 =>
                  intro W hSw
                  go_simp
                  try with_reducible rfl
                case r31 =>
                try simp only [Act.put, List.setIfInBounds_toArray, List.set_cons_zero, List.set_cons_succ]
                refine wpAnyX_take0 (i := 32) (oi := ⟨some 133, Op.pick (Operand.tmp 107) (Operand.const (Value.bool true)) (Operand.tmp 132), 4, _, _, some (4, true)⟩) (v := ?v32) rfl (by omega) (by kernel_rfl) (by kernel_rfl) (by kernel_rfl) (fun _ _ _ h => h) (Or.inl ⟨by rfl, ?y32⟩) trivial ?r32
                case y32 =>
                  intro W hSw
                  go_simp
                  try with_reducible rfl
                case r32 =>
                try simp only [Act.put, List.setIfInBounds_toArray, List.set_cons_zero, List.set_cons_succ]
                refine wpAnyX_take0 (i := 33) (oi := ⟨some 134, Op.pick (Operand.tmp 105) (Operand.tmp 133) (Operand.const (Value.bool false)), 4, _, _, none⟩) (v := ?v33) rfl (by omega) (by kernel_rfl) (by kernel_rfl) (by kernel_rfl) (fun _ _ _ h => h) (Or.inl ⟨by rfl, ?y33⟩) trivial ?r33
                case y33 =>
                  intro W hSw
                  go_simp
                  try with_reducible rfl
                case r33 =>
                try simp only [Act.put, List.setIfInBounds_toArray, List.set_cons_zero, List.set_cons_succ]
                refine wpAnyX_one (i := 34) (by kernel_rfl) rfl (fun K hK => ?_)
                rw [if_pos (by rfl)]
                go_simp
                refine hK.out _ _ (fun _ => trivial) ?_
                clear hK K
                try simp only [Act.put, List.setIfInBounds_toArray, List.set_cons_zero, List.set_cons_succ]
                refine wpAnyX_done (by kernel_rfl) ?_ _
                go_wp2_with fail
                go_ret
                exact ⟨rfl, HBW.out _ HS9.out⟩
        have hpos : 0 < l'.length := List.length_pos_iff.2 hl0
        have hgt : decide (0 < KI) = true := decide_eq_true (by omega)
        have hll : l'.length ≤ 4800 := by obtain ⟨x, e, _⟩ := HP.out; have h := HBL.out; rw [e, List.length_append] at h; omega
        cases gk with
        | zero => exact absurd (hdone (by omega)) hl0
        | succ g =>
          have HIG := Bx.mk hig
          have hii : i ≤ cu.length := by omega
          have h40 := HN.out.2
          have hw1 : wrap64 ((i : Int) + 1) = ((i + 1 : Nat) : Int) := by unfold wrap64; omega
          have HPZ := Bx.mk HP.out.pi
          by_cases hiC : i < cu.length
          · have hlt2 : decide ((i : Int) < CI) = true := decide_eq_true (by omega)
            obtain ⟨pt, hix, hcell⟩ := HC.out.at_ i hiC
            have hcw := hcell wr (Rd.keep HC.out (HB1.out.trans (HBX.out.mono HB1.out.size)))
            obtain ⟨cb, hcb⟩ : ∃ cb, cu[i].toNat = cb := ⟨_, rfl⟩
            rw [hcb] at hcw
            obtain ⟨r, hr⟩ : ∃ r, cb % 4 = r := ⟨_, rfl⟩
            obtain ⟨RI, hRI⟩ := letter r
            have hrm : (cb : Int).tmod 4 = RI := by rw [Int.tmod_eq_emod_of_nonneg (by omega)]; omega
            have hrw8 : IntKind.u8.wrap RI = RI := by rw [IntKind.wrap_u8]; omega
            have hrw : IntKind.i64.wrap RI = RI := (i64_keep (by omega) (by omega)).2
            obtain ⟨m, hm⟩ : ∃ m, min r l'.length = m := ⟨_, rfl⟩
            have hml : m ≤ l'.length := by omega
            obtain ⟨NI, hNI⟩ := letter m
            have hmin : min RI KI = NI := by omega
            have hnext : cu.length < i + 1 → l'.drop m = [] := fun h => by omega
            clear hcell hcb hr hRI hm
            have HNX := Bx.mk hnext
            have hm0 : 0 ≤ NI := by omega
            have hmt : NI.toNat = m := by omega
            have hmle : NI ≤ (l'.length : Int) := by omega
            obtain ⟨vt, hst, hvt⟩ := HBs.out.upto NI hm0 hmle
            obtain ⟨vd, hsd, hvd⟩ := HBs.out.from_ NI hm0 hmle
            rw [hmt] at hvt hvd
            obtain ⟨Z', E', hZE, hp', hE', hbz⟩ := HP.out.go HX.out.1 m
            have hpz := HPZ.out
            have hbl := HBL.out
            have hfd := uq_feed ((Wd.dq q p A).both (Wd.ob _)) HU.out HBX.out.size hpz.mx hpz.gd hpz.nm (by have := hpz.tot; omega) (fun W S2 h => hvt W (ob_get (P := fun W => Bs W u9 l') W S2 h)) (by rw [List.length_take]; omega) (by have := hpz.tot; omega)
            rw [hZE] at hfd
            have HVD := Bx.mk hvd
            have HP' := Bx.mk hp'
            cases hz : Z'.br with
            | true =>
              rw [hz, if_pos rfl] at hE'
              subst hE'
              have HFD := Bx.mk hfd
              have HZ := Bx.mk hz
              clear hz hbz hp' hZE hvt hvd hpz hbl hfd hnext hNI hml hm0 hmt hmle hll hpos hKI hLI hCI hdone hig hii h40 hiC hl0
              go_wp2_with (go_at_call 10; refine HFD.out.mono ?_; rintro e w6 ⟨rfl, hu6, hb6⟩; have HU6 := Bx.mk (hu6.obmap HVD.out); have HB6 := Bx.mk (HBX.out.trans hb6); clear hu6 hb6)
              go_roundg g
              case measure => omega
              case rel => exact ⟨i + 1, l'.drop m, Z', by have := HIG.out; omega, by first | rfl | (rw [hw1]), HNX.out, by rw [HZ.out], HP', HU6, HB6⟩
            | false =>
              rw [hz, if_neg (by simp)] at hE'
              subst hE'
              have hzb := hbz hz
              have HFD := Bx.mk hfd
              have HZ := Bx.mk hz
              clear hz hbz hp' hZE hvt hvd hpz hbl hfd hnext hNI hml hm0 hmt hmle hll hpos hKI hLI hCI hdone hig hii h40 hiC hl0
              go_wp2_with (go_at_call 10; refine HFD.out.mono ?_; rintro e w6 ⟨rfl, hu6, hb6⟩; have HU6 := Bx.mk (hu6.obmap HVD.out); have HB6 := Bx.mk (HBX.out.trans hb6); clear hu6 hb6)
              go_roundg g
              case measure => omega
              case rel => exact ⟨i + 1, l'.drop m, Z', by have := HIG.out; omega, by first | rfl | (rw [hw1]), HNX.out, by rw [HZ.out], HP', HU6, HB6⟩
          · have hlt2 : decide ((i : Int) < CI) = false := decide_eq_false (by omega)
            obtain ⟨m, hm⟩ : ∃ m, l'.length = m := ⟨_, rfl⟩
            have hml : m ≤ l'.length := by omega
            obtain ⟨NI, hNI⟩ := letter m
            have hKN : KI = NI := by omega
            subst hKN
            have hnext : cu.length < i + 1 → l'.drop m = [] := fun h => List.drop_eq_nil_of_le (by omega)
            clear hm
            have HNX := Bx.mk hnext
            have hm0 : 0 ≤ KI := by omega
            have hmt : KI.toNat = m := by omega
            have hmle : KI ≤ (l'.length : Int) := by omega
            obtain ⟨vt, hst, hvt⟩ := HBs.out.upto KI hm0 hmle
            obtain ⟨vd, hsd, hvd⟩ := HBs.out.from_ KI hm0 hmle
            rw [hmt] at hvt hvd
            obtain ⟨Z', E', hZE, hp', hE', hbz⟩ := HP.out.go HX.out.1 m
            have hpz := HPZ.out
            have hbl := HBL.out
            have hfd := uq_feed ((Wd.dq q p A).both (Wd.ob _)) HU.out HBX.out.size hpz.mx hpz.gd hpz.nm (by have := hpz.tot; omega) (fun W S2 h => hvt W (ob_get (P := fun W => Bs W u9 l') W S2 h)) (by rw [List.length_take]; omega) (by have := hpz.tot; omega)
            rw [hZE] at hfd
            have HVD := Bx.mk hvd
            have HP' := Bx.mk hp'
            cases hz : Z'.br with
            | true =>
              rw [hz, if_pos rfl] at hE'
              subst hE'
              have HFD := Bx.mk hfd
              have HZ := Bx.mk hz
              clear hz hbz hp' hZE hvt hvd hpz hbl hfd hnext hNI hml hm0 hmt hmle hll hpos hKI hLI hCI hdone hig hii h40 hiC hl0
              go_wp2_with (go_at_call 10; refine HFD.out.mono ?_; rintro e w6 ⟨rfl, hu6, hb6⟩; have HU6 := Bx.mk (hu6.obmap HVD.out); have HB6 := Bx.mk (HBX.out.trans hb6); clear hu6 hb6)
              go_roundg g
              case measure => omega
              case rel => exact ⟨i + 1, l'.drop m, Z', by have := HIG.out; omega, by first | rfl | (rw [hw1]), HNX.out, by rw [HZ.out], HP', HU6, HB6⟩
            | false =>
              rw [hz, if_neg (by simp)] at hE'
              subst hE'
              have hzb := hbz hz
              have HFD := Bx.mk hfd
              have HZ := Bx.mk hz
              clear hz hbz hp' hZE hvt hvd hpz hbl hfd hnext hNI hml hm0 hmt hmle hll hpos hKI hLI hCI hdone hig hii h40 hiC hl0
              go_wp2_with (go_at_call 10; refine HFD.out.mono ?_; rintro e w6 ⟨rfl, hu6, hb6⟩; have HU6 := Bx.mk (hu6.obmap HVD.out); have HB6 := Bx.mk (HBX.out.trans hb6); clear hu6 hb6)
              go_roundg g
              case measure => omega
              case rel => exact ⟨i + 1, l'.drop m, Z', by have := HIG.out; omega, by first | rfl | (rw [hw1]), HNX.out, by rw [HZ.out], HP', HU6, HB6⟩
end Go.Proofs.Yteopmaaghhendaa
