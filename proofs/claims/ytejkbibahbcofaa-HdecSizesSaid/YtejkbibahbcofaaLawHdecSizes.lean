/-
  bifoldlaw6.HdecSizes answers true, whatever its arguments: the walk.
-/
import Derived.Test.YtejkbibahbcofaaM25
import Derived.Test.YtejkbibahbcofaaM27
import Derived.Test.YtejkbibahbcofaaM26
import Derived.BigQuiet
import Derived.Deep.RegionHeld
import Derived.Handy
namespace Go.Proofs.Ytejkbibahbcofaa
open Go.RowKit Go.Maps
set_option linter.unusedVariables false

theorem below_stepS {wA W w' : World} (h : Below wA.heap.size wA W) (hb : Below W.heap.size W w') : Below wA.heap.size wA w' := h.trans (hb.mono h.size)

theorem upsW_len : ∀ ns : List Nat, (upsW ns).length ≤ 11 * ns.length
  | [] => by simp [upsW]
  | n :: ns => by
    have h1 := upsW_len ns
    have h2 := (pre_len 32 5 n).2
    have e : upsW (n :: ns) = pre 32 5 n ++ upsW ns := by simp [upsW]
    rw [e, List.length_append, List.length_cons]
    omega

theorem pfups_len (b : Bool) (ns : List Nat) (h : ns.length ≤ 4) : (pfW b ++ upsW ns).length ≤ 50 := by
  have h1 := upsW_len ns
  have h2 : (pfW b).length ≤ 1 := by cases b <;> simp [pfW]
  rw [List.length_append]
  omega
theorem ffW_len (b : Bool) : (ffW b).length ≤ 1 := by cases b <;> simp [ffW]

set_option maxRecDepth 100000 in
set_option maxHeartbeats 4000000 in
theorem hdecSizes_walk (a0 a1 : Int) (v2 : Value) (ns : List Nat) (a3 a4 : Bool) (w : World) (w0 : (Lit.int .u16 a0).wf = true) (w1 : (Lit.int .u16 a1).wf = true) (hus : Us w v2 ns) :
    Calls Try.prog 6 #[.int .u16 a0, .int .u16 a1, v2, .bool a3, .bool a4] w fun e w' => e = .returned (.bool true) ∧ Below w.heap.size w w' := by
  obtain ⟨lim, rfl, hlim⟩ := u16n w0
  obtain ⟨lo, rfl, hlo⟩ := u16n w1
  have HUS := Bx.mk hus
  have hlen := fun ty W => HUS.out.run_len ty W
  obtain ⟨n, hn⟩ : ∃ n, ns.length = n := ⟨_, rfl⟩
  rw [hn] at hlen
  have HN := Bx.mk hn
  have hmax : n ≤ maxLen := by have := Rd.len hus.1; rw [List.length_map] at this; omega
  unfold maxLen at hmax
  clear w0 w1 hus hn
  by_cases hbig : 4 < n
  · have hbb : decide (4 < (n : Int)) = true := by rw [decide_eq_true_iff]; omega
    clear hbig
    go_enter Try.func6, Try.ntmps6
    go_wp2_with (go_at_call 10; refine (hknown_any _).mono ?_; rintro e w1 ⟨rfl, b1⟩)
    go_ret
    exact ⟨rfl, b1⟩
  have hbb : decide (4 < (n : Int)) = false := by rw [decide_eq_false_iff_not]; omega
  have hn4 : n ≤ 4 := by omega
  clear hbig hmax
  -- the numbers
  obtain ⟨tp, htp⟩ : ∃ tp, lim % 4097 = tp := ⟨_, rfl⟩
  have htp1 : (lim : Int) % 4097 = (tp : Int) := by omega
  have htp2 : (lim : Int).tmod 4097 = (tp : Int) := by rw [Int.tmod_eq_emod_of_nonneg (by omega)]; exact htp1
  have htp4 : tp ≤ 4096 := by omega
  have hwl : IntKind.i64.wrap (lim : Int) = (lim : Int) := by simp only [IntKind.wrap_i64]; omega
  obtain ⟨low, hlow⟩ : ∃ low, lo % 4097 = low := ⟨_, rfl⟩
  have hlow1 : (lo : Int) % 4097 = (low : Int) := by omega
  have hlow2 : (lo : Int).tmod 4097 = (low : Int) := by rw [Int.tmod_eq_emod_of_nonneg (by omega)]; exact hlow1
  have hlow4 : low ≤ 4096 := by omega
  have hwlo : IntKind.i64.wrap (lo : Int) = (lo : Int) := by simp only [IntKind.wrap_i64]; omega
  have HNUM : Bx (tp ≤ 4096 ∧ low ≤ 4096) := ⟨htp4, hlow4⟩
  clear htp hlow
  obtain ⟨pb, hpb⟩ : ∃ pb, ((lo : Int) % 2 == 1) = pb := ⟨_, rfl⟩
  obtain ⟨i0, hi, hz, hz1, hz2⟩ := info_parts infoU8
  have HI : Bx (Try.prog.info? 5 = some i0 ∧ i0.zero = some (.int .u8 0) ∧ i0.size = 1 ∧ i0.bytes = 1) := ⟨hi, hz, hz1, hz2⟩
  clear hi hz hz1 hz2
  go_enter Try.func6, Try.ntmps6
  go_wp2_with fail
  refine (hknown_any _).mono ?_
  rintro e w3 ⟨rfl, b3⟩
  have HB3 := Bx.mk b3
  clear b3
  go_wp2_with fail
  refine (OneP.new (tp : Int) w3).mono ?_
  rintro e w4 ⟨q, t, rfl, h4, b4⟩
  rw [clampN_nat HNUM.out.1] at h4
  have HP4 := Bx.mk h4
  have HS4 := Bx.mk b4.size
  have HB4 := Bx.mk (HB3.out.trans (b4.mono HB3.out.size))
  have HS3 := Bx.mk HB3.out.size
  clear h4 b4 HB3
  obtain ⟨B, hB⟩ : ∃ B, w3.heap.size = B := ⟨_, rfl⟩
  rw [hB] at HP4 HS4 HS3
  clear hB
  -- the limit
  go_upto_if 32 with fail
  go_cut [11, 13] from 33 to 42 (fun s11 s13 wx => ∃ (mx : Nat) (T : Tab) (mu : Bool), s11 = .int .i64 (mx : Int) ∧ s13 = .bool mu ∧ Bx (OneP B q t T mx mu false wx ∧ T.gd ∧ T.tot = 0 ∧ mx ≤ 4096) ∧ Bx (Below w.heap.size w wx) ∧ Bx (B ≤ wx.heap.size))
  case first =>
    cases pb with
    | true =>
      obtain ⟨mb, hmb⟩ : ∃ mb, decide ((low : Int) < (tp : Int)) = mb := ⟨_, rfl⟩
      have hmb2 : decide (low < tp) = mb := by rw [← hmb]; exact decide_eq_decide.2 (by omega)
      go_wp2_with fail
      refine (HP4.out.limit HS4.out (low : Int)).mono ?_
      rintro e w5 ⟨rfl, h5, b5⟩
      rw [clampN_nat HNUM.out.2, show (Tab.new (tp : Int)).cap = tp from by simp [Tab.new], hmb2, Bool.false_or] at h5
      have HP5 : Bx (OneP B q t (limT (Tab.new (tp : Int)) low) low mb false w5 ∧ (limT (Tab.new (tp : Int)) low).gd ∧ (limT (Tab.new (tp : Int)) low).tot = 0 ∧ low ≤ 4096) := ⟨h5, limT_gd (gd_new tp HNUM.out.1) HNUM.out.2, by rw [limT_tot]; rfl, HNUM.out.2⟩
      have HB5 : Bx (Below w.heap.size w w5) := ⟨HB4.out.trans (b5.mono HS3.out)⟩
      have HS5 : Bx (B ≤ w5.heap.size) := ⟨Nat.le_trans HS4.out b5.size⟩
      clear h5 b5 HP4 HB4 HS4
      go_wp2_with fail
      go_meet
      exact ⟨low, _, mb, rfl, rfl, HP5, HB5, HS5⟩
    | false =>
      have HP5 : Bx (OneP B q t (Tab.new (tp : Int)) tp false false w4 ∧ (Tab.new (tp : Int)).gd ∧ (Tab.new (tp : Int)).tot = 0 ∧ tp ≤ 4096) := ⟨HP4.out, gd_new tp HNUM.out.1, rfl, HNUM.out.1⟩
      go_wp2_with fail
      go_meet
      exact ⟨tp, _, false, rfl, rfl, HP5, HB4, HS4⟩
  case rest =>
    obtain ⟨mx, T, mu, rfl, rfl, HP5, HB5, HS5⟩ := hcut
    clear hpb htp1 htp2 hlow1 hlow2 hwl hwlo HP4 HB4 HS4 HNUM
    -- what is asked of the sizes' number
    obtain ⟨d2, hd2⟩ : ∃ d2, decide ((n : Int) ≤ 2) = d2 := ⟨_, rfl⟩
    obtain ⟨d0, hd0⟩ : ∃ d0, decide (0 < n) = d0 := ⟨_, rfl⟩
    obtain ⟨e0, he0⟩ : ∃ e0, ((n : Int) == 0) = e0 := ⟨_, rfl⟩
    have HOK0 : Bx ((if a4 then e0 && !mu else d2 && (!mu || d0)) = okW a4 mu ns mx 0) := ⟨by
      rw [okW_zero, HN.out, ← hd2, ← hd0, ← he0]
      have x1 : decide ((n : Int) ≤ 2) = decide (n ≤ 2) := decide_eq_decide.2 (by omega)
      have x3 : ((n : Int) == 0) = decide (n = 0) := by
        rw [Bool.eq_iff_iff]
        simp
      rw [x1, x3]⟩
    go_upto_region 14 with fail
    go_cut [16] from 43 to 54 (fun s16 wx => s16 = .bool (d2 && (!mu || d0)) ∧ Bx (OneP B q t T mx mu false wx ∧ T.gd ∧ T.tot = 0 ∧ mx ≤ 4096) ∧ Bx (Below w.heap.size w wx) ∧ Bx (B ≤ wx.heap.size))
    case first =>
      cases d2 <;> cases mu <;> cases d0
      all_goals go_wp2_with fail
      all_goals go_meet
      all_goals exact ⟨rfl, HP5, HB5, HS5⟩
    case rest =>
      clear HP5 HB5 HS5
      obtain ⟨rfl, HP5, HB5, HS5⟩ := hcut
      obtain ⟨wb, hwb⟩ : ∃ wb, wb = wc := ⟨_, rfl⟩
      subst hwb
      go_upto_if 55 with fail
      go_cut [15, 16] from 56 to 65 (fun s15 s16 wx => s16 = .bool (okW a4 mu ns mx 0) ∧ Bx (OwB wx wb.heap.size s15 (pfW a4)) ∧ Bx (Below wb.heap.size wb wx))
      case first =>
        cases a4 with
        | false =>
          go_wp2_with fail
          go_meet
          exact ⟨by rw [← HOK0.out]; rfl, ⟨OwB.nil _ _⟩, ⟨Below.refl _ _⟩⟩
        | true =>
          cases e0 <;> cases mu
          all_goals go_wp2_with (at_builtin; refine wpList_append_og _ rfl _ _ 24 rfl wb.heap.size 5 i0 (.int .u8 0) 1 Try.underlying24 HI.out.1 HI.out.2.1 HI.out.2.2.1 HI.out.2.2.2 rfl _ _ (([] : List UInt8).map bv) _ rfl rfl ((OwB.nil wb wb.heap.size).alloc _) (Rd.lit wb 5 _ 1 rfl (by simp [maxLen])) (by simp [Value.oneCell']) (by simp) (by simp [maxLen]) (by simp) ?_; intro v6 w6 ho6 hb6 _; have HO6 := Bx.mk (OwB.snoc ho6 130 rfl); have HB6 := Bx.mk (((Below.refl wb.heap.size wb).alloc (Nat.le_refl _) _).trans hb6); clear ho6 hb6; obtain ⟨av, nv, cv, rfl⟩ : ∃ av nv cv, v6 = .slice av nv cv := ⟨_, _, _, (HO6.out.bs.choose_spec.choose_spec).1⟩)
          all_goals go_meet
          all_goals exact ⟨by rw [← HOK0.out]; rfl, HO6, HB6⟩
      case rest =>
        obtain ⟨rfl, HO7, HB7⟩ := hcut
        clear HOK0 hd2 hd0
        go_wp2_with fail
        go_loopg [15, 16, 17] n (fun g s15 s16 s17 wx => ∃ k : Nat, k + g = n ∧ s17 = .int .i64 (k : Int) ∧ s16 = .bool (okW a4 mu ns mx k) ∧ Bx (OwB wx wb.heap.size s15 (pfW a4 ++ upsW (ns.take k))) ∧ Bx (Below wb.heap.size wb wx))
        case atStart => exact ⟨0, by omega, rfl, rfl, by simpa [upsW] using HO7, HB7⟩
        case round =>
          clear HO7 HB7
          obtain ⟨k, hkg, rfl, rfl, HO8, HB8⟩ := hrel
          cases gk with
          | zero =>
            obtain rfl : k = n := by omega
            have hkk : decide (k < k) = false := decide_eq_false (by omega)
            have hkk2 : decide ((k : Int) < (k : Int)) = false := decide_eq_false (by omega)
            have HB9 : Bx (OwB wr wb.heap.size u15 (pfW a4 ++ upsW ns)) := ⟨by have h := HO8.out; rw [List.take_of_length_le (by rw [HN.out]; exact Nat.le_refl _)] at h; exact h⟩
            have HL9 : Bx ((pfW a4 ++ upsW ns).length ≤ 50) := ⟨pfups_len a4 ns (by have := HN.out; omega)⟩
            clear HO8
            go_upto_if 89 with fail
            go_cut [15] from 90 to 92 (fun s15 wx => Bx (OwB wx wb.heap.size s15 (pfW a4 ++ upsW ns ++ ffW a3)) ∧ Bx (Below wb.heap.size wb wx))
            case first =>
              have hsz := HB8.out.size
              cases a3 with
              | false =>
                go_wp2_with fail
                go_meet
                exact ⟨⟨by have h := HB9.out; simpa [ffW] using h⟩, HB8⟩
              | true =>
                go_wp2_with (at_builtin; refine wpList_append_og _ rfl _ _ 24 rfl wb.heap.size 5 i0 (.int .u8 0) 1 Try.underlying24 HI.out.1 HI.out.2.1 HI.out.2.2.1 HI.out.2.2.2 rfl _ _ ((pfW a4 ++ upsW ns).map bv) _ rfl rfl (HB9.out.alloc _) (Rd.lit wr 5 _ 1 rfl (by simp [maxLen])) (by simp [Value.oneCell']) (by have := HL9.out; simp at *; omega) (by have := HL9.out; simp [maxLen] at *; omega) (by have := HB8.out.size; simp; omega) ?_; intro v6 w6 ho6 hb6 _; have HO6 := Bx.mk (OwB.snoc ho6 132 rfl); have HB6 := Bx.mk (HB8.out.trans (((Below.refl wb.heap.size wr).alloc HB8.out.size _).trans hb6)); clear ho6 hb6; obtain ⟨av, nv, cv, rfl⟩ : ∃ av nv cv, v6 = .slice av nv cv := ⟨_, _, _, (HO6.out.bs.choose_spec.choose_spec).1⟩)
                go_meet
                exact ⟨HO6, HB6⟩
            case rest =>
              clear HB9 HB8
              obtain ⟨HOB, HBB⟩ := hcut
              have HLB : Bx ((pfW a4 ++ upsW ns ++ ffW a3).length ≤ 60) := ⟨by have := HL9.out; rw [List.length_append]; have := ffW_len a3; omega⟩
              have HSB : Bx (B ≤ wc.heap.size) := ⟨Nat.le_trans HS5.out HBB.out.size⟩
              go_wp2_with fail
              refine ((HP5.out.1.keep HBB.out).decode HSB.out HP5.out.2.1 (by have := HP5.out.2.2.1; omega) HP5.out.2.2.2 HOB.out.bs (by have := HLB.out; omega)).mono ?_
              rintro e w9 ⟨b9, hp9⟩
              have HBW : Bx (Below w.heap.size w w9) := ⟨(HB5.out.trans (HBB.out.mono HB5.out.size)).trans (b9.mono (Nat.le_trans HS3.out (Nat.le_refl _)))⟩
              have HU9 := Bx.mk (HUS.out.keep HBW.out)
              have hok := sizes_dec mx mu T ns a4 a3 HUS.out.2
              rw [HN.out] at hok
              rcases hok with ⟨h1, h2⟩ | ⟨s, h1, h2, h3⟩
              · rw [h1] at hp9
                obtain ⟨rfl, -⟩ := hp9
                rw [h2]
                clear h1 h2 b9
                go_wp2_with fail
                go_region
                go_wp2_with fail
                go_ret
                exact ⟨rfl, HBW.out.drew⟩
              · rw [h1] at hp9
                obtain ⟨v9, rfl, -, hp9⟩ := hp9
                rw [h3]
                have HP9 := Bx.mk hp9
                have HST := Bx.mk h2
                clear h1 h2 h3 b9 hp9
                cases e0 with
                | true =>
                  go_wp2_with fail
                  go_region
                  go_wp2_with fail
                  go_ret
                  exact ⟨rfl, HBW.out.drew⟩
                | false =>
                  obtain ⟨m, rfl⟩ : ∃ m, k = m + 1 := ⟨k - 1, by simp at he0; omega⟩
                  have hm1 : wrap64 (((m + 1 : Nat) : Int) - 1) = (m : Int) := by unfold wrap64; omega
                  have hm2 : IntKind.i64.wrap (((m + 1 : Nat) : Int) - 1) = (m : Int) := by rw [IntKind.wrap_i64]; omega
                  have hm3 : IntKind.i64.wrap (m : Int) = (m : Int) := by rw [IntKind.wrap_i64]; omega
                  have hml : m < ns.length := by have := HN.out; omega
                  obtain ⟨bu, ou, hix, hce⟩ := HUS.out.at_ m hml
                  have hcu : ∀ W, Below w9.heap.size w9 W → W.cell? ⟨bu, ou, none⟩ = some (.int .u16 (ns[m] : Int)) := fun W hW => hce W (HU9.out.keep hW)
                  have HCAP : Bx (s.T.cap = ns[m]) := ⟨by rw [HST.out, sizes_cap ns T (by omega)]; congr 1; have := HN.out; omega⟩
                  obtain ⟨x, hx⟩ : ∃ x, ns[m] = x := ⟨_, rfl⟩
                  rw [hx] at hcu HCAP
                  have hxw : IntKind.i64.wrap (x : Int) = (x : Int) := by have := HUS.out.2 x (by rw [← hx]; exact List.getElem_mem _); rw [IntKind.wrap_i64]; omega
                  have HCC : Bx (∀ W, Below w9.heap.size w9 W → Calls Try.prog 25 #[.pointer (some ⟨t, 0, none⟩)] W fun e w' => e = .returned (.int .i64 (x : Int)) ∧ Below W.heap.size W w') := ⟨fun W hW => HCAP.out ▸ (HP9.out.keep hW).cap⟩
                  have HTT : Bx (∀ W, Below w9.heap.size w9 W → Calls Try.prog 24 #[.pointer (some ⟨q, 0, none⟩)] W fun e w' => e = .returned (.pointer (some ⟨t, 0, none⟩)) ∧ Below W.heap.size W w') := ⟨fun W hW => (HP9.out.keep hW).table⟩
                  have hS0 : Below w9.heap.size w9 w9.drew := (Below.refl _ _).drew
                  clear hce hx HCAP HUS HU9
                  go_wp2_with fail
                  go_region_held (fun W => Below w9.heap.size w9 W) (first | assumption) (first
                    | (go_at_call 24; refine (HTT.out _ ?_).mono ?_; assumption; rintro e wA ⟨rfl, hb⟩; have hSA := below_stepS (by assumption) hb)
                    | (go_at_call 25; refine (HCC.out _ ?_).mono ?_; assumption; rintro e wB ⟨rfl, hb⟩; have hSB := below_stepS (by assumption) hb))
                  go_wp2_with fail
                  go_ret
                  exact ⟨rfl, HBW.out.trans (hSB.mono HBW.out.size)⟩
          | succ g =>
            have hkn : k < ns.length := by have := HN.out; omega
            have hkk : decide (k < n) = true := decide_eq_true (by omega)
            have hsz := HB8.out.size
            obtain ⟨bu, ou, hix, hce⟩ := HUS.out.at_ k hkn
            have HU8 : Bx (Us wr v2 ns) := ⟨HUS.out.keep (HB5.out.trans (HB8.out.mono HB5.out.size))⟩
            have hcu := hce wr HU8.out
            have HSUC := Bx.mk (okW_succ a4 mu ns mx k hkn)
            obtain ⟨x, hx⟩ : ∃ x, ns[k] = x := ⟨_, rfl⟩
            rw [hx] at hcu HSUC
            have hx6 : x < 65536 := HUS.out.2 x (by rw [← hx]; exact List.getElem_mem _)
            have hxw : IntKind.i64.wrap (x : Int) = (x : Int) := by rw [IntKind.wrap_i64]; omega
            have hxu : IntKind.u64.wrap (x : Int) = (x : Int) := by rw [IntKind.wrap_u64]; omega
            have HTK : Bx (ns.take (k + 1) = ns.take k ++ [x]) := ⟨by rw [List.take_succ_eq_append_getElem hkn, hx]⟩
            have HL8 : Bx ((pfW a4 ++ upsW (ns.take k)).length ≤ 50) := ⟨pfups_len a4 _ (by rw [List.length_take]; omega)⟩
            have HX6 := Bx.mk hx6
            clear hx hx6
            go_wp2_with fail
            refine (refPrefix_own wb.heap.size u15 _ 32 5 x wr HO8.out HB8.out.size (by have := HL8.out; omega) (by have := HX6.out; omega)).mono ?_
            rintro e w9 ⟨v9, rfl, ho9, b9⟩
            rw [show bitsOf 5 = 5 from rfl] at ho9
            have HO9 : Bx (OwB w9 wb.heap.size v9 (pfW a4 ++ upsW (ns.take (k + 1)))) := ⟨by
              rw [HTK.out]
              have : upsW (ns.take k ++ [x]) = upsW (ns.take k) ++ pre 32 5 x := by simp [upsW]
              rw [this, ← List.append_assoc]
              exact ho9⟩
            have HB9 := Bx.mk (HB8.out.trans b9)
            have HU9 : Bx (Us w9 v2 ns) := ⟨HUS.out.keep (HB5.out.trans (HB9.out.mono HB5.out.size))⟩
            have hcu9 : w9.cell? ⟨bu, ou, none⟩ = some (.int .u16 (x : Int)) := by
              have h := hce w9 HU9.out
              have h2 := hce wr HU8.out
              rw [hcu] at h2
              injection h2 with h2
              rw [← h2] at h
              exact h
            obtain ⟨av, nv, cv, rfl⟩ : ∃ av nv cv, v9 = .slice av nv cv := ⟨_, _, _, (HO9.out.bs.choose_spec.choose_spec).1⟩
            obtain ⟨dk, hdk⟩ : ∃ dk, decide (x ≤ mx) = dk := ⟨_, rfl⟩
            have HSU2 : Bx (okW a4 mu ns mx (k + 1) = (okW a4 mu ns mx k && dk)) := ⟨by rw [← hdk]; exact HSUC.out⟩
            generalize okW a4 mu ns mx k = ok at HSU2 ⊢
            clear ho9 b9 hce hcu HSUC
            cases ok with
            | true =>
              go_wp2_with fail
              go_roundg g
              case measure => omega
              case rel => exact ⟨k + 1, by omega, by go_num, by rw [HSU2.out, Bool.true_and], HO9, HB9⟩
            | false =>
              go_wp2_with fail
              go_roundg g
              case measure => omega
              case rel => exact ⟨k + 1, by omega, by go_num, by rw [HSU2.out, Bool.false_and], HO9, HB9⟩

end Go.Proofs.Ytejkbibahbcofaa
