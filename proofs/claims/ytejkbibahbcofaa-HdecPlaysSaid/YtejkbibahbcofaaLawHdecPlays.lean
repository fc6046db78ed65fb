/-
  bifoldlaw6.HdecPlays answers true, whatever its arguments: the walk.
-/
import Derived.Test.YtejkbibahbcofaaM29
import Derived.Test.YtejkbibahbcofaaM30
import Derived.Test.YtejkbibahbcofaaM25
import Derived.Test.YtejkbibahbcofaaM27
import Derived.BigRegion
import Derived.Laws.OwnMore
import Derived.Laws.BitsAllLaws
import Derived.Deep.CutRange
import Derived.Deep.Cut
import Derived.Handy
namespace Go.Proofs.Ytejkbibahbcofaa
open Go.RowKit Go.Maps
set_option linter.unusedVariables false

/-- The first k parts' bytes. -/
def catV (l : List Pv) (k : Nat) : List UInt8 := (l.take k).flatMap Pv.w
theorem catV_zero (l : List Pv) : catV l 0 = [] := by simp [catV]
theorem catV_succ (l : List Pv) (k : Nat) (hk : k < l.length) : catV l (k + 1) = catV l k ++ l[k].w := by
  unfold catV
  rw [List.take_succ_eq_append_getElem hk, List.flatMap_append]
  simp
theorem flatW_len : ∀ (l : List Pv), (∀ p ∈ l, p.ok) → (l.flatMap Pv.w).length ≤ 440 * l.length
  | [], _ => by simp
  | p :: l, h => by
    have h1 := flatW_len l fun q hq => h q (by simp [hq])
    have h2 := p.w_len (h p (by simp))
    rw [List.flatMap_cons, List.length_append, List.length_cons]
    omega
theorem catV_len (l : List Pv) (k : Nat) (h : ∀ p ∈ l.take k, p.ok) : (catV l k).length ≤ 440 * k := by
  have h1 := flatW_len (l.take k) h
  have h2 : (l.take k).length ≤ k := by rw [List.length_take]; omega
  unfold catV
  omega
theorem Rs.next_none (st : Rs) : st.next none = none := by cases st <;> rfl
theorem OwB.shape {w : World} {B : Nat} {v : Value} {l : List UInt8} (h : OwB w B v l) (hl : 0 < l.length) : ∃ g cap, v = .slice (some ⟨g, 0, none⟩) l.length cap := by
  rcases h.2 with ⟨_, h0⟩ | ⟨g, cap, cur, hv, _⟩
  · simp at h0
    subst h0
    simp at hl
  · exact ⟨g, cap, by rw [hv, List.length_map]⟩
theorem OwB.put {w : World} {B g cap : Nat} {l : List UInt8} (h : OwB w B (.slice (some ⟨g, 0, none⟩) l.length cap) l) (y : Nat) (r : Nat) (hr : r < 256) :
    OwB (w.setCell ⟨g, y, none⟩ (.int .u8 (r : Int))) B (.slice (some ⟨g, 0, none⟩) l.length cap) (l.set y (UInt8.ofNat r)) := by
  unfold OwB at h ⊢
  rw [List.length_map] at h ⊢
  have h2 := (h.stored y (.int .u8 (r : Int))).1
  have e : (l.map bv).set y (.int .u8 (r : Int)) = (l.set y (UInt8.ofNat r)).map bv := by
    rw [List.map_set]
    congr 1
    unfold bv
    rw [← byte_nat hr]
  rw [e] at h2
  rw [List.length_set]
  exact h2

set_option maxRecDepth 100000 in
set_option maxHeartbeats 4000000 in
theorem hdecPlays_walk (a0 : Int) (v1 : Value) (vs : List Value) (ll : List (List Pv)) (v2 : Value) (as_ : List Nat) (v3 : Value) (xs : List UInt8) (v4 : Value) (ms : List Nat) (w : World)
    (hpss : Pss w v1 vs ll) (hsm : ∀ l ∈ ll, SmallP l) (hus : Us w v2 as_) (hbs : Bs w v3 xs) (hms : Us w v4 ms) :
    Calls Try.prog 3 #[.int .i64 a0, v1, v2, v3, v4] w fun e w' => e = .returned (.bool true) ∧ Below w.heap.size w w' := by
  have HPSS := Bx.mk hpss
  have HSM := Bx.mk hsm
  have HUS := Bx.mk hus
  have HBS := Bx.mk hbs
  have HMS := Bx.mk hms
  have hlen1 := fun ty W => HPSS.out.run_len ty W
  have hlen2 := fun ty W => HUS.out.run_len ty W
  have hlen3 := fun ty W => HBS.out.run_len ty W
  have hlen4 := fun ty W => HMS.out.run_len ty W
  obtain ⟨n, hn⟩ : ∃ n, ll.length = n := ⟨_, rfl⟩
  obtain ⟨n2, hn2⟩ : ∃ n2, as_.length = n2 := ⟨_, rfl⟩
  obtain ⟨n3, hn3⟩ : ∃ n3, xs.length = n3 := ⟨_, rfl⟩
  obtain ⟨n4, hn4⟩ : ∃ n4, ms.length = n4 := ⟨_, rfl⟩
  rw [hn] at hlen1
  rw [hn2] at hlen2
  rw [hn3] at hlen3
  rw [hn4] at hlen4
  have HN := Bx.mk hn
  have HN2 := Bx.mk hn2
  have HN3 := Bx.mk hn3
  have HN4 := Bx.mk hn4
  have HCL := Bx.mk (clampN_le a0)
  clear hpss hsm hus hbs hms hn hn2 hn3 hn4
  by_cases hb1 : 5 < n
  · have hd1 : decide (5 < (n : Int)) = true := decide_eq_true (by omega)
    clear hb1
    go_enter Try.func3, Try.ntmps3
    go_wp2_with (go_at_call 10; refine (hknown_any _).mono ?_; rintro e w1 ⟨rfl, b1⟩)
    go_ret
    exact ⟨rfl, b1⟩
  have hd1 : decide (5 < (n : Int)) = false := decide_eq_false (by omega)
  by_cases hb2 : n2 < n
  · have hd2 : decide ((n2 : Int) < (n : Int)) = true := decide_eq_true (by omega)
    have hd2' : decide (n2 < n) = true := decide_eq_true hb2
    clear hb1 hb2
    go_enter Try.func3, Try.ntmps3
    go_wp2_with (go_at_call 10; refine (hknown_any _).mono ?_; rintro e w1 ⟨rfl, b1⟩)
    go_ret
    exact ⟨rfl, b1⟩
  have hd2 : decide ((n2 : Int) < (n : Int)) = false := decide_eq_false (by omega)
  have hd2' : decide (n2 < n) = false := decide_eq_false hb2
  by_cases hb3 : n3 < n
  · have hd3 : decide ((n3 : Int) < (n : Int)) = true := decide_eq_true (by omega)
    have hd3' : decide (n3 < n) = true := decide_eq_true hb3
    clear hb1 hb2 hb3
    go_enter Try.func3, Try.ntmps3
    go_wp2_with (go_at_call 10; refine (hknown_any _).mono ?_; rintro e w1 ⟨rfl, b1⟩)
    go_ret
    exact ⟨rfl, b1⟩
  have hd3 : decide ((n3 : Int) < (n : Int)) = false := decide_eq_false (by omega)
  have hd3' : decide (n3 < n) = false := decide_eq_false hb3
  by_cases hb4 : n4 < n
  · have hd4 : decide ((n4 : Int) < (n : Int)) = true := decide_eq_true (by omega)
    have hd4' : decide (n4 < n) = true := decide_eq_true hb4
    clear hb1 hb2 hb3 hb4
    go_enter Try.func3, Try.ntmps3
    go_wp2_with (go_at_call 10; refine (hknown_any _).mono ?_; rintro e w1 ⟨rfl, b1⟩)
    go_ret
    exact ⟨rfl, b1⟩
  have hd4 : decide ((n4 : Int) < (n : Int)) = false := decide_eq_false (by omega)
  have hd4' : decide (n4 < n) = false := decide_eq_false hb4
  have HNN : Bx (n ≤ 5 ∧ n ≤ n2 ∧ n ≤ n3 ∧ n ≤ n4) := ⟨by omega⟩
  clear hb1 hb2 hb3 hb4
  go_enter Try.func3, Try.ntmps3
  go_wp2_with fail
  refine (hknown_any _).mono ?_
  rintro e w3 ⟨rfl, b3⟩
  have HB3 := Bx.mk b3
  clear b3
  go_wp2_with fail
  refine (OneP.new a0 w3).mono ?_
  rintro e w4 ⟨q, t, rfl, h4, b4⟩
  have HP4 := Bx.mk h4
  have HB4 := Bx.mk b4
  clear h4 b4
  go_wp2_with fail
  refine (HP4.out.newRef HB4.out.size a0).mono ?_
  rintro e w5 ⟨q', t', rfl, h5, b5⟩
  generalize clampN a0 = mx at h5 HCL
  have HS5 := Bx.mk (Sm.of h5 (gd_new mx HCL.out) HCL.out)
  have HB5 : Bx (Below w.heap.size w w5) := ⟨HB3.out.trans ((HB4.out.trans b5).mono HB3.out.size)⟩
  have HZ5 : Bx (w3.heap.size ≤ w5.heap.size) := ⟨Nat.le_trans HB4.out.size b5.size⟩
  have HWB : Bx (w.heap.size ≤ w3.heap.size) := ⟨HB3.out.size⟩
  have HLE := Bx.mk (Rs.le_new HCL.out false)
  clear h5 b5 HP4 HB4 HB3 hd1 hd2 hd2' hd3 hd3' hd4 hd4'
  generalize w3.heap.size = B at HS5 HZ5 HWB
  go_wp2_with fail
  go_loopg [13] n (fun g s13 wx => ∃ (k : Nat) (st : Rs), k + g = n ∧ s13 = .int .i64 (k : Int) ∧ Bx (Sm B q t q' t' st st (fun _ => False) wx) ∧ Bx (Below w.heap.size w wx) ∧ Bx (B ≤ wx.heap.size) ∧ Bx (st.le (64 * k)))
  case atStart => exact ⟨0, _, by omega, rfl, HS5, HB5, HZ5, HLE⟩
  case round =>
    clear HS5 HB5 HZ5 HLE
    obtain ⟨k, st, hkg, rfl, HS, HBL, HZ, HST⟩ := hrel
    cases gk with
    | zero =>
      obtain rfl : k = n := by omega
      have hkk : decide (k < k) = false := decide_eq_false (by omega)
      have hkk2 : decide ((k : Int) < (k : Int)) = false := decide_eq_false (by omega)
      go_wp2_with fail
      go_ret
      exact ⟨rfl, HBL.out⟩
    | succ g =>
      have hkl : k < ll.length := by have := HN.out; omega
      have hkk : decide (k < n) = true := decide_eq_true (by omega)
      have hkk2 : decide ((k : Int) < (n : Int)) = true := decide_eq_true (by omega)
      obtain ⟨b0, o0, uv, hix0, ⟨ua, un, uc, rfl⟩, hpu, hcs0⟩ := HPSS.out.at_ k hkl
      have hlenu := fun ty W => hpu.run_len ty W
      have HSMK := Bx.mk (HSM.out ll[k] (List.getElem_mem hkl))
      obtain ⟨pl, hpl⟩ : ∃ pl, ll[k] = pl := ⟨_, rfl⟩
      rw [hpl] at hpu hlenu HSMK
      simp only [hpl] at hcs0
      obtain ⟨m, hm⟩ : ∃ m, pl.length = m := ⟨_, rfl⟩
      rw [hm] at hlenu
      have HM := Bx.mk hm
      have HCS0 := Bx.mk (fun W (hW : Below w.heap.size w W) => hcs0 W (HPSS.out.keep hW))
      obtain ⟨q0, -⟩ := HCS0.out wr HBL.out
      have HPU := Bx.mk hpu
      clear hpl hm hcs0 hpu
      by_cases hc : 12 < m
      · have hcc : decide (12 < (m : Int)) = true := decide_eq_true (by omega)
        clear hc
        go_wp2_with fail
        go_ret
        exact ⟨rfl, HBL.out⟩
      · have hcc : decide (12 < (m : Int)) = false := decide_eq_false (by omega)
        have HM12 : Bx (m ≤ 12) := ⟨by omega⟩
        clear hc
        go_wp2_with fail
        obtain ⟨wb, hwb⟩ : ∃ wb, wb = wr := ⟨_, rfl⟩
        subst hwb
        go_loopg [14, 15] m (fun g2 s14 s15 wx => ∃ j : Nat, j + g2 = m ∧ s15 = .int .i64 (j : Int) ∧ Bx (OwB wx wb.heap.size s14 (catV pl j)) ∧ Bx (Below wb.heap.size wb wx) ∧ Bx (∀ p ∈ pl.take j, p.ok))
        case atStart => exact ⟨0, by omega, rfl, ⟨by rw [catV_zero]; exact OwB.nil _ _⟩, ⟨Below.refl _ _⟩, ⟨by simp⟩⟩
        case round =>
          obtain ⟨j, hjg, rfl, HO, HB, HALL⟩ := hrel
          have HBW : Bx (Below w.heap.size w wr) := ⟨HBL.out.trans (HB.out.mono HBL.out.size)⟩
          obtain ⟨q0', hpu'⟩ := HCS0.out wr HBW.out
          clear q0
          cases gk with
          | zero =>
            obtain rfl : j = m := by omega
            have hjj : decide (j < j) = false := decide_eq_false (by omega)
            have hjj2 : decide ((j : Int) < (j : Int)) = false := decide_eq_false (by omega)
            clear hpu'
            have HLB : Bx ((catV pl j).length ≤ 5280) := ⟨by have := catV_len pl j HALL.out; have := HM12.out; omega⟩
            obtain ⟨bl, hbl⟩ : ∃ bl, catV pl j = bl := ⟨_, rfl⟩
            rw [hbl] at HO HLB
            clear hbl HALL
            have hlenb := fun ty W => HO.out.bs.run_len ty W
            obtain ⟨c, hc⟩ : ∃ c, bl.length = c := ⟨_, rfl⟩
            rw [hc] at hlenb HLB
            have HC := Bx.mk hc
            have hkx : k < xs.length := by have := HN3.out; have := HNN.out; omega
            obtain ⟨px, hixx, hcsx⟩ := HBS.out.at_ k hkx
            have hx0 := hcsx wr (HBS.out.keep HBW.out)
            have HXC := Bx.mk fun W (hW : Below w.heap.size w W) => hcsx W (HBS.out.keep hW)
            obtain ⟨xb, hxb⟩ : ∃ xb, xs[k].toNat = xb := ⟨_, rfl⟩
            have HXB : Bx (xb < 256) := ⟨by rw [← hxb]; exact UInt8.toNat_lt _⟩
            rw [hxb] at hx0 HXC
            obtain ⟨zx, hzx⟩ : ∃ zx, ((xb : Int) % 8 == 1) = zx := ⟨_, rfl⟩
            have hzx2 : ((xb : Int).tmod 8 == 1) = zx := by rw [Int.tmod_eq_emod_of_nonneg (by omega)]; exact hzx
            obtain ⟨zc, hzc⟩ : ∃ zc, decide (0 < (c : Int)) = zc := ⟨_, rfl⟩
            have hzc2 : decide (0 < c) = zc := by rw [← hzc]; exact decide_eq_decide.2 (by omega)
            have HZC : Bx (zc = true → 0 < c) := ⟨fun h => by rw [h] at hzc2; exact of_decide_eq_true hzc2⟩
            clear hc hkx hcsx hxb
            go_upto_region 18 with fail
            go_cut [110] from 100 to 110 (fun s110 wx => s110 = .bool (zc && zx) ∧ Bx (OwB wx wb.heap.size u14 bl) ∧ Bx (Below wb.heap.size wb wx))
            case first =>
              cases zc <;> cases zx
              all_goals go_wp2_with fail
              all_goals go_meet
              all_goals exact ⟨rfl, HO, HB⟩
            case rest =>
              clear HO HB hzx hzx2 hzc hzc2 hx0
              obtain ⟨rfl, HO, HB⟩ := hcut
              obtain ⟨wd, hwd⟩ : ∃ wd, wd = wc := ⟨_, rfl⟩
              subst hwd
              have HBW : Bx (Below w.heap.size w wd) := ⟨HBL.out.trans (HB.out.mono HBL.out.size)⟩
              obtain ⟨zz, hzz⟩ : ∃ zz, (zc && zx) = zz := ⟨_, rfl⟩
              have HZZ : Bx (zz = true → 0 < c) := ⟨fun h => HZC.out (by rw [h] at hzz; simp at hzz; exact hzz.1)⟩
              rw [hzz]
              clear hzz
              go_upto_if 110 with fail
              go_cut [111] from 111 to 127 (fun s111 wx => ∃ bl2 : List UInt8, Bx (bl2.length = c) ∧ Bx (OwB wx wb.heap.size u14 bl2) ∧ Bx (Below wb.heap.size wb wx))
              case first =>
                cases zz with
                | false =>
                  go_wp2_with fail
                  go_meet
                  exact ⟨bl, HC, HO, HB⟩
                | true =>
                  have hc0 : 0 < c := HZZ.out rfl
                  have hka : k < as_.length := by have := HN2.out; have := HNN.out; omega
                  obtain ⟨ba, oa, hixa, hca⟩ := HUS.out.at_ k hka
                  have hca1 := hca wd (HUS.out.keep HBW.out)
                  have hxx1 := HXC.out wd HBW.out
                  have HA6 := HUS.out.2 as_[k] (List.getElem_mem hka)
                  obtain ⟨a, ha⟩ : ∃ a, as_[k] = a := ⟨_, rfl⟩
                  rw [ha] at hca1 HA6
                  have hwa : IntKind.i64.wrap (a : Int) = (a : Int) := by simp only [IntKind.wrap_i64]; omega
                  obtain ⟨y, hy⟩ : ∃ y, a % c = y := ⟨_, rfl⟩
                  have hy1 : (a : Int) % (c : Int) = (y : Int) := by rw [← hy]; rfl
                  have hy2 : (a : Int).tmod (c : Int) = (y : Int) := by rw [Int.tmod_eq_emod_of_nonneg (by omega)]; exact hy1
                  have hyc : y < c := by rw [← hy]; exact Nat.mod_lt _ hc0
                  have hz : ((c : Int) == 0) = false := by rw [beq_eq_false_iff_ne]; omega
                  have hz0 : ¬ c = 0 := by omega
                  obtain ⟨gb, cap, hsh⟩ := HO.out.shape (by rw [HC.out]; exact hc0)
                  have hyb : y < bl.length := by rw [HC.out]; exact hyc
                  have ho := HO.out
                  rw [hsh] at ho
                  have hcell : wd.cell? ⟨gb, y, none⟩ = some (.int .u8 (bl[y].toNat : Int)) := by
                    have h9 := ho
                    unfold OwB at h9
                    rw [List.length_map] at h9
                    rw [h9.cellAt y (by omega), List.getElem?_map, List.getElem?_eq_getElem hyb]
                    rfl
                  have hfz : wd.frozen? ⟨gb, y, none⟩ = false := by
                    have h9 := ho
                    unfold OwB at h9
                    rw [List.length_map] at h9
                    exact h9.frozenAt y
                  have hixb : ∀ W : World, (Instr.indexAt 24 u14 (.int .i64 (y : Int))).run Try.prog W = .ok (.pointer (some ⟨gb, y, none⟩)) W := fun W => by
                    rw [hsh]
                    simp [Instr.indexAt, asIntOf, run_underlying Try.underlying24, Sem.run_bind, hyb, Result.andThen]
                    simp [Addr.add]
                    first
                      | done
                      | (intro h; exact h.symm)
                  have hlt : bl[y].toNat < 256 := UInt8.toNat_lt _
                  have hxr := u8_xor_nat bl[y].toNat xb hlt HXB.out
                  have hr6 : bl[y].toNat ^^^ xb < 256 := Nat.xor_lt_two_pow (n := 8) hlt HXB.out
                  obtain ⟨r, hr⟩ : ∃ r, bl[y].toNat ^^^ xb = r := ⟨_, rfl⟩
                  rw [hr] at hxr hr6
                  obtain ⟨bY, hbY⟩ : ∃ bY, bl[y].toNat = bY := ⟨_, rfl⟩
                  rw [hbY] at hxr hcell
                  have HP : Bx (OwB (wd.setCell ⟨gb, y, none⟩ (.int .u8 (r : Int))) wb.heap.size u14 (bl.set y (UInt8.ofNat r))) := ⟨by rw [hsh]; exact ho.put y r hr6⟩
                  have HPL : Bx ((bl.set y (UInt8.ofNat r)).length = c) := ⟨by rw [List.length_set]; exact HC.out⟩
                  have HPB : Bx (Below wb.heap.size wb (wd.setCell ⟨gb, y, none⟩ (.int .u8 (r : Int)))) := ⟨HB.out.trans ((Fp.set (fun j => j = gb) wd ⟨gb, y, none⟩ (.int .u8 (r : Int)) rfl).below HB.out.size (fun j hj => by
                    subst hj
                    exact HO.out.ge (by rw [hsh]; rfl)))⟩
                  clear hc0 hka hca HA6 ha hy hyc hsh hyb ho hlt hr6 hr hbY
                  go_wp2_with fail
                  go_region
                  go_wp2_with fail
                  go_meet
                  exact ⟨_, HPL, HP, ⟨HPB.out.drew⟩⟩
              case rest =>
                clear HO HB HC HXC HXB HZZ HZC
                obtain ⟨bl2, HC, HO, HB⟩ := hcut
                obtain ⟨we, hwe⟩ : ∃ we, we = wc := ⟨_, rfl⟩
                subst hwe
                have HSE := Bx.mk (HS.out.apart (P' := fun k => u14.ownBlock = some k) HB.out (fun k hk => .inr ⟨HO.out.ge hk, HO.out.lt hk⟩))
                have HZE : Bx (B ≤ we.heap.size) := ⟨Nat.le_trans HZ.out HB.out.size⟩
                have HBE : Bx (Below w.heap.size w we) := ⟨HBL.out.trans (HB.out.mono HBL.out.size)⟩
                have HTOT := Bx.mk (Rs.le_tot HST.out (by have := HNN.out; omega))
                have HNX := Bx.mk (Rs.le_next HST.out bl2)
                have HBL2 : Bx (bl2.length ≤ 100000) := ⟨by rw [HC.out]; have := HLB.out; omega⟩
                clear hlenb hixx HBW hlen2 hlen3
                go_wp2_with fail
                refine (HSE.out.decP HZE.out HTOT.out HO.out.bs HBL2.out).mono ?_
                rintro e w7 ⟨v7, rfl, hf7, hs7, hb7, hg7⟩
                have HS7 := Bx.mk hs7
                have HF7 := Bx.mk hf7
                have HB7 := Bx.mk hb7
                have HO7 : Bx (Bs w7 u14 bl2) := ⟨HO.out.bs.blk fun g hg => hg7 g hg⟩
                clear hs7 hf7 hb7 hg7
                obtain ⟨en, hen⟩ : ∃ en, errN (st.read bl2) = en := ⟨_, rfl⟩
                rw [hen]
                have HEN := Bx.mk hen
                clear hen
                go_wp2_with fail
                refine (HS7.out.decD (Nat.le_trans HZE.out HB7.out.size) HTOT.out HO7.out (.inr fun g hg => .inl (.inl hg)) HBL2.out).mono ?_
                rintro e w8 ⟨v8, rfl, hf8, hs8, hb8, hg8⟩
                rw [HEN.out]
                have HF78 := Bx.mk (HF7.out.blk (w' := w8) fun g hg => hg8 g (.inr hg))
                have HF8 := Bx.mk hf8
                have HS8 := Bx.mk (hs8.apart (P' := fun _ => False) (Below.refl _ _) (fun k hk => hk.elim))
                have HB8 : Bx (Below w.heap.size w w8) := ⟨HBE.out.trans ((HB7.out.trans hb8).mono HWB.out)⟩
                have HZ8 : Bx (B ≤ w8.heap.size) := ⟨Nat.le_trans (Nat.le_trans HZE.out HB7.out.size) hb8.size⟩
                have hq := fields_any v7 v8 _ _ _ HF78.out HF8.out
                rw [decide_eq_true rfl] at hq
                have HQ := Bx.mk hq
                have hne : ((en : Int) != (en : Int)) = false := by simp
                clear hf8 hs8 hb8 hg8 hq HS7 HF7 HB7 HO7 HSE HO HB HBE HZE HF78 HF8
                go_upto_region 22 with fail
                go_cut [158] from 140 to 158 (fun s158 wx => s158 = .bool false ∧ Bx (Sm B q t q' t' (st.next (st.read bl2)) (st.next (st.read bl2)) (fun _ => False) wx) ∧ Bx (Below w.heap.size w wx) ∧ Bx (B ≤ wx.heap.size))
                case first =>
                  cases hrd : st.read bl2 with
                  | none =>
                    have hez : ((en : Int) == 0) = false := by rw [← HEN.out, hrd]; rfl
                    clear hrd
                    go_wp2_with fail
                    refine HQ.out.mono ?_
                    rintro e w9 ⟨rfl, b9⟩
                    have HS9 := Bx.mk (HS8.out.keep b9)
                    have HB9 : Bx (Below w.heap.size w w9) := ⟨HB8.out.trans (b9.mono HB8.out.size)⟩
                    have HZ9 : Bx (B ≤ w9.heap.size) := ⟨Nat.le_trans HZ8.out b9.size⟩
                    clear b9
                    go_wp2_with fail
                    go_meet
                    exact ⟨rfl, HS9, HB9, HZ9⟩
                  | some sx =>
                    have hez : ((en : Int) == 0) = true := by rw [← HEN.out, hrd]; rfl
                    have hy : ∃ y, st.next (st.read bl2) = some y := by
                      rw [hrd]
                      cases st with
                      | none => cases hrd
                      | some z => exact ⟨_, rfl⟩
                    obtain ⟨y, hy⟩ := hy
                    have hsy := HS8.out
                    rw [hy] at hsy
                    have HSY := Bx.mk hsy
                    clear hrd hy hsy
                    go_wp2_with fail
                    refine HQ.out.mono ?_
                    rintro e w9 ⟨rfl, b9⟩
                    have HS9 := Bx.mk (HS8.out.keep b9)
                    have HSY9 := Bx.mk (HSY.out.keep b9)
                    have HB9 : Bx (Below w.heap.size w w9) := ⟨HB8.out.trans (b9.mono HB8.out.size)⟩
                    have HZ9 : Bx (B ≤ w9.heap.size) := ⟨Nat.le_trans HZ8.out b9.size⟩
                    clear b9
                    go_wp2_with fail
                    refine HSY9.out.alike.mono ?_
                    rintro e wA ⟨rfl, bA⟩
                    have HSA := Bx.mk (HS9.out.keep bA)
                    have HBA : Bx (Below w.heap.size w wA) := ⟨HB9.out.trans (bA.mono HB9.out.size)⟩
                    have HZA : Bx (B ≤ wA.heap.size) := ⟨Nat.le_trans HZ9.out bA.size⟩
                    clear bA
                    go_wp2_with fail
                    go_meet
                    exact ⟨rfl, HSA, HBA, HZA⟩
                case rest =>
                  clear HQ HS8 HB8 HZ8 hne
                  obtain ⟨rfl, HS9, HB9, HZ9⟩ := hcut
                  have hkm : k < ms.length := by have := HN4.out; have := HNN.out; omega
                  obtain ⟨bm, om, hixm, hcm⟩ := HMS.out.at_ k hkm
                  have hcm1 := hcm wc (HMS.out.keep HB9.out)
                  have HCM := Bx.mk fun W (hW : Below w.heap.size w W) => hcm W (HMS.out.keep hW)
                  obtain ⟨lm, hlm⟩ : ∃ lm, ms[k] = lm := ⟨_, rfl⟩
                  have HLM : Bx (lm < 65536) := ⟨by rw [← hlm]; exact HMS.out.2 _ (List.getElem_mem hkm)⟩
                  rw [hlm] at hcm1 HCM
                  obtain ⟨z4, hz4⟩ : ∃ z4, ((lm : Int) % 4 == 0) = z4 := ⟨_, rfl⟩
                  have hz4' : ((lm : Int).tmod 4 == 0) = z4 := by rw [Int.tmod_eq_emod_of_nonneg (by omega)]; exact hz4
                  have hwl : IntKind.i64.wrap (lm : Int) = (lm : Int) := by have := HLM.out; simp only [IntKind.wrap_i64]; omega
                  obtain ⟨nl, hnl⟩ : ∃ nl, lm % 300 = nl := ⟨_, rfl⟩
                  have hnl1 : (lm : Int) % 300 = (nl : Int) := by omega
                  have hnl2 : (lm : Int).tmod 300 = (nl : Int) := by rw [Int.tmod_eq_emod_of_nonneg (by omega)]; exact hnl1
                  have HNL : Bx (nl ≤ 4096) := ⟨by omega⟩
                  clear hkm hcm hlm hnl
                  cases z4 with
                  | false =>
                    go_wp2_with fail
                    go_roundg g
                    case measure => omega
                    case rel => exact ⟨k + 1, _, by omega, by have := HNN.out; have hw : wrap64 ((k : Int) + 1) = ((k + 1 : Nat) : Int) := (by unfold wrap64; omega); first | rfl | rw [hw] | (simp only [hw]), HS9, HB9, HZ9, ⟨by have := HNX.out; rw [show 64 * (k + 1) = 64 * k + 64 by omega]; exact this⟩⟩
                  | true =>
                    go_wp2_with fail
                    refine (HS9.out.limP HZ9.out nl HNL.out).mono ?_
                    rintro e wf ⟨rfl, hsf, bf⟩
                    have HSF := Bx.mk hsf
                    have HBF : Bx (Below w.heap.size w wf) := ⟨HB9.out.trans (bf.mono HWB.out)⟩
                    have HZF : Bx (B ≤ wf.heap.size) := ⟨Nat.le_trans HZ9.out bf.size⟩
                    have hcm2 := HCM.out wf HBF.out
                    clear hsf bf hcm1
                    go_wp2_with fail
                    refine (HSF.out.limD HZF.out nl HNL.out).mono ?_
                    rintro e wg ⟨rfl, hsg, bg⟩
                    have HSG := Bx.mk hsg
                    have HBG : Bx (Below w.heap.size w wg) := ⟨HBF.out.trans (bg.mono HWB.out)⟩
                    have HZG : Bx (B ≤ wg.heap.size) := ⟨Nat.le_trans HZF.out bg.size⟩
                    clear hsg bg hcm2
                    go_wp2_with fail
                    go_roundg g
                    case measure => omega
                    case rel => exact ⟨k + 1, _, by omega, by have := HNN.out; have hw : wrap64 ((k : Int) + 1) = ((k + 1 : Nat) : Int) := (by unfold wrap64; omega); first | rfl | rw [hw] | (simp only [hw]), HSG, HBG, HZG, ⟨by have := Rs.le_lim HNX.out HNL.out; rw [show 64 * (k + 1) = 64 * k + 64 by omega]; exact this⟩⟩
          | succ g2 =>
            have hjl : j < pl.length := by have := HM.out; omega
            have hjj : decide (j < m) = true := decide_eq_true (by omega)
            have hjj2 : decide ((j : Int) < (m : Int)) = true := decide_eq_true (by omega)
            obtain ⟨b1, o1, hix1, hcs1⟩ := hpu'.at_ j hjl
            obtain ⟨q1, q2, q3, q4, q5⟩ := hcs1 wr hpu'
            have HTK := Bx.mk (List.take_succ_eq_append_getElem hjl)
            have HCV := Bx.mk (catV_succ pl j hjl)
            have HSP := Bx.mk (HSMK.out pl[j] (List.getElem_mem hjl))
            obtain ⟨p, hp⟩ : ∃ p, pl[j] = p := ⟨_, rfl⟩
            rw [hp] at q1 q2 q3 q4 q5 HCV HTK HSP
            clear hp hcs1 hpu'
            have hcs : p.cs = #[.int .u8 (p.k : Int), .int .u64 (p.i : Int), .string p.n, .string p.v, .bool p.h] := rfl
            have HCS := Bx.mk hcs
            have HLK := Bx.mk (catV_len pl j HALL.out)
            obtain ⟨s, hs⟩ : ∃ s, p.n.size + p.v.size = s := ⟨_, rfl⟩
            have hs1 : IntKind.i64.wrap ((p.n.size : Int) + (p.v.size : Int)) = (s : Int) := by have := HSP.out; simp only [IntKind.wrap_i64]; omega
            have hs2 : wrap64 ((p.n.size : Int) + (p.v.size : Int)) = (s : Int) := by have := HSP.out; unfold wrap64; omega
            have HSS := Bx.mk hs
            clear hs hcs
            obtain ⟨pk, hpk⟩ : ∃ pk, p.k = pk := ⟨_, rfl⟩
            obtain ⟨pi, hpi⟩ : ∃ pi, p.i = pi := ⟨_, rfl⟩
            obtain ⟨pn, hpn⟩ : ∃ pn, p.n = pn := ⟨_, rfl⟩
            obtain ⟨pv, hpv⟩ : ∃ pv, p.v = pv := ⟨_, rfl⟩
            obtain ⟨ph, hph⟩ : ∃ ph, p.h = ph := ⟨_, rfl⟩
            rw [hpk, hpi, hpn, hpv, hph] at HCS
            rw [hpk] at q1
            rw [hpi] at q2
            rw [hpn] at q3 hs1 hs2
            rw [hpv] at q4 hs1 hs2
            rw [hph] at q5
            clear hpk hpi hpn hpv hph
            by_cases hc2 : 200 < s
            · have hcc2 : decide (200 < (s : Int)) = true := decide_eq_true (by omega)
              clear hc2
              go_wp2_with fail
              go_region
              go_wp2_with fail
              go_ret
              exact ⟨rfl, HBW.out.drew⟩
            · have hcc2 : decide (200 < (s : Int)) = false := decide_eq_false (by omega)
              have HOK : Bx p.ok := ⟨by have h1 := HSP.out; have h2 := HSS.out; exact ⟨h1.1, h1.2.1, by omega, by omega⟩⟩
              clear hc2
              go_wp2_with fail
              go_region
              go_wp2_with fail
              rw [← HCS.out]
              refine (lbytes_any wb.heap.size u14 _ p wr.drew HO.out.drew HB.out.size (by have := HLK.out; have := HM12.out; omega) HOK.out).mono ?_
              rintro e w6 ⟨v6, rfl, ho6, b6, -⟩
              rw [← HCV.out] at ho6
              have HO6 := Bx.mk ho6
              have HB6 : Bx (Below wb.heap.size wb w6) := ⟨HB.out.drew.trans b6⟩
              have HALL2 : Bx (∀ p ∈ pl.take (j + 1), p.ok) := ⟨fun x hx => by
                rw [HTK.out] at hx
                rcases List.mem_append.1 hx with hx | hx
                · exact HALL.out x hx
                · rw [List.mem_singleton.1 hx]
                  exact HOK.out⟩
              clear ho6 b6
              go_wp2_with fail
              go_roundg g2
              case measure => omega
              case rel => exact ⟨j + 1, by omega, by have := HM12.out; have hw : wrap64 ((j : Int) + 1) = ((j + 1 : Nat) : Int) := (by unfold wrap64; omega); first | rfl | rw [hw] | (simp only [hw]), HO6, HB6, HALL2⟩

end Go.Proofs.Ytejkbibahbcofaa
