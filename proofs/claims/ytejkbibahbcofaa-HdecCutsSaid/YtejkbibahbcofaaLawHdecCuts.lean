/-
  bifoldlaw6.HdecCuts answers true, whatever its arguments: the walk.
-/
import Derived.Test.YtejkbibahbcofaaM25
import Derived.Test.YtejkbibahbcofaaM29
import Derived.Test.YtejkbibahbcofaaM30
import Derived.BigRegion
import Derived.Deep.CutRange
import Derived.Deep.Cut
import Derived.Handy
namespace Go.Proofs.Ytejkbibahbcofaa
open Go.RowKit Go.Maps
set_option linter.unusedVariables false

theorem ownsMap_blk {H : Type} {P : Program} {k : TypeId} {R : Value → Option (DataW H × List MemPlace)} {w w' : World} {b n : Nat} {D : DataW H} (h : w.ownsMap P k R b n D) (e : w'.heap[b]? = w.heap[b]?) : w'.ownsMap P k R b n D := by
  obtain ⟨es, clock, hb, F, hs, hD⟩ := h
  exact ⟨es, clock, e.trans hb, F, hs, hD⟩
theorem errN_zero (x : Option Ls) : (((errN x : Nat) : Int) == 0) = x.isSome := by cases x <;> rfl

set_option maxRecDepth 100000 in
set_option maxHeartbeats 4000000 in
theorem hdecCuts_walk (v0 : Value) (l : List Pv) (a1 : Int) (w : World) (hps : Ps w v0 l) (hsm : SmallP l) (w1 : (Lit.int .u16 a1).wf = true) :
    Calls Try.prog 9 #[v0, .int .u16 a1] w fun e w' => e = .returned (.bool true) ∧ Below w.heap.size w w' := by
  obtain ⟨at_, rfl, hat⟩ := u16n w1
  have HPS := Bx.mk hps
  have HSM := Bx.mk hsm
  have HAT := Bx.mk hat
  have hlen := fun ty W => HPS.out.run_len ty W
  obtain ⟨n, hn⟩ : ∃ n, l.length = n := ⟨_, rfl⟩
  rw [hn] at hlen
  have HN := Bx.mk hn
  have hmax : n ≤ maxLen := by have := Rn.len hps; omega
  unfold maxLen at hmax
  clear w1 hps hsm hn hat
  by_cases hbig : 8 < n
  · have hbb : decide (8 < (n : Int)) = true := by rw [decide_eq_true_iff]; omega
    clear hbig
    go_enter Try.func9, Try.ntmps9
    go_wp2_with (go_at_call 10; refine (hknown_any _).mono ?_; rintro e w1 ⟨rfl, b1⟩)
    go_ret
    exact ⟨rfl, b1⟩
  have hbb : decide (8 < (n : Int)) = false := by rw [decide_eq_false_iff_not]; omega
  have HN8 : Bx (n ≤ 8) := ⟨by omega⟩
  clear hbig hmax
  have hmm := @run_makeMap Try.prog
  go_enter Try.func9, Try.ntmps9
  go_wp2_with fail
  refine (hknown_any _).mono ?_
  rintro e w3 ⟨rfl, b3⟩
  have HB3 := Bx.mk b3
  clear b3
  obtain ⟨w4, hup, hown, hgr⟩ := (World.ownsMap_made (H := Unit) w3 Try.prog 3 (plainElem Try.prog 4)).update intLaw Try.underlying66 (by unfold maxLen; omega) (keyOf_int6 0 (by omega)) (plainElem_bool Try.underlying4 true)
  have hup' : (Instr.mapUpdate 66 (.map (some w3.heap.size)) (.int .i64 0) (.bool true)).run Try.prog (w3.alloc (.map #[] 0)) = .ok () w4 := hup
  go_wp2_with fail
  obtain ⟨M, hM⟩ : ∃ M, w3.heap.size = M := ⟨_, rfl⟩
  have HMW : Bx (w.heap.size ≤ M) := ⟨by rw [← hM]; exact HB3.out.size⟩
  have HM4 : Bx (∃ (D : DataW Unit), w4.ownsMap Try.prog 3 (plainElem Try.prog 4) M (0 + 1) D ∧ En D (endsB l 0)) := ⟨_, hM ▸ hown, (En.nil.put 0 (by omega)).congr fun x => (endsB_zero l x).symm⟩
  have HB4 : Bx (Below M w3 w4) := ⟨by
    have h := (((Below.refl w3.heap.size w3).alloc (Nat.le_refl _) (.map #[] 0)).grown hgr (by simp) fun k hk => by cases hk; exact Nat.le_refl _)
    rwa [hM] at h⟩
  have HS4 : Bx (M + 1 ≤ w4.heap.size) := ⟨by have := hgr.size; simp at this; omega⟩
  rw [hM]
  have HME := Bx.mk hM
  clear hup hup' hown hgr hmm hM
  go_loopg [5, 7] n (fun g s5 s7 wx => ∃ k : Nat, k + g = n ∧ s7 = .int .i64 (k : Int) ∧ Bx (OwB wx (M + 1) s5 (catP l k)) ∧ Bx (∃ (D : DataW Unit), wx.ownsMap Try.prog 3 (plainElem Try.prog 4) M (k + 1) D ∧ En D (endsB l k)) ∧ Bx (Below M w3 wx) ∧ Bx (M + 1 ≤ wx.heap.size) ∧ Bx (∀ p ∈ l.take k, p.n.size + p.v.size ≤ 100))
  case atStart => exact ⟨0, by omega, rfl, ⟨by rw [catP_zero]; exact OwB.nil _ _⟩, HM4, HB4, HS4, ⟨by simp⟩⟩
  case round =>
    clear HM4 HB4 HS4
    obtain ⟨k, hkg, rfl, HO, HMAP, HB, HS, HALL⟩ := hrel
    cases gk with
    | zero =>
      obtain rfl : k = n := by omega
      have hkk : decide (k < k) = false := decide_eq_false (by omega)
      have hkk2 : decide ((k : Int) < (k : Int)) = false := decide_eq_false (by omega)
      have HBW : Bx (Below w.heap.size w wr) := ⟨HB3.out.trans ((HME.out ▸ HB.out).mono HB3.out.size)⟩
      have HALLn : Bx (∀ p ∈ l, p.n.size + p.v.size ≤ 100) := ⟨fun x hx => HALL.out x (by rw [List.take_of_length_le (by rw [HN.out]; exact Nat.le_refl _)]; exact hx)⟩
      have HLL : Bx ((catP l k).length ≤ 1120) := ⟨by have := catP_len l k HALL.out; have := HN8.out; omega⟩
      have hlenb := fun ty W => HO.out.bs.run_len ty W
      obtain ⟨c, hc⟩ : ∃ c, (catP l k).length = c := ⟨_, rfl⟩
      rw [hc] at hlenb HLL
      have HC := Bx.mk hc
      obtain ⟨c1, hc1⟩ : ∃ c1, c + 1 = c1 := ⟨_, rfl⟩
      have hc2 : wrap64 ((c : Int) + 1) = (c1 : Int) := by have := HLL.out; unfold wrap64; omega
      have hc3 : IntKind.i64.wrap ((c : Int) + 1) = (c1 : Int) := by have := HLL.out; simp only [IntKind.wrap_i64]; omega
      have hwat : IntKind.i64.wrap (at_ : Int) = (at_ : Int) := by have := HAT.out; simp only [IntKind.wrap_i64]; omega
      have hz : ((c1 : Int) == 0) = false := by rw [beq_eq_false_iff_ne]; omega
      have hz0 : ¬ c1 = 0 := by omega
      obtain ⟨x, hx⟩ : ∃ x, at_ % c1 = x := ⟨_, rfl⟩
      have hx1 : (at_ : Int) % (c1 : Int) = (x : Int) := by rw [← hx]; rfl
      have hx2 : (at_ : Int).tmod (c1 : Int) = (x : Int) := by rw [Int.tmod_eq_emod_of_nonneg (by omega)]; exact hx1
      have HX : Bx (x ≤ c) := ⟨by have : at_ % c1 < c1 := Nat.mod_lt _ (by omega); omega⟩
      obtain ⟨bv1, hsl, hbs⟩ := HO.out.bs.upto (x : Int) (by omega) (by rw [HC.out]; have := HX.out; omega)
      have HBV := Bx.mk hbs
      obtain ⟨bl, hbl⟩ : ∃ bl, (catP l k).take x = bl := ⟨_, rfl⟩
      rw [Int.toNat_natCast, hbl] at HBV
      have HBL : Bx (bl.length ≤ 2000) := ⟨by rw [← hbl, List.length_take]; have := HC.out; have := HLL.out; omega⟩
      have HCD : Bx ((ldec 4096 false (Tab.new 4096) bl).isSome = endsB l k x) := ⟨by
        have h := cuts_dec l 4096 (Tab.new 4096) x HALLn.out (by rw [HN.out]; exact HN8.out) (by rw [HN.out, HC.out]; exact HX.out)
        rw [HN.out, hbl] at h
        exact h⟩
      clear hc hc1 hx hbs hbl
      have HUB := Bx.mk (HO.out.bs.block)
      go_wp2_with fail
      refine (OneP.new 4096 wr).mono ?_
      rintro e w5 ⟨q, t, rfl, h5, b5⟩
      have HP5 := Bx.mk h5
      have HB5 := Bx.mk b5
      clear h5 b5
      go_wp2_with fail
      refine (HP5.out.newRef HB5.out.size 4096).mono ?_
      rintro e w6 ⟨q', t', rfl, h6, b6⟩
      rw [show clampN 4096 = 4096 from rfl] at h6
      have HS6 := Bx.mk (Sm.of h6 (gd_new 4096 (Nat.le_refl _)) (Nat.le_refl _))
      have HB6 := Bx.mk (HB5.out.trans b6)
      have HBV6 := Bx.mk (HBV.out w6 (HO.out.bs.keep HB6.out))
      have HLE := Bx.mk (Rs.le_new (n := 4096) (Nat.le_refl _) false)
      have HUV : Bx (bl = [] ∨ ∀ g, bv1.ownBlock = some g → g < wr.heap.size) := ⟨(HBV.out wr HO.out.bs).block⟩
      clear h6 b6 HP5 HB5 HBV
      obtain ⟨en, hen⟩ : ∃ en, errN (ldec 4096 false (Tab.new 4096) bl) = en := ⟨_, rfl⟩
      have HEN := Bx.mk hen
      have hez : ((en : Int) == 0) = endsB l k x := by rw [← hen, errN_zero, HCD.out]
      have hee : ((en : Int) == (en : Int)) = true := by simp
      have HTOT := Bx.mk (Rs.le_tot HLE.out (by omega))
      clear hen HLE
      go_wp2_with fail
      refine (HS6.out.decP HB6.out.size HTOT.out HBV6.out (by have := HBL.out; omega)).mono ?_
      rintro e w7 ⟨v7, rfl, hf7, hs7, hb7, hg7⟩
      rw [show errN (Rs.read (some (Tab.new ((4096 : Nat) : Int), 4096, false)) bl) = en from HEN.out]
      have HS7 := Bx.mk hs7
      have HF7 := Bx.mk hf7
      have HB7 := Bx.mk hb7
      have HBV7 : Bx (Bs w7 bv1 bl) := ⟨by
        rcases HUV.out with h | h
        · have h2 := HBV6.out
          rw [h] at h2 ⊢
          exact h2.none_ w7
        · exact HBV6.out.blk fun g hg => hb7.block g (h g hg)⟩
      clear hs7 hf7 hb7 hg7
      go_wp2_with fail
      refine (HS7.out.decD (Nat.le_trans HB6.out.size HB7.out.size) HTOT.out HBV7.out (HUV.out.imp id fun h g hg => .inr (h g hg)) (by have := HBL.out; omega)).mono ?_
      rintro e w8 ⟨v8, rfl, hf8, hs8, hb8, hg8⟩
      rw [show errN (Rs.read (some (Tab.new ((4096 : Nat) : Int), 4096, false)) bl) = en from HEN.out]
      have HF78 := Bx.mk (HF7.out.blk (w' := w8) fun g hg => hg8 g (.inr hg))
      have HF8 := Bx.mk hf8
      have HB8 : Bx (Below wr.heap.size wr w8) := ⟨(HB6.out.trans HB7.out).trans hb8⟩
      clear hf8 hs8 hb8 hg8
      have hq := fields_any v7 v8 _ _ _ HF78.out HF8.out
      rw [decide_eq_true rfl] at hq
      have HQ := Bx.mk hq
      obtain ⟨D, hD1, hD2⟩ := HMAP.out
      have HM8 := Bx.mk (ownsMap_blk hD1 (HB8.out.block M (Nat.lt_of_lt_of_le (Nat.lt_succ_self M) HS.out)))
      have HD2 := Bx.mk hD2
      have HX6 : Bx (x ≤ 1000000) := ⟨by have := HX.out; have := HLL.out; omega⟩
      obtain ⟨z, hzz⟩ : ∃ z, endsB l k x = z := ⟨_, rfl⟩
      rw [hzz] at hez
      have HZZ := Bx.mk hzz
      have hzb : (z == z) = true := by simp
      clear hq hD1 hD2 hzz
      go_wp2_with fail
      refine HQ.out.mono ?_
      rintro e w9 ⟨rfl, b9⟩
      have hlk := En.look (ownsMap_blk HM8.out (b9.block M HM8.out.lt)) HD2.out x HX6.out
      rw [HZZ.out] at hlk
      have HBW9 : Bx (Below w.heap.size w w9) := ⟨(HBW.out.trans (HB8.out.mono HBW.out.size)).trans (b9.mono (Nat.le_trans HBW.out.size HB8.out.size))⟩
      clear b9
      go_wp2_with fail
      go_ret
      exact ⟨rfl, HBW9.out⟩
    | succ g =>
      have hkl : k < l.length := by have := HN.out; omega
      have hkk : decide (k < n) = true := decide_eq_true (by omega)
      have hkk2 : decide ((k : Int) < (n : Int)) = true := decide_eq_true (by omega)
      have hbw : Below w.heap.size w wr := HB3.out.trans ((HME.out ▸ HB.out).mono HB3.out.size)
      have HBW := Bx.mk hbw
      have HPR := Bx.mk (HPS.out.keep hbw)
      obtain ⟨b1, o1, hix1, hcs1⟩ := HPS.out.at_ k hkl
      obtain ⟨q0, q1, q2, q3, q4⟩ := hcs1 wr HPR.out
      have HCS := Bx.mk (catP_succ l k hkl)
      have HTK := Bx.mk (List.take_succ_eq_append_getElem hkl)
      have HSP := Bx.mk (HSM.out l[k] (List.getElem_mem hkl))
      have HLK := Bx.mk (catP_len l k HALL.out)
      have HBS := Bx.mk (endsB_succ l k)
      clear hbw hcs1
      obtain ⟨p, hp⟩ : ∃ p, l[k] = p := ⟨_, rfl⟩
      rw [hp] at q0 q1 q2 q3 q4 HCS HTK HSP
      clear hp
      obtain ⟨s, hs⟩ : ∃ s, p.n.size + p.v.size = s := ⟨_, rfl⟩
      have hs1 : IntKind.i64.wrap ((p.n.size : Int) + (p.v.size : Int)) = (s : Int) := by have := HSP.out; simp only [IntKind.wrap_i64]; omega
      have hs2 : wrap64 ((p.n.size : Int) + (p.v.size : Int)) = (s : Int) := by have := HSP.out; unfold wrap64; omega
      have HSS := Bx.mk hs
      obtain ⟨r, hr⟩ : ∃ r, p.k % 4 = r := ⟨_, rfl⟩
      have hr1 : (p.k : Int) % 4 = (r : Int) := by omega
      have hr2 : (p.k : Int).tmod 4 = (r : Int) := by rw [Int.tmod_eq_emod_of_nonneg (by omega)]; exact hr1
      have hr3 : IntKind.u8.wrap (2 + (r : Int)) = ((2 + r : Nat) : Int) := by simp only [IntKind.wrap_u8]; omega
      have HR := Bx.mk hr
      clear hs hr
      obtain ⟨pk, hpk⟩ : ∃ pk, p.k = pk := ⟨_, rfl⟩
      obtain ⟨pi, hpi⟩ : ∃ pi, p.i = pi := ⟨_, rfl⟩
      obtain ⟨pn, hpn⟩ : ∃ pn, p.n = pn := ⟨_, rfl⟩
      obtain ⟨pv, hpv⟩ : ∃ pv, p.v = pv := ⟨_, rfl⟩
      obtain ⟨ph, hph⟩ : ∃ ph, p.h = ph := ⟨_, rfl⟩
      rw [hpk] at q0 hr1 hr2
      rw [hpi] at q1
      rw [hpn] at q2 hs1 hs2
      rw [hpv] at q3 hs1 hs2
      rw [hph] at q4
      have HPE : Bx (p.k = pk ∧ p.i = pi ∧ p.n = pn ∧ p.v = pv ∧ p.h = ph) := ⟨hpk, hpi, hpn, hpv, hph⟩
      clear hpk hpi hpn hpv hph
      by_cases hc : 100 < s
      · have hcc : decide (100 < (s : Int)) = true := by rw [decide_eq_true_iff]; omega
        clear hc
        go_wp2_with fail
        go_region
        go_wp2_with fail
        go_ret
        exact ⟨rfl, HBW.out.drew⟩
      · have hcc : decide (100 < (s : Int)) = false := by rw [decide_eq_false_iff_not]; omega
        have HSZ : Bx (pn.size + pv.size ≤ 100) := ⟨by rw [← HPE.out.2.2.1, ← HPE.out.2.2.2.1, HSS.out]; omega⟩
        clear hc
        go_wp2_with fail
        go_region
        go_wp2_with fail
        have HPC : Bx ((p0 p).cs = #[.int .u8 (2 + (r : Int)), .int .u64 0, .string pn, .string pv, .bool ph] ∧ (p0 p).ok) := ⟨by
          constructor
          · unfold Pv.cs p0
            simp only [HR.out, HPE.out.2.2.1, HPE.out.2.2.2.1, HPE.out.2.2.2.2]
            simp
          · have h1 := HPE.out
            have h2 := HSZ.out
            rw [← h1.2.2.1, ← h1.2.2.2.1] at h2
            unfold Pv.ok p0
            simp only
            omega⟩
        have hb5 : Below wr.heap.size wr (wr.alloc (.cells #[.int .u8 (2 + (r : Int)), .int .u64 0, .string pn, .string pv, .bool ph] 33)).drew := ((Below.refl _ _).alloc (Nat.le_refl _) _).drew
        have HO5 := Bx.mk (HO.out.keep hb5)
        have HB5 := Bx.mk hb5
        clear hb5
        generalize (wr.alloc (.cells #[.int .u8 (2 + (r : Int)), .int .u64 0, .string pn, .string pv, .bool ph] 33)).drew = w5 at HO5 HB5 ⊢
        rw [← HPC.out.1]
        refine (lbytes_any (M + 1) u5 _ (p0 p) w5 HO5.out (Nat.le_trans HS.out HB5.out.size) (by have := HLK.out; have := HN8.out; omega) HPC.out.2).mono ?_
        rintro e w6 ⟨v6, rfl, ho6, b6, -⟩
        rw [← HCS.out] at ho6
        have HO6 := Bx.mk ho6
        have HS6 : Bx (M + 1 ≤ w6.heap.size) := ⟨Nat.le_trans (Nat.le_trans HS.out HB5.out.size) b6.size⟩
        have HB6 : Bx (Below M w3 w6) := ⟨HB.out.trans ((HB5.out.mono (Nat.le_trans (Nat.le_succ M) HS.out)).trans (b6.mono (Nat.le_succ M)))⟩
        obtain ⟨D, hD1, hD2⟩ := HMAP.out
        have hm6 := ownsMap_blk hD1 ((b6.block M (Nat.lt_succ_self M)).trans (HB5.out.block M (Nat.lt_of_lt_of_le (Nat.lt_succ_self M) HS.out)))
        have HM6 := Bx.mk hm6
        have HD2 := Bx.mk hD2
        have HALL2 : Bx (∀ p ∈ l.take (k + 1), p.n.size + p.v.size ≤ 100) := ⟨fun x hx => by
          rw [HTK.out] at hx
          rcases List.mem_append.1 hx with hx | hx
          · exact HALL.out x hx
          · rw [List.mem_singleton.1 hx, HPE.out.2.2.1, HPE.out.2.2.2.1]
            exact HSZ.out⟩
        have HLL : Bx ((catP l (k + 1)).length ≤ 1000000) := ⟨by have := catP_len l (k + 1) HALL2.out; have := HN8.out; omega⟩
        have hlenb := fun ty W => HO6.out.bs.run_len ty W
        obtain ⟨c, hc⟩ : ∃ c, (catP l (k + 1)).length = c := ⟨_, rfl⟩
        rw [hc] at hlenb HLL
        have HC := Bx.mk hc
        clear ho6 b6 hD1 hD2 hm6 hc HO5 HB5
        go_wp2_with (at_mapUpdate; refine wpList_mapUpdate_own _ rfl _ _ _ 66 rfl 3 4 intLaw Try.underlying66 (plainElem Try.prog 4) M (k + 1) D rfl HM6.out (by have := HN8.out; unfold maxLen; omega) _ _ _ rfl rfl (keyOf_int6 c HLL.out) _ [] (plainElem_bool Try.underlying4 true) ?_; intro w7 ho7 hg7; have HM7 : Bx (∃ (D : DataW Unit), w7.ownsMap Try.prog 3 (plainElem Try.prog 4) M (k + 1 + 1) D ∧ En D (endsB l (k + 1))) := ⟨_, ho7, (HD2.out.put c HLL.out).congr fun x => by rw [HBS.out x, HC.out]⟩; have HO7 : Bx (OwB w7 (M + 1) v6 (catP l (k + 1))) := ⟨HO6.out.kept fun j hj => hg7.block j (HO6.out.lt hj) fun e => by injection e with e; have := HO6.out.ge hj; omega⟩; have HB7 : Bx (Below M w3 w7) := ⟨HB6.out.grown hg7 (Nat.le_trans (Nat.le_succ M) HS6.out) fun j hj => by cases hj; exact Nat.le_refl _⟩; have HS7 : Bx (M + 1 ≤ w7.heap.size) := ⟨Nat.le_trans HS6.out hg7.size⟩; clear ho7 hg7)
        go_roundg g
        case measure => omega
        case rel => exact ⟨k + 1, by omega, by have := HN8.out; have hw : wrap64 ((k : Int) + 1) = ((k + 1 : Nat) : Int) := (by unfold wrap64; omega); first | rfl | rw [hw] | (simp only [hw]), HO7, HM7, HB7, HS7, HALL2⟩

end Go.Proofs.Ytejkbibahbcofaa
