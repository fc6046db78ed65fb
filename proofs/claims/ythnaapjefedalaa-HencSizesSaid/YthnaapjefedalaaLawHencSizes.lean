/-
  bifoldlaw7.HencSizes answers true, whatever its arguments: the walk.
-/
import Derived.Test.YthnaapjefedalaaM22
import Derived.Test.YthnaapjefedalaaM26
import Derived.Test.YthnaapjefedalaaM08
import Derived.Deep.CutRange
import Derived.Deep.CutBlock
import Derived.Handy
namespace Go.Proofs.Ythnaapjefedalaa
open Go.RowKit Go.Maps
set_option linter.unusedVariables false

theorem and224 (x : Nat) (h : x < 256) : bits .and .u8 (x : Int) 224 = ((x / 32 * 32 : Nat) : Int) := by
  have key : ∀ y : Fin 256, y.val &&& 224 = y.val / 32 * 32 := by decide +kernel
  rw [show (224 : Int) = ((224 : Nat) : Int) from rfl, u8_and_nat _ _ h (by omega)]
  have := key ⟨x, h⟩
  simp only at this
  rw [this]
theorem and31 (x : Nat) (h : x < 256) : bits .and .u8 (x : Int) 31 = ((x % 32 : Nat) : Int) := by
  have key : ∀ y : Fin 256, y.val &&& 31 = y.val % 32 := by decide +kernel
  rw [show (31 : Int) = ((31 : Nat) : Int) from rfl, u8_and_nat _ _ h (by omega)]
  have := key ⟨x, h⟩
  simp only at this
  rw [this]
theorem and128S (x : Nat) (h : x < 256) : bits .and .u8 (x : Int) 128 = ((x / 128 * 128 : Nat) : Int) := by
  have key : ∀ y : Fin 256, y.val &&& 128 = y.val / 128 * 128 := by decide +kernel
  rw [show (128 : Int) = ((128 : Nat) : Int) from rfl, u8_and_nat _ _ h (by omega)]
  have := key ⟨x, h⟩
  simp only at this
  rw [this]

theorem Fs.blt {w : World} {v : Value} {l : List Fd} (h : Fs w v l) (hl : 0 < l.length) : ∀ g, v.ownBlock = some g → g < w.heap.size := by
  intro g hg
  obtain ⟨b, o, c, rfl, _, _, hb, _⟩ := Rn.at_ h hl (by omega)
  simp only [Value.ownBlock, Option.some.injEq] at hg
  omega
/-- The encoder, and the decoder that waits beside it. -/
abbrev SzW (q p : Nat) (T : Tab) (le : Option Nat) (q' t : Nat) (U : Tab) : Wx := Both (Ep q p T le) (Dc q' t U 4096 false false)
theorem Wd.sz (q p : Nat) (T : Tab) (le : Option Nat) (q' t : Nat) (U : Tab) : Wd (SzW q p T le q' t U) := (Wd.ep _ _ _ _).both (Wd.dc _ _ _ _ _ _)
theorem Ex.sz (q p : Nat) (T : Tab) (le : Option Nat) (q' t : Nat) (U : Tab) : Ex (SzW q p T le q' t U) := (Ex.ep _ _ _ _).both (Ex.dc _ _ _ _ _ _)

set_option maxRecDepth 100000 in
set_option maxHeartbeats 8000000 in
theorem hencSizes_walk (v0 : Value) (ns : List Nat) (f : Fd) (w : World) (hus : Us w v0 ns) (hf : f.1.size ≤ 140737488351232 ∧ f.2.size ≤ 140737488351232) :
    Calls Try.prog 7 #[v0, .agg #[.string f.1, .string f.2]] w fun e w' => e = .returned (.bool true) ∧ Below w.heap.size w w' := by
  obtain ⟨f1, f2⟩ := f
  simp only at hf
  have HUS := Bx.mk hus
  have hlen := fun ty W => hus.run_len ty W
  have hlm := Rd.len hus.1
  simp only [List.length_map, maxLen] at hlm
  obtain ⟨n, hn⟩ : ∃ n, ns.length = n := ⟨_, rfl⟩
  rw [hn] at hlen hlm
  have HN := Bx.mk hn
  have HF0 := Bx.mk (Fb.new 58 w (f1, f2))
  have HB0 := Bx.mk ((Below.refl w.heap.size w).alloc (Nat.le_refl _) (.cells #[.string f1, .string f2] 58))
  obtain ⟨hca, hcb⟩ := HF0.out.cells
  clear hus hn
  by_cases hbig : 6 < n
  · have hbb : decide (6 < (n : Int)) = true := decide_eq_true (by omega)
    clear hbig hlm
    go_enter Try.func7, Try.ntmps7
    go_wp2_with fail
    refine (eknown_any _).mono ?_
    rintro e w1 ⟨rfl, b1⟩
    go_wp2_with fail
    go_ret
    exact ⟨rfl, HB0.out.trans (b1.mono HB0.out.size)⟩
  have hbb : decide (6 < (n : Int)) = false := decide_eq_false (by omega)
  have hn6 : n ≤ 6 := by omega
  clear hbig hlm
  by_cases hgt : 100 < f1.size + f2.size
  · have hd : decide (100 < f1.size + f2.size) = true := decide_eq_true hgt
    have hd2 : decide ((100 : Int) < (f1.size : Int) + (f2.size : Int)) = true := decide_eq_true (by omega)
    have hsum : IntKind.i64.wrap ((f1.size : Int) + (f2.size : Int)) = (f1.size : Int) + (f2.size : Int) := by simp only [IntKind.wrap_i64]; omega
    clear hca hcb hgt
    go_enter Try.func7, Try.ntmps7
    go_wp2_with fail
    refine (eknown_any _).mono ?_
    rintro e w1 ⟨rfl, b1⟩
    have HB1 := Bx.mk (HB0.out.trans (b1.mono HB0.out.size))
    have HF1 := Bx.mk (HF0.out.keep b1)
    obtain ⟨hca, hcb⟩ := HF1.out.cells
    go_wp2_with fail
    go_ret
    exact ⟨rfl, HB1.out⟩
  have hd : decide (100 < f1.size + f2.size) = false := decide_eq_false hgt
  have hd2 : decide ((100 : Int) < (f1.size : Int) + (f2.size : Int)) = false := decide_eq_false (by omega)
  have hsum : IntKind.i64.wrap ((f1.size : Int) + (f2.size : Int)) = (f1.size : Int) + (f2.size : Int) := by simp only [IntKind.wrap_i64]; omega
  have HFZ : Bx (f1.size + f2.size ≤ 100) := ⟨by omega⟩
  clear hca hcb hgt hf
  go_enter Try.func7, Try.ntmps7
  go_wp2_with fail
  refine (eknown_any _).mono ?_
  rintro e w1 ⟨rfl, b1⟩
  have HB1 := Bx.mk (HB0.out.trans (b1.mono HB0.out.size))
  have HF1 := Bx.mk (HF0.out.keep b1)
  obtain ⟨hca, hcb⟩ := HF1.out.cells
  clear b1
  go_wp2_with fail
  refine (enc_new 4096 w1).mono ?_
  rintro e w2 ⟨q, p, rfl, hu, b2⟩
  rw [show ((clampN 4096 : Nat) : Int) = 4096 from rfl] at hu
  have HU2 := Bx.mk hu
  have HB2 := Bx.mk b2
  clear hu b2 hca hcb hbb hd hd2 hsum
  go_wp2_with fail
  refine (newDecoder_any 4096 w2).mono ?_
  rintro e w3 ⟨q', t, S3, rfl, hd3, hs3, b3⟩
  rw [show ((clampN 4096 : Nat) : Int) = 4096 from rfl, show clampN 4096 = 4096 from rfl] at hd3
  have HU3 : Bx (Up w1.heap.size (SzW q p (Tab.new 4096) none q' t (Tab.new 4096)) w3) := ⟨Up.add (Wd.ep _ _ _ _) HU2.out HB2.out.size b3 ⟨S3, hd3, hs3⟩⟩
  have HB3 := Bx.mk (HB2.out.trans (b3.mono HB2.out.size))
  obtain ⟨cs, hcs⟩ : ∃ cs, ns.map (· % 4097) = cs := ⟨_, rfl⟩
  have HCS : Bx (cs.length = n ∧ (∀ c ∈ cs, c ≤ 4096) ∧ ∀ (k : Nat) (h1 : k < ns.length) (h2 : k < cs.length), cs[k] = ns[k] % 4097) := ⟨by
    subst hcs
    refine ⟨by rw [List.length_map]; exact HN.out, fun c hc => ?_, fun k h1 h2 => by simp⟩
    obtain ⟨m, _, rfl⟩ := List.mem_map.1 hc
    omega⟩
  clear hd3 hs3 b3 hcs
  go_wp2_with fail
  go_loopg [7] n (fun g s7 wx => ∃ k : Nat, k + g = n ∧ s7 = .int .i64 k ∧ Bx (Up w1.heap.size (SzW q p (rsT (Tab.new 4096) none (cs.take k)).1 (rsT (Tab.new 4096) none (cs.take k)).2 q' t (Tab.new 4096)) wx) ∧ Bx (Below w1.heap.size w1 wx))
  case atStart => exact ⟨0, by omega, rfl, ⟨by simpa [rsT] using HU3.out⟩, HB3⟩
  case round =>
    obtain ⟨k, hkg, rfl, HU, HB⟩ := hrel
    clear HU2 HU3
    cases gk with
    | succ g =>
      have hk : k < ns.length := by have := HN.out; omega
      have hkc : k < cs.length := by have := HCS.out.1; have := HN.out; omega
      have hkd : decide ((k : Int) < (n : Int)) = true := decide_eq_true (by omega)
      obtain ⟨b, o, hix, hpc⟩ := HUS.out.at_ k hk
      have hpc2 := hpc wr (HUS.out.keep (HB1.out.trans (HB.out.mono HB1.out.size)))
      have hc1 := HCS.out.2.2 k hk hkc
      have hc2 := HCS.out.2.1 cs[k] (List.getElem_mem hkc)
      have hnk := HUS.out.2 ns[k] (List.getElem_mem hk)
      have htk := rsT_take (Tab.new 4096) none cs k hkc
      obtain ⟨x, hx⟩ : ∃ x, ns[k] = x := ⟨_, rfl⟩
      obtain ⟨c, hc⟩ : ∃ c, cs[k] = c := ⟨_, rfl⟩
      rw [hx] at hpc2 hc1 hnk
      rw [hc] at hc1 hc2 htk
      have hr1 : (x : Int) % 4097 = (c : Int) := by omega
      have hr2 : Int.tmod (x : Int) 4097 = (c : Int) := by rw [Int.tmod_eq_emod_of_nonneg (by omega)]; exact hr1
      have hw : IntKind.i64.wrap (c : Int) = (c : Int) := by simp only [IntKind.wrap_i64]; omega
      have HTK := Bx.mk htk
      have HRS := Bx.mk (Up.call (Ex.sz _ _ _ _ _ _ _) (Wd.sz _ _ _ _ _ _ _) HU.out HB.out.size (Below.refl _ _) (lift1 (Wd.dc _ _ _ _ _ _) (pe_resize (c : Int))))
      rw [clampN_nat c hc2] at HRS
      clear hpc hx hc htk hc1 hnk hk hkc
      go_wp2_with fail
      refine HRS.out.mono ?_
      rintro e w5 ⟨_, rfl, hu5, b5, r5⟩
      have HU5 : Bx (Up w1.heap.size (SzW q p (rsT (Tab.new 4096) none (cs.take (k + 1))).1 (rsT (Tab.new 4096) none (cs.take (k + 1))).2 q' t (Tab.new 4096)) w5) := ⟨by rw [HTK.out]; exact hu5⟩
      have HB5 := Bx.mk (HB.out.trans b5)
      clear hu5 b5 r5 hc2
      go_wp2_with fail
      go_roundg g
      case measure => omega
      case rel => exact ⟨k + 1, by omega, by go_num, HU5, HB5⟩
    | zero =>
      obtain rfl : k = n := by omega
      have htl : cs.take k = cs := by rw [← HCS.out.1, List.take_length]
      rw [htl] at HU
      clear htl
      obtain ⟨T, hT⟩ : ∃ T, (rsT (Tab.new 4096) none cs).1 = T := ⟨_, rfl⟩
      obtain ⟨le, hle⟩ : ∃ le, (rsT (Tab.new 4096) none cs).2 = le := ⟨_, rfl⟩
      rw [hT, hle] at HU
      have HTL := Bx.mk (show (rsT (Tab.new 4096) none cs).1 = T ∧ (rsT (Tab.new 4096) none cs).2 = le from ⟨hT, hle⟩)
      have hb16 := rsT_le cs (T := Tab.new 4096) (le := none) (b := 4096) HCS.out.2.1 (by simp [Tab.new]) (fun m hm => by cases hm)
      have htot := rsT_tot cs (Tab.new 4096) none
      have hlen2 := rsT_len cs (Tab.new 4096) none
      have hEnc := rsT_enc cs (Enc.start (Tab.new 4096))
      rw [hT, hle] at hb16 hEnc
      rw [hT] at htot hlen2
      have ht0 : T.tot = 0 := htot
      have hl0 : T.l.length ≤ 0 := hlen2
      have HB16 := Bx.mk hb16
      have HENC := Bx.mk hEnc
      have HT0 := Bx.mk (show T.tot = 0 ∧ T.l.length ≤ 0 from ⟨ht0, hl0⟩)
      clear hT hle hb16 htot hlen2 hEnc ht0 hl0
      have HFX : Bx (∀ W, Below w1.heap.size w1 W → Fb 58 W w.heap.size (f1, f2)) := ⟨fun W hW => HF1.out.keep hW⟩
      obtain ⟨hca, hcb⟩ := (HFX.out wr HB.out).cells
      have HA := Bx.mk ((Below.refl wr.heap.size wr).alloc (Nat.le_refl _) (.cells #[.string f1, .string f2] 58))
      have HFS := Bx.mk (fun (W : World) => Fs.lits W #[.string f1, .string f2] [(f1, f2)] rfl (by simp))
      have HEN := Bx.mk (Up.call (Ex.sz _ _ _ _ _ _ _) (Wd.sz _ _ _ _ _ _ _) HU.out HB.out.size HA.out (lift1 (Wd.dc _ _ _ _ _ _) (pe_enc (fun m hm => by have := HB16.out.2 m hm; omega) (by have := HB16.out.1; omega) (fun S W hC hf => (HFS.out wr).besides hf (fun g hg => by
        simp only [Value.ownBlock, Option.some.injEq] at hg
        subst hg
        exact ⟨by simp, fun hs => Nat.lt_irrefl _ (Cn.old hC _ hs)⟩)) (by simp) (fun f hf => by rw [List.mem_singleton.1 hf]; have := HFZ.out; simp only; omega) (by have := HFZ.out; simp only [sumF, fsz]; omega) (by have := HT0.out; simp; omega))))
      clear HU
      go_wp2_with fail
      refine HEN.out.mono ?_
      rintro e w5 ⟨v5, ⟨rfl, ho5⟩, hu5, b5, r5⟩
      obtain ⟨bl, hbl⟩ : ∃ bl, encB le T [(f1, f2)] = bl := ⟨_, rfl⟩
      rw [hbl] at ho5
      have HBL := Bx.mk hbl
      have HO5 := Bx.mk ho5
      have HU5 := Bx.mk hu5
      have HB5 := Bx.mk (HB.out.trans b5)
      clear ho5 hu5 b5 r5 hbl HEN hca hcb
      go_wp2_with fail
      go_loopg [9, 10, 11] k (fun g s9 s10 s11 wx => ∃ j : Nat, j + g = k ∧ s11 = .int .i64 j ∧ s9 = .int .i64 ((if j = 0 then 0 else 1 : Nat) : Int) ∧ (∃ a : Nat, a = leastN (rsT (Tab.new 4096) none (cs.take j)).2 ∧ a ≤ 4097 ∧ s10 = .int .i64 (a : Int)) ∧ wx = w5)
      case atStart => exact ⟨0, by omega, rfl, rfl, ⟨4097, by simp [rsT, leastN], by omega, rfl⟩, rfl⟩
      case round =>
        obtain ⟨j, hjg, rfl, rfl, ⟨a, ha, hal, rfl⟩, rfl⟩ := hrel
        cases gk with
        | succ g =>
          have hj : j < ns.length := by have := HN.out; omega
          have hjc : j < cs.length := by have := HCS.out.1; have := HN.out; omega
          obtain ⟨b, o, hix, hpc⟩ := HUS.out.at_ j hj
          have hpc2 := hpc wr (HUS.out.keep (HB1.out.trans (HB5.out.mono HB1.out.size)))
          have hc1 := HCS.out.2.2 j hj hjc
          have hc2 := HCS.out.2.1 cs[j] (List.getElem_mem hjc)
          have hnk := HUS.out.2 ns[j] (List.getElem_mem hj)
          have htk := rsT_take (Tab.new 4096) none cs j hjc
          have hjl : leastN (rsT (Tab.new 4096) none (cs.take (j + 1))).2 = min a cs[j] := by
            rw [htk]
            simp only
            rw [leastN_less _ _ hc2, ← ha]
          obtain ⟨x, hx⟩ : ∃ x, ns[j] = x := ⟨_, rfl⟩
          obtain ⟨c, hc⟩ : ∃ c, cs[j] = c := ⟨_, rfl⟩
          rw [hx] at hpc2 hc1 hnk
          rw [hc] at hc1 hc2 hjl
          have hr1 : (x : Int) % 4097 = (c : Int) := by omega
          have hr2 : Int.tmod (x : Int) 4097 = (c : Int) := by rw [Int.tmod_eq_emod_of_nonneg (by omega)]; exact hr1
          have hw : IntKind.i64.wrap (c : Int) = (c : Int) := by simp only [IntKind.wrap_i64]; omega
          obtain ⟨d, hd⟩ : ∃ d, min a c = d := ⟨_, rfl⟩
          have hmin : min (a : Int) (c : Int) = (d : Int) := by omega
          rw [hd] at hjl
          have HJL := Bx.mk hjl
          have hdl : d ≤ 4097 := by omega
          have hj6 : j ≤ 6 := by omega
          clear hpc hx hc htk hc1 hnk hj hjc hjl hd ha hc2 hal
          go_wp2_with fail
          go_roundg g
          case measure => omega
          case rel => exact ⟨j + 1, by omega, by go_num, by simp, ⟨d, HJL.out.symm, hdl, rfl⟩, rfl⟩
        | zero =>
          obtain rfl : j = k := by omega
          have hta : cs.take j = cs := by rw [← HCS.out.1, List.take_length]
          rw [hta, HTL.out.2] at ha
          obtain ⟨nt, hnt⟩ : ∃ nt, (toldN le T.cap).length = nt := ⟨_, rfl⟩
          have HNT := Bx.mk hnt
          clear hta hnt
          obtain ⟨z9, hz9⟩ : ∃ z9 : Nat, (if j = 0 then 0 else 1) = z9 := ⟨_, rfl⟩
          rw [hz9]
          obtain ⟨bb, hbb⟩ : ∃ bb : Bool, decide (nt = 2) = bb := ⟨_, rfl⟩
          have HBBx := Bx.mk hbb
          have hcase : (j = 0 ∧ z9 = 0 ∧ nt = 0) ∨ ∃ j' : Nat, j = j' + 1 ∧ z9 = 1 ∧ (nt = if a < T.cap then 2 else 1) ∧ ∃ h1 : j' < ns.length, T.cap = ns[j'] % 4097 := by
            have hnt := toldN_count le T.cap
            rw [HNT.out] at hnt
            by_cases h0 : j = 0
            · refine .inl ⟨h0, by rw [← hz9, if_pos h0], ?_⟩
              have hcs0 : cs = [] := List.eq_nil_of_length_eq_zero (by rw [HCS.out.1]; exact h0)
              have h1 := HTL.out.2
              rw [hcs0] at h1
              have h2 : le = none := h1.symm
              rw [hnt, h2]
            · obtain ⟨j', hj'⟩ : ∃ j', j = j' + 1 := ⟨j - 1, by omega⟩
              have hlt : j' < cs.length := by rw [HCS.out.1]; omega
              have hlt2 : j' < ns.length := by rw [HN.out]; omega
              have htk := rsT_take (Tab.new 4096) none cs j' hlt
              have hall : cs.take (j' + 1) = cs := by rw [← hj', ← HCS.out.1, List.take_length]
              rw [hall] at htk
              have h1 := HTL.out
              rw [htk] at h1
              simp only at h1
              refine .inr ⟨j', hj', by rw [← hz9, if_neg h0], ?_, hlt2, ?_⟩
              · rw [hnt, ha, ← h1.2]
                rfl
              · rw [← h1.1, resize_cap, HCS.out.2.2 j' hlt2 hlt]
          have HCASE := Bx.mk hcase
          clear hcase hz9 ha
          go_upto_region 17 with fail
          go_cut [79] from 66 to 79 (fun s79 wx => s79 = .bool bb ∧ wx = wr)
          case first =>
            rcases HCASE.out with ⟨rfl, rfl, h3⟩ | ⟨j', hj', rfl, h3, h4, h5⟩
            · obtain rfl : bb = false := by rw [← hbb, h3]; rfl
              go_wp2_with fail
              go_meet
              exact ⟨rfl, rfl⟩
            · obtain ⟨b, o, hix, hpc⟩ := HUS.out.at_ j' h4
              have hpc2 := hpc wr (HUS.out.keep (HB1.out.trans (HB5.out.mono HB1.out.size)))
              obtain ⟨x, hx⟩ : ∃ x, ns[j'] = x := ⟨_, rfl⟩
              have hnk := HUS.out.2 ns[j'] (List.getElem_mem h4)
              rw [hx] at hpc2 h5 hnk
              obtain ⟨c, hc⟩ : ∃ c, T.cap = c := ⟨_, rfl⟩
              rw [hc] at h3 h5
              have hr1 : (x : Int) % 4097 = (c : Int) := by omega
              have hr2 : Int.tmod (x : Int) 4097 = (c : Int) := by rw [Int.tmod_eq_emod_of_nonneg (by omega)]; exact hr1
              have hcl : c ≤ 4096 := by omega
              have hsub : (j : Int) - 1 = (j' : Int) := by omega
              have hlt : decide (a < c) = bb := by
                rw [← hbb, h3]
                by_cases h0 : a < c <;> simp [h0]
              have hlt2 : decide ((a : Int) < (c : Int)) = bb := by rw [← hlt]; by_cases h0 : a < c <;> simp [h0] <;> omega
              clear hpc hx hnk hc h3 h4 h5 hj' hbb
              go_wp2_with fail
              go_meet
              exact ⟨rfl, rfl⟩
          case rest =>
            obtain ⟨rfl, rfl⟩ := hcut
            have hz : nt = if bb = true then 2 else z9 := by
              rcases HCASE.out with ⟨h1, h2, h3⟩ | ⟨j', hj', h2, h3, h4, h5⟩
              · rw [← hbb, h3, h2]; rfl
              · rw [← hbb, h2, h3]
                by_cases h0 : a < T.cap <;> simp [h0]
            clear HCASE hbb HBBx
            go_upto_if 79 with fail
            go_cut [9] from 66 to 79 (fun s9 wx => s9 = .int .i64 (nt : Int) ∧ wx = wc)
            case first =>
              cases bb with
              | true =>
                obtain rfl : nt = 2 := by simpa using hz
                go_wp2_with fail
                go_meet
                exact ⟨rfl, rfl⟩
              | false =>
                obtain rfl : nt = z9 := by simpa using hz
                go_wp2_with fail
                go_meet
                exact ⟨rfl, rfl⟩
            case rest =>
              obtain ⟨rfl, rfl⟩ := hcut
              clear hz
              have hlenb := fun ty W => HO5.out.bs.run_len ty W
              obtain ⟨nb, hnb⟩ : ∃ nb, bl.length = nb := ⟨_, rfl⟩
              rw [hnb] at hlenb
              obtain ⟨F, hF⟩ : ∃ F, (encL T [(f1, f2)]).1 = F := ⟨_, rfl⟩
              have HFF : Bx (F = (encF T (f1, f2)).1 ++ []) := ⟨by rw [← hF]; rfl⟩
              have hbl0 : bl = upsW (toldN le T.cap) ++ F := by rw [← HBL.out, ← hF]; rfl
              have hnb200 : nb ≤ 200 := by
                have h1 := upsW_len2 (toldN le T.cap)
                have h2 := toldN_len le T.cap
                have h3 := encL_blen [(f1, f2)] T
                have h4 := HFZ.out
                rw [hF] at h3
                simp only [sumF, fsz, List.length_cons, List.length_nil] at h3
                rw [← hnb, hbl0, List.length_append]
                omega
              have HNB := Bx.mk hnb
              have HBL0 := Bx.mk hbl0
              have HT16 : Bx (∀ v ∈ toldN le T.cap, v ≤ 65535) := ⟨fun v hv => toldN_le le T.cap 65535 (by have := HB16.out.1; omega) v hv⟩
              clear hF hbl0 hnb
              go_wp2_with fail
              go_loopg [12, 13] nt (fun g s12 s13 wx => ∃ (pp : Nat) (rest : List Nat) (ct : Nat), rest.length = g ∧ ct + g = nt ∧ s12 = .int .i64 ct ∧ s13 = .int .i64 pp ∧ pp ≤ nb ∧ ct ≤ 2 ∧ Bx (bl.drop pp = upsW rest ++ F) ∧ Bx (∀ v ∈ rest, v ≤ 65535) ∧ wx = wc)
              case atStart => exact ⟨0, toldN le T.cap, 0, HNT.out, by omega, rfl, rfl, by omega, by omega, ⟨by rw [List.drop_zero]; exact HBL0.out⟩, HT16, rfl⟩
              case round =>
                obtain ⟨pp, rest, ct, hrl, hct, rfl, rfl, hppl, hct2, HD, HR16, rfl⟩ := hrel
                cases gk with
                | succ g =>
                  obtain ⟨v, rest', rfl⟩ : ∃ v r, rest = v :: r := by
                    cases rest with
                    | nil => simp at hrl
                    | cons v r => exact ⟨v, r, rfl⟩
                  have hrl' : rest'.length = g := by simpa using hrl
                  have hdr : bl.drop pp = pre 32 5 v ++ (upsW rest' ++ F) := by rw [HD.out]; unfold upsW; rw [List.flatMap_cons, List.append_assoc]
                  have HR16' : Bx (∀ v ∈ rest', v ≤ 65535) := ⟨fun x hx => HR16.out x (by simp [hx])⟩
                  have hc16 : ct + 1 ≤ 2 := by have := toldN_len le T.cap; have := HNT.out; omega
                  rcases pre5_cases v (HR16.out v (by simp)) (upsW rest' ++ F) with ⟨c, e1, e2, e3⟩ | ⟨c, hs, d, e1, e2, e3, e4, e5⟩
                  · rw [e1] at hdr
                    obtain ⟨hpl, hpc, hdr2⟩ := head_at hdr
                    obtain ⟨pa, hix, hcell⟩ := HO5.out.bs.at_ pp hpl
                    have hcl := hcell wr HO5.out.bs
                    rw [hpc] at hcl
                    obtain ⟨x, hx⟩ : ∃ x, c.toNat = x := ⟨_, rfl⟩
                    have hx256 : x < 256 := by rw [← hx]; exact c.toNat_lt
                    rw [hx] at hcl e2 e3
                    have hand := and224 x hx256
                    rw [e2] at hand
                    have hand2 := and31 x hx256
                    obtain ⟨y, hy⟩ : ∃ y, x % 32 = y := ⟨_, rfl⟩
                    rw [hy] at hand2 e3
                    have hne : ((y : Int) == 31) = false := by simp; omega
                    have hne2 : ((y : Int) != 31) = true := by simp; omega
                    have hpn : pp < nb := by have := HNB.out; omega
                    have hpd : decide ((pp : Int) < (nb : Int)) = true := decide_eq_true (by omega)
                    have HD2 := Bx.mk hdr2
                    clear hdr e1 hpl hpc hdr2 hcell hx hx256 e2 hy e3 hrl hppl
                    go_wp2_with fail
                    go_roundg g
                    case measure => omega
                    case rel => exact ⟨pp + 1, rest', ct + 1, hrl', by omega, by go_num, by go_num, by omega, hc16, HD2, HR16', rfl⟩
                  · rw [e1] at hdr
                    obtain ⟨hpl, hpc, hdr2⟩ := head_at hdr
                    obtain ⟨pa, hix, hcell⟩ := HO5.out.bs.at_ pp hpl
                    have hcl := hcell wr HO5.out.bs
                    rw [hpc] at hcl
                    obtain ⟨x, hx⟩ : ∃ x, c.toNat = x := ⟨_, rfl⟩
                    have hx256 : x < 256 := by rw [← hx]; exact c.toNat_lt
                    rw [hx] at hcl e2 e3
                    have hand := and224 x hx256
                    rw [e2] at hand
                    have hand2 := and31 x hx256
                    rw [e3] at hand2
                    have hpn : pp < nb := by have := HNB.out; omega
                    have hpd : decide ((pp : Int) < (nb : Int)) = true := decide_eq_true (by omega)
                    have HD2 := Bx.mk hdr2
                    have HE4 := Bx.mk e4
                    have HE5 := Bx.mk e5
                    clear hdr e1 hpl hpc hdr2 hcell hx hx256 e2 e3 hrl hppl e4 e5
                    go_wp2_with fail
                    clear hix hcl hand hand2 hpd
                    go_loopg [13] hs.length (fun g s13 wx => ∃ (p2 : Nat) (h2 : List UInt8), h2.length = g ∧ s13 = .int .i64 p2 ∧ p2 ≤ nb ∧ Bx (bl.drop p2 = h2 ++ d :: (upsW rest' ++ F)) ∧ Bx (∀ h ∈ h2, 128 ≤ h.toNat) ∧ wx = wr)
                    case atStart => exact ⟨pp + 1, hs, rfl, by go_num, by omega, HD2, HE4, rfl⟩
                    case round =>
                      obtain ⟨p2, h2, hh, rfl, hp2, HD3, HG, rfl⟩ := hrel
                      cases gk with
                      | succ g2 =>
                        obtain ⟨h, h2', rfl⟩ : ∃ h r, h2 = h :: r := by
                          cases h2 with
                          | nil => simp at hh
                          | cons h r => exact ⟨h, r, rfl⟩
                        obtain ⟨hpl, hpc, hdr2⟩ := head_at HD3.out
                        obtain ⟨pa, hix, hcell⟩ := HO5.out.bs.at_ p2 hpl
                        have hcl := hcell wr HO5.out.bs
                        rw [hpc] at hcl
                        have hge := HG.out h (by simp)
                        obtain ⟨x, hx⟩ : ∃ x, h.toNat = x := ⟨_, rfl⟩
                        have hx256 : x < 256 := by rw [← hx]; exact h.toNat_lt
                        rw [hx] at hcl hge
                        have hand := and128S x hx256
                        rw [show x / 128 * 128 = 128 by omega] at hand
                        have hpn2 : p2 < nb := by have := HNB.out; omega
                        have hpd : decide ((p2 : Int) < (nb : Int)) = true := decide_eq_true (by omega)
                        have HD4 := Bx.mk hdr2
                        have HG2 : Bx (∀ k ∈ h2', 128 ≤ k.toNat) := ⟨fun k hk => HG.out k (by simp [hk])⟩
                        have hh' : h2'.length = g2 := by simpa using hh
                        clear hpl hpc hdr2 hcell hx hx256 hge hh hp2
                        go_wp2_with fail
                        go_roundg g2
                        case measure => omega
                        case rel => exact ⟨p2 + 1, h2', hh', by go_num, by omega, HD4, HG2, rfl⟩
                      | zero =>
                        obtain rfl : h2 = [] := List.eq_nil_of_length_eq_zero hh
                        have hdr := HD3.out
                        rw [List.nil_append] at hdr
                        obtain ⟨hpl, hpc, hdr2⟩ := head_at hdr
                        obtain ⟨pa, hix, hcell⟩ := HO5.out.bs.at_ p2 hpl
                        have hcl := hcell wr HO5.out.bs
                        rw [hpc] at hcl
                        have hge := HE5.out
                        obtain ⟨x, hx⟩ : ∃ x, d.toNat = x := ⟨_, rfl⟩
                        have hx256 : x < 256 := by rw [← hx]; exact d.toNat_lt
                        rw [hx] at hcl hge
                        have hand := and128S x hx256
                        rw [show x / 128 * 128 = 0 by omega] at hand
                        have hpn2 : p2 < nb := by have := HNB.out; omega
                        have hpd : decide ((p2 : Int) < (nb : Int)) = true := decide_eq_true (by omega)
                        have HD4 := Bx.mk hdr2
                        clear hpl hpc hdr hdr2 hcell hx hx256 hge hh hp2
                        go_wp2_with fail
                        go_roundg g
                        case measure => omega
                        case rel => exact ⟨p2 + 1, rest', ct + 1, hrl', by omega, by go_num, by go_num, by omega, hc16, HD4, HR16', rfl⟩
                | zero =>
                  obtain rfl : rest = [] := List.eq_nil_of_length_eq_zero hrl
                  obtain rfl : ct = nt := by omega
                  have hdr : bl.drop pp = F := HD.out
                  have hpos := encF_pos T (f1, f2)
                  have hnup := isUp_encF T (f1, f2) []
                  rw [← HFF.out] at hnup
                  obtain ⟨c, r, hcr⟩ : ∃ c r, F = c :: r := by
                    rw [HFF.out]
                    cases hE : (encF T (f1, f2)).1 with
                    | nil => rw [hE] at hpos; simp at hpos
                    | cons c r => exact ⟨c, r ++ [], rfl⟩
                  rw [hcr] at hdr hnup
                  have hnu : c.toNat / 32 ≠ 1 := hnup
                  obtain ⟨hpl, hpc, hdr2⟩ := head_at hdr
                  obtain ⟨pa, hix, hcell⟩ := HO5.out.bs.at_ pp hpl
                  have hcl := hcell wr HO5.out.bs
                  rw [hpc] at hcl
                  obtain ⟨x, hx⟩ : ∃ x, c.toNat = x := ⟨_, rfl⟩
                  have hx256 : x < 256 := by rw [← hx]; exact c.toNat_lt
                  rw [hx] at hcl hnu
                  have hand := and224 x hx256
                  obtain ⟨y, hy⟩ : ∃ y, x / 32 * 32 = y := ⟨_, rfl⟩
                  rw [hy] at hand
                  have hne : ((y : Int) == 32) = false := by simp; omega
                  have hpn : pp < nb := by have := HNB.out; omega
                  have hpd : decide ((pp : Int) < (nb : Int)) = true := decide_eq_true (by omega)
                  clear hdr hpl hpc hdr2 hcell hx hx256 hy hnu hnup hpos hcr hrl hct hppl
                  go_wp2_with fail
                  clear hix hcl hand hne hpd
                  obtain ⟨S, ⟨S1, S2, k1, k2, k3, k4⟩, k5⟩ := HU5.out
                  obtain ⟨E2, m1, m2, m3⟩ := Ex.dc _ _ _ _ _ _ wr S2 k2
                  have hEnc := encB_dec HENC.out 4096 (.inr HB16.out.1) (by have := HB16.out.1; omega) [(f1, f2)] (by have := HT0.out; omega) (by have := HT0.out; simp; omega) (fun f hf => by rw [List.mem_singleton.1 hf]; have := HFZ.out; simp only; omega) (by simp)
                  obtain ⟨ad, hld⟩ := hEnc
                  rw [HBL.out] at hld
                  have hgd : (Tab.new 4096).gd := ⟨by simp [Tab.new], by simp [Tab.new, sizeF]⟩
                  have HDEC := Bx.mk (ddecode_any m1 hgd (by simp [Tab.new]) (by omega) (fun W hf => (HO5.out.besides m3 hf).bs) (by have := HNB.out; omega : bl.length ≤ 100000))
                  have HLD := Bx.mk hld
                  have HS1 := Bx.mk (show (∀ k, S1 k → k < wr.heap.size) ∧ (∀ k, S1 k → w1.heap.size ≤ k) ∧ (∀ k, E2 k → w1.heap.size ≤ k) ∧ (∀ k, S1 k → ¬ E2 k) from ⟨(Wd.ep _ _ _ _).lt k1, fun k hk => k5 k ((k4 k).2 (.inl hk)), fun k hk => k5 k ((k4 k).2 (.inr (m2 k hk))), fun k hk hs => k3 k hk (m2 k hs)⟩)
                  have HK1 := Bx.mk k1
                  clear k1 k2 k3 k4 k5 m1 m2 m3 hld hgd HU5
                  go_wp2_with fail
                  refine HDEC.out.mono ?_
                  rintro e w6 (⟨hn, _, _⟩ | ⟨s', v6, hn, rfl, hf6, hv6, ht6⟩)
                  · rw [HLD.out] at hn
                    cases hn
                  rw [HLD.out] at hn
                  obtain rfl := Option.some.inj hn
                  simp only at hf6
                  obtain ⟨Sd, xd, sd, fd⟩ := ht6
                  have HE6 := Bx.mk ((Wd.ep _ _ _ _).besides HK1.out fd HS1.out.2.2.2)
                  have HB6 : Bx (Below w1.heap.size w1 w6) := ⟨HB5.out.trans (fd.below HB5.out.size HS1.out.2.2.1)⟩
                  have HSZ6 := Bx.mk fd.size
                  have HF6 := Bx.mk hf6
                  have HV6 := Bx.mk hv6
                  obtain ⟨T2', hT2'⟩ : ∃ T2', (encL T [(f1, f2)]).2 = T2' := ⟨_, rfl⟩
                  have HT2' : Bx (T2'.cap ≤ 65535 ∧ T2'.tot ≤ 1) := ⟨by
                    rw [← hT2']
                    have h1 := encL_tot [(f1, f2)] T
                    have h2 := HT0.out
                    have h3 := HB16.out
                    rw [encL_cap]
                    simp at h1
                    omega⟩
                  rw [hT2'] at HE6
                  have hAB := (Below.refl w6.heap.size w6).alloc (Nat.le_refl _) (.cells #[.string f1, .string f2] 58)
                  have HAB := Bx.mk hAB
                  have HPE := Bx.mk (pencode_any ((Wd.ep _ _ _ _).keep HE6.out hAB) (fun m hm => by cases hm) HT2'.out.1 (fun W hf => (HFS.out w6).besides hf (fun g hg => by
                    simp only [Value.ownBlock, Option.some.injEq] at hg
                    subst hg
                    exact ⟨by simp, fun hs => by have h1 := HS1.out.1 _ hs; have h2 := HSZ6.out; omega⟩)) (by simp) (fun f hf => by rw [List.mem_singleton.1 hf]; have := HFZ.out; simp only; omega) (by have := HFZ.out; simp only [sumF, fsz]; omega) (by have := HT2'.out.2; simp; omega))
                  obtain ⟨hca, hcb⟩ := (HFX.out w6 HB6.out).cells
                  clear hn xd sd fd hf6 hv6 hT2' hAB
                  go_wp2_with fail
                  refine HPE.out.mono ?_
                  rintro e w7 ⟨v7, rfl, ho7, ht7⟩
                  obtain ⟨Se, xe, se, fe⟩ := ht7
                  have HF7 := Bx.mk ((HF6.out.keep HAB.out).besides fe (fun g hg => ⟨Nat.lt_of_lt_of_le (HF6.out.blt (by simp) g hg) HAB.out.size, fun hs => by have h1 := HS1.out.1 g hs; have h2 := HV6.out g hg; omega⟩))
                  have HB7 : Bx (Below w1.heap.size w1 w7) := ⟨HB6.out.trans ((HAB.out.mono HB6.out.size).trans (fe.below (Nat.le_trans HB6.out.size HAB.out.size) HS1.out.2.1))⟩
                  have HO7 := Bx.mk ho7
                  obtain ⟨c7, hc7⟩ : ∃ c7, encB none T2' [(f1, f2)] = c7 := ⟨_, rfl⟩
                  rw [hc7] at HO7
                  have hc7' : c7 = (encF T2' (f1, f2)).1 ++ [] := by rw [← hc7]; rfl
                  have hpos := encF_pos T2' (f1, f2)
                  have hnup := isUp_encF T2' (f1, f2) []
                  rw [← hc7'] at hnup
                  have hlen7 : 0 < c7.length := by rw [hc7', List.length_append]; omega
                  have hlenc := fun ty W => HO7.out.bs.run_len ty W
                  obtain ⟨n7, hn7⟩ : ∃ n7, c7.length = n7 := ⟨_, rfl⟩
                  rw [hn7] at hlenc
                  have hn70 : ((n7 : Int) == 0) = false := by simp; omega
                  obtain ⟨pa, hix', hcell⟩ := HO7.out.bs.at_ 0 hlen7
                  have hix : ∀ W : World, (Instr.indexAt 33 v7 (.int .i64 0)).run Try.prog W = .ok (.pointer (some pa)) W := hix'
                  obtain ⟨x, hx⟩ : ∃ x, c7[0].toNat = x := ⟨_, rfl⟩
                  have hx256 : x < 256 := by rw [← hx]; exact (c7[0]).toNat_lt
                  have hnu : x / 32 ≠ 1 := by
                    intro h
                    refine hnup ?_
                    unfold isUp headN
                    cases hcc : c7 with
                    | nil => rw [hcc] at hlen7; simp at hlen7
                    | cons a r =>
                      simp only [hcc, List.getElem_cons_zero] at hx
                      simp only [List.headD_cons, hx]
                      exact h
                  have hand := and224 x hx256
                  obtain ⟨y, hy⟩ : ∃ y, x / 32 * 32 = y := ⟨_, rfl⟩
                  rw [hy] at hand
                  have hne : ((y : Int) == 32) = false := by simp; omega
                  have hne2 : ((y : Int) != 32) = true := by simp; omega
                  have HCELL : Bx (∀ W, Below w7.heap.size w7 W → W.cell? pa = some (.int .u8 (x : Int))) := ⟨fun W hW => by rw [← hx]; exact hcell W (HO7.out.keep hW).bs⟩
                  obtain ⟨hca, hcb⟩ := (HFX.out w7 HB7.out).cells
                  have hAC := (Below.refl w7.heap.size w7).alloc (Nat.le_refl _) (.cells #[.string f1, .string f2] 58)
                  have HAC := Bx.mk hAC
                  have HFLD := Bx.mk (fields_any v6 _ [(f1, f2)] [(f1, f2)] (w7.alloc (.cells #[.string f1, .string f2] 58)) (HF7.out.keep hAC) (HFS.out w7))
                  have hctt : ((ct : Int) == (ct : Int)) = true := by simp
                  clear ho7 xe se fe hix' hc7 hc7' hpos hnup hlen7 hn7 hcell hx hx256 hnu hy hAC
                  go_wp2_with fail
                  refine HFLD.out.mono ?_
                  rintro e w8 ⟨rfl, b8⟩
                  simp only [decide_true]
                  have HB8 := Bx.mk (HAC.out.trans (b8.mono HAC.out.size))
                  have hcl := HCELL.out w8 HB8.out
                  clear b8 hca hcb
                  go_wp2_with fail
                  go_ret
                  exact ⟨rfl, HB1.out.trans ((HB7.out.trans (HB8.out.mono HB7.out.size)).mono HB1.out.size)⟩
end Go.Proofs.Ythnaapjefedalaa
