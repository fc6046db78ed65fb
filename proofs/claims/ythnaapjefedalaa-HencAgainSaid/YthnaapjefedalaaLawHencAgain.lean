/-
  bifoldlaw7.HencAgain answers true, whatever its arguments: the walk.
-/
import Derived.Test.YthnaapjefedalaaM22
import Derived.Test.YthnaapjefedalaaM21
import Derived.Test.YthnaapjefedalaaM08
import Derived.BigRegion
namespace Go.Proofs.Ythnaapjefedalaa
open Go.RowKit Go.Maps
set_option linter.unusedVariables false

theorem light_ofA {l : List Fd} (h : lightB l = true) : l.length ≤ 70 ∧ sumF l ≤ 3000 := by
  unfold lightB at h
  simpa using h
theorem light_eachA {l : List Fd} (h : sumF l ≤ 3000) : ∀ f ∈ l, f.1.size ≤ 3000 ∧ f.2.size ≤ 3000 := by
  intro f hf
  obtain ⟨i, hi, rfl⟩ := List.getElem_of_mem hf
  have := fsz_le l i hi
  unfold fsz at this
  omega
theorem and_high (x : Nat) (h1 : 128 ≤ x) (h2 : x < 256) : bits .and .u8 (x : Int) 128 = 128 := by
  have key : ∀ y : Fin 256, 128 ≤ y.val → y.val &&& 128 = 128 := by decide +kernel
  have := key ⟨x, h2⟩ h1
  rw [show (128 : Int) = ((128 : Nat) : Int) from rfl, u8_and_nat _ _ h2 (by omega)]
  simp only at this
  rw [this]

set_option maxRecDepth 100000 in
set_option maxHeartbeats 4000000 in
theorem hencAgain_walk (va : Value) (l : List Fd) (w : World) (hv : Fs w va l) (hs : Small l) :
    Calls Try.prog 6 #[va] w fun e w' => e = .returned (.bool true) ∧ Below w.heap.size w w' := by
  have HV := Bx.mk hv
  have HSM := Bx.mk hs
  have hlenv := fun ty W => hv.run_len ty W
  have hlm := hv.len
  simp only [maxLen] at hlm
  obtain ⟨n, hn⟩ : ∃ n, l.length = n := ⟨_, rfl⟩
  rw [hn] at hlenv hlm
  have HN := Bx.mk hn
  clear hv hs hn
  by_cases hbig : 10 < n
  · have hbb : decide (10 < (n : Int)) = true := decide_eq_true (by omega)
    clear hbig hlm
    go_enter Try.func6, Try.ntmps6
    go_wp2_with fail
    refine (eknown_any _).mono ?_
    rintro e w1 ⟨rfl, b1⟩
    go_wp2_with fail
    go_ret
    exact ⟨rfl, b1⟩
  have hbb : decide (10 < (n : Int)) = false := decide_eq_false (by omega)
  obtain ⟨lb, hlb⟩ : ∃ lb, lightB l = lb := ⟨_, rfl⟩
  have HLB := Bx.mk hlb
  clear hlb
  have hn10 : n ≤ 10 := by omega
  clear hbig hlm
  cases lb with
  | false =>
    go_enter Try.func6, Try.ntmps6
    go_wp2_with fail
    refine (eknown_any _).mono ?_
    rintro e w1 ⟨rfl, b1⟩
    have HB1 := Bx.mk b1
    clear b1
    go_wp2_with fail
    refine (light_any va l w1 (HV.out.keep HB1.out) HSM.out).mono ?_
    rintro e w2 ⟨rfl, b2⟩
    rw [HLB.out]
    go_wp2_with fail
    go_ret
    exact ⟨rfl, HB1.out.trans (b2.mono HB1.out.size)⟩
  | true =>
    have HLI := Bx.mk (light_ofA HLB.out)
    have HEA := Bx.mk (light_eachA HLI.out.2)
    go_enter Try.func6, Try.ntmps6
    go_wp2_with fail
    refine (eknown_any _).mono ?_
    rintro e w1 ⟨rfl, b1⟩
    have HB1 := Bx.mk b1
    clear b1
    go_wp2_with fail
    refine (light_any va l w1 (HV.out.keep HB1.out) HSM.out).mono ?_
    rintro e w2 ⟨rfl, b2⟩
    rw [HLB.out]
    have HB2 := Bx.mk (HB1.out.trans (b2.mono HB1.out.size))
    clear b2 hbb
    go_wp2_with fail
    go_loopg [3, 4] n (fun g s3 s4 wx => ∃ k : Nat, k + g = n ∧ s4 = .int .i64 k ∧ s3 = .int .i64 (sizeF (l.take k) : Int) ∧ Bx (∀ f ∈ l.take k, secN f.1 = false) ∧ Bx (Below w.heap.size w wx))
    case atStart => exact ⟨0, by omega, rfl, rfl, ⟨fun f hf => by simp at hf⟩, HB2⟩
    case round =>
      obtain ⟨k, hkg, rfl, rfl, HQ, HB⟩ := hrel
      cases gk with
      | succ g =>
        have hk : k < l.length := by have := HN.out; omega
        have hkn : decide ((k : Int) < (n : Int)) = true := decide_eq_true (by omega)
        obtain ⟨b, o, hix, hcs⟩ := HV.out.at_ k hk
        obtain ⟨hc1, hc2⟩ := hcs wr (HV.out.keep HB.out)
        have hst := sizeF_take_succ l k hk
        have hsl : sizeF (l.take (k + 1)) ≤ 5300 := by
          rw [sizeF_sum]
          have h1 := sumF_take_le l (k + 1)
          have h2 := HLI.out
          simp only [List.length_take]
          omega
        have HST := Bx.mk hst
        have HQS : Bx (secN l[k].1 = false → ∀ f ∈ l.take (k + 1), secN f.1 = false) := ⟨fun h f hf => by
          rw [List.take_succ_eq_append_getElem hk] at hf
          rcases List.mem_append.1 hf with hf | hf
          · exact HQ.out f hf
          · rw [List.mem_singleton.1 hf]; exact h⟩
        unfold fsz at hst
        obtain ⟨f1, hf1⟩ : ∃ f1, l[k].1 = f1 := ⟨_, rfl⟩
        obtain ⟨f2, hf2⟩ : ∃ f2, l[k].2 = f2 := ⟨_, rfl⟩
        rw [hf1] at hc1 hst HQS
        rw [hf2] at hc2 hst
        have HFF := Bx.mk (show l[k].1 = f1 ∧ l[k].2 = f2 from ⟨hf1, hf2⟩)
        obtain ⟨sz, hsz⟩ : ∃ sz, sizeF (l.take k) = sz := ⟨_, rfl⟩
        obtain ⟨s2, hs2⟩ : ∃ s2, sizeF (l.take (k + 1)) = s2 := ⟨_, rfl⟩
        rw [hsz, hs2] at hst
        rw [hs2] at hsl
        rw [hsz]
        have HS2 := Bx.mk hs2
        clear hcs hf1 hf2 hsz hs2
        go_wp2_with fail
        have w1 : IntKind.i64.wrap ((f1.size : Int) + (f2.size : Int)) = (f1.size : Int) + (f2.size : Int) := by simp only [IntKind.wrap_i64]; omega
        have w2 : IntKind.i64.wrap ((f1.size : Int) + (f2.size : Int) + 32) = (f1.size : Int) + (f2.size : Int) + 32 := by simp only [IntKind.wrap_i64]; omega
        have w3 : IntKind.i64.wrap ((sz : Int) + ((f1.size : Int) + (f2.size : Int) + 32)) = (s2 : Int) := by simp only [IntKind.wrap_i64]; omega
        go_region
        clear w1 w2 w3
        obtain ⟨sc, hsc⟩ : ∃ sc, secN f1 = sc := ⟨_, rfl⟩
        have HSC := Bx.mk hsc
        have hd1 : wr.drew.cell? ⟨b, o, none⟩ = some (.string f1) := hc1
        clear hsc hc2
        go_wp2_with fail
        refine (refSecret_any f1 _).mono ?_
        rintro e w4 ⟨rfl, rfl⟩
        rw [HSC.out]
        cases sc with
        | true =>
          go_wp2_with fail
          go_ret
          exact ⟨rfl, HB.out.drew⟩
        | false =>
          go_wp2_with fail
          go_roundg g
          case measure => omega
          case rel => exact ⟨k + 1, by omega, by go_num, by rw [HS2.out]; congr 1; omega, ⟨HQS.out HSC.out⟩, ⟨HB.out.drew⟩⟩
      | zero =>
        obtain rfl : k = n := by omega
        have htl : l.take k = l := by rw [← HN.out, List.take_length]
        rw [htl] at HQ
        rw [htl]
        obtain ⟨sz, hsz⟩ : ∃ sz, sizeF l = sz := ⟨_, rfl⟩
        rw [hsz]
        have HSZ := Bx.mk hsz
        clear htl hsz
        by_cases hgt : 2048 < sz
        · have hd : decide (2048 < (sz : Int)) = true := decide_eq_true (by omega)
          have hd' : decide (2048 < sz) = true := decide_eq_true hgt
          clear hgt
          go_wp2_with fail
          go_ret
          exact ⟨rfl, HB.out⟩
        have hd : decide (2048 < (sz : Int)) = false := decide_eq_false (by omega)
        have hd' : decide (2048 < sz) = false := decide_eq_false hgt
        have HKEPT : Bx (Kept (encL (Tab.new 4096) l).2 l) := ⟨by
          have h := Kept.list l Kept.new HQ.out (by rw [List.nil_append, HSZ.out]; omega)
          rwa [List.nil_append] at h⟩
        obtain ⟨is, i1, i2, i3, i4⟩ := again_list HKEPT.out (by have := HN.out; omega) l fun f hf => hf
        have HIS := Bx.mk (show is.length = l.length ∧ (∀ i ∈ is, 1 ≤ i ∧ i ≤ 81) from ⟨i1, i2⟩)
        have HENC2 : Bx (encB none (encL (Tab.new 4096) l).2 l = is.map (preFirst 128 7)) := ⟨by unfold encB upsW toldN; simp [i3]⟩
        have HENC1 : Bx (l.length ≤ (encB none (Tab.new 4096) l).length) := ⟨by unfold encB upsW toldN; simpa using encL_len (Tab.new 4096) l⟩
        have HTOT : Bx ((encL (Tab.new 4096) l).2.tot + l.length ≤ 1000000) := ⟨by have h1 := encL_tot l (Tab.new 4096); have h2 : (Tab.new 4096).tot = 0 := rfl; have := HN.out; omega⟩
        have HCP : Bx ((encL (Tab.new 4096) l).2.cap ≤ 65535) := ⟨by rw [encL_cap]; simp [Tab.new]⟩
        obtain ⟨A1, hA1⟩ : ∃ A1, encB none (Tab.new 4096) l = A1 := ⟨_, rfl⟩
        obtain ⟨T1, hT1⟩ : ∃ T1, (encL (Tab.new 4096) l).2 = T1 := ⟨_, rfl⟩
        obtain ⟨bs, hbs⟩ : ∃ bs, is.map (preFirst 128 7) = bs := ⟨_, rfl⟩
        have HBS : Bx (bs.length = k ∧ ∀ (j : Nat) (hj : j < bs.length), 128 ≤ bs[j].toNat ∧ bs[j].toNat ≤ 209) := ⟨by
          subst hbs
          refine ⟨by rw [List.length_map, i1, HN.out], fun j hj => ?_⟩
          rw [List.getElem_map]
          have hjl : j < is.length := by simpa using hj
          have h := i2 (is[j]'hjl) (List.getElem_mem _)
          have e := preFirst_ix _ h.2
          generalize (preFirst 128 7 _).toNat = y at e ⊢
          omega⟩
        rw [hA1] at HENC1
        rw [hT1, hbs] at HENC2
        rw [hT1] at HTOT HCP
        have HT1 := Bx.mk (show encB none (Tab.new 4096) l = A1 ∧ (encL (Tab.new 4096) l).2 = T1 from ⟨hA1, hT1⟩)
        clear hgt i1 i2 i3 i4 hA1 hT1 hbs HQ HKEPT
        go_wp2_with fail
        refine (enc_new 4096 wr).mono ?_
        rintro e w3 ⟨q, p, rfl, hu, b3⟩
        rw [show ((clampN 4096 : Nat) : Int) = 4096 from rfl] at hu
        have HU := Bx.mk hu
        have HB3 := Bx.mk b3
        clear hu b3
        go_wp2_with fail
        refine (enc_enc HU.out HB3.out.size (fun m hm => by cases hm) (by simp [Tab.new]) (fun W hW => HV.out.keep (HB.out.trans ((HB3.out.trans hW).mono HB.out.size))) (by have := HN.out; omega) (fun f hf => by have := HEA.out f hf; omega) (by have := HLI.out; omega) (by have := HN.out; simp [Tab.new]; omega)).mono ?_
        rintro e w4 ⟨v4, ⟨rfl, ho4⟩, hu4, b4, r4⟩
        rw [HT1.out.1] at ho4
        rw [HT1.out.2] at hu4
        have hlen4 := fun ty W => ho4.bs.run_len ty W
        have HU4 := Bx.mk hu4
        have HB4 := Bx.mk (HB3.out.trans b4)
        clear ho4 hu4 b4 r4
        go_wp2_with fail
        refine (enc_enc HU4.out HB4.out.size (fun m hm => by cases hm) HCP.out (fun W hW => HV.out.keep (HB.out.trans ((HB4.out.trans hW).mono HB.out.size))) (by have := HN.out; omega) (fun f hf => by have := HEA.out f hf; omega) (by have := HLI.out; omega) HTOT.out).mono ?_
        rintro e w5 ⟨v5, ⟨rfl, ho5⟩, hu5, b5, r5⟩
        rw [HENC2.out] at ho5
        have hlen5 := fun ty W => ho5.bs.run_len ty W
        rw [HBS.out.1] at hlen5
        have HO5 := Bx.mk ho5.bs
        have HB5 := Bx.mk (HB4.out.trans b5)
        obtain ⟨na, hna⟩ : ∃ na, A1.length = na := ⟨_, rfl⟩
        rw [hna] at hlen4
        have HNA : Bx (k ≤ na) := ⟨by have := HENC1.out; rw [hna, HN.out] at this; exact this⟩
        clear ho5 hu5 b5 r5 hna
        go_wp2_with fail
        go_loopg [8, 9] k (fun g s8 s9 wx => ∃ j : Nat, j + g = k ∧ s8 = .int .i64 j ∧ s9 = .int .i64 j ∧ Bx (Below w5.heap.size w5 wx))
        case atStart => exact ⟨0, by omega, rfl, rfl, ⟨Below.refl _ _⟩⟩
        case round =>
          obtain ⟨j, hjg, rfl, rfl, HW⟩ := hrel
          cases gk with
          | zero =>
            obtain rfl : j = k := by omega
            have hle : decide (j ≤ na) = true := decide_eq_true HNA.out
            go_wp2_with fail
            go_ret
            exact ⟨rfl, HB.out.trans ((HB5.out.trans (HW.out.mono HB5.out.size)).mono HB.out.size)⟩
          | succ g =>
            have hj : j < bs.length := by have := HBS.out.1; omega
            have hjd : decide ((j : Int) < (k : Int)) = true := decide_eq_true (by omega)
            obtain ⟨pa, hix, hpc⟩ := HO5.out.at_ j hj
            have hpc2 := hpc wr (Rd.keep HO5.out HW.out)
            obtain ⟨x, hx⟩ : ∃ x, bs[j].toNat = x := ⟨_, rfl⟩
            rw [hx] at hpc2
            have hxr := HBS.out.2 j hj
            rw [hx] at hxr
            have hand := and_high x hxr.1 (by omega)
            have hne : ((x : Int) == 255) = false := by simp; omega
            have hne' : (x == 255) = false := by simp; omega
            clear hpc hx hj
            go_wp2_with fail
            go_roundg g
            case measure => omega
            case rel => exact ⟨j + 1, by omega, by go_num, by go_num, HW⟩
end Go.Proofs.Ythnaapjefedalaa
