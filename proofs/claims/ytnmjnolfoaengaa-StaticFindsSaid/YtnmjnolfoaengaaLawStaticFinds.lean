/-
  bifoldlaw4.StaticFinds answers true, whatever its arguments: the walk.
-/
import Derived.Test.YtnmjnolfoaengaaStL
import Derived.Test.YtnmjnolfoaengaaStK
import Derived.Test.YtnmjnolfoaengaaStC
import Derived.Test.YtnmjnolfoaengaaStD
import Derived.Deep.RegionHeld
import Derived.Deep.Cut
import Derived.Deep.CutRange
import Derived.Deep.CutBlock
namespace Go.Proofs.Ytnmjnolfoaengaa
open Go.RowKit
set_option linter.unusedVariables false

theorem sized6 {n1 n2 a2 x1 x2 y1 y2 : ByteArray} {p q : Nat} (h1 : n1.size ≤ 140737488351232) (h2 : n2.size ≤ 140737488351232) (h3 : a2.size ≤ 140737488351232)
    (hx : ∃ h : p < T2.length, T2[p] = (x1, x2)) (hy : ∃ h : q < T3.length, T3[q] = (y1, y2)) : ∀ f ∈ [(n1, n2), (x1, x2), (y1, y2), (x1, a2), (y1, a2), (n1, x2)], Sized f := by
  obtain ⟨hp, hx⟩ := hx
  obtain ⟨hq, hy⟩ := hy
  have sx := t2_size _ (List.getElem_mem hp)
  have sy := t3_size _ (List.getElem_mem hq)
  rw [hx] at sx
  rw [hy] at sy
  simp only at sx sy
  intro f hf
  simp only [List.mem_cons, List.not_mem_nil, or_false] at hf
  unfold Sized maxLen
  rcases hf with rfl | rfl | rfl | rfl | rfl | rfl <;> simp only <;> omega

theorem Fb.drew {t : TypeId} {w : World} {g : Nat} {f : Fd} (h : Fb t w g f) : Fb t w.drew g f := h

set_option maxRecDepth 100000 in
set_option maxHeartbeats 4000000 in
theorem staticFinds_walk (a0 : Fd) (a1 : Int) (a2 : ByteArray) (w : World) (w0 : a0.1.size ≤ 140737488351232 ∧ a0.2.size ≤ 140737488351232) (w1 : (Lit.int .u8 a1).wf = true) (w2 : a2.size ≤ 140737488351232) :
    Calls Try.prog 4 #[.agg #[.string a0.1, .string a0.2], .int .u8 a1, .string a2] w fun e w' => e = .returned (.bool true) ∧ Below w.heap.size w w' := by
  obtain ⟨i, rfl, hi⟩ := wf_u8n w1
  obtain ⟨n1, n2⟩ := a0
  obtain ⟨h1, h2⟩ := w0
  clear w1
  simp only at h1 h2
  have HI := Bx.mk hi
  have HB0 := Bx.mk ((Below.refl w.heap.size w).alloc (Nat.le_refl _) (.cells #[.string n1, .string n2] 26))
  have HF0 := Bx.mk (Fb.new 26 w (n1, n2))
  go_enter Try.func4, Try.ntmps4
  go_wp2_with fail
  refine (known_any _).mono ?_
  rintro e w1 ⟨rfl, b1⟩
  have HB1 := Bx.mk (HB0.out.trans (b1.mono HB0.out.size))
  have HF1 := Bx.mk (HF0.out.keep b1)
  obtain ⟨hc1, hc2⟩ := HF1.out.cells
  clear b1 HF0
  obtain ⟨s, hs⟩ : ∃ s : Nat, n1.size + n2.size = s := ⟨_, rfl⟩
  obtain ⟨t, ht⟩ : ∃ t : Nat, s + a2.size = t := ⟨_, rfl⟩
  have hz1 : (n1.size : Int) + (n2.size : Int) = (s : Int) := by omega
  have hw1 : IntKind.i64.wrap (s : Int) = (s : Int) := by rw [IntKind.wrap_i64]; omega
  have hz2 : (s : Int) + (a2.size : Int) = (t : Int) := by omega
  have hw2 : IntKind.i64.wrap (t : Int) = (t : Int) := by rw [IntKind.wrap_i64]; omega
  have HST := Bx.mk (And.intro hs ht)
  have H1 := Bx.mk h1
  have H2 := Bx.mk h2
  have H3 := Bx.mk w2
  clear h1 h2 w2 hi hs ht
  by_cases hbig : 200 < t
  · have hbz : decide ((200 : Int) < (t : Int)) = true := by simp; omega
    clear hbig
    go_wp2_with fail
    go_ret
    exact ⟨rfl, HB1.out⟩
  · have hbz : decide ((200 : Int) < (t : Int)) = false := by simp; omega
    have HBG := Bx.mk hbig
    clear hbig
    go_wp2_with fail
    refine (h2s_any _).mono ?_
    rintro e w2 ⟨va, rfl, hva, b2⟩
    have HA2 := Bx.mk hva
    have HB2 := Bx.mk (HB1.out.trans (b2.mono HB1.out.size))
    have HF2 := Bx.mk (HF1.out.keep b2)
    clear hva b2 HF1 hw1 hw2 hz1 hz2 hc1 hc2
    go_wp2_with fail
    refine (h3s_any _).mono ?_
    rintro e w3 ⟨vb, rfl, hvb, b3⟩
    have HA := Bx.mk (HA2.out.keep b3)
    have HBv := Bx.mk hvb
    have HB3 := Bx.mk (HB2.out.trans (b3.mono HB2.out.size))
    have HF3 := Bx.mk (HF2.out.keep b3)
    have hlena := fun ty W => HA.out.run_len ty W
    have hlenb := fun ty W => HBv.out.run_len ty W
    rw [t2_len] at hlena
    rw [t3_len] at hlenb
    clear hvb b3 HF2 HA2
    obtain ⟨p, hp⟩ : ∃ p : Nat, i % 61 = p := ⟨_, rfl⟩
    obtain ⟨q, hq⟩ : ∃ q : Nat, i % 99 = q := ⟨_, rfl⟩
    have hm1 : (i : Int) % 61 = (p : Int) := by omega
    have hm2 : (i : Int) % 99 = (q : Int) := by omega
    have hwi : IntKind.i64.wrap (i : Int) = (i : Int) := by have := HI.out; rw [IntKind.wrap_i64]; omega
    have hpl : p < T2.length := by rw [t2_len]; omega
    have hql : q < T3.length := by rw [t3_len]; omega
    obtain ⟨o1, o2, hix1, hat1⟩ := HA.out.at_ p hpl
    obtain ⟨o3, o4, hix3, hat3⟩ := HBv.out.at_ q hql
    obtain ⟨hc1, hc2⟩ := hat1 _ HA.out
    obtain ⟨hd1, hd2⟩ := hat3 _ HBv.out
    obtain ⟨⟨x1, x2⟩, hx⟩ : ∃ f, T2[p] = f := ⟨_, rfl⟩
    obtain ⟨⟨y1, y2⟩, hy⟩ : ∃ f, T3[q] = f := ⟨_, rfl⟩
    rw [hx] at hc1 hc2
    rw [hy] at hd1 hd2
    have HX : Bx (∃ h : p < T2.length, T2[p] = (x1, x2)) := ⟨hpl, hx⟩
    have HY : Bx (∃ h : q < T3.length, T3[q] = (y1, y2)) := ⟨hql, hy⟩
    have HBZ0 : Below w3.heap.size w3 (w3.alloc (.cells #[.string ⟨#[]⟩, .string ⟨#[]⟩] 26)) := ((Below.refl w3.heap.size w3).alloc (Nat.le_refl _) (.cells #[.string ⟨#[]⟩, .string ⟨#[]⟩] 26))
    obtain ⟨he0a, he0b⟩ := hat1 _ (HA.out.keep HBZ0)
    obtain ⟨hf0a, hf0b⟩ := hat3 _ (HBv.out.keep HBZ0)
    rw [hx] at he0a he0b
    rw [hy] at hf0a hf0b
    clear HBZ0
    have HBZ1 : Below w3.heap.size w3 ((w3.alloc (.cells #[.string ⟨#[]⟩, .string ⟨#[]⟩] 26)).alloc (.cells #[.string ⟨#[]⟩, .string ⟨#[]⟩] 26)) := (((Below.refl w3.heap.size w3).alloc (Nat.le_refl _) (.cells #[.string ⟨#[]⟩, .string ⟨#[]⟩] 26)).alloc (by simp) (.cells #[.string ⟨#[]⟩, .string ⟨#[]⟩] 26))
    obtain ⟨he1a, he1b⟩ := hat1 _ (HA.out.keep HBZ1)
    obtain ⟨hf1a, hf1b⟩ := hat3 _ (HBv.out.keep HBZ1)
    rw [hx] at he1a he1b
    rw [hy] at hf1a hf1b
    clear HBZ1
    have HBZ2 : Below w3.heap.size w3 ((w3.alloc (.cells #[.string ⟨#[]⟩, .string ⟨#[]⟩] 26)).alloc (.cells #[.string x1, .string x2] 26)) := (((Below.refl w3.heap.size w3).alloc (Nat.le_refl _) (.cells #[.string ⟨#[]⟩, .string ⟨#[]⟩] 26)).alloc (by simp) (.cells #[.string x1, .string x2] 26))
    obtain ⟨he2a, he2b⟩ := hat1 _ (HA.out.keep HBZ2)
    obtain ⟨hf2a, hf2b⟩ := hat3 _ (HBv.out.keep HBZ2)
    rw [hx] at he2a he2b
    rw [hy] at hf2a hf2b
    clear HBZ2
    have HBZ3 : Below w3.heap.size w3 ((w3.alloc (.cells #[.string x1, .string x2] 26)).alloc (.cells #[.string ⟨#[]⟩, .string ⟨#[]⟩] 26)) := (((Below.refl w3.heap.size w3).alloc (Nat.le_refl _) (.cells #[.string x1, .string x2] 26)).alloc (by simp) (.cells #[.string ⟨#[]⟩, .string ⟨#[]⟩] 26))
    obtain ⟨he3a, he3b⟩ := hat1 _ (HA.out.keep HBZ3)
    obtain ⟨hf3a, hf3b⟩ := hat3 _ (HBv.out.keep HBZ3)
    rw [hx] at he3a he3b
    rw [hy] at hf3a hf3b
    clear HBZ3
    have HBZ4 : Below w3.heap.size w3 ((w3.alloc (.cells #[.string ⟨#[]⟩, .string ⟨#[]⟩] 26)).alloc (.cells #[.string y1, .string y2] 26)) := (((Below.refl w3.heap.size w3).alloc (Nat.le_refl _) (.cells #[.string ⟨#[]⟩, .string ⟨#[]⟩] 26)).alloc (by simp) (.cells #[.string y1, .string y2] 26))
    obtain ⟨he4a, he4b⟩ := hat1 _ (HA.out.keep HBZ4)
    obtain ⟨hf4a, hf4b⟩ := hat3 _ (HBv.out.keep HBZ4)
    rw [hx] at he4a he4b
    rw [hy] at hf4a hf4b
    clear HBZ4
    have HBZ5 : Below w3.heap.size w3 ((w3.alloc (.cells #[.string y1, .string y2] 26)).alloc (.cells #[.string ⟨#[]⟩, .string ⟨#[]⟩] 26)) := (((Below.refl w3.heap.size w3).alloc (Nat.le_refl _) (.cells #[.string y1, .string y2] 26)).alloc (by simp) (.cells #[.string ⟨#[]⟩, .string ⟨#[]⟩] 26))
    obtain ⟨he5a, he5b⟩ := hat1 _ (HA.out.keep HBZ5)
    obtain ⟨hf5a, hf5b⟩ := hat3 _ (HBv.out.keep HBZ5)
    rw [hx] at he5a he5b
    rw [hy] at hf5a hf5b
    clear HBZ5
    have HBZ6 : Below w3.heap.size w3 (w3.alloc (.cells #[.string x1, .string x2] 26)) := ((Below.refl w3.heap.size w3).alloc (Nat.le_refl _) (.cells #[.string x1, .string x2] 26))
    obtain ⟨he6a, he6b⟩ := hat1 _ (HA.out.keep HBZ6)
    obtain ⟨hf6a, hf6b⟩ := hat3 _ (HBv.out.keep HBZ6)
    rw [hx] at he6a he6b
    rw [hy] at hf6a hf6b
    clear HBZ6
    have HBZ7 : Below w3.heap.size w3 (w3.alloc (.cells #[.string y1, .string y2] 26)) := ((Below.refl w3.heap.size w3).alloc (Nat.le_refl _) (.cells #[.string y1, .string y2] 26))
    obtain ⟨he7a, he7b⟩ := hat1 _ (HA.out.keep HBZ7)
    obtain ⟨hf7a, hf7b⟩ := hat3 _ (HBv.out.keep HBZ7)
    rw [hx] at he7a he7b
    rw [hy] at hf7a hf7b
    clear HBZ7
    clear hp hq hpl hql hat1 hat3 hx hy
    go_upto_region 6 with fail
    go_cut [9, 10] from 34 to 49 (fun s9 s10 wx => ∃ g9 g10 : Nat, s9 = .pointer (some ⟨g9, 0, none⟩) ∧ s10 = .pointer (some ⟨g10, 0, none⟩) ∧ Bx (Fb 26 wx g9 (x1, x2)) ∧ Bx (Fb 26 wx g10 (y1, y2)) ∧ Bx (Below w3.heap.size w3 wx))
    case first =>
      go_region
      all_goals go_wp2_with fail
      all_goals go_meet
      all_goals first
        | exact ⟨_, _, rfl, rfl, ⟨Fb.drew ((Fb.new 26 w3 (x1, x2)).alloc (.cells #[.string y1, .string y2] 26))⟩, ⟨Fb.drew (Fb.newg 26 (w3.alloc (.cells #[.string x1, .string x2] 26)) (w3.heap.size + 1) (by simp) (y1, y2))⟩, ⟨(((Below.refl w3.heap.size w3).alloc (Nat.le_refl _) (.cells #[.string x1, .string x2] 26)).alloc (by simp) (.cells #[.string y1, .string y2] 26)).drew⟩⟩
        | exact ⟨_, _, rfl, rfl, ⟨Fb.drew (Fb.newg 26 (w3.alloc (.cells #[.string y1, .string y2] 26)) (w3.heap.size + 1) (by simp) (x1, x2))⟩, ⟨Fb.drew ((Fb.new 26 w3 (y1, y2)).alloc (.cells #[.string x1, .string x2] 26))⟩, ⟨(((Below.refl w3.heap.size w3).alloc (Nat.le_refl _) (.cells #[.string y1, .string y2] 26)).alloc (by simp) (.cells #[.string x1, .string x2] 26)).drew⟩⟩
    case rest =>
      clear he0a he0b he1a he1b he2a he2b he3a he3b he4a he4b he5a he5b he6a he6b he7a he7b hf0a hf0b hf1a hf1b hf2a hf2b hf3a hf3b hf4a hf4b hf5a hf5b hf6a hf6b hf7a hf7b hc1 hc2 hd1 hd2 hix1 hix3 hlena hlenb hm1 hm2 hwi hbz
      obtain ⟨g9, g10, rfl, rfl, H9, H10, HBw⟩ := hcut
      obtain ⟨h9a, h9b⟩ := H9.out.cells
      obtain ⟨h10a, h10b⟩ := H10.out.cells
      have HA4 := Bx.mk (HA.out.keep HBw.out)
      have HBv4 := Bx.mk (HBv.out.keep HBw.out)
      obtain ⟨h3a, h3b⟩ : wc.cell? ⟨w.heap.size, 0, none⟩ = some (.string n1) ∧ wc.cell? ⟨w.heap.size, 1, none⟩ = some (.string n2) := (HF3.out.keep HBw.out).cells
      have HB4 := Bx.mk (HB3.out.trans (HBw.out.mono HB3.out.size))
      go_wp2_with fail
      obtain ⟨L6, hLd⟩ : ∃ L : List Fd, [(n1, n2), (x1, x2), (y1, y2), (x1, a2), (y1, a2), (n1, x2)] = L := ⟨_, rfl⟩
      have hL6 : L6.length = 6 := by rw [← hLd]; rfl
      have hF6 : Fs (wc.alloc (.cells #[.string n1, .string n2, .string x1, .string x2, .string y1, .string y2, .string x1, .string a2, .string y1, .string a2, .string n1, .string x2] 26)) (.slice (some ⟨wc.heap.size, 0, none⟩) 6 6) L6 := Fs.lit wc _ L6 6 hL6 (by simp [maxLen]) _ (by rw [← hLd]; rfl)
      have HS6 : Bx (∀ f ∈ L6, Sized f) := ⟨by rw [← hLd]; exact sized6 H1.out H2.out H3.out HX.out HY.out⟩
      have HA5 := Bx.mk (HA4.out.keep ((Below.refl _ _).alloc (Nat.le_refl _) (.cells #[.string n1, .string n2, .string x1, .string x2, .string y1, .string y2, .string x1, .string a2, .string y1, .string a2, .string n1, .string x2] 26)))
      have HBv5 := Bx.mk (HBv4.out.keep ((Below.refl _ _).alloc (Nat.le_refl _) (.cells #[.string n1, .string n2, .string x1, .string x2, .string y1, .string y2, .string x1, .string a2, .string y1, .string a2, .string n1, .string x2] 26)))
      have HB5 := Bx.mk (HB4.out.alloc HB4.out.size (.cells #[.string n1, .string n2, .string x1, .string x2, .string y1, .string y2, .string x1, .string a2, .string y1, .string a2, .string n1, .string x2] 26))
      clear hLd h3a h3b h9a h9b h10a h10b HA4 HBv4
      generalize hw5 : wc.alloc (.cells #[.string n1, .string n2, .string x1, .string x2, .string y1, .string y2, .string x1, .string a2, .string y1, .string a2, .string n1, .string x2] 26) = w5 at *
      obtain ⟨v6, hv6⟩ : ∃ v, Value.slice (some ⟨wc.heap.size, 0, none⟩) 6 6 = v := ⟨_, rfl⟩
      rw [hv6]
      rw [hv6] at hF6
      have HL5 := Bx.mk hF6
      clear hF6 hv6 hw5
      go_loopg [68] 6 (fun n s68 wx => ∃ k : Nat, k + n = 6 ∧ s68 = .int .i64 k ∧ Bx (Below w5.heap.size w5 wx))
      case atStart => exact ⟨0, by omega, rfl, ⟨Below.refl _ _⟩⟩
      case round =>
        obtain ⟨k, hkg, rfl, HB⟩ := hrel
        cases gk with
        | zero =>
          obtain rfl : k = 6 := by omega
          go_wp2
          go_ret
          exact ⟨rfl, HB5.out.trans (HB.out.mono HB5.out.size)⟩
        | succ n =>
          have hk : k < 6 := by omega
          have HKG := Bx.mk hkg
          obtain ⟨b, o, hix, hat⟩ := (HL5.out.keep HB.out).at_ k (by rw [hL6]; exact hk)
          obtain ⟨hc1, hc2⟩ := hat wr (HL5.out.keep HB.out)
          have HSG0 := HS6.out _ (List.getElem_mem (show k < L6.length by rw [hL6]; exact hk))
          obtain ⟨⟨g1, g2⟩, hg⟩ : ∃ g, L6[k]'(by rw [hL6]; exact hk) = g := ⟨_, rfl⟩
          rw [hg] at hc1 hc2 HSG0
          have HSG := Bx.mk HSG0
          clear hat hg HSG0
          have HFr := Bx.mk (Fb.new 26 wr (g1, g2))
          have HVr := Bx.mk ((HA5.out.keep HB.out).keep ((Below.refl _ _).alloc (Nat.le_refl _) (.cells #[.string g1, .string g2] 26)))
          have HBr := Bx.mk (HB.out.alloc HB.out.size (.cells #[.string g1, .string g2] 26))
          go_wp2_with fail
          refine (findH2_any (g1, g2) _ HSG.out).mono ?_
          rintro e wa ⟨rfl, ca⟩
          have HFa := Bx.mk (HFr.out.keep ca)
          have HVa := Bx.mk (HVr.out.keep ca)
          have HWa := Bx.mk (((HBv5.out.keep HB.out).keep ((Below.refl _ _).alloc (Nat.le_refl _) (.cells #[.string g1, .string g2] 26))).keep ca)
          have HBa := Bx.mk (HBr.out.trans (ca.mono HBr.out.size))
          obtain ⟨hga, hgb⟩ := HFa.out.cells
          clear ca HFr HVr HBr
          rcases findS_lt T2 (g1, g2) with ⟨m2, q2, hm2, h2⟩ | h2
          · obtain ⟨k2, hk2⟩ : ∃ k2, 1 + m2 = k2 := ⟨_, rfl⟩
            have HP := Bx.mk (show findP T2 1 (g1, g2) = .tuple #[.int .u64 (k2 : Int), .bool true, .bool q2] by unfold findP; rw [h2, ← hk2]; simp)
            have HV := Bx.mk (show findV T2 (g1, g2) = .tuple #[.int .i64 (m2 : Int), .bool true, .bool q2] by unfold findV; rw [h2])
            have hs2 : (m2 : Int) + 1 = (k2 : Int) := by omega
            have hw2i : IntKind.i64.wrap (k2 : Int) = (k2 : Int) := by rw [t2_len] at hm2; rw [IntKind.wrap_i64]; omega
            have hw2 : IntKind.u64.wrap (k2 : Int) = (k2 : Int) := by rw [t2_len] at hm2; simp [IntKind.wrap, IntKind.signed, IntKind.bits]; omega
            rw [HP.out]
            clear h2 hm2 HP hk2
            go_wp2_with fail
            refine (findIn_any va T2 (g1, g2) _ HVa.out (by rw [t2_len]; omega) t2_nodup).mono ?_
            rintro e wb ⟨rfl, cb⟩
            rw [HV.out]
            have HFb := Bx.mk (HFa.out.keep cb)
            have HVb := Bx.mk (HWa.out.keep cb)
            have HBb := Bx.mk (HBa.out.trans (cb.mono HBa.out.size))
            obtain ⟨hgc, hgd⟩ := HFb.out.cells
            clear cb HV hga hgb
            cases q2
            · go_wp2_with fail
              refine (findH3_any (g1, g2) _ HSG.out).mono ?_
              rintro e wc ⟨rfl, cc⟩
              have HFc := Bx.mk (HFb.out.keep cc)
              have HVc := Bx.mk (HVb.out.keep cc)
              have HBc := Bx.mk (HBb.out.trans (cc.mono HBb.out.size))
              obtain ⟨hga, hgb⟩ := HFc.out.cells
              clear cc
              rcases findS_lt T3 (g1, g2) with ⟨m3, q3, hm3, h3⟩ | h3
              · have HP := Bx.mk (show findP T3 0 (g1, g2) = .tuple #[.int .u64 (m3 : Int), .bool true, .bool q3] by unfold findP; rw [h3]; simp)
                have HV := Bx.mk (show findV T3 (g1, g2) = .tuple #[.int .i64 (m3 : Int), .bool true, .bool q3] by unfold findV; rw [h3])
                have hw3 : IntKind.u64.wrap (m3 : Int) = (m3 : Int) := by rw [t3_len] at hm3; simp [IntKind.wrap, IntKind.signed, IntKind.bits]; omega
                rw [HP.out]
                clear h3 hm3 HP
                go_wp2_with fail
                refine (findIn_any vb T3 (g1, g2) _ HVc.out (by rw [t3_len]; omega) t3_nodup).mono ?_
                rintro e wd ⟨rfl, cd⟩
                rw [HV.out]
                have HBd := Bx.mk (HBc.out.trans (cd.mono HBc.out.size))
                clear cd HV
                cases q3
                · go_wp2
                  go_roundg n
                  case measure => omega
                  case rel => exact ⟨k + 1, by have := HKG.out; omega, by go_num, HBd⟩
                · go_wp2
                  go_roundg n
                  case measure => omega
                  case rel => exact ⟨k + 1, by have := HKG.out; omega, by go_num, HBd⟩
              · have HP := Bx.mk (show findP T3 0 (g1, g2) = .tuple #[.int .u64 0, .bool false, .bool false] by unfold findP; rw [h3]; simp)
                have HV := Bx.mk (show findV T3 (g1, g2) = .tuple #[.int .i64 0, .bool false, .bool false] by unfold findV; rw [h3]; rfl)
                rw [HP.out]
                clear h3 HP
                go_wp2_with fail
                refine (findIn_any vb T3 (g1, g2) _ HVc.out (by rw [t3_len]; omega) t3_nodup).mono ?_
                rintro e wd ⟨rfl, cd⟩
                rw [HV.out]
                have HBd := Bx.mk (HBc.out.trans (cd.mono HBc.out.size))
                clear cd HV
                go_wp2
                go_roundg n
                case measure => omega
                case rel => exact ⟨k + 1, by have := HKG.out; omega, by go_num, HBd⟩
            · go_wp2_with fail
              refine (findH3_any (g1, g2) _ HSG.out).mono ?_
              rintro e wc ⟨rfl, cc⟩
              have HFc := Bx.mk (HFb.out.keep cc)
              have HVc := Bx.mk (HVb.out.keep cc)
              have HBc := Bx.mk (HBb.out.trans (cc.mono HBb.out.size))
              obtain ⟨hga, hgb⟩ := HFc.out.cells
              clear cc
              rcases findS_lt T3 (g1, g2) with ⟨m3, q3, hm3, h3⟩ | h3
              · have HP := Bx.mk (show findP T3 0 (g1, g2) = .tuple #[.int .u64 (m3 : Int), .bool true, .bool q3] by unfold findP; rw [h3]; simp)
                have HV := Bx.mk (show findV T3 (g1, g2) = .tuple #[.int .i64 (m3 : Int), .bool true, .bool q3] by unfold findV; rw [h3])
                have hw3 : IntKind.u64.wrap (m3 : Int) = (m3 : Int) := by rw [t3_len] at hm3; simp [IntKind.wrap, IntKind.signed, IntKind.bits]; omega
                rw [HP.out]
                clear h3 hm3 HP
                go_wp2_with fail
                refine (findIn_any vb T3 (g1, g2) _ HVc.out (by rw [t3_len]; omega) t3_nodup).mono ?_
                rintro e wd ⟨rfl, cd⟩
                rw [HV.out]
                have HBd := Bx.mk (HBc.out.trans (cd.mono HBc.out.size))
                clear cd HV
                cases q3
                · go_wp2
                  go_roundg n
                  case measure => omega
                  case rel => exact ⟨k + 1, by have := HKG.out; omega, by go_num, HBd⟩
                · go_wp2
                  go_roundg n
                  case measure => omega
                  case rel => exact ⟨k + 1, by have := HKG.out; omega, by go_num, HBd⟩
              · have HP := Bx.mk (show findP T3 0 (g1, g2) = .tuple #[.int .u64 0, .bool false, .bool false] by unfold findP; rw [h3]; simp)
                have HV := Bx.mk (show findV T3 (g1, g2) = .tuple #[.int .i64 0, .bool false, .bool false] by unfold findV; rw [h3]; rfl)
                rw [HP.out]
                clear h3 HP
                go_wp2_with fail
                refine (findIn_any vb T3 (g1, g2) _ HVc.out (by rw [t3_len]; omega) t3_nodup).mono ?_
                rintro e wd ⟨rfl, cd⟩
                rw [HV.out]
                have HBd := Bx.mk (HBc.out.trans (cd.mono HBc.out.size))
                clear cd HV
                go_wp2
                go_roundg n
                case measure => omega
                case rel => exact ⟨k + 1, by have := HKG.out; omega, by go_num, HBd⟩
          · have HP := Bx.mk (show findP T2 1 (g1, g2) = .tuple #[.int .u64 0, .bool false, .bool false] by unfold findP; rw [h2]; simp)
            have HV := Bx.mk (show findV T2 (g1, g2) = .tuple #[.int .i64 0, .bool false, .bool false] by unfold findV; rw [h2]; rfl)
            rw [HP.out]
            clear h2 HP
            go_wp2_with fail
            refine (findIn_any va T2 (g1, g2) _ HVa.out (by rw [t2_len]; omega) t2_nodup).mono ?_
            rintro e wb ⟨rfl, cb⟩
            rw [HV.out]
            have HFb := Bx.mk (HFa.out.keep cb)
            have HVb := Bx.mk (HWa.out.keep cb)
            have HBb := Bx.mk (HBa.out.trans (cb.mono HBa.out.size))
            obtain ⟨hgc, hgd⟩ := HFb.out.cells
            clear cb HV hga hgb
            go_wp2_with fail
            refine (findH3_any (g1, g2) _ HSG.out).mono ?_
            rintro e wc ⟨rfl, cc⟩
            have HFc := Bx.mk (HFb.out.keep cc)
            have HVc := Bx.mk (HVb.out.keep cc)
            have HBc := Bx.mk (HBb.out.trans (cc.mono HBb.out.size))
            obtain ⟨hga, hgb⟩ := HFc.out.cells
            clear cc
            rcases findS_lt T3 (g1, g2) with ⟨m3, q3, hm3, h3⟩ | h3
            · have HP := Bx.mk (show findP T3 0 (g1, g2) = .tuple #[.int .u64 (m3 : Int), .bool true, .bool q3] by unfold findP; rw [h3]; simp)
              have HV := Bx.mk (show findV T3 (g1, g2) = .tuple #[.int .i64 (m3 : Int), .bool true, .bool q3] by unfold findV; rw [h3])
              have hw3 : IntKind.u64.wrap (m3 : Int) = (m3 : Int) := by rw [t3_len] at hm3; simp [IntKind.wrap, IntKind.signed, IntKind.bits]; omega
              rw [HP.out]
              clear h3 hm3 HP
              go_wp2_with fail
              refine (findIn_any vb T3 (g1, g2) _ HVc.out (by rw [t3_len]; omega) t3_nodup).mono ?_
              rintro e wd ⟨rfl, cd⟩
              rw [HV.out]
              have HBd := Bx.mk (HBc.out.trans (cd.mono HBc.out.size))
              clear cd HV
              cases q3
              · go_wp2
                go_roundg n
                case measure => omega
                case rel => exact ⟨k + 1, by have := HKG.out; omega, by go_num, HBd⟩
              · go_wp2
                go_roundg n
                case measure => omega
                case rel => exact ⟨k + 1, by have := HKG.out; omega, by go_num, HBd⟩
            · have HP := Bx.mk (show findP T3 0 (g1, g2) = .tuple #[.int .u64 0, .bool false, .bool false] by unfold findP; rw [h3]; simp)
              have HV := Bx.mk (show findV T3 (g1, g2) = .tuple #[.int .i64 0, .bool false, .bool false] by unfold findV; rw [h3]; rfl)
              rw [HP.out]
              clear h3 HP
              go_wp2_with fail
              refine (findIn_any vb T3 (g1, g2) _ HVc.out (by rw [t3_len]; omega) t3_nodup).mono ?_
              rintro e wd ⟨rfl, cd⟩
              rw [HV.out]
              have HBd := Bx.mk (HBc.out.trans (cd.mono HBc.out.size))
              clear cd HV
              go_wp2
              go_roundg n
              case measure => omega
              case rel => exact ⟨k + 1, by have := HKG.out; omega, by go_num, HBd⟩

end Go.Proofs.Ytnmjnolfoaengaa
