/-
  bifoldlaw4.StaticTells answers true, whatever its argument: the walk.
-/
import Derived.Test.YtnmjnolfoaengaaStL
import Derived.Test.YtnmjnolfoaengaaStC
import Derived.Test.YtnmjnolfoaengaaStD
namespace Go.Proofs.Ytnmjnolfoaengaa
open Go.RowKit
set_option linter.unusedVariables false

theorem entF_shift (l : List Fd) (x : Nat) (h : 0 < x) : entF l 0 (x - 1) = entF l 1 x ∧ isF l 0 (x - 1) = isF l 1 x := by
  constructor
  · unfold entF
    by_cases h1 : x - 1 < l.length
    · rw [dif_pos ⟨by omega, by omega⟩, dif_pos ⟨by omega, by omega⟩]; rfl
    · rw [dif_neg (by omega), dif_neg (by omega)]
  · unfold isF
    by_cases h1 : x - 1 < l.length
    · rw [decide_eq_true ⟨by omega, by omega⟩, decide_eq_true ⟨by omega, by omega⟩]
    · rw [decide_eq_false (by omega), decide_eq_false (by omega)]
theorem entF_zero (l : List Fd) : entF l 1 0 = emp ∧ isF l 1 0 = false := by
  constructor
  · unfold entF; rw [dif_neg (by omega)]
  · unfold isF; rw [decide_eq_false (by omega)]

set_option maxRecDepth 100000 in
set_option maxHeartbeats 4000000 in
theorem staticTells_walk (a0 : Int) (w0 : (Lit.int .u64 a0).wf = true) (w : World) :
    Calls Try.prog 3 #[.int .u64 a0] w fun e w' => e = .returned (.bool true) ∧ Below w.heap.size w w' := by
  obtain ⟨i, rfl, hi⟩ := wf_u64n w0
  clear w0
  have HI := Bx.mk hi
  have ha : ∀ f : Fd, aggF f = .agg #[.string f.1, .string f.2] := fun _ => rfl
  obtain ⟨j, hj⟩ : ∃ j : Nat, i % 128 = j := ⟨_, rfl⟩
  have hm : (i : Int) % 128 = (j : Int) := by omega
  have HJ := Bx.mk (show j < 128 by omega)
  clear hi hj
  go_enter Try.func3, Try.ntmps3
  go_wp2_with fail
  refine (known_any _).mono ?_
  rintro e w1 ⟨rfl, b1⟩
  have HB1 := Bx.mk b1
  clear b1
  go_wp2
  rw [hm]
  go_loopg [16] 2 (fun n s16 wx => ∃ k : Nat, k + n = 2 ∧ s16 = .int .i64 k ∧ Bx (Below (w1.heap.size + 1) (w1.alloc (.cells #[.int .u64 (i : Int), .int .u64 (j : Int)] 22)) wx))
  case atStart => exact ⟨0, by omega, rfl, ⟨Below.refl _ _⟩⟩
  case round =>
    obtain ⟨k, hkg, rfl, HB⟩ := hrel
    have HBw := Bx.mk ((HB1.out.alloc HB1.out.size (.cells #[.int .u64 (i : Int), .int .u64 (j : Int)] 22)).trans (HB.out.mono (by have := HB1.out.size; omega)))
    cases gk with
    | zero =>
      obtain rfl : k = 2 := by omega
      go_wp2
      go_ret
      exact ⟨rfl, HBw.out⟩
    | succ n =>
      have hk : k < 2 := by omega
      obtain ⟨x, hx, hcx⟩ : ∃ x : Nat, x < 18446744073709551616 ∧ wr.cell? ⟨w1.heap.size, k, none⟩ = some (.int .u64 (x : Int)) := by
        have hb := HB.out.block w1.heap.size (by omega)
        rw [heap_alloc_last] at hb
        rcases (show k = 0 ∨ k = 1 by omega) with rfl | rfl
        · exact ⟨i, HI.out, by simp [World.cell?, hb]⟩
        · exact ⟨j, by have := HJ.out; omega, by simp [World.cell?, hb]⟩
      have HX := Bx.mk hx
      have HK := Bx.mk hk
      have HKG := Bx.mk hkg
      obtain ⟨e1, he1⟩ : ∃ e1, entF T2 1 x = e1 := ⟨_, rfl⟩
      obtain ⟨b1, hb1⟩ : ∃ b1, isF T2 1 x = b1 := ⟨_, rfl⟩
      obtain ⟨e2, he2⟩ : ∃ e2, entF T3 0 x = e2 := ⟨_, rfl⟩
      obtain ⟨b2, hb2⟩ : ∃ b2, isF T3 0 x = b2 := ⟨_, rfl⟩
      obtain ⟨f1, f2⟩ := e1
      obtain ⟨g1, g2⟩ := e2
      have HE1 := Bx.mk he1
      have HC1 := Bx.mk hb1
      have HE2 := Bx.mk he2
      have HC2 := Bx.mk hb2
      have hs1 := str_same f1
      have hs2 := str_same f2
      have hs3 := str_same g1
      have hs4 := str_same g2
      clear he1 hb1 he2 hb2 hx
      have HSr : Bx (w1.heap.size + 1 ≤ wr.heap.size) := ⟨by have := HB.out.size; simpa using this⟩
      go_wp2_with fail
      refine (h2_any x _ HX.out).mono ?_
      rintro e w2 ⟨rfl, c2⟩
      rw [HE1.out, HC1.out, ha]
      have HB2 := Bx.mk (HB.out.trans (c2.mono HSr.out))
      have HS2 := Bx.mk (Nat.le_trans HSr.out c2.size)
      clear c2
      by_cases hx0 : x = 0
      · have hneg : decide (0 < x) = false := by simp; omega
        have hz : (f1, f2) = emp := HE1.out.symm.trans (by rw [hx0]; exact (entF_zero T2).1)
        obtain ⟨rfl, rfl⟩ : f1 = ⟨#[]⟩ ∧ f2 = ⟨#[]⟩ := Prod.mk.inj hz
        obtain rfl : false = b1 := ((by rw [hx0]; exact (entF_zero T2).2 : isF T2 1 x = false).symm).trans HC1.out
        clear hx0
        have HF5 := Bx.mk ((Fb.new 26 w2 emp).alloc (.cells #[.string ⟨#[]⟩, .string ⟨#[]⟩] 26))
        have HF7 := Bx.mk (Fb.newg 26 (w2.alloc (.cells #[.string ⟨#[]⟩, .string ⟨#[]⟩] 26)) (w2.heap.size + 1) (by simp) emp)
        have HBa := Bx.mk ((HB2.out.alloc HS2.out (.cells #[.string ⟨#[]⟩, .string ⟨#[]⟩] 26)).alloc (by have := HS2.out; simp; omega) (.cells #[.string ⟨#[]⟩, .string ⟨#[]⟩] 26))
        have HSa : Bx (w1.heap.size + 1 ≤ ((w2.alloc (.cells #[.string ⟨#[]⟩, .string ⟨#[]⟩] 26)).alloc (.cells #[.string ⟨#[]⟩, .string ⟨#[]⟩] 26)).heap.size) := ⟨by have := HS2.out; simp; omega⟩
        go_wp2_with fail
        refine (h3_any x _ HX.out).mono ?_
        rintro e wb ⟨rfl, cb⟩
        rw [HE2.out, HC2.out, ha]
        have HP5 := Bx.mk (HF5.out.keep cb)
        have HP7 := Bx.mk (HF7.out.keep cb)
        have HBb := Bx.mk (HBa.out.trans (cb.mono HSa.out))
        have HSb := Bx.mk (Nat.le_trans HSa.out cb.size)
        clear cb HF5 HF7
        go_wp2_with (first | (with_reducible refine wpList_storeF 26 w2.heap.size _ (g1, g2) rfl rfl HP5.out ?_; intro wc hf5 hgc))
        have HQ5 := Bx.mk hf5
        have HQ7 := Bx.mk (HP7.out.grown hgc (fun h => by injection h with h; omega))
        have HBc := Bx.mk (HBb.out.grown hgc HSb.out (fun k hk => by cases hk; exact HS2.out))
        have HSc := Bx.mk (Nat.le_trans HSb.out hgc.size)
        clear hf5 hgc HP5 HP7
        go_wp2_with fail
        refine (h3s_any _).mono ?_
        rintro e wd ⟨vd, rfl, hvd, cd⟩
        have HVD := Bx.mk hvd
        have HR5 := Bx.mk (HQ5.out.keep cd)
        have HR7 := Bx.mk (HQ7.out.keep cd)
        have HBd := Bx.mk (HBc.out.trans (cd.mono HSc.out))
        have HSd := Bx.mk (Nat.le_trans HSc.out cd.size)
        clear hvd cd HQ5 HQ7
        go_wp2_with fail
        refine (at_any vd T3 x _ HVD.out (by rw [t3_len]; omega) HX.out).mono ?_
        rintro e we ⟨rfl, ce⟩
        rw [HE2.out, HC2.out, ha]
        have HP5 := Bx.mk (HR5.out.keep ce)
        have HP7 := Bx.mk (HR7.out.keep ce)
        have HBe := Bx.mk (HBd.out.trans (ce.mono HSd.out))
        have HSe := Bx.mk (Nat.le_trans HSd.out ce.size)
        clear ce HR5 HR7
        go_wp2_with (first | (with_reducible refine wpList_storeF 26 (w2.heap.size + 1) _ (g1, g2) rfl rfl HP7.out ?_; intro wf hf7 hgf; obtain ⟨hca, hcb⟩ := (HP5.out.grown hgf (fun h => by injection h with h; omega)).cells; obtain ⟨hcc, hcd⟩ := hf7.cells))
        have HBf := Bx.mk (HBe.out.grown hgf HSe.out (fun k hk => by cases hk; have := HS2.out; omega))
        clear hf7 hgf HP5 HP7
        go_wp2
        go_roundg n
        case measure => omega
        case rel => exact ⟨k + 1, by have := HKG.out; omega, by go_num, HBf⟩
      · have HX0 := Bx.mk hx0
        have hpos : decide (0 < x) = true := by simp; omega
        have hsub : (x : Int) - 1 = ((x - 1 : Nat) : Int) := by omega
        have hsw : IntKind.u64.wrap ((x - 1 : Nat) : Int) = ((x - 1 : Nat) : Int) := by have := HX.out; simp [IntKind.wrap, IntKind.signed, IntKind.bits]; omega
        have hsv : IntKind.u64.wrap ((x : Int) - 1) = ((x - 1 : Nat) : Int) := by rw [hsub]; exact hsw
        have HF5a := Bx.mk ((Fb.new 26 w2 (f1, f2)).alloc (.cells #[.string ⟨#[]⟩, .string ⟨#[]⟩] 26))
        have HF7a := Bx.mk (Fb.newg 26 (w2.alloc (.cells #[.string f1, .string f2] 26)) (w2.heap.size + 1) (by simp) emp)
        have HBz := Bx.mk ((HB2.out.alloc HS2.out (.cells #[.string f1, .string f2] 26)).alloc (by have := HS2.out; simp; omega) (.cells #[.string ⟨#[]⟩, .string ⟨#[]⟩] 26))
        have HSz : Bx (w1.heap.size + 1 ≤ ((w2.alloc (.cells #[.string f1, .string f2] 26)).alloc (.cells #[.string ⟨#[]⟩, .string ⟨#[]⟩] 26)).heap.size) := ⟨by have := HS2.out; simp; omega⟩
        clear hx0
        go_wp2_with fail
        refine (h2s_any _).mono ?_
        rintro e w3 ⟨v3, rfl, hv3, c3⟩
        have HV3 := Bx.mk hv3
        have HR5 := Bx.mk (HF5a.out.keep c3)
        have HR7 := Bx.mk (HF7a.out.keep c3)
        have HB3 := Bx.mk (HBz.out.trans (c3.mono HSz.out))
        have HS3 := Bx.mk (Nat.le_trans HSz.out c3.size)
        clear hv3 c3 HF5a HF7a
        go_wp2_with fail
        refine (at_any v3 T2 (x - 1) _ HV3.out (by rw [t2_len]; omega) (by have := HX.out; omega)).mono ?_
        rintro e w4 ⟨rfl, c4⟩
        rw [(entF_shift T2 x (by have := HX0.out; omega)).1, (entF_shift T2 x (by have := HX0.out; omega)).2, HE1.out, HC1.out, ha]
        have HP5 := Bx.mk (HR5.out.keep c4)
        have HP7 := Bx.mk (HR7.out.keep c4)
        have HB4 := Bx.mk (HB3.out.trans (c4.mono HS3.out))
        have HS4 := Bx.mk (Nat.le_trans HS3.out c4.size)
        clear c4 HR5 HR7
        go_wp2_with (first | (with_reducible refine wpList_storeF 26 (w2.heap.size + 1) _ (f1, f2) rfl rfl HP7.out ?_; intro wa hf7 hga; have HF5 := Bx.mk (HP5.out.grown hga (fun h => by injection h with h; omega)); obtain ⟨hxa, hxb⟩ := HF5.out.cells; obtain ⟨hxc, hxd⟩ := hf7.cells))
        have HF7 := Bx.mk hf7
        have HBa := Bx.mk (HB4.out.grown hga HS4.out (fun k hk => by cases hk; have := HS2.out; omega))
        have HSa := Bx.mk (Nat.le_trans HS4.out hga.size)
        clear hf7 hga HP5 HP7 hpos hsub hsw hsv
        go_wp2_with fail
        refine (h3_any x _ HX.out).mono ?_
        rintro e wb ⟨rfl, cb⟩
        rw [HE2.out, HC2.out, ha]
        have HP5 := Bx.mk (HF5.out.keep cb)
        have HP7 := Bx.mk (HF7.out.keep cb)
        have HBb := Bx.mk (HBa.out.trans (cb.mono HSa.out))
        have HSb := Bx.mk (Nat.le_trans HSa.out cb.size)
        clear cb HF5 HF7
        go_wp2_with (first | (with_reducible refine wpList_storeF 26 w2.heap.size _ (g1, g2) rfl rfl HP5.out ?_; intro wc hf5 hgc))
        have HQ5 := Bx.mk hf5
        have HQ7 := Bx.mk (HP7.out.grown hgc (fun h => by injection h with h; omega))
        have HBc := Bx.mk (HBb.out.grown hgc HSb.out (fun k hk => by cases hk; exact HS2.out))
        have HSc := Bx.mk (Nat.le_trans HSb.out hgc.size)
        clear hf5 hgc HP5 HP7
        go_wp2_with fail
        refine (h3s_any _).mono ?_
        rintro e wd ⟨vd, rfl, hvd, cd⟩
        have HVD := Bx.mk hvd
        have HR5 := Bx.mk (HQ5.out.keep cd)
        have HR7 := Bx.mk (HQ7.out.keep cd)
        have HBd := Bx.mk (HBc.out.trans (cd.mono HSc.out))
        have HSd := Bx.mk (Nat.le_trans HSc.out cd.size)
        clear hvd cd HQ5 HQ7
        go_wp2_with fail
        refine (at_any vd T3 x _ HVD.out (by rw [t3_len]; omega) HX.out).mono ?_
        rintro e we ⟨rfl, ce⟩
        rw [HE2.out, HC2.out, ha]
        have HP5 := Bx.mk (HR5.out.keep ce)
        have HP7 := Bx.mk (HR7.out.keep ce)
        have HBe := Bx.mk (HBd.out.trans (ce.mono HSd.out))
        have HSe := Bx.mk (Nat.le_trans HSd.out ce.size)
        clear ce HR5 HR7
        go_wp2_with (first | (with_reducible refine wpList_storeF 26 (w2.heap.size + 1) _ (g1, g2) rfl rfl HP7.out ?_; intro wf hf7 hgf; obtain ⟨hca, hcb⟩ := (HP5.out.grown hgf (fun h => by injection h with h; omega)).cells; obtain ⟨hcc, hcd⟩ := hf7.cells))
        have HBf := Bx.mk (HBe.out.grown hgf HSe.out (fun k hk => by cases hk; have := HS2.out; omega))
        clear hf7 hgf HP5 HP7
        go_wp2
        go_roundg n
        case measure => omega
        case rel => exact ⟨k + 1, by have := HKG.out; omega, by go_num, HBf⟩

end Go.Proofs.Ytnmjnolfoaengaa
