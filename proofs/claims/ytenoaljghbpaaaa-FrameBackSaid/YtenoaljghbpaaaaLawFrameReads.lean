/-
  bifoldlaw11.FrameReads answers true, whatever its arguments: the walk.
-/
import Derived.Test.YtenoaljghbpaaaaFrK
import Derived.Test.YtenoaljghbpaaaaPyH
namespace Go.Proofs.Ytenoaljghbpaaaa
open Go.RowKit
set_option linter.unusedVariables false
set_option linter.unusedSimpArgs false

/-- Both Reads' answer, of one reading of these bytes. -/
def RdQ (T F S N E : Int) (D : List UInt8) (w : World) (e : Ending) (w' : World) : Prop := ∃ A n c, e = .returned (.tuple #[.agg (fraA T F S (.slice A n c)), .int .i64 N, .int .i64 E]) ∧ Bs w' (.slice A n c) D ∧ Below w.heap.size w w'
theorem RdPost.q {w w' : World} {e : Ending} {t f s n er : Nat} {D : List UInt8} (h : RdPost w ((t, f, s, D), n, er) e w') : RdQ (t : Int) (f : Int) (s : Int) (n : Int) (er : Int) D w e w' := by
  obtain ⟨raw, he, hb, bb⟩ := h
  obtain ⟨A, n, c, hr, -⟩ := hb.open_
  subst hr
  exact ⟨A, n, c, he, hb, bb⟩
theorem helpFrame_same (T F S : Int) (t f s : Nat) (hT : (t : Int) = T) (hF : (f : Int) = F) (hS : (s : Int) = S) (v u : Value) (D : List UInt8) (w : World) (hv : Bs w v D) (hu : Bs w u D) :
    Calls Try.prog 25 #[.agg (fraA T F S v), .agg (fraA T F S u)] w fun e w' => e = .returned (.bool true) ∧ Below w.heap.size w w' := by
  subst hT hF hS
  refine (helpFrame_any ⟨t, f, s, v, D⟩ ⟨t, f, s, u, D⟩ w hv hu).mono ?_
  rintro e w' ⟨he, hb⟩
  exact ⟨by rw [he]; simp, hb⟩
set_option maxRecDepth 100000 in
set_option maxHeartbeats 8000000 in
theorem frameReads_walk (v : Value) (b : List UInt8) (most : Int) (hm : (Lit.int .i64 most).wf = true) (w : World) (hv : Bs w v b) :
    Calls Try.prog 4 #[v, .int .i64 most] w fun e w' => e = .returned (.bool true) ∧ Below w.heap.size w w' := by
  have hm2 : -9223372036854775808 ≤ most ∧ most ≤ 9223372036854775807 := by
    have h0 : IntKind.i64.min ≤ most ∧ most ≤ IntKind.i64.max := by simpa [Lit.wf] using hm
    have h1 : IntKind.i64.min = -9223372036854775808 := rfl
    have h2 : IntKind.i64.max = 9223372036854775807 := rfl
    omega
  have HK := Bx.mk (known11_any w)
  obtain ⟨L, hL⟩ : ∃ L : Int, (b.length : Int) = L := ⟨_, rfl⟩
  have hlenb : ∀ (tr : TypeId) (W : World), (Builtin.len_ #[22] tr #[v]).run Try.prog W = .ok (.int .i64 L) W := fun tr W => by rw [← hL]; exact hv.run_len tr W
  by_cases hl : 400 < b.length
  · have hd : decide (400 < L) = true := decide_eq_true (by omega)
    clear hL hl hv hm hm2
    go_enter Try.func4, Try.ntmps4
    go_wp2_with (go_at_call 21; refine HK.out.mono ?_; rintro e w1 ⟨rfl, b1⟩; have HB1 := Bx.mk b1; clear b1)
    go_ret
    exact ⟨rfl, HB1.out⟩
  have hd : decide (400 < L) = false := decide_eq_false (by omega)
  have HP := Bx.mk (fun W (h : Bs W v b) => pRead_any v b most W h hm2.1 hm2.2 (by omega))
  have HR := Bx.mk (fun W (h : Bs W v b) => refRead_any v b most W h hm2.1 hm2.2 (by omega))
  obtain ⟨R, hR⟩ : ∃ R, rdF b most = R := ⟨_, rfl⟩
  rw [hR] at HP HR
  obtain ⟨⟨t, f, s, D⟩, n, er⟩ := R
  obtain ⟨T, hT⟩ : ∃ x : Int, (t : Int) = x := ⟨_, rfl⟩
  obtain ⟨F, hF⟩ : ∃ x : Int, (f : Int) = x := ⟨_, rfl⟩
  obtain ⟨S, hS⟩ : ∃ x : Int, (s : Int) = x := ⟨_, rfl⟩
  obtain ⟨N, hN⟩ : ∃ x : Int, (n : Int) = x := ⟨_, rfl⟩
  obtain ⟨E, hE⟩ : ∃ x : Int, (er : Int) = x := ⟨_, rfl⟩
  have HP2 : Bx (∀ W, Bs W v b → Calls Try.prog 24 #[v, .int .i64 most] W (RdQ T F S N E D W)) := ⟨fun W h => by subst hT hF hS hN hE; exact (HP.out W h).mono fun e w' hh => hh.q⟩
  have HR2 : Bx (∀ W, Bs W v b → Calls Try.prog 26 #[v, .int .i64 most] W (RdQ T F S N E D W)) := ⟨fun W h => by subst hT hF hS hN hE; exact (HR.out W h).mono fun e w' hh => hh.q⟩
  have HH := Bx.mk (fun W (x y : Value) (h1 : Bs W x D) (h2 : Bs W y D) => helpFrame_same T F S t f s hT hF hS x y D W h1 h2)
  have HV := Bx.mk hv
  have hpr : (prefS.toList == [80, 82, 73, 32, 42, 32, 72, 84, 84, 80, 47, 50, 46, 48, 13, 10, 13, 10, 83, 77, 13, 10, 13, 10]) = true := by decide +kernel
  clear HP HR hR hT hF hS hN hE hL hl hv hm hm2
  go_enter Try.func4, Try.ntmps4
  go_upto_region 5 with (go_at_call 21; refine HK.out.mono ?_; rintro e w1 ⟨rfl, b1⟩; have HB1 := Bx.mk b1; clear b1)
  go_upto_region 6 with (go_at_call 24; refine (HP2.out _ (HV.out.keep HB1.out)).mono ?_; rintro e w3 ⟨A3, n3, c3, rfl, h3, b3⟩; have HX3 := Bx.mk b3; have HV3 := Bx.mk h3; clear h3 b3)
  have HX4 := Bx.mk (HX3.out.alloc HX3.out.size (.cells (fraA T F S (.slice A3 n3 c3)) 28))
  have HS4 : Bx (Sb 28 (w3.alloc (.cells (fraA T F S (.slice A3 n3 c3)) 28)) w3.heap.size (fraA T F S (.slice A3 n3 c3))) := ⟨Sb.new _ w3 _⟩
  have HV4 := Bx.mk (HV3.out.keep ((Below.refl w3.heap.size w3).alloc (Nat.le_refl _) (.cells (fraA T F S (.slice A3 n3 c3)) 28)))
  obtain ⟨w4, hw4⟩ : ∃ W, w3.alloc (.cells (fraA T F S (.slice A3 n3 c3)) 28) = W := ⟨_, rfl⟩
  obtain ⟨g4, hg4⟩ : ∃ g, w3.heap.size = g := ⟨_, rfl⟩
  rw [hw4] at HX4 HS4 HV4 ⊢
  rw [hg4] at HS4 ⊢
  clear hw4 hg4
  have HB4 := Bx.mk (HB1.out.trans (HX4.out.mono HB1.out.size))
  go_upto_region 7 with (go_at_call 26; refine (HR2.out _ (HV.out.keep HB4.out)).mono ?_; rintro e w5 ⟨A5, n5, c5, rfl, h5, b5⟩; have HX5 := Bx.mk b5; have HV5 := Bx.mk h5; clear h5 b5)
  have HX6 := Bx.mk (HX5.out.alloc HX5.out.size (.cells (fraA T F S (.slice A5 n5 c5)) 28))
  have HS6 : Bx (Sb 28 (w5.alloc (.cells (fraA T F S (.slice A5 n5 c5)) 28)) w5.heap.size (fraA T F S (.slice A5 n5 c5))) := ⟨Sb.new _ w5 _⟩
  have HV6 := Bx.mk (HV5.out.keep ((Below.refl w5.heap.size w5).alloc (Nat.le_refl _) (.cells (fraA T F S (.slice A5 n5 c5)) 28)))
  obtain ⟨w6, hw6⟩ : ∃ W, w5.alloc (.cells (fraA T F S (.slice A5 n5 c5)) 28) = W := ⟨_, rfl⟩
  obtain ⟨g6, hg6⟩ : ∃ g, w5.heap.size = g := ⟨_, rfl⟩
  rw [hw6] at HX6 HS6 HV6 ⊢
  rw [hg6] at HS6 ⊢
  clear hw6 hg6
  have HS46 := Bx.mk (HS4.out.keep HX6.out)
  have HV46 := Bx.mk (HV4.out.keep HX6.out)
  have HB6 := Bx.mk (HB4.out.trans (HX6.out.mono HB4.out.size))
  go_wp2_with (first
    | (with_reducible refine wpList_loadFra g4 T F S (.slice A3 n3 c3) rfl HS46.out ?_)
    | (with_reducible refine wpList_loadFra g6 T F S (.slice A5 n5 c5) rfl HS6.out ?_)
    | (go_at_call 25; refine (HH.out _ _ _ HV46.out HV6.out).mono ?_; rintro e w7 ⟨rfl, b7⟩; have HB7 := Bx.mk (HB6.out.trans (b7.mono HB6.out.size)); clear b7)
    | (go_at_call 27; refine (preface_any _).mono ?_; rintro e w8 ⟨rfl, hw8⟩; subst w8))
  go_ret
  exact ⟨rfl, HB7.out⟩
end Go.Proofs.Ytenoaljghbpaaaa
