/-
  bifoldlaw14.WindowEdges answers true, whatever its arguments: the walk.
-/
import Derived.Test.YtenoaljghbpaaaaWnK
namespace Go.Proofs.Ytenoaljghbpaaaa
open Go.RowKit
set_option linter.unusedVariables false
set_option linter.unusedSimpArgs false

set_option maxRecDepth 100000 in
set_option maxHeartbeats 4000000 in
theorem we_111 (n d u s0 s1 s2 d2 f : Int) (w : World) (HK : Bx (Calls Try.prog 42 #[] w fun e w' => e = .returned (.bool true) ∧ Below w.heap.size w w'))
    (HO : Bx (∀ w, Calls Try.prog 43 #[.int .i64 n] w fun e w' => ∃ q, e = .returned (.pointer (some ⟨q, 0, none⟩)) ∧ Up w.heap.size (Po q s0) w' ∧ Below w.heap.size w w'))
    (hn : min (max n (-2147483647)) 2147483647 = s0) (hd : d.tmod 4294967294 = d2) (h0 : s0 + d2 = s1) (h1 : wrap64 s1 = s1) (hd' : IntKind.i64.wrap d2 = d2) (HS0 : Bx (oOk s0)) (HD2 : Bx (i64R d2)) (HU : Bx (i64R u))
    (ha1 : decide (s1 ≤ 2147483647) = true) (ha2 : decide (-2147483647 ≤ s1) = true) (HSH : Bx (oShift s0 d2 = (true, s1))) (HS1 : Bx (oOk s1)) (hb1 : decide (0 ≤ u) = false) (HUS : Bx (oUse s1 u = (false, s1))) (HS2 : Bx (oOk s1)) (hf0 : 2147483647 - s1 = f) (hf : wrap64 f = f) (hf1 : decide (f < 1) = true) :
    Calls Try.prog 14 #[.int .i64 n, .int .i64 d, .int .i64 u] w fun e w' => e = .returned (.bool true) ∧ Below w.heap.size w w' := by
  go_enter Try.func14, Try.ntmps14
  go_wp2_with (first
    | (go_at_call 42; refine HK.out.mono ?_; rintro e w1 ⟨rfl, b1⟩; have HB := Bx.mk b1; clear b1)
    | (go_at_call 43; refine (HO.out w1).mono ?_; rintro e w2 ⟨q, rfl, hu, hb⟩; have HV := Bx.mk hu; have HC := Bx.mk hb; clear hu hb)
    | (go_at_call 50; refine (Up.doU HV.out HC.out.size (fun S h => po_shift h HS0.out d2 HD2.out)).mono ?_; rintro e w3 ⟨rfl, hu, hb⟩; rw [HSH.out] at hu ⊢; replace HV := Bx.mk hu; replace HC := Bx.mk (HC.out.trans hb); clear hu hb)
    | (go_at_call 46; refine (Up.doU HV.out HC.out.size (fun S h => po_use h HS1.out u HU.out)).mono ?_; rintro e w3 ⟨rfl, hu, hb⟩; rw [HUS.out] at hu ⊢; replace HV := Bx.mk hu; replace HC := Bx.mk (HC.out.trans hb); clear hu hb)
    | (go_at_call 52; refine (Up.readU HV.out fun S h => po_may h).mono ?_; rintro e w3 ⟨rfl, rfl⟩))
  go_ret
  exact ⟨rfl, HB.out.trans (HC.out.mono HB.out.size)⟩
set_option maxRecDepth 100000 in
set_option maxHeartbeats 4000000 in
theorem we_112 (n d u s0 s1 s2 d2 f : Int) (w : World) (HK : Bx (Calls Try.prog 42 #[] w fun e w' => e = .returned (.bool true) ∧ Below w.heap.size w w'))
    (HO : Bx (∀ w, Calls Try.prog 43 #[.int .i64 n] w fun e w' => ∃ q, e = .returned (.pointer (some ⟨q, 0, none⟩)) ∧ Up w.heap.size (Po q s0) w' ∧ Below w.heap.size w w'))
    (hn : min (max n (-2147483647)) 2147483647 = s0) (hd : d.tmod 4294967294 = d2) (h0 : s0 + d2 = s1) (h1 : wrap64 s1 = s1) (hd' : IntKind.i64.wrap d2 = d2) (HS0 : Bx (oOk s0)) (HD2 : Bx (i64R d2)) (HU : Bx (i64R u))
    (ha1 : decide (s1 ≤ 2147483647) = true) (ha2 : decide (-2147483647 ≤ s1) = true) (HSH : Bx (oShift s0 d2 = (true, s1))) (HS1 : Bx (oOk s1)) (hb1 : decide (0 ≤ u) = false) (HUS : Bx (oUse s1 u = (false, s1))) (HS2 : Bx (oOk s1)) (hf0 : 2147483647 - s1 = f) (hf : wrap64 f = f) (hf1 : decide (f < 1) = false) (f1 : Int) (hf20 : f + 1 = f1) (hf2 : wrap64 f1 = f1) (HG : Bx (oGrow s1 f1 = (false, s1) ∧ oGrow s1 f = (true, 2147483647) ∧ oGrow 2147483647 1 = (false, 2147483647))) (HF : Bx (i64R f1 ∧ i64R f)) :
    Calls Try.prog 14 #[.int .i64 n, .int .i64 d, .int .i64 u] w fun e w' => e = .returned (.bool true) ∧ Below w.heap.size w w' := by
  go_enter Try.func14, Try.ntmps14
  go_wp2_with (first
    | (go_at_call 42; refine HK.out.mono ?_; rintro e w1 ⟨rfl, b1⟩; have HB := Bx.mk b1; clear b1)
    | (go_at_call 43; refine (HO.out w1).mono ?_; rintro e w2 ⟨q, rfl, hu, hb⟩; have HV := Bx.mk hu; have HC := Bx.mk hb; clear hu hb)
    | (go_at_call 50; refine (Up.doU HV.out HC.out.size (fun S h => po_shift h HS0.out d2 HD2.out)).mono ?_; rintro e w3 ⟨rfl, hu, hb⟩; rw [HSH.out] at hu ⊢; replace HV := Bx.mk hu; replace HC := Bx.mk (HC.out.trans hb); clear hu hb)
    | (go_at_call 46; refine (Up.doU HV.out HC.out.size (fun S h => po_use h HS1.out u HU.out)).mono ?_; rintro e w3 ⟨rfl, hu, hb⟩; rw [HUS.out] at hu ⊢; replace HV := Bx.mk hu; replace HC := Bx.mk (HC.out.trans hb); clear hu hb)
    | (go_at_call 48; have hz := HG2; clear hz; refine (Up.doU HV.out HC.out.size (fun S h => po_grow h ⟨by omega, by omega⟩ 1 ⟨by omega, by omega⟩)).mono ?_; rintro e w3 ⟨rfl, hu, hb⟩; rw [HG.out.2.2] at hu ⊢; replace HV := Bx.mk hu; replace HC := Bx.mk (HC.out.trans hb); clear hu hb)
    | (go_at_call 48; have hz := HG1; clear hz; refine (Up.doU HV.out HC.out.size (fun S h => po_grow h HS2.out f HF.out.2)).mono ?_; rintro e w3 ⟨rfl, hu, hb⟩; rw [HG.out.2.1] at hu ⊢; replace HV := Bx.mk hu; replace HC := Bx.mk (HC.out.trans hb); have HG2 := HG; clear hu hb)
    | (go_at_call 48; refine (Up.doU HV.out HC.out.size (fun S h => po_grow h HS2.out f1 HF.out.1)).mono ?_; rintro e w3 ⟨rfl, hu, hb⟩; rw [HG.out.1] at hu ⊢; replace HV := Bx.mk hu; replace HC := Bx.mk (HC.out.trans hb); have HG1 := HG; clear hu hb)
    | (go_at_call 52; refine (Up.readU HV.out fun S h => po_may h).mono ?_; rintro e w3 ⟨rfl, rfl⟩))
  go_ret
  exact ⟨rfl, HB.out.trans (HC.out.mono HB.out.size)⟩
set_option maxRecDepth 100000 in
set_option maxHeartbeats 4000000 in
theorem we_121 (n d u s0 s1 s2 d2 f : Int) (w : World) (HK : Bx (Calls Try.prog 42 #[] w fun e w' => e = .returned (.bool true) ∧ Below w.heap.size w w'))
    (HO : Bx (∀ w, Calls Try.prog 43 #[.int .i64 n] w fun e w' => ∃ q, e = .returned (.pointer (some ⟨q, 0, none⟩)) ∧ Up w.heap.size (Po q s0) w' ∧ Below w.heap.size w w'))
    (hn : min (max n (-2147483647)) 2147483647 = s0) (hd : d.tmod 4294967294 = d2) (h0 : s0 + d2 = s1) (h1 : wrap64 s1 = s1) (hd' : IntKind.i64.wrap d2 = d2) (HS0 : Bx (oOk s0)) (HD2 : Bx (i64R d2)) (HU : Bx (i64R u))
    (ha1 : decide (s1 ≤ 2147483647) = true) (ha2 : decide (-2147483647 ≤ s1) = true) (HSH : Bx (oShift s0 d2 = (true, s1))) (HS1 : Bx (oOk s1)) (hb1 : decide (0 ≤ u) = true) (hb2 : decide (u ≤ max s1 0) = false) (HUS : Bx (oUse s1 u = (false, s1))) (HS2 : Bx (oOk s1)) (hf0 : 2147483647 - s1 = f) (hf : wrap64 f = f) (hf1 : decide (f < 1) = true) :
    Calls Try.prog 14 #[.int .i64 n, .int .i64 d, .int .i64 u] w fun e w' => e = .returned (.bool true) ∧ Below w.heap.size w w' := by
  go_enter Try.func14, Try.ntmps14
  go_wp2_with (first
    | (go_at_call 42; refine HK.out.mono ?_; rintro e w1 ⟨rfl, b1⟩; have HB := Bx.mk b1; clear b1)
    | (go_at_call 43; refine (HO.out w1).mono ?_; rintro e w2 ⟨q, rfl, hu, hb⟩; have HV := Bx.mk hu; have HC := Bx.mk hb; clear hu hb)
    | (go_at_call 50; refine (Up.doU HV.out HC.out.size (fun S h => po_shift h HS0.out d2 HD2.out)).mono ?_; rintro e w3 ⟨rfl, hu, hb⟩; rw [HSH.out] at hu ⊢; replace HV := Bx.mk hu; replace HC := Bx.mk (HC.out.trans hb); clear hu hb)
    | (go_at_call 46; refine (Up.doU HV.out HC.out.size (fun S h => po_use h HS1.out u HU.out)).mono ?_; rintro e w3 ⟨rfl, hu, hb⟩; rw [HUS.out] at hu ⊢; replace HV := Bx.mk hu; replace HC := Bx.mk (HC.out.trans hb); clear hu hb)
    | (go_at_call 52; refine (Up.readU HV.out fun S h => po_may h).mono ?_; rintro e w3 ⟨rfl, rfl⟩))
  go_ret
  exact ⟨rfl, HB.out.trans (HC.out.mono HB.out.size)⟩
set_option maxRecDepth 100000 in
set_option maxHeartbeats 4000000 in
theorem we_122 (n d u s0 s1 s2 d2 f : Int) (w : World) (HK : Bx (Calls Try.prog 42 #[] w fun e w' => e = .returned (.bool true) ∧ Below w.heap.size w w'))
    (HO : Bx (∀ w, Calls Try.prog 43 #[.int .i64 n] w fun e w' => ∃ q, e = .returned (.pointer (some ⟨q, 0, none⟩)) ∧ Up w.heap.size (Po q s0) w' ∧ Below w.heap.size w w'))
    (hn : min (max n (-2147483647)) 2147483647 = s0) (hd : d.tmod 4294967294 = d2) (h0 : s0 + d2 = s1) (h1 : wrap64 s1 = s1) (hd' : IntKind.i64.wrap d2 = d2) (HS0 : Bx (oOk s0)) (HD2 : Bx (i64R d2)) (HU : Bx (i64R u))
    (ha1 : decide (s1 ≤ 2147483647) = true) (ha2 : decide (-2147483647 ≤ s1) = true) (HSH : Bx (oShift s0 d2 = (true, s1))) (HS1 : Bx (oOk s1)) (hb1 : decide (0 ≤ u) = true) (hb2 : decide (u ≤ max s1 0) = false) (HUS : Bx (oUse s1 u = (false, s1))) (HS2 : Bx (oOk s1)) (hf0 : 2147483647 - s1 = f) (hf : wrap64 f = f) (hf1 : decide (f < 1) = false) (f1 : Int) (hf20 : f + 1 = f1) (hf2 : wrap64 f1 = f1) (HG : Bx (oGrow s1 f1 = (false, s1) ∧ oGrow s1 f = (true, 2147483647) ∧ oGrow 2147483647 1 = (false, 2147483647))) (HF : Bx (i64R f1 ∧ i64R f)) :
    Calls Try.prog 14 #[.int .i64 n, .int .i64 d, .int .i64 u] w fun e w' => e = .returned (.bool true) ∧ Below w.heap.size w w' := by
  go_enter Try.func14, Try.ntmps14
  go_wp2_with (first
    | (go_at_call 42; refine HK.out.mono ?_; rintro e w1 ⟨rfl, b1⟩; have HB := Bx.mk b1; clear b1)
    | (go_at_call 43; refine (HO.out w1).mono ?_; rintro e w2 ⟨q, rfl, hu, hb⟩; have HV := Bx.mk hu; have HC := Bx.mk hb; clear hu hb)
    | (go_at_call 50; refine (Up.doU HV.out HC.out.size (fun S h => po_shift h HS0.out d2 HD2.out)).mono ?_; rintro e w3 ⟨rfl, hu, hb⟩; rw [HSH.out] at hu ⊢; replace HV := Bx.mk hu; replace HC := Bx.mk (HC.out.trans hb); clear hu hb)
    | (go_at_call 46; refine (Up.doU HV.out HC.out.size (fun S h => po_use h HS1.out u HU.out)).mono ?_; rintro e w3 ⟨rfl, hu, hb⟩; rw [HUS.out] at hu ⊢; replace HV := Bx.mk hu; replace HC := Bx.mk (HC.out.trans hb); clear hu hb)
    | (go_at_call 48; have hz := HG2; clear hz; refine (Up.doU HV.out HC.out.size (fun S h => po_grow h ⟨by omega, by omega⟩ 1 ⟨by omega, by omega⟩)).mono ?_; rintro e w3 ⟨rfl, hu, hb⟩; rw [HG.out.2.2] at hu ⊢; replace HV := Bx.mk hu; replace HC := Bx.mk (HC.out.trans hb); clear hu hb)
    | (go_at_call 48; have hz := HG1; clear hz; refine (Up.doU HV.out HC.out.size (fun S h => po_grow h HS2.out f HF.out.2)).mono ?_; rintro e w3 ⟨rfl, hu, hb⟩; rw [HG.out.2.1] at hu ⊢; replace HV := Bx.mk hu; replace HC := Bx.mk (HC.out.trans hb); have HG2 := HG; clear hu hb)
    | (go_at_call 48; refine (Up.doU HV.out HC.out.size (fun S h => po_grow h HS2.out f1 HF.out.1)).mono ?_; rintro e w3 ⟨rfl, hu, hb⟩; rw [HG.out.1] at hu ⊢; replace HV := Bx.mk hu; replace HC := Bx.mk (HC.out.trans hb); have HG1 := HG; clear hu hb)
    | (go_at_call 52; refine (Up.readU HV.out fun S h => po_may h).mono ?_; rintro e w3 ⟨rfl, rfl⟩))
  go_ret
  exact ⟨rfl, HB.out.trans (HC.out.mono HB.out.size)⟩
set_option maxRecDepth 100000 in
set_option maxHeartbeats 4000000 in
theorem we_131 (n d u s0 s1 s2 d2 f : Int) (w : World) (HK : Bx (Calls Try.prog 42 #[] w fun e w' => e = .returned (.bool true) ∧ Below w.heap.size w w'))
    (HO : Bx (∀ w, Calls Try.prog 43 #[.int .i64 n] w fun e w' => ∃ q, e = .returned (.pointer (some ⟨q, 0, none⟩)) ∧ Up w.heap.size (Po q s0) w' ∧ Below w.heap.size w w'))
    (hn : min (max n (-2147483647)) 2147483647 = s0) (hd : d.tmod 4294967294 = d2) (h0 : s0 + d2 = s1) (h1 : wrap64 s1 = s1) (hd' : IntKind.i64.wrap d2 = d2) (HS0 : Bx (oOk s0)) (HD2 : Bx (i64R d2)) (HU : Bx (i64R u))
    (ha1 : decide (s1 ≤ 2147483647) = true) (ha2 : decide (-2147483647 ≤ s1) = true) (HSH : Bx (oShift s0 d2 = (true, s1))) (HS1 : Bx (oOk s1)) (hb1 : decide (0 ≤ u) = true) (hb2 : decide (u ≤ max s1 0) = true) (HUS : Bx (oUse s1 u = (true, s2))) (hs20 : s1 - u = s2) (hs2 : wrap64 s2 = s2) (HS2 : Bx (oOk s2)) (hf0 : 2147483647 - s2 = f) (hf : wrap64 f = f) (hf1 : decide (f < 1) = true) :
    Calls Try.prog 14 #[.int .i64 n, .int .i64 d, .int .i64 u] w fun e w' => e = .returned (.bool true) ∧ Below w.heap.size w w' := by
  go_enter Try.func14, Try.ntmps14
  go_wp2_with (first
    | (go_at_call 42; refine HK.out.mono ?_; rintro e w1 ⟨rfl, b1⟩; have HB := Bx.mk b1; clear b1)
    | (go_at_call 43; refine (HO.out w1).mono ?_; rintro e w2 ⟨q, rfl, hu, hb⟩; have HV := Bx.mk hu; have HC := Bx.mk hb; clear hu hb)
    | (go_at_call 50; refine (Up.doU HV.out HC.out.size (fun S h => po_shift h HS0.out d2 HD2.out)).mono ?_; rintro e w3 ⟨rfl, hu, hb⟩; rw [HSH.out] at hu ⊢; replace HV := Bx.mk hu; replace HC := Bx.mk (HC.out.trans hb); clear hu hb)
    | (go_at_call 46; refine (Up.doU HV.out HC.out.size (fun S h => po_use h HS1.out u HU.out)).mono ?_; rintro e w3 ⟨rfl, hu, hb⟩; rw [HUS.out] at hu ⊢; replace HV := Bx.mk hu; replace HC := Bx.mk (HC.out.trans hb); clear hu hb)
    | (go_at_call 52; refine (Up.readU HV.out fun S h => po_may h).mono ?_; rintro e w3 ⟨rfl, rfl⟩))
  go_ret
  exact ⟨rfl, HB.out.trans (HC.out.mono HB.out.size)⟩
set_option maxRecDepth 100000 in
set_option maxHeartbeats 4000000 in
theorem we_132 (n d u s0 s1 s2 d2 f : Int) (w : World) (HK : Bx (Calls Try.prog 42 #[] w fun e w' => e = .returned (.bool true) ∧ Below w.heap.size w w'))
    (HO : Bx (∀ w, Calls Try.prog 43 #[.int .i64 n] w fun e w' => ∃ q, e = .returned (.pointer (some ⟨q, 0, none⟩)) ∧ Up w.heap.size (Po q s0) w' ∧ Below w.heap.size w w'))
    (hn : min (max n (-2147483647)) 2147483647 = s0) (hd : d.tmod 4294967294 = d2) (h0 : s0 + d2 = s1) (h1 : wrap64 s1 = s1) (hd' : IntKind.i64.wrap d2 = d2) (HS0 : Bx (oOk s0)) (HD2 : Bx (i64R d2)) (HU : Bx (i64R u))
    (ha1 : decide (s1 ≤ 2147483647) = true) (ha2 : decide (-2147483647 ≤ s1) = true) (HSH : Bx (oShift s0 d2 = (true, s1))) (HS1 : Bx (oOk s1)) (hb1 : decide (0 ≤ u) = true) (hb2 : decide (u ≤ max s1 0) = true) (HUS : Bx (oUse s1 u = (true, s2))) (hs20 : s1 - u = s2) (hs2 : wrap64 s2 = s2) (HS2 : Bx (oOk s2)) (hf0 : 2147483647 - s2 = f) (hf : wrap64 f = f) (hf1 : decide (f < 1) = false) (f1 : Int) (hf20 : f + 1 = f1) (hf2 : wrap64 f1 = f1) (HG : Bx (oGrow s2 f1 = (false, s2) ∧ oGrow s2 f = (true, 2147483647) ∧ oGrow 2147483647 1 = (false, 2147483647))) (HF : Bx (i64R f1 ∧ i64R f)) :
    Calls Try.prog 14 #[.int .i64 n, .int .i64 d, .int .i64 u] w fun e w' => e = .returned (.bool true) ∧ Below w.heap.size w w' := by
  go_enter Try.func14, Try.ntmps14
  go_wp2_with (first
    | (go_at_call 42; refine HK.out.mono ?_; rintro e w1 ⟨rfl, b1⟩; have HB := Bx.mk b1; clear b1)
    | (go_at_call 43; refine (HO.out w1).mono ?_; rintro e w2 ⟨q, rfl, hu, hb⟩; have HV := Bx.mk hu; have HC := Bx.mk hb; clear hu hb)
    | (go_at_call 50; refine (Up.doU HV.out HC.out.size (fun S h => po_shift h HS0.out d2 HD2.out)).mono ?_; rintro e w3 ⟨rfl, hu, hb⟩; rw [HSH.out] at hu ⊢; replace HV := Bx.mk hu; replace HC := Bx.mk (HC.out.trans hb); clear hu hb)
    | (go_at_call 46; refine (Up.doU HV.out HC.out.size (fun S h => po_use h HS1.out u HU.out)).mono ?_; rintro e w3 ⟨rfl, hu, hb⟩; rw [HUS.out] at hu ⊢; replace HV := Bx.mk hu; replace HC := Bx.mk (HC.out.trans hb); clear hu hb)
    | (go_at_call 48; have hz := HG2; clear hz; refine (Up.doU HV.out HC.out.size (fun S h => po_grow h ⟨by omega, by omega⟩ 1 ⟨by omega, by omega⟩)).mono ?_; rintro e w3 ⟨rfl, hu, hb⟩; rw [HG.out.2.2] at hu ⊢; replace HV := Bx.mk hu; replace HC := Bx.mk (HC.out.trans hb); clear hu hb)
    | (go_at_call 48; have hz := HG1; clear hz; refine (Up.doU HV.out HC.out.size (fun S h => po_grow h HS2.out f HF.out.2)).mono ?_; rintro e w3 ⟨rfl, hu, hb⟩; rw [HG.out.2.1] at hu ⊢; replace HV := Bx.mk hu; replace HC := Bx.mk (HC.out.trans hb); have HG2 := HG; clear hu hb)
    | (go_at_call 48; refine (Up.doU HV.out HC.out.size (fun S h => po_grow h HS2.out f1 HF.out.1)).mono ?_; rintro e w3 ⟨rfl, hu, hb⟩; rw [HG.out.1] at hu ⊢; replace HV := Bx.mk hu; replace HC := Bx.mk (HC.out.trans hb); have HG1 := HG; clear hu hb)
    | (go_at_call 52; refine (Up.readU HV.out fun S h => po_may h).mono ?_; rintro e w3 ⟨rfl, rfl⟩))
  go_ret
  exact ⟨rfl, HB.out.trans (HC.out.mono HB.out.size)⟩
set_option maxRecDepth 100000 in
set_option maxHeartbeats 4000000 in
theorem we_211 (n d u s0 s1 s2 d2 f : Int) (w : World) (HK : Bx (Calls Try.prog 42 #[] w fun e w' => e = .returned (.bool true) ∧ Below w.heap.size w w'))
    (HO : Bx (∀ w, Calls Try.prog 43 #[.int .i64 n] w fun e w' => ∃ q, e = .returned (.pointer (some ⟨q, 0, none⟩)) ∧ Up w.heap.size (Po q s0) w' ∧ Below w.heap.size w w'))
    (hn : min (max n (-2147483647)) 2147483647 = s0) (hd : d.tmod 4294967294 = d2) (h0 : s0 + d2 = s1) (h1 : wrap64 s1 = s1) (hd' : IntKind.i64.wrap d2 = d2) (HS0 : Bx (oOk s0)) (HD2 : Bx (i64R d2)) (HU : Bx (i64R u))
    (ha1 : decide (s1 ≤ 2147483647) = false) (HSH : Bx (oShift s0 d2 = (false, s0))) (HS1 : Bx (oOk s0)) (hb1 : decide (0 ≤ u) = false) (HUS : Bx (oUse s0 u = (false, s0))) (HS2 : Bx (oOk s0)) (hf0 : 2147483647 - s0 = f) (hf : wrap64 f = f) (hf1 : decide (f < 1) = true) :
    Calls Try.prog 14 #[.int .i64 n, .int .i64 d, .int .i64 u] w fun e w' => e = .returned (.bool true) ∧ Below w.heap.size w w' := by
  go_enter Try.func14, Try.ntmps14
  go_wp2_with (first
    | (go_at_call 42; refine HK.out.mono ?_; rintro e w1 ⟨rfl, b1⟩; have HB := Bx.mk b1; clear b1)
    | (go_at_call 43; refine (HO.out w1).mono ?_; rintro e w2 ⟨q, rfl, hu, hb⟩; have HV := Bx.mk hu; have HC := Bx.mk hb; clear hu hb)
    | (go_at_call 50; refine (Up.doU HV.out HC.out.size (fun S h => po_shift h HS0.out d2 HD2.out)).mono ?_; rintro e w3 ⟨rfl, hu, hb⟩; rw [HSH.out] at hu ⊢; replace HV := Bx.mk hu; replace HC := Bx.mk (HC.out.trans hb); clear hu hb)
    | (go_at_call 46; refine (Up.doU HV.out HC.out.size (fun S h => po_use h HS1.out u HU.out)).mono ?_; rintro e w3 ⟨rfl, hu, hb⟩; rw [HUS.out] at hu ⊢; replace HV := Bx.mk hu; replace HC := Bx.mk (HC.out.trans hb); clear hu hb)
    | (go_at_call 52; refine (Up.readU HV.out fun S h => po_may h).mono ?_; rintro e w3 ⟨rfl, rfl⟩))
  go_ret
  exact ⟨rfl, HB.out.trans (HC.out.mono HB.out.size)⟩
set_option maxRecDepth 100000 in
set_option maxHeartbeats 4000000 in
theorem we_212 (n d u s0 s1 s2 d2 f : Int) (w : World) (HK : Bx (Calls Try.prog 42 #[] w fun e w' => e = .returned (.bool true) ∧ Below w.heap.size w w'))
    (HO : Bx (∀ w, Calls Try.prog 43 #[.int .i64 n] w fun e w' => ∃ q, e = .returned (.pointer (some ⟨q, 0, none⟩)) ∧ Up w.heap.size (Po q s0) w' ∧ Below w.heap.size w w'))
    (hn : min (max n (-2147483647)) 2147483647 = s0) (hd : d.tmod 4294967294 = d2) (h0 : s0 + d2 = s1) (h1 : wrap64 s1 = s1) (hd' : IntKind.i64.wrap d2 = d2) (HS0 : Bx (oOk s0)) (HD2 : Bx (i64R d2)) (HU : Bx (i64R u))
    (ha1 : decide (s1 ≤ 2147483647) = false) (HSH : Bx (oShift s0 d2 = (false, s0))) (HS1 : Bx (oOk s0)) (hb1 : decide (0 ≤ u) = false) (HUS : Bx (oUse s0 u = (false, s0))) (HS2 : Bx (oOk s0)) (hf0 : 2147483647 - s0 = f) (hf : wrap64 f = f) (hf1 : decide (f < 1) = false) (f1 : Int) (hf20 : f + 1 = f1) (hf2 : wrap64 f1 = f1) (HG : Bx (oGrow s0 f1 = (false, s0) ∧ oGrow s0 f = (true, 2147483647) ∧ oGrow 2147483647 1 = (false, 2147483647))) (HF : Bx (i64R f1 ∧ i64R f)) :
    Calls Try.prog 14 #[.int .i64 n, .int .i64 d, .int .i64 u] w fun e w' => e = .returned (.bool true) ∧ Below w.heap.size w w' := by
  go_enter Try.func14, Try.ntmps14
  go_wp2_with (first
    | (go_at_call 42; refine HK.out.mono ?_; rintro e w1 ⟨rfl, b1⟩; have HB := Bx.mk b1; clear b1)
    | (go_at_call 43; refine (HO.out w1).mono ?_; rintro e w2 ⟨q, rfl, hu, hb⟩; have HV := Bx.mk hu; have HC := Bx.mk hb; clear hu hb)
    | (go_at_call 50; refine (Up.doU HV.out HC.out.size (fun S h => po_shift h HS0.out d2 HD2.out)).mono ?_; rintro e w3 ⟨rfl, hu, hb⟩; rw [HSH.out] at hu ⊢; replace HV := Bx.mk hu; replace HC := Bx.mk (HC.out.trans hb); clear hu hb)
    | (go_at_call 46; refine (Up.doU HV.out HC.out.size (fun S h => po_use h HS1.out u HU.out)).mono ?_; rintro e w3 ⟨rfl, hu, hb⟩; rw [HUS.out] at hu ⊢; replace HV := Bx.mk hu; replace HC := Bx.mk (HC.out.trans hb); clear hu hb)
    | (go_at_call 48; have hz := HG2; clear hz; refine (Up.doU HV.out HC.out.size (fun S h => po_grow h ⟨by omega, by omega⟩ 1 ⟨by omega, by omega⟩)).mono ?_; rintro e w3 ⟨rfl, hu, hb⟩; rw [HG.out.2.2] at hu ⊢; replace HV := Bx.mk hu; replace HC := Bx.mk (HC.out.trans hb); clear hu hb)
    | (go_at_call 48; have hz := HG1; clear hz; refine (Up.doU HV.out HC.out.size (fun S h => po_grow h HS2.out f HF.out.2)).mono ?_; rintro e w3 ⟨rfl, hu, hb⟩; rw [HG.out.2.1] at hu ⊢; replace HV := Bx.mk hu; replace HC := Bx.mk (HC.out.trans hb); have HG2 := HG; clear hu hb)
    | (go_at_call 48; refine (Up.doU HV.out HC.out.size (fun S h => po_grow h HS2.out f1 HF.out.1)).mono ?_; rintro e w3 ⟨rfl, hu, hb⟩; rw [HG.out.1] at hu ⊢; replace HV := Bx.mk hu; replace HC := Bx.mk (HC.out.trans hb); have HG1 := HG; clear hu hb)
    | (go_at_call 52; refine (Up.readU HV.out fun S h => po_may h).mono ?_; rintro e w3 ⟨rfl, rfl⟩))
  go_ret
  exact ⟨rfl, HB.out.trans (HC.out.mono HB.out.size)⟩
set_option maxRecDepth 100000 in
set_option maxHeartbeats 4000000 in
theorem we_221 (n d u s0 s1 s2 d2 f : Int) (w : World) (HK : Bx (Calls Try.prog 42 #[] w fun e w' => e = .returned (.bool true) ∧ Below w.heap.size w w'))
    (HO : Bx (∀ w, Calls Try.prog 43 #[.int .i64 n] w fun e w' => ∃ q, e = .returned (.pointer (some ⟨q, 0, none⟩)) ∧ Up w.heap.size (Po q s0) w' ∧ Below w.heap.size w w'))
    (hn : min (max n (-2147483647)) 2147483647 = s0) (hd : d.tmod 4294967294 = d2) (h0 : s0 + d2 = s1) (h1 : wrap64 s1 = s1) (hd' : IntKind.i64.wrap d2 = d2) (HS0 : Bx (oOk s0)) (HD2 : Bx (i64R d2)) (HU : Bx (i64R u))
    (ha1 : decide (s1 ≤ 2147483647) = false) (HSH : Bx (oShift s0 d2 = (false, s0))) (HS1 : Bx (oOk s0)) (hb1 : decide (0 ≤ u) = true) (hb2 : decide (u ≤ max s0 0) = false) (HUS : Bx (oUse s0 u = (false, s0))) (HS2 : Bx (oOk s0)) (hf0 : 2147483647 - s0 = f) (hf : wrap64 f = f) (hf1 : decide (f < 1) = true) :
    Calls Try.prog 14 #[.int .i64 n, .int .i64 d, .int .i64 u] w fun e w' => e = .returned (.bool true) ∧ Below w.heap.size w w' := by
  go_enter Try.func14, Try.ntmps14
  go_wp2_with (first
    | (go_at_call 42; refine HK.out.mono ?_; rintro e w1 ⟨rfl, b1⟩; have HB := Bx.mk b1; clear b1)
    | (go_at_call 43; refine (HO.out w1).mono ?_; rintro e w2 ⟨q, rfl, hu, hb⟩; have HV := Bx.mk hu; have HC := Bx.mk hb; clear hu hb)
    | (go_at_call 50; refine (Up.doU HV.out HC.out.size (fun S h => po_shift h HS0.out d2 HD2.out)).mono ?_; rintro e w3 ⟨rfl, hu, hb⟩; rw [HSH.out] at hu ⊢; replace HV := Bx.mk hu; replace HC := Bx.mk (HC.out.trans hb); clear hu hb)
    | (go_at_call 46; refine (Up.doU HV.out HC.out.size (fun S h => po_use h HS1.out u HU.out)).mono ?_; rintro e w3 ⟨rfl, hu, hb⟩; rw [HUS.out] at hu ⊢; replace HV := Bx.mk hu; replace HC := Bx.mk (HC.out.trans hb); clear hu hb)
    | (go_at_call 52; refine (Up.readU HV.out fun S h => po_may h).mono ?_; rintro e w3 ⟨rfl, rfl⟩))
  go_ret
  exact ⟨rfl, HB.out.trans (HC.out.mono HB.out.size)⟩
set_option maxRecDepth 100000 in
set_option maxHeartbeats 4000000 in
theorem we_222 (n d u s0 s1 s2 d2 f : Int) (w : World) (HK : Bx (Calls Try.prog 42 #[] w fun e w' => e = .returned (.bool true) ∧ Below w.heap.size w w'))
    (HO : Bx (∀ w, Calls Try.prog 43 #[.int .i64 n] w fun e w' => ∃ q, e = .returned (.pointer (some ⟨q, 0, none⟩)) ∧ Up w.heap.size (Po q s0) w' ∧ Below w.heap.size w w'))
    (hn : min (max n (-2147483647)) 2147483647 = s0) (hd : d.tmod 4294967294 = d2) (h0 : s0 + d2 = s1) (h1 : wrap64 s1 = s1) (hd' : IntKind.i64.wrap d2 = d2) (HS0 : Bx (oOk s0)) (HD2 : Bx (i64R d2)) (HU : Bx (i64R u))
    (ha1 : decide (s1 ≤ 2147483647) = false) (HSH : Bx (oShift s0 d2 = (false, s0))) (HS1 : Bx (oOk s0)) (hb1 : decide (0 ≤ u) = true) (hb2 : decide (u ≤ max s0 0) = false) (HUS : Bx (oUse s0 u = (false, s0))) (HS2 : Bx (oOk s0)) (hf0 : 2147483647 - s0 = f) (hf : wrap64 f = f) (hf1 : decide (f < 1) = false) (f1 : Int) (hf20 : f + 1 = f1) (hf2 : wrap64 f1 = f1) (HG : Bx (oGrow s0 f1 = (false, s0) ∧ oGrow s0 f = (true, 2147483647) ∧ oGrow 2147483647 1 = (false, 2147483647))) (HF : Bx (i64R f1 ∧ i64R f)) :
    Calls Try.prog 14 #[.int .i64 n, .int .i64 d, .int .i64 u] w fun e w' => e = .returned (.bool true) ∧ Below w.heap.size w w' := by
  go_enter Try.func14, Try.ntmps14
  go_wp2_with (first
    | (go_at_call 42; refine HK.out.mono ?_; rintro e w1 ⟨rfl, b1⟩; have HB := Bx.mk b1; clear b1)
    | (go_at_call 43; refine (HO.out w1).mono ?_; rintro e w2 ⟨q, rfl, hu, hb⟩; have HV := Bx.mk hu; have HC := Bx.mk hb; clear hu hb)
    | (go_at_call 50; refine (Up.doU HV.out HC.out.size (fun S h => po_shift h HS0.out d2 HD2.out)).mono ?_; rintro e w3 ⟨rfl, hu, hb⟩; rw [HSH.out] at hu ⊢; replace HV := Bx.mk hu; replace HC := Bx.mk (HC.out.trans hb); clear hu hb)
    | (go_at_call 46; refine (Up.doU HV.out HC.out.size (fun S h => po_use h HS1.out u HU.out)).mono ?_; rintro e w3 ⟨rfl, hu, hb⟩; rw [HUS.out] at hu ⊢; replace HV := Bx.mk hu; replace HC := Bx.mk (HC.out.trans hb); clear hu hb)
    | (go_at_call 48; have hz := HG2; clear hz; refine (Up.doU HV.out HC.out.size (fun S h => po_grow h ⟨by omega, by omega⟩ 1 ⟨by omega, by omega⟩)).mono ?_; rintro e w3 ⟨rfl, hu, hb⟩; rw [HG.out.2.2] at hu ⊢; replace HV := Bx.mk hu; replace HC := Bx.mk (HC.out.trans hb); clear hu hb)
    | (go_at_call 48; have hz := HG1; clear hz; refine (Up.doU HV.out HC.out.size (fun S h => po_grow h HS2.out f HF.out.2)).mono ?_; rintro e w3 ⟨rfl, hu, hb⟩; rw [HG.out.2.1] at hu ⊢; replace HV := Bx.mk hu; replace HC := Bx.mk (HC.out.trans hb); have HG2 := HG; clear hu hb)
    | (go_at_call 48; refine (Up.doU HV.out HC.out.size (fun S h => po_grow h HS2.out f1 HF.out.1)).mono ?_; rintro e w3 ⟨rfl, hu, hb⟩; rw [HG.out.1] at hu ⊢; replace HV := Bx.mk hu; replace HC := Bx.mk (HC.out.trans hb); have HG1 := HG; clear hu hb)
    | (go_at_call 52; refine (Up.readU HV.out fun S h => po_may h).mono ?_; rintro e w3 ⟨rfl, rfl⟩))
  go_ret
  exact ⟨rfl, HB.out.trans (HC.out.mono HB.out.size)⟩
set_option maxRecDepth 100000 in
set_option maxHeartbeats 4000000 in
theorem we_231 (n d u s0 s1 s2 d2 f : Int) (w : World) (HK : Bx (Calls Try.prog 42 #[] w fun e w' => e = .returned (.bool true) ∧ Below w.heap.size w w'))
    (HO : Bx (∀ w, Calls Try.prog 43 #[.int .i64 n] w fun e w' => ∃ q, e = .returned (.pointer (some ⟨q, 0, none⟩)) ∧ Up w.heap.size (Po q s0) w' ∧ Below w.heap.size w w'))
    (hn : min (max n (-2147483647)) 2147483647 = s0) (hd : d.tmod 4294967294 = d2) (h0 : s0 + d2 = s1) (h1 : wrap64 s1 = s1) (hd' : IntKind.i64.wrap d2 = d2) (HS0 : Bx (oOk s0)) (HD2 : Bx (i64R d2)) (HU : Bx (i64R u))
    (ha1 : decide (s1 ≤ 2147483647) = false) (HSH : Bx (oShift s0 d2 = (false, s0))) (HS1 : Bx (oOk s0)) (hb1 : decide (0 ≤ u) = true) (hb2 : decide (u ≤ max s0 0) = true) (HUS : Bx (oUse s0 u = (true, s2))) (hs20 : s0 - u = s2) (hs2 : wrap64 s2 = s2) (HS2 : Bx (oOk s2)) (hf0 : 2147483647 - s2 = f) (hf : wrap64 f = f) (hf1 : decide (f < 1) = true) :
    Calls Try.prog 14 #[.int .i64 n, .int .i64 d, .int .i64 u] w fun e w' => e = .returned (.bool true) ∧ Below w.heap.size w w' := by
  go_enter Try.func14, Try.ntmps14
  go_wp2_with (first
    | (go_at_call 42; refine HK.out.mono ?_; rintro e w1 ⟨rfl, b1⟩; have HB := Bx.mk b1; clear b1)
    | (go_at_call 43; refine (HO.out w1).mono ?_; rintro e w2 ⟨q, rfl, hu, hb⟩; have HV := Bx.mk hu; have HC := Bx.mk hb; clear hu hb)
    | (go_at_call 50; refine (Up.doU HV.out HC.out.size (fun S h => po_shift h HS0.out d2 HD2.out)).mono ?_; rintro e w3 ⟨rfl, hu, hb⟩; rw [HSH.out] at hu ⊢; replace HV := Bx.mk hu; replace HC := Bx.mk (HC.out.trans hb); clear hu hb)
    | (go_at_call 46; refine (Up.doU HV.out HC.out.size (fun S h => po_use h HS1.out u HU.out)).mono ?_; rintro e w3 ⟨rfl, hu, hb⟩; rw [HUS.out] at hu ⊢; replace HV := Bx.mk hu; replace HC := Bx.mk (HC.out.trans hb); clear hu hb)
    | (go_at_call 52; refine (Up.readU HV.out fun S h => po_may h).mono ?_; rintro e w3 ⟨rfl, rfl⟩))
  go_ret
  exact ⟨rfl, HB.out.trans (HC.out.mono HB.out.size)⟩
set_option maxRecDepth 100000 in
set_option maxHeartbeats 4000000 in
theorem we_232 (n d u s0 s1 s2 d2 f : Int) (w : World) (HK : Bx (Calls Try.prog 42 #[] w fun e w' => e = .returned (.bool true) ∧ Below w.heap.size w w'))
    (HO : Bx (∀ w, Calls Try.prog 43 #[.int .i64 n] w fun e w' => ∃ q, e = .returned (.pointer (some ⟨q, 0, none⟩)) ∧ Up w.heap.size (Po q s0) w' ∧ Below w.heap.size w w'))
    (hn : min (max n (-2147483647)) 2147483647 = s0) (hd : d.tmod 4294967294 = d2) (h0 : s0 + d2 = s1) (h1 : wrap64 s1 = s1) (hd' : IntKind.i64.wrap d2 = d2) (HS0 : Bx (oOk s0)) (HD2 : Bx (i64R d2)) (HU : Bx (i64R u))
    (ha1 : decide (s1 ≤ 2147483647) = false) (HSH : Bx (oShift s0 d2 = (false, s0))) (HS1 : Bx (oOk s0)) (hb1 : decide (0 ≤ u) = true) (hb2 : decide (u ≤ max s0 0) = true) (HUS : Bx (oUse s0 u = (true, s2))) (hs20 : s0 - u = s2) (hs2 : wrap64 s2 = s2) (HS2 : Bx (oOk s2)) (hf0 : 2147483647 - s2 = f) (hf : wrap64 f = f) (hf1 : decide (f < 1) = false) (f1 : Int) (hf20 : f + 1 = f1) (hf2 : wrap64 f1 = f1) (HG : Bx (oGrow s2 f1 = (false, s2) ∧ oGrow s2 f = (true, 2147483647) ∧ oGrow 2147483647 1 = (false, 2147483647))) (HF : Bx (i64R f1 ∧ i64R f)) :
    Calls Try.prog 14 #[.int .i64 n, .int .i64 d, .int .i64 u] w fun e w' => e = .returned (.bool true) ∧ Below w.heap.size w w' := by
  go_enter Try.func14, Try.ntmps14
  go_wp2_with (first
    | (go_at_call 42; refine HK.out.mono ?_; rintro e w1 ⟨rfl, b1⟩; have HB := Bx.mk b1; clear b1)
    | (go_at_call 43; refine (HO.out w1).mono ?_; rintro e w2 ⟨q, rfl, hu, hb⟩; have HV := Bx.mk hu; have HC := Bx.mk hb; clear hu hb)
    | (go_at_call 50; refine (Up.doU HV.out HC.out.size (fun S h => po_shift h HS0.out d2 HD2.out)).mono ?_; rintro e w3 ⟨rfl, hu, hb⟩; rw [HSH.out] at hu ⊢; replace HV := Bx.mk hu; replace HC := Bx.mk (HC.out.trans hb); clear hu hb)
    | (go_at_call 46; refine (Up.doU HV.out HC.out.size (fun S h => po_use h HS1.out u HU.out)).mono ?_; rintro e w3 ⟨rfl, hu, hb⟩; rw [HUS.out] at hu ⊢; replace HV := Bx.mk hu; replace HC := Bx.mk (HC.out.trans hb); clear hu hb)
    | (go_at_call 48; have hz := HG2; clear hz; refine (Up.doU HV.out HC.out.size (fun S h => po_grow h ⟨by omega, by omega⟩ 1 ⟨by omega, by omega⟩)).mono ?_; rintro e w3 ⟨rfl, hu, hb⟩; rw [HG.out.2.2] at hu ⊢; replace HV := Bx.mk hu; replace HC := Bx.mk (HC.out.trans hb); clear hu hb)
    | (go_at_call 48; have hz := HG1; clear hz; refine (Up.doU HV.out HC.out.size (fun S h => po_grow h HS2.out f HF.out.2)).mono ?_; rintro e w3 ⟨rfl, hu, hb⟩; rw [HG.out.2.1] at hu ⊢; replace HV := Bx.mk hu; replace HC := Bx.mk (HC.out.trans hb); have HG2 := HG; clear hu hb)
    | (go_at_call 48; refine (Up.doU HV.out HC.out.size (fun S h => po_grow h HS2.out f1 HF.out.1)).mono ?_; rintro e w3 ⟨rfl, hu, hb⟩; rw [HG.out.1] at hu ⊢; replace HV := Bx.mk hu; replace HC := Bx.mk (HC.out.trans hb); have HG1 := HG; clear hu hb)
    | (go_at_call 52; refine (Up.readU HV.out fun S h => po_may h).mono ?_; rintro e w3 ⟨rfl, rfl⟩))
  go_ret
  exact ⟨rfl, HB.out.trans (HC.out.mono HB.out.size)⟩
set_option maxRecDepth 100000 in
set_option maxHeartbeats 4000000 in
theorem we_311 (n d u s0 s1 s2 d2 f : Int) (w : World) (HK : Bx (Calls Try.prog 42 #[] w fun e w' => e = .returned (.bool true) ∧ Below w.heap.size w w'))
    (HO : Bx (∀ w, Calls Try.prog 43 #[.int .i64 n] w fun e w' => ∃ q, e = .returned (.pointer (some ⟨q, 0, none⟩)) ∧ Up w.heap.size (Po q s0) w' ∧ Below w.heap.size w w'))
    (hn : min (max n (-2147483647)) 2147483647 = s0) (hd : d.tmod 4294967294 = d2) (h0 : s0 + d2 = s1) (h1 : wrap64 s1 = s1) (hd' : IntKind.i64.wrap d2 = d2) (HS0 : Bx (oOk s0)) (HD2 : Bx (i64R d2)) (HU : Bx (i64R u))
    (ha1 : decide (s1 ≤ 2147483647) = true) (ha2 : decide (-2147483647 ≤ s1) = false) (HSH : Bx (oShift s0 d2 = (false, s0))) (HS1 : Bx (oOk s0)) (hb1 : decide (0 ≤ u) = false) (HUS : Bx (oUse s0 u = (false, s0))) (HS2 : Bx (oOk s0)) (hf0 : 2147483647 - s0 = f) (hf : wrap64 f = f) (hf1 : decide (f < 1) = true) :
    Calls Try.prog 14 #[.int .i64 n, .int .i64 d, .int .i64 u] w fun e w' => e = .returned (.bool true) ∧ Below w.heap.size w w' := by
  go_enter Try.func14, Try.ntmps14
  go_wp2_with (first
    | (go_at_call 42; refine HK.out.mono ?_; rintro e w1 ⟨rfl, b1⟩; have HB := Bx.mk b1; clear b1)
    | (go_at_call 43; refine (HO.out w1).mono ?_; rintro e w2 ⟨q, rfl, hu, hb⟩; have HV := Bx.mk hu; have HC := Bx.mk hb; clear hu hb)
    | (go_at_call 50; refine (Up.doU HV.out HC.out.size (fun S h => po_shift h HS0.out d2 HD2.out)).mono ?_; rintro e w3 ⟨rfl, hu, hb⟩; rw [HSH.out] at hu ⊢; replace HV := Bx.mk hu; replace HC := Bx.mk (HC.out.trans hb); clear hu hb)
    | (go_at_call 46; refine (Up.doU HV.out HC.out.size (fun S h => po_use h HS1.out u HU.out)).mono ?_; rintro e w3 ⟨rfl, hu, hb⟩; rw [HUS.out] at hu ⊢; replace HV := Bx.mk hu; replace HC := Bx.mk (HC.out.trans hb); clear hu hb)
    | (go_at_call 52; refine (Up.readU HV.out fun S h => po_may h).mono ?_; rintro e w3 ⟨rfl, rfl⟩))
  go_ret
  exact ⟨rfl, HB.out.trans (HC.out.mono HB.out.size)⟩
set_option maxRecDepth 100000 in
set_option maxHeartbeats 4000000 in
theorem we_312 (n d u s0 s1 s2 d2 f : Int) (w : World) (HK : Bx (Calls Try.prog 42 #[] w fun e w' => e = .returned (.bool true) ∧ Below w.heap.size w w'))
    (HO : Bx (∀ w, Calls Try.prog 43 #[.int .i64 n] w fun e w' => ∃ q, e = .returned (.pointer (some ⟨q, 0, none⟩)) ∧ Up w.heap.size (Po q s0) w' ∧ Below w.heap.size w w'))
    (hn : min (max n (-2147483647)) 2147483647 = s0) (hd : d.tmod 4294967294 = d2) (h0 : s0 + d2 = s1) (h1 : wrap64 s1 = s1) (hd' : IntKind.i64.wrap d2 = d2) (HS0 : Bx (oOk s0)) (HD2 : Bx (i64R d2)) (HU : Bx (i64R u))
    (ha1 : decide (s1 ≤ 2147483647) = true) (ha2 : decide (-2147483647 ≤ s1) = false) (HSH : Bx (oShift s0 d2 = (false, s0))) (HS1 : Bx (oOk s0)) (hb1 : decide (0 ≤ u) = false) (HUS : Bx (oUse s0 u = (false, s0))) (HS2 : Bx (oOk s0)) (hf0 : 2147483647 - s0 = f) (hf : wrap64 f = f) (hf1 : decide (f < 1) = false) (f1 : Int) (hf20 : f + 1 = f1) (hf2 : wrap64 f1 = f1) (HG : Bx (oGrow s0 f1 = (false, s0) ∧ oGrow s0 f = (true, 2147483647) ∧ oGrow 2147483647 1 = (false, 2147483647))) (HF : Bx (i64R f1 ∧ i64R f)) :
    Calls Try.prog 14 #[.int .i64 n, .int .i64 d, .int .i64 u] w fun e w' => e = .returned (.bool true) ∧ Below w.heap.size w w' := by
  go_enter Try.func14, Try.ntmps14
  go_wp2_with (first
    | (go_at_call 42; refine HK.out.mono ?_; rintro e w1 ⟨rfl, b1⟩; have HB := Bx.mk b1; clear b1)
    | (go_at_call 43; refine (HO.out w1).mono ?_; rintro e w2 ⟨q, rfl, hu, hb⟩; have HV := Bx.mk hu; have HC := Bx.mk hb; clear hu hb)
    | (go_at_call 50; refine (Up.doU HV.out HC.out.size (fun S h => po_shift h HS0.out d2 HD2.out)).mono ?_; rintro e w3 ⟨rfl, hu, hb⟩; rw [HSH.out] at hu ⊢; replace HV := Bx.mk hu; replace HC := Bx.mk (HC.out.trans hb); clear hu hb)
    | (go_at_call 46; refine (Up.doU HV.out HC.out.size (fun S h => po_use h HS1.out u HU.out)).mono ?_; rintro e w3 ⟨rfl, hu, hb⟩; rw [HUS.out] at hu ⊢; replace HV := Bx.mk hu; replace HC := Bx.mk (HC.out.trans hb); clear hu hb)
    | (go_at_call 48; have hz := HG2; clear hz; refine (Up.doU HV.out HC.out.size (fun S h => po_grow h ⟨by omega, by omega⟩ 1 ⟨by omega, by omega⟩)).mono ?_; rintro e w3 ⟨rfl, hu, hb⟩; rw [HG.out.2.2] at hu ⊢; replace HV := Bx.mk hu; replace HC := Bx.mk (HC.out.trans hb); clear hu hb)
    | (go_at_call 48; have hz := HG1; clear hz; refine (Up.doU HV.out HC.out.size (fun S h => po_grow h HS2.out f HF.out.2)).mono ?_; rintro e w3 ⟨rfl, hu, hb⟩; rw [HG.out.2.1] at hu ⊢; replace HV := Bx.mk hu; replace HC := Bx.mk (HC.out.trans hb); have HG2 := HG; clear hu hb)
    | (go_at_call 48; refine (Up.doU HV.out HC.out.size (fun S h => po_grow h HS2.out f1 HF.out.1)).mono ?_; rintro e w3 ⟨rfl, hu, hb⟩; rw [HG.out.1] at hu ⊢; replace HV := Bx.mk hu; replace HC := Bx.mk (HC.out.trans hb); have HG1 := HG; clear hu hb)
    | (go_at_call 52; refine (Up.readU HV.out fun S h => po_may h).mono ?_; rintro e w3 ⟨rfl, rfl⟩))
  go_ret
  exact ⟨rfl, HB.out.trans (HC.out.mono HB.out.size)⟩
set_option maxRecDepth 100000 in
set_option maxHeartbeats 4000000 in
theorem we_321 (n d u s0 s1 s2 d2 f : Int) (w : World) (HK : Bx (Calls Try.prog 42 #[] w fun e w' => e = .returned (.bool true) ∧ Below w.heap.size w w'))
    (HO : Bx (∀ w, Calls Try.prog 43 #[.int .i64 n] w fun e w' => ∃ q, e = .returned (.pointer (some ⟨q, 0, none⟩)) ∧ Up w.heap.size (Po q s0) w' ∧ Below w.heap.size w w'))
    (hn : min (max n (-2147483647)) 2147483647 = s0) (hd : d.tmod 4294967294 = d2) (h0 : s0 + d2 = s1) (h1 : wrap64 s1 = s1) (hd' : IntKind.i64.wrap d2 = d2) (HS0 : Bx (oOk s0)) (HD2 : Bx (i64R d2)) (HU : Bx (i64R u))
    (ha1 : decide (s1 ≤ 2147483647) = true) (ha2 : decide (-2147483647 ≤ s1) = false) (HSH : Bx (oShift s0 d2 = (false, s0))) (HS1 : Bx (oOk s0)) (hb1 : decide (0 ≤ u) = true) (hb2 : decide (u ≤ max s0 0) = false) (HUS : Bx (oUse s0 u = (false, s0))) (HS2 : Bx (oOk s0)) (hf0 : 2147483647 - s0 = f) (hf : wrap64 f = f) (hf1 : decide (f < 1) = true) :
    Calls Try.prog 14 #[.int .i64 n, .int .i64 d, .int .i64 u] w fun e w' => e = .returned (.bool true) ∧ Below w.heap.size w w' := by
  go_enter Try.func14, Try.ntmps14
  go_wp2_with (first
    | (go_at_call 42; refine HK.out.mono ?_; rintro e w1 ⟨rfl, b1⟩; have HB := Bx.mk b1; clear b1)
    | (go_at_call 43; refine (HO.out w1).mono ?_; rintro e w2 ⟨q, rfl, hu, hb⟩; have HV := Bx.mk hu; have HC := Bx.mk hb; clear hu hb)
    | (go_at_call 50; refine (Up.doU HV.out HC.out.size (fun S h => po_shift h HS0.out d2 HD2.out)).mono ?_; rintro e w3 ⟨rfl, hu, hb⟩; rw [HSH.out] at hu ⊢; replace HV := Bx.mk hu; replace HC := Bx.mk (HC.out.trans hb); clear hu hb)
    | (go_at_call 46; refine (Up.doU HV.out HC.out.size (fun S h => po_use h HS1.out u HU.out)).mono ?_; rintro e w3 ⟨rfl, hu, hb⟩; rw [HUS.out] at hu ⊢; replace HV := Bx.mk hu; replace HC := Bx.mk (HC.out.trans hb); clear hu hb)
    | (go_at_call 52; refine (Up.readU HV.out fun S h => po_may h).mono ?_; rintro e w3 ⟨rfl, rfl⟩))
  go_ret
  exact ⟨rfl, HB.out.trans (HC.out.mono HB.out.size)⟩
set_option maxRecDepth 100000 in
set_option maxHeartbeats 4000000 in
theorem we_322 (n d u s0 s1 s2 d2 f : Int) (w : World) (HK : Bx (Calls Try.prog 42 #[] w fun e w' => e = .returned (.bool true) ∧ Below w.heap.size w w'))
    (HO : Bx (∀ w, Calls Try.prog 43 #[.int .i64 n] w fun e w' => ∃ q, e = .returned (.pointer (some ⟨q, 0, none⟩)) ∧ Up w.heap.size (Po q s0) w' ∧ Below w.heap.size w w'))
    (hn : min (max n (-2147483647)) 2147483647 = s0) (hd : d.tmod 4294967294 = d2) (h0 : s0 + d2 = s1) (h1 : wrap64 s1 = s1) (hd' : IntKind.i64.wrap d2 = d2) (HS0 : Bx (oOk s0)) (HD2 : Bx (i64R d2)) (HU : Bx (i64R u))
    (ha1 : decide (s1 ≤ 2147483647) = true) (ha2 : decide (-2147483647 ≤ s1) = false) (HSH : Bx (oShift s0 d2 = (false, s0))) (HS1 : Bx (oOk s0)) (hb1 : decide (0 ≤ u) = true) (hb2 : decide (u ≤ max s0 0) = false) (HUS : Bx (oUse s0 u = (false, s0))) (HS2 : Bx (oOk s0)) (hf0 : 2147483647 - s0 = f) (hf : wrap64 f = f) (hf1 : decide (f < 1) = false) (f1 : Int) (hf20 : f + 1 = f1) (hf2 : wrap64 f1 = f1) (HG : Bx (oGrow s0 f1 = (false, s0) ∧ oGrow s0 f = (true, 2147483647) ∧ oGrow 2147483647 1 = (false, 2147483647))) (HF : Bx (i64R f1 ∧ i64R f)) :
    Calls Try.prog 14 #[.int .i64 n, .int .i64 d, .int .i64 u] w fun e w' => e = .returned (.bool true) ∧ Below w.heap.size w w' := by
  go_enter Try.func14, Try.ntmps14
  go_wp2_with (first
    | (go_at_call 42; refine HK.out.mono ?_; rintro e w1 ⟨rfl, b1⟩; have HB := Bx.mk b1; clear b1)
    | (go_at_call 43; refine (HO.out w1).mono ?_; rintro e w2 ⟨q, rfl, hu, hb⟩; have HV := Bx.mk hu; have HC := Bx.mk hb; clear hu hb)
    | (go_at_call 50; refine (Up.doU HV.out HC.out.size (fun S h => po_shift h HS0.out d2 HD2.out)).mono ?_; rintro e w3 ⟨rfl, hu, hb⟩; rw [HSH.out] at hu ⊢; replace HV := Bx.mk hu; replace HC := Bx.mk (HC.out.trans hb); clear hu hb)
    | (go_at_call 46; refine (Up.doU HV.out HC.out.size (fun S h => po_use h HS1.out u HU.out)).mono ?_; rintro e w3 ⟨rfl, hu, hb⟩; rw [HUS.out] at hu ⊢; replace HV := Bx.mk hu; replace HC := Bx.mk (HC.out.trans hb); clear hu hb)
    | (go_at_call 48; have hz := HG2; clear hz; refine (Up.doU HV.out HC.out.size (fun S h => po_grow h ⟨by omega, by omega⟩ 1 ⟨by omega, by omega⟩)).mono ?_; rintro e w3 ⟨rfl, hu, hb⟩; rw [HG.out.2.2] at hu ⊢; replace HV := Bx.mk hu; replace HC := Bx.mk (HC.out.trans hb); clear hu hb)
    | (go_at_call 48; have hz := HG1; clear hz; refine (Up.doU HV.out HC.out.size (fun S h => po_grow h HS2.out f HF.out.2)).mono ?_; rintro e w3 ⟨rfl, hu, hb⟩; rw [HG.out.2.1] at hu ⊢; replace HV := Bx.mk hu; replace HC := Bx.mk (HC.out.trans hb); have HG2 := HG; clear hu hb)
    | (go_at_call 48; refine (Up.doU HV.out HC.out.size (fun S h => po_grow h HS2.out f1 HF.out.1)).mono ?_; rintro e w3 ⟨rfl, hu, hb⟩; rw [HG.out.1] at hu ⊢; replace HV := Bx.mk hu; replace HC := Bx.mk (HC.out.trans hb); have HG1 := HG; clear hu hb)
    | (go_at_call 52; refine (Up.readU HV.out fun S h => po_may h).mono ?_; rintro e w3 ⟨rfl, rfl⟩))
  go_ret
  exact ⟨rfl, HB.out.trans (HC.out.mono HB.out.size)⟩
set_option maxRecDepth 100000 in
set_option maxHeartbeats 4000000 in
theorem we_331 (n d u s0 s1 s2 d2 f : Int) (w : World) (HK : Bx (Calls Try.prog 42 #[] w fun e w' => e = .returned (.bool true) ∧ Below w.heap.size w w'))
    (HO : Bx (∀ w, Calls Try.prog 43 #[.int .i64 n] w fun e w' => ∃ q, e = .returned (.pointer (some ⟨q, 0, none⟩)) ∧ Up w.heap.size (Po q s0) w' ∧ Below w.heap.size w w'))
    (hn : min (max n (-2147483647)) 2147483647 = s0) (hd : d.tmod 4294967294 = d2) (h0 : s0 + d2 = s1) (h1 : wrap64 s1 = s1) (hd' : IntKind.i64.wrap d2 = d2) (HS0 : Bx (oOk s0)) (HD2 : Bx (i64R d2)) (HU : Bx (i64R u))
    (ha1 : decide (s1 ≤ 2147483647) = true) (ha2 : decide (-2147483647 ≤ s1) = false) (HSH : Bx (oShift s0 d2 = (false, s0))) (HS1 : Bx (oOk s0)) (hb1 : decide (0 ≤ u) = true) (hb2 : decide (u ≤ max s0 0) = true) (HUS : Bx (oUse s0 u = (true, s2))) (hs20 : s0 - u = s2) (hs2 : wrap64 s2 = s2) (HS2 : Bx (oOk s2)) (hf0 : 2147483647 - s2 = f) (hf : wrap64 f = f) (hf1 : decide (f < 1) = true) :
    Calls Try.prog 14 #[.int .i64 n, .int .i64 d, .int .i64 u] w fun e w' => e = .returned (.bool true) ∧ Below w.heap.size w w' := by
  go_enter Try.func14, Try.ntmps14
  go_wp2_with (first
    | (go_at_call 42; refine HK.out.mono ?_; rintro e w1 ⟨rfl, b1⟩; have HB := Bx.mk b1; clear b1)
    | (go_at_call 43; refine (HO.out w1).mono ?_; rintro e w2 ⟨q, rfl, hu, hb⟩; have HV := Bx.mk hu; have HC := Bx.mk hb; clear hu hb)
    | (go_at_call 50; refine (Up.doU HV.out HC.out.size (fun S h => po_shift h HS0.out d2 HD2.out)).mono ?_; rintro e w3 ⟨rfl, hu, hb⟩; rw [HSH.out] at hu ⊢; replace HV := Bx.mk hu; replace HC := Bx.mk (HC.out.trans hb); clear hu hb)
    | (go_at_call 46; refine (Up.doU HV.out HC.out.size (fun S h => po_use h HS1.out u HU.out)).mono ?_; rintro e w3 ⟨rfl, hu, hb⟩; rw [HUS.out] at hu ⊢; replace HV := Bx.mk hu; replace HC := Bx.mk (HC.out.trans hb); clear hu hb)
    | (go_at_call 52; refine (Up.readU HV.out fun S h => po_may h).mono ?_; rintro e w3 ⟨rfl, rfl⟩))
  go_ret
  exact ⟨rfl, HB.out.trans (HC.out.mono HB.out.size)⟩
set_option maxRecDepth 100000 in
set_option maxHeartbeats 4000000 in
theorem we_332 (n d u s0 s1 s2 d2 f : Int) (w : World) (HK : Bx (Calls Try.prog 42 #[] w fun e w' => e = .returned (.bool true) ∧ Below w.heap.size w w'))
    (HO : Bx (∀ w, Calls Try.prog 43 #[.int .i64 n] w fun e w' => ∃ q, e = .returned (.pointer (some ⟨q, 0, none⟩)) ∧ Up w.heap.size (Po q s0) w' ∧ Below w.heap.size w w'))
    (hn : min (max n (-2147483647)) 2147483647 = s0) (hd : d.tmod 4294967294 = d2) (h0 : s0 + d2 = s1) (h1 : wrap64 s1 = s1) (hd' : IntKind.i64.wrap d2 = d2) (HS0 : Bx (oOk s0)) (HD2 : Bx (i64R d2)) (HU : Bx (i64R u))
    (ha1 : decide (s1 ≤ 2147483647) = true) (ha2 : decide (-2147483647 ≤ s1) = false) (HSH : Bx (oShift s0 d2 = (false, s0))) (HS1 : Bx (oOk s0)) (hb1 : decide (0 ≤ u) = true) (hb2 : decide (u ≤ max s0 0) = true) (HUS : Bx (oUse s0 u = (true, s2))) (hs20 : s0 - u = s2) (hs2 : wrap64 s2 = s2) (HS2 : Bx (oOk s2)) (hf0 : 2147483647 - s2 = f) (hf : wrap64 f = f) (hf1 : decide (f < 1) = false) (f1 : Int) (hf20 : f + 1 = f1) (hf2 : wrap64 f1 = f1) (HG : Bx (oGrow s2 f1 = (false, s2) ∧ oGrow s2 f = (true, 2147483647) ∧ oGrow 2147483647 1 = (false, 2147483647))) (HF : Bx (i64R f1 ∧ i64R f)) :
    Calls Try.prog 14 #[.int .i64 n, .int .i64 d, .int .i64 u] w fun e w' => e = .returned (.bool true) ∧ Below w.heap.size w w' := by
  go_enter Try.func14, Try.ntmps14
  go_wp2_with (first
    | (go_at_call 42; refine HK.out.mono ?_; rintro e w1 ⟨rfl, b1⟩; have HB := Bx.mk b1; clear b1)
    | (go_at_call 43; refine (HO.out w1).mono ?_; rintro e w2 ⟨q, rfl, hu, hb⟩; have HV := Bx.mk hu; have HC := Bx.mk hb; clear hu hb)
    | (go_at_call 50; refine (Up.doU HV.out HC.out.size (fun S h => po_shift h HS0.out d2 HD2.out)).mono ?_; rintro e w3 ⟨rfl, hu, hb⟩; rw [HSH.out] at hu ⊢; replace HV := Bx.mk hu; replace HC := Bx.mk (HC.out.trans hb); clear hu hb)
    | (go_at_call 46; refine (Up.doU HV.out HC.out.size (fun S h => po_use h HS1.out u HU.out)).mono ?_; rintro e w3 ⟨rfl, hu, hb⟩; rw [HUS.out] at hu ⊢; replace HV := Bx.mk hu; replace HC := Bx.mk (HC.out.trans hb); clear hu hb)
    | (go_at_call 48; have hz := HG2; clear hz; refine (Up.doU HV.out HC.out.size (fun S h => po_grow h ⟨by omega, by omega⟩ 1 ⟨by omega, by omega⟩)).mono ?_; rintro e w3 ⟨rfl, hu, hb⟩; rw [HG.out.2.2] at hu ⊢; replace HV := Bx.mk hu; replace HC := Bx.mk (HC.out.trans hb); clear hu hb)
    | (go_at_call 48; have hz := HG1; clear hz; refine (Up.doU HV.out HC.out.size (fun S h => po_grow h HS2.out f HF.out.2)).mono ?_; rintro e w3 ⟨rfl, hu, hb⟩; rw [HG.out.2.1] at hu ⊢; replace HV := Bx.mk hu; replace HC := Bx.mk (HC.out.trans hb); have HG2 := HG; clear hu hb)
    | (go_at_call 48; refine (Up.doU HV.out HC.out.size (fun S h => po_grow h HS2.out f1 HF.out.1)).mono ?_; rintro e w3 ⟨rfl, hu, hb⟩; rw [HG.out.1] at hu ⊢; replace HV := Bx.mk hu; replace HC := Bx.mk (HC.out.trans hb); have HG1 := HG; clear hu hb)
    | (go_at_call 52; refine (Up.readU HV.out fun S h => po_may h).mono ?_; rintro e w3 ⟨rfl, rfl⟩))
  go_ret
  exact ⟨rfl, HB.out.trans (HC.out.mono HB.out.size)⟩
theorem windowEdges_walk (n d u : Int) (hn0 : (Lit.int .i64 n).wf = true) (hn1 : (Lit.int .i64 d).wf = true) (hn2 : (Lit.int .i64 u).wf = true) (w : World) :
    Calls Try.prog 14 #[.int .i64 n, .int .i64 d, .int .i64 u] w fun e w' => e = .returned (.bool true) ∧ Below w.heap.size w w' := by
  have rr : ∀ n : Int, (Lit.int .i64 n).wf = true → i64R n := fun n h => by
    simp [Lit.wf, IntKind.min, IntKind.max, IntKind.signed, IntKind.bits] at h
    exact ⟨by omega, by omega⟩
  have hu := rr u hn2
  have hd := rr d hn1
  have HK := Bx.mk (known14_any w)
  have HO := Bx.mk (po_new n)
  obtain ⟨s0, hs0⟩ : ∃ s, oNew n = s := ⟨_, rfl⟩
  have ok0 : oOk s0 := hs0 ▸ oOk.new n
  have hmin : min (max n (-2147483647)) 2147483647 = s0 := hs0
  rw [hs0] at HO
  obtain ⟨d2, hd2⟩ : ∃ x, d.tmod 4294967294 = x := ⟨_, rfl⟩
  have hdr : i64R d2 := hd2 ▸ tmod_in hd (by decide) (by decide)
  have hda := Int.lt_tmod_of_pos d (show (0 : Int) < 4294967294 by decide)
  have hdb := Int.tmod_lt_of_pos d (show (0 : Int) < 4294967294 by decide)
  rw [hd2] at hda hdb
  obtain ⟨o1, o2⟩ := id ok0
  obtain ⟨q1, q2⟩ := w64 (x := s0 + d2) (by omega) (by omega)
  obtain ⟨_, q3⟩ := w64 (x := d2) (by omega) (by omega)
  obtain ⟨s1, hs1⟩ : ∃ x, s0 + d2 = x := ⟨_, rfl⟩
  rw [hs1] at q1
  have hst := hs1
  clear rr hn0 hn1 hn2
  by_cases a1 : s1 ≤ 2147483647
  · have ha1 : decide (s1 ≤ 2147483647) = true := decide_eq_true a1
    by_cases a2 : -2147483647 ≤ s1
    · have ha2 : decide (-2147483647 ≤ s1) = true := decide_eq_true a2
      have hsh : oShift s0 d2 = (true, s1) := by unfold oShift; rw [hst, if_pos ⟨a2, a1⟩]
      have okA : oOk s1 := ⟨a2, a1⟩
      obtain ⟨k1, k2⟩ := id okA
      by_cases b1 : 0 ≤ u
      · have hb1 : decide (0 ≤ u) = true := decide_eq_true b1
        by_cases b2 : u ≤ max s1 0
        · have hb2 : decide (u ≤ max s1 0) = true := decide_eq_true b2
          obtain ⟨s2, hs2⟩ : ∃ x, s1 - u = x := ⟨_, rfl⟩
          have hus : oUse s1 u = (true, s2) := by unfold oUse; rw [if_pos ⟨b1, b2⟩, hs2]
          have hw2 : wrap64 s2 = s2 := (w64 (by omega) (by omega)).1
          have okB : oOk s2 := ⟨by omega, by omega⟩
          obtain ⟨p1, p2⟩ := id okB
          obtain ⟨f, hff⟩ : ∃ x, 2147483647 - s2 = x := ⟨_, rfl⟩
          have hf : wrap64 f = f := (w64 (by omega) (by omega)).1
          by_cases c1 : f < 1
          · have hf1 : decide (f < 1) = true := decide_eq_true c1
            exact we_131 n d u s0 s1 s2 d2 f w HK HO hmin hd2 hs1 q1 q3 ⟨ok0⟩ ⟨hdr⟩ ⟨hu⟩ ha1 ha2 ⟨hsh⟩ ⟨okA⟩ hb1 hb2 ⟨hus⟩ hs2 hw2 ⟨okB⟩ hff hf hf1
          · have hf1 : decide (f < 1) = false := decide_eq_false c1
            obtain ⟨f1, hff1⟩ : ∃ x, f + 1 = x := ⟨_, rfl⟩
            have hf2 : wrap64 f1 = f1 := (w64 (by omega) (by omega)).1
            have hfr : i64R f1 ∧ i64R f := ⟨⟨by omega, by omega⟩, ⟨by omega, by omega⟩⟩
            have hg : oGrow s2 f1 = (false, s2) ∧ oGrow s2 f = (true, 2147483647) ∧ oGrow 2147483647 1 = (false, 2147483647) := ⟨by unfold oGrow; rw [if_neg (by omega)], by unfold oGrow; rw [if_pos (by omega), show s2 + f = 2147483647 by omega], rfl⟩
            exact we_132 n d u s0 s1 s2 d2 f w HK HO hmin hd2 hs1 q1 q3 ⟨ok0⟩ ⟨hdr⟩ ⟨hu⟩ ha1 ha2 ⟨hsh⟩ ⟨okA⟩ hb1 hb2 ⟨hus⟩ hs2 hw2 ⟨okB⟩ hff hf hf1 f1 hff1 hf2 ⟨hg⟩ ⟨hfr⟩
        · have hb2 : decide (u ≤ max s1 0) = false := decide_eq_false b2
          have hus : oUse s1 u = (false, s1) := by unfold oUse; rw [if_neg (fun h => b2 h.2)]
          have okB := okA
          obtain ⟨p1, p2⟩ := id okB
          obtain ⟨f, hff⟩ : ∃ x, 2147483647 - s1 = x := ⟨_, rfl⟩
          have hf : wrap64 f = f := (w64 (by omega) (by omega)).1
          by_cases c1 : f < 1
          · have hf1 : decide (f < 1) = true := decide_eq_true c1
            exact we_121 n d u s0 s1 0 d2 f w HK HO hmin hd2 hs1 q1 q3 ⟨ok0⟩ ⟨hdr⟩ ⟨hu⟩ ha1 ha2 ⟨hsh⟩ ⟨okA⟩ hb1 hb2 ⟨hus⟩ ⟨okB⟩ hff hf hf1
          · have hf1 : decide (f < 1) = false := decide_eq_false c1
            obtain ⟨f1, hff1⟩ : ∃ x, f + 1 = x := ⟨_, rfl⟩
            have hf2 : wrap64 f1 = f1 := (w64 (by omega) (by omega)).1
            have hfr : i64R f1 ∧ i64R f := ⟨⟨by omega, by omega⟩, ⟨by omega, by omega⟩⟩
            have hg : oGrow s1 f1 = (false, s1) ∧ oGrow s1 f = (true, 2147483647) ∧ oGrow 2147483647 1 = (false, 2147483647) := ⟨by unfold oGrow; rw [if_neg (by omega)], by unfold oGrow; rw [if_pos (by omega), show s1 + f = 2147483647 by omega], rfl⟩
            exact we_122 n d u s0 s1 0 d2 f w HK HO hmin hd2 hs1 q1 q3 ⟨ok0⟩ ⟨hdr⟩ ⟨hu⟩ ha1 ha2 ⟨hsh⟩ ⟨okA⟩ hb1 hb2 ⟨hus⟩ ⟨okB⟩ hff hf hf1 f1 hff1 hf2 ⟨hg⟩ ⟨hfr⟩
      · have hb1 : decide (0 ≤ u) = false := decide_eq_false b1
        have hus : oUse s1 u = (false, s1) := by unfold oUse; rw [if_neg (fun h => b1 h.1)]
        have okB := okA
        obtain ⟨p1, p2⟩ := id okB
        obtain ⟨f, hff⟩ : ∃ x, 2147483647 - s1 = x := ⟨_, rfl⟩
        have hf : wrap64 f = f := (w64 (by omega) (by omega)).1
        by_cases c1 : f < 1
        · have hf1 : decide (f < 1) = true := decide_eq_true c1
          exact we_111 n d u s0 s1 0 d2 f w HK HO hmin hd2 hs1 q1 q3 ⟨ok0⟩ ⟨hdr⟩ ⟨hu⟩ ha1 ha2 ⟨hsh⟩ ⟨okA⟩ hb1 ⟨hus⟩ ⟨okB⟩ hff hf hf1
        · have hf1 : decide (f < 1) = false := decide_eq_false c1
          obtain ⟨f1, hff1⟩ : ∃ x, f + 1 = x := ⟨_, rfl⟩
          have hf2 : wrap64 f1 = f1 := (w64 (by omega) (by omega)).1
          have hfr : i64R f1 ∧ i64R f := ⟨⟨by omega, by omega⟩, ⟨by omega, by omega⟩⟩
          have hg : oGrow s1 f1 = (false, s1) ∧ oGrow s1 f = (true, 2147483647) ∧ oGrow 2147483647 1 = (false, 2147483647) := ⟨by unfold oGrow; rw [if_neg (by omega)], by unfold oGrow; rw [if_pos (by omega), show s1 + f = 2147483647 by omega], rfl⟩
          exact we_112 n d u s0 s1 0 d2 f w HK HO hmin hd2 hs1 q1 q3 ⟨ok0⟩ ⟨hdr⟩ ⟨hu⟩ ha1 ha2 ⟨hsh⟩ ⟨okA⟩ hb1 ⟨hus⟩ ⟨okB⟩ hff hf hf1 f1 hff1 hf2 ⟨hg⟩ ⟨hfr⟩
    · have ha2 : decide (-2147483647 ≤ s1) = false := decide_eq_false a2
      have hsh : oShift s0 d2 = (false, s0) := by unfold oShift; rw [hst, if_neg (fun h => a2 h.1)]
      have okA := ok0
      obtain ⟨k1, k2⟩ := id okA
      by_cases b1 : 0 ≤ u
      · have hb1 : decide (0 ≤ u) = true := decide_eq_true b1
        by_cases b2 : u ≤ max s0 0
        · have hb2 : decide (u ≤ max s0 0) = true := decide_eq_true b2
          obtain ⟨s2, hs2⟩ : ∃ x, s0 - u = x := ⟨_, rfl⟩
          have hus : oUse s0 u = (true, s2) := by unfold oUse; rw [if_pos ⟨b1, b2⟩, hs2]
          have hw2 : wrap64 s2 = s2 := (w64 (by omega) (by omega)).1
          have okB : oOk s2 := ⟨by omega, by omega⟩
          obtain ⟨p1, p2⟩ := id okB
          obtain ⟨f, hff⟩ : ∃ x, 2147483647 - s2 = x := ⟨_, rfl⟩
          have hf : wrap64 f = f := (w64 (by omega) (by omega)).1
          by_cases c1 : f < 1
          · have hf1 : decide (f < 1) = true := decide_eq_true c1
            exact we_331 n d u s0 s1 s2 d2 f w HK HO hmin hd2 hs1 q1 q3 ⟨ok0⟩ ⟨hdr⟩ ⟨hu⟩ ha1 ha2 ⟨hsh⟩ ⟨okA⟩ hb1 hb2 ⟨hus⟩ hs2 hw2 ⟨okB⟩ hff hf hf1
          · have hf1 : decide (f < 1) = false := decide_eq_false c1
            obtain ⟨f1, hff1⟩ : ∃ x, f + 1 = x := ⟨_, rfl⟩
            have hf2 : wrap64 f1 = f1 := (w64 (by omega) (by omega)).1
            have hfr : i64R f1 ∧ i64R f := ⟨⟨by omega, by omega⟩, ⟨by omega, by omega⟩⟩
            have hg : oGrow s2 f1 = (false, s2) ∧ oGrow s2 f = (true, 2147483647) ∧ oGrow 2147483647 1 = (false, 2147483647) := ⟨by unfold oGrow; rw [if_neg (by omega)], by unfold oGrow; rw [if_pos (by omega), show s2 + f = 2147483647 by omega], rfl⟩
            exact we_332 n d u s0 s1 s2 d2 f w HK HO hmin hd2 hs1 q1 q3 ⟨ok0⟩ ⟨hdr⟩ ⟨hu⟩ ha1 ha2 ⟨hsh⟩ ⟨okA⟩ hb1 hb2 ⟨hus⟩ hs2 hw2 ⟨okB⟩ hff hf hf1 f1 hff1 hf2 ⟨hg⟩ ⟨hfr⟩
        · have hb2 : decide (u ≤ max s0 0) = false := decide_eq_false b2
          have hus : oUse s0 u = (false, s0) := by unfold oUse; rw [if_neg (fun h => b2 h.2)]
          have okB := okA
          obtain ⟨p1, p2⟩ := id okB
          obtain ⟨f, hff⟩ : ∃ x, 2147483647 - s0 = x := ⟨_, rfl⟩
          have hf : wrap64 f = f := (w64 (by omega) (by omega)).1
          by_cases c1 : f < 1
          · have hf1 : decide (f < 1) = true := decide_eq_true c1
            exact we_321 n d u s0 s1 0 d2 f w HK HO hmin hd2 hs1 q1 q3 ⟨ok0⟩ ⟨hdr⟩ ⟨hu⟩ ha1 ha2 ⟨hsh⟩ ⟨okA⟩ hb1 hb2 ⟨hus⟩ ⟨okB⟩ hff hf hf1
          · have hf1 : decide (f < 1) = false := decide_eq_false c1
            obtain ⟨f1, hff1⟩ : ∃ x, f + 1 = x := ⟨_, rfl⟩
            have hf2 : wrap64 f1 = f1 := (w64 (by omega) (by omega)).1
            have hfr : i64R f1 ∧ i64R f := ⟨⟨by omega, by omega⟩, ⟨by omega, by omega⟩⟩
            have hg : oGrow s0 f1 = (false, s0) ∧ oGrow s0 f = (true, 2147483647) ∧ oGrow 2147483647 1 = (false, 2147483647) := ⟨by unfold oGrow; rw [if_neg (by omega)], by unfold oGrow; rw [if_pos (by omega), show s0 + f = 2147483647 by omega], rfl⟩
            exact we_322 n d u s0 s1 0 d2 f w HK HO hmin hd2 hs1 q1 q3 ⟨ok0⟩ ⟨hdr⟩ ⟨hu⟩ ha1 ha2 ⟨hsh⟩ ⟨okA⟩ hb1 hb2 ⟨hus⟩ ⟨okB⟩ hff hf hf1 f1 hff1 hf2 ⟨hg⟩ ⟨hfr⟩
      · have hb1 : decide (0 ≤ u) = false := decide_eq_false b1
        have hus : oUse s0 u = (false, s0) := by unfold oUse; rw [if_neg (fun h => b1 h.1)]
        have okB := okA
        obtain ⟨p1, p2⟩ := id okB
        obtain ⟨f, hff⟩ : ∃ x, 2147483647 - s0 = x := ⟨_, rfl⟩
        have hf : wrap64 f = f := (w64 (by omega) (by omega)).1
        by_cases c1 : f < 1
        · have hf1 : decide (f < 1) = true := decide_eq_true c1
          exact we_311 n d u s0 s1 0 d2 f w HK HO hmin hd2 hs1 q1 q3 ⟨ok0⟩ ⟨hdr⟩ ⟨hu⟩ ha1 ha2 ⟨hsh⟩ ⟨okA⟩ hb1 ⟨hus⟩ ⟨okB⟩ hff hf hf1
        · have hf1 : decide (f < 1) = false := decide_eq_false c1
          obtain ⟨f1, hff1⟩ : ∃ x, f + 1 = x := ⟨_, rfl⟩
          have hf2 : wrap64 f1 = f1 := (w64 (by omega) (by omega)).1
          have hfr : i64R f1 ∧ i64R f := ⟨⟨by omega, by omega⟩, ⟨by omega, by omega⟩⟩
          have hg : oGrow s0 f1 = (false, s0) ∧ oGrow s0 f = (true, 2147483647) ∧ oGrow 2147483647 1 = (false, 2147483647) := ⟨by unfold oGrow; rw [if_neg (by omega)], by unfold oGrow; rw [if_pos (by omega), show s0 + f = 2147483647 by omega], rfl⟩
          exact we_312 n d u s0 s1 0 d2 f w HK HO hmin hd2 hs1 q1 q3 ⟨ok0⟩ ⟨hdr⟩ ⟨hu⟩ ha1 ha2 ⟨hsh⟩ ⟨okA⟩ hb1 ⟨hus⟩ ⟨okB⟩ hff hf hf1 f1 hff1 hf2 ⟨hg⟩ ⟨hfr⟩
  · have ha1 : decide (s1 ≤ 2147483647) = false := decide_eq_false a1
    have hsh : oShift s0 d2 = (false, s0) := by unfold oShift; rw [hst, if_neg (fun h => a1 h.2)]
    have okA := ok0
    obtain ⟨k1, k2⟩ := id okA
    by_cases b1 : 0 ≤ u
    · have hb1 : decide (0 ≤ u) = true := decide_eq_true b1
      by_cases b2 : u ≤ max s0 0
      · have hb2 : decide (u ≤ max s0 0) = true := decide_eq_true b2
        obtain ⟨s2, hs2⟩ : ∃ x, s0 - u = x := ⟨_, rfl⟩
        have hus : oUse s0 u = (true, s2) := by unfold oUse; rw [if_pos ⟨b1, b2⟩, hs2]
        have hw2 : wrap64 s2 = s2 := (w64 (by omega) (by omega)).1
        have okB : oOk s2 := ⟨by omega, by omega⟩
        obtain ⟨p1, p2⟩ := id okB
        obtain ⟨f, hff⟩ : ∃ x, 2147483647 - s2 = x := ⟨_, rfl⟩
        have hf : wrap64 f = f := (w64 (by omega) (by omega)).1
        by_cases c1 : f < 1
        · have hf1 : decide (f < 1) = true := decide_eq_true c1
          exact we_231 n d u s0 s1 s2 d2 f w HK HO hmin hd2 hs1 q1 q3 ⟨ok0⟩ ⟨hdr⟩ ⟨hu⟩ ha1 ⟨hsh⟩ ⟨okA⟩ hb1 hb2 ⟨hus⟩ hs2 hw2 ⟨okB⟩ hff hf hf1
        · have hf1 : decide (f < 1) = false := decide_eq_false c1
          obtain ⟨f1, hff1⟩ : ∃ x, f + 1 = x := ⟨_, rfl⟩
          have hf2 : wrap64 f1 = f1 := (w64 (by omega) (by omega)).1
          have hfr : i64R f1 ∧ i64R f := ⟨⟨by omega, by omega⟩, ⟨by omega, by omega⟩⟩
          have hg : oGrow s2 f1 = (false, s2) ∧ oGrow s2 f = (true, 2147483647) ∧ oGrow 2147483647 1 = (false, 2147483647) := ⟨by unfold oGrow; rw [if_neg (by omega)], by unfold oGrow; rw [if_pos (by omega), show s2 + f = 2147483647 by omega], rfl⟩
          exact we_232 n d u s0 s1 s2 d2 f w HK HO hmin hd2 hs1 q1 q3 ⟨ok0⟩ ⟨hdr⟩ ⟨hu⟩ ha1 ⟨hsh⟩ ⟨okA⟩ hb1 hb2 ⟨hus⟩ hs2 hw2 ⟨okB⟩ hff hf hf1 f1 hff1 hf2 ⟨hg⟩ ⟨hfr⟩
      · have hb2 : decide (u ≤ max s0 0) = false := decide_eq_false b2
        have hus : oUse s0 u = (false, s0) := by unfold oUse; rw [if_neg (fun h => b2 h.2)]
        have okB := okA
        obtain ⟨p1, p2⟩ := id okB
        obtain ⟨f, hff⟩ : ∃ x, 2147483647 - s0 = x := ⟨_, rfl⟩
        have hf : wrap64 f = f := (w64 (by omega) (by omega)).1
        by_cases c1 : f < 1
        · have hf1 : decide (f < 1) = true := decide_eq_true c1
          exact we_221 n d u s0 s1 0 d2 f w HK HO hmin hd2 hs1 q1 q3 ⟨ok0⟩ ⟨hdr⟩ ⟨hu⟩ ha1 ⟨hsh⟩ ⟨okA⟩ hb1 hb2 ⟨hus⟩ ⟨okB⟩ hff hf hf1
        · have hf1 : decide (f < 1) = false := decide_eq_false c1
          obtain ⟨f1, hff1⟩ : ∃ x, f + 1 = x := ⟨_, rfl⟩
          have hf2 : wrap64 f1 = f1 := (w64 (by omega) (by omega)).1
          have hfr : i64R f1 ∧ i64R f := ⟨⟨by omega, by omega⟩, ⟨by omega, by omega⟩⟩
          have hg : oGrow s0 f1 = (false, s0) ∧ oGrow s0 f = (true, 2147483647) ∧ oGrow 2147483647 1 = (false, 2147483647) := ⟨by unfold oGrow; rw [if_neg (by omega)], by unfold oGrow; rw [if_pos (by omega), show s0 + f = 2147483647 by omega], rfl⟩
          exact we_222 n d u s0 s1 0 d2 f w HK HO hmin hd2 hs1 q1 q3 ⟨ok0⟩ ⟨hdr⟩ ⟨hu⟩ ha1 ⟨hsh⟩ ⟨okA⟩ hb1 hb2 ⟨hus⟩ ⟨okB⟩ hff hf hf1 f1 hff1 hf2 ⟨hg⟩ ⟨hfr⟩
    · have hb1 : decide (0 ≤ u) = false := decide_eq_false b1
      have hus : oUse s0 u = (false, s0) := by unfold oUse; rw [if_neg (fun h => b1 h.1)]
      have okB := okA
      obtain ⟨p1, p2⟩ := id okB
      obtain ⟨f, hff⟩ : ∃ x, 2147483647 - s0 = x := ⟨_, rfl⟩
      have hf : wrap64 f = f := (w64 (by omega) (by omega)).1
      by_cases c1 : f < 1
      · have hf1 : decide (f < 1) = true := decide_eq_true c1
        exact we_211 n d u s0 s1 0 d2 f w HK HO hmin hd2 hs1 q1 q3 ⟨ok0⟩ ⟨hdr⟩ ⟨hu⟩ ha1 ⟨hsh⟩ ⟨okA⟩ hb1 ⟨hus⟩ ⟨okB⟩ hff hf hf1
      · have hf1 : decide (f < 1) = false := decide_eq_false c1
        obtain ⟨f1, hff1⟩ : ∃ x, f + 1 = x := ⟨_, rfl⟩
        have hf2 : wrap64 f1 = f1 := (w64 (by omega) (by omega)).1
        have hfr : i64R f1 ∧ i64R f := ⟨⟨by omega, by omega⟩, ⟨by omega, by omega⟩⟩
        have hg : oGrow s0 f1 = (false, s0) ∧ oGrow s0 f = (true, 2147483647) ∧ oGrow 2147483647 1 = (false, 2147483647) := ⟨by unfold oGrow; rw [if_neg (by omega)], by unfold oGrow; rw [if_pos (by omega), show s0 + f = 2147483647 by omega], rfl⟩
        exact we_212 n d u s0 s1 0 d2 f w HK HO hmin hd2 hs1 q1 q3 ⟨ok0⟩ ⟨hdr⟩ ⟨hu⟩ ha1 ⟨hsh⟩ ⟨okA⟩ hb1 ⟨hus⟩ ⟨okB⟩ hff hf hf1 f1 hff1 hf2 ⟨hg⟩ ⟨hfr⟩
end Go.Proofs.Ytenoaljghbpaaaa
