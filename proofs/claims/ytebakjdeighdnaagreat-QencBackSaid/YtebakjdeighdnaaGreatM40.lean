/-
  Texts put together: QnM, QnN, QnO.
-/
import Derived.Test.YtebakjdeighdnaaGreatM38
import Derived.Test.YtebakjdeighdnaaGreatM01

/-
  The document's Encode of QPACK, in pieces: a line that is written.
-/
namespace Go.Proofs.YtebakjdeighdnaaGreat
open Go.RowKit Go.Maps
set_option linter.unusedVariables false

theorem lcl_at (l : List Ql) (i j : Nat) (h : i < l.length) (hj : j < 4) : (l.flatMap lcl)[i * 4 + j]? = (lcl l[i])[j]? := by
  induction l generalizing i with
  | nil => simp at h
  | cons a l ih =>
    rw [List.flatMap_cons]
    cases i with
    | zero => rw [Nat.zero_mul, Nat.zero_add, List.getElem?_append_left (by simpa [lcl] using hj)]; rfl
    | succ i =>
      have := ih i (by simpa using h)
      have e1 : (i + 1) * 4 + j = (lcl a).length + (i * 4 + j) := by simp [lcl]; omega
      rw [e1, List.getElem?_append_right (by omega), Nat.add_sub_cancel_left]
      simpa using this
section
variable {w : World} {B : Nat} {v : Value} {all : List Ql}
theorem OwL.run_len (h : OwL w B v all) (ty : TypeId) (W : World) : (Builtin.len_ #[90] ty #[v]).run Tryz.prog W = .ok (.int .i64 (all.length : Int)) W := by
  obtain ⟨A, c, rfl, h1, h2, h3⟩ := Rn.of_own h
  simp [Builtin.len_, run_underlying Tryz.underlying90, goInt]
theorem OwL.at_ (h : OwL w B v all) (i : Nat) (hi : i < all.length) :
    ∃ b o : Nat, (∀ W : World, (Instr.indexAt 90 v (.int .i64 (i : Int))).run Tryz.prog W = .ok (.pointer (some ⟨b, o, none⟩)) W) ∧
      ∀ W : World, OwL W B v all → W.cell? ⟨b, o, none⟩ = some (.int .i64 (all[i].k : Int)) ∧ W.cell? ⟨b, o + 1, none⟩ = some (.int .u64 (all[i].i : Int)) ∧ W.cell? ⟨b, o + 2, none⟩ = some (.string all[i].f.1) ∧ W.cell? ⟨b, o + 3, none⟩ = some (.string all[i].f.2) := by
  obtain ⟨b, o, c, rfl, h1, h2, h3, hc⟩ := Rn.at_ (Rn.of_own h) (by omega) (by omega)
  have hsz : ∀ W : World, (sizeOf (Tryz.prog.elem 90)).run Tryz.prog W = .ok 4 W := fun W => by kernel_rfl
  refine ⟨b, o + i * 4, fun W => ?_, fun W hW => ?_⟩
  · simp [Instr.indexAt, asIntOf, run_underlying Tryz.underlying90, Sem.run_bind, hi, Result.andThen]
    simp [Addr.add]
  · obtain ⟨b', o', c', e, _, _, _, hc'⟩ := Rn.at_ (Rn.of_own hW) (by omega) (by omega)
    injection e with e1 e2 e3
    injection e1 with e1
    injection e1 with e1 e4
    subst e1; subst e4
    have g := fun j hj u hu => hc' (i * 4 + j) u (by rw [lcl_at all i j hi hj]; exact hu)
    exact ⟨g 0 (by omega) _ rfl, by have := g 1 (by omega) _ rfl; rwa [← Nat.add_assoc] at this, by have := g 2 (by omega) _ rfl; rwa [← Nat.add_assoc] at this, by have := g 3 (by omega) _ rfl; rwa [← Nat.add_assoc] at this⟩
end

/-- The slots that are read on, behind the fields. -/
structure At3 (a : Act) (q s : Nat) (iV lv uV aV : Value) (c k : Nat) : Prop where
  d : a.defers = []
  z : a.tmps.size = 288
  t0 : a.tmps.getD 0 undef = .pointer (some ⟨q, 0, none⟩)
  t1 : a.tmps.getD 1 undef = .int .u64 (s : Int)
  t8 : a.tmps.getD 8 undef = iV
  t9 : a.tmps.getD 9 undef = lv
  t12 : a.tmps.getD 12 undef = uV
  t13 : a.tmps.getD 13 undef = .int .u64 (c : Int)
  t14 : a.tmps.getD 14 undef = aV
  t24 : a.tmps.getD 24 undef = .int .i64 (k : Int)
/-- Between two lines. -/
def Mx (q s : Nat) (iV uV aV : Value) (c : Nat) (w1 : World) (k : Nat) (ls : List UInt8) (ac : Act) (wx : World) : Prop :=
  ∃ lv, At3 ac q s iV lv uV aV c k ∧ OwB wx w1.heap.size lv ls ∧ Below w1.heap.size w1 wx

section
variable {q t s : Nat} {w w1 wx : World} {k c : Nat} {iV uV aV lv : Value} {all : List Ql} {ls : List UInt8}
set_option maxRecDepth 100000 in
set_option maxHeartbeats 40000000 in
/-- A line. -/
theorem line_any (ac : Act) (hA : At3 ac q s iV lv uV aV c k) (hv : OwL w1 w.heap.size aV all) (hk : k < all.length) (hx : all[k].k ≤ 3 ∧ (all[k].k ≠ 3 → all[k].i < 1000000) ∧ (all[k].k = 1 → all[k].i < c) ∧ fsz all[k].f ≤ 3000) (hc : c ≤ 1000000)
    (ho : OwB wx w1.heap.size lv ls) (hb : Below w1.heap.size w1 wx) (hl : ls.length ≤ 20000) :
    Code.wp Tryz.prog (efrom 40) (Kx (Mx q s iV uV aV c w1 k (ls ++ lineW c all[k])) (fun _ _ => False) (fun _ _ _ => False)) ac wx := by
  obtain ⟨b, o, hix, hcs⟩ := hv.at_ k hk
  obtain ⟨hc1, hc2, hc3, hc4⟩ := hcs wx (ownN_keep hv hb)
  obtain ⟨⟨kd, pi, f1, f2⟩, hlk⟩ : ∃ x, all[k] = x := ⟨_, rfl⟩
  rw [hlk] at hx hc1 hc2 hc3 hc4 ⊢
  simp only at hc1 hc2 hc3 hc4 hx
  obtain ⟨hx1, hx2, hx3, hx4⟩ := hx
  have hs1 : f1.size ≤ 3000 := by unfold fsz at hx4; simp only at hx4; omega
  have hs2 : f2.size ≤ 3000 := by unfold fsz at hx4; simp only at hx4; omega
  have HB := Bx.mk hb
  have HO := Bx.mk ho
  obtain ⟨sc, hsc⟩ : ∃ sc, secN f1 = sc := ⟨_, rfl⟩
  have HSEC : Bx (∀ W, Calls Tryz.prog 46 #[.string f1] W fun e w' => e = .returned (.bool sc) ∧ W = w') := ⟨fun W => hsc ▸ refSecret_any f1 W⟩
  have HLW : Bx (lineW c ⟨kd, pi, (f1, f2)⟩ = if kd = 0 then pre 192 6 pi else if kd = 1 then pre 128 6 (c - 1 - pi) else if kd = 2 then pre (if sc then 112 else 80) 4 pi ++ putSk 0 7 f2.data.toList else putSk (if sc then 48 else 32) 3 f1.data.toList ++ putSk 0 7 f2.data.toList) := ⟨by unfold lineW; rw [hsc]⟩
  have HPRE : Bx (∀ (W : World) (V : Value) (l2 : List UInt8) (f : UInt8) (F : Int) (n : Int) (kk : Nat) (v : Nat) (VV : Int), (f.toNat : Int) = F → bitsOf n = kk → (v : Int) = VV → v ≤ 1000000 → OwB W w1.heap.size V l2 → l2.length ≤ 30000 → w1.heap.size ≤ W.heap.size → Calls Tryz.prog 33 #[V, .int .u8 F, .int .i64 n, .int .u64 VV] W fun e w' => ∃ v', e = .returned v' ∧ OwB w' w1.heap.size v' (l2 ++ pre f kk v) ∧ Below w1.heap.size W w' ∧ NonB W w') :=
    ⟨fun W V l2 f F n kk v VV e1 e2 e3 hv ho2 hl2 hs => refPrefix_at w1.heap.size V l2 f F e1 n kk e2 v VV e3 W ho2 hs (by omega) (by omega)⟩
  have HPUT : Bx (∀ (W : World) (V : Value) (l2 : List UInt8) (f : UInt8) (F : Int) (kk : Nat) (x : ByteArray), (f.toNat : Int) = F → 1 ≤ kk → kk ≤ 7 → x.size ≤ 3000 → OwB W w1.heap.size V l2 → l2.length ≤ 30000 → w1.heap.size ≤ W.heap.size → Calls Tryz.prog 43 #[V, .int .u8 F, .int .i64 (kk : Int), .string x] W fun e w' => ∃ v', e = .returned v' ∧ OwB w' w1.heap.size v' (l2 ++ putSk f kk x.data.toList) ∧ Below w1.heap.size W w' ∧ NonB W w') :=
    ⟨fun W V l2 f F kk x e1 h1 h7 hx ho2 hl2 hs => by subst e1; exact putStr_non w1.heap.size V l2 f kk h1 h7 x W ho2 hs (by omega) (by omega)⟩
  obtain ⟨KD, hKD⟩ := letter kd
  obtain ⟨PI, hPI⟩ := letter pi
  rw [hKD] at hc1
  rw [hPI] at hc2
  obtain ⟨G, hG⟩ : ∃ G, wx.heap.size = G := ⟨_, rfl⟩
  obtain ⟨w2, hw2⟩ : ∃ w2, wx.alloc (.cells #[.int .i64 KD, .int .u64 PI, .string f1, .string f2] 94) = w2 := ⟨_, rfl⟩
  have hblk : w2.heap[G]? = some (.cells #[.int .i64 KD, .int .u64 PI, .string f1, .string f2] 94 (0, 0)) := by rw [← hw2, ← hG]; exact heap_alloc_last wx _
  have hcell : ∀ W : World, W.heap[G]? = some (.cells #[.int .i64 KD, .int .u64 PI, .string f1, .string f2] 94 (0, 0)) → W.cell? ⟨G, 0, none⟩ = some (.int .i64 KD) ∧ W.cell? ⟨G, 1, none⟩ = some (.int .u64 PI) ∧ W.cell? ⟨G, 2, none⟩ = some (.string f1) ∧ W.cell? ⟨G, 3, none⟩ = some (.string f2) := fun W h => by
    refine ⟨?_, ?_, ?_, ?_⟩ <;> simp [World.cell?, h]
  obtain ⟨k0, k1, k2, k3⟩ := hcell w2 hblk
  have HCELL := Bx.mk hcell
  have HBLK := Bx.mk hblk
  have HB2 : Bx (Below w1.heap.size w1 w2 ∧ OwB w2 w1.heap.size lv ls) := ⟨by
    have h := (Below.refl wx.heap.size wx).alloc (Nat.le_refl _) (.cells #[.int .i64 KD, .int .u64 PI, .string f1, .string f2] 94)
    rw [← hw2]
    exact ⟨hb.trans (h.mono hb.size), ho.keep h⟩⟩
  obtain ⟨u, hu, hac⟩ := eframe ac hA.z hA.d
  have h0 := (hu 0).symm.trans hA.t0
  have h1 := (hu 1).symm.trans hA.t1
  have h8 := (hu 8).symm.trans hA.t8
  have h9 := (hu 9).symm.trans hA.t9
  have h12 := (hu 12).symm.trans hA.t12
  have h13 := (hu 13).symm.trans hA.t13
  have h14 := (hu 14).symm.trans hA.t14
  have h24 := (hu 24).symm.trans hA.t24
  rw [hac]
  clear hac hA
  rw [h0, h1, h8, h9, h12, h13, h14, h24]
  clear h0 h1 h8 h9 h12 h13 h14 h24 hu
  conv => arg 2; whnf
  have HX := Bx.mk (And.intro hx1 hx3)
  have HKD := Bx.mk hKD
  have HPI := Bx.mk hPI
  have HSZ := Bx.mk (And.intro hs1 hs2)
  have HBND := Bx.mk (And.intro hx2 (And.intro hc hl))
  clear hcs hcell hblk hb ho hv hx1 hx3 hx4 hs1 hs2 hlk hsc hx2 hc hl hKD hPI
  rw [HLW.out]
  have HLE : Bx (∀ f : UInt8, (ls ++ pre f 4 pi).length ≤ 30000 ∧ (ls ++ putSk f 3 f1.data.toList).length ≤ 30000) := ⟨fun f => by
    have h1 := HBND.out.2.2
    have h2 := (pre_len f 4 pi).2
    have h3 := putSk_len f 3 f1.data.toList
    have h4 := HSZ.out.1
    have e1 : f1.data.toList.length = f1.size := by simp
    rw [List.length_append, List.length_append]
    omega⟩
  have hcs : kd = 0 ∨ kd = 1 ∨ kd = 2 ∨ kd = 3 := by have := HX.out.1; omega
  cases sc with
  | true =>
    rcases hcs with rfl | rfl | rfl | rfl
    · have hKD := HKD.out
      have ht0 : (KD == 0) = true := by rw [beq_iff_eq]; omega
      clear hKD
      go_wp2_with (first
        | (go_at_call 46; refine (HSEC.out _).mono ?_; rintro e w3 ⟨rfl, rfl⟩)
        | (go_at_call 33; refine (HPRE.out _ _ _ 192 192 6 6 pi _ rfl rfl HPI.out (by have := HBND.out.1 (by omega); omega) HB2.out.2 (by have := HBND.out.2.2; omega) HB2.out.1.size).mono ?_; rintro e w4 ⟨v4, rfl, ho4, b4, n4⟩; have H4 := Bx.mk (And.intro ho4 (HB2.out.1.trans b4)); clear ho4 b4 n4))
      exact Kx.norm ⟨_, ⟨rfl, rfl, rfl, rfl, rfl, rfl, rfl, rfl, rfl, rfl⟩, H4.out.1, H4.out.2⟩
    · have hKD := HKD.out
      have ht0 : (KD == 0) = false := by rw [beq_eq_false_iff_ne]; omega
      have ht1 : (KD == 1) = true := by rw [beq_iff_eq]; omega
      clear hKD
      obtain ⟨C, hC⟩ := letter c
      obtain ⟨D, hD⟩ := letter (c - 1)
      obtain ⟨F, hF⟩ := letter (c - 1 - pi)
      have hpc : pi < c := HX.out.2 rfl
      have hcl := HBND.out.2.1
      have hY := HPI.out
      have hd1 : IntKind.u64.wrap (C - 1) = D := by rw [show C - 1 = D from by omega]; exact u64_keep (by omega) (by omega)
      have hd2 : IntKind.u64.wrap (D - PI) = F := by rw [show D - PI = F from by omega]; exact u64_keep (by omega) (by omega)
      have HF := Bx.mk hF
      have HCC := Bx.mk hC
      rw [hC]
      clear hY hC hD hF hpc hcl
      go_wp2_with (first
        | (go_at_call 46; refine (HSEC.out _).mono ?_; rintro e w3 ⟨rfl, rfl⟩)
        | (go_at_call 33; refine (HPRE.out _ _ _ 128 128 6 6 (c - 1 - pi) _ rfl rfl HF.out (by have := HBND.out.2.1; omega) HB2.out.2 (by have := HBND.out.2.2; omega) HB2.out.1.size).mono ?_; rintro e w4 ⟨v4, rfl, ho4, b4, n4⟩; have H4 := Bx.mk (And.intro ho4 (HB2.out.1.trans b4)); clear ho4 b4 n4))
      exact Kx.norm ⟨_, ⟨rfl, rfl, rfl, rfl, rfl, rfl, rfl, by rw [HCC.out]; rfl, rfl, rfl⟩, H4.out.1, H4.out.2⟩
    · have hKD := HKD.out
      have ht0 : (KD == 0) = false := by rw [beq_eq_false_iff_ne]; omega
      have ht1 : (KD == 1) = false := by rw [beq_eq_false_iff_ne]; omega
      have ht2 : (KD == 2) = true := by rw [beq_iff_eq]; omega
      clear hKD
      have hor : bits .or .u8 80 32 = 112 := by decide
      go_wp2_with (first
        | (go_at_call 46; refine (HSEC.out _).mono ?_; rintro e w3 ⟨rfl, rfl⟩)
        | (go_at_call 33; refine (HPRE.out _ _ _ 112 112 4 4 pi _ rfl rfl HPI.out (by have := HBND.out.1 (by omega); omega) HB2.out.2 (by have := HBND.out.2.2; omega) HB2.out.1.size).mono ?_; rintro e w4 ⟨v4, rfl, ho4, b4, n4⟩; have hk9 := HCELL.out w4 (n4 _ _ HBLK.out fun cc z e => by injection e with _ e2 _; exact absurd e2 (by decide)); obtain ⟨m0, m1, m2, m3⟩ := hk9; have H4 := Bx.mk (And.intro ho4 (HB2.out.1.trans b4)); clear ho4 b4 n4)
        | (go_at_call 43; refine (HPUT.out w4 _ _ 0 0 7 f2 rfl (by omega) (by omega) HSZ.out.2 H4.out.1 (HLE.out 112).1 H4.out.2.size).mono ?_; rintro e w5 ⟨v5, rfl, ho5, b5, n5⟩; have H5 := Bx.mk (And.intro ho5 (H4.out.2.trans b5)); clear ho5 b5 n5))
      exact Kx.norm ⟨_, ⟨rfl, rfl, rfl, rfl, rfl, rfl, rfl, rfl, rfl, rfl⟩, (by have h := H5.out.1; rw [List.append_assoc] at h; exact h), H5.out.2⟩
    · have hKD := HKD.out
      have ht0 : (KD == 0) = false := by rw [beq_eq_false_iff_ne]; omega
      have ht1 : (KD == 1) = false := by rw [beq_eq_false_iff_ne]; omega
      have ht2 : (KD == 2) = false := by rw [beq_eq_false_iff_ne]; omega
      clear hKD
      have hor : bits .or .u8 32 16 = 48 := by decide
      go_wp2_with (first
        | (go_at_call 46; refine (HSEC.out _).mono ?_; rintro e w3 ⟨rfl, rfl⟩))
      (refine (HPUT.out w2 _ _ 48 48 3 f1 rfl (by omega) (by omega) HSZ.out.1 HB2.out.2 (by have := HBND.out.2.2; omega) HB2.out.1.size).mono ?_; rintro e w4 ⟨v4, rfl, ho4, b4, n4⟩; have hk9 := HCELL.out w4 (n4 _ _ HBLK.out fun cc z e => by injection e with _ e2 _; exact absurd e2 (by decide)); obtain ⟨m0, m1, m2, m3⟩ := hk9; have H4 := Bx.mk (And.intro ho4 (HB2.out.1.trans b4)); clear ho4 b4 n4)
      go_wp2_with fail
      (refine (HPUT.out w4 _ _ 0 0 7 f2 rfl (by omega) (by omega) HSZ.out.2 H4.out.1 (HLE.out 48).2 H4.out.2.size).mono ?_; rintro e w5 ⟨v5, rfl, ho5, b5, n5⟩; have H5 := Bx.mk (And.intro ho5 (H4.out.2.trans b5)); clear ho5 b5 n5)
      go_wp2_with fail
      exact Kx.norm ⟨_, ⟨rfl, rfl, rfl, rfl, rfl, rfl, rfl, rfl, rfl, rfl⟩, (by have h := H5.out.1; rw [List.append_assoc] at h; exact h), H5.out.2⟩
  | false =>
    rcases hcs with rfl | rfl | rfl | rfl
    · have hKD := HKD.out
      have ht0 : (KD == 0) = true := by rw [beq_iff_eq]; omega
      clear hKD
      go_wp2_with (first
        | (go_at_call 46; refine (HSEC.out _).mono ?_; rintro e w3 ⟨rfl, rfl⟩)
        | (go_at_call 33; refine (HPRE.out _ _ _ 192 192 6 6 pi _ rfl rfl HPI.out (by have := HBND.out.1 (by omega); omega) HB2.out.2 (by have := HBND.out.2.2; omega) HB2.out.1.size).mono ?_; rintro e w4 ⟨v4, rfl, ho4, b4, n4⟩; have H4 := Bx.mk (And.intro ho4 (HB2.out.1.trans b4)); clear ho4 b4 n4))
      exact Kx.norm ⟨_, ⟨rfl, rfl, rfl, rfl, rfl, rfl, rfl, rfl, rfl, rfl⟩, H4.out.1, H4.out.2⟩
    · have hKD := HKD.out
      have ht0 : (KD == 0) = false := by rw [beq_eq_false_iff_ne]; omega
      have ht1 : (KD == 1) = true := by rw [beq_iff_eq]; omega
      clear hKD
      obtain ⟨C, hC⟩ := letter c
      obtain ⟨D, hD⟩ := letter (c - 1)
      obtain ⟨F, hF⟩ := letter (c - 1 - pi)
      have hpc : pi < c := HX.out.2 rfl
      have hcl := HBND.out.2.1
      have hY := HPI.out
      have hd1 : IntKind.u64.wrap (C - 1) = D := by rw [show C - 1 = D from by omega]; exact u64_keep (by omega) (by omega)
      have hd2 : IntKind.u64.wrap (D - PI) = F := by rw [show D - PI = F from by omega]; exact u64_keep (by omega) (by omega)
      have HF := Bx.mk hF
      have HCC := Bx.mk hC
      rw [hC]
      clear hY hC hD hF hpc hcl
      go_wp2_with (first
        | (go_at_call 46; refine (HSEC.out _).mono ?_; rintro e w3 ⟨rfl, rfl⟩)
        | (go_at_call 33; refine (HPRE.out _ _ _ 128 128 6 6 (c - 1 - pi) _ rfl rfl HF.out (by have := HBND.out.2.1; omega) HB2.out.2 (by have := HBND.out.2.2; omega) HB2.out.1.size).mono ?_; rintro e w4 ⟨v4, rfl, ho4, b4, n4⟩; have H4 := Bx.mk (And.intro ho4 (HB2.out.1.trans b4)); clear ho4 b4 n4))
      exact Kx.norm ⟨_, ⟨rfl, rfl, rfl, rfl, rfl, rfl, rfl, by rw [HCC.out]; rfl, rfl, rfl⟩, H4.out.1, H4.out.2⟩
    · have hKD := HKD.out
      have ht0 : (KD == 0) = false := by rw [beq_eq_false_iff_ne]; omega
      have ht1 : (KD == 1) = false := by rw [beq_eq_false_iff_ne]; omega
      have ht2 : (KD == 2) = true := by rw [beq_iff_eq]; omega
      clear hKD
      have hor : bits .or .u8 80 0 = 80 := by decide
      go_wp2_with (first
        | (go_at_call 46; refine (HSEC.out _).mono ?_; rintro e w3 ⟨rfl, rfl⟩)
        | (go_at_call 33; refine (HPRE.out _ _ _ 80 80 4 4 pi _ rfl rfl HPI.out (by have := HBND.out.1 (by omega); omega) HB2.out.2 (by have := HBND.out.2.2; omega) HB2.out.1.size).mono ?_; rintro e w4 ⟨v4, rfl, ho4, b4, n4⟩; have hk9 := HCELL.out w4 (n4 _ _ HBLK.out fun cc z e => by injection e with _ e2 _; exact absurd e2 (by decide)); obtain ⟨m0, m1, m2, m3⟩ := hk9; have H4 := Bx.mk (And.intro ho4 (HB2.out.1.trans b4)); clear ho4 b4 n4)
        | (go_at_call 43; refine (HPUT.out w4 _ _ 0 0 7 f2 rfl (by omega) (by omega) HSZ.out.2 H4.out.1 (HLE.out 80).1 H4.out.2.size).mono ?_; rintro e w5 ⟨v5, rfl, ho5, b5, n5⟩; have H5 := Bx.mk (And.intro ho5 (H4.out.2.trans b5)); clear ho5 b5 n5))
      exact Kx.norm ⟨_, ⟨rfl, rfl, rfl, rfl, rfl, rfl, rfl, rfl, rfl, rfl⟩, (by have h := H5.out.1; rw [List.append_assoc] at h; exact h), H5.out.2⟩
    · have hKD := HKD.out
      have ht0 : (KD == 0) = false := by rw [beq_eq_false_iff_ne]; omega
      have ht1 : (KD == 1) = false := by rw [beq_eq_false_iff_ne]; omega
      have ht2 : (KD == 2) = false := by rw [beq_eq_false_iff_ne]; omega
      clear hKD
      have hor : bits .or .u8 32 0 = 32 := by decide
      go_wp2_with (first
        | (go_at_call 46; refine (HSEC.out _).mono ?_; rintro e w3 ⟨rfl, rfl⟩))
      (refine (HPUT.out w2 _ _ 32 32 3 f1 rfl (by omega) (by omega) HSZ.out.1 HB2.out.2 (by have := HBND.out.2.2; omega) HB2.out.1.size).mono ?_; rintro e w4 ⟨v4, rfl, ho4, b4, n4⟩; have hk9 := HCELL.out w4 (n4 _ _ HBLK.out fun cc z e => by injection e with _ e2 _; exact absurd e2 (by decide)); obtain ⟨m0, m1, m2, m3⟩ := hk9; have H4 := Bx.mk (And.intro ho4 (HB2.out.1.trans b4)); clear ho4 b4 n4)
      go_wp2_with fail
      (refine (HPUT.out w4 _ _ 0 0 7 f2 rfl (by omega) (by omega) HSZ.out.2 H4.out.1 (HLE.out 32).2 H4.out.2.size).mono ?_; rintro e w5 ⟨v5, rfl, ho5, b5, n5⟩; have H5 := Bx.mk (And.intro ho5 (H4.out.2.trans b5)); clear ho5 b5 n5)
      go_wp2_with fail
      exact Kx.norm ⟨_, ⟨rfl, rfl, rfl, rfl, rfl, rfl, rfl, rfl, rfl, rfl⟩, (by have h := H5.out.1; rw [List.append_assoc] at h; exact h), H5.out.2⟩
end
end Go.Proofs.YtebakjdeighdnaaGreat

/-
  The document's Encode of QPACK, in pieces: one round of its second loop; a section that is kept.
-/
namespace Go.Proofs.YtebakjdeighdnaaGreat
open Go.RowKit Go.Maps
set_option linter.unusedVariables false

section
variable {q t s : Nat} {w w1 wx : World} {k c : Nat} {iV uV aV lv : Value} {all : List Ql} {ls : List UInt8}
set_option maxRecDepth 100000 in
set_option maxHeartbeats 40000000 in
/-- Behind a line. -/
theorem post2_any (ac : Act) (hN : Mx q s iV uV aV c w1 k ls ac wx) (hk : k ≤ 1000) :
    Code.wp Tryz.prog (efrom 39) (Kx (Mx q s iV uV aV c w1 (k + 1) ls) (fun _ _ => False) (fun _ _ _ => False)) ac wx := by
  obtain ⟨lv, hA, ho, hb⟩ := hN
  have HO := Bx.mk (And.intro ho hb)
  obtain ⟨u, hu, hac⟩ := eframe ac hA.z hA.d
  have h0 := (hu 0).symm.trans hA.t0
  have h1 := (hu 1).symm.trans hA.t1
  have h8 := (hu 8).symm.trans hA.t8
  have h9 := (hu 9).symm.trans hA.t9
  have h12 := (hu 12).symm.trans hA.t12
  have h13 := (hu 13).symm.trans hA.t13
  have h14 := (hu 14).symm.trans hA.t14
  have h24 := (hu 24).symm.trans hA.t24
  rw [hac]
  clear hac hA
  rw [h0, h1, h8, h9, h12, h13, h14, h24]
  clear h0 h1 h8 h9 h12 h13 h14 h24 hu
  conv => arg 2; whnf
  clear ho hb
  have hw : wrap64 ((k : Int) + 1) = ((k + 1 : Nat) : Int) := by unfold wrap64; omega
  go_wp2_with fail
  exact Kx.norm ⟨_, ⟨rfl, rfl, rfl, rfl, rfl, rfl, rfl, rfl, rfl, by first | rfl | (show Value.int .i64 _ = _; congr 1)⟩, HO.out⟩

set_option maxRecDepth 100000 in
set_option maxHeartbeats 40000000 in
/-- One round, a line is left. -/
theorem round2_any (ac : Act) (hN : Mx q s iV uV aV c w1 k ls ac wx) (hv : OwL w1 w.heap.size aV all) (hk : k < all.length) (ha : all.length ≤ 100) (hx : all[k].k ≤ 3 ∧ (all[k].k ≠ 3 → all[k].i < 1000000) ∧ (all[k].k = 1 → all[k].i < c) ∧ fsz all[k].f ≤ 3000) (hc : c ≤ 1000000) (hl : ls.length ≤ 20000) :
    Code.wp Tryz.prog (eloop 1) (Kx (Mx q s iV uV aV c w1 (k + 1) (ls ++ lineW c all[k])) (fun _ _ => False) (fun _ _ _ => False)) ac wx := by
  obtain ⟨lv, hA, ho, hb⟩ := hN
  have HO := Bx.mk (And.intro ho hb)
  have HV := Bx.mk hv
  have HK := Bx.mk (And.intro hk ha)
  have HX := Bx.mk hx
  have HC := Bx.mk (And.intro hc hl)
  have hlen := fun ty W => hv.run_len ty W
  obtain ⟨n, hn⟩ : ∃ n, all.length = n := ⟨_, rfl⟩
  rw [hn] at hlen
  have hkd : decide ((k : Int) < (n : Int)) = true := decide_eq_true (by omega)
  have hkd' : decide (k < n) = true := decide_eq_true (by omega)
  obtain ⟨u, hu, hac⟩ := eframe ac hA.z hA.d
  have h0 := (hu 0).symm.trans hA.t0
  have h1 := (hu 1).symm.trans hA.t1
  have h8 := (hu 8).symm.trans hA.t8
  have h9 := (hu 9).symm.trans hA.t9
  have h12 := (hu 12).symm.trans hA.t12
  have h13 := (hu 13).symm.trans hA.t13
  have h14 := (hu 14).symm.trans hA.t14
  have h24 := (hu 24).symm.trans hA.t24
  rw [hac]
  clear hac hA
  rw [h0, h1, h8, h9, h12, h13, h14, h24]
  clear h0 h1 h8 h9 h12 h13 h14 h24 hu
  conv => arg 2; whnf
  clear ho hb hv hx hc hl hn ha
  go_upto_block 3 with fail
  rename_i hKq
  refine wp_block ?_
  refine Kx.use (line_any (iV := iV) (uV := uV) (aV := aV) (lv := lv) (w := w) (w1 := w1) (ls := ls) (c := c) _ ⟨rfl, rfl, rfl, rfl, rfl, rfl, rfl, rfl, rfl, rfl⟩ HV.out HK.out.1 HX.out HC.out.1 HO.out.1 HO.out.2 HC.out.2) ?_ ?_ ?_
  · intro a2 w2 h
    refine hKq _ _ ?_
    exact post2_any a2 h (by have := HK.out; omega)
  · intro a2 w2 h; exact h.elim
  · intro i a2 w2 h; exact h.elim

set_option maxRecDepth 100000 in
set_option maxHeartbeats 40000000 in
/-- One round, no line is left. -/
theorem round2E_any (ac : Act) (hN : Mx q s iV uV aV c w1 all.length ls ac wx) (hv : OwL w1 w.heap.size aV all) :
    Code.wp Tryz.prog (eloop 1) (Kx (fun _ _ => False) (fun _ _ => False) (fun i ac' w' => i = 2 ∧ Mx q s iV uV aV c w1 all.length ls ac' w')) ac wx := by
  obtain ⟨lv, hA, ho, hb⟩ := hN
  have HO := Bx.mk (And.intro ho hb)
  have hlen := fun ty W => hv.run_len ty W
  obtain ⟨n, hn⟩ : ∃ n, all.length = n := ⟨_, rfl⟩
  rw [hn] at hlen hA ⊢
  obtain ⟨u, hu, hac⟩ := eframe ac hA.z hA.d
  have h0 := (hu 0).symm.trans hA.t0
  have h1 := (hu 1).symm.trans hA.t1
  have h8 := (hu 8).symm.trans hA.t8
  have h9 := (hu 9).symm.trans hA.t9
  have h12 := (hu 12).symm.trans hA.t12
  have h13 := (hu 13).symm.trans hA.t13
  have h14 := (hu 14).symm.trans hA.t14
  have h24 := (hu 24).symm.trans hA.t24
  rw [hac]
  clear hac hA
  rw [h0, h1, h8, h9, h12, h13, h14, h24]
  clear h0 h1 h8 h9 h12 h13 h14 h24 hu
  conv => arg 2; whnf
  clear ho hb hv hn
  go_wp2_with fail
  exact Kx.exit ⟨rfl, _, ⟨rfl, rfl, rfl, rfl, rfl, rfl, rfl, rfl, rfl, rfl⟩, HO.out⟩
end

/-! ### a section that is kept -/
theorem infoS : ∃ i z, Tryz.prog.info? 104 = some i ∧ i.zero = some z ∧ z.cells.size = 3 ∧ i.size = 3 ∧ i.bytes = 40 := by
  have h : (Tryz.prog.info? 104).map (fun i => (i.zero.map (fun z => z.cells.size), i.size, i.bytes)) = some (some 3, 3, 40) := by kernel_rfl
  cases hi : Tryz.prog.info? 104 with
  | none => rw [hi] at h; simp at h
  | some i =>
    rw [hi] at h
    simp only [Option.map_some, Option.some.injEq, Prod.mk.injEq] at h
    cases hz : i.zero with
    | none => rw [hz] at h; simp at h
    | some z =>
      rw [hz] at h
      simp only [Option.map_some, Option.some.injEq] at h
      exact ⟨i, z, rfl, hz, h.1, h.2.1, h.2.2⟩
theorem elemS : Tryz.prog.underlying 48 = some (.slice (Tryz.prog.elem 48)) := by kernel_rfl
theorem sizeS (W : World) : (sizeOf (Tryz.prog.elem 48)).run Tryz.prog W = .ok 3 W := by kernel_rfl
theorem scl_one (ps : List (Qs × Value)) : ∀ u ∈ ps.flatMap scl, (∀ p ∈ ps, p.2.oneCell' = true) → u.oneCell' = true := fun u hu h => by
  obtain ⟨p, hp, hu⟩ := List.mem_flatMap.1 hu
  simp only [scl, List.mem_cons, List.not_mem_nil, or_false] at hu
  rcases hu with rfl | rfl | rfl
  · rfl
  · rfl
  · exact h p hp
/-- v[:n:n], and an append to it. -/
theorem Sr.push {w : World} {vO : Value} {ps : List (Qs × Value)} (h : Sr w vO ps) :
    ∃ A, (∀ W : World, (Instr.slice 48 vO none (some (.int .i64 (ps.length : Int))) (some (.int .i64 (ps.length : Int)))).run Tryz.prog W = .ok (.slice A ps.length ps.length) W) ∧
      ∀ (W : World) (g : Nat) (ty : TypeId) (S C : Int) (uV : Value), Sr W vO ps → ps.length ≤ 100000 → uV.oneCell' = true → W.cell? ⟨g, 0, none⟩ = some (.int .u64 S) → W.cell? ⟨g, 1, none⟩ = some (.int .u64 C) → W.cell? ⟨g, 2, none⟩ = some uV →
        ∃ v' w', (Builtin.append_ #[48, 48] ty #[.slice A ps.length ps.length, .slice (some ⟨g, 0, none⟩) 1 1]).run Tryz.prog W = .ok v' w' ∧
          w'.ownsRow W.heap.size 104 3 v' (ps.length + 1) (ps.flatMap scl ++ [.int .u64 S, .int .u64 C, uV]) ∧ Below W.heap.size W w' := by
  obtain ⟨⟨A, c, rfl, h1, h2, h3, h4⟩, _⟩ := h
  have hm : ps.length ≤ maxLen := Nat.le_trans h1 h2
  have h63 : ps.length ≤ 9223372036854775807 := by simp only [maxLen] at hm; omega
  have hs : sliced A 0 ps.length ps.length 3 = .slice A ps.length ps.length := by
    have hA : (if ps.length = 0 then A else A.map (·.add (0 * 3))) = A := by
      split
      · rfl
      · cases A with
        | none => rfl
        | some x => simp [Addr.add]
    unfold sliced
    rw [hA]
    rfl
  refine ⟨A, fun W => ?_, ?_⟩
  · rw [run_slice_hm W 48 A ps.length c elemS .i64 .i64 (ps.length : Int) (ps.length : Int) (by omega) (by omega) (by omega), sizeS]
    simp only [Result.andThen, Int.toNat_natCast, hs]
  · intro W g ty S C uV hW hl h1c k0 k1 k2
    obtain ⟨⟨A', c', e, _, _, r3, r4⟩, r5⟩ := hW
    injection e with e1 e2 e3
    subst e1; subst e3
    obtain ⟨i, z, i1, i2, i3, i4, i5⟩ := infoS
    have hnews : ∀ (j : Nat) (u : Value), [Value.int .u64 S, .int .u64 C, uV][j]? = some u → W.cell? ((⟨g, 0, none⟩ : Addr).add j) = some u := fun j u hu => by
      rw [Addr.add_lit, Nat.zero_add]
      match j, hu with
      | 0, hu => simp only [List.getElem?_cons_zero, Option.some.injEq] at hu; rw [← hu]; exact k0
      | 1, hu => simp only [List.getElem?_cons_succ, List.getElem?_cons_zero, Option.some.injEq] at hu; rw [← hu]; exact k1
      | 2, hu => simp only [List.getElem?_cons_succ, List.getElem?_cons_zero, Option.some.injEq] at hu; rw [← hu]; exact k2
      | j + 3, hu => simp at hu
    have hone : ∀ u ∈ [Value.int .u64 S, .int .u64 C, uV], u.oneCell' = true := fun u hu => by
      simp only [List.mem_cons, List.not_mem_nil, or_false] at hu
      rcases hu with rfl | rfl | rfl
      · rfl
      · rfl
      · exact h1c
    rcases r4 with ⟨rfl, rfl⟩ | ⟨x, rfl, hx⟩
    · have hn0 : ps.length = 0 := by omega
      obtain rfl : ps = [] := List.eq_nil_of_length_eq_zero hn0
      obtain ⟨v', w', hrun, q1, q2, _⟩ := run_append_own (P := Tryz.prog) W W.heap.size 48 ty 104 i z 3 40 Tryz.underlying48 i1 i2 i4 i5 i3 (by omega) (.slice none 0 0) 0 [] (World.ownsRow_nil W _ _ _) ⟨g, 0, none⟩ 1 1 _ rfl hnews hone (by unfold maxLen; omega) (by omega) (Nat.le_refl _)
      exact ⟨v', w', hrun, q1, (Below.refl _ _).grown q2 (Nat.le_refl _) (by simp [Value.ownBlock])⟩
    · obtain ⟨v', w', hrun, q1, q2⟩ := run_append_arg_grows (P := Tryz.prog) W 48 ty 104 i z 3 40 Tryz.underlying48 i1 i2 i4 i5 i3 (by omega) x ps.length ps.length (ps.flatMap scl) r3 hx ⟨g, 0, none⟩ 1 1 _ rfl hnews (by omega) (by simp only [maxLen] at hm ⊢; omega) (by omega)
      exact ⟨v', w', hrun, q1, (Below.refl _ _).grown q2 (Nat.le_refl _) (by simp)⟩

theorem e8F_3 (t : Nat) (E : Qe) (vO vR v' : Value) (op : List Qs) : ∀ j, j < 7 → (if j = 3 then v' else e8F t E vO vR j) = e8F t ⟨E.T, E.B, E.K, op, E.rest, E.err, E.said⟩ v' vR j := fun j hj => by
  unfold e8F
  match j, hj with
  | 0, _ => rfl
  | 1, _ => rfl
  | 2, _ => rfl
  | 3, _ => rfl
  | 4, _ => rfl
  | 5, _ => rfl
  | 6, _ => rfl
theorem scl_snoc (ps : List (Qs × Value)) (x : Qs) (uV : Value) : (ps ++ [(x, uV)]).flatMap scl = ps.flatMap scl ++ [.int .u64 (x.s : Int), .int .u64 (x.c : Int), uV] := by simp [scl]
/-- A section more. -/
theorem close_push {q t B : Nat} {E : Qe} {wx w6 : World} {vO vR uV v' : Value} {ps : List (Qs × Value)} {S1 S2 e : Nat → Prop} {x : Qs}
    (he : ∀ k, e k ↔ S1 k ∨ S2 k ∨ k = q) (g0 : ps.map Prod.fst = E.op) (g1 : wx.rowIs q 50 7 (e8F t E vO vR)) (g2 : Rt t E.T wx S1) (g3 : Ob (fun W => Sr W vO ps ∧ Bs W vR E.rest) wx S2) (g4 : ∀ k, S1 k → ¬ S2 k) (g5 : ¬ S1 q) (g6 : ¬ S2 q)
    (h3 : NoT B wx e) (h6 : OwU wx B uV x.u) (hB : B ≤ wx.heap.size) (hb : Below wx.heap.size wx w6) (hr : w6.ownsRow wx.heap.size 104 3 v' (ps.length + 1) ((ps ++ [(x, uV)]).flatMap scl)) :
    ∃ e', E8 q t ⟨E.T, E.B, E.K, E.op ++ [x], E.rest, E.err, E.said⟩ (w6.setCell ⟨q, 3, none⟩ v') e' ∧ (∀ k, e' k → e k ∨ B ≤ k) ∧ Fp e wx (w6.setCell ⟨q, 3, none⟩ v') ∧
      ∀ v l, OwB (w6.setCell ⟨q, 3, none⟩ v') B v l → ∀ k, v.ownBlock = some k → ¬ e' k := by
  have hq := g1.lt
  have heq : e q := (he q).2 (.inr (.inr rfl))
  have hlt1 := (Wd.rt t E.T).lt g2
  have hlt2 := (Wd.ob _).lt g3
  have hU := h3.not h6 (.inr (.inl rfl))
  have h6' : OwU w6 B uV x.u := ownN_keep h6 hb
  have hf : Fp (fun k => k = q) w6 (w6.setCell ⟨q, 3, none⟩ v') := Fp.set _ _ _ _ rfl
  have hrow := ((g1.of_block (hb.block q hq)).set 3 v').congr (e8F_3 t E vO vR v' (E.op ++ [x]))
  have hv1 : ∀ k, v'.ownBlock = some k → wx.heap.size ≤ k ∧ k < w6.heap.size := hr.lt
  have hu1 : ∀ k, uV.ownBlock = some k → B ≤ k ∧ k < wx.heap.size := h6.lt
  have hr7 : (w6.setCell ⟨q, 3, none⟩ v').ownsRow wx.heap.size 104 3 v' (ps.length + 1) ((ps ++ [(x, uV)]).flatMap scl) := own_kept hr fun g hg => hf.block g (hv1 g hg).2 (by have := (hv1 g hg).1; omega)
  have hu7 : OwU (w6.setCell ⟨q, 3, none⟩ v') B uV x.u := own_kept h6' fun g hg => hf.block g (Nat.lt_of_lt_of_le (hu1 g hg).2 hb.size) (fun e => hU g hg (e ▸ heq))
  have g2' : Rt t E.T (w6.setCell ⟨q, 3, none⟩ v') S1 := (Wd.rt t E.T).besides ((Wd.rt t E.T).keep g2 hb) hf fun k hk e => g5 (e ▸ hk)
  have g3' := (Wd.ob _).besides ((Wd.ob _).keep g3 hb) hf fun k hk e => g6 (e ▸ hk)
  have hob := (g3'.and (Ob.own hr7)).and (Ob.own (by unfold OwU at hu7; exact hu7))
  have hob2 : Ob (fun W => Sr W v' (ps ++ [(x, uV)]) ∧ Bs W vR E.rest) (w6.setCell ⟨q, 3, none⟩ v') (fun k => (S2 k ∨ v'.ownBlock = some k) ∨ uV.ownBlock = some k) := hob.map fun W hW => by
    obtain ⟨⟨⟨a1, a2⟩, a3⟩, a4⟩ := hW
    refine ⟨⟨by simpa using a3, fun p hp => ?_⟩, a2⟩
    rcases List.mem_append.1 hp with hp | hp
    · exact a1.2 p hp
    · rw [List.mem_singleton.1 hp]
      exact Rd.of_rn (by rw [List.length_map]; exact a4)
  have hE := E8.shut_ (E := ⟨E.T, E.B, E.K, E.op ++ [x], E.rest, E.err, E.said⟩) (by rw [List.map_append, g0]; rfl) hrow g2' hob2 (fun k hk hs => by
    rcases hs with (hs | hs) | hs
    · exact g4 k hk hs
    · have := (hv1 k hs).1; have := hlt1 k hk; omega
    · exact hU k hs ((he k).2 (.inl hk))) g5 (fun hs => by
    rcases hs with (hs | hs) | hs
    · exact g6 hs
    · have := (hv1 q hs).1; omega
    · exact hU q hs heq)
  refine ⟨_, hE, fun k hk => ?_, (Fp.of_below hb).then (hf.mono fun k hk => hk ▸ heq), fun v l ho k hk hs => ?_⟩
  · rcases hk with hk | ((hk | hk) | hk) | hk
    · exact .inl ((he k).2 (.inl hk))
    · exact .inl ((he k).2 (.inr (.inl hk)))
    · exact .inr (Nat.le_trans hB (hv1 k hk).1)
    · exact .inr (hu1 k hk).1
    · exact .inl ((he k).2 (.inr (.inr hk)))
  · obtain ⟨c, hc⟩ := own_blk ho hk
    have hBk := ho.ge hk
    have hne : ∀ j, e j → B ≤ j → j ≠ k := fun j hj hjB e1 => by
      subst e1
      obtain ⟨o, h1, h2⟩ := h3 j hj hjB
      have hjl := (Array.getElem?_eq_some_iff.1 h1).1
      by_cases hjq : j = q
      · subst hjq
        obtain ⟨c2, hc2, _⟩ := hrow
        rw [hc] at hc2
        injection hc2 with hc2
        injection hc2 with _ e2 _
        exact absurd e2 (by decide)
      · rw [hf.block j (Nat.lt_of_lt_of_le hjl hb.size) hjq, hb.block j hjl, h1] at hc
        injection hc with hc
        exact (h2 _ _).1 hc
    rcases hs with hs | ((hs | hs) | hs) | hs
    · exact hne k ((he k).2 (.inl hs)) hBk rfl
    · exact hne k ((he k).2 (.inr (.inl hs))) hBk rfl
    · obtain ⟨c2, hc2⟩ := own_blk hr7 hs
      rw [hc] at hc2
      injection hc2 with hc2
      injection hc2 with _ e2 _
      exact absurd e2 (by decide)
    · obtain ⟨c2, hc2⟩ := own_blk hu7 hs
      rw [hc] at hc2
      injection hc2 with hc2
      injection hc2 with _ e2 _
      exact absurd e2 (by decide)
    · exact hne k ((he k).2 (.inr (.inr hs))) hBk rfl
end Go.Proofs.YtebakjdeighdnaaGreat

/-
  The document's Encode of QPACK, in pieces: its end.
-/
namespace Go.Proofs.YtebakjdeighdnaaGreat
open Go.RowKit Go.Maps
set_option linter.unusedVariables false
set_option linter.unusedSimpArgs false

theorem own_mono {w : World} {B B' k n : Nat} {ty : TypeId} {v : Value} {xs : List Value} (h : w.ownsRow B ty k v n xs) (hB : B' ≤ B) : w.ownsRow B' ty k v n xs := by
  refine ⟨h.1, h.2.imp id ?_⟩
  rintro ⟨g, cap, cur, a, b, c⟩
  exact ⟨g, cap, cur, a, by omega, c⟩
section
variable {q t s : Nat} {E : Qe} {S : Nat → Prop} {w wx : World} {k c : Nat} {iV uV aV lv : Value} {all : List Ql} {ins ls : List UInt8} {us : List Nat} {fx : List (Nat × Array Value)}
/-- What Encode comes to. -/
def EFin (q t s : Nat) (E : Qe) (S : Nat → Prop) (w : World) (c : Nat) (us : List Nat) (ins ls : List UInt8) (iV lv : Value) (w' : World) : Prop :=
  ∃ e', E8 q t ⟨E.T, E.B, E.K, if 0 < c then E.op ++ [⟨s, c, us⟩] else E.op, E.rest, E.err, E.said⟩ w' e' ∧ (∀ k, e' k → S k ∨ w.heap.size ≤ k) ∧ Fp S w w' ∧ OwB w' w.heap.size iV ins ∧ OwB w' w.heap.size lv ls ∧
    (∀ k, iV.ownBlock = some k → ¬ e' k) ∧ ∀ k, lv.ownBlock = some k → ¬ e' k
def ERet (q t s : Nat) (E : Qe) (S : Nat → Prop) (w : World) (c : Nat) (us : List Nat) (ins ls : List UInt8) (ac : Act) (w' : World) : Prop :=
  ac.defers = [] ∧ EFin q t s E S w c us ins ls (ac.tmps.getD 6 undef) (ac.tmps.getD 7 undef) w'

set_option maxRecDepth 100000 in
set_option maxHeartbeats 40000000 in
theorem tail_any8 (ac : Act) (hA : At3 ac q s iV lv uV aV c k) (hQ : QS q t E S w fx iV ins uV us aV all wx) (ho : OwB wx w.heap.size lv ls) (hop : E.op.length ≤ 100000) :
    Code.wp Tryz.prog (estmt 54) (Kx (fun _ _ => False) (ERet q t s E S w c us ins ls) (fun _ _ _ => False)) ac wx := by
  obtain ⟨u, hu, hac⟩ := eframe ac hA.z hA.d
  have h0 := (hu 0).symm.trans hA.t0
  have h1 := (hu 1).symm.trans hA.t1
  have h8 := (hu 8).symm.trans hA.t8
  have h9 := (hu 9).symm.trans hA.t9
  have h12 := (hu 12).symm.trans hA.t12
  have h13 := (hu 13).symm.trans hA.t13
  have h14 := (hu 14).symm.trans hA.t14
  have h24 := (hu 24).symm.trans hA.t24
  rw [hac]
  clear hac hA
  rw [h0, h1, h8, h9, h12, h13, h14, h24]
  clear h0 h1 h8 h9 h12 h13 h14 h24 hu
  conv => arg 2; whnf
  obtain ⟨C, hC⟩ := letter c
  rw [hC]
  by_cases hc : c = 0
  · have hd : decide (0 < C) = false := by rw [decide_eq_false_iff_not]; omega
    have HF : Bx (EFin q t s E S w c us ins ls iV lv wx) := ⟨by
      obtain ⟨e, h1, h2, h3, h4, h5, h6, h7, h8⟩ := hQ
      refine ⟨e, by rw [if_neg (by omega)]; exact h1, h2, h4, h5, ho, h3.not h5 (.inl rfl), h3.not (show wx.ownsRow w.heap.size 5 1 lv _ _ from ho) (.inl rfl)⟩⟩
    clear hQ ho hC hc
    go_wp2_with fail
    exact Kx.ret ⟨rfl, HF.out⟩
  · have hd : decide (0 < C) = true := by rw [decide_eq_true_iff]; omega
    have hBs := hQ.size
    obtain ⟨UA, un, uc, rfl⟩ := hQ.uses.un.shape
    obtain ⟨e, h1, h2, h3, h4, h5, h6, h7, h8⟩ := hQ
    obtain ⟨vO, vR, ps, S1, S2, g0, g1, g2, g3, g4, g5, g6, g7⟩ := h1.open_
    obtain ⟨hsr, _⟩ := Ob.get g3
    have hlen := fun ty W => hsr.run_len ty W
    obtain ⟨A, hslice, hpush⟩ := hsr.push
    have hpl : ps.length ≤ 100000 := by rw [← g0] at hop; simpa using hop
    have c3 : wx.cell? ⟨q, 3, none⟩ = some vO := g1.cell (i := 3) (by omega)
    have hq := g1.lt
    obtain ⟨w5, hw5⟩ : ∃ w5, wx.drew.alloc (.cells #[.int .u64 (s : Int), .int .u64 C, (Value.slice UA un uc)] 104) = w5 := ⟨_, rfl⟩
    obtain ⟨G, hG⟩ : ∃ G, wx.heap.size = G := ⟨_, rfl⟩
    have hblk : w5.heap[G]? = some (.cells #[.int .u64 (s : Int), .int .u64 C, (Value.slice UA un uc)] 104 (0, 0)) := by rw [← hw5, ← hG]; exact heap_alloc_last wx.drew _
    have hb5 : Below wx.heap.size wx w5 := by rw [← hw5]; exact (Below.refl _ _).drew.alloc (Nat.le_refl _) _
    have hg5 : w5.heap.size = wx.heap.size + 1 := by rw [← hw5]; simp
    have huv : (Value.slice UA un uc).oneCell' = true := rfl
    obtain ⟨v', w6, hrun, hrow, hb6⟩ := hpush w5 G 48 (s : Int) C (Value.slice UA un uc) (hsr.keep hb5) hpl huv (by simp [World.cell?, hblk]) (by simp [World.cell?, hblk]) (by simp [World.cell?, hblk])
    have hbx6 : Below wx.heap.size wx w6 := hb5.trans (hb6.mono (by omega))
    have d0 : wx.drew.cell? ⟨q, 3, none⟩ = some vO := c3
    have d1 : w5.cell? ⟨q, 3, none⟩ = some vO := (hb5.cell hq).trans c3
    have d6 : w6.cell? ⟨q, 3, none⟩ = some vO := (hbx6.cell hq).trans c3
    have df : w6.frozen? ⟨q, 3, none⟩ = false := by
      have := (g1.of_block (hbx6.block q hq)).frozen 3
      exact this
    have hvs : ∃ A2 n2 c2, v' = .slice A2 n2 c2 := by
      obtain ⟨A2, c2, e2, _⟩ := Rn.of_own hrow
      exact ⟨_, _, _, e2⟩
    have HF : Bx (EFin q t s E S w c us ins ls iV lv (w6.setCell ⟨q, 3, none⟩ v')) := ⟨by
      have hrow2 : w6.ownsRow wx.heap.size 104 3 v' (ps.length + 1) ((ps ++ [((⟨s, c, us⟩ : Qs), (Value.slice UA un uc))]).flatMap scl) := by
        rw [scl_snoc, hC]
        exact own_mono hrow (by have := hb5.size; omega)
      obtain ⟨e', a1, a2, a3, a4⟩ := close_push (x := ⟨s, c, us⟩) g7 g0 g1 g2 g3 g4 g5 g6 h3 h6 hBs hbx6 hrow2
      have hne : ∀ v l, OwB wx w.heap.size v l → OwB (w6.setCell ⟨q, 3, none⟩ v') w.heap.size v l := fun v l hv => hv.kept fun k hk => a3.block k (hv.lt hk) (h3.not (show wx.ownsRow w.heap.size 5 1 v _ _ from hv) (.inl rfl) k hk)
      exact ⟨e', by rw [if_pos (by omega)]; exact a1, fun k hk => (a2 k hk).elim (h2 k) .inr, h4.trans a3 h2, hne _ _ h5, hne _ _ ho, a4 _ _ (hne _ _ h5), a4 _ _ (hne _ _ ho)⟩⟩
    obtain ⟨A2, n2, c2, rfl⟩ := hvs
    obtain ⟨n, hn⟩ : ∃ n, ps.length = n := ⟨_, rfl⟩
    rw [hn] at hlen hslice hrun
    clear h1 h2 h3 h4 h5 h6 h7 h8 g0 g1 g2 g3 g4 g5 g6 g7 hsr hpush hpl c3 hBs huv hrow hb6 hbx6 hb5 hblk hn hc hC ho hop hg5
    subst hw5
    subst hG
    go_wp2_with fail
    -- REGION
    refine wp_region_x 24 (fun W => W.cell? ⟨q, 3, none⟩ = some vO) (by kernel_rfl) (d0) (fun hHeld => ?_)
    refine wpAnyX_take0 (i := 0) (oi := ⟨some 262, Op.move (Operand.tmp 0), 43, _, _, none⟩) (v := ?v0) rfl (by omega) (by kernel_rfl) (by kernel_rfl) (by kernel_rfl) (fun _ _ _ h => h) (Or.inl ⟨by rfl, ?y0⟩) (by assumption) ?r0
    case y0 =>
      intro W hSw
      try dsimp only at hSw
      go_simp
      try with_reducible rfl
    case r0 =>
    try simp only [Act.put, List.setIfInBounds_toArray, List.set_cons_zero, List.set_cons_succ]
    refine wpAnyX_take0 (i := 1) (oi := ⟨some 263, Op.move (Operand.tmp 0), 43, _, _, none⟩) (v := ?v1) rfl (by omega) (by kernel_rfl) (by kernel_rfl) (by kernel_rfl) (fun _ _ _ h => h) (Or.inl ⟨by rfl, ?y1⟩) (by assumption) ?r1
    case y1 =>
      intro W hSw
      try dsimp only at hSw
      go_simp
      try with_reducible rfl
    case r1 =>
    try simp only [Act.put, List.setIfInBounds_toArray, List.set_cons_zero, List.set_cons_succ]
    refine wpAnyX_take0 (i := 2) (oi := ⟨some 264, Op.nilCheck (Operand.tmp 263), 0, _, _, none⟩) (v := ?v2) rfl (by omega) (by kernel_rfl) (by kernel_rfl) (by kernel_rfl) (fun _ _ _ h => h) (Or.inl ⟨by rfl, ?y2⟩) (by assumption) ?r2
    case y2 =>
      intro W hSw
      try dsimp only at hSw
      go_simp
      try with_reducible rfl
    case r2 =>
    try simp only [Act.put, List.setIfInBounds_toArray, List.set_cons_zero, List.set_cons_succ]
    refine wpAnyX_take0 (i := 3) (oi := ⟨some 265, Op.fieldAddr 50 (Operand.tmp 264) 3, 0, _, _, none⟩) (v := ?v3) rfl (by omega) (by kernel_rfl) (by kernel_rfl) (by kernel_rfl) (fun _ _ _ h => h) (Or.inl ⟨by rfl, ?y3⟩) (by assumption) ?r3
    case y3 =>
      intro W hSw
      try dsimp only at hSw
      go_simp
      try with_reducible rfl
    case r3 =>
    try simp only [Act.put, List.setIfInBounds_toArray, List.set_cons_zero, List.set_cons_succ]
    refine wpAnyX_take (i := 4) (oi := ⟨some 266, Op.load 48 (Operand.tmp 265), 48, _, _, none⟩) (v := ?v4) rfl (by omega) (by kernel_rfl) (by kernel_rfl) (by kernel_rfl) (by kernel_rfl) (by kernel_rfl) (fun _ _ _ h => h) (Or.inl ⟨by rfl, ?y4⟩) (by assumption) ?r4
    case y4 =>
      intro W hSw
      try dsimp only at hSw
      go_simp
      try with_reducible rfl
    case r4 =>
    try simp only [Act.put, List.setIfInBounds_toArray, List.set_cons_zero, List.set_cons_succ]
    refine wpAnyX_take0 (i := 5) (oi := ⟨some 267, Op.move (Operand.tmp 0), 43, _, _, none⟩) (v := ?v5) rfl (by omega) (by kernel_rfl) (by kernel_rfl) (by kernel_rfl) (fun _ _ _ h => h) (Or.inl ⟨by rfl, ?y5⟩) (by assumption) ?r5
    case y5 =>
      intro W hSw
      try dsimp only at hSw
      go_simp
      try with_reducible rfl
    case r5 =>
    try simp only [Act.put, List.setIfInBounds_toArray, List.set_cons_zero, List.set_cons_succ]
    refine wpAnyX_take0 (i := 6) (oi := ⟨some 268, Op.nilCheck (Operand.tmp 267), 0, _, _, none⟩) (v := ?v6) rfl (by omega) (by kernel_rfl) (by kernel_rfl) (by kernel_rfl) (fun _ _ _ h => h) (Or.inl ⟨by rfl, ?y6⟩) (by assumption) ?r6
    case y6 =>
      intro W hSw
      try dsimp only at hSw
      go_simp
      try with_reducible rfl
    case r6 =>
    try simp only [Act.put, List.setIfInBounds_toArray, List.set_cons_zero, List.set_cons_succ]
    refine wpAnyX_take0 (i := 7) (oi := ⟨some 269, Op.fieldAddr 50 (Operand.tmp 268) 3, 0, _, _, none⟩) (v := ?v7) rfl (by omega) (by kernel_rfl) (by kernel_rfl) (by kernel_rfl) (fun _ _ _ h => h) (Or.inl ⟨by rfl, ?y7⟩) (by assumption) ?r7
    case y7 =>
      intro W hSw
      try dsimp only at hSw
      go_simp
      try with_reducible rfl
    case r7 =>
    try simp only [Act.put, List.setIfInBounds_toArray, List.set_cons_zero, List.set_cons_succ]
    refine wpAnyX_take (i := 8) (oi := ⟨some 270, Op.load 48 (Operand.tmp 269), 48, _, _, none⟩) (v := ?v8) rfl (by omega) (by kernel_rfl) (by kernel_rfl) (by kernel_rfl) (by kernel_rfl) (by kernel_rfl) (fun _ _ _ h => h) (Or.inl ⟨by rfl, ?y8⟩) (by assumption) ?r8
    case y8 =>
      intro W hSw
      try dsimp only at hSw
      go_simp
      try with_reducible rfl
    case r8 =>
    try simp only [Act.put, List.setIfInBounds_toArray, List.set_cons_zero, List.set_cons_succ]
    refine wpAnyX_take (i := 9) (oi := ⟨some 271, Op.call { callee := Callee.builtin Builtin.len, args := #[Operand.tmp 270], argTypes := #[48] }, 3, _, _, none⟩) (v := ?v9) rfl (by omega) (by kernel_rfl) (by kernel_rfl) (by kernel_rfl) (by kernel_rfl) (by kernel_rfl) (fun _ _ _ h => h) (Or.inl ⟨by rfl, ?y9⟩) (by assumption) ?r9
    case y9 =>
      intro W hSw
      try dsimp only at hSw
      go_simp
      try with_reducible rfl
    case r9 =>
    try simp only [Act.put, List.setIfInBounds_toArray, List.set_cons_zero, List.set_cons_succ]
    refine wpAnyX_take0 (i := 10) (oi := ⟨some 272, Op.move (Operand.tmp 0), 43, _, _, none⟩) (v := ?v10) rfl (by omega) (by kernel_rfl) (by kernel_rfl) (by kernel_rfl) (fun _ _ _ h => h) (Or.inl ⟨by rfl, ?y10⟩) (by assumption) ?r10
    case y10 =>
      intro W hSw
      try dsimp only at hSw
      go_simp
      try with_reducible rfl
    case r10 =>
    try simp only [Act.put, List.setIfInBounds_toArray, List.set_cons_zero, List.set_cons_succ]
    refine wpAnyX_take0 (i := 11) (oi := ⟨some 273, Op.nilCheck (Operand.tmp 272), 0, _, _, none⟩) (v := ?v11) rfl (by omega) (by kernel_rfl) (by kernel_rfl) (by kernel_rfl) (fun _ _ _ h => h) (Or.inl ⟨by rfl, ?y11⟩) (by assumption) ?r11
    case y11 =>
      intro W hSw
      try dsimp only at hSw
      go_simp
      try with_reducible rfl
    case r11 =>
    try simp only [Act.put, List.setIfInBounds_toArray, List.set_cons_zero, List.set_cons_succ]
    refine wpAnyX_take0 (i := 12) (oi := ⟨some 274, Op.fieldAddr 50 (Operand.tmp 273) 3, 0, _, _, none⟩) (v := ?v12) rfl (by omega) (by kernel_rfl) (by kernel_rfl) (by kernel_rfl) (fun _ _ _ h => h) (Or.inl ⟨by rfl, ?y12⟩) (by assumption) ?r12
    case y12 =>
      intro W hSw
      try dsimp only at hSw
      go_simp
      try with_reducible rfl
    case r12 =>
    try simp only [Act.put, List.setIfInBounds_toArray, List.set_cons_zero, List.set_cons_succ]
    refine wpAnyX_take (i := 13) (oi := ⟨some 275, Op.load 48 (Operand.tmp 274), 48, _, _, none⟩) (v := ?v13) rfl (by omega) (by kernel_rfl) (by kernel_rfl) (by kernel_rfl) (by kernel_rfl) (by kernel_rfl) (fun _ _ _ h => h) (Or.inl ⟨by rfl, ?y13⟩) (by assumption) ?r13
    case y13 =>
      intro W hSw
      try dsimp only at hSw
      go_simp
      try with_reducible rfl
    case r13 =>
    try simp only [Act.put, List.setIfInBounds_toArray, List.set_cons_zero, List.set_cons_succ]
    refine wpAnyX_take (i := 14) (oi := ⟨some 276, Op.call { callee := Callee.builtin Builtin.len, args := #[Operand.tmp 275], argTypes := #[48] }, 3, _, _, none⟩) (v := ?v14) rfl (by omega) (by kernel_rfl) (by kernel_rfl) (by kernel_rfl) (by kernel_rfl) (by kernel_rfl) (fun _ _ _ h => h) (Or.inl ⟨by rfl, ?y14⟩) (by assumption) ?r14
    case y14 =>
      intro W hSw
      try dsimp only at hSw
      go_simp
      try with_reducible rfl
    case r14 =>
    try simp only [Act.put, List.setIfInBounds_toArray, List.set_cons_zero, List.set_cons_succ]
    refine wpAnyX_take0 (i := 15) (oi := ⟨some 277, Op.slice 48 (Operand.tmp 266) none (some (Operand.tmp 271)) (some (Operand.tmp 276)), 48, _, _, none⟩) (v := ?v15) rfl (by omega) (by kernel_rfl) (by kernel_rfl) (by kernel_rfl) (fun _ _ _ h => h) (Or.inl ⟨by rfl, ?y15⟩) (by assumption) ?r15
    case y15 =>
      intro W hSw
      try dsimp only at hSw
      go_simp
      try with_reducible rfl
    case r15 =>
    try simp only [Act.put, List.setIfInBounds_toArray, List.set_cons_zero, List.set_cons_succ]
    refine wpAnyX_take0 (i := 16) (oi := ⟨some 278, Op.move (Operand.tmp 1), 32, _, _, none⟩) (v := ?v16) rfl (by omega) (by kernel_rfl) (by kernel_rfl) (by kernel_rfl) (fun _ _ _ h => h) (Or.inl ⟨by rfl, ?y16⟩) (by assumption) ?r16
    case y16 =>
      intro W hSw
      try dsimp only at hSw
      go_simp
      try with_reducible rfl
    case r16 =>
    try simp only [Act.put, List.setIfInBounds_toArray, List.set_cons_zero, List.set_cons_succ]
    refine wpAnyX_take0 (i := 17) (oi := ⟨some 279, Op.move (Operand.tmp 13), 32, _, _, none⟩) (v := ?v17) rfl (by omega) (by kernel_rfl) (by kernel_rfl) (by kernel_rfl) (fun _ _ _ h => h) (Or.inl ⟨by rfl, ?y17⟩) (by assumption) ?r17
    case y17 =>
      intro W hSw
      try dsimp only at hSw
      go_simp
      try with_reducible rfl
    case r17 =>
    try simp only [Act.put, List.setIfInBounds_toArray, List.set_cons_zero, List.set_cons_succ]
    refine wpAnyX_take0 (i := 18) (oi := ⟨some 280, Op.move (Operand.tmp 12), 66, _, _, none⟩) (v := ?v18) rfl (by omega) (by kernel_rfl) (by kernel_rfl) (by kernel_rfl) (fun _ _ _ h => h) (Or.inl ⟨by rfl, ?y18⟩) (by assumption) ?r18
    case y18 =>
      intro W hSw
      try dsimp only at hSw
      go_simp
      try with_reducible rfl
    case r18 =>
    try simp only [Act.put, List.setIfInBounds_toArray, List.set_cons_zero, List.set_cons_succ]
    refine wpAnyX_take0 (i := 19) (oi := ⟨some 281, Op.build 104 #[(0, Operand.tmp 278), (1, Operand.tmp 279), (2, Operand.tmp 280)], 104, _, _, none⟩) (v := ?v19) rfl (by omega) (by kernel_rfl) (by kernel_rfl) (by kernel_rfl) (fun _ _ _ h => h) (Or.inl ⟨by rfl, ?y19⟩) (by assumption) ?r19
    case y19 =>
      intro W hSw
      try dsimp only at hSw
      go_simp
      try with_reducible rfl
    case r19 =>
    try simp only [Act.put, List.setIfInBounds_toArray, List.set_cons_zero, List.set_cons_succ]
    refine wpAnyX_one (i := 20) (by kernel_rfl) rfl (fun K hK => ?_)
    go_simp
    refine hK.out _ _ (fun _ => d1) ?_
    clear hK K
    try simp only [Act.put, List.setIfInBounds_toArray, List.set_cons_zero, List.set_cons_succ]
    refine wpAnyX_one (i := 21) (by kernel_rfl) rfl (fun K hK => ?_)
    refine step_append_run rfl (.tmp 277) (.tmp 282) 48 rfl (.slice A n n) _ rfl rfl hrun ?_
    refine hK.out _ _ (fun _ => d6) ?_
    clear hK K
    try simp only [Act.put, List.setIfInBounds_toArray, List.set_cons_zero, List.set_cons_succ]
    refine wpAnyX_take0 (i := 22) (oi := ⟨some 284, Op.nilCheck (Operand.tmp 262), 0, _, _, none⟩) (v := ?v22) rfl (by omega) (by kernel_rfl) (by kernel_rfl) (by kernel_rfl) (fun _ _ _ h => h) (Or.inl ⟨by rfl, ?y22⟩) (by assumption) ?r22
    case y22 =>
      intro W hSw
      try dsimp only at hSw
      go_simp
      try with_reducible rfl
    case r22 =>
    try simp only [Act.put, List.setIfInBounds_toArray, List.set_cons_zero, List.set_cons_succ]
    refine wpAnyX_take0 (i := 23) (oi := ⟨some 285, Op.fieldAddr 50 (Operand.tmp 284) 3, 0, _, _, none⟩) (v := ?v23) rfl (by omega) (by kernel_rfl) (by kernel_rfl) (by kernel_rfl) (fun _ _ _ h => h) (Or.inl ⟨by rfl, ?y23⟩) (by assumption) ?r23
    case y23 =>
      intro W hSw
      try dsimp only at hSw
      go_simp
      try with_reducible rfl
    case r23 =>
    try simp only [Act.put, List.setIfInBounds_toArray, List.set_cons_zero, List.set_cons_succ]
    refine wpAnyX_one (i := 24) (by kernel_rfl) rfl (fun K hK => ?_)
    go_simp
    refine hK.out _ _ (fun h => absurd h (by decide)) ?_
    clear hK K
    try simp only [Act.put, List.setIfInBounds_toArray, List.set_cons_zero, List.set_cons_succ]
    refine wpAnyX_done (by kernel_rfl) ?_ _
    -- END
    go_wp2_with fail
    exact Kx.ret ⟨rfl, HF.out⟩
end
end Go.Proofs.YtebakjdeighdnaaGreat
