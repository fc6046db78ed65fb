/-
  Packets: the program's readHead, Read (written by mkqkd.py).
-/
import Derived.Test.YtcakppdabolfiaaQkE
namespace Go.Proofs.Ytcakppdabolfiaa
open Go.RowKit
set_option linter.unusedVariables false
set_option linter.unusedSimpArgs false

/-- What readHead answers. -/
def HdPost (w : World) (lo : Bool) (ty : Int) (ver k at' en : Nat) (dl sl : List UInt8) (e : Ending) (w' : World) : Prop :=
  ∃ Ad nd cd As ns cs, e = .returned (.tuple #[.agg (hdV lo ty ver (.slice Ad nd cd) (.slice As ns cs) 0 (k : Int)), .int .i64 (at' : Int), .int .i64 (en : Int)]) ∧ OwB w' w.heap.size (.slice Ad nd cd) dl ∧ OwB w' w.heap.size (.slice As ns cs) sl ∧ Below w.heap.size w w'
theorem OwB.nil0 (w : World) (B : Nat) : OwB w B (.slice none 0 0) [] := OwB.nil w B
set_option maxRecDepth 100000 in
set_option maxHeartbeats 4000000 in
theorem qHead_short (v : Value) (c : UInt8) (j : Nat) (t : List UInt8) (w : World) (hv : Bs w v (c :: t)) (hc : c.toNat = 64 + j) (hj : j < 4) (h8 : 8 ≤ t.length) (hl : t.length ≤ 500000) :
    Calls Try.prog 56 #[v] w (HdPost w false 0 0 (j + 1) 9 (t.length + 1) (t.take 8) []) := by
  have h60 : c.toNat &&& 60 = 0 := by
    rw [hc]
    have : j = 0 ∨ j = 1 ∨ j = 2 ∨ j = 3 := by omega
    rcases this with rfl | rfl | rfl | rfl <;> rfl
  have HRS := Bx.mk (fun W (h : Bs W v (c :: t)) => qRShort_any v c t W h h60 h8 hl)
  rw [hc, show (64 + j) % 4 + 1 = j + 1 by omega] at HRS
  have a64 : bits .and .u8 ((64 + j : Nat) : Int) 64 = 64 := by
    rw [show (64 : Int) = ((64 : Nat) : Int) from rfl, u8_and_nat _ _ (by omega) (by decide)]
    have : j = 0 ∨ j = 1 ∨ j = 2 ∨ j = 3 := by omega
    rcases this with rfl | rfl | rfl | rfl <;> rfl
  have a128 : bits .and .u8 ((64 + j : Nat) : Int) 128 = 0 := by
    rw [show (128 : Int) = ((128 : Nat) : Int) from rfl, u8_and_nat _ _ (by omega) (by decide)]
    have : j = 0 ∨ j = 1 ∨ j = 2 ∨ j = 3 := by omega
    rcases this with rfl | rfl | rfl | rfl <;> rfl
  obtain ⟨x, hx⟩ : ∃ x, 64 + j = x := ⟨_, rfl⟩
  rw [hx] at a64 a128
  have HV := Bx.mk hv
  obtain ⟨b, o, L, cc, rfl, hL, h1, h2, h3, h4⟩ := hv.cell0
  have f0 : ((L : Int) == 0) = false := by rw [beq_eq_false_iff_ne]; omega
  have f0n : ¬ (L : Int) = 0 := by omega
  have hL0 : 0 < L := h1
  have HZ0 : Bx (Sb 38 (w.alloc (.cells #[.bool false, .int .i64 0, .int .u32 0, .slice none 0 0, .slice none 0 0, .int .u64 0, .int .i64 0] 38)) w.heap.size #[.bool false, .int .i64 0, .int .u32 0, .slice none 0 0, .slice none 0 0, .int .u64 0, .int .i64 0]) := ⟨Sb.new _ w _⟩
  have HB0 : Bx (Below w.heap.size w (w.alloc (.cells #[.bool false, .int .i64 0, .int .u32 0, .slice none 0 0, .slice none 0 0, .int .u64 0, .int .i64 0] 38))) := ⟨(Below.refl _ _).alloc (Nat.le_refl _) _⟩
  have h4b : (w.alloc (.cells #[.bool false, .int .i64 0, .int .u32 0, .slice none 0 0, .slice none 0 0, .int .u64 0, .int .i64 0] 38)).cell? ⟨b, o, none⟩ = some (.int .u8 (x : Int)) := by
    have := Bs.cell (show Bs _ (.slice (some ⟨b, o, none⟩) L cc) (c :: t) from HV.out.keep HB0.out) 0 (by simp)
    rw [List.getElem_cons_zero, hc, hx] at this
    exact this
  clear hL hc hj h8 hl hx h4 h60
  go_enter Try.func56, Try.ntmps56
  go_wp2_with (first
    | (go_at_call 85
       refine (HRS.out _ (HV.out.keep HB0.out)).mono ?_
       rintro e w1 ⟨Ad, nd, cd, rfl, o1, b1⟩
       have HO1 := Bx.mk o1
       have HB1 := Bx.mk (HB0.out.trans (b1.mono HB0.out.size))
       have HZ1 := Bx.mk (HZ0.out.keep b1)
       clear o1 b1)
    | (with_reducible refine wpList_storeS 38 w.heap.size #[.bool false, .int .i64 0, .int .u32 0, .slice none 0 0, .slice none 0 0, .int .u64 0, .int .i64 0] (hdV false 0 0 (.slice Ad nd cd) (.slice none 0 0) 0 ((j + 1 : Nat) : Int)) rfl rfl HZ1.out (hdV_i _ _ _ _ _ _ _) (hdV_o _ _ _ _ _ _ _) (hdV_1 _ _ _ _ _ _ _ _ _ _ _) ?_
       intro w2 hs2 hg2
       have HS2 := Bx.mk hs2
       have HO2 : Bx (OwB w2 w.heap.size (.slice Ad nd cd) (t.take 8)) := ⟨(HO1.out.grownQ hg2 (by simp)).mono (by simp)⟩
       have HB2 := Bx.mk (HB1.out.grown hg2 HB1.out.size (fun k hk => by injection hk with hk; omega))
       clear hs2 hg2))
  exact bodyPost_ret (ret_Hd Try.results56 _ _ w.heap.size _ _ _ _ _ _ _ _ _ rfl rfl rfl HS2.out) rfl ⟨Ad, nd, cd, none, 0, 0, rfl, HO2.out, OwB.nil0 _ _, HB2.out⟩
/-- No packet. -/
def ReadNo (w : World) (e : Ending) (w' : World) : Prop := e = .returned (.tuple #[.agg #[.bool false, .int .i64 0, .int .u32 0, .slice none 0 0, .slice none 0 0, .int .u64 0, .int .i64 0], .slice none 0 0, .int .i64 0, .int .i64 40]) ∧ Below w.heap.size w w'
/-- A packet: its head, its payload, how many bytes. -/
def ReadYes (w : World) (lo : Bool) (ty : Int) (ver k pn en : Nat) (dl sl pl : List UInt8) (e : Ending) (w' : World) : Prop :=
  ∃ d s p, e = .returned (.tuple #[.agg (hdV lo ty ver d s pn (k : Int)), p, .int .i64 (en : Int), .int .i64 0]) ∧ Bs w' d dl ∧ Bs w' s sl ∧ Bs w' p pl ∧ Below w.heap.size w w'
set_option maxRecDepth 100000 in
set_option maxHeartbeats 4000000 in
theorem qRead_of (v : Value) (l : List UInt8) (lo : Bool) (ty : Int) (ver k at' en : Nat) (dl sl : List UInt8) (w : World) (hv : Bs w v l) (hl : l.length ≤ 500000)
    (HH : ∀ W, Bs W v l → Calls Try.prog 56 #[v] W (HdPost W lo ty ver k at' en dl sl)) (hk1 : 1 ≤ k) (hk4 : k ≤ 4) (ha : at' + k ≤ en) (he : en ≤ l.length) (he2 : en ≤ 1200) :
    Calls Try.prog 26 #[v] w (ReadYes w lo ty ver k (rb ((l.drop at').take k)) en dl sl ((l.take en).drop (at' + k))) := by
  obtain ⟨v1, r1, k1⟩ := hv.mid (at' : Int) (en : Int) (by omega) (by omega) (by omega)
  obtain ⟨v2, r2, k2⟩ := hv.mid ((at' + k : Nat) : Int) (en : Int) (by omega) (by omega) (by omega)
  rw [Int.toNat_natCast, Int.toNat_natCast] at k1 k2
  have hl1 : ((l.take en).drop at').length = en - at' := by rw [List.length_drop, List.length_take]; omega
  have HRB := Bx.mk (fun W (h : Bs W v l) => readBig_yes v1 ((l.take en).drop at') k W (k1 W h) (by omega) (by omega) (by rw [hl1]; omega) (by rw [hl1]; omega))
  have hpn : ((l.take en).drop at').take k = (l.drop at').take k := by
    rw [List.drop_take, List.take_take]
    congr 1
    omega
  rw [hpn] at HRB
  obtain ⟨pn, hpn2⟩ : ∃ p, rb ((l.drop at').take k) = p := ⟨_, rfl⟩
  rw [hpn2] at HRB ⊢
  obtain ⟨pl, hpl⟩ : ∃ p, (l.take en).drop (at' + k) = p := ⟨_, rfl⟩
  rw [hpl] at k2 ⊢
  have HPl : Bx (pl.length ≤ 1000000) := ⟨by rw [← hpl, List.length_drop, List.length_take]; omega⟩
  have HCo := Bx.mk (fun W (h : Bs W v l) => qCopied_any v2 pl W (k2 W h) HPl.out)
  obtain ⟨u, hu⟩ : ∃ u, at' + k = u := ⟨_, rfl⟩
  rw [hu] at r2
  have u0 : (at' : Int) + (k : Int) = (u : Int) := by omega
  have hu9 : u < 100000 := by omega
  have f1 : decide (1200 < (en : Int)) = false := decide_eq_false (by omega)
  have f1n : decide (1200 < en) = false := decide_eq_false (by omega)
  have f2 : ((k : Int) == 0) = false := by rw [beq_eq_false_iff_ne]; omega
  have f2n : ¬ (k : Int) = 0 := by omega
  have u1 : wrap64 (u : Int) = (u : Int) := w64s u hu9
  have u2 : IntKind.i64.wrap (u : Int) = (u : Int) := i64s u hu9
  have HV := Bx.mk hv
  have HHd := Bx.mk HH
  have HZ0 : Bx (Sb 38 (w.alloc (.cells #[.bool false, .int .i64 0, .int .u32 0, .slice none 0 0, .slice none 0 0, .int .u64 0, .int .i64 0] 38)) w.heap.size #[.bool false, .int .i64 0, .int .u32 0, .slice none 0 0, .slice none 0 0, .int .u64 0, .int .i64 0]) := ⟨Sb.new _ w _⟩
  have HB0 : Bx (Below w.heap.size w (w.alloc (.cells #[.bool false, .int .i64 0, .int .u32 0, .slice none 0 0, .slice none 0 0, .int .u64 0, .int .i64 0] 38))) := ⟨(Below.refl _ _).alloc (Nat.le_refl _) _⟩
  clear hv hl HH hk1 hk4 ha he he2 k1 k2 hl1 hpn hpn2 hpl hu hu9
  go_enter Try.func26, Try.ntmps26
  go_upto_region 4 with (first
    | (go_at_call 56
       refine (HHd.out _ (HV.out.keep HB0.out)).mono ?_
       rintro e w1 ⟨Ad, nd, cd, As, ns, cs, rfl, o1, o2, b1⟩
       have HD1 := Bx.mk o1
       have HS1 := Bx.mk o2
       have HB1 := Bx.mk (HB0.out.trans (b1.mono HB0.out.size))
       have HZ1 := Bx.mk (HZ0.out.keep b1)
       have HN1 : Bx (Sb 38 (w1.alloc (.cells #[.bool false, .int .i64 0, .int .u32 0, .slice none 0 0, .slice none 0 0, .int .u64 0, .int .i64 0] 38)) w1.heap.size #[.bool false, .int .i64 0, .int .u32 0, .slice none 0 0, .slice none 0 0, .int .u64 0, .int .i64 0]) := ⟨Sb.new _ _ _⟩
       clear o1 o2 b1)
    | (with_reducible refine wpList_storeS 38 w1.heap.size #[.bool false, .int .i64 0, .int .u32 0, .slice none 0 0, .slice none 0 0, .int .u64 0, .int .i64 0] (hdV lo ty ver (.slice Ad nd cd) (.slice As ns cs) 0 (k : Int)) rfl rfl HN1.out (hdV_i _ _ _ _ _ _ _) (hdV_o _ _ _ _ _ _ _) (hdV_1 _ _ _ _ _ _ _ _ _ _ _) ?_
       intro w2 hs2 hg2
       have HN2 := Bx.mk hs2
       have b12 : Below w1.heap.size w1 w2 := ((Below.refl _ _).alloc (Nat.le_refl _) _).grown hg2 (by simp) (fun k hk => by injection hk with hk; omega)
       have HD2 := Bx.mk (HD1.out.keep b12)
       have HS2 := Bx.mk (HS1.out.keep b12)
       have HZ2 := Bx.mk (HZ1.out.keep b12)
       have HDk : Bx (∀ (v : Value) (l : List UInt8) (w9 : World), OwB w1 (w.alloc (.cells #[.bool false, .int .i64 0, .int .u32 0, .slice none 0 0, .slice none 0 0, .int .u64 0, .int .i64 0] 38)).heap.size v l → w2.drew.grownBy w9 (some w1.heap.size) → OwB w9 (w.alloc (.cells #[.bool false, .int .i64 0, .int .u32 0, .slice none 0 0, .slice none 0 0, .int .u64 0, .int .i64 0] 38)).heap.size v l) := ⟨fun v l w9 h hg => h.kept fun k hk => by
         have hlt := h.lt hk
         rw [hg.block k (Nat.lt_of_lt_of_le hlt b12.size) (fun e => by injection e with e; omega)]
         exact b12.block k hlt⟩
       have HB2 := Bx.mk (HB1.out.trans (b12.mono HB1.out.size))
       have HLT := Bx.mk HZ1.out.lt
       clear hs2 hg2 b12))
  obtain ⟨g6, hg6⟩ : ∃ g, w1.heap.size = g := ⟨_, rfl⟩
  obtain ⟨g, hg⟩ : ∃ g, w.heap.size = g := ⟨_, rfl⟩
  rw [hg6] at HN2 HLT HDk
  rw [hg] at HZ2 HLT
  have HG : Bx (w.heap.size = g) := ⟨hg⟩
  simp only [hg6, hg]
  clear hg6 hg
  have m6 : ∀ W, Below w2.heap.size w2.drew W → W.cell? ⟨g6, 6, none⟩ = some (.int .i64 (k : Int)) := fun W h => (HN2.out.keep ((Below.refl _ _).drew.trans h)).cell 6
  refine wp_region_x 10 (fun W => Below w2.heap.size w2.drew W) (by kernel_rfl) (Below.refl _ _) (fun hHeld => ?_)
  refine wpAnyX_take0 (i := 0) (oi := ⟨some 21, Op.move (Operand.tmp 0), 36, _, _, none⟩) (v := ?v0r) rfl (by omega) (by kernel_rfl) (by kernel_rfl) (by kernel_rfl) (fun _ _ _ h => h) (Or.inl ⟨by rfl, ?y0r⟩) (by assumption) ?r0r
  case y0r =>
    intro W hSw
    try dsimp only at hSw
    go_simp
    try with_reducible rfl
  case r0r =>
  try simp only [Act.put, List.setIfInBounds_toArray, List.set_cons_zero, List.set_cons_succ]
  refine wpAnyX_take0 (i := 1) (oi := ⟨some 22, Op.move (Operand.tmp 7), 3, _, _, none⟩) (v := ?v1r) rfl (by omega) (by kernel_rfl) (by kernel_rfl) (by kernel_rfl) (fun _ _ _ h => h) (Or.inl ⟨by rfl, ?y1r⟩) (by assumption) ?r1r
  case y1r =>
    intro W hSw
    try dsimp only at hSw
    go_simp
    try with_reducible rfl
  case r1r =>
  try simp only [Act.put, List.setIfInBounds_toArray, List.set_cons_zero, List.set_cons_succ]
  refine wpAnyX_take0 (i := 2) (oi := ⟨some 23, Op.move (Operand.tmp 8), 3, _, _, none⟩) (v := ?v2r) rfl (by omega) (by kernel_rfl) (by kernel_rfl) (by kernel_rfl) (fun _ _ _ h => h) (Or.inl ⟨by rfl, ?y2r⟩) (by assumption) ?r2r
  case y2r =>
    intro W hSw
    try dsimp only at hSw
    go_simp
    try with_reducible rfl
  case r2r =>
  try simp only [Act.put, List.setIfInBounds_toArray, List.set_cons_zero, List.set_cons_succ]
  refine wpAnyX_take0 (i := 3) (oi := ⟨some 24, Op.slice 36 (Operand.tmp 21) (some (Operand.tmp 22)) (some (Operand.tmp 23)) none, 36, _, _, none⟩) (v := ?v3r) rfl (by omega) (by kernel_rfl) (by kernel_rfl) (by kernel_rfl) (fun _ _ _ h => h) (Or.inl ⟨by rfl, ?y3r⟩) (by assumption) ?r3r
  case y3r =>
    intro W hSw
    try dsimp only at hSw
    go_simp
    try with_reducible rfl
  case r3r =>
  try simp only [Act.put, List.setIfInBounds_toArray, List.set_cons_zero, List.set_cons_succ]
  refine wpAnyX_take0 (i := 4) (oi := ⟨some 25, Op.fieldAddr 38 (Operand.tmp 6) 6, 0, _, _, none⟩) (v := ?v4r) rfl (by omega) (by kernel_rfl) (by kernel_rfl) (by kernel_rfl) (fun _ _ _ h => h) (Or.inl ⟨by rfl, ?y4r⟩) (by assumption) ?r4r
  case y4r =>
    intro W hSw
    try dsimp only at hSw
    go_simp
    try with_reducible rfl
  case r4r =>
  try simp only [Act.put, List.setIfInBounds_toArray, List.set_cons_zero, List.set_cons_succ]
  refine wpAnyX_take (i := 5) (oi := ⟨some 26, Op.load 3 (Operand.tmp 25), 3, _, _, none⟩) (v := ?v5r) rfl (by omega) (by kernel_rfl) (by kernel_rfl) (by kernel_rfl) (by kernel_rfl) (by kernel_rfl) (fun _ _ _ h => h) (Or.inl ⟨by rfl, ?y5r⟩) (by assumption) ?r5r
  case y5r =>
    intro W hSw
    try dsimp only at hSw
    go_simp
    try with_reducible rfl
  case r5r =>
  try simp only [Act.put, List.setIfInBounds_toArray, List.set_cons_zero, List.set_cons_succ]
  refine wpAnyX_one (i := 6) (by kernel_rfl) rfl (fun K hK => ?_)
  go_simp
  go_at_call 57
  refine (HRB.out _ (HV.out.keep (HB2.out.trans (((Below.refl _ _).drew.trans hHeld).mono HB2.out.size)))).mono ?_
  rintro e w3 ⟨rfl, hw3⟩
  subst hw3
  refine hK _ _ (fun _ => hHeld) ?_
  clear hK K
  try simp only [Act.put, List.setIfInBounds_toArray, List.set_cons_zero, List.set_cons_succ]
  refine wpAnyX_take0 (i := 7) (oi := ⟨some 20, Op.move (Operand.tmp 27), 99, _, _, none⟩) (v := ?v7r) rfl (by omega) (by kernel_rfl) (by kernel_rfl) (by kernel_rfl) (fun _ _ _ h => h) (Or.inl ⟨by rfl, ?y7r⟩) (by assumption) ?r7r
  case y7r =>
    intro W hSw
    try dsimp only at hSw
    go_simp
    try with_reducible rfl
  case r7r =>
  try simp only [Act.put, List.setIfInBounds_toArray, List.set_cons_zero, List.set_cons_succ]
  refine wpAnyX_take0 (i := 8) (oi := ⟨some 28, Op.extract (Operand.tmp 20) 0, 22, _, _, none⟩) (v := ?v8r) rfl (by omega) (by kernel_rfl) (by kernel_rfl) (by kernel_rfl) (fun _ _ _ h => h) (Or.inl ⟨by rfl, ?y8r⟩) (by assumption) ?r8r
  case y8r =>
    intro W hSw
    try dsimp only at hSw
    go_simp
    try with_reducible rfl
  case r8r =>
  try simp only [Act.put, List.setIfInBounds_toArray, List.set_cons_zero, List.set_cons_succ]
  refine wpAnyX_take0 (i := 9) (oi := ⟨some 29, Op.extract (Operand.tmp 20) 1, 4, _, _, none⟩) (v := ?v9r) rfl (by omega) (by kernel_rfl) (by kernel_rfl) (by kernel_rfl) (fun _ _ _ h => h) (Or.inl ⟨by rfl, ?y9r⟩) (by assumption) ?r9r
  case y9r =>
    intro W hSw
    try dsimp only at hSw
    go_simp
    try with_reducible rfl
  case r9r =>
  try simp only [Act.put, List.setIfInBounds_toArray, List.set_cons_zero, List.set_cons_succ]
  refine wpAnyX_one (i := 10) (by kernel_rfl) rfl (fun K hK => ?_)
  go_simp
  refine hK _ _ (fun h => absurd h (by decide)) ?_
  clear hK K
  try simp only [Act.put, List.setIfInBounds_toArray, List.set_cons_zero, List.set_cons_succ]
  refine wpAnyX_one (i := 11) (by kernel_rfl) rfl (fun K hK => ?_)
  go_simp
  refine hK _ _ (fun h => absurd h (by decide)) ?_
  clear hK K
  try simp only [Act.put, List.setIfInBounds_toArray, List.set_cons_zero, List.set_cons_succ]
  refine wpAnyX_done (by kernel_rfl) ?_ _
  have q6 : w2.drew.cell? ⟨g6, 6, none⟩ = some (.int .i64 (k : Int)) := HN2.out.cell 6
  have q5 : w2.drew.cell? ⟨g6, 5, none⟩ = some (.int .u64 ((0 : Nat) : Int)) := HN2.out.cell 5
  have z5 : w2.drew.frozen? ⟨g6, 5, none⟩ = false := HN2.out.free 5
  go_upto_region 8 with fail
  have HN3 : Bx (Sb 38 ((w2.setCell ⟨g6, 5, none⟩ (.int .u64 (pn : Int))).drew) g6 (hdV lo ty ver (.slice Ad nd cd) (.slice As ns cs) pn (k : Int))) := ⟨Sb.set (w := w2.drew) HN2.out 5 (.int .u64 (pn : Int)) (by simp [hdV])⟩
  have HGS : Bx (w2.drew.grownBy ((w2.setCell ⟨g6, 5, none⟩ (.int .u64 (pn : Int))).drew) (some g6)) := ⟨grown_set w2.drew g6 5 _⟩
  generalize (w2.setCell ⟨g6, 5, none⟩ (.int .u64 (pn : Int))).drew = w3 at HN3 HGS ⊢
  have b23 : Below g6 w2 w3 := ((Below.refl g6 w2).drew).grown HGS.out (by have := HN2.out.lt; show g6 ≤ w2.heap.size; omega) (fun k hk => by injection hk with hk; omega)
  have HB3 := Bx.mk (HB2.out.trans (b23.mono (by have := HG.out; have := HLT.out; omega)))
  have hneg : ¬ g = g6 := by have := HLT.out; omega
  have HZ3 : Bx (Sb 38 w3 g #[.bool false, .int .i64 0, .int .u32 0, .slice none 0 0, .slice none 0 0, .int .u64 0, .int .i64 0]) := ⟨Sb.grown (w := w2.drew) HZ2.out HGS.out (fun e => hneg (by injection e))⟩
  have HD3 : Bx (OwB w3 (w.alloc (.cells #[.bool false, .int .i64 0, .int .u32 0, .slice none 0 0, .slice none 0 0, .int .u64 0, .int .i64 0] 38)).heap.size (.slice Ad nd cd) dl) := ⟨HDk.out _ _ _ HD1.out HGS.out⟩
  have HS3 : Bx (OwB w3 (w.alloc (.cells #[.bool false, .int .i64 0, .int .u32 0, .slice none 0 0, .slice none 0 0, .int .u64 0, .int .i64 0] 38)).heap.size (.slice As ns cs) sl) := ⟨HDk.out _ _ _ HS1.out HGS.out⟩
  clear q6 q5 z5 m6 b23
  have m0 : ∀ W, Sb 38 W g6 (hdV lo ty ver (.slice Ad nd cd) (.slice As ns cs) pn (k : Int)) ∧ Bs W v l → W.cell? ⟨g6, 0, none⟩ = some (.bool lo) := fun W h => h.1.cell 0
  have m1 : ∀ W, Sb 38 W g6 (hdV lo ty ver (.slice Ad nd cd) (.slice As ns cs) pn (k : Int)) ∧ Bs W v l → W.cell? ⟨g6, 1, none⟩ = some (.int .i64 ty) := fun W h => h.1.cell 1
  have m2 : ∀ W, Sb 38 W g6 (hdV lo ty ver (.slice Ad nd cd) (.slice As ns cs) pn (k : Int)) ∧ Bs W v l → W.cell? ⟨g6, 2, none⟩ = some (.int .u32 (ver : Int)) := fun W h => h.1.cell 2
  have m3 : ∀ W, Sb 38 W g6 (hdV lo ty ver (.slice Ad nd cd) (.slice As ns cs) pn (k : Int)) ∧ Bs W v l → W.cell? ⟨g6, 3, none⟩ = some (.slice Ad nd cd) := fun W h => h.1.cell 3
  have m4 : ∀ W, Sb 38 W g6 (hdV lo ty ver (.slice Ad nd cd) (.slice As ns cs) pn (k : Int)) ∧ Bs W v l → W.cell? ⟨g6, 4, none⟩ = some (.slice As ns cs) := fun W h => h.1.cell 4
  have m5 : ∀ W, Sb 38 W g6 (hdV lo ty ver (.slice Ad nd cd) (.slice As ns cs) pn (k : Int)) ∧ Bs W v l → W.cell? ⟨g6, 5, none⟩ = some (.int .u64 (pn : Int)) := fun W h => h.1.cell 5
  have m6 : ∀ W, Sb 38 W g6 (hdV lo ty ver (.slice Ad nd cd) (.slice As ns cs) pn (k : Int)) ∧ Bs W v l → W.cell? ⟨g6, 6, none⟩ = some (.int .i64 (k : Int)) := fun W h => h.1.cell 6
  have hS0 : Sb 38 w3.drew g6 (hdV lo ty ver (.slice Ad nd cd) (.slice As ns cs) pn (k : Int)) ∧ Bs w3.drew v l := ⟨HN3.out, HV.out.keep HB3.out.drew⟩
  have HNE : Bx (g6 ≠ g) := ⟨fun e => hneg e.symm⟩
  clear hneg
  refine wp_region_x 13 (fun W => Sb 38 W g6 (hdV lo ty ver (.slice Ad nd cd) (.slice As ns cs) pn (k : Int)) ∧ Bs W v l) (by kernel_rfl) (hS0) (fun hHeld => ?_)
  refine wpAnyX_take (i := 0) (oi := ⟨some 40, Op.load 38 (Operand.tmp 6), 38, _, _, none⟩) (v := ?v0t) rfl (by omega) (by kernel_rfl) (by kernel_rfl) (by kernel_rfl) (by kernel_rfl) (by kernel_rfl) (fun _ _ _ h => h) (Or.inl ⟨by rfl, ?y0t⟩) (by assumption) ?r0t
  case y0t =>
    intro W hSw
    try dsimp only at hSw
    go_simp
    try with_reducible rfl
  case r0t =>
  try simp only [Act.put, List.setIfInBounds_toArray, List.set_cons_zero, List.set_cons_succ]
  refine wpAnyX_take0 (i := 1) (oi := ⟨some 41, Op.move (Operand.tmp 0), 36, _, _, none⟩) (v := ?v1t) rfl (by omega) (by kernel_rfl) (by kernel_rfl) (by kernel_rfl) (fun _ _ _ h => h) (Or.inl ⟨by rfl, ?y1t⟩) (by assumption) ?r1t
  case y1t =>
    intro W hSw
    try dsimp only at hSw
    go_simp
    try with_reducible rfl
  case r1t =>
  try simp only [Act.put, List.setIfInBounds_toArray, List.set_cons_zero, List.set_cons_succ]
  refine wpAnyX_take0 (i := 2) (oi := ⟨some 42, Op.move (Operand.tmp 7), 3, _, _, none⟩) (v := ?v2t) rfl (by omega) (by kernel_rfl) (by kernel_rfl) (by kernel_rfl) (fun _ _ _ h => h) (Or.inl ⟨by rfl, ?y2t⟩) (by assumption) ?r2t
  case y2t =>
    intro W hSw
    try dsimp only at hSw
    go_simp
    try with_reducible rfl
  case r2t =>
  try simp only [Act.put, List.setIfInBounds_toArray, List.set_cons_zero, List.set_cons_succ]
  refine wpAnyX_take0 (i := 3) (oi := ⟨some 43, Op.fieldAddr 38 (Operand.tmp 6) 6, 0, _, _, none⟩) (v := ?v3t) rfl (by omega) (by kernel_rfl) (by kernel_rfl) (by kernel_rfl) (fun _ _ _ h => h) (Or.inl ⟨by rfl, ?y3t⟩) (by assumption) ?r3t
  case y3t =>
    intro W hSw
    try dsimp only at hSw
    go_simp
    try with_reducible rfl
  case r3t =>
  try simp only [Act.put, List.setIfInBounds_toArray, List.set_cons_zero, List.set_cons_succ]
  refine wpAnyX_take (i := 4) (oi := ⟨some 44, Op.load 3 (Operand.tmp 43), 3, _, _, none⟩) (v := ?v4t) rfl (by omega) (by kernel_rfl) (by kernel_rfl) (by kernel_rfl) (by kernel_rfl) (by kernel_rfl) (fun _ _ _ h => h) (Or.inl ⟨by rfl, ?y4t⟩) (by assumption) ?r4t
  case y4t =>
    intro W hSw
    try dsimp only at hSw
    go_simp
    try with_reducible rfl
  case r4t =>
  try simp only [Act.put, List.setIfInBounds_toArray, List.set_cons_zero, List.set_cons_succ]
  refine wpAnyX_take0 (i := 5) (oi := ⟨some 45, Op.binOp BinOp.add 3 (Operand.tmp 42) (Operand.tmp 44) 3, 3, _, _, none⟩) (v := ?v5t) rfl (by omega) (by kernel_rfl) (by kernel_rfl) (by kernel_rfl) (fun _ _ _ h => h) (Or.inl ⟨by rfl, ?y5t⟩) (by assumption) ?r5t
  case y5t =>
    intro W hSw
    try dsimp only at hSw
    go_simp
    try with_reducible rfl
  case r5t =>
  try simp only [Act.put, List.setIfInBounds_toArray, List.set_cons_zero, List.set_cons_succ]
  refine wpAnyX_take0 (i := 6) (oi := ⟨some 46, Op.move (Operand.tmp 8), 3, _, _, none⟩) (v := ?v6t) rfl (by omega) (by kernel_rfl) (by kernel_rfl) (by kernel_rfl) (fun _ _ _ h => h) (Or.inl ⟨by rfl, ?y6t⟩) (by assumption) ?r6t
  case y6t =>
    intro W hSw
    try dsimp only at hSw
    go_simp
    try with_reducible rfl
  case r6t =>
  try simp only [Act.put, List.setIfInBounds_toArray, List.set_cons_zero, List.set_cons_succ]
  refine wpAnyX_take0 (i := 7) (oi := ⟨some 47, Op.slice 36 (Operand.tmp 41) (some (Operand.tmp 45)) (some (Operand.tmp 46)) none, 36, _, _, none⟩) (v := ?v7t) rfl (by omega) (by kernel_rfl) (by kernel_rfl) (by kernel_rfl) (fun _ _ _ h => h) (Or.inl ⟨by rfl, ?y7t⟩) (by assumption) ?r7t
  case y7t =>
    intro W hSw
    try dsimp only at hSw
    go_simp
    try with_reducible rfl
  case r7t =>
  try simp only [Act.put, List.setIfInBounds_toArray, List.set_cons_zero, List.set_cons_succ]
  refine wpAnyX_take0 (i := 9) (oi := ⟨some 49, Op.move (Operand.tmp 8), 3, _, _, none⟩) (v := ?v9t) rfl (by omega) (by kernel_rfl) (by kernel_rfl) (by kernel_rfl) (fun _ _ _ h => h) (Or.inl ⟨by rfl, ?y9t⟩) (by assumption) ?r9t
  case y9t =>
    intro W hSw
    try dsimp only at hSw
    go_simp
    try with_reducible rfl
  case r9t =>
  try simp only [Act.put, List.setIfInBounds_toArray, List.set_cons_zero, List.set_cons_succ]
  refine wpAnyX_one (i := 8) (by kernel_rfl) rfl (fun K hK => ?_)
  go_simp
  go_at_call 58
  refine (HCo.out _ hHeld.2).mono ?_
  rintro e w4 ⟨Ap, np, cp, rfl, h4, b4⟩
  have hS4 : Sb 38 w4 g6 (hdV lo ty ver (.slice Ad nd cd) (.slice As ns cs) pn (k : Int)) ∧ Bs w4 v l := ⟨hHeld.1.keep b4, hHeld.2.keep b4⟩
  have HP4 : Bx (OwB w4 w3.heap.size (.slice Ap np cp) pl) := ⟨h4⟩
  have HB34 : Bx (Below w3.heap.size w3 w4) := ⟨(Below.refl _ _).drew.trans b4⟩
  clear h4 b4
  refine hK _ _ (fun _ => hS4) ?_
  clear hK K
  try simp only [Act.put, List.setIfInBounds_toArray, List.set_cons_zero, List.set_cons_succ]
  refine wpAnyX_one (i := 10) (by kernel_rfl) rfl (fun K hK => ?_)
  refine step_storeS rfl 38 _ _ rfl 38 g #[.bool false, .int .i64 0, .int .u32 0, .slice none 0 0, .slice none 0 0, .int .u64 0, .int .i64 0] (hdV lo ty ver (.slice Ad nd cd) (.slice As ns cs) pn (k : Int)) rfl rfl (HZ3.out.keep HB34.out) (hdV_i _ _ _ _ _ _ _) (hdV_o _ _ _ _ _ _ _) (hdV_1 _ _ _ _ _ _ _ _ _ _ _) ?_
  intro w5 hs5 hg5
  have HS5 := Bx.mk hs5
  have HGr := Bx.mk hg5
  have hS5 : Sb 38 w5 g6 (hdV lo ty ver (.slice Ad nd cd) (.slice As ns cs) pn (k : Int)) ∧ Bs w5 v l := ⟨hS4.1.grown hg5 (fun e => HNE.out (by injection e)), HV.out.keep ((HB3.out.trans (HB34.out.mono HB3.out.size)).grown hg5 (HB3.out.trans (HB34.out.mono HB3.out.size)).size (fun k hk => by injection hk with hk; have := HG.out; omega))⟩
  clear hs5 hg5
  refine hK _ _ (fun _ => hS5) ?_
  clear hK K
  try simp only [Act.put, List.setIfInBounds_toArray, List.set_cons_zero, List.set_cons_succ]
  refine wpAnyX_one (i := 11) (by kernel_rfl) rfl (fun K hK => ?_)
  go_simp
  refine hK _ _ (fun _ => hS5) ?_
  clear hK K
  try simp only [Act.put, List.setIfInBounds_toArray, List.set_cons_zero, List.set_cons_succ]
  refine wpAnyX_one (i := 12) (by kernel_rfl) rfl (fun K hK => ?_)
  go_simp
  refine hK _ _ (fun _ => hS5) ?_
  clear hK K
  try simp only [Act.put, List.setIfInBounds_toArray, List.set_cons_zero, List.set_cons_succ]
  refine wpAnyX_one (i := 13) (by kernel_rfl) rfl (fun K hK => ?_)
  go_simp
  refine hK _ _ (fun h => absurd h (by decide)) ?_
  clear hK K
  try simp only [Act.put, List.setIfInBounds_toArray, List.set_cons_zero, List.set_cons_succ]
  refine wpAnyX_done (by kernel_rfl) ?_ _
  go_wp2_with fail
  have b34 : Below w3.heap.size w3 w4 := HB34.out
  have hb4 : Below w.heap.size w w4 := HB3.out.trans (b34.mono HB3.out.size)
  have hb5 : Below w.heap.size w w5 := hb4.grown HGr.out hb4.size (fun k hk => by injection hk with hk; have := HG.out; omega)
  have hgl : g < (w.alloc (.cells #[.bool false, .int .i64 0, .int .u32 0, .slice none 0 0, .slice none 0 0, .int .u64 0, .int .i64 0] 38)).heap.size := by have := HG.out; simp; omega
  exact bodyPost_ret (ret_Hd4 Try.results26 _ _ g _ rfl _ _ _ rfl rfl rfl rfl HS5.out) rfl ⟨_, _, _, rfl, ((HD3.out.keep b34).grownQ HGr.out hgl).bs, ((HS3.out.keep b34).grownQ HGr.out hgl).bs, (HP4.out.grownQ HGr.out (HZ3.out.lt)).bs, hb5⟩
end Go.Proofs.Ytcakppdabolfiaa
