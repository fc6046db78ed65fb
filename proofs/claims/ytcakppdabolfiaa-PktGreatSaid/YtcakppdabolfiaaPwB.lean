/-
  Packets: the document's Write of a long packet; of any (written by mkpwa.py).
-/
import Derived.Test.YtcakppdabolfiaaPwA
namespace Go.Proofs.Ytcakppdabolfiaa
open Go.RowKit
set_option linter.unusedVariables false
set_option linter.unusedSimpArgs false
set_option maxRecDepth 100000 in
set_option maxHeartbeats 4000000 in
theorem refPkW_long (a : Hdr) (pV : Value) (pb : List UInt8) (w : World) (ho : hdOk a) (hd : Bs w a.dst a.dstb) (hs : Bs w a.src a.srcb) (hp : Bs w pV pb) (hgood : 1 ≤ a.pl ∧ a.pl ≤ 4 ∧ a.pn < 256 ^ a.pl.toNat ∧ pb.length ≤ 1200) (hlo : a.long = true) (hok : 0 ≤ a.ty ∧ a.ty ≤ 3 ∧ a.dstb.length ≤ 20 ∧ a.srcb.length ≤ 20) :
    Calls Try.prog 25 #[.agg (hdA a), pV] w (PkWPost w (pkW (phM a) pb)) := by
  obtain ⟨i0, hi, hz, hz1, hz2⟩ := info_parts infoU8pw
  have Hi := Lib.hid hi
  have Hz := Lib.hid hz
  have Hz1 := Lib.hid hz1
  have Hz2 := Lib.hid hz2
  clear hi hz hz1 hz2
  have SQ : Bx (Sb 38 (w.alloc (.cells (hdA a) 38)) w.heap.size (hdA a)) := ⟨Sb.new _ w _⟩
  have p0 : (w.alloc (.cells (hdA a) 38)).cell? ⟨w.heap.size, 0, none⟩ = some (.bool a.long) := SQ.out.cell 0
  have p1 : (w.alloc (.cells (hdA a) 38)).cell? ⟨w.heap.size, 1, none⟩ = some (.int .i64 a.ty) := SQ.out.cell 1
  have p2 : (w.alloc (.cells (hdA a) 38)).cell? ⟨w.heap.size, 2, none⟩ = some (.int .u32 (a.ver : Int)) := SQ.out.cell 2
  have p3 : (w.alloc (.cells (hdA a) 38)).cell? ⟨w.heap.size, 3, none⟩ = some a.dst := SQ.out.cell 3
  have p4 : (w.alloc (.cells (hdA a) 38)).cell? ⟨w.heap.size, 4, none⟩ = some a.src := SQ.out.cell 4
  have p5 : (w.alloc (.cells (hdA a) 38)).cell? ⟨w.heap.size, 5, none⟩ = some (.int .u64 (a.pn : Int)) := SQ.out.cell 5
  have p6 : (w.alloc (.cells (hdA a) 38)).cell? ⟨w.heap.size, 6, none⟩ = some (.int .i64 a.pl) := SQ.out.cell 6
  have hlp := fun tr W => (show Bs w pV pb from hp).run_len tr W
  have hld := fun tr W => (show Bs w a.dst a.dstb from hd).run_len tr W
  have hls := fun tr W => (show Bs w a.src a.srcb from hs).run_len tr W
  obtain ⟨m, hm⟩ : ∃ n, pb.length = n := ⟨_, rfl⟩
  obtain ⟨d, hdl⟩ : ∃ n, a.dstb.length = n := ⟨_, rfl⟩
  obtain ⟨s, hsl⟩ : ∃ n, a.srcb.length = n := ⟨_, rfl⟩
  rw [hm] at hlp
  rw [hdl] at hld
  rw [hsl] at hls
  obtain ⟨A, hA⟩ : ∃ A, hdA a = A := ⟨_, rfl⟩
  have hW : pkW (phM a) pb = (pkHead (phM a) pb.length).bind fun b => if (b ++ bes (a.pn : Int) a.pl.toNat ++ pb).length ≤ 1200 then some (b ++ bes (a.pn : Int) a.pl.toNat ++ pb) else none := by
    unfold pkW phM
    simp only
    rw [if_pos hgood]
  rw [hW]
  unfold hdOk at ho
  obtain ⟨g1, g2, g3, g4⟩ := hgood
  rw [hm] at g4
  obtain ⟨k, hk⟩ := Int.eq_ofNat_of_zero_le (show 0 ≤ a.pl by omega)
  rw [hk, Int.toNat_natCast] at g3
  have hq : a.pn / 256 ^ k = 0 := Nat.div_eq_of_lt g3
  have e3 := shift_pk a.pn k (by omega)
  rw [hq, show ((0 : Nat) : Int) = 0 from rfl] at e3
  have hw8 : wrap64 (8 * (k : Int)) = 8 * (k : Int) := by unfold wrap64; omega
  have f1 : decide ((k : Int) < 1) = false := decide_eq_false (by omega)
  have f2 : decide (4 < (k : Int)) = false := decide_eq_false (by omega)
  have f1n : decide (k < 1) = false := decide_eq_false (by omega)
  have f2n : decide (4 < k) = false := decide_eq_false (by omega)
  have f3 : decide (1200 < (m : Int)) = false := decide_eq_false (by omega)
  have f3n : decide (1200 < m) = false := decide_eq_false (by omega)
  have hKB : Bx (1 ≤ k ∧ k ≤ 4 ∧ m ≤ 1200 ∧ a.pn < 18446744073709551616) := ⟨by omega, by omega, g4, ho.2.2.1⟩
  have HPB := Bx.mk hp
  have HDB0 := Bx.mk hd
  have HSB0 := Bx.mk hs
  have HM := Bx.mk hm
  have HDL := Bx.mk hdl
  have HSL := Bx.mk hsl
  rw [hk, Int.toNat_natCast]
  rw [hk] at p6
  rw [hA] at p0 p1 p2 p3 p4 p5 p6 SQ ⊢
  have SQ2 : Bx (Sb 38 (w.alloc (.cells A 38)) w.heap.size (hdA a)) := ⟨by rw [hA]; exact SQ.out⟩
  have HDK : Bx (a.pl = (k : Int)) := ⟨hk⟩
  clear SQ hW hA hq g1 g2 g3 g4 hp hd hs hm
  have hH : pkHead (phM a) pb.length = some (UInt8.ofNat (192 + a.ty.toNat * 16 + (k - 1)) :: (bes (a.ver : Int) 4 ++ (UInt8.ofNat d :: (a.dstb ++ (UInt8.ofNat s :: (a.srcb ++ varB ((k + m : Nat) : Int))))))) := by
    unfold pkHead phM
    simp only [hlo, if_true]
    rw [if_pos hok, HDK.out, Int.toNat_natCast, hdl, hsl, HM.out]
  rw [hH]
  simp only [Option.bind_some]
  rw [hlo] at p0
  rw [hdl, hsl] at hok
  obtain ⟨t, ht⟩ := Int.eq_ofNat_of_zero_le hok.1
  obtain ⟨_, hok2, hok3, hok4⟩ := hok
  have ht3 : t ≤ 3 := by omega
  have g1 : decide ((t : Int) < 0) = false := decide_eq_false (by omega)
  have g2 : decide (3 < (t : Int)) = false := decide_eq_false (by omega)
  have g2n : decide (3 < t) = false := decide_eq_false (by omega)
  have g3 : decide (20 < (d : Int)) = false := decide_eq_false (by omega)
  have g3n : decide (20 < d) = false := decide_eq_false (by omega)
  have g4 : decide (20 < (s : Int)) = false := decide_eq_false (by omega)
  have g4n : decide (20 < s) = false := decide_eq_false (by omega)
  have HDS : Bx (d ≤ 20 ∧ s ≤ 20) := ⟨hok3, hok4⟩
  rw [ht] at p1
  rw [ht, Int.toNat_natCast]
  obtain ⟨c, hc⟩ : ∃ c, 192 + t * 16 + (k - 1) = c := ⟨_, rfl⟩
  rw [hc]
  have HCl : Bx (c < 256) := ⟨by have := hKB.out; omega⟩
  obtain ⟨E, hE⟩ : ∃ E : Nat, t * 16 = E := ⟨_, rfl⟩
  obtain ⟨Fq, hF⟩ : ∃ E : Nat, 192 + t * 16 = E := ⟨_, rfl⟩
  obtain ⟨U, hU⟩ : ∃ E : Nat, 192 + t * 16 + k = E := ⟨_, rfl⟩
  have s1 : (t : Int) * 2 ^ 4 = (E : Int) := by omega
  have s1b : (t : Int) * 16 = (E : Int) := by omega
  have hE1 : E < 100000 := by omega
  have hc1 : c < 100000 := Nat.lt_trans HCl.out (by omega)
  have hd1 : d < 256 := by omega
  have hs1 : s < 256 := by omega
  have y0 : (U : Int) - 1 = (c : Int) := by have := hKB.out; omega
  have HCBc : Bx (bv (UInt8.ofNat c) = .int .u8 (c : Int)) := ⟨bv_ofNat c HCl.out⟩
  have HCBd : Bx (bv (UInt8.ofNat d) = .int .u8 (d : Int)) := ⟨bv_ofNat d hd1⟩
  have HCBs : Bx (bv (UInt8.ofNat s) = .int .u8 (s : Int)) := ⟨bv_ofNat s hs1⟩
  have HVB : Bx (a.ver < 4294967296) := ⟨ho.2.1⟩
  obtain ⟨n, hn⟩ : ∃ n : Nat, k + m = n := ⟨_, rfl⟩
  have n0 : (k : Int) + (m : Int) = (n : Int) := by omega
  have HNb : Bx (n ≤ 1204) := ⟨by have := hKB.out; omega⟩
  have hn1 : n < 100000 := Nat.lt_of_le_of_lt HNb.out (by omega)
  rw [hn]
  obtain ⟨V4, hV4⟩ : ∃ l, bes (a.ver : Int) 4 = l := ⟨_, rfl⟩
  have HV4 : Bx (bes (a.ver : Int) 4 = V4 ∧ V4.length = 4) := ⟨hV4, by rw [← hV4]; exact bes_len _ _⟩
  obtain ⟨VN, hVN⟩ : ∃ l, varB (n : Int) = l := ⟨_, rfl⟩
  have HVN : Bx (varB (n : Int) = VN ∧ VN.length ≤ 8) := ⟨hVN, by rw [← hVN]; exact varB_len8 n⟩
  obtain ⟨PN, hPN⟩ : ∃ l, bes (a.pn : Int) k = l := ⟨_, rfl⟩
  have HPN : Bx (bes (a.pn : Int) k = PN ∧ PN.length = k) := ⟨hPN, by rw [← hPN]; exact bes_len _ _⟩
  rw [hV4, hVN, hPN]
  obtain ⟨X, hX⟩ : ∃ X, UInt8.ofNat c :: (V4 ++ (UInt8.ofNat d :: (a.dstb ++ (UInt8.ofNat s :: (a.srcb ++ VN))))) ++ PN ++ pb = X := ⟨_, rfl⟩
  rw [hX]
  have HX := Bx.mk hX
  obtain ⟨L, hL⟩ : ∃ L, X.length = L := ⟨_, rfl⟩
  obtain ⟨R, hR⟩ : ∃ R, (if X.length ≤ 1200 then some X else none) = R := ⟨_, rfl⟩
  rw [hR]
  rw [hL] at hR
  have HR := Bx.mk hR
  have HXL := Bx.mk hL
  have o1 : bits .or .i64 192 (E : Int) = (Fq : Int) := by
    subst hE hF
    rw [show (192 : Int) = ((192 : Nat) : Int) from rfl, i64_or_p _ _ (by decide) (by omega), or_t t ht3]
  have o2 : bits .or .i64 (Fq : Int) (k : Int) = (U : Int) := by
    have hk4 := hKB.out.2.1
    subst hF hU
    rw [i64_or_p _ _ (by omega) (by omega), or_tk t k ht3 (by omega)]
  have HWn : Bx (wrap64 (n : Int) = (n : Int) ∧ IntKind.u64.wrap (n : Int) = (n : Int)) := ⟨w64s n hn1, u64s n hn1⟩
  have HWd : Bx (IntKind.u8.wrap (d : Int) = (d : Int)) := ⟨u8s d hd1⟩
  have HWs : Bx (IntKind.u8.wrap (s : Int) = (s : Int)) := ⟨u8s s hs1⟩
  have y5 : wrap64 (c : Int) = (c : Int) := w64s c hc1
  have y3 : IntKind.u8.wrap (c : Int) = (c : Int) := u8s c HCl.out
  have hv1 : IntKind.u64.wrap (a.ver : Int) = (a.ver : Int) := u64v a.ver ho.2.1
  have s2 : IntKind.i64.wrap (E : Int) = (E : Int) := i64s E hE1
  clear hn1 hc1 hd1 hs1 hE1
  clear hX hc hR hL hdl hsl hlo hk ho ht ht3 hE hF hU hn hV4 hVN hPN hok2 hok3 hok4 hH
  go_enter Try.func25, Try.ntmps25
  go_upto_region 9 with (first
    | (at_builtin
       refine wpList_append_apn _ rfl _ _ 36 rfl w.heap.size i0 (.int .u8 0) 1 Try.underlying36 Hi.out Hz.out Hz1.out Hz2.out rfl (.slice none 0 0) _ [] _ rfl rfl (Ap.nil _ _ _) (Rd.litP _ _ (by simp) 5 _ 1 rfl (by simp [maxLen])) (by simp [Value.oneCell']) (by simp) (by simp [maxLen]) (by simp <;> omega) ?_
       clear o1 o2 y5 y3 s2 s1 s1b y0
       intro v1 w1 h1 b1 n1
       have HQ1 : Bx (ApB w1 w.heap.size v1 [UInt8.ofNat c]) := ⟨by unfold ApB; rw [List.map_cons, HCBc.out]; exact h1⟩
       have HBa := Bx.mk ((((Below.refl w.heap.size w).alloc (Nat.le_refl _) (.cells A 38)).alloc (by simp) _).trans b1)
       have HNa := Bx.mk ((NonB.alloc (w.alloc (.cells A 38)) _).trans n1)
       have r2 : w1.cell? ⟨w.heap.size, 2, none⟩ = some (.int .u32 (a.ver : Int)) := (nonB_hd HNa.out SQ2.out).hdc.c2
       clear h1 b1 n1)
    | (go_at_call 54
       refine (refBig_apn w.heap.size v1 [UInt8.ofNat c] (a.ver : Int) 4 w1 HQ1.out HBa.out.size (by simp) (by omega) (by have := HVB.out; omega)).mono ?_
       rintro e W2 ⟨v2, rfl, h2, b2, n2⟩
       have HP2 : Bx (ApB W2 w.heap.size v2 (UInt8.ofNat c :: V4)) := ⟨by rw [← HV4.out.1]; exact h2⟩
       have HBb := Bx.mk (HBa.out.trans b2)
       have HNb2 := Bx.mk (HNa.out.trans n2)
       clear h2 b2 n2 hv1))
  have HB1 : Bx (Below w.heap.size w W2.drew) := ⟨HBb.out.drew⟩
  have HN1 : Bx (NonB (w.alloc (.cells A 38)) W2.drew) := ⟨HNb2.out.trans (NonB.drew _)⟩
  have HP1 : Bx (ApB W2.drew w.heap.size v2 (UInt8.ofNat c :: V4)) := ⟨Ap.drew HP2.out⟩
  clear p0 p1 p2 p3 p4 p5 p6 r2
  have d8 := HWd.out
  have HB2 : Bx (w.heap.size ≤ W2.drew.heap.size) := ⟨HB1.out.size⟩
  have m3 : ∀ W, Below w.heap.size W2.drew W ∧ NonB W2.drew W → W.cell? ⟨w.heap.size, 3, none⟩ = some a.dst := fun W h => (nonB_hd h.2 (nonB_hd HN1.out SQ2.out)).hdc.c3
  refine wp_region_x 10 (fun W => Below w.heap.size W2.drew W ∧ NonB W2.drew W) (by kernel_rfl) (⟨Below.refl _ _, NonB.refl _⟩) (fun hHeld => ?_)
  refine wpAnyX_take0 (i := 0) (oi := ⟨some 68, Op.move (Operand.tmp 6), 36, _, _, none⟩) (v := ?v0q9) rfl (by omega) (by kernel_rfl) (by kernel_rfl) (by kernel_rfl) (fun _ _ _ h => h) (Or.inl ⟨by rfl, ?y0q9⟩) (by assumption) ?r0q9
  case y0q9 =>
    intro W hSw
    try dsimp only at hSw
    go_simp
    try with_reducible rfl
  case r0q9 =>
  try simp only [Act.put, List.setIfInBounds_toArray, List.set_cons_zero, List.set_cons_succ]
  refine wpAnyX_take0 (i := 1) (oi := ⟨some 69, Op.fieldAddr 38 (Operand.tmp 2) 3, 0, _, _, none⟩) (v := ?v1q9) rfl (by omega) (by kernel_rfl) (by kernel_rfl) (by kernel_rfl) (fun _ _ _ h => h) (Or.inl ⟨by rfl, ?y1q9⟩) (by assumption) ?r1q9
  case y1q9 =>
    intro W hSw
    try dsimp only at hSw
    go_simp
    try with_reducible rfl
  case r1q9 =>
  try simp only [Act.put, List.setIfInBounds_toArray, List.set_cons_zero, List.set_cons_succ]
  refine wpAnyX_take (i := 2) (oi := ⟨some 70, Op.load 36 (Operand.tmp 69), 36, _, _, none⟩) (v := ?v2q9) rfl (by omega) (by kernel_rfl) (by kernel_rfl) (by kernel_rfl) (by kernel_rfl) (by kernel_rfl) (fun _ _ _ h => h) (Or.inl ⟨by rfl, ?y2q9⟩) (by assumption) ?r2q9
  case y2q9 =>
    intro W hSw
    try dsimp only at hSw
    go_simp
    try with_reducible rfl
  case r2q9 =>
  try simp only [Act.put, List.setIfInBounds_toArray, List.set_cons_zero, List.set_cons_succ]
  refine wpAnyX_take (i := 3) (oi := ⟨some 71, Op.call { callee := Callee.builtin Builtin.len, args := #[Operand.tmp 70], argTypes := #[36] }, 3, _, _, none⟩) (v := ?v3q9) rfl (by omega) (by kernel_rfl) (by kernel_rfl) (by kernel_rfl) (by kernel_rfl) (by kernel_rfl) (fun _ _ _ h => h) (Or.inl ⟨by rfl, ?y3q9⟩) (by assumption) ?r3q9
  case y3q9 =>
    intro W hSw
    try dsimp only at hSw
    go_simp
    try with_reducible rfl
  case r3q9 =>
  try simp only [Act.put, List.setIfInBounds_toArray, List.set_cons_zero, List.set_cons_succ]
  refine wpAnyX_take (i := 4) (oi := ⟨some 72, Op.convert 3 5 (Operand.tmp 71), 5, _, _, none⟩) (v := ?v4q9) rfl (by omega) (by kernel_rfl) (by kernel_rfl) (by kernel_rfl) (by kernel_rfl) (by kernel_rfl) (fun _ _ _ h => h) (Or.inl ⟨by rfl, ?y4q9⟩) (by assumption) ?r4q9
  case y4q9 =>
    intro W hSw
    try dsimp only at hSw
    go_simp
    try with_reducible rfl
  case r4q9 =>
  try simp only [Act.put, List.setIfInBounds_toArray, List.set_cons_zero, List.set_cons_succ]
  refine wpAnyX_take0 (i := 7) (oi := ⟨some 75, Op.fieldAddr 38 (Operand.tmp 2) 3, 0, _, _, none⟩) (v := ?v7q9) rfl (by omega) (by kernel_rfl) (by kernel_rfl) (by kernel_rfl) (fun _ _ _ h => h) (Or.inl ⟨by rfl, ?y7q9⟩) (by assumption) ?r7q9
  case y7q9 =>
    intro W hSw
    try dsimp only at hSw
    go_simp
    try with_reducible rfl
  case r7q9 =>
  try simp only [Act.put, List.setIfInBounds_toArray, List.set_cons_zero, List.set_cons_succ]
  refine wpAnyX_take (i := 8) (oi := ⟨some 76, Op.load 36 (Operand.tmp 75), 36, _, _, none⟩) (v := ?v8q9) rfl (by omega) (by kernel_rfl) (by kernel_rfl) (by kernel_rfl) (by kernel_rfl) (by kernel_rfl) (fun _ _ _ h => h) (Or.inl ⟨by rfl, ?y8q9⟩) (by assumption) ?r8q9
  case y8q9 =>
    intro W hSw
    try dsimp only at hSw
    go_simp
    try with_reducible rfl
  case r8q9 =>
  try simp only [Act.put, List.setIfInBounds_toArray, List.set_cons_zero, List.set_cons_succ]
  refine wpAnyX_one (i := 5) (by kernel_rfl) rfl (fun K hK => ?_)
  go_simp
  refine hK _ _ (fun _ => ⟨hHeld.1.alloc HB2.out _, hHeld.2.trans (NonB.alloc _ _)⟩) ?_
  clear hK K
  try simp only [Act.put, List.setIfInBounds_toArray, List.set_cons_zero, List.set_cons_succ]
  refine wpAnyX_one (i := 6) (by kernel_rfl) rfl (fun K hK => ?_)
  refine step_append_apn rfl _ _ 36 rfl w.heap.size i0 (.int .u8 0) 1 Try.underlying36 Hi.out Hz.out Hz1.out Hz2.out rfl v2 _ (((UInt8.ofNat c :: V4)).map bv) _ rfl rfl (HP1.out.alloc (.cells #[Value.int .u8 (d : Int)] 5)) (Rd.litP W2.drew _ rfl 5 #[Value.int .u8 (d : Int)] 1 rfl (by simp [maxLen])) (by simp [Value.oneCell']) (by have := HDL.out; have := HDS.out; have := HV4.out.2; simp <;> omega) (by have := HDL.out; have := HDS.out; have := HV4.out.2; simp <;> (unfold maxLen; omega)) (Nat.le_trans HB2.out (hHeld.1.alloc HB2.out _).size) ?_
  intro v3 w3 h3 b3 n3
  have hS3 : Below w.heap.size W2.drew w3 ∧ NonB W2.drew w3 := ⟨(hHeld.1.alloc HB2.out _).trans b3, (hHeld.2.trans (NonB.alloc _ _)).trans n3⟩
  refine hK _ _ (fun _ => hS3) ?_
  clear hK K
  try simp only [Act.put, List.setIfInBounds_toArray, List.set_cons_zero, List.set_cons_succ]
  refine wpAnyX_one (i := 9) (by kernel_rfl) rfl (fun K hK => ?_)
  refine step_append_apn rfl _ _ 36 rfl w.heap.size i0 (.int .u8 0) 1 Try.underlying36 Hi.out Hz.out Hz1.out Hz2.out rfl v3 a.dst (((UInt8.ofNat c :: V4)).map bv ++ [Value.int .u8 (d : Int)]) ((a.dstb).map bv) rfl rfl h3 (HDB0.out.keep (HB1.out.trans hS3.1)) one_bv (by have := HDL.out; have := HDS.out; have := HV4.out.2; simp <;> omega) (by have := HDL.out; have := HDS.out; have := HV4.out.2; simp <;> (unfold maxLen; omega)) (Nat.le_trans HB2.out hS3.1.size) ?_
  intro v4 w4 h4 b4 n4
  have HQ4 := Bx.mk h4
  have HB4 := Bx.mk ((HB1.out.trans hS3.1).trans b4)
  have HN4 := Bx.mk ((HN1.out.trans hS3.2).trans n4)
  refine hK _ _ (fun _ => ⟨hS3.1.trans b4, hS3.2.trans n4⟩) ?_
  clear h4 b4 n4
  clear hK K
  try simp only [Act.put, List.setIfInBounds_toArray, List.set_cons_zero, List.set_cons_succ]
  refine wpAnyX_one (i := 10) (by kernel_rfl) rfl (fun K hK => ?_)
  go_simp
  refine hK _ _ (fun h => absurd h (by decide)) ?_
  clear hK K
  try simp only [Act.put, List.setIfInBounds_toArray, List.set_cons_zero, List.set_cons_succ]
  refine wpAnyX_done (by kernel_rfl) ?_ _
  have HP4 : Bx (ApB w4 w.heap.size v4 ((UInt8.ofNat c :: V4) ++ (UInt8.ofNat d :: a.dstb))) := ⟨by
    have e1 : ((UInt8.ofNat c :: V4) ++ (UInt8.ofNat d :: a.dstb)).map bv = (((UInt8.ofNat c :: V4)).map bv ++ [Value.int .u8 (d : Int)]) ++ (a.dstb).map bv := bv_seg _ _ _ _ HCBd.out
    unfold ApB
    rw [e1]
    exact HQ4.out⟩
  obtain ⟨L4, hL4⟩ : ∃ l, (UInt8.ofNat c :: V4) ++ (UInt8.ofNat d :: a.dstb) = l := ⟨_, rfl⟩
  rw [hL4] at HP4
  have HL4 : Bx ((UInt8.ofNat c :: V4) ++ (UInt8.ofNat d :: a.dstb) = L4 ∧ L4.length ≤ 26) := ⟨hL4, by rw [← hL4]; have := HDL.out; have := HDS.out; have := HV4.out.2; simp; omega⟩
  clear HP1 HB1 HN1 HB2 m3 hL4 d8
  go_upto_region 10 with fail
  have s8 := HWs.out
  have HB1 : Bx (Below w.heap.size w w4.drew) := ⟨HB4.out.drew⟩
  have HN1 : Bx (NonB (w.alloc (.cells A 38)) w4.drew) := ⟨HN4.out.trans (NonB.drew _)⟩
  have HP1 : Bx (ApB w4.drew w.heap.size v4 L4) := ⟨Ap.drew HP4.out⟩
  have HB2 : Bx (w.heap.size ≤ w4.drew.heap.size) := ⟨HB1.out.size⟩
  have m4 : ∀ W, Below w.heap.size w4.drew W ∧ NonB w4.drew W → W.cell? ⟨w.heap.size, 4, none⟩ = some a.src := fun W h => (nonB_hd h.2 (nonB_hd HN1.out SQ2.out)).hdc.c4
  refine wp_region_x 10 (fun W => Below w.heap.size w4.drew W ∧ NonB w4.drew W) (by kernel_rfl) (⟨Below.refl _ _, NonB.refl _⟩) (fun hHeld => ?_)
  refine wpAnyX_take0 (i := 0) (oi := ⟨some 78, Op.move (Operand.tmp 6), 36, _, _, none⟩) (v := ?v0q10) rfl (by omega) (by kernel_rfl) (by kernel_rfl) (by kernel_rfl) (fun _ _ _ h => h) (Or.inl ⟨by rfl, ?y0q10⟩) (by assumption) ?r0q10
  case y0q10 =>
    intro W hSw
    try dsimp only at hSw
    go_simp
    try with_reducible rfl
  case r0q10 =>
  try simp only [Act.put, List.setIfInBounds_toArray, List.set_cons_zero, List.set_cons_succ]
  refine wpAnyX_take0 (i := 1) (oi := ⟨some 79, Op.fieldAddr 38 (Operand.tmp 2) 4, 0, _, _, none⟩) (v := ?v1q10) rfl (by omega) (by kernel_rfl) (by kernel_rfl) (by kernel_rfl) (fun _ _ _ h => h) (Or.inl ⟨by rfl, ?y1q10⟩) (by assumption) ?r1q10
  case y1q10 =>
    intro W hSw
    try dsimp only at hSw
    go_simp
    try with_reducible rfl
  case r1q10 =>
  try simp only [Act.put, List.setIfInBounds_toArray, List.set_cons_zero, List.set_cons_succ]
  refine wpAnyX_take (i := 2) (oi := ⟨some 80, Op.load 36 (Operand.tmp 79), 36, _, _, none⟩) (v := ?v2q10) rfl (by omega) (by kernel_rfl) (by kernel_rfl) (by kernel_rfl) (by kernel_rfl) (by kernel_rfl) (fun _ _ _ h => h) (Or.inl ⟨by rfl, ?y2q10⟩) (by assumption) ?r2q10
  case y2q10 =>
    intro W hSw
    try dsimp only at hSw
    go_simp
    try with_reducible rfl
  case r2q10 =>
  try simp only [Act.put, List.setIfInBounds_toArray, List.set_cons_zero, List.set_cons_succ]
  refine wpAnyX_take (i := 3) (oi := ⟨some 81, Op.call { callee := Callee.builtin Builtin.len, args := #[Operand.tmp 80], argTypes := #[36] }, 3, _, _, none⟩) (v := ?v3q10) rfl (by omega) (by kernel_rfl) (by kernel_rfl) (by kernel_rfl) (by kernel_rfl) (by kernel_rfl) (fun _ _ _ h => h) (Or.inl ⟨by rfl, ?y3q10⟩) (by assumption) ?r3q10
  case y3q10 =>
    intro W hSw
    try dsimp only at hSw
    go_simp
    try with_reducible rfl
  case r3q10 =>
  try simp only [Act.put, List.setIfInBounds_toArray, List.set_cons_zero, List.set_cons_succ]
  refine wpAnyX_take (i := 4) (oi := ⟨some 82, Op.convert 3 5 (Operand.tmp 81), 5, _, _, none⟩) (v := ?v4q10) rfl (by omega) (by kernel_rfl) (by kernel_rfl) (by kernel_rfl) (by kernel_rfl) (by kernel_rfl) (fun _ _ _ h => h) (Or.inl ⟨by rfl, ?y4q10⟩) (by assumption) ?r4q10
  case y4q10 =>
    intro W hSw
    try dsimp only at hSw
    go_simp
    try with_reducible rfl
  case r4q10 =>
  try simp only [Act.put, List.setIfInBounds_toArray, List.set_cons_zero, List.set_cons_succ]
  refine wpAnyX_take0 (i := 7) (oi := ⟨some 85, Op.fieldAddr 38 (Operand.tmp 2) 4, 0, _, _, none⟩) (v := ?v7q10) rfl (by omega) (by kernel_rfl) (by kernel_rfl) (by kernel_rfl) (fun _ _ _ h => h) (Or.inl ⟨by rfl, ?y7q10⟩) (by assumption) ?r7q10
  case y7q10 =>
    intro W hSw
    try dsimp only at hSw
    go_simp
    try with_reducible rfl
  case r7q10 =>
  try simp only [Act.put, List.setIfInBounds_toArray, List.set_cons_zero, List.set_cons_succ]
  refine wpAnyX_take (i := 8) (oi := ⟨some 86, Op.load 36 (Operand.tmp 85), 36, _, _, none⟩) (v := ?v8q10) rfl (by omega) (by kernel_rfl) (by kernel_rfl) (by kernel_rfl) (by kernel_rfl) (by kernel_rfl) (fun _ _ _ h => h) (Or.inl ⟨by rfl, ?y8q10⟩) (by assumption) ?r8q10
  case y8q10 =>
    intro W hSw
    try dsimp only at hSw
    go_simp
    try with_reducible rfl
  case r8q10 =>
  try simp only [Act.put, List.setIfInBounds_toArray, List.set_cons_zero, List.set_cons_succ]
  refine wpAnyX_one (i := 5) (by kernel_rfl) rfl (fun K hK => ?_)
  go_simp
  refine hK _ _ (fun _ => ⟨hHeld.1.alloc HB2.out _, hHeld.2.trans (NonB.alloc _ _)⟩) ?_
  clear hK K
  try simp only [Act.put, List.setIfInBounds_toArray, List.set_cons_zero, List.set_cons_succ]
  refine wpAnyX_one (i := 6) (by kernel_rfl) rfl (fun K hK => ?_)
  refine step_append_apn rfl _ _ 36 rfl w.heap.size i0 (.int .u8 0) 1 Try.underlying36 Hi.out Hz.out Hz1.out Hz2.out rfl v4 _ ((L4).map bv) _ rfl rfl (HP1.out.alloc (.cells #[Value.int .u8 (s : Int)] 5)) (Rd.litP w4.drew _ rfl 5 #[Value.int .u8 (s : Int)] 1 rfl (by simp [maxLen])) (by simp [Value.oneCell']) (by have := HSL.out; have := HDS.out; have := HL4.out.2; simp <;> omega) (by have := HSL.out; have := HDS.out; have := HL4.out.2; simp <;> (unfold maxLen; omega)) (Nat.le_trans HB2.out (hHeld.1.alloc HB2.out _).size) ?_
  intro v3 w3 h3 b3b n3b
  have hS3 : Below w.heap.size w4.drew w3 ∧ NonB w4.drew w3 := ⟨(hHeld.1.alloc HB2.out _).trans b3b, (hHeld.2.trans (NonB.alloc _ _)).trans n3b⟩
  refine hK _ _ (fun _ => hS3) ?_
  clear hK K
  try simp only [Act.put, List.setIfInBounds_toArray, List.set_cons_zero, List.set_cons_succ]
  refine wpAnyX_one (i := 9) (by kernel_rfl) rfl (fun K hK => ?_)
  refine step_append_apn rfl _ _ 36 rfl w.heap.size i0 (.int .u8 0) 1 Try.underlying36 Hi.out Hz.out Hz1.out Hz2.out rfl v3 a.src ((L4).map bv ++ [Value.int .u8 (s : Int)]) ((a.srcb).map bv) rfl rfl h3 (HSB0.out.keep (HB1.out.trans hS3.1)) one_bv (by have := HSL.out; have := HDS.out; have := HL4.out.2; simp <;> omega) (by have := HSL.out; have := HDS.out; have := HL4.out.2; simp <;> (unfold maxLen; omega)) (Nat.le_trans HB2.out hS3.1.size) ?_
  intro v6 w6 h4 b4 n4
  have HQ6 := Bx.mk h4
  have HB6 := Bx.mk ((HB1.out.trans hS3.1).trans b4)
  have HN6 := Bx.mk ((HN1.out.trans hS3.2).trans n4)
  refine hK _ _ (fun _ => ⟨hS3.1.trans b4, hS3.2.trans n4⟩) ?_
  clear h4 b4 n4
  clear hK K
  try simp only [Act.put, List.setIfInBounds_toArray, List.set_cons_zero, List.set_cons_succ]
  refine wpAnyX_one (i := 10) (by kernel_rfl) rfl (fun K hK => ?_)
  go_simp
  refine hK _ _ (fun h => absurd h (by decide)) ?_
  clear hK K
  try simp only [Act.put, List.setIfInBounds_toArray, List.set_cons_zero, List.set_cons_succ]
  refine wpAnyX_done (by kernel_rfl) ?_ _
  have HP6 : Bx (ApB w6 w.heap.size v6 (L4 ++ (UInt8.ofNat s :: a.srcb))) := ⟨by
    have e1 : (L4 ++ (UInt8.ofNat s :: a.srcb)).map bv = ((L4).map bv ++ [Value.int .u8 (s : Int)]) ++ (a.srcb).map bv := bv_seg _ _ _ _ HCBs.out
    unfold ApB
    rw [e1]
    exact HQ6.out⟩
  obtain ⟨L6, hL6⟩ : ∃ l, L4 ++ (UInt8.ofNat s :: a.srcb) = l := ⟨_, rfl⟩
  rw [hL6] at HP6
  have HL6 : Bx (L4 ++ (UInt8.ofNat s :: a.srcb) = L6 ∧ L6.length ≤ 47) := ⟨hL6, by rw [← hL6]; have := HSL.out; have := HDS.out; have := HL4.out.2; simp; omega⟩
  clear HP1 HB1 HN1 HB2 m4 hL6 s8
  have q6 : w6.cell? ⟨w.heap.size, 6, none⟩ = some (.int .i64 (k : Int)) := by rw [← HDK.out]; exact (nonB_hd HN6.out SQ2.out).hdc.c6
  have HB6s : Bx (w.heap.size ≤ w6.heap.size) := ⟨HB6.out.size⟩
  have hk8 : (min (max (k : Int) 0) 8).toNat = k := by have := hKB.out; omega
  have HK8 := Bx.mk hk8
  clear hk8
  by_cases hz : L ≤ 1200
  · have f9 : decide (1200 < (L : Int)) = false := decide_eq_false (by omega)
    have f9n : decide (1200 < L) = false := decide_eq_false (by omega)
    have HRs : Bx (R = some X) := ⟨by have := HR.out; rw [if_pos hz] at this; exact this.symm⟩
    clear hz
    obtain ⟨n1, n3⟩ := HWn.out
    go_wp2_with (first
      | (go_at_call 55
         refine (refVarN_ok w.heap.size v6 L6 n w6 HP6.out HB6s.out (by have := HL6.out.2; omega) (by have := HNb.out; omega)).mono ?_
         rintro e w7 ⟨v7, rfl, h7, b7, n7⟩
         have HP7 := Bx.mk h7
         have HB7 := Bx.mk (HB6.out.trans b7)
         clear n1 n3 n0
         have q7 : w7.cell? ⟨w.heap.size, 6, none⟩ = some (.int .i64 (k : Int)) := by rw [← HDK.out]; exact (nonB_hd (HN6.out.trans n7) SQ2.out).hdc.c6
         have q7b : w7.cell? ⟨w.heap.size, 5, none⟩ = some (.int .u64 (a.pn : Int)) := (nonB_hd (HN6.out.trans n7) SQ2.out).hdc.c5
         clear h7 b7 n7)
      | (go_at_call 54
         refine (refBig_apn w.heap.size v7 (L6 ++ varB (n : Int)) (a.pn : Int) (k : Int) w7 HP7.out HB7.out.size (by have := HL6.out.2; have := HVN.out; rw [List.length_append, this.1]; omega) (by omega) (by have := hKB.out; omega)).mono ?_
         rintro e w8 ⟨v8, rfl, h8, b8, n8⟩
         have HP8 : Bx (ApB w8 w.heap.size v8 (L6 ++ VN ++ PN)) := ⟨by rw [HK8.out, HPN.out.1, HVN.out.1] at h8; exact h8⟩
         have HB8 := Bx.mk (HB7.out.trans b8)
         clear h8 b8 n8)
      | (at_builtin
         refine wpList_append_apn _ rfl _ _ 36 rfl w.heap.size i0 (.int .u8 0) 1 Try.underlying36 Hi.out Hz.out Hz1.out Hz2.out rfl v8 pV ((L6 ++ VN ++ PN).map bv) (pb.map bv) rfl rfl HP8.out (HPB.out.keep HB8.out) one_bv (by have := HL6.out.2; have := HVN.out.2; have := HPN.out.2; have := hKB.out; have := HM.out; simp; omega) (by have := HL6.out.2; have := HVN.out.2; have := HPN.out.2; have := hKB.out; have := HM.out; simp; unfold maxLen; omega) HB8.out.size ?_
         intro v9 w9 h9 b9 n9
         have HP9 : Bx (ApB w9 w.heap.size v9 X) := ⟨by
           have e : L6 ++ VN ++ PN ++ pb = X := by rw [← HX.out, ← HL6.out.1, ← HL4.out.1]; simp only [List.append_assoc, List.cons_append]
           unfold ApB; rw [← e, List.map_append]; exact h9⟩
         have HB9 := Bx.mk (HB8.out.trans b9)
         have hl9 := fun tr W => (show Bs w9 v9 X from Ap.rd HP9.out).run_len tr W
         rw [HXL.out] at hl9
         clear h9 b9 n9))
    go_ret2
    rw [HRs.out]
    exact ⟨v9, rfl, HP9.out, HB9.out⟩
  · have f9 : decide (1200 < (L : Int)) = true := decide_eq_true (by omega)
    have f9n : decide (1200 < L) = true := decide_eq_true (by omega)
    have HRs : Bx (R = none) := ⟨by have := HR.out; rw [if_neg hz] at this; exact this.symm⟩
    clear hz
    obtain ⟨n1, n3⟩ := HWn.out
    go_wp2_with (first
      | (go_at_call 55
         refine (refVarN_ok w.heap.size v6 L6 n w6 HP6.out HB6s.out (by have := HL6.out.2; omega) (by have := HNb.out; omega)).mono ?_
         rintro e w7 ⟨v7, rfl, h7, b7, n7⟩
         have HP7 := Bx.mk h7
         have HB7 := Bx.mk (HB6.out.trans b7)
         clear n1 n3 n0
         have q7 : w7.cell? ⟨w.heap.size, 6, none⟩ = some (.int .i64 (k : Int)) := by rw [← HDK.out]; exact (nonB_hd (HN6.out.trans n7) SQ2.out).hdc.c6
         have q7b : w7.cell? ⟨w.heap.size, 5, none⟩ = some (.int .u64 (a.pn : Int)) := (nonB_hd (HN6.out.trans n7) SQ2.out).hdc.c5
         clear h7 b7 n7)
      | (go_at_call 54
         refine (refBig_apn w.heap.size v7 (L6 ++ varB (n : Int)) (a.pn : Int) (k : Int) w7 HP7.out HB7.out.size (by have := HL6.out.2; have := HVN.out; rw [List.length_append, this.1]; omega) (by omega) (by have := hKB.out; omega)).mono ?_
         rintro e w8 ⟨v8, rfl, h8, b8, n8⟩
         have HP8 : Bx (ApB w8 w.heap.size v8 (L6 ++ VN ++ PN)) := ⟨by rw [HK8.out, HPN.out.1, HVN.out.1] at h8; exact h8⟩
         have HB8 := Bx.mk (HB7.out.trans b8)
         clear h8 b8 n8)
      | (at_builtin
         refine wpList_append_apn _ rfl _ _ 36 rfl w.heap.size i0 (.int .u8 0) 1 Try.underlying36 Hi.out Hz.out Hz1.out Hz2.out rfl v8 pV ((L6 ++ VN ++ PN).map bv) (pb.map bv) rfl rfl HP8.out (HPB.out.keep HB8.out) one_bv (by have := HL6.out.2; have := HVN.out.2; have := HPN.out.2; have := hKB.out; have := HM.out; simp; omega) (by have := HL6.out.2; have := HVN.out.2; have := HPN.out.2; have := hKB.out; have := HM.out; simp; unfold maxLen; omega) HB8.out.size ?_
         intro v9 w9 h9 b9 n9
         have HP9 : Bx (ApB w9 w.heap.size v9 X) := ⟨by
           have e : L6 ++ VN ++ PN ++ pb = X := by rw [← HX.out, ← HL6.out.1, ← HL4.out.1]; simp only [List.append_assoc, List.cons_append]
           unfold ApB; rw [← e, List.map_append]; exact h9⟩
         have HB9 := Bx.mk (HB8.out.trans b9)
         have hl9 := fun tr W => (show Bs w9 v9 X from Ap.rd HP9.out).run_len tr W
         rw [HXL.out] at hl9
         clear h9 b9 n9))
    go_ret2
    rw [HRs.out]
    exact ⟨rfl, HB9.out⟩
theorem refPkW_any (a : Hdr) (pV : Value) (pb : List UInt8) (w : World) (ho : hdOk a) (hd : Bs w a.dst a.dstb) (hs : Bs w a.src a.srcb) (hp : Bs w pV pb) :
    Calls Try.prog 25 #[.agg (hdA a), pV] w (PkWPost w (pkW (phM a) pb)) := by
  by_cases hg : 1 ≤ a.pl ∧ a.pl ≤ 4 ∧ a.pn < 256 ^ a.pl.toNat ∧ pb.length ≤ 1200
  · cases hlo : a.long
    · exact refPkW_short a pV pb w ho hd hs hp hg hlo
    · by_cases hok : 0 ≤ a.ty ∧ a.ty ≤ 3 ∧ a.dstb.length ≤ 20 ∧ a.srcb.length ≤ 20
      · exact refPkW_long a pV pb w ho hd hs hp hg hlo hok
      · exact refPkW_longbad a pV pb w ho hd hs hp hg hlo hok
  · exact refPkW_bad a pV pb w ho hd hs hp hg
end Go.Proofs.Ytcakppdabolfiaa
