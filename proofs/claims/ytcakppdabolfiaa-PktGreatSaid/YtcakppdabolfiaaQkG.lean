/-
  Packets: the program's Read of what is no packet; its Write of any; bifoldlaw18's known answers (written by mkqkd.py).
-/
import Derived.Test.YtcakppdabolfiaaHpH
import Derived.Test.YtcakppdabolfiaaQkF
namespace Go.Proofs.Ytcakppdabolfiaa
open Go.RowKit
set_option linter.unusedVariables false
set_option linter.unusedSimpArgs false

theorem hz_i : (Try.prog.info? 38).map (·.size) = some (#[.bool false, .int .i64 0, .int .u32 0, .slice none 0 0, .slice none 0 0, .int .u64 0, .int .i64 0] : Array Value).size := hd_size
theorem hz_1 : (#[.bool false, .int .i64 0, .int .u32 0, .slice none 0 0, .slice none 0 0, .int .u64 0, .int .i64 0] : Array Value).all (·.oneCell') = true := by simp [Value.oneCell']
set_option maxRecDepth 100000 in
set_option maxHeartbeats 4000000 in
theorem qHead_bad (v : Value) (w : World) (hv : Bs w v [0]) :
    Calls Try.prog 56 #[v] w fun e w' => e = .returned (.tuple #[.agg #[.bool false, .int .i64 0, .int .u32 0, .slice none 0 0, .slice none 0 0, .int .u64 0, .int .i64 0], .int .i64 0, .int .i64 0]) ∧ Below w.heap.size w w' := by
  have HV := Bx.mk hv
  obtain ⟨b, o, L, cc, rfl, hL, h1, h2, h3, h4⟩ := hv.cell0
  have f0 : ((L : Int) == 0) = false := by rw [beq_eq_false_iff_ne]; omega
  have f0n : ¬ (L : Int) = 0 := by omega
  have hL0 : 0 < L := h1
  have HZ0 : Bx (Sb 38 (w.alloc (.cells #[.bool false, .int .i64 0, .int .u32 0, .slice none 0 0, .slice none 0 0, .int .u64 0, .int .i64 0] 38)) w.heap.size #[.bool false, .int .i64 0, .int .u32 0, .slice none 0 0, .slice none 0 0, .int .u64 0, .int .i64 0]) := ⟨Sb.new _ w _⟩
  have HB0 : Bx (Below w.heap.size w (w.alloc (.cells #[.bool false, .int .i64 0, .int .u32 0, .slice none 0 0, .slice none 0 0, .int .u64 0, .int .i64 0] 38))) := ⟨(Below.refl _ _).alloc (Nat.le_refl _) _⟩
  have h4b : (w.alloc (.cells #[.bool false, .int .i64 0, .int .u32 0, .slice none 0 0, .slice none 0 0, .int .u64 0, .int .i64 0] 38)).cell? ⟨b, o, none⟩ = some (.int .u8 0) := by
    have := Bs.cell (show Bs _ (.slice (some ⟨b, o, none⟩) L cc) [0] from HV.out.keep HB0.out) 0 (by simp)
    exact this
  have a64 : bits .and .u8 0 64 = 0 := by decide
  clear hL h4
  go_enter Try.func56, Try.ntmps56
  go_wp2_with (first
    | (with_reducible refine wpList_storeS 38 w.heap.size #[.bool false, .int .i64 0, .int .u32 0, .slice none 0 0, .slice none 0 0, .int .u64 0, .int .i64 0] #[.bool false, .int .i64 0, .int .u32 0, .slice none 0 0, .slice none 0 0, .int .u64 0, .int .i64 0] rfl rfl HZ0.out hz_i rfl hz_1 ?_
       intro w2 hs2 hg2
       have HS2 := Bx.mk hs2
       have HB2 := Bx.mk (HB0.out.grown hg2 HB0.out.size (fun k hk => by injection hk with hk; omega))
       clear hs2 hg2))
  exact bodyPost_ret (ret_Hd Try.results56 _ _ w.heap.size _ _ _ _ _ _ _ _ _ rfl rfl rfl HS2.out) rfl ⟨rfl, HB2.out⟩
set_option maxRecDepth 100000 in
set_option maxHeartbeats 4000000 in
theorem qRead_bad (v : Value) (w : World) (hv : Bs w v [0]) : Calls Try.prog 26 #[v] w (ReadNo w) := by
  obtain ⟨v1, r1, k1⟩ := hv.mid 0 0 (by omega) (by omega) (by simp)
  have HRB := Bx.mk (fun W (h : Bs W v [0]) => readBig_zero v1 _ W (k1 W h))
  have HV := Bx.mk hv
  have HHd := Bx.mk (fun W (h : Bs W v [0]) => qHead_bad v W h)
  have HZ0 : Bx (Sb 38 (w.alloc (.cells #[.bool false, .int .i64 0, .int .u32 0, .slice none 0 0, .slice none 0 0, .int .u64 0, .int .i64 0] 38)) w.heap.size #[.bool false, .int .i64 0, .int .u32 0, .slice none 0 0, .slice none 0 0, .int .u64 0, .int .i64 0]) := ⟨Sb.new _ w _⟩
  have HB0 : Bx (Below w.heap.size w (w.alloc (.cells #[.bool false, .int .i64 0, .int .u32 0, .slice none 0 0, .slice none 0 0, .int .u64 0, .int .i64 0] 38))) := ⟨(Below.refl _ _).alloc (Nat.le_refl _) _⟩
  clear hv k1
  go_enter Try.func26, Try.ntmps26
  go_upto_region 4 with (first
    | (go_at_call 56
       refine (HHd.out _ (HV.out.keep HB0.out)).mono ?_
       rintro e w1 ⟨rfl, b1⟩
       have HB1 := Bx.mk (HB0.out.trans (b1.mono HB0.out.size))
       have HZ1 := Bx.mk (HZ0.out.keep b1)
       have HN1 : Bx (Sb 38 (w1.alloc (.cells #[.bool false, .int .i64 0, .int .u32 0, .slice none 0 0, .slice none 0 0, .int .u64 0, .int .i64 0] 38)) w1.heap.size #[.bool false, .int .i64 0, .int .u32 0, .slice none 0 0, .slice none 0 0, .int .u64 0, .int .i64 0]) := ⟨Sb.new _ _ _⟩
       clear b1)
    | (with_reducible refine wpList_storeS 38 w1.heap.size #[.bool false, .int .i64 0, .int .u32 0, .slice none 0 0, .slice none 0 0, .int .u64 0, .int .i64 0] #[.bool false, .int .i64 0, .int .u32 0, .slice none 0 0, .slice none 0 0, .int .u64 0, .int .i64 0] rfl rfl HN1.out hz_i rfl hz_1 ?_
       intro w2 hs2 hg2
       have HN2 := Bx.mk hs2
       have b12 : Below w1.heap.size w1 w2 := ((Below.refl _ _).alloc (Nat.le_refl _) _).grown hg2 (by simp) (fun k hk => by injection hk with hk; omega)
       have HZ2 := Bx.mk (HZ1.out.keep b12)
       have HB2 := Bx.mk (HB1.out.trans (b12.mono HB1.out.size))
       clear hs2 hg2 b12))
  obtain ⟨g6, hg6⟩ : ∃ g, w1.heap.size = g := ⟨_, rfl⟩
  obtain ⟨g, hg⟩ : ∃ g, w.heap.size = g := ⟨_, rfl⟩
  rw [hg6] at HN2
  rw [hg] at HZ2
  have HG : Bx (w.heap.size = g) := ⟨hg⟩
  simp only [hg6, hg]
  clear hg6 hg
  have m6 : ∀ W, Below w2.heap.size w2.drew W → W.cell? ⟨g6, 6, none⟩ = some (.int .i64 0) := fun W h => (HN2.out.keep ((Below.refl _ _).drew.trans h)).cell 6
  refine wp_region_x 10 (fun W => Below w2.heap.size w2.drew W) (by kernel_rfl) (Below.refl _ _) (fun hHeld => ?_)
  refine wpAnyX_take0 (i := 0) (oi := ⟨some 21, Op.move (Operand.tmp 0), 36, _, _, none⟩) (v := ?v0r) rfl (by omega) (by kernel_rfl) (by kernel_rfl) (by kernel_rfl) (fun _ _ _ h => h) (Or.inl ⟨by rfl, ?y0r⟩) (by assumption) ?r0r
  case y0r =>
    intro W hSw
    try dsimp only at hSw
    go_simp
    try with_reducible rfl
  case r0r =>
  try simp only [Act.put, List.setIfInBounds_toArray, List.set_cons_zero, List.set_cons_succ]
  refine wpAnyX_take0 (i := 1) (oi := ⟨some 22, Op.move (Operand.tmp 7), 3, _, _, none⟩) (v := ?v1r) rfl (by omega) (by kernel_rfl) (by kernel_rfl) (by kernel_rfl) (fun _ _ _ h => h) (Or.inl ⟨by rfl, ?y1r⟩) (by assumption) ?r1r
  case y1r =>
    intro W hSw
    try dsimp only at hSw
    go_simp
    try with_reducible rfl
  case r1r =>
  try simp only [Act.put, List.setIfInBounds_toArray, List.set_cons_zero, List.set_cons_succ]
  refine wpAnyX_take0 (i := 2) (oi := ⟨some 23, Op.move (Operand.tmp 8), 3, _, _, none⟩) (v := ?v2r) rfl (by omega) (by kernel_rfl) (by kernel_rfl) (by kernel_rfl) (fun _ _ _ h => h) (Or.inl ⟨by rfl, ?y2r⟩) (by assumption) ?r2r
  case y2r =>
    intro W hSw
    try dsimp only at hSw
    go_simp
    try with_reducible rfl
  case r2r =>
  try simp only [Act.put, List.setIfInBounds_toArray, List.set_cons_zero, List.set_cons_succ]
  refine wpAnyX_take0 (i := 3) (oi := ⟨some 24, Op.slice 36 (Operand.tmp 21) (some (Operand.tmp 22)) (some (Operand.tmp 23)) none, 36, _, _, none⟩) (v := ?v3r) rfl (by omega) (by kernel_rfl) (by kernel_rfl) (by kernel_rfl) (fun _ _ _ h => h) (Or.inl ⟨by rfl, ?y3r⟩) (by assumption) ?r3r
  case y3r =>
    intro W hSw
    try dsimp only at hSw
    go_simp
    try with_reducible rfl
  case r3r =>
  try simp only [Act.put, List.setIfInBounds_toArray, List.set_cons_zero, List.set_cons_succ]
  refine wpAnyX_take0 (i := 4) (oi := ⟨some 25, Op.fieldAddr 38 (Operand.tmp 6) 6, 0, _, _, none⟩) (v := ?v4r) rfl (by omega) (by kernel_rfl) (by kernel_rfl) (by kernel_rfl) (fun _ _ _ h => h) (Or.inl ⟨by rfl, ?y4r⟩) (by assumption) ?r4r
  case y4r =>
    intro W hSw
    try dsimp only at hSw
    go_simp
    try with_reducible rfl
  case r4r =>
  try simp only [Act.put, List.setIfInBounds_toArray, List.set_cons_zero, List.set_cons_succ]
  refine wpAnyX_take (i := 5) (oi := ⟨some 26, Op.load 3 (Operand.tmp 25), 3, _, _, none⟩) (v := ?v5r) rfl (by omega) (by kernel_rfl) (by kernel_rfl) (by kernel_rfl) (by kernel_rfl) (by kernel_rfl) (fun _ _ _ h => h) (Or.inl ⟨by rfl, ?y5r⟩) (by assumption) ?r5r
  case y5r =>
    intro W hSw
    try dsimp only at hSw
    go_simp
    try with_reducible rfl
  case r5r =>
  try simp only [Act.put, List.setIfInBounds_toArray, List.set_cons_zero, List.set_cons_succ]
  refine wpAnyX_one (i := 6) (by kernel_rfl) rfl (fun K hK => ?_)
  go_simp
  go_at_call 57
  refine (HRB.out _ (HV.out.keep (HB2.out.trans (((Below.refl _ _).drew.trans hHeld).mono HB2.out.size)))).mono ?_
  rintro e w3 ⟨rfl, hw3⟩
  subst hw3
  refine hK _ _ (fun _ => hHeld) ?_
  clear hK K
  try simp only [Act.put, List.setIfInBounds_toArray, List.set_cons_zero, List.set_cons_succ]
  refine wpAnyX_take0 (i := 7) (oi := ⟨some 20, Op.move (Operand.tmp 27), 99, _, _, none⟩) (v := ?v7r) rfl (by omega) (by kernel_rfl) (by kernel_rfl) (by kernel_rfl) (fun _ _ _ h => h) (Or.inl ⟨by rfl, ?y7r⟩) (by assumption) ?r7r
  case y7r =>
    intro W hSw
    try dsimp only at hSw
    go_simp
    try with_reducible rfl
  case r7r =>
  try simp only [Act.put, List.setIfInBounds_toArray, List.set_cons_zero, List.set_cons_succ]
  refine wpAnyX_take0 (i := 8) (oi := ⟨some 28, Op.extract (Operand.tmp 20) 0, 22, _, _, none⟩) (v := ?v8r) rfl (by omega) (by kernel_rfl) (by kernel_rfl) (by kernel_rfl) (fun _ _ _ h => h) (Or.inl ⟨by rfl, ?y8r⟩) (by assumption) ?r8r
  case y8r =>
    intro W hSw
    try dsimp only at hSw
    go_simp
    try with_reducible rfl
  case r8r =>
  try simp only [Act.put, List.setIfInBounds_toArray, List.set_cons_zero, List.set_cons_succ]
  refine wpAnyX_take0 (i := 9) (oi := ⟨some 29, Op.extract (Operand.tmp 20) 1, 4, _, _, none⟩) (v := ?v9r) rfl (by omega) (by kernel_rfl) (by kernel_rfl) (by kernel_rfl) (fun _ _ _ h => h) (Or.inl ⟨by rfl, ?y9r⟩) (by assumption) ?r9r
  case y9r =>
    intro W hSw
    try dsimp only at hSw
    go_simp
    try with_reducible rfl
  case r9r =>
  try simp only [Act.put, List.setIfInBounds_toArray, List.set_cons_zero, List.set_cons_succ]
  refine wpAnyX_one (i := 10) (by kernel_rfl) rfl (fun K hK => ?_)
  go_simp
  refine hK _ _ (fun h => absurd h (by decide)) ?_
  clear hK K
  try simp only [Act.put, List.setIfInBounds_toArray, List.set_cons_zero, List.set_cons_succ]
  refine wpAnyX_one (i := 11) (by kernel_rfl) rfl (fun K hK => ?_)
  go_simp
  refine hK _ _ (fun h => absurd h (by decide)) ?_
  clear hK K
  try simp only [Act.put, List.setIfInBounds_toArray, List.set_cons_zero, List.set_cons_succ]
  refine wpAnyX_done (by kernel_rfl) ?_ _
  have q6 : w2.drew.cell? ⟨g6, 6, none⟩ = some (.int .i64 0) := HN2.out.cell 6
  have HZ2d : Bx (Sb 38 w2.drew g #[.bool false, .int .i64 0, .int .u32 0, .slice none 0 0, .slice none 0 0, .int .u64 0, .int .i64 0]) := ⟨HZ2.out⟩
  go_wp2_with (first
    | (with_reducible refine wpList_storeS 38 g #[.bool false, .int .i64 0, .int .u32 0, .slice none 0 0, .slice none 0 0, .int .u64 0, .int .i64 0] #[.bool false, .int .i64 0, .int .u32 0, .slice none 0 0, .slice none 0 0, .int .u64 0, .int .i64 0] rfl rfl HZ2d.out hz_i rfl hz_1 ?_
       intro w5 hs5 hg5
       have HS5 := Bx.mk hs5
       have hbd : Below w.heap.size w w2.drew := HB2.out.drew
       have HB5 := Bx.mk (hbd.grown hg5 hbd.size (fun k hk => by injection hk with hk; have := HG.out; omega))
       clear hs5 hg5 hbd))
  exact bodyPost_ret (ret_Hd4 Try.results26 _ _ g _ rfl _ _ _ rfl rfl rfl rfl HS5.out) rfl ⟨rfl, HB5.out⟩
set_option maxRecDepth 100000 in
set_option maxHeartbeats 4000000 in
theorem qWrite_no (a : Hdr) (pV : Value) (pb : List UInt8) (w : World) (ho : hdOk a) (hd : Bs w a.dst a.dstb) (hs : Bs w a.src a.srcb) (hg : goodB a = false) :
    Calls Try.prog 28 #[.agg (hdA a), pV] w (PkWPost w (pkW (phM a) pb)) := by
  rw [pkW_no a pb hg]
  have HGood := Bx.mk (fun W (h1 : Bs W a.dst a.dstb) (h2 : Bs W a.src a.srcb) => qGood_any a W ho h1 h2)
  rw [hg] at HGood
  have HD := Bx.mk hd
  have HS := Bx.mk hs
  have HB0 : Bx (Below w.heap.size w (w.alloc (.cells (hdA a) 38))) := ⟨(Below.refl _ _).alloc (Nat.le_refl _) _⟩
  obtain ⟨x0, x1, x2, x3, x4, x5, x6⟩ := (Sb.new 38 w (hdA a)).hdc
  change Calls _ _ #[.agg #[.bool a.long, .int .i64 a.ty, .int .u32 (a.ver : Int), a.dst, a.src, .int .u64 (a.pn : Int), .int .i64 a.pl], pV] _ _
  change (w.alloc (.cells #[.bool a.long, .int .i64 a.ty, .int .u32 (a.ver : Int), a.dst, a.src, .int .u64 (a.pn : Int), .int .i64 a.pl] 38)).cell? _ = _ at x0 x1 x2 x3 x4 x5 x6
  clear ho hd hs hg
  go_enter Try.func28, Try.ntmps28
  go_wp2_with (first
    | (go_at_call 59
       refine (HGood.out _ (HD.out.keep HB0.out) (HS.out.keep HB0.out)).mono ?_
       rintro e W1 ⟨rfl, b1⟩
       have HB1 := Bx.mk (HB0.out.trans (b1.mono HB0.out.size))
       clear b1))
  go_ret2
  exact ⟨rfl, HB1.out⟩
theorem qWrite_any (a : Hdr) (pV : Value) (pb : List UInt8) (w : World) (ho : hdOk a) (hd : Bs w a.dst a.dstb) (hs : Bs w a.src a.srcb) (hp : Bs w pV pb) (hm : pb.length ≤ 50000) :
    Calls Try.prog 28 #[.agg (hdA a), pV] w (PkWPost w (pkW (phM a) pb)) := by
  cases hg : goodB a
  · exact qWrite_no a pV pb w ho hd hs hg
  · obtain ⟨lo, ty, ver, dst, dstb, src, srcb, pn, pl⟩ := a
    obtain ⟨k, rfl⟩ := Int.eq_ofNat_of_zero_le (show 0 ≤ pl by have := ((goodB_iff _).1 hg).1; simp only at this; omega)
    cases lo
    · exact qWrite_short ty ver dst dstb src srcb pn k pV pb w ho hd hs hp hm hg
    · exact qWrite_long ty ver dst dstb src srcb pn k pV pb w ho hd hs hp hm hg
theorem pkW_ex (a : Hdr) (pb : List UInt8) (k : Nat) (hk : a.pl = (k : Int)) (h : goodB a = true) (hl : (pkHd a k (k + pb.length)).length + k + pb.length ≤ 1200) : ∃ X, pkW (phM a) pb = some X ∧ X.length ≤ 1200 := by
  exact ⟨pkHd a k (k + pb.length) ++ bes (a.pn : Int) k ++ pb, by rw [pkW_ok a pb k hk h, if_pos (by simp only [List.length_append, bes_len]; omega)], by simp only [List.length_append, bes_len]; omega⟩
theorem pkW_big (a : Hdr) (pb : List UInt8) (k : Nat) (hk : a.pl = (k : Int)) (h : goodB a = true) (hl : 1200 < (pkHd a k (k + pb.length)).length + k + pb.length) : pkW (phM a) pb = none := by
  rw [pkW_ok a pb k hk h, if_neg (by simp only [List.length_append, bes_len]; omega)]
end Go.Proofs.Ytcakppdabolfiaa
