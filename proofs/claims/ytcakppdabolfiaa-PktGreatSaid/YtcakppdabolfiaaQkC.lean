/-
  Packets: the program's Write (written by mkqka.py).
-/
import Derived.Test.YtcakppdabolfiaaQkB
namespace Go.Proofs.Ytcakppdabolfiaa
open Go.RowKit
set_option linter.unusedVariables false
set_option linter.unusedSimpArgs false

theorem hdcE {w : World} {g : Nat} {lo : Bool} {ty pl : Int} {ver pn : Nat} {dst src : Value} (h : Sb 38 w g #[.bool lo, .int .i64 ty, .int .u32 (ver : Int), dst, src, .int .u64 (pn : Int), .int .i64 pl]) :
    w.cell? ⟨g, 0, none⟩ = some (.bool lo) ∧ w.cell? ⟨g, 1, none⟩ = some (.int .i64 ty) ∧ w.cell? ⟨g, 2, none⟩ = some (.int .u32 (ver : Int)) ∧ w.cell? ⟨g, 3, none⟩ = some dst ∧ w.cell? ⟨g, 4, none⟩ = some src ∧ w.cell? ⟨g, 5, none⟩ = some (.int .u64 (pn : Int)) ∧ w.cell? ⟨g, 6, none⟩ = some (.int .i64 pl) :=
  ⟨h.cell 0, h.cell 1, h.cell 2, h.cell 3, h.cell 4, h.cell 5, h.cell 6⟩
/-- Ahead of a packet's number. -/
def pkHd (a : Hdr) (k n : Nat) : List UInt8 := if a.long = true then lhB a k n else UInt8.ofNat (64 + (k - 1)) :: a.dstb
theorem goodB_iff (a : Hdr) : goodB a = true ↔ 1 ≤ a.pl ∧ a.pl ≤ 4 ∧ a.pn < 256 ^ a.pl.toNat ∧ (if a.long = true then 0 ≤ a.ty ∧ a.ty ≤ 3 ∧ a.dstb.length ≤ 20 ∧ a.srcb.length ≤ 20 else a.dstb.length = 8) := by unfold goodB; exact decide_eq_true_iff
theorem pkW_no (a : Hdr) (pb : List UInt8) (h : goodB a = false) : pkW (phM a) pb = none := by
  have h2 : ¬ goodB a = true := by rw [h]; decide
  rw [goodB_iff] at h2
  unfold pkW
  by_cases hg : 1 ≤ (phM a).pl ∧ (phM a).pl ≤ 4 ∧ (phM a).pn < 256 ^ (phM a).pl.toNat ∧ pb.length ≤ 1200
  · rw [if_pos hg]
    have : pkHead (phM a) pb.length = none := by
      unfold pkHead
      obtain ⟨g1, g2, g3, _⟩ := hg
      cases hlo : a.long
      · rw [hlo] at h2
        simp only [phM, hlo, Bool.false_eq_true, if_false] at h2 g1 g2 g3 ⊢
        rw [if_neg (fun h => h2 ⟨g1, g2, g3, h⟩)]
      · rw [hlo] at h2
        simp only [phM, hlo, if_true] at h2 g1 g2 g3 ⊢
        rw [if_neg (fun h => h2 ⟨g1, g2, g3, h⟩)]
    rw [this]; rfl
  · rw [if_neg hg]
theorem pkW_ok (a : Hdr) (pb : List UInt8) (k : Nat) (hk : a.pl = (k : Int)) (h : goodB a = true) : pkW (phM a) pb = if (pkHd a k (k + pb.length) ++ bes (a.pn : Int) k ++ pb).length ≤ 1200 then some (pkHd a k (k + pb.length) ++ bes (a.pn : Int) k ++ pb) else none := by
  rw [goodB_iff] at h
  obtain ⟨g1, g2, g3, g4⟩ := h
  by_cases hp : pb.length ≤ 1200
  · have : pkHead (phM a) pb.length = some (pkHd a k (k + pb.length)) := by
      unfold pkHead pkHd lhB
      cases hlo : a.long
      · rw [hlo] at g4
        simp only [phM, hlo, Bool.false_eq_true, if_false] at g4 ⊢
        rw [if_pos g4, hk, Int.toNat_natCast]
      · rw [hlo] at g4
        simp only [phM, hlo, if_true] at g4 ⊢
        rw [if_pos g4, hk, Int.toNat_natCast]
    have this' : pkHead ⟨a.long, a.ty, a.ver, a.dstb, a.srcb, a.pn, a.pl⟩ pb.length = some (pkHd a k (k + pb.length)) := this
    have hkn : a.pl.toNat = k := by rw [hk, Int.toNat_natCast]
    unfold pkW phM
    simp only
    rw [if_pos ⟨g1, g2, g3, hp⟩, this', hkn]
    rfl
  · unfold pkW phM
    simp only
    rw [if_neg (fun h => hp h.2.2.2), if_neg (by simp only [List.length_append]; omega)]
set_option maxRecDepth 100000 in
set_option maxHeartbeats 4000000 in
theorem qWrite_short (ty : Int) (ver : Nat) (dst : Value) (dstb : List UInt8) (src : Value) (srcb : List UInt8) (pn k : Nat) (pV : Value) (pb : List UInt8) (w : World) (ho : hdOk ⟨false, ty, ver, dst, dstb, src, srcb, pn, (k : Int)⟩) (hd : Bs w dst dstb) (hs : Bs w src srcb) (hp : Bs w pV pb) (hm : pb.length ≤ 50000) (hg : goodB ⟨false, ty, ver, dst, dstb, src, srcb, pn, (k : Int)⟩ = true) :
    Calls Try.prog 28 #[.agg (hdA ⟨false, ty, ver, dst, dstb, src, srcb, pn, (k : Int)⟩), pV] w (PkWPost w (pkW (phM ⟨false, ty, ver, dst, dstb, src, srcb, pn, (k : Int)⟩) pb)) := by
  rw [pkW_ok _ pb k rfl hg]
  obtain ⟨i0, hi, hz, hz1, hz2⟩ := info_parts infoU8pw
  have Hi := Lib.hid hi
  have Hz := Lib.hid hz
  have Hz1 := Lib.hid hz1
  have Hz2 := Lib.hid hz2
  clear hi hz hz1 hz2
  have hgi := (goodB_iff _).1 hg
  simp only [Bool.false_eq_true, if_false, Int.toNat_natCast] at hgi
  obtain ⟨g1, g2, g3, g4⟩ := hgi
  have HGood := Bx.mk (fun W (h1 : Bs W dst dstb) (h2 : Bs W src srcb) => qGood_any ⟨false, ty, ver, dst, dstb, src, srcb, pn, (k : Int)⟩ W ho h1 h2)
  rw [hg] at HGood
  have HShort := Bx.mk (fun W (h1 : Bs W dst dstb) (h2 : Bs W src srcb) => qShort_any ⟨false, ty, ver, dst, dstb, src, srcb, pn, (k : Int)⟩ k W rfl (by omega) (by omega) h1 h2 (by show dstb.length ≤ 20; omega))
  obtain ⟨m, hml⟩ : ∃ m, pb.length = m := ⟨_, rfl⟩
  have hlp := fun tr W => (show Bs w pV pb from hp).run_len tr W
  obtain ⟨H, hH⟩ : ∃ H, pkHd ⟨false, ty, ver, dst, dstb, src, srcb, pn, (k : Int)⟩ k (k + pb.length) = H := ⟨_, rfl⟩
  rw [hH]
  rw [hml] at hlp hH hm
  have HHe := Bx.mk hH
  obtain ⟨h, hh⟩ : ∃ h, H.length = h := ⟨_, rfl⟩
  have hhB : h ≤ 100 := by
    rw [← hh, ← hH]
    unfold pkHd
    simp only [Bool.false_eq_true, if_false, Int.toNat_natCast, List.length_cons, List.length_append, bes_len]
    have := varB_len8 (k + m)
    omega
  obtain ⟨u, hu⟩ : ∃ u, h + k = u := ⟨_, rfl⟩
  obtain ⟨L, hL⟩ : ∃ L, u + m = L := ⟨_, rfl⟩
  have u0 : (h : Int) + (k : Int) = (u : Int) := by omega
  have l0 : (u : Int) + (m : Int) = (L : Int) := by omega
  have hXL : (H ++ bes (pn : Int) k ++ pb).length = L := by simp only [List.length_append, bes_len, hh, hml]; omega
  obtain ⟨X, hX⟩ : ∃ X, H ++ bes (pn : Int) k ++ pb = X := ⟨_, rfl⟩
  rw [hX] at hXL
  obtain ⟨R, hR⟩ : ∃ R, (if X.length ≤ 1200 then some X else none) = R := ⟨_, rfl⟩
  change Calls _ _ _ _ (PkWPost w (if (H ++ bes (pn : Int) k ++ pb).length ≤ 1200 then some (H ++ bes (pn : Int) k ++ pb) else none))
  rw [hX, hR]
  rw [hXL] at hR
  have HX := Bx.mk hX
  have HR := Bx.mk hR
  have HD := Bx.mk hd
  have HS := Bx.mk hs
  have HP := Bx.mk hp
  have HHL : Bx (H.length = h ∧ h ≤ 100) := ⟨hh, hhB⟩
  have HK : Bx (1 ≤ k ∧ k ≤ 4 ∧ m ≤ 50000 ∧ pb.length = m) := ⟨by omega, by omega, hm, hml⟩
  have HPN : Bx (pn < 18446744073709551616) := ⟨ho.2.2.1⟩
  have hu9 : u < 100000 := by omega
  have hL9 : L < 100000 := by omega
  have hzz : (L ≤ 1200 ∧ decide (1200 < (L : Int)) = false ∧ decide (1200 < L) = false) ∨ (¬ L ≤ 1200 ∧ decide (1200 < (L : Int)) = true ∧ decide (1200 < L) = true) := by
    by_cases hz : L ≤ 1200
    · exact .inl ⟨hz, decide_eq_false (by omega), decide_eq_false (by omega)⟩
    · exact .inr ⟨hz, decide_eq_true (by omega), decide_eq_true (by omega)⟩
  have u1 : wrap64 (u : Int) = (u : Int) := w64s u hu9
  have l1 : wrap64 (L : Int) = (L : Int) := w64s L hL9
  have SQ : Bx (Sb 38 (w.alloc (.cells #[.bool false, .int .i64 ty, .int .u32 (ver : Int), dst, src, .int .u64 (pn : Int), .int .i64 (k : Int)] 38)) w.heap.size #[.bool false, .int .i64 ty, .int .u32 (ver : Int), dst, src, .int .u64 (pn : Int), .int .i64 (k : Int)]) := ⟨Sb.new _ w _⟩
  have HB0 : Bx (Below w.heap.size w (w.alloc (.cells #[.bool false, .int .i64 ty, .int .u32 (ver : Int), dst, src, .int .u64 (pn : Int), .int .i64 (k : Int)] 38))) := ⟨(Below.refl _ _).alloc (Nat.le_refl _) _⟩
  obtain ⟨x0, x1, x2, x3, x4, x5, x6⟩ := hdcE SQ.out
  clear ho hd hs hp hm hg g1 g2 g3 g4 hH hh hhB hu hL hXL hX hR hml hu9 hL9
  rcases hzz with ⟨hz, f9, f9n⟩ | ⟨hz, f9, f9n⟩
  · have HRs : Bx (R = some X) := ⟨by have := HR.out; rw [if_pos hz] at this; exact this.symm⟩
    clear hz
    change Calls _ _ #[.agg #[.bool false, .int .i64 ty, .int .u32 (ver : Int), dst, src, .int .u64 (pn : Int), .int .i64 (k : Int)], pV] _ _
    go_enter Try.func28, Try.ntmps28
    go_wp2_with (first
      | (go_at_call 59
         refine (HGood.out _ (HD.out.keep HB0.out) (HS.out.keep HB0.out)).mono ?_
         rintro e W1 ⟨rfl, b1⟩
         have HB1 := Bx.mk (HB0.out.trans (b1.mono HB0.out.size))
         have HS1 := Bx.mk (SQ.out.keep b1)
         obtain ⟨y0, y1, y2, y3, y4, y5, y6⟩ := hdcE HS1.out
         clear b1)
      | (go_at_call 60
         refine (HShort.out _ (HD.out.keep HB1.out) (HS.out.keep HB1.out)).mono ?_
         rintro e W2 ⟨v2, rfl, h2, b2⟩
         have HB2 := Bx.mk (HB1.out.trans (b2.mono HB1.out.size))
         have HS2 := Bx.mk (HS1.out.keep b2)
         obtain ⟨z0, z1, z2, z3, z4, z5, z6⟩ := hdcE HS2.out
         have HPH : Bx (ApB W2 w.heap.size v2 H) := ⟨by rw [← HHe.out]; exact Ap.mono h2 HB1.out.size⟩
         have HBH := HB2
         have hlH := fun tr W => (show Bs W2 v2 H from Ap.rd HPH.out).run_len tr W
         rw [HHL.out.1] at hlH
         clear h2 b2)
      | (go_at_call 62
         clear u0 u1 l0 l1
         refine (big_any _ H (pn : Int) (k : Int) _ (Ap.rd HPH.out) (by have := HHL.out; omega) (by omega) (by have := HPN.out; omega)).mono ?_
         rintro e W4 ⟨v4, rfl, h4, b4⟩
         have HB4 := Bx.mk (HBH.out.trans (b4.mono HBH.out.size))
         have HP4 : Bx (ApB W4 w.heap.size v4 (H ++ bes (pn : Int) k)) := ⟨by
           rw [show (min (max (k : Int) 0) 8).toNat = k by have := HK.out; omega] at h4
           exact Ap.mono h4 HBH.out.size⟩
         clear h4 b4)
      | (at_builtin
         refine wpList_append_apn _ rfl _ _ 36 rfl w.heap.size i0 (.int .u8 0) 1 Try.underlying36 Hi.out Hz.out Hz1.out Hz2.out rfl v4 pV ((H ++ bes (pn : Int) k).map bv) (pb.map bv) rfl rfl HP4.out (HP.out.keep HB4.out) one_bv (by have := HHL.out; have := HK.out; simp [bes_len]; omega) (by have := HHL.out; have := HK.out; simp [bes_len]; unfold maxLen; omega) HB4.out.size ?_
         intro v5 w5 h5 b5 n5
         have HP5 : Bx (ApB w5 w.heap.size v5 X) := ⟨by rw [← HX.out]; unfold ApB; rw [List.map_append]; exact h5⟩
         have HB5 := Bx.mk (HB4.out.trans b5)
         clear h5 b5 n5))
    go_ret2
    rw [HRs.out]
    exact ⟨v5, rfl, HP5.out, HB5.out⟩
  · have HRs : Bx (R = none) := ⟨by have := HR.out; rw [if_neg hz] at this; exact this.symm⟩
    clear hz
    change Calls _ _ #[.agg #[.bool false, .int .i64 ty, .int .u32 (ver : Int), dst, src, .int .u64 (pn : Int), .int .i64 (k : Int)], pV] _ _
    go_enter Try.func28, Try.ntmps28
    go_wp2_with (first
      | (go_at_call 59
         refine (HGood.out _ (HD.out.keep HB0.out) (HS.out.keep HB0.out)).mono ?_
         rintro e W1 ⟨rfl, b1⟩
         have HB1 := Bx.mk (HB0.out.trans (b1.mono HB0.out.size))
         have HS1 := Bx.mk (SQ.out.keep b1)
         obtain ⟨y0, y1, y2, y3, y4, y5, y6⟩ := hdcE HS1.out
         clear b1)
      | (go_at_call 60
         refine (HShort.out _ (HD.out.keep HB1.out) (HS.out.keep HB1.out)).mono ?_
         rintro e W2 ⟨v2, rfl, h2, b2⟩
         have HB2 := Bx.mk (HB1.out.trans (b2.mono HB1.out.size))
         have HS2 := Bx.mk (HS1.out.keep b2)
         obtain ⟨z0, z1, z2, z3, z4, z5, z6⟩ := hdcE HS2.out
         have HPH : Bx (ApB W2 w.heap.size v2 H) := ⟨by rw [← HHe.out]; exact Ap.mono h2 HB1.out.size⟩
         have HBH := HB2
         have hlH := fun tr W => (show Bs W2 v2 H from Ap.rd HPH.out).run_len tr W
         rw [HHL.out.1] at hlH
         clear h2 b2)
      | (go_at_call 62
         clear u0 u1 l0 l1
         refine (big_any _ H (pn : Int) (k : Int) _ (Ap.rd HPH.out) (by have := HHL.out; omega) (by omega) (by have := HPN.out; omega)).mono ?_
         rintro e W4 ⟨v4, rfl, h4, b4⟩
         have HB4 := Bx.mk (HBH.out.trans (b4.mono HBH.out.size))
         have HP4 : Bx (ApB W4 w.heap.size v4 (H ++ bes (pn : Int) k)) := ⟨by
           rw [show (min (max (k : Int) 0) 8).toNat = k by have := HK.out; omega] at h4
           exact Ap.mono h4 HBH.out.size⟩
         clear h4 b4)
      | (at_builtin
         refine wpList_append_apn _ rfl _ _ 36 rfl w.heap.size i0 (.int .u8 0) 1 Try.underlying36 Hi.out Hz.out Hz1.out Hz2.out rfl v4 pV ((H ++ bes (pn : Int) k).map bv) (pb.map bv) rfl rfl HP4.out (HP.out.keep HB4.out) one_bv (by have := HHL.out; have := HK.out; simp [bes_len]; omega) (by have := HHL.out; have := HK.out; simp [bes_len]; unfold maxLen; omega) HB4.out.size ?_
         intro v5 w5 h5 b5 n5
         have HP5 : Bx (ApB w5 w.heap.size v5 X) := ⟨by rw [← HX.out]; unfold ApB; rw [List.map_append]; exact h5⟩
         have HB5 := Bx.mk (HB4.out.trans b5)
         clear h5 b5 n5))
    go_ret2
    rw [HRs.out]
    exact ⟨rfl, HBH.out⟩
set_option maxRecDepth 100000 in
set_option maxHeartbeats 4000000 in
theorem qWrite_long (ty : Int) (ver : Nat) (dst : Value) (dstb : List UInt8) (src : Value) (srcb : List UInt8) (pn k : Nat) (pV : Value) (pb : List UInt8) (w : World) (ho : hdOk ⟨true, ty, ver, dst, dstb, src, srcb, pn, (k : Int)⟩) (hd : Bs w dst dstb) (hs : Bs w src srcb) (hp : Bs w pV pb) (hm : pb.length ≤ 50000) (hg : goodB ⟨true, ty, ver, dst, dstb, src, srcb, pn, (k : Int)⟩ = true) :
    Calls Try.prog 28 #[.agg (hdA ⟨true, ty, ver, dst, dstb, src, srcb, pn, (k : Int)⟩), pV] w (PkWPost w (pkW (phM ⟨true, ty, ver, dst, dstb, src, srcb, pn, (k : Int)⟩) pb)) := by
  rw [pkW_ok _ pb k rfl hg]
  obtain ⟨i0, hi, hz, hz1, hz2⟩ := info_parts infoU8pw
  have Hi := Lib.hid hi
  have Hz := Lib.hid hz
  have Hz1 := Lib.hid hz1
  have Hz2 := Lib.hid hz2
  clear hi hz hz1 hz2
  have hgi := (goodB_iff _).1 hg
  simp only [if_true] at hgi
  obtain ⟨g1, g2, g3, g4⟩ := hgi
  have HGood := Bx.mk (fun W (h1 : Bs W dst dstb) (h2 : Bs W src srcb) => qGood_any ⟨true, ty, ver, dst, dstb, src, srcb, pn, (k : Int)⟩ W ho h1 h2)
  rw [hg] at HGood
  have HShort := Bx.mk (fun W (h1 : Bs W dst dstb) (h2 : Bs W src srcb) => qShort_any ⟨true, ty, ver, dst, dstb, src, srcb, pn, (k : Int)⟩ k W rfl (by omega) (by omega) h1 h2 (by show dstb.length ≤ 20; omega))
  have HLong := Bx.mk (fun W (h1 : Bs W dst dstb) (h2 : Bs W src srcb) => qLong_any ⟨true, ty, ver, dst, dstb, src, srcb, pn, (k : Int)⟩ k pb.length W rfl (by omega) (by omega) h1 h2 (by show dstb.length ≤ 20; omega) (by show srcb.length ≤ 20; omega) (by exact ho.2.1) (by show 0 ≤ ty; omega) (by show ty ≤ 3; omega) hm)
  obtain ⟨m, hml⟩ : ∃ m, pb.length = m := ⟨_, rfl⟩
  have hlp := fun tr W => (show Bs w pV pb from hp).run_len tr W
  obtain ⟨H, hH⟩ : ∃ H, pkHd ⟨true, ty, ver, dst, dstb, src, srcb, pn, (k : Int)⟩ k (k + pb.length) = H := ⟨_, rfl⟩
  rw [hH]
  rw [hml] at hlp hH hm HLong
  have HHe := Bx.mk hH
  obtain ⟨h, hh⟩ : ∃ h, H.length = h := ⟨_, rfl⟩
  have hhB : h ≤ 100 := by
    rw [← hh, ← hH]
    unfold pkHd lhB
    simp only [if_true, List.length_cons, List.length_append, bes_len]
    have := varB_len8 (k + m)
    omega
  obtain ⟨u, hu⟩ : ∃ u, h + k = u := ⟨_, rfl⟩
  obtain ⟨L, hL⟩ : ∃ L, u + m = L := ⟨_, rfl⟩
  have u0 : (h : Int) + (k : Int) = (u : Int) := by omega
  have l0 : (u : Int) + (m : Int) = (L : Int) := by omega
  have hXL : (H ++ bes (pn : Int) k ++ pb).length = L := by simp only [List.length_append, bes_len, hh, hml]; omega
  obtain ⟨X, hX⟩ : ∃ X, H ++ bes (pn : Int) k ++ pb = X := ⟨_, rfl⟩
  rw [hX] at hXL
  obtain ⟨R, hR⟩ : ∃ R, (if X.length ≤ 1200 then some X else none) = R := ⟨_, rfl⟩
  change Calls _ _ _ _ (PkWPost w (if (H ++ bes (pn : Int) k ++ pb).length ≤ 1200 then some (H ++ bes (pn : Int) k ++ pb) else none))
  rw [hX, hR]
  rw [hXL] at hR
  have HX := Bx.mk hX
  have HR := Bx.mk hR
  have HD := Bx.mk hd
  have HS := Bx.mk hs
  have HP := Bx.mk hp
  have HHL : Bx (H.length = h ∧ h ≤ 100) := ⟨hh, hhB⟩
  have HK : Bx (1 ≤ k ∧ k ≤ 4 ∧ m ≤ 50000 ∧ pb.length = m) := ⟨by omega, by omega, hm, hml⟩
  have HPN : Bx (pn < 18446744073709551616) := ⟨ho.2.2.1⟩
  have hu9 : u < 100000 := by omega
  have hL9 : L < 100000 := by omega
  have hzz : (L ≤ 1200 ∧ decide (1200 < (L : Int)) = false ∧ decide (1200 < L) = false) ∨ (¬ L ≤ 1200 ∧ decide (1200 < (L : Int)) = true ∧ decide (1200 < L) = true) := by
    by_cases hz : L ≤ 1200
    · exact .inl ⟨hz, decide_eq_false (by omega), decide_eq_false (by omega)⟩
    · exact .inr ⟨hz, decide_eq_true (by omega), decide_eq_true (by omega)⟩
  have u1 : wrap64 (u : Int) = (u : Int) := w64s u hu9
  have l1 : wrap64 (L : Int) = (L : Int) := w64s L hL9
  have SQ : Bx (Sb 38 (w.alloc (.cells #[.bool true, .int .i64 ty, .int .u32 (ver : Int), dst, src, .int .u64 (pn : Int), .int .i64 (k : Int)] 38)) w.heap.size #[.bool true, .int .i64 ty, .int .u32 (ver : Int), dst, src, .int .u64 (pn : Int), .int .i64 (k : Int)]) := ⟨Sb.new _ w _⟩
  have HB0 : Bx (Below w.heap.size w (w.alloc (.cells #[.bool true, .int .i64 ty, .int .u32 (ver : Int), dst, src, .int .u64 (pn : Int), .int .i64 (k : Int)] 38))) := ⟨(Below.refl _ _).alloc (Nat.le_refl _) _⟩
  obtain ⟨x0, x1, x2, x3, x4, x5, x6⟩ := hdcE SQ.out
  clear ho hd hs hp hm hg g1 g2 g3 g4 hH hh hhB hu hL hXL hX hR hml hu9 hL9
  rcases hzz with ⟨hz, f9, f9n⟩ | ⟨hz, f9, f9n⟩
  · have HRs : Bx (R = some X) := ⟨by have := HR.out; rw [if_pos hz] at this; exact this.symm⟩
    clear hz
    change Calls _ _ #[.agg #[.bool true, .int .i64 ty, .int .u32 (ver : Int), dst, src, .int .u64 (pn : Int), .int .i64 (k : Int)], pV] _ _
    go_enter Try.func28, Try.ntmps28
    go_wp2_with (first
      | (go_at_call 59
         refine (HGood.out _ (HD.out.keep HB0.out) (HS.out.keep HB0.out)).mono ?_
         rintro e W1 ⟨rfl, b1⟩
         have HB1 := Bx.mk (HB0.out.trans (b1.mono HB0.out.size))
         have HS1 := Bx.mk (SQ.out.keep b1)
         obtain ⟨y0, y1, y2, y3, y4, y5, y6⟩ := hdcE HS1.out
         clear b1)
      | (go_at_call 60
         refine (HShort.out _ (HD.out.keep HB1.out) (HS.out.keep HB1.out)).mono ?_
         rintro e W2 ⟨v2, rfl, h2, b2⟩
         have HB2 := Bx.mk (HB1.out.trans (b2.mono HB1.out.size))
         have HS2 := Bx.mk (HS1.out.keep b2)
         obtain ⟨z0, z1, z2, z3, z4, z5, z6⟩ := hdcE HS2.out
         clear h2 b2)
      | (go_at_call 61
         refine (HLong.out _ (HD.out.keep HB2.out) (HS.out.keep HB2.out)).mono ?_
         rintro e W3 ⟨v3, rfl, h3, b3⟩
         have HBH := Bx.mk (HB2.out.trans (b3.mono HB2.out.size))
         have HS3 := Bx.mk (HS2.out.keep b3)
         obtain ⟨q0, q1, q2, q3, q4, q5, q6⟩ := hdcE HS3.out
         have HPH : Bx (ApB W3 w.heap.size v3 H) := ⟨by rw [← HHe.out]; exact Ap.mono h3 HB2.out.size⟩
         have hlH := fun tr W => (show Bs W3 v3 H from Ap.rd HPH.out).run_len tr W
         rw [HHL.out.1] at hlH
         clear h3 b3)
      | (go_at_call 62
         clear u0 u1 l0 l1
         refine (big_any _ H (pn : Int) (k : Int) _ (Ap.rd HPH.out) (by have := HHL.out; omega) (by omega) (by have := HPN.out; omega)).mono ?_
         rintro e W4 ⟨v4, rfl, h4, b4⟩
         have HB4 := Bx.mk (HBH.out.trans (b4.mono HBH.out.size))
         have HP4 : Bx (ApB W4 w.heap.size v4 (H ++ bes (pn : Int) k)) := ⟨by
           rw [show (min (max (k : Int) 0) 8).toNat = k by have := HK.out; omega] at h4
           exact Ap.mono h4 HBH.out.size⟩
         clear h4 b4)
      | (at_builtin
         refine wpList_append_apn _ rfl _ _ 36 rfl w.heap.size i0 (.int .u8 0) 1 Try.underlying36 Hi.out Hz.out Hz1.out Hz2.out rfl v4 pV ((H ++ bes (pn : Int) k).map bv) (pb.map bv) rfl rfl HP4.out (HP.out.keep HB4.out) one_bv (by have := HHL.out; have := HK.out; simp [bes_len]; omega) (by have := HHL.out; have := HK.out; simp [bes_len]; unfold maxLen; omega) HB4.out.size ?_
         intro v5 w5 h5 b5 n5
         have HP5 : Bx (ApB w5 w.heap.size v5 X) := ⟨by rw [← HX.out]; unfold ApB; rw [List.map_append]; exact h5⟩
         have HB5 := Bx.mk (HB4.out.trans b5)
         clear h5 b5 n5))
    go_ret2
    rw [HRs.out]
    exact ⟨v5, rfl, HP5.out, HB5.out⟩
  · have HRs : Bx (R = none) := ⟨by have := HR.out; rw [if_neg hz] at this; exact this.symm⟩
    clear hz
    change Calls _ _ #[.agg #[.bool true, .int .i64 ty, .int .u32 (ver : Int), dst, src, .int .u64 (pn : Int), .int .i64 (k : Int)], pV] _ _
    go_enter Try.func28, Try.ntmps28
    go_wp2_with (first
      | (go_at_call 59
         refine (HGood.out _ (HD.out.keep HB0.out) (HS.out.keep HB0.out)).mono ?_
         rintro e W1 ⟨rfl, b1⟩
         have HB1 := Bx.mk (HB0.out.trans (b1.mono HB0.out.size))
         have HS1 := Bx.mk (SQ.out.keep b1)
         obtain ⟨y0, y1, y2, y3, y4, y5, y6⟩ := hdcE HS1.out
         clear b1)
      | (go_at_call 60
         refine (HShort.out _ (HD.out.keep HB1.out) (HS.out.keep HB1.out)).mono ?_
         rintro e W2 ⟨v2, rfl, h2, b2⟩
         have HB2 := Bx.mk (HB1.out.trans (b2.mono HB1.out.size))
         have HS2 := Bx.mk (HS1.out.keep b2)
         obtain ⟨z0, z1, z2, z3, z4, z5, z6⟩ := hdcE HS2.out
         clear h2 b2)
      | (go_at_call 61
         refine (HLong.out _ (HD.out.keep HB2.out) (HS.out.keep HB2.out)).mono ?_
         rintro e W3 ⟨v3, rfl, h3, b3⟩
         have HBH := Bx.mk (HB2.out.trans (b3.mono HB2.out.size))
         have HS3 := Bx.mk (HS2.out.keep b3)
         obtain ⟨q0, q1, q2, q3, q4, q5, q6⟩ := hdcE HS3.out
         have HPH : Bx (ApB W3 w.heap.size v3 H) := ⟨by rw [← HHe.out]; exact Ap.mono h3 HB2.out.size⟩
         have hlH := fun tr W => (show Bs W3 v3 H from Ap.rd HPH.out).run_len tr W
         rw [HHL.out.1] at hlH
         clear h3 b3)
      | (go_at_call 62
         clear u0 u1 l0 l1
         refine (big_any _ H (pn : Int) (k : Int) _ (Ap.rd HPH.out) (by have := HHL.out; omega) (by omega) (by have := HPN.out; omega)).mono ?_
         rintro e W4 ⟨v4, rfl, h4, b4⟩
         have HB4 := Bx.mk (HBH.out.trans (b4.mono HBH.out.size))
         have HP4 : Bx (ApB W4 w.heap.size v4 (H ++ bes (pn : Int) k)) := ⟨by
           rw [show (min (max (k : Int) 0) 8).toNat = k by have := HK.out; omega] at h4
           exact Ap.mono h4 HBH.out.size⟩
         clear h4 b4)
      | (at_builtin
         refine wpList_append_apn _ rfl _ _ 36 rfl w.heap.size i0 (.int .u8 0) 1 Try.underlying36 Hi.out Hz.out Hz1.out Hz2.out rfl v4 pV ((H ++ bes (pn : Int) k).map bv) (pb.map bv) rfl rfl HP4.out (HP.out.keep HB4.out) one_bv (by have := HHL.out; have := HK.out; simp [bes_len]; omega) (by have := HHL.out; have := HK.out; simp [bes_len]; unfold maxLen; omega) HB4.out.size ?_
         intro v5 w5 h5 b5 n5
         have HP5 : Bx (ApB w5 w.heap.size v5 X) := ⟨by rw [← HX.out]; unfold ApB; rw [List.map_append]; exact h5⟩
         have HB5 := Bx.mk (HB4.out.trans b5)
         clear h5 b5 n5))
    go_ret2
    rw [HRs.out]
    exact ⟨rfl, HBH.out⟩
end Go.Proofs.Ytcakppdabolfiaa
