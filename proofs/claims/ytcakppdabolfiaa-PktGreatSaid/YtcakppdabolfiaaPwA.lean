/-
  Packets: the document's Write (written by mkpwa.py).
-/
import Derived.Test.YtcakppdabolfiaaPkMath
import Derived.Test.YtcakppdabolfiaaRwHeader
import Derived.Test.YtcakppdabolfiaaWqV
import Derived.Test.YtcakppdabolfiaaSbW
import Derived.Test.YtcakppdabolfiaaSlice
import Derived.Test.YtcakppdabolfiaaDnStep
import Derived.Deep.RegionLaw
import Derived.Deep.CutBlock
import Derived.BigRegion
import Derived.Handy
namespace Go.Proofs.Ytcakppdabolfiaa
open Go.RowKit
set_option linter.unusedVariables false
set_option linter.unusedSimpArgs false
theorem infoU8pw : (Try.prog.info? 5).map (fun i => (i.zero, i.size, i.bytes)) = some (some (.int .u8 0), 1, 1) := by kernel_rfl
/-- The head that is meant. -/
def phM (a : Hdr) : PH := ⟨a.long, a.ty, a.ver, a.dstb, a.srcb, a.pn, a.pl⟩
def hdA (a : Hdr) : Array Value := #[.bool a.long, .int .i64 a.ty, .int .u32 (a.ver : Int), a.dst, a.src, .int .u64 (a.pn : Int), .int .i64 a.pl]
theorem hdA_eq (a : Hdr) : (hdvl a).toArray = hdA a := rfl
theorem nonB_hd {w w' : World} {g : Nat} {cs : Array Value} (h : NonB w w') (hs : Sb 38 w g cs) : Sb 38 w' g cs := h.fb hs (by decide)
/-- The cells of a head that lies in a block of its own. -/
structure HdC (w : World) (g : Nat) (a : Hdr) : Prop where
  c0 : w.cell? ⟨g, 0, none⟩ = some (.bool a.long)
  c1 : w.cell? ⟨g, 1, none⟩ = some (.int .i64 a.ty)
  c2 : w.cell? ⟨g, 2, none⟩ = some (.int .u32 (a.ver : Int))
  c3 : w.cell? ⟨g, 3, none⟩ = some a.dst
  c4 : w.cell? ⟨g, 4, none⟩ = some a.src
  c5 : w.cell? ⟨g, 5, none⟩ = some (.int .u64 (a.pn : Int))
  c6 : w.cell? ⟨g, 6, none⟩ = some (.int .i64 a.pl)
theorem Sb.hdc {w : World} {g : Nat} {a : Hdr} (h : Sb 38 w g (hdA a)) : HdC w g a := ⟨h.cell 0, h.cell 1, h.cell 2, h.cell 3, h.cell 4, h.cell 5, h.cell 6⟩
/-- What Write answers. -/
def PkWPost (w : World) : Option (List UInt8) → Ending → World → Prop
  | some x, e, w' => ∃ v', e = .returned (.tuple #[v', .int .i64 0]) ∧ ApB w' w.heap.size v' x ∧ Below w.heap.size w w'
  | none, e, w' => e = .returned (.tuple #[.slice none 0 0, .int .i64 40]) ∧ Below w.heap.size w w'
theorem Rd.litP (w : World) (g : Nat) (hg : w.heap.size = g) (e : TypeId) (cs : Array Value) (n : Nat) (hn : cs.size = n) (hm : n ≤ maxLen) : Rd (w.alloc (.cells cs e)) (.slice (some ⟨g, 0, none⟩) n n) cs.toList := by
  subst hg; exact Rd.lit w e cs n hn hm
theorem i64s (c : Nat) (h : c < 100000) : IntKind.i64.wrap (c : Int) = (c : Int) := by rw [IntKind.wrap_i64]; omega
theorem w64s (c : Nat) (h : c < 100000) : wrap64 (c : Int) = (c : Int) := by unfold wrap64; omega
theorem u64s (c : Nat) (h : c < 100000) : IntKind.u64.wrap (c : Int) = (c : Int) := IntWalk.u64_in _ ⟨by omega, by omega⟩
theorem u64v (c : Nat) (h : c < 4294967296) : IntKind.u64.wrap (c : Int) = (c : Int) := IntWalk.u64_in _ ⟨by omega, by omega⟩
theorem u8s (c : Nat) (h : c < 256) : IntKind.u8.wrap (c : Int) = (c : Int) := IntWalk.u8_in _ ⟨by omega, by omega⟩
theorem bv_ofNat (c : Nat) (h : c < 256) : bv (UInt8.ofNat c) = .int .u8 (c : Int) := by unfold bv; rw [UInt8.toNat_ofNat']; congr 2; omega
theorem i64_or_p (a b : Nat) (ha : a < 9223372036854775808) (hb : b < 9223372036854775808) : bits .or .i64 (a : Int) (b : Int) = ((a ||| b : Nat) : Int) := by
  have hx : a ||| b < 2 ^ 63 := Nat.or_lt_two_pow (by omega) (by omega)
  show IntKind.i64.wrap ((BitVec.ofInt 64 (a : Int) ||| BitVec.ofInt 64 (b : Int)).toNat : Int) = _
  rw [BitVec.toNat_or, ofInt_u64 a (by omega), ofInt_u64 b (by omega), IntKind.wrap_i64]
  omega
theorem or_tk (t k : Nat) (ht : t ≤ 3) (hk : k ≤ 15) : (192 + t * 16) ||| k = 192 + t * 16 + k := by
  have : t = 0 ∨ t = 1 ∨ t = 2 ∨ t = 3 := by omega
  rcases this with rfl | rfl | rfl | rfl
  · exact (Nat.two_pow_add_eq_or_of_lt (i := 4) (b := k) (by omega) 12).symm
  · exact (Nat.two_pow_add_eq_or_of_lt (i := 4) (b := k) (by omega) 13).symm
  · exact (Nat.two_pow_add_eq_or_of_lt (i := 4) (b := k) (by omega) 14).symm
  · exact (Nat.two_pow_add_eq_or_of_lt (i := 4) (b := k) (by omega) 15).symm
theorem or_t (t : Nat) (ht : t ≤ 3) : 192 ||| t * 16 = 192 + t * 16 := by
  have : t = 0 ∨ t = 1 ∨ t = 2 ∨ t = 3 := by omega
  rcases this with rfl | rfl | rfl | rfl <;> rfl
theorem or_64 (k : Nat) (hk : k ≤ 15) : 64 ||| k = 64 + k := (Nat.two_pow_add_eq_or_of_lt (i := 4) (b := k) (by omega) 4).symm
theorem bv_seg (L0 Lb : List UInt8) (c : UInt8) (V : Value) (h : bv c = V) : (L0 ++ (c :: Lb)).map bv = (L0.map bv ++ [V]) ++ Lb.map bv := by
  rw [List.map_append, List.map_cons, h, List.append_assoc]; rfl
theorem shr_pk (pn k : Nat) : (pn : Int) / 2 ^ (8 * k) = ((pn / 256 ^ k : Nat) : Int) := by
  rw [show (256 : Nat) = 2 ^ 8 from rfl, ← Nat.pow_mul, Int.natCast_ediv]
  norm_cast
theorem shift_pk (pn k : Nat) (hk : k ≤ 4) : Op.shift .shr .u64 (pn : Int) .i64 (8 * (k : Int)) = pure (.int .u64 ((pn / 256 ^ k : Nat) : Int)) := by
  refine (shift_shr_any .u64 .i64 (pn : Int) (8 * (k : Int)) (by omega)).trans ?_
  rw [show min (8 * (k : Int)).toNat IntKind.u64.bits = 8 * k from by show min _ 64 = _; omega, shr_pk pn k]
set_option maxRecDepth 100000 in
set_option maxHeartbeats 4000000 in
theorem refPkW_bad (a : Hdr) (pV : Value) (pb : List UInt8) (w : World) (ho : hdOk a) (hd : Bs w a.dst a.dstb) (hs : Bs w a.src a.srcb) (hp : Bs w pV pb) (hbad : ¬ (1 ≤ a.pl ∧ a.pl ≤ 4 ∧ a.pn < 256 ^ a.pl.toNat ∧ pb.length ≤ 1200)) :
    Calls Try.prog 25 #[.agg (hdA a), pV] w (PkWPost w (pkW (phM a) pb)) := by
  obtain ⟨i0, hi, hz, hz1, hz2⟩ := info_parts infoU8pw
  have Hi := Lib.hid hi
  have Hz := Lib.hid hz
  have Hz1 := Lib.hid hz1
  have Hz2 := Lib.hid hz2
  clear hi hz hz1 hz2
  have SQ : Bx (Sb 38 (w.alloc (.cells (hdA a) 38)) w.heap.size (hdA a)) := ⟨Sb.new _ w _⟩
  have p0 : (w.alloc (.cells (hdA a) 38)).cell? ⟨w.heap.size, 0, none⟩ = some (.bool a.long) := SQ.out.cell 0
  have p1 : (w.alloc (.cells (hdA a) 38)).cell? ⟨w.heap.size, 1, none⟩ = some (.int .i64 a.ty) := SQ.out.cell 1
  have p2 : (w.alloc (.cells (hdA a) 38)).cell? ⟨w.heap.size, 2, none⟩ = some (.int .u32 (a.ver : Int)) := SQ.out.cell 2
  have p3 : (w.alloc (.cells (hdA a) 38)).cell? ⟨w.heap.size, 3, none⟩ = some a.dst := SQ.out.cell 3
  have p4 : (w.alloc (.cells (hdA a) 38)).cell? ⟨w.heap.size, 4, none⟩ = some a.src := SQ.out.cell 4
  have p5 : (w.alloc (.cells (hdA a) 38)).cell? ⟨w.heap.size, 5, none⟩ = some (.int .u64 (a.pn : Int)) := SQ.out.cell 5
  have p6 : (w.alloc (.cells (hdA a) 38)).cell? ⟨w.heap.size, 6, none⟩ = some (.int .i64 a.pl) := SQ.out.cell 6
  have hlp := fun tr W => (show Bs w pV pb from hp).run_len tr W
  have hld := fun tr W => (show Bs w a.dst a.dstb from hd).run_len tr W
  have hls := fun tr W => (show Bs w a.src a.srcb from hs).run_len tr W
  obtain ⟨m, hm⟩ : ∃ n, pb.length = n := ⟨_, rfl⟩
  obtain ⟨d, hdl⟩ : ∃ n, a.dstb.length = n := ⟨_, rfl⟩
  obtain ⟨s, hsl⟩ : ∃ n, a.srcb.length = n := ⟨_, rfl⟩
  rw [hm] at hlp
  rw [hdl] at hld
  rw [hsl] at hls
  obtain ⟨A, hA⟩ : ∃ A, hdA a = A := ⟨_, rfl⟩
  have hW : pkW (phM a) pb = none := by
    unfold pkW phM
    simp only
    rw [if_neg hbad]
  rw [hW]
  rw [hA] at p0 p1 p2 p3 p4 p5 p6 ⊢
  clear SQ hA hW
  unfold hdOk at ho
  rw [hm] at hbad
  by_cases h1 : a.pl < 1
  · have f1 : decide (a.pl < 1) = true := decide_eq_true h1
    clear hbad h1 ho hm hdl hsl
    go_enter Try.func25, Try.ntmps25
    go_wp2_with fail
    go_ret2
    exact ⟨rfl, (Below.refl _ _).alloc (Nat.le_refl _) _⟩
  have f1 : decide (a.pl < 1) = false := decide_eq_false h1
  by_cases h2 : 4 < a.pl
  · have f2 : decide (4 < a.pl) = true := decide_eq_true h2
    clear hbad h1 h2 ho hm hdl hsl
    go_enter Try.func25, Try.ntmps25
    go_wp2_with fail
    go_ret2
    exact ⟨rfl, (Below.refl _ _).alloc (Nat.le_refl _) _⟩
  have f2 : decide (4 < a.pl) = false := decide_eq_false h2
  obtain ⟨k, hk⟩ := Int.eq_ofNat_of_zero_le (show 0 ≤ a.pl by omega)
  have e1 : wrap64 (8 * (k : Int)) = ((8 * k : Nat) : Int) := by unfold wrap64; omega
  have e2 : IntKind.i64.wrap (8 * (k : Int)) = ((8 * k : Nat) : Int) := by rw [IntKind.wrap_i64]; omega
  have e3 := shift_pk a.pn k (by omega)
  obtain ⟨q, hq⟩ : ∃ q, a.pn / 256 ^ k = q := ⟨_, rfl⟩
  rw [hq] at e3
  rw [hk] at p6 f1 f2
  by_cases h3 : q = 0
  · have h4 : 1200 < m := by
      by_cases h4 : m ≤ 1200
      · exfalso
        refine hbad ⟨by omega, by omega, ?_, h4⟩
        rw [hk, Int.toNat_natCast]
        rcases Nat.div_eq_zero_iff.1 (hq.trans h3) with h | h
        · exact absurd h (by have := Nat.pow_pos (n := k) (show 0 < 256 by omega); omega)
        · exact h
      · omega
    have f3 : decide (1200 < (m : Int)) = true := decide_eq_true (by omega)
    subst h3
    have e4 : ((0 : Nat) : Int) = 0 := rfl
    rw [e4] at e3
    clear hbad h1 h2 ho hm hdl hsl hk hq h4 e4
    go_enter Try.func25, Try.ntmps25
    go_wp2_with fail
    go_ret2
    exact ⟨rfl, (Below.refl _ _).alloc (Nat.le_refl _) _⟩
  · have f3 : ((q : Int) == 0) = false := by rw [beq_eq_false_iff_ne]; omega
    have f4 : ¬ (q : Int) = 0 := by omega
    clear hbad h1 h2 ho hm hdl hsl hk hq h3
    go_enter Try.func25, Try.ntmps25
    go_wp2_with fail
    go_ret2
    exact ⟨rfl, (Below.refl _ _).alloc (Nat.le_refl _) _⟩
set_option maxRecDepth 100000 in
set_option maxHeartbeats 4000000 in
theorem refPkW_short (a : Hdr) (pV : Value) (pb : List UInt8) (w : World) (ho : hdOk a) (hd : Bs w a.dst a.dstb) (hs : Bs w a.src a.srcb) (hp : Bs w pV pb) (hgood : 1 ≤ a.pl ∧ a.pl ≤ 4 ∧ a.pn < 256 ^ a.pl.toNat ∧ pb.length ≤ 1200) (hlo : a.long = false) :
    Calls Try.prog 25 #[.agg (hdA a), pV] w (PkWPost w (pkW (phM a) pb)) := by
  obtain ⟨i0, hi, hz, hz1, hz2⟩ := info_parts infoU8pw
  have Hi := Lib.hid hi
  have Hz := Lib.hid hz
  have Hz1 := Lib.hid hz1
  have Hz2 := Lib.hid hz2
  clear hi hz hz1 hz2
  have SQ : Bx (Sb 38 (w.alloc (.cells (hdA a) 38)) w.heap.size (hdA a)) := ⟨Sb.new _ w _⟩
  have p0 : (w.alloc (.cells (hdA a) 38)).cell? ⟨w.heap.size, 0, none⟩ = some (.bool a.long) := SQ.out.cell 0
  have p1 : (w.alloc (.cells (hdA a) 38)).cell? ⟨w.heap.size, 1, none⟩ = some (.int .i64 a.ty) := SQ.out.cell 1
  have p2 : (w.alloc (.cells (hdA a) 38)).cell? ⟨w.heap.size, 2, none⟩ = some (.int .u32 (a.ver : Int)) := SQ.out.cell 2
  have p3 : (w.alloc (.cells (hdA a) 38)).cell? ⟨w.heap.size, 3, none⟩ = some a.dst := SQ.out.cell 3
  have p4 : (w.alloc (.cells (hdA a) 38)).cell? ⟨w.heap.size, 4, none⟩ = some a.src := SQ.out.cell 4
  have p5 : (w.alloc (.cells (hdA a) 38)).cell? ⟨w.heap.size, 5, none⟩ = some (.int .u64 (a.pn : Int)) := SQ.out.cell 5
  have p6 : (w.alloc (.cells (hdA a) 38)).cell? ⟨w.heap.size, 6, none⟩ = some (.int .i64 a.pl) := SQ.out.cell 6
  have hlp := fun tr W => (show Bs w pV pb from hp).run_len tr W
  have hld := fun tr W => (show Bs w a.dst a.dstb from hd).run_len tr W
  have hls := fun tr W => (show Bs w a.src a.srcb from hs).run_len tr W
  obtain ⟨m, hm⟩ : ∃ n, pb.length = n := ⟨_, rfl⟩
  obtain ⟨d, hdl⟩ : ∃ n, a.dstb.length = n := ⟨_, rfl⟩
  obtain ⟨s, hsl⟩ : ∃ n, a.srcb.length = n := ⟨_, rfl⟩
  rw [hm] at hlp
  rw [hdl] at hld
  rw [hsl] at hls
  obtain ⟨A, hA⟩ : ∃ A, hdA a = A := ⟨_, rfl⟩
  have hW : pkW (phM a) pb = (pkHead (phM a) pb.length).bind fun b => if (b ++ bes (a.pn : Int) a.pl.toNat ++ pb).length ≤ 1200 then some (b ++ bes (a.pn : Int) a.pl.toNat ++ pb) else none := by
    unfold pkW phM
    simp only
    rw [if_pos hgood]
  rw [hW]
  unfold hdOk at ho
  obtain ⟨g1, g2, g3, g4⟩ := hgood
  rw [hm] at g4
  obtain ⟨k, hk⟩ := Int.eq_ofNat_of_zero_le (show 0 ≤ a.pl by omega)
  rw [hk, Int.toNat_natCast] at g3
  have hq : a.pn / 256 ^ k = 0 := Nat.div_eq_of_lt g3
  have e3 := shift_pk a.pn k (by omega)
  rw [hq, show ((0 : Nat) : Int) = 0 from rfl] at e3
  have hw8 : wrap64 (8 * (k : Int)) = 8 * (k : Int) := by unfold wrap64; omega
  have f1 : decide ((k : Int) < 1) = false := decide_eq_false (by omega)
  have f2 : decide (4 < (k : Int)) = false := decide_eq_false (by omega)
  have f1n : decide (k < 1) = false := decide_eq_false (by omega)
  have f2n : decide (4 < k) = false := decide_eq_false (by omega)
  have f3 : decide (1200 < (m : Int)) = false := decide_eq_false (by omega)
  have f3n : decide (1200 < m) = false := decide_eq_false (by omega)
  have hKB : Bx (1 ≤ k ∧ k ≤ 4 ∧ m ≤ 1200 ∧ a.pn < 18446744073709551616) := ⟨by omega, by omega, g4, ho.2.2.1⟩
  have HPB := Bx.mk hp
  have HDB0 := Bx.mk hd
  have HSB0 := Bx.mk hs
  have HM := Bx.mk hm
  have HDL := Bx.mk hdl
  have HSL := Bx.mk hsl
  rw [hk, Int.toNat_natCast]
  rw [hk] at p6
  rw [hA] at p0 p1 p2 p3 p4 p5 p6 SQ ⊢
  have SQ2 : Bx (Sb 38 (w.alloc (.cells A 38)) w.heap.size (hdA a)) := ⟨by rw [hA]; exact SQ.out⟩
  have HDK : Bx (a.pl = (k : Int)) := ⟨hk⟩
  clear SQ hW hA hq g1 g2 g3 g4 hp hd hs hm
  have hH : pkHead (phM a) pb.length = if a.dstb.length = 8 then some (UInt8.ofNat (64 + (k - 1)) :: a.dstb) else none := by
    unfold pkHead phM
    simp only [hlo, Bool.false_eq_true, if_false]
    rw [HDK.out, Int.toNat_natCast]
  rw [hH, hdl]
  rw [hlo] at p0
  clear hH hdl hsl hlo hk ho
  by_cases h8 : d = 8
  · have f8 : ((d : Int) == 8) = true := by rw [beq_iff_eq]; omega
    have f8e : (d : Int) = 8 := by omega
    have hD8 : Bx (d = 8) := ⟨h8⟩
    rw [if_pos h8]
    simp only [Option.bind_some]
    obtain ⟨c, hc⟩ : ∃ c, 64 + (k - 1) = c := ⟨_, rfl⟩
    rw [hc]
    have HCl : Bx (c < 256) := ⟨by have := hKB.out; omega⟩
    have hor : bits .or .i64 64 (k : Int) = ((64 + k : Nat) : Int) := by
      have hk4 := hKB.out.2.1
      rw [show (64 : Int) = ((64 : Nat) : Int) from rfl, i64_or_p _ _ (by decide) (by omega), or_64 k (by omega)]
    obtain ⟨u, hu⟩ : ∃ u : Nat, 64 + k = u := ⟨_, rfl⟩
    rw [hu] at hor
    have y1 : wrap64 ((u : Int) - 1) = (c : Int) := by have := hKB.out; unfold wrap64; omega
    have y2 : IntKind.i64.wrap ((u : Int) - 1) = (c : Int) := by have := hKB.out; rw [IntKind.wrap_i64]; omega
    have y0 : (u : Int) - 1 = (c : Int) := by have := hKB.out; omega
    have y4 : IntKind.i64.wrap (c : Int) = (c : Int) := by have := HCl.out; rw [IntKind.wrap_i64]; omega
    have y3 : IntKind.u8.wrap (c : Int) = (c : Int) := IntWalk.u8_in _ ⟨by omega, by have := HCl.out; omega⟩
    have HCBc : Bx (bv (UInt8.ofNat c) = .int .u8 (c : Int)) := ⟨by unfold bv; rw [UInt8.toNat_ofNat']; congr 2; have := HCl.out; omega⟩
    obtain ⟨X, hX⟩ : ∃ X, UInt8.ofNat c :: a.dstb ++ bes (a.pn : Int) k ++ pb = X := ⟨_, rfl⟩
    have hXl : X.length = 9 + k + m := by rw [← hX]; simp [HM.out, HDL.out, hD8.out, bes_len]; omega
    rw [hX]
    have HX := Bx.mk hX
    obtain ⟨L, hL⟩ : ∃ L, 9 + k + m = L := ⟨_, rfl⟩
    rw [hL] at hXl
    obtain ⟨R, hR⟩ : ∃ R, (if X.length ≤ 1200 then some X else none) = R := ⟨_, rfl⟩
    rw [hR]
    rw [hXl] at hR
    have HR := Bx.mk hR
    clear hX hc hu h8 hR hL
    go_enter Try.func25, Try.ntmps25
    go_upto_region 14 with fail
    generalize hW0 : w.alloc (.cells A 38) = W0
    have SQ3 : Bx (Sb 38 W0 w.heap.size (hdA a)) := ⟨by rw [← hW0]; exact SQ2.out⟩
    have HB1 : Bx (Below w.heap.size w W0.drew) := ⟨by rw [← hW0]; exact ((Below.refl _ _).alloc (Nat.le_refl _) _).drew⟩
    have HN1 : Bx (NonB W0 W0.drew) := ⟨NonB.drew _⟩
    have HP1 : Bx (ApB W0.drew w.heap.size (.slice none 0 0) []) := ⟨Ap.nil _ _ _⟩
    clear p0 p1 p2 p3 p4 p5 p6 hW0
    have HB2 : Bx (w.heap.size ≤ W0.drew.heap.size) := ⟨HB1.out.size⟩
    have m3 : ∀ W, Below w.heap.size W0.drew W ∧ NonB W0.drew W → W.cell? ⟨w.heap.size, 3, none⟩ = some a.dst := fun W h => (nonB_hd h.2 (nonB_hd HN1.out SQ3.out)).hdc.c3
    have m6 : ∀ W, Below w.heap.size W0.drew W ∧ NonB W0.drew W → W.cell? ⟨w.heap.size, 6, none⟩ = some (.int .i64 (k : Int)) := fun W h => by rw [← HDK.out]; exact (nonB_hd h.2 (nonB_hd HN1.out SQ3.out)).hdc.c6
    refine wp_region_x 11 (fun W => Below w.heap.size W0.drew W ∧ NonB W0.drew W) (by kernel_rfl) (⟨Below.refl _ _, NonB.refl _⟩) (fun hHeld => ?_)
    refine wpAnyX_take0 (i := 0) (oi := ⟨some 103, Op.move (Operand.tmp 6), 36, _, _, none⟩) (v := ?v0q14) rfl (by omega) (by kernel_rfl) (by kernel_rfl) (by kernel_rfl) (fun _ _ _ h => h) (Or.inl ⟨by rfl, ?y0q14⟩) (by assumption) ?r0q14
    case y0q14 =>
      intro W hSw
      try dsimp only at hSw
      go_simp
      try with_reducible rfl
    case r0q14 =>
    try simp only [Act.put, List.setIfInBounds_toArray, List.set_cons_zero, List.set_cons_succ]
    refine wpAnyX_take0 (i := 1) (oi := ⟨some 104, Op.fieldAddr 38 (Operand.tmp 2) 6, 0, _, _, none⟩) (v := ?v1q14) rfl (by omega) (by kernel_rfl) (by kernel_rfl) (by kernel_rfl) (fun _ _ _ h => h) (Or.inl ⟨by rfl, ?y1q14⟩) (by assumption) ?r1q14
    case y1q14 =>
      intro W hSw
      try dsimp only at hSw
      go_simp
      try with_reducible rfl
    case r1q14 =>
    try simp only [Act.put, List.setIfInBounds_toArray, List.set_cons_zero, List.set_cons_succ]
    refine wpAnyX_take (i := 2) (oi := ⟨some 105, Op.load 3 (Operand.tmp 104), 3, _, _, none⟩) (v := ?v2q14) rfl (by omega) (by kernel_rfl) (by kernel_rfl) (by kernel_rfl) (by kernel_rfl) (by kernel_rfl) (fun _ _ _ h => h) (Or.inl ⟨by rfl, ?y2q14⟩) (by assumption) ?r2q14
    case y2q14 =>
      intro W hSw
      try dsimp only at hSw
      go_simp
      try with_reducible rfl
    case r2q14 =>
    try simp only [Act.put, List.setIfInBounds_toArray, List.set_cons_zero, List.set_cons_succ]
    refine wpAnyX_take0 (i := 3) (oi := ⟨some 106, Op.binOp BinOp.or 3 (Operand.const (Value.int IntKind.i64 64)) (Operand.tmp 105) 3, 3, _, _, none⟩) (v := ?v3q14) rfl (by omega) (by kernel_rfl) (by kernel_rfl) (by kernel_rfl) (fun _ _ _ h => h) (Or.inl ⟨by rfl, ?y3q14⟩) (by assumption) ?r3q14
    case y3q14 =>
      intro W hSw
      try dsimp only at hSw
      go_simp
      try with_reducible rfl
    case r3q14 =>
    try simp only [Act.put, List.setIfInBounds_toArray, List.set_cons_zero, List.set_cons_succ]
    refine wpAnyX_take0 (i := 4) (oi := ⟨some 107, Op.binOp BinOp.sub 3 (Operand.tmp 106) (Operand.const (Value.int IntKind.i64 1)) 3, 3, _, _, none⟩) (v := ?v4q14) rfl (by omega) (by kernel_rfl) (by kernel_rfl) (by kernel_rfl) (fun _ _ _ h => h) (Or.inl ⟨by rfl, ?y4q14⟩) (by assumption) ?r4q14
    case y4q14 =>
      intro W hSw
      try dsimp only at hSw
      go_simp
      try with_reducible rfl
    case r4q14 =>
    try simp only [Act.put, List.setIfInBounds_toArray, List.set_cons_zero, List.set_cons_succ]
    refine wpAnyX_take (i := 5) (oi := ⟨some 108, Op.convert 3 5 (Operand.tmp 107), 5, _, _, none⟩) (v := ?v5q14) rfl (by omega) (by kernel_rfl) (by kernel_rfl) (by kernel_rfl) (by kernel_rfl) (by kernel_rfl) (fun _ _ _ h => h) (Or.inl ⟨by rfl, ?y5q14⟩) (by assumption) ?r5q14
    case y5q14 =>
      intro W hSw
      try dsimp only at hSw
      go_simp
      try with_reducible rfl
    case r5q14 =>
    try simp only [Act.put, List.setIfInBounds_toArray, List.set_cons_zero, List.set_cons_succ]
    refine wpAnyX_take0 (i := 8) (oi := ⟨some 111, Op.fieldAddr 38 (Operand.tmp 2) 3, 0, _, _, none⟩) (v := ?v8q14) rfl (by omega) (by kernel_rfl) (by kernel_rfl) (by kernel_rfl) (fun _ _ _ h => h) (Or.inl ⟨by rfl, ?y8q14⟩) (by assumption) ?r8q14
    case y8q14 =>
      intro W hSw
      try dsimp only at hSw
      go_simp
      try with_reducible rfl
    case r8q14 =>
    try simp only [Act.put, List.setIfInBounds_toArray, List.set_cons_zero, List.set_cons_succ]
    refine wpAnyX_take (i := 9) (oi := ⟨some 112, Op.load 36 (Operand.tmp 111), 36, _, _, none⟩) (v := ?v9q14) rfl (by omega) (by kernel_rfl) (by kernel_rfl) (by kernel_rfl) (by kernel_rfl) (by kernel_rfl) (fun _ _ _ h => h) (Or.inl ⟨by rfl, ?y9q14⟩) (by assumption) ?r9q14
    case y9q14 =>
      intro W hSw
      try dsimp only at hSw
      go_simp
      try with_reducible rfl
    case r9q14 =>
    try simp only [Act.put, List.setIfInBounds_toArray, List.set_cons_zero, List.set_cons_succ]
    refine wpAnyX_one (i := 6) (by kernel_rfl) rfl (fun K hK => ?_)
    go_simp
    refine hK _ _ (fun _ => ⟨hHeld.1.alloc HB2.out _, hHeld.2.trans (NonB.alloc _ _)⟩) ?_
    clear hK K
    try simp only [Act.put, List.setIfInBounds_toArray, List.set_cons_zero, List.set_cons_succ]
    refine wpAnyX_one (i := 7) (by kernel_rfl) rfl (fun K hK => ?_)
    refine step_append_apn rfl _ _ 36 rfl w.heap.size i0 (.int .u8 0) 1 Try.underlying36 Hi.out Hz.out Hz1.out Hz2.out rfl (.slice none 0 0) _ ((([] : List UInt8)).map bv) _ rfl rfl (HP1.out.alloc (.cells #[Value.int .u8 (c : Int)] 5)) (Rd.litP W0.drew _ rfl 5 #[Value.int .u8 (c : Int)] 1 rfl (by simp [maxLen])) (by simp [Value.oneCell']) (by have := HDL.out; have := hD8.out; simp <;> omega) (by have := HDL.out; have := hD8.out; simp <;> (unfold maxLen; omega)) (Nat.le_trans HB2.out (hHeld.1.alloc HB2.out _).size) ?_
    intro v3 w3 h3 b3 n3
    have hS3 : Below w.heap.size W0.drew w3 ∧ NonB W0.drew w3 := ⟨(hHeld.1.alloc HB2.out _).trans b3, (hHeld.2.trans (NonB.alloc _ _)).trans n3⟩
    refine hK _ _ (fun _ => hS3) ?_
    clear hK K
    try simp only [Act.put, List.setIfInBounds_toArray, List.set_cons_zero, List.set_cons_succ]
    refine wpAnyX_one (i := 10) (by kernel_rfl) rfl (fun K hK => ?_)
    refine step_append_apn rfl _ _ 36 rfl w.heap.size i0 (.int .u8 0) 1 Try.underlying36 Hi.out Hz.out Hz1.out Hz2.out rfl v3 a.dst ((([] : List UInt8)).map bv ++ [Value.int .u8 (c : Int)]) ((a.dstb).map bv) rfl rfl h3 (HDB0.out.keep (HB1.out.trans hS3.1)) one_bv (by have := HDL.out; have := hD8.out; simp <;> omega) (by have := HDL.out; have := hD8.out; simp <;> (unfold maxLen; omega)) (Nat.le_trans HB2.out hS3.1.size) ?_
    intro v4 w4 h4 b4 n4
    have HQ4 := Bx.mk h4
    have HB4 := Bx.mk ((HB1.out.trans hS3.1).trans b4)
    have HN4 := Bx.mk ((HN1.out.trans hS3.2).trans n4)
    refine hK _ _ (fun _ => ⟨hS3.1.trans b4, hS3.2.trans n4⟩) ?_
    clear h4 b4 n4
    clear hK K
    try simp only [Act.put, List.setIfInBounds_toArray, List.set_cons_zero, List.set_cons_succ]
    refine wpAnyX_one (i := 11) (by kernel_rfl) rfl (fun K hK => ?_)
    go_simp
    refine hK _ _ (fun h => absurd h (by decide)) ?_
    clear hK K
    try simp only [Act.put, List.setIfInBounds_toArray, List.set_cons_zero, List.set_cons_succ]
    refine wpAnyX_done (by kernel_rfl) ?_ _
    have HP4 : Bx (ApB w4 w.heap.size v4 (([] : List UInt8) ++ (UInt8.ofNat c :: a.dstb))) := ⟨by
      have e1 : (([] : List UInt8) ++ (UInt8.ofNat c :: a.dstb)).map bv = ((([] : List UInt8)).map bv ++ [Value.int .u8 (c : Int)]) ++ (a.dstb).map bv := bv_seg _ _ _ _ HCBc.out
      unfold ApB
      rw [e1]
      exact HQ4.out⟩
    have q5 : w4.cell? ⟨w.heap.size, 5, none⟩ = some (.int .u64 (a.pn : Int)) := (nonB_hd HN4.out SQ3.out).hdc.c5
    have q6 : w4.cell? ⟨w.heap.size, 6, none⟩ = some (.int .i64 (k : Int)) := by rw [← HDK.out]; exact (nonB_hd HN4.out SQ3.out).hdc.c6
    have hk8 : (min (max (k : Int) 0) 8).toNat = k := by have := hKB.out; omega
    have HB4s : Bx (w.heap.size ≤ w4.heap.size) := ⟨HB4.out.size⟩
    have HBig := Bx.mk (refBig_apn w.heap.size v4 (UInt8.ofNat c :: a.dstb) (a.pn : Int) (k : Int) w4 HP4.out HB4s.out (by simp; have := HDL.out; have := hD8.out; omega) (by omega) (by have := hKB.out; omega))
    rw [hk8] at HBig
    clear hk8
    by_cases hz : L ≤ 1200
    · have f9 : decide (1200 < (L : Int)) = false := decide_eq_false (by omega)
      have f9n : decide (1200 < L) = false := decide_eq_false (by omega)
      have HRs : Bx (R = some X) := ⟨by have := HR.out; rw [if_pos hz] at this; exact this.symm⟩
      clear hz
      go_wp2_with (first
        | (go_at_call 54; refine HBig.out.mono ?_; rintro e w5 ⟨v5, rfl, h5, b5, n5⟩; have HP5 := Bx.mk h5; have HB5 := Bx.mk b5; clear h5 b5 n5)
        | (at_builtin
           refine wpList_append_apn _ rfl _ _ 36 rfl w.heap.size i0 (.int .u8 0) 1 Try.underlying36 Hi.out Hz.out Hz1.out Hz2.out rfl v5 pV ((UInt8.ofNat c :: a.dstb ++ bes (a.pn : Int) k).map bv) (pb.map bv) rfl rfl HP5.out (HPB.out.keep (HB4.out.trans HB5.out)) one_bv (by simp [bes_len, HM.out, HDL.out, hD8.out]; have := hKB.out; omega) (by simp [bes_len, HM.out, HDL.out, hD8.out]; have := hKB.out; unfold maxLen; omega) (by have := HB4s.out; have := HB5.out.size; omega) ?_
           intro v6 w6 h6 b6 n6
           have HP6 : Bx (ApB w6 w.heap.size v6 X) := ⟨by unfold ApB; rw [← HX.out, List.map_append]; exact h6⟩
           have HB6 := Bx.mk ((HB4.out.trans HB5.out).trans b6)
           have hl6 := fun tr W => (show Bs w6 v6 X from Ap.rd HP6.out).run_len tr W
           rw [hXl] at hl6
           clear h6 b6 n6))
      go_ret2
      rw [HRs.out]
      exact ⟨v6, rfl, HP6.out, HB6.out⟩
    · have f9 : decide (1200 < (L : Int)) = true := decide_eq_true (by omega)
      have f9n : decide (1200 < L) = true := decide_eq_true (by omega)
      have HRs : Bx (R = none) := ⟨by have := HR.out; rw [if_neg hz] at this; exact this.symm⟩
      clear hz
      go_wp2_with (first
        | (go_at_call 54; refine HBig.out.mono ?_; rintro e w5 ⟨v5, rfl, h5, b5, n5⟩; have HP5 := Bx.mk h5; have HB5 := Bx.mk b5; clear h5 b5 n5)
        | (at_builtin
           refine wpList_append_apn _ rfl _ _ 36 rfl w.heap.size i0 (.int .u8 0) 1 Try.underlying36 Hi.out Hz.out Hz1.out Hz2.out rfl v5 pV ((UInt8.ofNat c :: a.dstb ++ bes (a.pn : Int) k).map bv) (pb.map bv) rfl rfl HP5.out (HPB.out.keep (HB4.out.trans HB5.out)) one_bv (by simp [bes_len, HM.out, HDL.out, hD8.out]; have := hKB.out; omega) (by simp [bes_len, HM.out, HDL.out, hD8.out]; have := hKB.out; unfold maxLen; omega) (by have := HB4s.out; have := HB5.out.size; omega) ?_
           intro v6 w6 h6 b6 n6
           have HP6 : Bx (ApB w6 w.heap.size v6 X) := ⟨by unfold ApB; rw [← HX.out, List.map_append]; exact h6⟩
           have HB6 := Bx.mk ((HB4.out.trans HB5.out).trans b6)
           have hl6 := fun tr W => (show Bs w6 v6 X from Ap.rd HP6.out).run_len tr W
           rw [hXl] at hl6
           clear h6 b6 n6))
      go_ret2
      rw [HRs.out]
      exact ⟨rfl, HB6.out⟩
  · have f8 : ((d : Int) == 8) = false := by rw [beq_eq_false_iff_ne]; omega
    have f8e : ¬ (d : Int) = 8 := by omega
    rw [if_neg h8]
    simp only [Option.bind_none]
    clear h8
    go_enter Try.func25, Try.ntmps25
    go_wp2_with fail
    go_ret2
    exact ⟨rfl, (Below.refl _ _).alloc (Nat.le_refl _) _⟩
set_option maxRecDepth 100000 in
set_option maxHeartbeats 4000000 in
theorem refPkW_longbad (a : Hdr) (pV : Value) (pb : List UInt8) (w : World) (ho : hdOk a) (hd : Bs w a.dst a.dstb) (hs : Bs w a.src a.srcb) (hp : Bs w pV pb) (hgood : 1 ≤ a.pl ∧ a.pl ≤ 4 ∧ a.pn < 256 ^ a.pl.toNat ∧ pb.length ≤ 1200) (hlo : a.long = true) (hbad : ¬ (0 ≤ a.ty ∧ a.ty ≤ 3 ∧ a.dstb.length ≤ 20 ∧ a.srcb.length ≤ 20)) :
    Calls Try.prog 25 #[.agg (hdA a), pV] w (PkWPost w (pkW (phM a) pb)) := by
  obtain ⟨i0, hi, hz, hz1, hz2⟩ := info_parts infoU8pw
  have Hi := Lib.hid hi
  have Hz := Lib.hid hz
  have Hz1 := Lib.hid hz1
  have Hz2 := Lib.hid hz2
  clear hi hz hz1 hz2
  have SQ : Bx (Sb 38 (w.alloc (.cells (hdA a) 38)) w.heap.size (hdA a)) := ⟨Sb.new _ w _⟩
  have p0 : (w.alloc (.cells (hdA a) 38)).cell? ⟨w.heap.size, 0, none⟩ = some (.bool a.long) := SQ.out.cell 0
  have p1 : (w.alloc (.cells (hdA a) 38)).cell? ⟨w.heap.size, 1, none⟩ = some (.int .i64 a.ty) := SQ.out.cell 1
  have p2 : (w.alloc (.cells (hdA a) 38)).cell? ⟨w.heap.size, 2, none⟩ = some (.int .u32 (a.ver : Int)) := SQ.out.cell 2
  have p3 : (w.alloc (.cells (hdA a) 38)).cell? ⟨w.heap.size, 3, none⟩ = some a.dst := SQ.out.cell 3
  have p4 : (w.alloc (.cells (hdA a) 38)).cell? ⟨w.heap.size, 4, none⟩ = some a.src := SQ.out.cell 4
  have p5 : (w.alloc (.cells (hdA a) 38)).cell? ⟨w.heap.size, 5, none⟩ = some (.int .u64 (a.pn : Int)) := SQ.out.cell 5
  have p6 : (w.alloc (.cells (hdA a) 38)).cell? ⟨w.heap.size, 6, none⟩ = some (.int .i64 a.pl) := SQ.out.cell 6
  have hlp := fun tr W => (show Bs w pV pb from hp).run_len tr W
  have hld := fun tr W => (show Bs w a.dst a.dstb from hd).run_len tr W
  have hls := fun tr W => (show Bs w a.src a.srcb from hs).run_len tr W
  obtain ⟨m, hm⟩ : ∃ n, pb.length = n := ⟨_, rfl⟩
  obtain ⟨d, hdl⟩ : ∃ n, a.dstb.length = n := ⟨_, rfl⟩
  obtain ⟨s, hsl⟩ : ∃ n, a.srcb.length = n := ⟨_, rfl⟩
  rw [hm] at hlp
  rw [hdl] at hld
  rw [hsl] at hls
  obtain ⟨A, hA⟩ : ∃ A, hdA a = A := ⟨_, rfl⟩
  have hW : pkW (phM a) pb = (pkHead (phM a) pb.length).bind fun b => if (b ++ bes (a.pn : Int) a.pl.toNat ++ pb).length ≤ 1200 then some (b ++ bes (a.pn : Int) a.pl.toNat ++ pb) else none := by
    unfold pkW phM
    simp only
    rw [if_pos hgood]
  rw [hW]
  unfold hdOk at ho
  obtain ⟨g1, g2, g3, g4⟩ := hgood
  rw [hm] at g4
  obtain ⟨k, hk⟩ := Int.eq_ofNat_of_zero_le (show 0 ≤ a.pl by omega)
  rw [hk, Int.toNat_natCast] at g3
  have hq : a.pn / 256 ^ k = 0 := Nat.div_eq_of_lt g3
  have e3 := shift_pk a.pn k (by omega)
  rw [hq, show ((0 : Nat) : Int) = 0 from rfl] at e3
  have hw8 : wrap64 (8 * (k : Int)) = 8 * (k : Int) := by unfold wrap64; omega
  have f1 : decide ((k : Int) < 1) = false := decide_eq_false (by omega)
  have f2 : decide (4 < (k : Int)) = false := decide_eq_false (by omega)
  have f1n : decide (k < 1) = false := decide_eq_false (by omega)
  have f2n : decide (4 < k) = false := decide_eq_false (by omega)
  have f3 : decide (1200 < (m : Int)) = false := decide_eq_false (by omega)
  have f3n : decide (1200 < m) = false := decide_eq_false (by omega)
  have hKB : Bx (1 ≤ k ∧ k ≤ 4 ∧ m ≤ 1200 ∧ a.pn < 18446744073709551616) := ⟨by omega, by omega, g4, ho.2.2.1⟩
  have HPB := Bx.mk hp
  have HDB0 := Bx.mk hd
  have HSB0 := Bx.mk hs
  have HM := Bx.mk hm
  have HDL := Bx.mk hdl
  have HSL := Bx.mk hsl
  rw [hk, Int.toNat_natCast]
  rw [hk] at p6
  rw [hA] at p0 p1 p2 p3 p4 p5 p6 SQ ⊢
  have SQ2 : Bx (Sb 38 (w.alloc (.cells A 38)) w.heap.size (hdA a)) := ⟨by rw [hA]; exact SQ.out⟩
  have HDK : Bx (a.pl = (k : Int)) := ⟨hk⟩
  clear SQ hW hA hq g1 g2 g3 g4 hp hd hs hm
  have hH : pkHead (phM a) pb.length = none := by
    unfold pkHead phM
    simp only [hlo, if_true]
    rw [if_neg hbad]
  rw [hH]
  simp only [Option.bind_none]
  rw [hlo] at p0
  rw [hdl, hsl] at hbad
  clear hH hdl hsl hlo hk ho
  by_cases h1 : a.ty < 0
  · have g1 : decide (a.ty < 0) = true := decide_eq_true h1
    clear hbad h1
    go_enter Try.func25, Try.ntmps25
    go_wp2_with fail
    go_ret2
    exact ⟨rfl, (Below.refl _ _).alloc (Nat.le_refl _) _⟩
  have g1 : decide (a.ty < 0) = false := decide_eq_false h1
  by_cases h2 : 3 < a.ty
  · have g2 : decide (3 < a.ty) = true := decide_eq_true h2
    clear hbad h1 h2
    go_enter Try.func25, Try.ntmps25
    go_wp2_with fail
    go_ret2
    exact ⟨rfl, (Below.refl _ _).alloc (Nat.le_refl _) _⟩
  have g2 : decide (3 < a.ty) = false := decide_eq_false h2
  by_cases h3 : 20 < d
  · have g3 : decide (20 < (d : Int)) = true := decide_eq_true (by omega)
    have g3n : decide (20 < d) = true := decide_eq_true h3
    clear hbad h1 h2 h3
    go_enter Try.func25, Try.ntmps25
    go_wp2_with fail
    go_ret2
    exact ⟨rfl, (Below.refl _ _).alloc (Nat.le_refl _) _⟩
  have g3 : decide (20 < (d : Int)) = false := decide_eq_false (by omega)
  have g3n : decide (20 < d) = false := decide_eq_false h3
  have h4 : 20 < s := by
    by_cases h4 : s ≤ 20
    · exact absurd ⟨by omega, by omega, by omega, h4⟩ hbad
    · omega
  have g4 : decide (20 < (s : Int)) = true := decide_eq_true (by omega)
  have g4n : decide (20 < s) = true := decide_eq_true h4
  clear hbad h1 h2 h3 h4
  go_enter Try.func25, Try.ntmps25
  go_wp2_with fail
  go_ret2
  exact ⟨rfl, (Below.refl _ _).alloc (Nat.le_refl _) _⟩
end Go.Proofs.Ytcakppdabolfiaa
