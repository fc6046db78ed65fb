/-
  Packets: the program's longHead (written by mkqka.py).
-/
import Derived.Test.YtcakppdabolfiaaNumE
import Derived.Test.YtcakppdabolfiaaQkA
namespace Go.Proofs.Ytcakppdabolfiaa
open Go.RowKit
set_option linter.unusedVariables false
set_option linter.unusedSimpArgs false

/-- What stands ahead of a long packet's number. -/
def lhB (a : Hdr) (k n : Nat) : List UInt8 := UInt8.ofNat (192 + a.ty.toNat * 16 + (k - 1)) :: (bes (a.ver : Int) 4 ++ (UInt8.ofNat a.dstb.length :: (a.dstb ++ (UInt8.ofNat a.srcb.length :: (a.srcb ++ varB (n : Int))))))
set_option maxRecDepth 100000 in
set_option maxHeartbeats 4000000 in
theorem qLong_any (a : Hdr) (k m : Nat) (w : World) (hk : a.pl = (k : Int)) (hk1 : 1 ≤ k) (hk4 : k ≤ 4) (hd : Bs w a.dst a.dstb) (hs : Bs w a.src a.srcb) (hdL : a.dstb.length ≤ 20) (hsL : a.srcb.length ≤ 20) (hv : a.ver < 4294967296) (ht0 : 0 ≤ a.ty) (ht1 : a.ty ≤ 3) (hm : m ≤ 50000) :
    Calls Try.prog 61 #[.agg (hdA a), .int .i64 (m : Int)] w fun e w' => ∃ v', e = .returned v' ∧ ApB w' w.heap.size v' (lhB a k (k + m)) ∧ Below w.heap.size w w' := by
  obtain ⟨i0, hi, hz, hz1, hz2⟩ := info_parts infoU8pw
  have Hi := Lib.hid hi
  have Hz := Lib.hid hz
  have Hz1 := Lib.hid hz1
  have Hz2 := Lib.hid hz2
  clear hi hz hz1 hz2
  have SQ : Bx (Sb 38 (w.alloc (.cells (hdA a) 38)) w.heap.size (hdA a)) := ⟨Sb.new _ w _⟩
  obtain ⟨p0, p1, p2, p3, p4, p5, p6⟩ := SQ.out.hdc
  have hld := fun tr W => (show Bs w a.dst a.dstb from hd).run_len tr W
  have hls := fun tr W => (show Bs w a.src a.srcb from hs).run_len tr W
  obtain ⟨d, hdl⟩ : ∃ n, a.dstb.length = n := ⟨_, rfl⟩
  obtain ⟨s, hsl⟩ : ∃ n, a.srcb.length = n := ⟨_, rfl⟩
  rw [hdl] at hld
  rw [hsl] at hls
  obtain ⟨A, hA⟩ : ∃ A, hdA a = A := ⟨_, rfl⟩
  have r2 : ∀ o, ((w.alloc (.cells (hdA a) 38)).alloc o).cell? ⟨w.heap.size, 2, none⟩ = some (.int .u32 (a.ver : Int)) := fun o => (SQ.out.alloc o).hdc.c2
  unfold lhB
  rw [hdl, hsl]
  obtain ⟨Ad, Ld, cd, hde, _⟩ := hd.open_
  obtain ⟨As, Ls, cs, hse, _⟩ := hs.open_
  rw [hde] at hld p3 hd
  rw [hse] at hls p4 hs
  have HDE := Bx.mk hde
  have HSE := Bx.mk hse
  clear hde hse
  rw [hA] at p0 p1 p2 p3 p4 p5 p6 r2 ⊢
  have SQ2 : Bx (Sb 38 (w.alloc (.cells A 38)) w.heap.size (hdA a)) := ⟨by rw [hA]; exact Sb.new _ w _⟩
  obtain ⟨t, ht⟩ := Int.eq_ofNat_of_zero_le ht0
  rw [hk] at p6
  rw [ht] at p1
  rw [ht, Int.toNat_natCast]
  have ht3 : t ≤ 3 := by omega
  obtain ⟨j, hj⟩ : ∃ j, k - 1 = j := ⟨_, rfl⟩
  have j0 : (k : Int) - 1 = (j : Int) := by omega
  rw [hj]
  obtain ⟨E, hE⟩ : ∃ E : Nat, t * 16 = E := ⟨_, rfl⟩
  obtain ⟨Fq, hF⟩ : ∃ E : Nat, 192 + t * 16 = E := ⟨_, rfl⟩
  obtain ⟨c, hc⟩ : ∃ c, 192 + t * 16 + j = c := ⟨_, rfl⟩
  have hcB : c < 256 := by omega
  have hEB : E < 256 := by omega
  have hjB : j < 256 := by omega
  have htB : t < 256 := by omega
  have hdB : d < 256 := by omega
  have hsB : s < 256 := by omega
  rw [hc]
  obtain ⟨n, hn⟩ : ∃ n : Nat, k + m = n := ⟨_, rfl⟩
  have hnB : n < 100000 := by omega
  have n0 : (k : Int) + (m : Int) = (n : Int) := by omega
  have HNb : Bx (n ≤ 50004) := ⟨by omega⟩
  have HVB : Bx (a.ver < 4294967296) := ⟨hv⟩
  have HDS : Bx (a.dstb.length ≤ 20 ∧ a.srcb.length ≤ 20) := ⟨hdL, hsL⟩
  have HPK : Bx (a.pl = (k : Int)) := ⟨hk⟩
  rw [hn]
  have HDB0 := Bx.mk hd
  have HSB0 := Bx.mk hs
  have HCc : Bx (bv (UInt8.ofNat c) = .int .u8 (c : Int)) := ⟨bv_ofNat c hcB⟩
  have HCd : Bx (bv (UInt8.ofNat d) = .int .u8 (d : Int)) := ⟨bv_ofNat d hdB⟩
  have HCs : Bx (bv (UInt8.ofNat s) = .int .u8 (s : Int)) := ⟨bv_ofNat s hsB⟩
  obtain ⟨V4, hV4⟩ : ∃ l, bes (a.ver : Int) 4 = l := ⟨_, rfl⟩
  have HV4 : Bx (bes (a.ver : Int) 4 = V4 ∧ V4.length = 4) := ⟨hV4, by rw [← hV4]; exact bes_len _ _⟩
  obtain ⟨VN, hVN⟩ : ∃ l, varB (n : Int) = l := ⟨_, rfl⟩
  have HVN : Bx (varB (n : Int) = VN) := ⟨hVN⟩
  rw [hV4, hVN]
  have HWn : Bx (wrap64 (n : Int) = (n : Int) ∧ IntKind.u64.wrap (n : Int) = (n : Int)) := ⟨w64s n hnB, u64s n hnB⟩
  have HWd : Bx (IntKind.u8.wrap (d : Int) = (d : Int)) := ⟨u8s d hdB⟩
  have HWs : Bx (IntKind.u8.wrap (s : Int) = (s : Int)) := ⟨u8s s hsB⟩
  have o1 : bits .or .u8 192 (E : Int) = (Fq : Int) := by
    subst hE hF
    rw [show (192 : Int) = ((192 : Nat) : Int) from rfl, u8_or_nat _ _ (by decide) hEB, or_t t ht3]
  have o2 : bits .or .u8 (Fq : Int) (j : Int) = (c : Int) := by
    subst hF hc
    rw [u8_or_nat _ _ (by omega) hjB, or_tk t j ht3 (by omega)]
  have s1 : (t : Int) * 2 ^ 4 = (E : Int) := by rw [← hE]; push_cast; rfl
  have s1b : (t : Int) * 16 = (E : Int) := by rw [← hE]; push_cast; rfl
  have s2 : IntKind.u8.wrap (E : Int) = (E : Int) := u8s E hEB
  have t8 : IntKind.u8.wrap (t : Int) = (t : Int) := u8s t htB
  have j2 : wrap64 (j : Int) = (j : Int) := w64s j (Nat.lt_trans hjB (by decide))
  have j3 : IntKind.u8.wrap (j : Int) = (j : Int) := u8s j hjB
  have hv1 : IntKind.u64.wrap (a.ver : Int) = (a.ver : Int) := u64v a.ver hv
  clear SQ hA hdl hsl hd hs hk hk1 hk4 hj hc hcB hdL hsL hv ht0 ht1 hm ht hE hF hEB hjB htB hdB hsB hnB hn hV4 hVN ht3
  go_enter Try.func61, Try.ntmps61
  go_wp2_with (go_at_call 62
               clear o1 o2 s1 s1b s2 t8 j2 j3 j0
               refine (big_any _ [UInt8.ofNat c] (a.ver : Int) 4 _ (by unfold Bs; rw [List.map_cons, HCc.out]; exact Rd.litP _ _ (by simp) 5 _ 1 rfl (by simp [maxLen])) (by simp) (by omega) (by have := HVB.out; omega)).mono ?_
               rintro e W2 ⟨v2, rfl, h2, b2⟩
               have HB2 := Bx.mk ((((Below.refl w.heap.size w).alloc (Nat.le_refl _) (.cells A 38)).alloc (by simp) _).trans (b2.mono (by simp <;> omega)))
               have HP2 : Bx (ApB W2 w.heap.size v2 (UInt8.ofNat c :: V4)) := ⟨by rw [← HV4.out.1]; exact Ap.mono h2 (by simp <;> omega)⟩
               have HS2 : Bx (Sb 38 W2 w.heap.size (hdA a)) := ⟨(SQ2.out.alloc _).keep b2⟩
               have c3 : W2.cell? ⟨w.heap.size, 3, none⟩ = some (.slice Ad Ld cd) := by rw [← HDE.out]; exact HS2.out.hdc.c3
               have c4 : W2.cell? ⟨w.heap.size, 4, none⟩ = some (.slice As Ls cs) := by rw [← HSE.out]; exact HS2.out.hdc.c4
               clear h2 b2 hv1)
  have HL3 : Bx (Sb 36 (W2.alloc (.cells #[.slice Ad Ld cd, .slice As Ls cs] 36)) W2.heap.size #[.slice Ad Ld cd, .slice As Ls cs]) := ⟨Sb.new _ _ _⟩
  have HS3 : Bx (Sb 38 (W2.alloc (.cells #[.slice Ad Ld cd, .slice As Ls cs] 36)) w.heap.size (hdA a)) := ⟨HS2.out.alloc _⟩
  have HB3 : Bx (Below w.heap.size w (W2.alloc (.cells #[.slice Ad Ld cd, .slice As Ls cs] 36))) := ⟨HB2.out.alloc HB2.out.size _⟩
  have HP3 : Bx (ApB (W2.alloc (.cells #[.slice Ad Ld cd, .slice As Ls cs] 36)) w.heap.size v2 (UInt8.ofNat c :: V4)) := ⟨HP2.out.alloc _⟩
  have k0 : (W2.alloc (.cells #[.slice Ad Ld cd, .slice As Ls cs] 36)).cell? ⟨W2.heap.size, 0, none⟩ = some (.slice Ad Ld cd) := HL3.out.cell 0
  generalize hW3 : W2.alloc (.cells #[.slice Ad Ld cd, .slice As Ls cs] 36) = W3 at HL3 HS3 HB3 HP3 k0 ⊢
  obtain ⟨g2, hg2⟩ : ∃ g, W2.heap.size = g := ⟨_, rfl⟩
  rw [hg2] at HL3 k0 ⊢
  clear hW3 hg2 c3 c4 p0 p1 p2 p3 p4 p5 p6 r2
  have d8 := HWd.out
  refine wp_loop_rounds 3 ?_
  rw [rounds_succ]
  go_wp2_with (first
    | (at_builtin
       clear d8
       refine wpList_append_apn _ rfl _ _ 36 rfl w.heap.size i0 (.int .u8 0) 1 Try.underlying36 Hi.out Hz.out Hz1.out Hz2.out rfl v2 _ ((UInt8.ofNat c :: V4).map bv) _ rfl rfl (HP3.out.alloc _) (Rd.litP _ _ rfl 5 _ 1 rfl (by simp [maxLen])) (by simp [Value.oneCell']) (by have := HV4.out.2; simp; omega) (by have := HV4.out.2; simp; unfold maxLen; omega) (by have := HB3.out.size; simp; omega) ?_
       intro v4 w4 h4 b4 n4
       have HQ4 := Bx.mk h4
       have HB4 := Bx.mk ((HB3.out.alloc HB3.out.size _).trans b4)
       have HN4 := Bx.mk ((NonB.alloc _ _).trans n4)
       clear h4 b4 n4)
    | (at_builtin
       refine wpList_append_apn _ rfl _ _ 36 rfl w.heap.size i0 (.int .u8 0) 1 Try.underlying36 Hi.out Hz.out Hz1.out Hz2.out rfl v4 (.slice Ad Ld cd) _ (a.dstb.map bv) rfl rfl HQ4.out (HDB0.out.keep HB4.out) one_bv (by have := HV4.out.2; have := HDS.out; simp; omega) (by have := HV4.out.2; have := HDS.out; simp; unfold maxLen; omega) HB4.out.size ?_
       intro v5 w5 h5 b5 n5
       have HP5 : Bx (ApB w5 w.heap.size v5 ((UInt8.ofNat c :: V4) ++ (UInt8.ofNat d :: a.dstb))) := ⟨by unfold ApB; rw [bv_seg _ _ _ _ HCd.out]; exact h5⟩
       have HB5 := Bx.mk (HB4.out.trans b5)
       have HN5 := Bx.mk (HN4.out.trans n5)
       have k1 : w5.cell? ⟨g2, 1, none⟩ = some (.slice As Ls cs) := by
         have : Sb 36 w5 g2 #[.slice Ad Ld cd, .slice As Ls cs] := HN5.out.fb HL3.out (by decide)
         exact this.cell 1
       clear h5 b5 n5))
  obtain ⟨L5, hL5⟩ : ∃ l, (UInt8.ofNat c :: V4) ++ (UInt8.ofNat d :: a.dstb) = l := ⟨_, rfl⟩
  have HL5 : Bx ((UInt8.ofNat c :: V4) ++ (UInt8.ofNat d :: a.dstb) = L5 ∧ L5.length ≤ 26) := ⟨hL5, by rw [← hL5]; have := HV4.out.2; have := HDS.out; simp; omega⟩
  rw [hL5] at HP5
  clear hL5
  have s8 := HWs.out
  rw [rounds_succ]
  go_wp2_with (first
    | (at_builtin
       clear s8
       refine wpList_append_apn _ rfl _ _ 36 rfl w.heap.size i0 (.int .u8 0) 1 Try.underlying36 Hi.out Hz.out Hz1.out Hz2.out rfl v5 _ (L5.map bv) _ rfl rfl (HP5.out.alloc _) (Rd.litP _ _ rfl 5 _ 1 rfl (by simp [maxLen])) (by simp [Value.oneCell']) (by have := HL5.out.2; simp; omega) (by have := HL5.out.2; simp; unfold maxLen; omega) (by have := HB5.out.size; simp; omega) ?_
       intro v6 w6 h6 b6 n6
       have HQ6 := Bx.mk h6
       have HB6 := Bx.mk ((HB5.out.alloc HB5.out.size _).trans b6)
       have HN6 := Bx.mk ((HN5.out.trans (NonB.alloc _ _)).trans n6)
       clear h6 b6 n6)
    | (at_builtin
       refine wpList_append_apn _ rfl _ _ 36 rfl w.heap.size i0 (.int .u8 0) 1 Try.underlying36 Hi.out Hz.out Hz1.out Hz2.out rfl v6 (.slice As Ls cs) _ (a.srcb.map bv) rfl rfl HQ6.out (HSB0.out.keep HB6.out) one_bv (by have := HL5.out.2; have := HDS.out; simp; omega) (by have := HL5.out.2; have := HDS.out; simp; unfold maxLen; omega) HB6.out.size ?_
       intro v7 w7 h7 b7 n7
       have HP7 : Bx (ApB w7 w.heap.size v7 (L5 ++ (UInt8.ofNat s :: a.srcb))) := ⟨by unfold ApB; rw [bv_seg _ _ _ _ HCs.out]; exact h7⟩
       have HB7 := Bx.mk (HB6.out.trans b7)
       have HS7 : Bx (Sb 38 w7 w.heap.size (hdA a)) := ⟨nonB_hd (HN6.out.trans n7) HS3.out⟩
       have q6 : w7.cell? ⟨w.heap.size, 6, none⟩ = some (.int .i64 (k : Int)) := by rw [← HPK.out]; exact HS7.out.hdc.c6
       clear h7 b7 n7))
  obtain ⟨L7, hL7⟩ : ∃ l, L5 ++ (UInt8.ofNat s :: a.srcb) = l := ⟨_, rfl⟩
  have HL7 : Bx (L5 ++ (UInt8.ofNat s :: a.srcb) = L7 ∧ L7.length ≤ 47) := ⟨hL7, by rw [← hL7]; have := HL5.out.2; have := HDS.out; simp; omega⟩
  rw [hL7] at HP7
  clear hL7
  obtain ⟨n1, n3⟩ := HWn.out
  rw [rounds_succ]
  go_wp2_with (go_at_call 76
               clear n1 n3 n0
               refine (var_any v7 _ L7 ([n].map UInt64.ofNat) _ (Ap.rd (HP7.out.alloc _)) (by rw [← nv_uv [n] (by intro x hx; simp at hx; have := HNb.out; omega)]; exact Rd.litP _ _ rfl 22 _ 1 rfl (by simp [maxLen])) (by have := HL7.out.2; omega) (by simp)).mono ?_
               rintro e w8 hv8
               obtain ⟨v8, rfl, h8, b8⟩ : ∃ v', e = .returned (.tuple #[v', .int .i64 0]) ∧ ApB w8 (w7.alloc (.cells #[.int .u64 (n : Int)] 22)).heap.size v' (L7 ++ varsB ([n].map UInt64.ofNat)) ∧ Below (w7.alloc (.cells #[.int .u64 (n : Int)] 22)).heap.size (w7.alloc (.cells #[.int .u64 (n : Int)] 22)) w8 := by
                 rcases hv8 with h | h
                 · exact h.2
                 · exact absurd (small_ofNat [n] (by intro x hx; simp at hx; have := HNb.out; omega) (by intro x hx; simp at hx; have := HNb.out; unfold mv; omega)) h.1
               have HB8 := Bx.mk ((HB7.out.alloc HB7.out.size _).trans (b8.mono (by have := HB7.out.size; simp; omega)))
               have HP8 : Bx (ApB w8 w.heap.size v8 (UInt8.ofNat c :: (V4 ++ (UInt8.ofNat d :: (a.dstb ++ (UInt8.ofNat s :: (a.srcb ++ VN))))))) := ⟨by
                 rw [varsB_ofNat [n] (by intro x hx; simp at hx; have := HNb.out; omega)] at h8
                 have e : UInt8.ofNat c :: (V4 ++ (UInt8.ofNat d :: (a.dstb ++ (UInt8.ofNat s :: (a.srcb ++ VN))))) = L7 ++ wVars [n] := by
                   rw [← HL7.out.1, ← HL5.out.1]
                   simp only [wVars, List.flatMap_cons, List.flatMap_nil, List.append_nil, HVN.out, List.append_assoc, List.cons_append]
                 rw [e]
                 exact Ap.mono h8 (by have := HB7.out.size; simp; omega)⟩
               clear h8 b8 hv8)
  go_ret
  exact ⟨v8, rfl, HP8.out, HB8.out⟩
end Go.Proofs.Ytcakppdabolfiaa
