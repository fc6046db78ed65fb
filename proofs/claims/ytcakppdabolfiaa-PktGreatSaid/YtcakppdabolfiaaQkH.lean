/-
  Packets: bifoldlaw18's known answers (written by mkqkd.py).
-/
import Derived.Lib.SlBytesConst
import Derived.Test.YtcakppdabolfiaaQkG
namespace Go.Proofs.Ytcakppdabolfiaa
open Go.RowKit
set_option linter.unusedVariables false
set_option linter.unusedSimpArgs false

theorem made_u8g (n : Nat) : (madeCells #[.int .u8 0] n).toList = (List.replicate n (0 : UInt8)).map bv := by
  unfold madeCells
  apply List.ext_getElem
  · simp
  · intro i h1 h2
    simp [bv, Nat.mod_one]
theorem Bs.madeg (W : World) (n : Nat) (hn : n ≤ 1000000) : Bs (W.alloc (.cells (madeCells #[.int .u8 0] n) 5)) (.slice (some ⟨W.heap.size, 0, none⟩) n n) (List.replicate n 0) := by
  have h := Rd.lit W 5 (madeCells #[.int .u8 0] n) n (by simp [madeCells]) (by unfold maxLen; omega)
  rw [made_u8g] at h
  exact h

theorem make_u8g (n : Nat) (hn : n ≤ 1000000) (W : World) : (Instr.makeSlice 36 (.int .i64 (n : Int)) (.int .i64 (n : Int))).run Try.prog W = .ok (.slice (some ⟨W.heap.size, 0, none⟩) n n) (W.alloc (.cells (madeCells #[.int .u8 0] n) 5)) :=
  run_make_row' 36 5 (.int .u8 0) 1 Try.underlying36 infoU8pw rfl .i64 .i64 n (by omega) (by omega) W
theorem Rd.markg (w : World) (e : TypeId) (m : Nat × Nat) (cs : Array Value) (n : Nat) (hn : cs.size = n) (hm : n ≤ maxLen) : Rd (w.alloc (.cells cs e m)) (.slice (some ⟨w.heap.size, 0, none⟩) n n) cs.toList := by
  have hl : cs.toList.length = n := by simpa using hn
  rw [← hl]
  refine ⟨_, _, rfl, Nat.le_refl _, by omega, .inr ⟨_, rfl, fun j u hu => ?_⟩⟩
  rw [Addr.add_lit, Nat.zero_add]
  obtain ⟨m1, m2⟩ := m
  rw [World.cell?_alloc_mark w cs e (m1, m2) j]
  simpa using hu
theorem lit7_i (c0 c1 c2 c3 c4 c5 c6 : Value) : (Try.prog.info? 38).map (·.size) = some (#[c0, c1, c2, c3, c4, c5, c6] : Array Value).size := hd_size
theorem abcS : bstr [97, 98, 99] = ⟨#[97, 98, 99]⟩ := rfl
set_option maxRecDepth 100000 in
set_option maxHeartbeats 8000000 in
theorem known18_any (w : World) : Calls Try.prog 24 #[] w fun e w' => e = .returned (.bool true) ∧ Below w.heap.size w w' := by
  have hmk : ∀ W : World, (Instr.makeSlice 36 (.int .i64 8) (.int .i64 8)).run Try.prog W = .ok (.slice (some ⟨W.heap.size, 0, none⟩) 8 8) (W.alloc (.cells (madeCells #[.int .u8 0] 8) 5)) := fun W => make_u8g 8 (by omega) W
  have HW := Bx.mk (fun (g0 : Nat) (pV : Value) (W : World) (h1 : Bs W (.slice (some ⟨g0, 0, none⟩) 8 8) (List.replicate 8 0)) (h2 : Bs W pV [97, 98, 99]) => qWrite_any ⟨false, 0, 0, .slice (some ⟨g0, 0, none⟩) 8 8, List.replicate 8 0, .slice none 0 0, [], 5, 1⟩ pV [97, 98, 99] W (by unfold hdOk; simp) h1 (Rd.nil W) h2 (by simp))
  have hP : ∀ g0 : Nat, pkW (phM ⟨false, 0, 0, .slice (some ⟨g0, 0, none⟩) 8 8, List.replicate 8 0, .slice none 0 0, [], 5, 1⟩) [97, 98, 99] = some (64 :: [0, 0, 0, 0, 0, 0, 0, 0, 5, 97, 98, 99] : List UInt8) := fun g0 => by
    show pkW ⟨false, 0, 0, List.replicate 8 0, [], 5, 1⟩ [97, 98, 99] = _
    decide +kernel
  simp only [hP] at HW
  have HR := Bx.mk (fun (v : Value) (W : World) (h : Bs W v (64 :: [0, 0, 0, 0, 0, 0, 0, 0, 5, 97, 98, 99] : List UInt8)) => qRead_of v (64 :: [0, 0, 0, 0, 0, 0, 0, 0, 5, 97, 98, 99] : List UInt8) false 0 0 1 9 13 [0, 0, 0, 0, 0, 0, 0, 0] [] W h (by simp) (fun W' h' => qHead_short v 64 0 [0, 0, 0, 0, 0, 0, 0, 0, 5, 97, 98, 99] W' h' rfl (by omega) (by simp) (by simp)) (by omega) (by omega) (by omega) (by simp) (by omega))
  have hrb : rb (((64 :: [0, 0, 0, 0, 0, 0, 0, 0, 5, 97, 98, 99] : List UInt8).drop 9).take 1) = 5 := by decide +kernel
  have hpl : ((64 :: [0, 0, 0, 0, 0, 0, 0, 0, 5, 97, 98, 99] : List UInt8).take 13).drop (9 + 1) = [97, 98, 99] := rfl
  rw [hrb, hpl] at HR
  have HBad := Bx.mk qRead_bad
  clear hP hrb hpl
  go_enter Try.func24, Try.ntmps24
  go_upto_region 2 with fail
  have HV0 : Bx (Bs (w.alloc (.cells (madeCells #[.int .u8 0] 8) 5)) (.slice (some ⟨w.heap.size, 0, none⟩) 8 8) (List.replicate 8 0)) := ⟨Bs.madeg w 8 (by omega)⟩
  have HB0 : Bx (Below w.heap.size w (w.alloc (.cells (madeCells #[.int .u8 0] 8) 5))) := ⟨(Below.refl _ _).alloc (Nat.le_refl _) _⟩
  have hgs : (w.alloc (.cells (madeCells #[.int .u8 0] 8) 5)).heap.size = w.heap.size + 1 := by simp
  generalize w.alloc (.cells (madeCells #[.int .u8 0] 8) 5) = W1 at HV0 HB0 hgs ⊢
  obtain ⟨g0, hg0⟩ : ∃ g, w.heap.size = g := ⟨_, rfl⟩
  obtain ⟨g1, hg1⟩ : ∃ g, w.heap.size + 1 = g := ⟨_, rfl⟩
  simp only [hg1]
  rw [hg1] at hgs
  rw [hg0] at HV0
  simp only [hg0]
  have HS1 : Bx (Sb 38 (W1.alloc (.cells #[.bool false, .int .i64 0, .int .u32 0, .slice (some ⟨g0, 0, none⟩) 8 8, .slice none 0 0, .int .u64 5, .int .i64 1] 38)) g1 #[.bool false, .int .i64 0, .int .u32 0, .slice (some ⟨g0, 0, none⟩) 8 8, .slice none 0 0, .int .u64 5, .int .i64 1]) := ⟨Sb.newg _ _ _ hgs _⟩
  have HV1 : Bx (Bs (W1.alloc (.cells #[.bool false, .int .i64 0, .int .u32 0, .slice (some ⟨g0, 0, none⟩) 8 8, .slice none 0 0, .int .u64 5, .int .i64 1] 38)) (.slice (some ⟨g0, 0, none⟩) 8 8) (List.replicate 8 0)) := ⟨HV0.out.keep ((Below.refl _ _).alloc (Nat.le_refl _) _)⟩
  have HB1 : Bx (Below w.heap.size w (W1.alloc (.cells #[.bool false, .int .i64 0, .int .u32 0, .slice (some ⟨g0, 0, none⟩) 8 8, .slice none 0 0, .int .u64 5, .int .i64 1] 38))) := ⟨HB0.out.alloc HB0.out.size _⟩
  generalize W1.alloc (.cells #[.bool false, .int .i64 0, .int .u32 0, .slice (some ⟨g0, 0, none⟩) 8 8, .slice none 0 0, .int .u64 5, .int .i64 1] 38) = W2 at HS1 HV1 HB1 ⊢
  have HG1 : Bx (g1 < W2.heap.size) := ⟨HS1.out.lt⟩
  clear hgs hmk hg1
  obtain ⟨x0, x1, x2, x3, x4, x5, x6⟩ := hdcE (ver := 0) (pn := 5) HS1.out
  have kc : (convert 36 36 (.slice (some ⟨W2.heap.size, 0, none⟩) 3 3)).run Try.prog (W2.alloc (.cells #[.int .u8 97, .int .u8 98, .int .u8 99] 5)) = .ok (.slice (some ⟨W2.heap.size, 0, none⟩) 3 3) (W2.alloc (.cells #[.int .u8 97, .int .u8 98, .int .u8 99] 5 (3, 4))) := Lib.run_convert_bytes_const W2 36 5 #[.int .u8 97, .int .u8 98, .int .u8 99] 3 3 Try.underlying36 Try.underlying5
  have HL3 : Bx (Bs (W2.alloc (.cells #[.int .u8 97, .int .u8 98, .int .u8 99] 5 (3, 4))) (.slice (some ⟨W2.heap.size, 0, none⟩) 3 3) [97, 98, 99]) := ⟨Rd.markg W2 5 (3, 4) #[.int .u8 97, .int .u8 98, .int .u8 99] 3 rfl (by simp [maxLen])⟩
  go_upto_region 4 with (first
    | (go_at_call 28
       refine (HW.out g0 _ _ (HV1.out.keep ((Below.refl _ _).alloc (Nat.le_refl _) _)) HL3.out).mono ?_
       rintro e w4 ⟨v2, rfl, h2, b2⟩
       have HX4 : Bx (Bs w4 v2 (64 :: [0, 0, 0, 0, 0, 0, 0, 0, 5, 97, 98, 99] : List UInt8)) := ⟨Ap.rd h2⟩
       have b24 : Below W2.heap.size W2 w4 := ((Below.refl _ _).alloc (Nat.le_refl _) _).trans (b2.mono (by simp))
       have HB4 := Bx.mk (HB1.out.trans (b24.mono HB1.out.size))
       have HS4 := Bx.mk (HS1.out.keep b24)
       have HV4 := Bx.mk (HV1.out.keep b24)
       have hl4 := fun tr W => (show Bs w4 v2 (64 :: [0, 0, 0, 0, 0, 0, 0, 0, 5, 97, 98, 99] : List UInt8) from HX4.out).run_len tr W
       clear h2 b2 b24)
    | (go_at_call 26
       refine (HR.out _ _ HX4.out).mono ?_
       rintro e w5 ⟨d, s, p, rfl, hd5, hs5, hp5, b5⟩
       obtain ⟨Ad, nd, cd, rfl, _⟩ := hd5.open_
       obtain ⟨As, ns, cs, rfl, _⟩ := hs5.open_
       have HB5 := Bx.mk (HB4.out.trans (b5.mono HB4.out.size))
       have HS5 := Bx.mk (HS4.out.keep b5)
       have HV5 := Bx.mk (HV4.out.keep b5)
       have HD5 := Bx.mk hd5
       have HC5 := Bx.mk hs5
       have HP5 := Bx.mk hp5
       have HN5 : Bx (Sb 38 (w5.alloc (.cells #[.bool false, .int .i64 0, .int .u32 0, .slice none 0 0, .slice none 0 0, .int .u64 0, .int .i64 0] 38)) w5.heap.size #[.bool false, .int .i64 0, .int .u32 0, .slice none 0 0, .slice none 0 0, .int .u64 0, .int .i64 0]) := ⟨Sb.new _ _ _⟩
       clear hd5 hs5 hp5 b5)
    | (with_reducible refine wpList_storeS 38 w5.heap.size #[.bool false, .int .i64 0, .int .u32 0, .slice none 0 0, .slice none 0 0, .int .u64 0, .int .i64 0] (hdV false 0 0 (.slice Ad nd cd) (.slice As ns cs) 5 ((1 : Nat) : Int)) rfl rfl HN5.out (hdV_i _ _ _ _ _ _ _) (hdV_o _ _ _ _ _ _ _) (hdV_1 _ _ _ _ _ _ _ _ _ _ _) ?_
       intro w6 hs6 hg6
       have b56 : Below w5.heap.size w5 w6 := ((Below.refl _ _).alloc (Nat.le_refl _) _).grown hg6 (by simp) (fun k hk => by injection hk with hk; omega)
       have HT6 := Bx.mk hs6
       have HB6 := Bx.mk (HB5.out.trans (b56.mono HB5.out.size))
       have HS6 := Bx.mk (HS5.out.keep b56)
       have HV6 := Bx.mk (HV5.out.keep b56)
       have HD6 := Bx.mk (HD5.out.keep b56)
       have HC6 := Bx.mk (HC5.out.keep b56)
       have HP6 := Bx.mk (HP5.out.keep b56)
       clear hs6 hg6 b56))
  obtain ⟨g4, hg4⟩ : ∃ g, w5.heap.size = g := ⟨_, rfl⟩
  rw [hg4] at HT6
  simp only [hg4]
  clear hg4 x0 x1 x2 x3 x4 x5 x6
  have HL7 : Bx (Bs (w6.alloc (.cells #[.int .u8 0] 5)) (.slice (some ⟨w6.heap.size, 0, none⟩) 1 1) [0]) := ⟨Rd.lit w6 5 #[.int .u8 0] 1 rfl (by simp [maxLen])⟩
  go_upto_region 5 with (first
    | (go_at_call 26
       refine (HBad.out _ _ HL7.out).mono ?_
       rintro e w8 ⟨rfl, b8⟩
       have b68 : Below w6.heap.size w6 w8 := ((Below.refl _ _).alloc (Nat.le_refl _) _).trans (b8.mono (by simp))
       have HN8 : Bx (Sb 38 (w8.alloc (.cells #[.bool false, .int .i64 0, .int .u32 0, .slice none 0 0, .slice none 0 0, .int .u64 0, .int .i64 0] 38)) w8.heap.size #[.bool false, .int .i64 0, .int .u32 0, .slice none 0 0, .slice none 0 0, .int .u64 0, .int .i64 0]) := ⟨Sb.new _ _ _⟩
       have HB68 := Bx.mk b68
       clear b8 b68)
    | (with_reducible refine wpList_storeS 38 w8.heap.size #[.bool false, .int .i64 0, .int .u32 0, .slice none 0 0, .slice none 0 0, .int .u64 0, .int .i64 0] #[.bool false, .int .i64 0, .int .u32 0, .slice none 0 0, .slice none 0 0, .int .u64 0, .int .i64 0] rfl rfl HN8.out hz_i rfl hz_1 ?_
       intro w9 hs9 hg9
       have b69 : Below w6.heap.size w6 w9 := HB68.out.trans ((((Below.refl w8.heap.size w8).alloc (Nat.le_refl _) _).grown hg9 (by simp) (fun k hk => by injection hk with hk; omega)).mono HB68.out.size)
       have HB9 := Bx.mk (HB6.out.trans (b69.mono HB6.out.size))
       have HT9 := Bx.mk (HT6.out.keep b69)
       have HS9 := Bx.mk (HS6.out.keep b69)
       have HV9 := Bx.mk (HV6.out.keep b69)
       have HD9 := Bx.mk (HD6.out.keep b69)
       have HC9 := Bx.mk (HC6.out.keep b69)
       have HP9 := Bx.mk (HP6.out.keep b69)
       clear hs9 hg9 b69))
  obtain ⟨t0, t1, t2, t3, t4, t5, t6⟩ := hdcE (ver := 0) (pn := 5) HT9.out
  obtain ⟨y0, y1, y2, y3, y4, y5, y6⟩ := hdcE (ver := 0) (pn := 5) HS9.out
  have HHd := Bx.mk (helpHeader_same w9 false 0 0 (.slice Ad nd cd) (.slice (some ⟨g0, 0, none⟩) 8 8) (List.replicate 8 0) (.slice As ns cs) (.slice none 0 0) [] 5 1 HD9.out HV9.out HC9.out (Rd.nil _))
  go_wp2_with (first
    | (go_at_call 27
       refine HHd.out.mono ?_
       rintro e w10 ⟨rfl, b10⟩
       have HB10 := Bx.mk (HB9.out.trans (b10.mono HB9.out.size))
       have ks := conv_str (HP9.out.keep b10)
       rw [abcS] at ks
       clear b10))
  go_ret
  exact ⟨rfl, HB10.out⟩
end Go.Proofs.Ytcakppdabolfiaa
