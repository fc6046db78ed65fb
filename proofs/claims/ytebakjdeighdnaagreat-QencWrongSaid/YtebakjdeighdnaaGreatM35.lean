/-
  Texts put together: QpD.
-/
import Derived.Test.YtebakjdeighdnaaGreatM32
import Derived.Deep.RegionHeld

/-
  Contracts of the program's insertion and literal.
-/
namespace Go.Proofs.YtebakjdeighdnaaGreat
open Go.RowKit
set_option linter.unusedVariables false

theorem text_at (m : Nat) (hm : m ≤ 3) (f : UInt8) (k : Nat) (hk1 : 1 ≤ k) (hk7 : k ≤ 7) (hf0 : IntKind.u8.wrap (((2 * m : Nat) : Int) * 2 ^ k) = (f.toNat : Int)) (hf1 : IntKind.u8.wrap (((2 * m + 1 : Nat) : Int) * 2 ^ k) = ((hiB f k).toNat : Int)) (s : ByteArray) (hs : s.size ≤ 20000) (M K : Int) (hM : (m : Int) = M) (hK : (k : Int) = K) (w : World) :
    Calls Tryz.prog 92 #[.int .u8 M, .int .i64 K, .string s] w fun e w' => ∃ v', e = .returned v' ∧ OwB w' w.heap.size v' (putSk f k s.data.toList) ∧ Below w.heap.size w w' := by
  subst hM hK
  exact text_any m hm f k hk1 hk7 hf0 hf1 s hs w
/-- An instruction that inserts. -/
def insB (i : Nat) (nm : Bool) (f : Fd) : List UInt8 := (if nm then pre 192 6 i else putSk 64 5 f.1.data.toList) ++ putSk 0 7 f.2.data.toList
/-- A line in full. -/
def litB (i : Nat) (nm : Bool) (f : Fd) : List UInt8 := (if nm then pre (if secN f.1 then 112 else 80) 4 i else putSk (if secN f.1 then 48 else 32) 3 f.1.data.toList) ++ putSk 0 7 f.2.data.toList
set_option maxRecDepth 100000 in
set_option maxHeartbeats 2000000 in
theorem insertion_any (i : Nat) (nm : Bool) (f : Fd) (hi : i < 18446744073709551616) (h1 : f.1.size ≤ 20000) (h2 : f.2.size ≤ 20000) (w : World) :
    Calls Tryz.prog 56 #[.int .u64 (i : Int), .bool nm, .agg #[.string f.1, .string f.2]] w fun e w' => ∃ v', e = .returned v' ∧ OwB w' w.heap.size v' (insB i nm f) ∧ Below w.heap.size w w' := by
  have HB0 := Bx.mk ((Below.refl w.heap.size w).alloc (Nat.le_refl _) (.cells #[.string f.1, .string f.2] 53))
  have HF0 := Bx.mk (Fb.new 53 w f)
  obtain ⟨f1, f2⟩ := f
  simp only at h1 h2 HB0 HF0 ⊢
  obtain ⟨w1, hw1⟩ : ∃ w1, w.alloc (.cells #[.string f1, .string f2] 53) = w1 := ⟨_, rfl⟩
  rw [hw1] at HB0 HF0
  have hX0 : ∀ W, Below w1.heap.size w1 W → W.cell? ⟨w.heap.size, 0, none⟩ = some (.string f1) := fun W hW => (HF0.out.keep hW).cells.1
  have hX1 : ∀ W, Below w1.heap.size w1 W → W.cell? ⟨w.heap.size, 1, none⟩ = some (.string f2) := fun W hW => (HF0.out.keep hW).cells.2
  have hS0 : Below w1.heap.size w1 w1.drew := (Below.refl _ _).drew
  obtain ⟨I, hI⟩ := letter i
  have HNUM := Bx.mk (fun W => qnumber_at 3 192 6 (by omega) (by omega) (by rfl) i 3 6 I rfl rfl hI hi W)
  have HTXT := Bx.mk (fun W => text_at 1 (by omega) 64 5 (by omega) (by omega) (by rfl) (by rfl) f1 h1 1 5 rfl rfl W)
  have hl1 := (pre_len 192 6 i).2
  have hl2 := putSk_len 64 5 f1.data.toList
  have e1 : f1.data.toList.length = f1.size := by simp
  have HSTR := Bx.mk (fun (v : Value) (l : List UInt8) (W : World) (hb : Bs W v l) (hl : l.length ≤ 50000) => hstr_any v l f2 W hb hl h2)
  have HL : Bx ((pre 192 6 i).length ≤ 50000 ∧ (putSk 64 5 f1.data.toList).length ≤ 50000) := ⟨by omega, by omega⟩
  rw [hI]
  clear hI hi h1 h2 hl1 hl2 e1
  cases nm with
  | true =>
    have HR : Bx (insB i true (f1, f2) = pre 192 6 i ++ putSk 0 7 f2.data.toList) := ⟨rfl⟩
    go_enter Tryz.func56, Tryz.ntmps56
    go_wp2_with fail
    go_region_held (fun W => Below w1.heap.size w1 W) (first | assumption) (first
      | (go_at_call 51; refine (HNUM.out _).mono ?_; rintro e w3 ⟨v3, rfl, ho3, b3⟩; have hS3 := below_next (by assumption) b3)
      | (go_at_call 91; refine (HSTR.out _ _ _ ho3.bs HL.out.1).mono ?_; rintro e w4 ⟨v4, rfl, ho4, b4⟩; have hS4 := below_next (by assumption) b4))
    all_goals clear hX0 hX1 hS0
    all_goals go_wp2_with fail
    all_goals go_ret
    all_goals rw [HR.out]
    all_goals exact ⟨_, rfl, ho4.mono (by have := HB0.out.size; have := hS3.size; omega), HB0.out.trans (hS4.mono HB0.out.size)⟩
  | false =>
    have HR : Bx (insB i false (f1, f2) = putSk 64 5 f1.data.toList ++ putSk 0 7 f2.data.toList) := ⟨rfl⟩
    go_enter Tryz.func56, Tryz.ntmps56
    go_wp2_with fail
    go_region_held (fun W => Below w1.heap.size w1 W) (first | assumption) (first
      | (go_at_call 92; refine (HTXT.out _).mono ?_; rintro e w3 ⟨v3, rfl, ho3, b3⟩; have hS3 := below_next (by assumption) b3)
      | (go_at_call 91; refine (HSTR.out _ _ _ ho3.bs HL.out.2).mono ?_; rintro e w4 ⟨v4, rfl, ho4, b4⟩; have hS4 := below_next (by assumption) b4))
    all_goals clear hX0 hX1 hS0
    all_goals go_wp2_with fail
    all_goals go_ret
    all_goals rw [HR.out]
    all_goals exact ⟨_, rfl, ho4.mono (by have := HB0.out.size; have := hS3.size; omega), HB0.out.trans (hS4.mono HB0.out.size)⟩

set_option maxRecDepth 100000 in
set_option maxHeartbeats 4000000 in
theorem qliteral_any (i : Nat) (nm : Bool) (f : Fd) (hi : i < 18446744073709551616) (h1 : f.1.size ≤ 20000) (h2 : f.2.size ≤ 20000) (w : World) :
    Calls Tryz.prog 59 #[.int .u64 (i : Int), .bool nm, .agg #[.string f.1, .string f.2]] w fun e w' => ∃ v', e = .returned v' ∧ OwB w' w.heap.size v' (litB i nm f) ∧ Below w.heap.size w w' := by
  have HB0 := Bx.mk ((Below.refl w.heap.size w).alloc (Nat.le_refl _) (.cells #[.string f.1, .string f.2] 53))
  have HF0 := Bx.mk (Fb.new 53 w f)
  obtain ⟨f1, f2⟩ := f
  simp only at h1 h2 HB0 HF0 ⊢
  obtain ⟨w1, hw1⟩ : ∃ w1, w.alloc (.cells #[.string f1, .string f2] 53) = w1 := ⟨_, rfl⟩
  rw [hw1] at HB0 HF0
  have hX0 : ∀ W, Below w1.heap.size w1 W → W.cell? ⟨w.heap.size, 0, none⟩ = some (.string f1) := fun W hW => (HF0.out.keep hW).cells.1
  have hX1 : ∀ W, Below w1.heap.size w1 W → W.cell? ⟨w.heap.size, 1, none⟩ = some (.string f2) := fun W hW => (HF0.out.keep hW).cells.2
  have hS0 : Below w1.heap.size w1 w1.drew := (Below.refl _ _).drew
  have hc0 := hX0 w1 (Below.refl _ _)
  have HSEC := Bx.mk (fun W => qsecret_any f1 W)
  obtain ⟨I, hI⟩ := letter i
  have HNUM0 := Bx.mk (fun W => qnumber_at 5 80 4 (by omega) (by omega) (by rfl) i 5 4 I rfl rfl hI hi W)
  have HNUM1 := Bx.mk (fun W => qnumber_at 7 112 4 (by omega) (by omega) (by rfl) i 7 4 I rfl rfl hI hi W)
  have HTXT0 := Bx.mk (fun W => text_at 2 (by omega) 32 3 (by omega) (by omega) (by rfl) (by rfl) f1 h1 2 3 rfl rfl W)
  have HTXT1 := Bx.mk (fun W => text_at 3 (by omega) 48 3 (by omega) (by omega) (by rfl) (by rfl) f1 h1 3 3 rfl rfl W)
  have hl1 := fun a => (pre_len a 4 i).2
  have hl2 := fun a => putSk_len a 3 f1.data.toList
  have e1 : f1.data.toList.length = f1.size := by simp
  have HSTR := Bx.mk (fun (v : Value) (l : List UInt8) (W : World) (hb : Bs W v l) (hl : l.length ≤ 50000) => hstr_any v l f2 W hb hl h2)
  have HL : Bx ((∀ a, (pre a 4 i).length ≤ 50000) ∧ ∀ a, (putSk a 3 f1.data.toList).length ≤ 50000) := ⟨fun a => by have := hl1 a; omega, fun a => by have := hl2 a; omega⟩
  have HR : Bx (litB i nm (f1, f2) = (if nm then pre (if secN f1 then 112 else 80) 4 i else putSk (if secN f1 then 48 else 32) 3 f1.data.toList) ++ putSk 0 7 f2.data.toList) := ⟨rfl⟩
  rw [hI]
  obtain ⟨sc, hsc⟩ : ∃ sc, secN f1 = sc := ⟨_, rfl⟩
  rw [hsc] at HSEC HR
  obtain ⟨R, hR⟩ : ∃ R, litB i nm (f1, f2) = R := ⟨_, rfl⟩
  rw [hR] at HR ⊢
  clear hI hi h1 h2 hl1 hl2 e1 hR hsc
  cases sc with
  | true =>
    cases nm with
    | true =>
      have HR2 := HR.out
      simp only [if_true] at HR2
      subst HR2
      go_enter Tryz.func59, Tryz.ntmps59
      go_wp2_with fail
      go_wp2_with (go_at_call 87; refine (HSEC.out _).mono ?_; rintro e w9 ⟨rfl, rfl⟩)
      go_region_held (fun W => Below w1.heap.size w1 W) (first | assumption) (first
        | (go_at_call 51; refine (HNUM1.out _).mono ?_; rintro e w3 ⟨v3, rfl, ho3, b3⟩; have hS3 := below_next (by assumption) b3)
        | (go_at_call 91; refine (HSTR.out _ _ _ ho3.bs (HL.out.1 _)).mono ?_; rintro e w4 ⟨v4, rfl, ho4, b4⟩; have hS4 := below_next (by assumption) b4))
      all_goals clear hX0 hX1 hS0
      all_goals go_wp2_with fail
      all_goals go_ret
      all_goals exact ⟨_, rfl, ho4.mono (by have := HB0.out.size; have := hS3.size; omega), HB0.out.trans (hS4.mono HB0.out.size)⟩
    | false =>
      have HR2 := HR.out
      simp only [if_true, Bool.false_eq_true, if_false] at HR2
      subst HR2
      go_enter Tryz.func59, Tryz.ntmps59
      go_wp2_with fail
      go_wp2_with (go_at_call 87; refine (HSEC.out _).mono ?_; rintro e w9 ⟨rfl, rfl⟩)
      go_region_held (fun W => Below w1.heap.size w1 W) (first | assumption) (first
        | (go_at_call 92; refine (HTXT1.out _).mono ?_; rintro e w3 ⟨v3, rfl, ho3, b3⟩; have hS3 := below_next (by assumption) b3)
        | (go_at_call 91; refine (HSTR.out _ _ _ ho3.bs (HL.out.2 _)).mono ?_; rintro e w4 ⟨v4, rfl, ho4, b4⟩; have hS4 := below_next (by assumption) b4))
      all_goals clear hX0 hX1 hS0
      all_goals go_wp2_with fail
      all_goals go_ret
      all_goals exact ⟨_, rfl, ho4.mono (by have := HB0.out.size; have := hS3.size; omega), HB0.out.trans (hS4.mono HB0.out.size)⟩
  | false =>
    cases nm with
    | true =>
      have HR2 := HR.out
      simp only [if_true, Bool.false_eq_true, if_false] at HR2
      subst HR2
      go_enter Tryz.func59, Tryz.ntmps59
      go_wp2_with fail
      go_wp2_with (go_at_call 87; refine (HSEC.out _).mono ?_; rintro e w9 ⟨rfl, rfl⟩)
      go_region_held (fun W => Below w1.heap.size w1 W) (first | assumption) (first
        | (go_at_call 51; refine (HNUM0.out _).mono ?_; rintro e w3 ⟨v3, rfl, ho3, b3⟩; have hS3 := below_next (by assumption) b3)
        | (go_at_call 91; refine (HSTR.out _ _ _ ho3.bs (HL.out.1 _)).mono ?_; rintro e w4 ⟨v4, rfl, ho4, b4⟩; have hS4 := below_next (by assumption) b4))
      all_goals clear hX0 hX1 hS0
      all_goals go_wp2_with fail
      all_goals go_ret
      all_goals exact ⟨_, rfl, ho4.mono (by have := HB0.out.size; have := hS3.size; omega), HB0.out.trans (hS4.mono HB0.out.size)⟩
    | false =>
      have HR2 := HR.out
      simp only [Bool.false_eq_true, if_false] at HR2
      subst HR2
      go_enter Tryz.func59, Tryz.ntmps59
      go_wp2_with fail
      go_wp2_with (go_at_call 87; refine (HSEC.out _).mono ?_; rintro e w9 ⟨rfl, rfl⟩)
      go_region_held (fun W => Below w1.heap.size w1 W) (first | assumption) (first
        | (go_at_call 92; refine (HTXT0.out _).mono ?_; rintro e w3 ⟨v3, rfl, ho3, b3⟩; have hS3 := below_next (by assumption) b3)
        | (go_at_call 91; refine (HSTR.out _ _ _ ho3.bs (HL.out.2 _)).mono ?_; rintro e w4 ⟨v4, rfl, ho4, b4⟩; have hS4 := below_next (by assumption) b4))
      all_goals clear hX0 hX1 hS0
      all_goals go_wp2_with fail
      all_goals go_ret
      all_goals exact ⟨_, rfl, ho4.mono (by have := HB0.out.size; have := hS3.size; omega), HB0.out.trans (hS4.mono HB0.out.size)⟩

end Go.Proofs.YtebakjdeighdnaaGreat
