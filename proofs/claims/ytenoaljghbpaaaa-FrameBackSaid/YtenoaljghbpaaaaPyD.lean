/-
  Payloads, the program's: settings read; data between padding.
-/
import Derived.Test.YtenoaljghbpaaaaPyC
import Derived.Test.YtenoaljghbpaaaaStpD
import Derived.Test.YtenoaljghbpaaaaSliceM
namespace Go.Proofs.Ytenoaljghbpaaaa
open Go.RowKit
set_option linter.unusedVariables false
set_option linter.unusedSimpArgs false

set_option maxRecDepth 100000 in
set_option maxHeartbeats 4000000 in
theorem readSettings_any (v0 : Value) (l0 : List UInt8) (w : World) (hv : Bs w v0 l0) (h6 : l0.length % 6 = 0) (hl : l0.length ≤ 1000000) :
    Calls Try.prog 88 #[v0] w fun e w' => ∃ u l, e = .returned u ∧ Rows 2 sgvl w' u l ∧ Below w.heap.size w w' := by
  obtain ⟨i0, hi, hz, hz1, hz2⟩ := infoSg'
  have Hi := Bx.mk hi
  have Hz := Bx.mk hz
  have Hz1 := Bx.mk hz1
  have Hz2 := Bx.mk hz2
  obtain ⟨m, hm⟩ : ∃ m, l0.length / 6 = m := ⟨_, rfl⟩
  have hmn : l0.length = 6 * m := by omega
  have hlen := fun tr W => hv.run_len tr W
  obtain ⟨N, hN⟩ : ∃ N : Int, (l0.length : Int) = N := ⟨_, rfl⟩
  rw [hN] at hlen
  have hq : N.tdiv 6 = (m : Int) := by rw [← hN, Int.tdiv_eq_ediv_of_nonneg (by omega)]; omega
  have hwq : wrap64 (m : Int) = (m : Int) := by unfold wrap64; omega
  have hwq2 : IntKind.i64.wrap (m : Int) = (m : Int) := by rw [IntKind.wrap_i64]; omega
  have HM := Bx.mk (And.intro hmn hl)
  have HV := Bx.mk hv
  clear hi hz hz1 hz2 hv h6 hl hm hN hmn
  go_enter Try.func88, Try.ntmps88
  go_wp2_with (first
    | (at_make; refine wpList_make_own _ rfl _ _ _ rfl w.heap.size 63 i0 _ 2 Try.underlying48 Hi.out Hz.out Hz1.out .i64 .i64 _ m rfl rfl rfl (by rw [Hz2.out]; have := HM.out; omega) (by have := HM.out; simp only [maxLen]; omega) (Nat.le_refl _) ?_; intro w1 hown hg; have HA1 : Bx (AnS w1 w.heap.size _ []) := ⟨.inl hown⟩; have HB1 : Bx (Below w.heap.size w w1) := ⟨(Below.refl _ _).grown hg (Nat.le_refl _) (by simp)⟩; clear hown hg))
  have HL0 : Bx (l0.length = 6 * m) := ⟨HM.out.1⟩
  clear hlen hq hwq hwq2
  go_loopg [0, 3] m (fun g s0 s3 wx => ∃ (l : List UInt8) (ss : List Stg) (vb vs : Value), l.length = 6 * g ∧ ss.length + g = m ∧ vb = s0 ∧ vs = s3 ∧ Bx (Bs w vb l) ∧ Bx (AnS wx w.heap.size vs ss) ∧ Bx (Below w.heap.size w wx))
  case atStart => exact ⟨l0, [], _, _, HL0.out, by simp, rfl, rfl, HV, HA1, HB1⟩
  case round =>
    clear HV HA1 HB1 HL0
    obtain ⟨l, ss, vb, vs, hlg, hsg, rfl, rfl, HV, HA, HB⟩ := hrel
    have hlen := fun tr W => HV.out.run_len tr W
    cases gk with
    | zero =>
      rw [show (l.length : Int) = 0 by omega] at hlen
      clear hlg hsg
      go_wp2_with fail
      go_ret
      exact ⟨_, _, rfl, HA.out.rows, HB.out⟩
    | succ g =>
      have hl6 : 6 ≤ l.length := by omega
      have hlm : l.length ≤ 1000000 := by have := HM.out.1; have := HM.out.2; omega
      have HR := readBig_ok vb l 6 wr (HV.out.keep HB.out) (by omega) (by omega) (by omega) hlm
      obtain ⟨x, hx⟩ : ∃ x, rb (l.take (Int.toNat 6)) = x := ⟨_, rfl⟩
      have hxl : x < 281474976710656 := by
        have := rb_lt_n (l.take 6) 6 (by rw [List.length_take]; omega)
        rw [← hx]
        simpa using this
      rw [hx] at HR
      obtain ⟨L, hL⟩ : ∃ L : Int, (l.length : Int) = L := ⟨_, rfl⟩
      obtain ⟨X, hX⟩ : ∃ L : Int, (x : Int) = L := ⟨_, rfl⟩
      rw [hL] at hlen
      rw [hX] at HR
      replace HR := Bx.mk HR
      have hgt : decide (0 < L) = true := decide_eq_true (by omega)
      obtain ⟨I, hI⟩ : ∃ I : Int, ((x / 4294967296 : Nat) : Int) = I := ⟨_, rfl⟩
      obtain ⟨V, hVV⟩ : ∃ I : Int, ((x % 4294967296 : Nat) : Int) = I := ⟨_, rfl⟩
      have hs1 : X / 2 ^ 32 = I := by rw [← hI, ← hX]; omega
      have hs2 : X / 4294967296 = I := by omega
      have hc1 : IntKind.u32.wrap X = V := by rw [IntKind.wrap_u32]; omega
      have hc2 : IntKind.u64.wrap V = V := by rw [IntKind.wrap_u64]; omega
      obtain ⟨vn, hsl, hvn⟩ := HV.out.from_ 6 (by omega) (by omega)
      have HR1 : Bx (Rows 2 sgvl (wr.alloc (.cells #[.int .u64 I, .int .u64 V] 63)) (.slice (some ⟨wr.heap.size, 0, none⟩) 1 1) [(⟨x / 4294967296, x % 4294967296⟩ : Stg)]) := ⟨Rows.lit wr 63 [(⟨x / 4294967296, x % 4294967296⟩ : Stg)] _ 1 rfl (by rw [← hI, ← hVV]; rfl) rfl (by unfold maxLen; omega)⟩
      have HA1 := Bx.mk (HA.out.keep ((Below.refl wr.heap.size wr).alloc (Nat.le_refl _) (.cells #[.int .u64 I, .int .u64 V] 63)))
      have HB1 := Bx.mk (HB.out.alloc HB.out.size (.cells #[.int .u64 I, .int .u64 V] 63))
      have HSL := Bx.mk (show ss.length ≤ 1000000 by have := HM.out.1; have := HM.out.2; omega)
      have HLG := Bx.mk (And.intro hlg hsg)
      have HVN := Bx.mk hvn
      clear hI hVV hX hL hx hxl hlm hl6 hlg hsg hvn
      go_wp2_with (first
        | (go_at_call 75; refine HR.out.mono ?_; rintro e w2 ⟨rfl, hw⟩; subst hw)
        | (at_builtin; refine wpList_append_sg rfl _ _ rfl w.heap.size vs _ _ ⟨x / 4294967296, x % 4294967296⟩ rfl rfl HA1.out HR1.out HSL.out HB1.out.size ?_; intro v7 w7 hA7 hb7; have HA7 := Bx.mk hA7; have HB7 := Bx.mk (HB1.out.trans hb7); clear hA7 hb7))
      go_roundg g
      case measure => omega
      case rel => exact ⟨l.drop 6, ss ++ [⟨x / 4294967296, x % 4294967296⟩], _, _, by rw [List.length_drop]; have := HLG.out.1; omega, by rw [List.length_append]; have := HLG.out.2; simp; omega, rfl, rfl, ⟨HVN.out w HV.out⟩, HA7, HB7⟩
end Go.Proofs.Ytenoaljghbpaaaa
