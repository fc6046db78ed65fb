/-
  bifoldlaw1.NumLonger answers true, whatever its arguments: the walk.
-/
import Derived.Test.YtfhlikfjoldnfaaNumK
import Derived.Test.YtfhlikfjoldnfaaNumMath
import Derived.Test.YtfhlikfjoldnfaaSlice
import Derived.Test.YtfhlikfjoldnfaaOpen
import Derived.Deep.QuietTactic
import Derived.BigQuiet
namespace Go.Proofs.Ytfhlikfjoldnfaa
open Go.RowKit
set_option linter.unusedVariables false

theorem longer_wf_u64 {a : Int} (h : (Lit.int .u64 a).wf = true) : 0 ≤ a ∧ a < 18446744073709551616 := by
  simp [Lit.wf, IntKind.min, IntKind.max, IntKind.signed, IntKind.bits] at h
  omega
theorem longer_wf_u8 {a : Int} (h : (Lit.int .u8 a).wf = true) : 0 ≤ a ∧ a < 256 := by
  simp [Lit.wf, IntKind.min, IntKind.max, IntKind.signed, IntKind.bits] at h
  omega
theorem clsLen_le_of (V n : Nat) (q : Nat) (hq : q < 4) (hn : n = 2 ^ q) (hV : V < 2 ^ (8 * n - 2)) : clsLen (V : Int) ≤ (n : Int) := by
  have hl := clsLen_at (V : Int)
  have : q = 0 ∨ q = 1 ∨ q = 2 ∨ q = 3 := by omega
  unfold clsLen
  rcases this with rfl | rfl | rfl | rfl <;> subst hn <;> simp at hV <;> (repeat' split) <;> omega

set_option maxRecDepth 100000 in
set_option maxHeartbeats 1000000 in
theorem longer_0 (x : Nat) (a1 : Int) (hx : x < 18446744073709551616) (h0 : 0 ≤ a1) (h1 : a1 < 256) (hq : a1 % 4 = 0) (w : World) :
    Calls Try.prog 9 #[.int .u64 x, .int .u8 a1] w fun e w' => e = .returned (.bool true) ∧ Below w.heap.size w w' := by
  have hand : bits .and .u64 (x : Int) 63 = ((x % 2 ^ 6 : Nat) : Int) := u64_mask x 6 _ (by rfl) (by omega) hx
  obtain ⟨V, hVe⟩ : ∃ V, x % 2 ^ 6 = V := ⟨_, rfl⟩
  have hV : V < 2 ^ 6 := by rw [← hVe]; exact Nat.mod_lt _ (Nat.two_pow_pos _)
  rw [hVe] at hand
  have hor : bits .or .u64 (V : Int) 0 = (V : Int) := by have h := or_mark' V 6 0 0 (by rfl) (by omega) (by omega); simpa using h
  have hrv := rv_bes 0 1 V (by omega) (by rfl) hV []
  rw [List.append_nil] at hrv
  have hcl := clsLen_le_of V 1 0 (by omega) (by rfl) hV
  have hclb : decide (clsLen (V : Int) ≤ 1) = true := by rw [decide_eq_true_iff]; exact hcl
  have HV : Bx (V < 2 ^ 6) := ⟨hV⟩
  have hw : (((V + 0 * 2 ^ (8 * 1 - 2) : Nat) : Int)) = (V : Int) := by simp <;> rfl
  rw [hw] at hrv
  have Hrv : Bx _ := ⟨hrv⟩
  clear hcl hV hVe hx hw hrv
  go_enter Try.func9, Try.ntmps9
  go_wp2_with (first
    | (go_at_call 11; refine (known_any _).mono ?_; rintro e w1 ⟨rfl, b1⟩)
    | (go_at_call 24; refine (refBig_any w1.heap.size _ [] ((V : Int)) 1 _ (Ap.nil _ _ _) (by simp) (by simp) (by omega) (by have := HV.out; simp at this; omega)).mono ?_; rintro e w2 ⟨v2, rfl, h2, b2⟩; rw [List.nil_append] at h2; have H2 : Bx (Bs w2 v2 (bes ((V : Int)) 1)) := ⟨h2.rd⟩; clear h2)
    | (go_at_call 14; refine (readVar_any _ _ _ H2.out (by simp [bes_len])).mono ?_; rintro e w' ⟨rfl, rfl⟩; rw [Hrv.out]; unfold Ans3)
    | (go_at_call 15; refine (varLen_any _ (by omega) (by have := HV.out; simp at this; omega) _).mono ?_; rintro e w' ⟨rfl, rfl⟩))
  go_ret
  exact ⟨rfl, b1.trans (((Below.refl _ _).alloc b1.size _).trans (b2.mono b1.size))⟩

set_option maxRecDepth 100000 in
set_option maxHeartbeats 1000000 in
theorem longer_1 (x : Nat) (a1 : Int) (hx : x < 18446744073709551616) (h0 : 0 ≤ a1) (h1 : a1 < 256) (hq : a1 % 4 = 1) (w : World) :
    Calls Try.prog 9 #[.int .u64 x, .int .u8 a1] w fun e w' => e = .returned (.bool true) ∧ Below w.heap.size w w' := by
  have hand : bits .and .u64 (x : Int) 16383 = ((x % 2 ^ 14 : Nat) : Int) := u64_mask x 14 _ (by rfl) (by omega) hx
  obtain ⟨V, hVe⟩ : ∃ V, x % 2 ^ 14 = V := ⟨_, rfl⟩
  have hV : V < 2 ^ 14 := by rw [← hVe]; exact Nat.mod_lt _ (Nat.two_pow_pos _)
  rw [hVe] at hand
  have hor : bits .or .u64 (V : Int) 16384 = (V : Int) + 16384 := or_mark' V 14 1 _ (by rfl) hV (by omega)
  have hrv := rv_bes 1 2 V (by omega) (by rfl) hV []
  rw [List.append_nil] at hrv
  have hcl := clsLen_le_of V 2 1 (by omega) (by rfl) hV
  have hclb : decide (clsLen (V : Int) ≤ 2) = true := by rw [decide_eq_true_iff]; exact hcl
  have HV : Bx (V < 2 ^ 14) := ⟨hV⟩
  have hw : (((V + 1 * 2 ^ (8 * 2 - 2) : Nat) : Int)) = (V : Int) + 16384 := by simp <;> rfl
  rw [hw] at hrv
  have Hrv : Bx _ := ⟨hrv⟩
  clear hcl hV hVe hx hw hrv
  go_enter Try.func9, Try.ntmps9
  go_wp2_with (first
    | (go_at_call 11; refine (known_any _).mono ?_; rintro e w1 ⟨rfl, b1⟩)
    | (go_at_call 24; refine (refBig_any w1.heap.size _ [] ((V : Int) + 16384) 2 _ (Ap.nil _ _ _) (by simp) (by simp) (by omega) (by have := HV.out; simp at this; omega)).mono ?_; rintro e w2 ⟨v2, rfl, h2, b2⟩; rw [List.nil_append] at h2; have H2 : Bx (Bs w2 v2 (bes ((V : Int) + 16384) 2)) := ⟨h2.rd⟩; clear h2)
    | (go_at_call 14; refine (readVar_any _ _ _ H2.out (by simp [bes_len])).mono ?_; rintro e w' ⟨rfl, rfl⟩; rw [Hrv.out]; unfold Ans3)
    | (go_at_call 15; refine (varLen_any _ (by omega) (by have := HV.out; simp at this; omega) _).mono ?_; rintro e w' ⟨rfl, rfl⟩))
  go_ret
  exact ⟨rfl, b1.trans (((Below.refl _ _).alloc b1.size _).trans (b2.mono b1.size))⟩

set_option maxRecDepth 100000 in
set_option maxHeartbeats 1000000 in
theorem longer_2 (x : Nat) (a1 : Int) (hx : x < 18446744073709551616) (h0 : 0 ≤ a1) (h1 : a1 < 256) (hq : a1 % 4 = 2) (w : World) :
    Calls Try.prog 9 #[.int .u64 x, .int .u8 a1] w fun e w' => e = .returned (.bool true) ∧ Below w.heap.size w w' := by
  have hand : bits .and .u64 (x : Int) 1073741823 = ((x % 2 ^ 30 : Nat) : Int) := u64_mask x 30 _ (by rfl) (by omega) hx
  obtain ⟨V, hVe⟩ : ∃ V, x % 2 ^ 30 = V := ⟨_, rfl⟩
  have hV : V < 2 ^ 30 := by rw [← hVe]; exact Nat.mod_lt _ (Nat.two_pow_pos _)
  rw [hVe] at hand
  have hor : bits .or .u64 (V : Int) 2147483648 = (V : Int) + 2147483648 := or_mark' V 30 2 _ (by rfl) hV (by omega)
  have hrv := rv_bes 2 4 V (by omega) (by rfl) hV []
  rw [List.append_nil] at hrv
  have hcl := clsLen_le_of V 4 2 (by omega) (by rfl) hV
  have hclb : decide (clsLen (V : Int) ≤ 4) = true := by rw [decide_eq_true_iff]; exact hcl
  have HV : Bx (V < 2 ^ 30) := ⟨hV⟩
  have hw : (((V + 2 * 2 ^ (8 * 4 - 2) : Nat) : Int)) = (V : Int) + 2147483648 := by simp <;> rfl
  rw [hw] at hrv
  have Hrv : Bx _ := ⟨hrv⟩
  clear hcl hV hVe hx hw hrv
  go_enter Try.func9, Try.ntmps9
  go_wp2_with (first
    | (go_at_call 11; refine (known_any _).mono ?_; rintro e w1 ⟨rfl, b1⟩)
    | (go_at_call 24; refine (refBig_any w1.heap.size _ [] ((V : Int) + 2147483648) 4 _ (Ap.nil _ _ _) (by simp) (by simp) (by omega) (by have := HV.out; simp at this; omega)).mono ?_; rintro e w2 ⟨v2, rfl, h2, b2⟩; rw [List.nil_append] at h2; have H2 : Bx (Bs w2 v2 (bes ((V : Int) + 2147483648) 4)) := ⟨h2.rd⟩; clear h2)
    | (go_at_call 14; refine (readVar_any _ _ _ H2.out (by simp [bes_len])).mono ?_; rintro e w' ⟨rfl, rfl⟩; rw [Hrv.out]; unfold Ans3)
    | (go_at_call 15; refine (varLen_any _ (by omega) (by have := HV.out; simp at this; omega) _).mono ?_; rintro e w' ⟨rfl, rfl⟩))
  go_ret
  exact ⟨rfl, b1.trans (((Below.refl _ _).alloc b1.size _).trans (b2.mono b1.size))⟩

set_option maxRecDepth 100000 in
set_option maxHeartbeats 1000000 in
theorem longer_3 (x : Nat) (a1 : Int) (hx : x < 18446744073709551616) (h0 : 0 ≤ a1) (h1 : a1 < 256) (hq : a1 % 4 = 3) (w : World) :
    Calls Try.prog 9 #[.int .u64 x, .int .u8 a1] w fun e w' => e = .returned (.bool true) ∧ Below w.heap.size w w' := by
  have hand : bits .and .u64 (x : Int) 4611686018427387903 = ((x % 2 ^ 62 : Nat) : Int) := u64_mask x 62 _ (by rfl) (by omega) hx
  obtain ⟨V, hVe⟩ : ∃ V, x % 2 ^ 62 = V := ⟨_, rfl⟩
  have hV : V < 2 ^ 62 := by rw [← hVe]; exact Nat.mod_lt _ (Nat.two_pow_pos _)
  rw [hVe] at hand
  have hor : bits .or .u64 (V : Int) 13835058055282163712 = (V : Int) + 13835058055282163712 := or_mark' V 62 3 _ (by rfl) hV (by omega)
  have hrv := rv_bes 3 8 V (by omega) (by rfl) hV []
  rw [List.append_nil] at hrv
  have hcl := clsLen_le_of V 8 3 (by omega) (by rfl) hV
  have hclb : decide (clsLen (V : Int) ≤ 8) = true := by rw [decide_eq_true_iff]; exact hcl
  have HV : Bx (V < 2 ^ 62) := ⟨hV⟩
  have hw : (((V + 3 * 2 ^ (8 * 8 - 2) : Nat) : Int)) = (V : Int) + 13835058055282163712 := by simp <;> rfl
  rw [hw] at hrv
  have Hrv : Bx _ := ⟨hrv⟩
  clear hcl hV hVe hx hw hrv
  go_enter Try.func9, Try.ntmps9
  go_wp2_with (first
    | (go_at_call 11; refine (known_any _).mono ?_; rintro e w1 ⟨rfl, b1⟩)
    | (go_at_call 24; refine (refBig_any w1.heap.size _ [] ((V : Int) + 13835058055282163712) 8 _ (Ap.nil _ _ _) (by simp) (by simp) (by omega) (by have := HV.out; simp at this; omega)).mono ?_; rintro e w2 ⟨v2, rfl, h2, b2⟩; rw [List.nil_append] at h2; have H2 : Bx (Bs w2 v2 (bes ((V : Int) + 13835058055282163712) 8)) := ⟨h2.rd⟩; clear h2)
    | (go_at_call 14; refine (readVar_any _ _ _ H2.out (by simp [bes_len])).mono ?_; rintro e w' ⟨rfl, rfl⟩; rw [Hrv.out]; unfold Ans3)
    | (go_at_call 15; refine (varLen_any _ (by omega) (by have := HV.out; simp at this; omega) _).mono ?_; rintro e w' ⟨rfl, rfl⟩))
  go_ret
  exact ⟨rfl, b1.trans (((Below.refl _ _).alloc b1.size _).trans (b2.mono b1.size))⟩

theorem numLonger_walk (a0 : Int) (a1 : Int) (w0 : (Lit.int .u64 a0).wf = true) (w1 : (Lit.int .u8 a1).wf = true) (w : World) :
    Calls Try.prog 9 #[.int .u64 a0, .int .u8 a1] w fun e w' => e = .returned (.bool true) ∧ Below w.heap.size w w' := by
  obtain ⟨g0, g1⟩ := longer_wf_u64 w0
  obtain ⟨h0, h1⟩ := longer_wf_u8 w1
  obtain ⟨x, rfl⟩ := Int.eq_ofNat_of_zero_le g0
  have hq : a1 % 4 = 0 ∨ a1 % 4 = 1 ∨ a1 % 4 = 2 ∨ a1 % 4 = 3 := by omega
  rcases hq with q | q | q | q
  · exact longer_0 x a1 (by omega) h0 h1 q w
  · exact longer_1 x a1 (by omega) h0 h1 q w
  · exact longer_2 x a1 (by omega) h0 h1 q w
  · exact longer_3 x a1 (by omega) h0 h1 q w

end Go.Proofs.Ytfhlikfjoldnfaa
