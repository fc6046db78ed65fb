/-
  bifoldlaw1.NumCuts answers true, whatever its arguments: the walk.
-/
import Derived.Test.YtfhlikfjoldnfaaNumK
import Derived.Test.YtfhlikfjoldnfaaNumMath2
import Derived.Test.YtfhlikfjoldnfaaSlice
import Derived.Test.YtfhlikfjoldnfaaOpen
import Derived.Deep.QuietTactic
import Derived.BigQuiet
namespace Go.Proofs.Ytfhlikfjoldnfaa
open Go.RowKit
set_option linter.unusedVariables false

theorem cuts_wf_u64 {a : Int} (h : (Lit.int .u64 a).wf = true) : 0 ≤ a ∧ a < 18446744073709551616 := by
  simp [Lit.wf, IntKind.min, IntKind.max, IntKind.signed, IntKind.bits] at h
  omega
theorem cuts_wf_u8 {a : Int} (h : (Lit.int .u8 a).wf = true) : 0 ≤ a ∧ a < 256 := by
  simp [Lit.wf, IntKind.min, IntKind.max, IntKind.signed, IntKind.bits] at h
  omega
theorem cont_pos (n v : Nat) : 1 ≤ (cont (n + 1) v).length := by
  rw [cont]; split <;> simp
theorem pre_range (f : UInt8) (k v : Nat) : 1 ≤ (pre f k v).length ∧ (pre f k v).length ≤ 11 := by
  unfold pre
  split
  · simp
  · have := cont_length 10 (v - (2 ^ k - 1))
    simp; omega
theorem varB_pos (x : Nat) (h : x < 4611686018427387904) : 1 ≤ (varB (x : Int)).length ∧ (varB (x : Int)).length ≤ 8 := by
  have h2 := varB_length (x : Int)
  obtain ⟨q, n, hq, hn, hx, he, hl⟩ := clsOf x h
  rw [he, bes_len]
  rw [he, bes_len] at h2
  refine ⟨?_, h2⟩
  rw [hn]; exact Nat.one_le_two_pow

set_option maxRecDepth 100000 in
set_option maxHeartbeats 1000000 in
theorem numCuts_walk (a0 : Int) (a1 : Int) (a2 : Int) (w0 : (Lit.int .u64 a0).wf = true) (w1 : (Lit.int .u8 a1).wf = true) (w2 : (Lit.int .u8 a2).wf = true) (w : World) :
    Calls Try.prog 7 #[.int .u64 a0, .int .u8 a1, .int .u8 a2] w fun e w' => e = .returned (.bool true) ∧ Below w.heap.size w w' := by
  obtain ⟨g0, g1⟩ := cuts_wf_u64 w0
  obtain ⟨g2, g3⟩ := cuts_wf_u8 w1
  obtain ⟨g4, g5⟩ := cuts_wf_u8 w2
  obtain ⟨x, rfl⟩ := Int.eq_ofNat_of_zero_le g0
  obtain ⟨a, rfl⟩ := Int.eq_ofNat_of_zero_le g4
  have hand : bits .and .u64 (x : Int) 4611686018427387903 = ((x % 2 ^ 62 : Nat) : Int) := u64_mask x 62 _ (by rfl) (by omega) (by omega)
  have hV : x % 2 ^ 62 < 4611686018427387904 := Nat.mod_lt _ (by decide)
  generalize x % 2 ^ 62 = V at hand hV
  have HV : Bx (V < 4611686018427387904) := ⟨hV⟩
  clear w0 w1 w2 g0 g1 hV
  obtain ⟨k, hk⟩ := Int.eq_ofNat_of_zero_le (show 0 ≤ a1 % 8 by omega)
  have hk7 : k ≤ 7 := by omega
  go_enter Try.func7, Try.ntmps7
  go_wp2_with (first
    | (go_at_call 11; refine (known_any _).mono ?_; rintro e w1 ⟨rfl, b1⟩)
    | (go_at_call 12; refine (var_at _ _ (by simp) (V : Int) (by omega) (by have := HV.out; omega)).mono ?_; rintro e w2 ⟨v2, rfl, h2, b2⟩; have H2 : Bx (Bs w2 v2 (varB V)) := ⟨h2⟩; have HB2 : Bx (Below w.heap.size w w2) := ⟨b1.trans (b2.mono b1.size)⟩; clear h2 b2)
    | (go_at_call 21; refine (prefix_int _ [] 0 _ (V : Int) _ (Rd.nil _) (by simp) (by omega) (by omega) (by omega) (by have := HV.out; omega)).mono ?_; rintro e w3 ⟨v3, rfl, h3, b3⟩; have H3 : Bx (Bs w3 v3 (pre 0 (bitsOf ((k : Int) + 1)) V)) := ⟨h3.rd⟩; clear h3))
  have hbits : bitsOf ((k : Int) + 1) = k + 1 := by unfold bitsOf; omega
  rw [hbits] at H3
  have hbn := varB_pos V HV.out
  have hpn := pre_range 0 (k + 1) V
  have hl2 := fun ty W => H2.out.run_len ty W
  have hl3 := fun ty W => H3.out.run_len ty W
  have Hv := fun i => rv_cut V i HV.out
  have Hp := fun j => rp_cut 0 (k + 1) V j (by omega) (by omega) (by have := HV.out; unfold maxVar; omega)
  generalize varB (V : Int) = L2 at H2 hl2 hbn Hv
  generalize pre 0 (k + 1) V = L3 at H3 hl3 hpn Hp
  obtain ⟨n2, hn2⟩ : ∃ n, L2.length = n := ⟨_, rfl⟩
  obtain ⟨n3, hn3⟩ : ∃ n, L3.length = n := ⟨_, rfl⟩
  rw [hn2] at hl2 hbn Hv
  rw [hn3] at hl3 hpn Hp
  have hi2 : a % n2 < n2 := Nat.mod_lt _ (by omega)
  have hi3 : a % n3 < n3 := Nat.mod_lt _ (by omega)
  obtain ⟨s2, hs2, hr2⟩ := H2.out.upto ((a : Int) % (n2 : Int)) (by omega) (by rw [hn2]; omega)
  obtain ⟨s3, hs3, hr3⟩ := H3.out.upto ((a : Int) % (n3 : Int)) (by omega) (by rw [hn3]; omega)
  rw [show ((a : Int) % (n2 : Int)).toNat = a % n2 from by omega] at hr2
  rw [show ((a : Int) % (n3 : Int)).toNat = a % n3 from by omega] at hr3
  have HS2 : Bx (Bs w3 s2 (L2.take (a % n2))) := ⟨hr2 _ (Rd.keep H2.out b3)⟩
  have HS3 : Bx (Bs w3 s3 (L3.take (a % n3))) := ⟨hr3 _ H3.out⟩
  have HRV : Bx (rv (L2.take (a % n2)) = (0, 0, 20)) := ⟨Hv _ hi2⟩
  have HRP : Bx (rp (k + 1) (L3.take (a % n3)) = (0, 0, 20)) := ⟨Hp _ hi3⟩
  have HB3 : Bx (Below w.heap.size w w3) := ⟨HB2.out.trans (b3.mono HB2.out.size)⟩
  have Hbits : Bx (bitsOf ((k : Int) + 1) = k + 1) := ⟨hbits⟩
  have Hn2 : Bx (L2.length = n2) := ⟨hn2⟩
  have Hn3 : Bx (L3.length = n3) := ⟨hn3⟩
  obtain ⟨hb1, hb2⟩ := hbn
  obtain ⟨hp1, hp2⟩ := hpn
  have hz2 : ((n2 : Int) == 0) = false := by rw [beq_eq_false_iff_ne]; omega
  have hz3 : ((n3 : Int) == 0) = false := by rw [beq_eq_false_iff_ne]; omega
  clear hr2 hr3 Hv Hp hbits hn2 hn3
  go_region
  have HT2 : Bx (Bs w3.drew s2 (L2.take (a % n2))) := ⟨HS2.out.drew⟩
  have HT3 : Bx (Bs w3.drew s3 (L3.take (a % n3))) := ⟨HS3.out.drew⟩
  go_wp2_with (first
    | (go_at_call 14; refine (readVar_any _ _ _ HT2.out (by have := Hn2.out; simp; omega)).mono ?_; rintro e w' ⟨rfl, rfl⟩; rw [HRV.out]; unfold Ans3)
    | (go_at_call 17; refine (readPrefix_any _ _ _ _ HT3.out (by have := Hn3.out; simp; omega)).mono ?_; rintro e w' ⟨rfl, rfl⟩; rw [Hbits.out, HRP.out]; unfold Ans3))
  go_ret
  exact ⟨rfl, HB3.out.drew⟩

end Go.Proofs.Ytfhlikfjoldnfaa
