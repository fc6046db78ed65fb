/-
  bifoldlaw1.known answers true.
-/
import Derived.Test.YtfhlikfjoldnfaaNumF
import Derived.Test.YtfhlikfjoldnfaaNumI
import Derived.Laws.BytesArg
namespace Go.Proofs.Ytfhlikfjoldnfaa
open Go.RowKit
set_option linter.unusedVariables false

/-- The string of some bytes. -/
def bstr (l : List UInt8) : ByteArray := ⟨l.toArray⟩
theorem bstr_inj {a b : List UInt8} (h : bstr a = bstr b) : a = b := by
  unfold bstr at h
  injection h with h
  exact List.toArray_inj h

theorem conv_str {w : World} {v : Value} {l : List UInt8} (h : Bs w v l) : (convert 22 9 v).run Try.prog w = .ok (.string (bstr l)) w := by
  rcases Nat.eq_zero_or_pos l.length with h0 | h0
  · obtain rfl : l = [] := List.eq_nil_of_length_eq_zero h0
    obtain ⟨A, c, rfl, h1, h2, h3⟩ := h
    rcases h3 with ⟨rfl, rfl⟩ | ⟨x, rfl, _⟩
    · exact run_convert_bytes_nil (P := Try.prog) w 22 5 Try.underlying22 Try.underlying5 _ _ 9 Try.underlying9
    · rw [run_convert_bytes_string w 22 9 5 _ _ _ Try.underlying22 Try.underlying5 Try.underlying9]
      have := run_bytesToString (P := Try.prog) w x 0 c [] (by simp [loadCells, loadCellsFrom])
      exact this
  · obtain ⟨b, o, c, rfl, h1, h2, h3, hc⟩ := Rd.at_ h (by simpa using h0)
    rw [List.length_map]
    have := run_convert_bytes_arg (P := Try.prog) w 22 5 Try.underlying22 Try.underlying5 b o l.length c (l.map fun x => (x.toNat : Int)) (by simp) (fun i hi => by
      have := hc i (.int .u8 (l[i].toNat : Int)) (by simp [bv, hi])
      rw [this]
      simp [List.getD, hi]) 9 Try.underlying9
    rw [this]
    congr 2
    unfold strOfNums bstr
    congr 2
    rw [List.map_map]
    conv => rhs; rw [← List.map_id l]
    apply List.map_congr_left
    intro x _
    simp

theorem lit1 (w : World) (n : Nat) (h : n < 18446744073709551616) : Rd (w.alloc (.cells #[.int .u64 (n : Int)] 30)) (.slice (some ⟨w.heap.size, 0, none⟩) 1 1) ([UInt64.ofNat n].map uv) := by
  have := Rd.lit w 30 #[.int .u64 (n : Int)] 1 rfl (by simp [maxLen])
  have e : [UInt64.ofNat n].map uv = [.int .u64 (n : Int)] := by
    simp only [List.map_cons, List.map_nil, uv]
    rw [UInt64.toNat_ofNat', Nat.mod_eq_of_lt (by have : (2:Nat) ^ 64 = 18446744073709551616 := by decide
                                                  omega)]
  rw [e]
  exact this

/-- One number, written. -/
theorem var_one (w : World) (n : Nat) (hn : n < 4611686018427387904) :
    Calls Try.prog 12 #[.slice none 0 0, .slice (some ⟨w.heap.size, 0, none⟩) 1 1] (w.alloc (.cells #[.int .u64 (n : Int)] 30)) fun e w' =>
      ∃ v', e = .returned (.tuple #[v', .int .i64 0]) ∧ Bs w' v' (varB n) ∧ Below w.heap.size w w' := by
  refine (var_any _ _ [] [UInt64.ofNat n] _ (Rd.nil _) (lit1 w n (by omega)) (by simp) (by simp)).mono ?_
  have hs : (UInt64.ofNat n).toNat = n := by
    rw [UInt64.toNat_ofNat', Nat.mod_eq_of_lt (by have : (2:Nat) ^ 64 = 18446744073709551616 := by decide
                                                  omega)]
  rintro e w' (⟨_, v', rfl, hap, hb⟩ | ⟨hno, _⟩)
  · refine ⟨v', rfl, ?_, ((Below.refl _ _).alloc (Nat.le_refl _) _).trans (hb.mono (by simp))⟩
    have := hap.rd
    have e : ([] : List UInt8) ++ varsB [UInt64.ofNat n] = varB n := by simp [varsB, hs]
    rw [e] at this
    exact this
  · exact absurd (fun x hx => by simp at hx; subst hx; unfold small; omega) hno

theorem var_one_no (w : World) (n : Nat) (hn : 4611686018427387904 ≤ n) (hn' : n < 18446744073709551616) :
    Calls Try.prog 12 #[.slice none 0 0, .slice (some ⟨w.heap.size, 0, none⟩) 1 1] (w.alloc (.cells #[.int .u64 (n : Int)] 30)) fun e w' =>
      e = .returned (.tuple #[.slice none 0 0, .int .i64 21]) ∧ Below w.heap.size w w' := by
  refine (var_any _ _ [] [UInt64.ofNat n] _ (Rd.nil _) (lit1 w n hn') (by simp) (by simp)).mono ?_
  have hs : (UInt64.ofNat n).toNat = n := by
    rw [UInt64.toNat_ofNat', Nat.mod_eq_of_lt (by have : (2:Nat) ^ 64 = 18446744073709551616 := by decide
                                                  omega)]
  rintro e w' (⟨hall, _⟩ | ⟨_, rfl, hb⟩)
  · have := hall _ (List.mem_singleton_self _)
    unfold small at this
    omega
  · exact ⟨rfl, ((Below.refl _ _).alloc (Nat.le_refl _) _).trans (hb.mono (by simp))⟩

theorem var_int (w : World) (x : Int) (h0 : 0 ≤ x) (h1 : x < 4611686018427387904) :
    Calls Try.prog 12 #[.slice none 0 0, .slice (some ⟨w.heap.size, 0, none⟩) 1 1] (w.alloc (.cells #[.int .u64 x] 30)) fun e w' =>
      ∃ v', e = .returned (.tuple #[v', .int .i64 0]) ∧ Bs w' v' (varB x) ∧ Below w.heap.size w w' := by
  obtain ⟨n, rfl⟩ := Int.eq_ofNat_of_zero_le h0
  exact var_one w n (by omega)
theorem var_int_no (w : World) (x : Int) (h0 : 4611686018427387904 ≤ x) (h1 : x < 18446744073709551616) :
    Calls Try.prog 12 #[.slice none 0 0, .slice (some ⟨w.heap.size, 0, none⟩) 1 1] (w.alloc (.cells #[.int .u64 x] 30)) fun e w' =>
      e = .returned (.tuple #[.slice none 0 0, .int .i64 21]) ∧ Below w.heap.size w w' := by
  obtain ⟨n, rfl⟩ := Int.eq_ofNat_of_zero_le (by omega : 0 ≤ x)
  exact var_one_no w n (by omega) (by omega)
theorem var_at (w : World) (g : Nat) (hg : w.heap.size = g) (x : Int) (h0 : 0 ≤ x) (h1 : x < 4611686018427387904) :
    Calls Try.prog 12 #[.slice none 0 0, .slice (some ⟨g, 0, none⟩) 1 1] (w.alloc (.cells #[.int .u64 x] 30)) fun e w' =>
      ∃ v', e = .returned (.tuple #[v', .int .i64 0]) ∧ Bs w' v' (varB x) ∧ Below w.heap.size w w' := by
  subst hg
  exact var_int w x h0 h1
theorem var_at_no (w : World) (g : Nat) (hg : w.heap.size = g) (x : Int) (h0 : 4611686018427387904 ≤ x) (h1 : x < 18446744073709551616) :
    Calls Try.prog 12 #[.slice none 0 0, .slice (some ⟨g, 0, none⟩) 1 1] (w.alloc (.cells #[.int .u64 x] 30)) fun e w' =>
      e = .returned (.tuple #[.slice none 0 0, .int .i64 21]) ∧ Below w.heap.size w w' := by
  subst hg
  exact var_int_no w x h0 h1
theorem prefix_int (bV : Value) (bl : List UInt8) (f : Int) (n : Int) (v : Int) (w : World) (hb : Bs w bV bl) (hbl : bl.length ≤ 200000) (hf0 : 0 ≤ f) (hf1 : f < 256) (hv0 : 0 ≤ v) (hv : v < 18446744073709551616) :
    Calls Try.prog 21 #[bV, .int .u8 f, .int .i64 n, .int .u64 v] w fun e w' => ∃ v', e = .returned v' ∧ ApB w' w.heap.size v' (bl ++ pre (UInt8.ofNat f.toNat) (bitsOf n) v.toNat) ∧ Below w.heap.size w w' := by
  obtain ⟨x, rfl⟩ := Int.eq_ofNat_of_zero_le hv0
  obtain ⟨y, rfl⟩ := Int.eq_ofNat_of_zero_le hf0
  have hy : (UInt8.ofNat y).toNat = y := by rw [UInt8.toNat_ofNat', Nat.mod_eq_of_lt (by have : (2:Nat) ^ 8 = 256 := rfl; omega)]
  have := prefix_any bV bl (UInt8.ofNat y) n x w hb hbl (by omega)
  rw [hy] at this
  exact this

theorem two_bytes (w : World) : Bs (w.alloc (.cells #[.int .u8 1, .int .u8 2] 5)) (.slice (some ⟨w.heap.size, 0, none⟩) 2 2) [1, 2] :=
  Rd.lit w 5 #[.int .u8 1, .int .u8 2] 2 rfl (by simp [maxLen])

theorem varB_37 : varB 37 = [37] := by decide +kernel
theorem pre_1337 : ([] : List UInt8) ++ pre (UInt8.ofNat (Int.toNat 0)) (bitsOf 5) (Int.toNat 1337) = [31, 154, 10] := by decide +kernel
theorem rp_1337 : rp (bitsOf 5) [31, 154, 10] = (1337, 3, 0) := by decide +kernel
theorem rb_258 : ((rb (([1, 2] : List UInt8).take (Int.toNat 2)) : Nat) : Int) = 258 := by decide +kernel

set_option maxRecDepth 100000 in
set_option maxHeartbeats 1000000 in
theorem known_any (w : World) :
    Calls Try.prog 11 #[] w fun e w' => e = .returned (.bool true) ∧ Below w.heap.size w w' := by
  go_enter Try.func11, Try.ntmps11
  go_wp2_with fail
  refine (var_int w 37 (by omega) (by omega)).mono ?_
  rintro e w1 ⟨v1, rfl, h1, b1⟩
  go_wp2_with fail
  refine (var_int_no w1 4611686018427387904 (by omega) (by omega)).mono ?_
  rintro e w2 ⟨rfl, b2⟩
  go_wp2_with fail
  refine (prefix_int (.slice none 0 0) [] 0 5 1337 w2 (Rd.nil _) (by simp) (by omega) (by omega) (by omega) (by omega)).mono ?_
  rintro e w3 ⟨v3, rfl, h3, b3⟩
  rw [pre_1337] at h3
  have h3b : Bs w3 v3 [31, 154, 10] := h3.rd
  go_wp2_with fail
  refine (readPrefix_any v3 [31, 154, 10] 5 w3 h3b (by simp)).mono ?_
  rintro e w' ⟨rfl, rfl⟩
  rw [rp_1337]
  unfold Ans3
  go_wp2_with fail
  refine (readBig_ok _ [1, 2] 2 _ (two_bytes w3) (by omega) (by omega) (by simp) (by simp)).mono ?_
  rintro e w' ⟨rfl, rfl⟩
  rw [rb_258]
  rw [varB_37] at h1
  have hb3 : Below w1.heap.size w1 w3 := b2.trans (b3.mono b2.size)
  have HB := Lib.hid (b1.trans (hb3.mono b1.size))
  have hc1 := conv_str ((Rd.keep (Rd.keep h1 hb3) ((Below.refl w3.heap.size w3).alloc (Nat.le_refl _) (.cells #[.int .u8 1, .int .u8 2] 5)) : Bs _ _ _))
  have hc3 := conv_str ((Rd.keep h3b ((Below.refl w3.heap.size w3).alloc (Nat.le_refl _) (.cells #[.int .u8 1, .int .u8 2] 5)) : Bs _ _ _))
  have t1 : ((bstr [37]).toList == [37]) = true := by decide +kernel
  have t3 : ((bstr [31, 154, 10]).toList == [31, 154, 10]) = true := by decide +kernel
  clear h1 b1 b2 h3 b3 h3b hb3
  go_wp2
  go_ret
  exact ⟨rfl, HB.out.alloc HB.out.size _⟩

end Go.Proofs.Ytfhlikfjoldnfaa
