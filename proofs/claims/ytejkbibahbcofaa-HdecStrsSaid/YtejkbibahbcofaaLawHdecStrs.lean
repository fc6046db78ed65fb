/-
  bifoldlaw6.HdecStrs answers true, whatever its arguments: the walk.
-/
import Derived.Test.YtejkbibahbcofaaM25
import Derived.Test.YtejkbibahbcofaaM27
import Derived.Handy
namespace Go.Proofs.Ytejkbibahbcofaa
open Go.RowKit Go.Maps
set_option linter.unusedVariables false

theorem bstr_back (u : ByteArray) : bstr u.data.toList = u := by simp [bstr]
/-- A decoded string of few bytes. -/
theorem enc0_small (s : ByteArray) (h : s.size ≤ 300) : (enc s.data.toList 0 0).length ≤ 2000 ∧ s.data.toList.length = s.size := by
  have h1 := bitLen_le s.data.toList
  have h2 : s.data.toList.length = s.size := by simp
  rw [enc0_length]
  omega

set_option maxRecDepth 100000 in
set_option maxHeartbeats 4000000 in
/-- What stands behind both readings: the string is read back. -/
theorem hdecStrs_walk (a0 : Option Addr) (len0 cap0 : Nat) (z0 : List Int) (a1 : ByteArray) (a2 : Bool) (a3 : Option Addr) (len3 cap3 : Nat) (z3 : List Int) (w : World) (w0 : IsRow .u8 w a0 len0 cap0 z0) (w1 : a1.size ≤ maxLen) (w3 : IsRow .u8 w a3 len3 cap3 z3) :
    Calls Try.prog 5 #[.slice a0 len0 cap0, .string a1, .bool a2, .slice a3 len3 cap3] w fun e w' => e = .returned (.bool true) ∧ Below w.heap.size w w' := by
  obtain ⟨l0, hb0, hlen0⟩ := w0.bytes
  obtain ⟨l3, hb3, hlen3⟩ := w3.bytes
  have hcap0 : len0 ≤ maxLen := by have := Rd.len hb0; simpa [hlen0] using this
  have hcap3 : len3 ≤ maxLen := by have := Rd.len hb3; simpa [hlen3] using this
  unfold maxLen at hcap0 hcap3 w1
  have HB0 := Bx.mk hb0
  have HB3 := Bx.mk hb3
  have hl0 := fun ty W => HB0.out.run_len ty W
  have hl3 := fun ty W => HB3.out.run_len ty W
  rw [hlen0] at hl0
  rw [hlen3] at hl3
  have HL0 := Bx.mk hlen0
  have HL3 := Bx.mk hlen3
  clear w0 w3 hb0 hb3 hlen0 hlen3
  generalize Value.slice a0 len0 cap0 = v0 at HB0 hl0 ⊢
  generalize Value.slice a3 len3 cap3 = v3 at HB3 hl3 ⊢
  by_cases hbig0 : 200 < len0
  · have hbb : decide (200 < (len0 : Int)) = true := by rw [decide_eq_true_iff]; omega
    clear hbig0
    go_enter Try.func5, Try.ntmps5
    go_wp2_with (go_at_call 10; refine (hknown_any _).mono ?_; rintro e w1 ⟨rfl, b1⟩)
    go_ret
    exact ⟨rfl, b1⟩
  have hbb0 : decide (200 < (len0 : Int)) = false := by rw [decide_eq_false_iff_not]; omega
  by_cases hbig1 : 300 < a1.size
  · have hbb : decide (300 < (a1.size : Int)) = true := by rw [decide_eq_true_iff]; omega
    clear hbig0 hbig1
    go_enter Try.func5, Try.ntmps5
    go_wp2_with (go_at_call 10; refine (hknown_any _).mono ?_; rintro e w1 ⟨rfl, b1⟩)
    go_ret
    exact ⟨rfl, b1⟩
  have hbb1 : decide (300 < (a1.size : Int)) = false := by rw [decide_eq_false_iff_not]; omega
  by_cases hbig3 : 100 < len3
  · have hbb : decide (100 < (len3 : Int)) = true := by rw [decide_eq_true_iff]; omega
    clear hbig0 hbig1 hbig3
    go_enter Try.func5, Try.ntmps5
    go_wp2_with (go_at_call 10; refine (hknown_any _).mono ?_; rintro e w1 ⟨rfl, b1⟩)
    go_ret
    exact ⟨rfl, b1⟩
  have hbb3 : decide (100 < (len3 : Int)) = false := by rw [decide_eq_false_iff_not]; omega
  have HK : Bx (l0.length ≤ 200 ∧ a1.size ≤ 300 ∧ l3.length ≤ 100) := ⟨by have := HL0.out; have := HL3.out; omega⟩
  have HE := Bx.mk (enc0_small a1 HK.out.2.1)
  have hw1 : IntKind.u64.wrap (a1.size : Int) = (a1.size : Int) := by simp only [IntKind.wrap_u64]; omega
  obtain ⟨i0, hi, hz, hz1, hz2⟩ := info_parts infoU8
  have HI : Bx (Try.prog.info? 5 = some i0 ∧ i0.zero = some (.int .u8 0) ∧ i0.size = 1 ∧ i0.bytes = 1) := ⟨hi, hz, hz1, hz2⟩
  have HPL : Bx (∀ (f : UInt8) v, (pre f 7 v).length ≤ 11) := ⟨fun f v => (pre_len f 7 v).2⟩
  obtain ⟨x1, x2, x3, hx⟩ : ∃ x1 x2 x3, sb 7 l0 = (x1, x2, x3) := ⟨_, _, _, rfl⟩
  have HX := Bx.mk hx
  have hnes : ((bstr x1).toList == (bstr x1).toList) = true := by simp
  have hnes2 : ((bstr x1).toList != (bstr x1).toList) = false := by simp
  clear hbig0 hbig1 hbig3 hi hz hz1 hz2 hx w1
  cases a2 with
  | false =>
    go_enter Try.func5, Try.ntmps5
    go_wp2_with fail
    refine (hknown_any _).mono ?_
    rintro e w1 ⟨rfl, b1⟩
    have HB1 := Bx.mk b1
    clear b1
    go_wp2_with fail
    refine (str_any v0 l0 w1 (HB0.out.keep HB1.out) (by have := HK.out; omega)).mono ?_
    rintro e w2 ⟨rfl, b2⟩
    rw [HX.out, show AnsS (x1, x2, x3) = .returned (.tuple #[.string (bstr x1), .int .i64 x2, .int .i64 x3]) from rfl]
    have HB2 := Bx.mk (HB1.out.trans (b2.mono HB1.out.size))
    clear b2
    go_wp2_with fail
    refine (strBits_any v0 l0 7 w2 (by omega) (by omega) (HB0.out.keep HB2.out) (by have := HK.out; omega)).mono ?_
    rintro e w4 ⟨rfl, b4⟩
    rw [HX.out, show AnsS (x1, x2, x3) = .returned (.tuple #[.string (bstr x1), .int .i64 x2, .int .i64 x3]) from rfl]
    have HB4 := Bx.mk (HB2.out.trans (b4.mono HB2.out.size))
    clear b4
    go_wp2_with fail
    refine (refPrefix_own w4.heap.size _ [] 0 7 a1.size w4 (OwB.nil _ _) (Nat.le_refl _) (by simp) (by have := HK.out; omega)).mono ?_
    rintro e w5 ⟨v5, rfl, ho5, b5⟩
    rw [show bitsOf 7 = 7 from rfl, List.nil_append] at ho5
    have HO5 := Bx.mk ho5
    have HS5 := Bx.mk b5.size
    have HB5 := Bx.mk (HB4.out.trans (b5.mono HB4.out.size))
    clear ho5 b5
    go_wp2_with (first
      | (at_builtin
         refine Lib.wpList_append_own_string _ rfl _ _ 24 9 rfl w4.heap.size 5 i0 Try.underlying24 Try.underlying9 HI.out.1 HI.out.2.1 HI.out.2.2.1 HI.out.2.2.2 v5 _ _ rfl HO5.out a1 rfl (by have := HK.out; have := HPL.out 0 a1.size; unfold maxLen; rw [List.length_map]; omega) (by have := HK.out; have := HPL.out 0 a1.size; rw [List.length_map]; omega) HS5.out ?_
         intro v6 w6 ho6 hg6 _
         have HO6 : Bx (OwB w6 w4.heap.size v6 (strP a1.data.toList)) := ⟨by
           have := OwB.str ho6
           unfold strP
           rw [HE.out.2]
           exact this⟩
         have HB6 : Bx (Below w.heap.size w w6) := ⟨HB5.out.trans (((Below.refl _ _).grown hg6 HS5.out fun k hk => HO5.out.ge hk).mono HB4.out.size)⟩
         clear ho6 hg6
         have HS7 := Bx.mk (sb_plainW a1.data.toList l3 (by have := HK.out; have := HE.out; omega))
         have HL7 : Bx ((strP a1.data.toList).length ≤ 3000) := ⟨by have := HK.out; have := HE.out; have := HPL.out 0 a1.data.toList.length; unfold strP; rw [List.length_append]; omega⟩
         generalize strP a1.data.toList = cl at HO6 HS7 HL7
         have HO7 := HO6
         have HB7 := HB6
         clear HO6 HB6 HO5 HS5 HB5
         have HRB := Bx.mk HO7.out.bs
         have hlc := fun ty W => HRB.out.run_len ty W
         obtain ⟨n, hn⟩ : ∃ n, cl.length = n := ⟨_, rfl⟩
         rw [hn] at hlc
         have HN := Bx.mk hn
         have hnn : n ≤ 3000 := by have := HL7.out; omega
         have hstr : (a1.toList == a1.toList) = true := by simp
         clear hn)
      | (at_builtin
         refine wpList_append_og _ rfl _ _ 24 rfl w6.heap.size 5 i0 (.int .u8 0) 1 Try.underlying24 HI.out.1 HI.out.2.1 HI.out.2.2.1 HI.out.2.2.2 rfl _ _ _ _ rfl rfl (OwB.nil w6 w6.heap.size) HRB.out oneB (by have := HN.out; simp only [List.length_map]; simp; omega) (by have := HN.out; simp only [List.length_map]; unfold maxLen; simp; omega) (Nat.le_refl _) ?_
         intro va wa hoa hba _
         have HOA : Bx (OwB wa w6.heap.size va cl) := ⟨hoa⟩
         have HBA := Bx.mk hba
         clear hoa hba)
      | (at_builtin
         refine wpList_append_og _ rfl _ _ 24 rfl w6.heap.size 5 i0 (.int .u8 0) 1 Try.underlying24 HI.out.1 HI.out.2.1 HI.out.2.2.1 HI.out.2.2.2 rfl _ _ _ _ rfl rfl HOA.out ((HB3.out.keep HB7.out).keep HBA.out) oneB (by have := HN.out; have := HK.out; simp only [List.length_map]; omega) (by have := HN.out; have := HK.out; simp only [List.length_map]; unfold maxLen; omega) HBA.out.size ?_
         intro vb wb hob hbb _
         rw [← List.map_append] at hob
         have HOB : Bx (OwB wb w6.heap.size vb (cl ++ l3)) := ⟨hob⟩
         have HBB := Bx.mk (HBA.out.trans hbb)
         clear hob hbb)
      | (go_at_call 20
         refine (str_any vb _ wb HOB.out.bs (by have := HN.out; have := HK.out; rw [List.length_append]; omega)).mono ?_
         rintro e wc ⟨rfl, bc⟩
         rw [HS7.out, HN.out, show AnsS (a1.data.toList, (n : Int), 0) = .returned (.tuple #[.string (bstr a1.data.toList), .int .i64 (n : Int), .int .i64 0]) from rfl, bstr_back]
         have HBC := Bx.mk (HBB.out.trans (bc.mono HBB.out.size))
         clear bc))
    go_ret
    exact ⟨rfl, HB7.out.trans (HBC.out.mono HB7.out.size)⟩
  | true =>
    go_enter Try.func5, Try.ntmps5
    go_wp2_with fail
    refine (hknown_any _).mono ?_
    rintro e w1 ⟨rfl, b1⟩
    have HB1 := Bx.mk b1
    clear b1
    go_wp2_with fail
    refine (str_any v0 l0 w1 (HB0.out.keep HB1.out) (by have := HK.out; omega)).mono ?_
    rintro e w2 ⟨rfl, b2⟩
    rw [HX.out, show AnsS (x1, x2, x3) = .returned (.tuple #[.string (bstr x1), .int .i64 x2, .int .i64 x3]) from rfl]
    have HB2 := Bx.mk (HB1.out.trans (b2.mono HB1.out.size))
    clear b2
    go_wp2_with fail
    refine (strBits_any v0 l0 7 w2 (by omega) (by omega) (HB0.out.keep HB2.out) (by have := HK.out; omega)).mono ?_
    rintro e w4 ⟨rfl, b4⟩
    rw [HX.out, show AnsS (x1, x2, x3) = .returned (.tuple #[.string (bstr x1), .int .i64 x2, .int .i64 x3]) from rfl]
    have HB4 := Bx.mk (HB2.out.trans (b4.mono HB2.out.size))
    clear b4
    go_wp2_with fail
    refine (refPrefix_own w4.heap.size _ [] 0 7 a1.size w4 (OwB.nil _ _) (Nat.le_refl _) (by simp) (by have := HK.out; omega)).mono ?_
    rintro e w5 ⟨v5, rfl, ho5, b5⟩
    rw [show bitsOf 7 = 7 from rfl, List.nil_append] at ho5
    have HO5 := Bx.mk ho5
    have HS5 := Bx.mk b5.size
    have HB5 := Bx.mk (HB4.out.trans (b5.mono HB4.out.size))
    clear ho5 b5
    go_wp2_with (at_builtin; refine Lib.wpList_append_own_string _ rfl _ _ 24 9 rfl w4.heap.size 5 i0 Try.underlying24 Try.underlying9 HI.out.1 HI.out.2.1 HI.out.2.2.1 HI.out.2.2.2 v5 _ _ rfl HO5.out a1 rfl (by have := HK.out; have := HPL.out 0 a1.size; unfold maxLen; rw [List.length_map]; omega) (by have := HK.out; have := HPL.out 0 a1.size; rw [List.length_map]; omega) HS5.out ?_; intro v6 w6 ho6 hg6 _)
    have HO6 : Bx (OwB w6 w4.heap.size v6 (strP a1.data.toList)) := ⟨by
      have := OwB.str ho6
      unfold strP
      rw [HE.out.2]
      exact this⟩
    have HB6 : Bx (Below w.heap.size w w6) := ⟨HB5.out.trans (((Below.refl _ _).grown hg6 HS5.out fun k hk => HO5.out.ge hk).mono HB4.out.size)⟩
    clear ho6 hg6
    clear HO6 HO5 HS5 HB5
    go_wp2_with fail
    refine (huffman_own w6.heap.size _ [] a1 w6 (OwB.nil _ _) (Nat.le_refl _) (by simp) (by have := HK.out; omega)).mono ?_
    rintro e w7 ⟨v7, rfl, ho7, b7⟩
    rw [List.nil_append] at ho7
    have HH := Bx.mk ho7.bs
    have HBH := Bx.mk (HB6.out.trans (b7.mono HB6.out.size))
    have hlh := fun ty W => HH.out.run_len ty W
    obtain ⟨m, hm⟩ : ∃ m, (enc a1.data.toList 0 0).length = m := ⟨_, rfl⟩
    rw [hm] at hlh
    have hm2 : m ≤ 2000 := by have := HE.out.1; omega
    have hwm : IntKind.u64.wrap (m : Int) = (m : Int) := by simp only [IntKind.wrap_u64]; omega
    have HM := Bx.mk hm
    clear ho7 b7 hm
    go_wp2_with fail
    refine (refPrefix_own w7.heap.size _ [] 128 7 m w7 (OwB.nil _ _) (Nat.le_refl _) (by simp) (by omega)).mono ?_
    rintro e w8 ⟨v8, rfl, ho8, b8⟩
    rw [show bitsOf 7 = 7 from rfl, List.nil_append] at ho8
    have HO8 := Bx.mk ho8
    have HS8 := Bx.mk b8.size
    have HB8 := Bx.mk (HBH.out.trans (b8.mono HBH.out.size))
    have HH8 := Bx.mk (HH.out.keep b8)
    clear ho8 b8
    go_wp2_with (first
      | (at_builtin
         refine wpList_append_og _ rfl _ _ 24 rfl w7.heap.size 5 i0 (.int .u8 0) 1 Try.underlying24 HI.out.1 HI.out.2.1 HI.out.2.2.1 HI.out.2.2.2 rfl _ _ _ _ rfl rfl HO8.out HH8.out oneB (by have := HM.out; have := HPL.out 128 m; simp only [List.length_map]; omega) (by have := HM.out; have := HPL.out 128 m; simp only [List.length_map]; unfold maxLen; omega) HS8.out ?_
         intro v9 w9 ho9 hb9 _
         rw [← List.map_append] at ho9
         have HO7 : Bx (OwB w9 w7.heap.size v9 (strH a1.data.toList)) := ⟨by
           unfold strH
           rw [HM.out]
           exact ho9⟩
         have HB7 : Bx (Below w.heap.size w w9) := ⟨HB8.out.trans (hb9.mono HBH.out.size)⟩
         have HS7 := Bx.mk (sb_codedW a1.data.toList l3 (by have := HK.out; have := HE.out; omega) (by have := HE.out; omega))
         have HL7 : Bx ((strH a1.data.toList).length ≤ 3000) := ⟨by have := HK.out; have := HE.out; have := HPL.out 128 (enc a1.data.toList 0 0).length; unfold strH; rw [List.length_append]; omega⟩
         generalize strH a1.data.toList = cl at HO7 HS7 HL7
         clear ho9 hb9 HO8 HS8 HB8 HH8 HH HBH hlh HM
         have HRB := Bx.mk HO7.out.bs
         have hlc := fun ty W => HRB.out.run_len ty W
         obtain ⟨n, hn⟩ : ∃ n, cl.length = n := ⟨_, rfl⟩
         rw [hn] at hlc
         have HN := Bx.mk hn
         have hnn : n ≤ 3000 := by have := HL7.out; omega
         have hstr : (a1.toList == a1.toList) = true := by simp
         clear hn)
      | (at_builtin
         refine wpList_append_og _ rfl _ _ 24 rfl w9.heap.size 5 i0 (.int .u8 0) 1 Try.underlying24 HI.out.1 HI.out.2.1 HI.out.2.2.1 HI.out.2.2.2 rfl _ _ _ _ rfl rfl (OwB.nil w9 w9.heap.size) HRB.out oneB (by have := HN.out; simp only [List.length_map]; simp; omega) (by have := HN.out; simp only [List.length_map]; unfold maxLen; simp; omega) (Nat.le_refl _) ?_
         intro va wa hoa hba _
         have HOA : Bx (OwB wa w9.heap.size va cl) := ⟨hoa⟩
         have HBA := Bx.mk hba
         clear hoa hba)
      | (at_builtin
         refine wpList_append_og _ rfl _ _ 24 rfl w9.heap.size 5 i0 (.int .u8 0) 1 Try.underlying24 HI.out.1 HI.out.2.1 HI.out.2.2.1 HI.out.2.2.2 rfl _ _ _ _ rfl rfl HOA.out ((HB3.out.keep HB7.out).keep HBA.out) oneB (by have := HN.out; have := HK.out; simp only [List.length_map]; omega) (by have := HN.out; have := HK.out; simp only [List.length_map]; unfold maxLen; omega) HBA.out.size ?_
         intro vb wb hob hbb _
         rw [← List.map_append] at hob
         have HOB : Bx (OwB wb w9.heap.size vb (cl ++ l3)) := ⟨hob⟩
         have HBB := Bx.mk (HBA.out.trans hbb)
         clear hob hbb)
      | (go_at_call 20
         refine (str_any vb _ wb HOB.out.bs (by have := HN.out; have := HK.out; rw [List.length_append]; omega)).mono ?_
         rintro e wc ⟨rfl, bc⟩
         rw [HS7.out, HN.out, show AnsS (a1.data.toList, (n : Int), 0) = .returned (.tuple #[.string (bstr a1.data.toList), .int .i64 (n : Int), .int .i64 0]) from rfl, bstr_back]
         have HBC := Bx.mk (HBB.out.trans (bc.mono HBB.out.size))
         clear bc))
    go_ret
    exact ⟨rfl, HB7.out.trans (HBC.out.mono HB7.out.size)⟩

end Go.Proofs.Ytejkbibahbcofaa
