/-
  bifoldlaw3.FieldBytes answers true, whatever its arguments: the walk.
-/
import Derived.Test.YtnkbnanjbandeaaDoorLawFieldTells
import Derived.Lib.SlBytesConst
namespace Go.Proofs.YtnkbnanjbandeaaDoor
open Go.RowKit
set_option linter.unusedVariables false
set_option linter.unusedSimpArgs false

/-- The text: c at the place m, the other letters of the three. -/
def txt (m : Nat) (c : UInt8) : List UInt8 := [97, 98, 99].set m c
def KA : Array Value := #[.int .u8 97, .int .u8 98, .int .u8 99]
def WA (w : World) : World := w.alloc (.cells KA 5 (3, 4))
theorem WA_size (w : World) : (WA w).heap.size = w.heap.size + 1 := by unfold WA; simp
theorem conv_lit (w : World) : (convert 23 23 (.slice (some ⟨w.heap.size, 0, none⟩) 3 3)).run Tryd.prog (w.alloc (.cells #[.int .u8 97, .int .u8 98, .int .u8 99] 5)) = .ok (.slice (some ⟨w.heap.size, 0, none⟩) 3 3) (WA w) :=
  Lib.run_convert_bytes_const (P := Tryd.prog) w 23 5 KA 3 3 Tryd.underlying23 Tryd.underlying5
theorem WA_cell (w : World) (j : Nat) : (WA w).cell? ⟨w.heap.size, j, none⟩ = KA[j]? := World.cell?_alloc_mark w KA 5 (3, 4) j
theorem WA_frozen (w : World) (j : Nat) (h : j < 3) : (WA w).frozen? ⟨w.heap.size, j, none⟩ = false := by
  unfold WA
  rw [World.frozen?_alloc_mark, Bool.and_eq_false_iff]
  exact .inl (decide_eq_false (by omega))
theorem WS_conv (w : World) (m : Nat) (hm : m < 3) (c : UInt8) : (convert 23 9 (.slice (some ⟨w.heap.size, 0, none⟩) 3 3)).run Tryd.prog ((WA w).setCell ⟨w.heap.size, m, none⟩ (.int .u8 (c.toNat : Int))) = .ok (.string (bstr (txt m c))) ((WA w).setCell ⟨w.heap.size, m, none⟩ (.int .u8 (c.toNat : Int))) := by
  refine conv_str ⟨some ⟨w.heap.size, 0, none⟩, 3, by simp [txt], by simp [txt], by simp [maxLen], .inr ⟨_, rfl, fun j u hu => ?_⟩⟩
  rw [Addr.add_lit, Nat.zero_add]
  have hj : j < 3 := by
    rcases Nat.lt_or_ge j 3 with h | h
    · exact h
    · rw [List.getElem?_eq_none (by simp [txt]; omega)] at hu; cases hu
  have hold : ∀ i, i < 3 → ∃ v, (WA w).cell? ⟨w.heap.size, i, none⟩ = some v := fun i hi => by
    rw [WA_cell, Array.getElem?_eq_getElem (by simp [KA]; omega)]; exact ⟨_, rfl⟩
  obtain ⟨v, hv⟩ := hold m hm
  by_cases hjm : j = m
  · subst hjm
    rw [World.cell?_setCell_same (h := hv)]
    simp only [txt, List.map_set] at hu
    rw [List.getElem?_set_self (by simp; omega)] at hu
    exact hu
  · rw [World.cell?_setCell_other (h := by intro h; injection h with _ h2; exact hjm h2.symm), WA_cell]
    simp only [txt, List.map_set] at hu
    rw [List.getElem?_set_ne (by omega)] at hu
    match j, hj with
    | 0, _ => exact hu
    | 1, _ => exact hu
    | 2, _ => exact hu

theorem nameB_txt (m : Nat) (hm : m < 3) (c : UInt8) : nameB (bstr (txt m c)).data.toList = okB c := by
  show nameB (txt m c).toArray.toList = _
  have a : okB 97 = true := by decide
  have b : okB 98 = true := by decide
  have d : okB 99 = true := by decide
  match m, hm with
  | 0, _ => simp [txt, nameB, a, b, d]
  | 1, _ => simp [txt, nameB, a, b, d]
  | 2, _ => simp [txt, nameB, a, b, d]
theorem nameB_oneS (c : UInt8) : nameB (oneS c).data.toList = okB c := by
  show nameB [c] = _
  simp [nameB]
theorem valueB_txt (m : Nat) (hm : m < 3) (c : UInt8) : valueB (bstr (txt m c)).data.toList = (!brk c && !(blnk c && (m != 1))) := by
  show valueB (txt m c).toArray.toList = _
  have a : brk 97 = false := by decide
  have b : brk 98 = false := by decide
  have d : brk 99 = false := by decide
  have a2 : blnk 97 = false := by decide
  have b2 : blnk 98 = false := by decide
  have d2 : blnk 99 = false := by decide
  match m, hm with
  | 0, _ => simp [txt, valueB, a, b, d, a2, b2, d2]
  | 1, _ => simp [txt, valueB, a, b, d, a2, b2, d2]
  | 2, _ => simp [txt, valueB, a, b, d, a2, b2, d2]
theorem pseudoB_txt (m : Nat) (hm : m < 3) (c : UInt8) : pseudoB (bstr (txt m c)).data.toList = (((c.toNat : Int) == 58) && (m == 0)) := by
  show pseudoB (txt m c).toArray.toList = _
  have e : (c == 58) = ((c.toNat : Int) == 58) := by
    rw [Bool.eq_iff_iff, beq_iff_eq, beq_iff_eq, ← UInt8.toNat_inj]
    show c.toNat = 58 ↔ _
    omega
  match m, hm with
  | 0, _ => rw [← e]; simp [txt, pseudoB]
  | 1, _ => simp [txt, pseudoB]
  | 2, _ => simp [txt, pseudoB]
theorem bstr_txt_size (m : Nat) (c : UInt8) : (bstr (txt m c)).size = 3 := by
  show (txt m c).toArray.size = 3
  simp [txt]

/-- The classes of a byte. -/
theorem classes (n : Int) : n = 0 ∨ n = 10 ∨ n = 13 ∨ n = 32 ∨ n = 9 ∨ n = 58 ∨
    ((n == 0) = false ∧ (n == 10) = false ∧ (n == 13) = false ∧ (n == 32) = false ∧ (n == 9) = false ∧ (n == 58) = false ∧ (n != 0) = true ∧ (n != 10) = true ∧ (n != 13) = true) := by
  by_cases h0 : n = 0; · exact .inl h0
  by_cases h1 : n = 10; · exact .inr (.inl h1)
  by_cases h2 : n = 13; · exact .inr (.inr (.inl h2))
  by_cases h3 : n = 32; · exact .inr (.inr (.inr (.inl h3)))
  by_cases h4 : n = 9; · exact .inr (.inr (.inr (.inr (.inl h4))))
  by_cases h5 : n = 58; · exact .inr (.inr (.inr (.inr (.inr (.inl h5)))))
  refine .inr (.inr (.inr (.inr (.inr (.inr ?_)))))
  simp [h0, h1, h2, h3, h4, h5]

set_option maxRecDepth 100000 in
set_option maxHeartbeats 4000000 in
theorem fieldBytes_core (c d : UInt8) (m : Nat) (hm3 : m < 3) (hm : (d.toNat : Int) % 3 = (m : Int)) (w : World) :
    Calls Tryd.prog 5 #[.int .u8 (c.toNat : Int), .int .u8 (d.toNat : Int)] w fun e w' => e = .returned (.bool true) ∧ Below w.heap.size w w' := by
  have hc := c.toNat_lt
  have hd := d.toNat_lt
  have hq1 : ((m : Int) != 1) = (m != 1) := by rw [Bool.eq_iff_iff, bne_iff_ne, bne_iff_ne]; omega
  have hq0 : ((m : Int) == 0) = (m == 0) := by rw [Bool.eq_iff_iff, beq_iff_eq, beq_iff_eq]; omega
  have HN := Bx.mk (nameB_txt m hm3 c)
  have HV := Bx.mk (valueB_txt m hm3 c)
  have HP := Bx.mk (pseudoB_txt m hm3 c)
  have HSZ := Bx.mk (bstr_txt_size m c)
  rw [brk_eq, blnk_eq] at HV
  go_enter Tryd.func5, Tryd.ntmps5
  go_wp2_with fail
  refine (known_any w).mono ?_
  rintro e w1 ⟨rfl, b1⟩
  have k0 := conv_lit w1
  have k1 := WS_conv w1 m hm3 c
  have k2 : (WA w1).cell? ⟨w1.heap.size, m, none⟩ = some KA[m] := by rw [WA_cell]; exact Array.getElem?_eq_getElem (by simp [KA]; omega)
  have k3 := WA_frozen w1 m hm3
  have k4 := WA_size w1
  have k5 := conv_one ((WA w1).setCell ⟨w1.heap.size, m, none⟩ (.int .u8 (c.toNat : Int))) (w1.heap.size + 1) (by simp [WA_size]) c
  have hm3z : (m : Int) < 3 := by omega
  go_wp2_with fail
  refine (refName_any (oneS c) _ (by show 1 ≤ _; decide)).mono ?_
  rintro e w' ⟨rfl, hw⟩
  rw [hw, nameB_oneS]
  clear hw w' k0 k1 k2 k3 k4 k5
  have hbel : Below w.heap.size w (((WA w1).setCell ⟨w1.heap.size, m, none⟩ (.int .u8 (c.toNat : Int))).alloc (.cells #[.int .u8 (c.toNat : Int)] 5)) := by
    have hs := b1.size
    refine ((b1.alloc hs _).setCell (by simpa using hs) _).alloc (by simp; omega) _
  generalize ((WA w1).setCell ⟨w1.heap.size, m, none⟩ (.int .u8 (c.toNat : Int))).alloc (.cells #[.int .u8 (c.toNat : Int)] 5) = W2 at hbel ⊢
  generalize bstr (txt m c) = S at HN HV HP HSZ ⊢
  have HB := Bx.mk hbel
  clear hbel b1
  rcases classes (c.toNat : Int) with h | h | h | h | h | h | ⟨h0, h10, h13, h32, h9, h58, g0, g10, g13⟩
  all_goals
    try rw [h] at HV HP
    try rw [h0, h10, h13, h32, h9] at HV
    try rw [h58] at HP
    go_wp2_with fail
    refine (name_any S _ (by have := HSZ.out; omega)).mono ?_
    rintro e w' ⟨rfl, hw⟩
    rw [hw, HN.out]
    clear hw w'
    go_wp2_with fail
    refine (value_any S _ (by have := HSZ.out; omega)).mono ?_
    rintro e w3 ⟨rfl, b3⟩
    rw [HV.out]
    go_wp2_with fail
    refine (pseudo_any S _).mono ?_
    rintro e w' ⟨rfl, hw⟩
    rw [hw, HP.out]
    clear hw w'
    go_wp2
    go_ret
    exact ⟨rfl, HB.out.trans (b3.mono HB.out.size)⟩

theorem fieldBytes_walk (a0 : Int) (a1 : Int) (w0 : (Lit.int .u8 a0).wf = true) (w1 : (Lit.int .u8 a1).wf = true) (w : World) :
    Calls Tryd.prog 5 #[.int .u8 a0, .int .u8 a1] w fun e w' => e = .returned (.bool true) ∧ Below w.heap.size w w' := by
  have h0 := wf_range w0
  have h1 := wf_range w1
  simp [IntKind.min, IntKind.max, IntKind.signed, IntKind.bits] at h0 h1
  have hu : ∀ n : Int, 0 ≤ n → n ≤ 255 → ∃ c : UInt8, n = (c.toNat : Int) := fun n p q => ⟨UInt8.ofNat n.toNat, by rw [UInt8.toNat_ofNat', Nat.mod_eq_of_lt (by have : (2:Nat) ^ 8 = 256 := rfl; omega)]; omega⟩
  obtain ⟨c, rfl⟩ := hu a0 (by omega) (by omega)
  obtain ⟨d, rfl⟩ := hu a1 (by omega) (by omega)
  exact fieldBytes_core c d (d.toNat % 3) (Nat.mod_lt _ (by omega)) (by omega) w

end Go.Proofs.YtnkbnanjbandeaaDoor
